/-
  Laws on operations of a region, on slices b[k:] and b[:k], on results of two parts.
-/
import Derived.Test.YtnlpgkfmjlljdaaDoorTake
namespace Go.Proofs.YtnlpgkfmjlljdaaDoor
open Go.RowKit
set_option linter.unusedVariables false

theorem results_wide2 {fn : Func} {p u : Tmp} {T : TypeId} (h : fn.results = #[.cell p T, .tmp u]) {n : Nat} (hT : Wide T n) (tmps : Array Value) (w : World)
    {g : Nat} {t : TypeId} {cs : List Value} (hp : tmps.getD p undef = .pointer (some ⟨g, 0, none⟩)) (hg : Blk w g t cs) (hl : cs.length = n) :
    (results fn tmps).run Tryd.prog w = .ok (.tuple #[.agg cs.toArray, tmps.getD u undef]) w := by
  have hp' : tmps[p]?.getD undef = .pointer (some ⟨g, 0, none⟩) := by simpa using hp
  obtain ⟨d, hu, hd⟩ := hT.und
  simp [results, h, hp', asAddr, run_loadVar_mid w g 0 T cs d (hg.range 0 cs (by simp)) hu hd (by rw [hT.size, hl])]

theorem run_op {o : Oper} {a : Act} {w : World} {M : Sem Value} {v : Value} (h : execOp a.eval o = (do let x ← M; pure (.value x))) (hM : M.run Tryd.prog w = .ok v w) : (execOp a.eval o).run Tryd.prog w = .ok (.value v) w := by
  rw [h]
  simp only [Sem.run_bind, hM, Result.andThen_ok, Sem.run_pure]

/-- b[k:], b[:k] -/
theorem sl_from (g n cap k : Nat) (K : Int) (hK : K = (k : Int)) (hk : k ≤ n) (hc : n ≤ cap) : ∃ a', (∀ v : World, (Instr.slice 36 (.slice (some ⟨g, 0, none⟩) n cap) (some (.int .i64 K)) none none).run Tryd.prog v = .ok (.slice a' (n - k) (cap - k)) v) ∧
    (∀ (w' : World) (z : List Int), Sl w' (some ⟨g, 0, none⟩) n cap z → Sl w' a' (n - k) (cap - k) (z.drop k)) ∧ ∀ x, a' = some x → x.block = g := by
  subst hK
  by_cases h : k < cap
  · refine ⟨some ⟨g, 0 + k, none⟩, fun v => ?_, fun w' z hs => hs.drop k hk, fun x hx => by cases hx; rfl⟩
    rw [run_slice_l v _ _ _ _ und22 .i64 k (by omega) (by omega), elem22, sizeB]
    have : ¬ cap = k := by omega
    simp [sliced, this, Addr.add_lit]
  · obtain rfl : k = cap := by omega
    obtain rfl : n = k := by omega
    refine ⟨some ⟨g, 0, none⟩, fun v => ?_, fun w' z hs => ⟨by rw [List.length_drop, hs.hlen], by omega, by omega, by omega, hs.hbyte.drop _, (fun e => by cases e), fun h0 => by omega⟩, fun x hx => by cases hx; rfl⟩
    rw [run_slice_l v _ _ _ _ und22 .i64 n (by omega) (by omega), elem22, sizeB]
    simp [sliced]
theorem sl_to (g n cap k : Nat) (K : Int) (hK : K = (k : Int)) (hk : k ≤ cap) (v : World) :
    (Instr.slice 36 (.slice (some ⟨g, 0, none⟩) n cap) none (some (.int .i64 K)) none).run Tryd.prog v = .ok (.slice (some ⟨g, 0, none⟩) k cap) v := by
  subst hK
  rw [run_slice_h v _ _ _ _ und22 .i64 k (by omega) (by omega), elem22, sizeB]
  simp [sliced, Addr.add_lit]

section
variable {dst : Option Tmp} {ty : TypeId} {pos : String} {aft : Array Edge} {gd : Option (Nat × Bool)} {a : Act} {w : World} {K : Act → World → Prop} {Q : Exit → Act → World → Prop}
theorem wp_runV {P : Program} {o : Oper} (v : Value) (w' : World) (hrun : (execOp a.eval o).run P w = .ok (.value v) w') (h : K (a.put o.dst v) w') : Oper.wp P o a w K Q := by
  unfold Oper.wp
  rw [hrun, Oper.upon_value]
  exact h
set_option maxRecDepth 100000 in
theorem wp_boxG {T : TypeId} {x : Operand} {cs : List Value} (hx : a.eval x = .agg cs.toArray) (h : ∀ w1 g, Blk w1 g T cs → w.heap.size ≤ g → Below w.heap.size w w1 → K (a.put dst (.pointer (some ⟨g, 0, none⟩))) w1) :
    Oper.wp Tryd.prog ⟨dst, .box T x, ty, pos, aft, gd⟩ a w K Q :=
  wp_runV (.pointer (some ⟨w.heap.size, 0, none⟩)) (w.alloc (.cells cs.toArray T)) (by simp [execOp, hx, Instr.box, newVar, newRow, Result.andThen, Value.cells])
    (h _ _ (Blk.made _ _ _) (Nat.le_refl _) ((Below.refl _ _).alloc (Nat.le_refl _) _))
end

end Go.Proofs.YtnlpgkfmjlljdaaDoor
