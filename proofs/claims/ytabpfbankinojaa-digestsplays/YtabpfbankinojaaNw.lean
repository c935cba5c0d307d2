/-
  Laws on operations of a region and on results of two parts, where the seat knows no bytes (else Sc has them).
-/
import Derived.Test.YtabpfbankinojaaMc
namespace Go.Proofs.Ytabpfbankinojaa
open Go.RowKit
set_option linter.unusedVariables false

theorem results_wide2 {fn : Func} {p u : Tmp} {T : TypeId} (h : fn.results = #[.cell p T, .tmp u]) {n : Nat} (hT : Wide T n) (tmps : Array Value) (w : World)
    {g : Nat} {t : TypeId} {cs : List Value} (hp : tmps.getD p undef = .pointer (some ⟨g, 0, none⟩)) (hg : Blk w g t cs) (hl : cs.length = n) :
    (results fn tmps).run Try.prog w = .ok (.tuple #[.agg cs.toArray, tmps.getD u undef]) w := by
  have hp' : tmps[p]?.getD undef = .pointer (some ⟨g, 0, none⟩) := by simpa using hp
  obtain ⟨d, hu, hd⟩ := hT.und
  simp [results, h, hp', asAddr, run_loadVar_mid w g 0 T cs d (hg.range 0 cs (by simp)) hu hd (by rw [hT.size, hl])]
theorem run_op {o : Oper} {a : Act} {w : World} {M : Sem Value} {v : Value} (h : execOp a.eval o = (do let x ← M; pure (.value x))) (hM : M.run Try.prog w = .ok v w) : (execOp a.eval o).run Try.prog w = .ok (.value v) w := by
  rw [h]
  simp only [Sem.run_bind, hM, Result.andThen_ok, Sem.run_pure]
section
variable {dst : Option Tmp} {ty : TypeId} {pos : String} {aft : Array Edge} {gd : Option (Nat × Bool)} {a : Act} {w : World} {K : Act → World → Prop} {Q : Exit → Act → World → Prop}
theorem wp_runV {P : Program} {o : Oper} (v : Value) (w' : World) (hrun : (execOp a.eval o).run P w = .ok (.value v) w') (h : K (a.put o.dst v) w') : Oper.wp P o a w K Q := by
  unfold Oper.wp
  rw [hrun, Oper.upon_value]
  exact h
end
theorem cell_kept {w w' : World} {x : Addr} {v : Value} (h : w.cell? x = some v) (hb : Below w.heap.size w w') : w'.cell? x = some v := by
  rw [hb.cell (World.block_lt_of_cell? w _ h)]; exact h
/-- The cells of a pair of numbers. -/
def c2 (a b : Int) : List Value := [.int .i64 a, .int .i64 b]
theorem One.c2 (a b : Int) : One (c2 a b) := by intro v hv; simp [Go.Proofs.Ytabpfbankinojaa.c2] at hv; rcases hv with rfl | rfl <;> rfl
theorem Blk.two {w : World} {g : Nat} {t : TypeId} {a b : Int} (h : Blk w g t (c2 a b)) : w.cell? ⟨g, 0, none⟩ = some (.int .i64 a) ∧ w.cell? ⟨g, 1, none⟩ = some (.int .i64 b) := ⟨by rw [h.cell]; rfl, by rw [h.cell]; rfl⟩
theorem Blk.on {w w' : World} {g : Nat} {t : TypeId} {cs : List Value} (h : Blk w g t cs) (hb : Below w.heap.size w w') : Blk w' g t cs := h.below hb h.lt
theorem below_drew {n : Nat} {w w' : World} (h : Below n w w') : Below n w w'.drew := h.trans ⟨rfl, rfl, rfl, Nat.le_refl _, fun _ _ => rfl⟩
theorem below_drews {n : Nat} {w w' : World} (h : Below n w w') (k : Nat) : Below n w (w'.drewN k) := h.trans ⟨rfl, rfl, rfl, Nat.le_refl _, fun _ _ => rfl⟩

theorem Blk.grew {w w' : World} {g : Nat} {t : TypeId} {cs : List Value} {row : Option Nat} (h : Blk w g t cs) (hg : w.grownBy w' row) (hr : row ≠ some g) : Blk w' g t cs := by
  unfold Blk
  rw [hg.block g h.lt (fun e => hr e.symm)]
  exact h
/-- Blocks that hold these cells. -/
def Bs (w : World) (l : List (Nat × TypeId × List Value)) : Prop := ∀ x ∈ l, Blk w x.1 x.2.1 x.2.2
theorem Bs.nil (w : World) : Bs w [] := fun _ h => by cases h
theorem Bs.on {w w' : World} {l : List (Nat × TypeId × List Value)} (h : Bs w l) (hb : Below w.heap.size w w') : Bs w' l := fun x hx => (h x hx).on hb
theorem Bs.push {w : World} {l : List (Nat × TypeId × List Value)} {g : Nat} {t : TypeId} {cs : List Value} (h : Bs w l) (hg : Blk w g t cs) : Bs w ((g, t, cs) :: l) := fun x hx => by
  rcases List.mem_cons.1 hx with rfl | hx
  · exact hg
  · exact h x hx
theorem Bs.at {w : World} {l : List (Nat × TypeId × List Value)} (h : Bs w l) (i : Nat) {x : Nat × TypeId × List Value} (hx : l[i]? = some x) : Blk w x.1 x.2.1 x.2.2 := h x (List.mem_of_getElem? hx)
/-- A new one is made and filled. -/
theorem Bs.new {w w1 w2 : World} {l : List (Nat × TypeId × List Value)} {g : Nat} {t : TypeId} {cs : List Value} (h : Bs w l) (hb : Below w.heap.size w w1) (hle : w.heap.size ≤ g) (hg : Blk w2 g t cs) (hbut : But g w1 w2) : Bs w2 ((g, t, cs) :: l) :=
  Bs.push (fun x hx => ((h x hx).on hb).but hbut (by have := (h x hx).lt; omega)) hg
theorem new_below {w0 w w1 w2 : World} {g : Nat} (h0 : Below w0.heap.size w0 w) (hb : Below w.heap.size w w1) (hle : w.heap.size ≤ g) (hbut : But g w1 w2) : Below w0.heap.size w0 w2 :=
  (h0.trans (hb.mono h0.size)).trans (hbut.below (Nat.le_trans h0.size hle))
theorem on_below {w0 w w1 : World} (h0 : Below w0.heap.size w0 w) (hb : Below w.heap.size w w1) : Below w0.heap.size w0 w1 := h0.trans (hb.mono h0.size)

/-- The worlds that leave what lay in w as it was. -/
structure Sub (w : World) where
  v : World
  bel : Below w.heap.size w v
theorem Sub.one (w : World) : Nonempty (Sub w) := ⟨⟨w, Below.refl _ _⟩⟩
theorem Sub.cell {w : World} {x : Addr} {v : Value} (h : w.cell? x = some v) (u : Sub w) : u.v.cell? x = some v := cell_kept h u.bel
theorem sub_call {P : Program} {f : FuncId} {args : Array Value} {w : World} {u : Sub w} {v : Value} (h : Calls P f args u.v fun e w' => e = .returned v ∧ Below u.v.heap.size u.v w') :
    Calls P f args u.v fun e w'' => e = .returned v ∧ ∃ u' : Sub w, w'' = u'.v :=
  h.mono fun _ w'' ⟨he, hb⟩ => ⟨he, ⟨w'', u.bel.trans (hb.mono u.bel.size)⟩, rfl⟩
theorem wp_region_sub {P : Program} {id : Nat} {Q : Exit → Act → World → Prop} {a : Act} {w : World} {l : List Oper} (hm : P.follows .mixedOrders = true) (hB : Region.lexB .any l.toArray = true)
    (h : wpQuiet P l.toArray (fun w' => ∃ u : Sub w, w' = u.v) (fun a' => ∀ w', (∃ u : Sub w, w' = u.v) → Q .normal a' w') l a) : (Code.region id l.toArray true).wp P Q a w :=
  wp_region_quiet (C := fun w' => ∃ u : Sub w, w' = u.v) hm hB ⟨⟨w.drew, (Below.refl _ _).drew⟩, rfl⟩ (by simpa using h)

end Go.Proofs.Ytabpfbankinojaa
