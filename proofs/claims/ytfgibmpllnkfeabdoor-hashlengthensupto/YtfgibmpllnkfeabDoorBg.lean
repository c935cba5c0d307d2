/-
  The first words; laws on regions that draw their order.
-/
import Derived.Test.YtfgibmpllnkfeabDoorComp
namespace Go.Proofs.YtfgibmpllnkfeabDoor
open Go.RowKit
set_option linter.unusedVariables false

/-- The first words. -/
def bL : List Int := [1779033703, 3144134277, 1013904242, 2773480762, 1359893119, 2600822924, 528734635, 1541459225]

set_option maxHeartbeats 1000000 in
theorem begin_any (w : World) : Calls Tryd.prog 20 #[] w fun e w' => e = .returned (.agg (u32s bL).toArray) ∧ Below w.heap.size w w' := by
  go_enter Tryd.func20, Tryd.ntmps20
  go_wp2_with (refine step_alloc zW rfl ?_)
  intro w1 g1 hg1 hle1 hb1
  go_wp2_with (first | (refine step_storeA (vs := u32s bL) wW rfl rfl rfl hg1 rfl (One.u32 _) rfl ?_; intro w2 hg2 hbut2) | (refine step_run rfl (.agg (u32s bL).toArray) _ (by kernel_rfl) ?_))
  refine bodyPost_ret (results_wide rfl wW _ _ rfl hg2 rfl) rfl ⟨rfl, ?_⟩
  exact hb1.trans (hbut2.below hle1)

theorem load_wide {T : TypeId} {n : Nat} (hT : Wide T n) {w : World} {g : Nat} {t : TypeId} {cs : List Value} (hg : Blk w g t cs) (hn : cs.length = n) : (Instr.loadAt T (.pointer (some ⟨g, 0, none⟩))).run Tryd.prog w = .ok (.agg cs.toArray) w := by
  obtain ⟨d, hu, hd⟩ := hT.und
  exact run_loadAt_mid w g 0 T cs d (hg.range 0 cs (by simp)) hu hd (by rw [hT.size, hn])
theorem run_eqT {dst : Option Tmp} {ty : TypeId} {pos : String} {aft : Array Edge} {gd : Option (Nat × Bool)} {a : Act} {w : World} {T E : TypeId} {k : IntKind} {n : Nat} (hA : Arr T E k n) (t' : TypeId) {x y : Operand} {xs : List Int} (hx : a.eval x = .agg (xs.map (Value.int k)).toArray) (hy : a.eval y = .agg (xs.map (Value.int k)).toArray) (hl : xs.length = n) :
    (execOp a.eval ⟨dst, .binOp .eql T x y t', ty, pos, aft, gd⟩).run Tryd.prog w = .ok (.value (.bool true)) w := by
  rw [run_eqA hA t' hx hy hl hl]
  simp

section
variable {P : Program} {ops : Array Oper} {Q : Exit → Act → World → Prop} {md : Region.Mode} {S : World → Prop}
/-- An operation of a region that yields v in every world that meets S is taken first; its slot is named. -/
theorem takeH (i : Nat) (t : Tmp) (v : Value) {oi : Oper} {fuel : Nat} {listed : Array Bool} {a : Act} {w : World} (hS : S w) (hi : ops[i]? = some oi) (hd : oi.dst = some t)
    (hs : Region.noSelect ops = true) (hf : Region.free md ops listed i = true) (hr : (Region.ready md ops listed).contains i = true)
    (hQ : ∀ c a w, Q (.panic c) (a.put oi.dst v) w → Q (.panic c) a w) (hy : YieldsIf P ops S oi v a)
    (h : wpAnyH P md ops Q S fuel (listed.setIfInBounds i true) (a.put (some t) v) w) : wpAnyH P md ops Q S (fuel + 1) listed a w :=
  wpAnyH_take hi hs hf hr hQ hy hS (by rw [hd]; exact h)
end

end Go.Proofs.YtfgibmpllnkfeabDoor
