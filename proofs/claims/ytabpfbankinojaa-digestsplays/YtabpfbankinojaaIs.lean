/-
  Steps of a walk inside a round of a range over a function.
-/
import Derived.Test.YtabpfbankinojaaNw
import Derived.RangeFuncNested
import Derived.RangeFuncBound
import Derived.RangeFuncCalls
import Derived.RangeFuncLeaves
import Derived.Shelf.Abstract
import Derived.Shelf.RegionOpen
import Derived.WalkKit
import Derived.OwnWalkIn
import Derived.TacticsInMore
import Derived.LoopNIn
import Derived.LoopIn
namespace Go.Proofs.Ytabpfbankinojaa
open Go.RowKit Go.Shelf
set_option linter.unusedVariables false

/-- The fence that shuts nothing out, inside a round or not. -/
def WideF (F : Fence) : Prop := F = Fence.wide ∨ ∃ l, F = Fence.wide.inRound l
theorem WideF.wide : WideF Fence.wide := .inl rfl
theorem WideF.round (l : Nat) : WideF (Fence.wide.inRound l) := .inr ⟨l, rfl⟩
theorem WideF.fn {F : Fence} (h : WideF F) (f : FuncId) : F.fn f := by rcases h with rfl | ⟨l, rfl⟩ <;> trivial
theorem WideF.depth {F : Fence} (h : WideF F) : F.depth = none := by rcases h with rfl | ⟨l, rfl⟩ <;> rfl
theorem calls_round {F : Fence} {n : Nat} {P : Program} {f : FuncId} {args : Array Value} {w : World} {R : Ending → World → Prop} (hF : WideF F) (h : Calls P f args w R) : CallsIn F n P f args w R := by
  rcases hF with rfl | ⟨l, rfl⟩
  · exact (callsIn_wide (n := n)).2 h
  · exact (callsIn_wide (n := n)).2 h

/-- What an operation does inside a round is what it does everywhere. -/
theorem lift_op {F : Fence} {n : Nat} {P : Program} {o : Oper} {a : Act} {w : World} {K : Act → World → Prop} {Q : Exit → Act → World → Prop} (hF : WideF F) (hd : ∀ c, o.op ≠ .defer c) (h : Oper.wp P o a w K Q) : Oper.wpIn F n P o a w K Q := by
  refine ⟨fun f hf => hF.fn f, ?_⟩
  rw [Oper.semAt_plain _ _ _ hd]
  unfold Oper.wp at h
  cases hr : (execOp a.eval o).run P w with
  | ok r w' =>
    rw [hr] at h
    cases r with
    | enter f args => exact ⟨(fun hx => by rw [hF.depth] at hx; cases hx), calls_round hF h⟩
    | round => exact h.elim
    | row row args => 
      refine ⟨(fun hx => by rw [hF.depth] at hx; cases hx), ?_⟩
      rcases hF with rfl | ⟨l, rfl⟩
      · exact fun c cs _ => let ⟨v, w', r, s⟩ := h c cs; ⟨v, w', r, stepsIn_wide.2 s⟩
      · exact fun c cs _ => let ⟨v, w', r, s⟩ := h c cs; ⟨v, w', r, stepsIn_wide.2 s⟩
    | _ => exact h
  | halt x w' =>
    rw [hr] at h
    cases x <;> exact h

section
variable {F : Fence} {n : Nat} {dst : Option Tmp} {ty : TypeId} {pos : String} {aft : Array Edge} {gd : Option (Nat × Bool)} {ops : Array Oper} {rest : List Oper} {a : Act} {w : World} {Q : Exit → Act → World → Prop}
theorem istep {P : Program} {o : Oper} (hF : WideF F) (hd : ∀ c, o.op ≠ .defer c) (hw : Region.wanted o (yielded ops a.tmps) = true)
    (h : ∀ K : Act → World → Prop, (∀ a w, wpListIn F n P ops Q rest a w → K a w) → Oper.wp P o a w K Q) : wpListIn F n P ops Q (o :: rest) a w :=
  BigFrame.wpListIn_want hw fun K hK => lift_op hF hd (h K hK)
theorem istep_run {P : Program} {o : Oper} (hF : WideF F) (hd : ∀ c, o.op ≠ .defer c) (hw : Region.wanted o (yielded ops a.tmps) = true) (v : Value) (w' : World) (hrun : (execOp a.eval o).run P w = .ok (.value v) w')
    (h : wpListIn F n P ops Q rest (a.put o.dst v) w') : wpListIn F n P ops Q (o :: rest) a w :=
  istep hF hd hw fun K hK => by
    unfold Oper.wp
    rw [hrun, Oper.upon_value]
    exact hK _ _ h
theorem istep_alloc (hF : WideF F) {T : TypeId} {cs : List Value} (hz : Zeroed T cs) (hw : Region.wanted ⟨dst, .alloc T, ty, pos, aft, gd⟩ (yielded ops a.tmps) = true)
    (h : ∀ w1 g, Blk w1 g T cs → w.heap.size ≤ g → Below w.heap.size w w1 → wpListIn F n Try.prog ops Q rest (a.put dst (.pointer (some ⟨g, 0, none⟩))) w1) :
    wpListIn F n Try.prog ops Q (⟨dst, .alloc T, ty, pos, aft, gd⟩ :: rest) a w :=
  istep_run hF (fun c => by simp) hw _ _ (hz a.eval dst ty pos aft gd w) (h _ _ (Blk.made _ _ _) (Nat.le_refl _) ((Below.refl _ _).alloc (Nat.le_refl _) _))
theorem istep_load (hF : WideF F) {T : TypeId} {k : Nat} (hT : Wide T k) {x : Operand} (hw : Region.wanted ⟨dst, .load T x, ty, pos, aft, gd⟩ (yielded ops a.tmps) = true) {g off : Nat} {t : TypeId} {cs : List Value} (hx : a.eval x = .pointer (some ⟨g, off, none⟩)) (hg : Blk w g t cs)
    (vs : List Value) (hn : vs.length = k) (he : (cs.drop off).take k = vs) (h : wpListIn F n Try.prog ops Q rest (a.put dst (.agg vs.toArray)) w) :
    wpListIn F n Try.prog ops Q (⟨dst, .load T x, ty, pos, aft, gd⟩ :: rest) a w :=
  istep hF (fun c => by simp) hw fun _ hK => wp_loadW hT rfl hx hg vs hn he (hK _ _ h)
theorem istep_loadA (hF : WideF F) {T : TypeId} {k : Nat} (hT : Wide T k) {x : Operand} (hw : Region.wanted ⟨dst, .load T x, ty, pos, aft, gd⟩ (yielded ops a.tmps) = true) {g : Nat} {t : TypeId} {cs : List Value} (hx : a.eval x = .pointer (some ⟨g, 0, none⟩)) (hg : Blk w g t cs)
    (hn : cs.length = k) (h : wpListIn F n Try.prog ops Q rest (a.put dst (.agg cs.toArray)) w) :
    wpListIn F n Try.prog ops Q (⟨dst, .load T x, ty, pos, aft, gd⟩ :: rest) a w :=
  istep_load hF hT hw hx hg cs hn (by rw [List.drop_zero, List.take_of_length_le (by omega)]) h
theorem istep_storeA (hF : WideF F) {T : TypeId} {k : Nat} (hT : Wide T k) {x y : Operand} (hw : Region.wanted ⟨dst, .store T x y, ty, pos, aft, gd⟩ (yielded ops a.tmps) = true) {g : Nat} {t : TypeId} {cs vs : List Value} (hx : a.eval x = .pointer (some ⟨g, 0, none⟩)) (hy : a.eval y = .agg vs.toArray) (hg : Blk w g t cs)
    (hn : vs.length = k) (h1 : One vs) (hl : cs.length = k) (h : ∀ w1, Blk w1 g t vs → But g w w1 → wpListIn F n Try.prog ops Q rest (a.put dst undef) w1) :
    wpListIn F n Try.prog ops Q (⟨dst, .store T x y, ty, pos, aft, gd⟩ :: rest) a w :=
  istep hF (fun c => by simp) hw fun _ hK => wp_storeW hT rfl hx hy hg hn h1 (by omega) fun w1 hb hbut => hK _ _ (h w1 (by
    have e : spl cs vs 0 = vs := by
      unfold spl
      rw [List.drop_of_length_le (by omega)]
      simp
    rwa [e] at hb) hbut)
theorem istep_loadR (hF : WideF F) {T : TypeId} {k : Nat} (hT : Wide T k) {x : Operand} (hw : Region.wanted ⟨dst, .load T x, ty, pos, aft, gd⟩ (yielded ops a.tmps) = true) {g off : Nat} (hx : a.eval x = .pointer (some ⟨g, off, none⟩))
    (vs : List Value) (hr : w.rangeAt g off vs) (hn : vs.length = k) (h : wpListIn F n Try.prog ops Q rest (a.put dst (.agg vs.toArray)) w) :
    wpListIn F n Try.prog ops Q (⟨dst, .load T x, ty, pos, aft, gd⟩ :: rest) a w := by
  refine istep hF (fun c => by simp) hw fun _ hK => ?_
  obtain ⟨d, hu, hd⟩ := hT.und
  subst hn
  exact wp_load_mid T x rfl g off hx vs d hr hu hd hT.size (hK _ _ h)
end

end Go.Proofs.Ytabpfbankinojaa
