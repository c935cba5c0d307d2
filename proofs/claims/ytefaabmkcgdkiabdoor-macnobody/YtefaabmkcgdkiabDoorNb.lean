/-
  Keyed digests that no call made, and the walk of MacNobody.
-/
import Derived.Test.YtefaabmkcgdkiabDoorTy
namespace Go.Proofs.YtefaabmkcgdkiabDoor
open Go.RowKit
set_option linter.unusedVariables false

theorem hmade_nil (w : World) : Calls Tryd.prog 21 #[.pointer none] w fun e w' => e = .returned (.bool false) ∧ w = w' := by
  go_enter Tryd.func21, Tryd.ntmps21
  go_wp2
  go_ret
  exact ⟨rfl, rfl⟩
theorem hlen_nil (w : World) : Calls Tryd.prog 20 #[.pointer none] w fun e w' => e = .returned (.int .i64 0) ∧ w = w' := by
  go_enter Tryd.func20, Tryd.ntmps20
  go_wp2_with (go_at_call 21; refine (hmade_nil _).mono ?_; rintro e w' ⟨rfl, rfl⟩)
  go_ret
  exact ⟨rfl, rfl⟩

/-- A keyed digest that no call made: nil, or one without a state. -/
def KNob (w : World) (p : Value) : Prop :=
  p = .pointer none ∨ ∃ g : Nat, p = .pointer (some ⟨g, 0, none⟩) ∧ w.cell? ⟨g, 0, none⟩ = some (.pointer none)
theorem KNob.nil {w : World} : KNob w (.pointer none) := .inl rfl
theorem KNob.bare {w : World} (g : Nat) (h : w.cell? ⟨g, 0, none⟩ = some (.pointer none)) : KNob w (.pointer (some ⟨g, 0, none⟩)) := .inr ⟨g, rfl, h⟩
theorem KNob.below {w w' : World} {p : Value} (h : KNob w p) (hb : Below w.heap.size w w') : KNob w' p := by
  rcases h with rfl | ⟨g, rfl, h⟩
  · exact .nil
  · exact .bare g (by rw [hb.cell (World.block_lt_of_cell? w _ h)]; exact h)

theorem kcell_below {w w' : World} {x : Addr} {v : Value} (h : w.cell? x = some v) (hb : Below w.heap.size w w') : w'.cell? x = some v := by
  rw [hb.cell (World.block_lt_of_cell? w _ h)]; exact h

theorem kmade_nob (p : Value) (w : World) (h : KNob w p) : Calls Tryd.prog 11 #[p] w fun e w' => e = .returned (.bool false) ∧ w = w' := by
  rcases h with rfl | ⟨g, rfl, h⟩
  · go_enter Tryd.func11, Tryd.ntmps11
    go_wp2
    go_ret
    exact ⟨rfl, rfl⟩
  · go_enter Tryd.func11, Tryd.ntmps11
    go_wp2_with (go_at_call 20; refine (hlen_nil _).mono ?_; rintro e w' ⟨rfl, rfl⟩)
    go_ret
    exact ⟨rfl, rfl⟩

theorem kwrite_nob (p : Value) (a : Option Addr) (len cap : Nat) (w : World) (h : KNob w p) : Calls Tryd.prog 6 #[p, .slice a len cap] w fun e w' => e = .returned (.int .i64 1) ∧ w = w' := by
  go_enter Tryd.func6, Tryd.ntmps6
  go_wp2_with (go_at_call 11; refine (kmade_nob _ _ h).mono ?_; rintro e w' ⟨rfl, rfl⟩)
  go_ret
  exact ⟨rfl, rfl⟩

theorem ksum_nob (p : Value) (w : World) (h : KNob w p) : Calls Tryd.prog 7 #[p] w fun e w' => e = .returned (.agg (u8s (zer 32)).toArray) ∧ Below w.heap.size w w' := by
  have HN0 := hide h
  clear h
  go_enter Tryd.func7, Tryd.ntmps7
  go_wp2_with (first | (refine step_alloc zD rfl ?_; intro w1 g hg hle hb1; have HG := hide hg; have HN := hide (HN0.out.below hb1); clear hg) | (go_at_call 11; refine (kmade_nob _ _ HN.out).mono ?_; rintro e w' ⟨rfl, rfl⟩) | (refine step_buildD rfl ?_) | (refine step_storeA wD rfl rfl rfl HG.out rfl (One.u8 _) rfl ?_; intro w2 hg2 hbut))
  refine bodyPost_ret (results_wide rfl wD _ _ rfl hg2 rfl) rfl ⟨rfl, ?_⟩
  exact hb1.trans (hbut.below hle)

section
variable {dst : Option Tmp} {ty : TypeId} {pos : String} {aft : Array Edge} {gd : Option (Nat × Bool)} {ops : Array Oper} {rest : List Oper} {a : Act} {w : World} {Q : Exit → Act → World → Prop}
theorem step_buildK0 (hw : Region.wanted ⟨dst, .build 27 #[], ty, pos, aft, gd⟩ (yielded ops a.tmps) = true)
    (h : wpList Tryd.prog ops Q rest (a.put dst (.agg (Value.pointer none :: u8s (zer 64)).toArray)) w) : wpList Tryd.prog ops Q (⟨dst, .build 27 #[], ty, pos, aft, gd⟩ :: rest) a w :=
  step_run hw (.agg (Value.pointer none :: u8s (zer 64)).toArray) w (by kernel_rfl) h
end

set_option maxHeartbeats 1000000 in
theorem knob_walk (a : Option Addr) (len cap : Nat) (xs : List Int) (w : World) (hs : Sl w a len cap xs) (hc : cap ≤ 140737488351232) :
    Calls Tryd.prog 3 #[.slice a len cap] w fun e w' => e = .returned (.bool true) ∧ Below w.heap.size w w' := by
  go_enter Tryd.func3, Tryd.ntmps3
  go_wp2_with (first | (refine step_buildK0 rfl ?_) | (refine step_box rfl rfl ?_; intro w1 g hg hle hb1))
  have hb2 : Below w.heap.size w (w1.alloc (Obj.cells #[Value.pointer none, Value.pointer (some { block := g, off := 0 })] 23)) := hb1.alloc hb1.size _
  have hs0 : (w1.alloc (Obj.cells #[Value.pointer none, Value.pointer (some { block := g, off := 0 })] 23)).cell? ⟨w1.heap.size, 0, none⟩ = some (.pointer none) :=
    cell_of_row _ _ 0 _ _ _ (heap_alloc_new w1 _)
  have hs1 : (w1.alloc (Obj.cells #[Value.pointer none, Value.pointer (some { block := g, off := 0 })] 23)).cell? ⟨w1.heap.size, 1, none⟩ = some (.pointer (some ⟨g, 0, none⟩)) :=
    cell_of_row _ _ 1 _ _ _ (heap_alloc_new w1 _)
  have hn : KNob (w1.alloc (Obj.cells #[Value.pointer none, Value.pointer (some { block := g, off := 0 })] 23)) (.pointer (some ⟨g, 0, none⟩)) :=
    .bare g (by rw [(hg.below ((Below.refl _ _).alloc (Nat.le_refl _) _) hg.lt).cell]; rfl)
  revert hb2 hs0 hs1 hn
  generalize w1.alloc (Obj.cells #[Value.pointer none, Value.pointer (some { block := g, off := 0 })] 23) = w2
  generalize w1.heap.size = b
  intro hb2 hs0 hs1 hn
  have HN := hide hn
  clear hn hg hle hb1 w1
  refine wp_loop_rounds 3 ?_
  rw [rounds_succ]
  go_wp2_with (first | (go_at_call 6; refine (kwrite_nob _ _ _ _ _ .nil).mono ?_; rintro e w' ⟨rfl, rfl⟩) | (go_at_call 7; refine (ksum_nob _ _ .nil).mono ?_; rintro e w3 ⟨rfl, hb3⟩; have hs1' := kcell_below hs1 hb3; have HN3 := hide (HN.out.below hb3); clear hs0 hs1) | (refine step_buildD rfl ?_) | (refine step_neA aD rfl rfl rfl rfl rfl ?_))
  rw [rounds_succ]
  go_wp2_with (first | (go_at_call 6; refine (kwrite_nob _ _ _ _ _ HN3.out).mono ?_; rintro e w' ⟨rfl, rfl⟩) | (go_at_call 7; refine (ksum_nob _ _ HN3.out).mono ?_; rintro e w4 ⟨rfl, hb4⟩; clear hs1') | (refine step_buildD rfl ?_) | (refine step_neA aD rfl rfl rfl rfl rfl ?_))
  rw [rounds_succ]
  go_wp2
  go_ret
  exact ⟨rfl, hb2.trans ((hb3.mono hb2.size).trans (hb4.mono (Nat.le_trans hb2.size hb3.size)))⟩
end Go.Proofs.YtefaabmkcgdkiabDoor
