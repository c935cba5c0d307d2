/-
  The walk of HashNobody.
-/
import Derived.Test.YtbankdepjpeniaaDoorNob
namespace Go.Proofs.YtbankdepjpeniaaDoor
open Go.RowKit
set_option linter.unusedVariables false

theorem Nob.below {w w' : World} {p : Value} (h : Nob w p) (hb : Below w.heap.size w w') : Nob w' p := by
  rcases h with rfl | ⟨g, rfl, h⟩
  · exact .nil
  · exact .bare g (by rw [hb.cell (World.block_lt_of_cell? w _ h)]; exact h)
theorem cell_below {w w' : World} {x : Addr} {v : Value} (h : w.cell? x = some v) (hb : Below w.heap.size w w') : w'.cell? x = some v := by
  rw [hb.cell (World.block_lt_of_cell? w _ h)]; exact h

set_option maxHeartbeats 1000000 in
theorem nob_walk (a : Option Addr) (len cap : Nat) (xs : List Int) (w : World) (hs : Sl w a len cap xs) (hc : cap ≤ 140737488351232) :
    Calls Tryd.prog 5 #[.slice a len cap] w fun e w' => e = .returned (.bool true) ∧ Below w.heap.size w w' := by
  go_enter Tryd.func5, Tryd.ntmps5
  go_wp2_with (first | (refine step_buildSt rfl ?_) | (refine step_box rfl rfl ?_; intro w1 g hg hle hb1))
  have hb2 : Below w.heap.size w (w1.alloc (Obj.cells #[Value.pointer none, Value.pointer (some { block := g, off := 0 })] 36)) := hb1.alloc hb1.size _
  have hs0 : (w1.alloc (Obj.cells #[Value.pointer none, Value.pointer (some { block := g, off := 0 })] 36)).cell? ⟨w1.heap.size, 0, none⟩ = some (.pointer none) :=
    cell_of_row _ _ 0 _ _ _ (heap_alloc_new w1 _)
  have hs1 : (w1.alloc (Obj.cells #[Value.pointer none, Value.pointer (some { block := g, off := 0 })] 36)).cell? ⟨w1.heap.size, 1, none⟩ = some (.pointer (some ⟨g, 0, none⟩)) :=
    cell_of_row _ _ 1 _ _ _ (heap_alloc_new w1 _)
  have hn : Nob (w1.alloc (Obj.cells #[Value.pointer none, Value.pointer (some { block := g, off := 0 })] 36)) (.pointer (some ⟨g, 0, none⟩)) :=
    .bare g (by rw [(hg.below ((Below.refl _ _).alloc (Nat.le_refl _) _) hg.lt).cell]; rfl)
  revert hb2 hs0 hs1 hn
  generalize w1.alloc (Obj.cells #[Value.pointer none, Value.pointer (some { block := g, off := 0 })] 36) = w2
  generalize w1.heap.size = b
  intro hb2 hs0 hs1 hn
  have HN := hide hn
  clear hn hg hle hb1 w1
  refine wp_loop_rounds 3 ?_
  rw [rounds_succ]
  go_wp2_with (first | (go_at_call 16; refine (write_nob _ _ _ _ _ .nil).mono ?_; rintro e w' ⟨rfl, rfl⟩) | (go_at_call 17; refine (sum_nob _ _ .nil).mono ?_; rintro e w3 ⟨rfl, hb3⟩; have hs1' := cell_below hs1 hb3; have HN3 := hide (HN.out.below hb3); clear hs0 hs1) | (refine step_buildD rfl ?_) | (refine step_neA aD rfl rfl rfl rfl rfl ?_) | (go_at_call 18; refine (len_nob _ _ .nil).mono ?_; rintro e w' ⟨rfl, rfl⟩) | (go_at_call 19; refine (clone_nob _ _ .nil).mono ?_; rintro e w' ⟨rfl, rfl⟩) | (go_at_call 20; refine (save_nob _ _ .nil).mono ?_; rintro e w' ⟨rfl, rfl⟩))
  rw [rounds_succ]
  go_wp2_with (first | (go_at_call 16; refine (write_nob _ _ _ _ _ HN3.out).mono ?_; rintro e w' ⟨rfl, rfl⟩) | (go_at_call 17; refine (sum_nob _ _ HN3.out).mono ?_; rintro e w4 ⟨rfl, hb4⟩; have HN4 := hide (HN3.out.below hb4); clear hs1') | (refine step_buildD rfl ?_) | (refine step_neA aD rfl rfl rfl rfl rfl ?_) | (go_at_call 18; refine (len_nob _ _ HN4.out).mono ?_; rintro e w' ⟨rfl, rfl⟩) | (go_at_call 19; refine (clone_nob _ _ HN4.out).mono ?_; rintro e w' ⟨rfl, rfl⟩) | (go_at_call 20; refine (save_nob _ _ HN4.out).mono ?_; rintro e w' ⟨rfl, rfl⟩))
  rw [rounds_succ]
  go_wp2
  go_ret
  exact ⟨rfl, hb2.trans ((hb3.mono hb2.size).trans (hb4.mono (Nat.le_trans hb2.size hb3.size)))⟩
end Go.Proofs.YtbankdepjpeniaaDoor
