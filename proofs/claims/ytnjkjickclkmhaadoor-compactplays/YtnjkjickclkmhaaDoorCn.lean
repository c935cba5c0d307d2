/-
  Ranges that no call made, and the walk of CompactNobody.
-/
import Derived.Test.YtnjkjickclkmhaaDoorTy
import Derived.Test.YtnjkjickclkmhaaDoorSc
import Derived.RangeFuncNested
import Derived.RangeFuncBound
import Derived.RangeFuncCalls
import Derived.RangeFuncLeaves
import Derived.Shelf.Abstract
import Derived.Shelf.RegionOpen
import Derived.WalkKit
import Derived.OwnWalkIn
import Derived.TacticsInMore
import Derived.LoopNIn
import Derived.LoopIn
import Derived.Laws.EntriesVeiled
namespace Go.Proofs.YtnjkjickclkmhaaDoor
open Go.RowKit Go.Shelf
set_option linter.unusedVariables false

theorem zSp : Zeroed 51 [.int .i64 0, .int .i64 0] := fun _ _ _ _ _ _ _ => by kernel_rfl
theorem wSpn : Wide 51 2 := ⟨by kernel_rfl, by kernel_rfl⟩
theorem One.two (a b : Int) : One [.int .i64 a, .int .i64 b] := by intro v hv; simp at hv; rcases hv with rfl | rfl <;> rfl

/-- A range that no call made: nil, or a bare one. -/
def RNob (w : World) (p : Value) : Prop :=
  p = .pointer none ∨ ∃ g : Nat, p = .pointer (some ⟨g, 0, none⟩) ∧ w.cell? ⟨g, 0, none⟩ = some (.bool false)
theorem RNob.nil {w : World} : RNob w (.pointer none) := .inl rfl
theorem RNob.bare {w : World} (g : Nat) (h : w.cell? ⟨g, 0, none⟩ = some (.bool false)) : RNob w (.pointer (some ⟨g, 0, none⟩)) := .inr ⟨g, rfl, h⟩
theorem RNob.below {w w' : World} {p : Value} (h : RNob w p) (hb : Below w.heap.size w w') : RNob w' p := by
  rcases h with rfl | ⟨g, rfl, h⟩
  · exact .nil
  · exact .bare g (by rw [hb.cell (World.block_lt_of_cell? w _ h)]; exact h)
theorem RNob.ptr {w : World} {p : Value} (h : RNob w p) : ∃ x, p = .pointer x := by
  rcases h with rfl | ⟨g, rfl, _⟩
  · exact ⟨_, rfl⟩
  · exact ⟨_, rfl⟩

theorem cell_below {w w' : World} {x : Addr} {v : Value} (h : w.cell? x = some v) (hb : Below w.heap.size w w') : w'.cell? x = some v := by
  rw [hb.cell (World.block_lt_of_cell? w _ h)]; exact h

theorem made_nob (p : Value) (w : World) (h : RNob w p) : Calls Tryd.prog 18 #[p] w fun e w' => e = .returned (.bool false) ∧ w = w' := by
  rcases h with rfl | ⟨g, rfl, h⟩
  · go_enter Tryd.func18, Tryd.ntmps18
    go_wp2
    go_ret
    exact ⟨rfl, rfl⟩
  · go_enter Tryd.func18, Tryd.ntmps18
    go_wp2
    go_ret
    exact ⟨rfl, rfl⟩
/-- A range that is made. -/
theorem made_is (g : Nat) (w : World) (h : w.cell? ⟨g, 0, none⟩ = some (.bool true)) : Calls Tryd.prog 18 #[.pointer (some ⟨g, 0, none⟩)] w fun e w' => e = .returned (.bool true) ∧ w = w' := by
  go_enter Tryd.func18, Tryd.ntmps18
  go_wp2
  go_ret
  exact ⟨rfl, rfl⟩

theorem appN_nob (p : Value) (l : Int) (ds : List Int) (w : World) (h : RNob w p) : Calls Tryd.prog 8 #[p, .int .i64 l, .agg (u8s ds).toArray] w fun e w' => e = .returned (.int .i64 1) ∧ Below w.heap.size w w' := by
  have HN := hide h
  clear h
  go_enter Tryd.func8, Tryd.ntmps8
  go_wp2_with (refine step_box rfl rfl ?_)
  intro w1 g1 hg1 hle1 hb1
  go_wp2_with (go_at_call 18; refine (made_nob _ _ (HN.out.below hb1)).mono ?_; rintro e w' ⟨rfl, rfl⟩)
  go_ret
  exact ⟨rfl, hb1⟩
theorem app_nob (p : Value) (ds : List Int) (w : World) (hl : ds.length = 32) (h : RNob w p) : Calls Tryd.prog 12 #[p, .agg (u8s ds).toArray] w fun e w' => e = .returned (.int .i64 1) ∧ Below w.heap.size w w' := by
  have HN := hide h
  have HL := hide (show (u8s ds).length = 32 by rw [u8s_length, hl])
  clear h hl
  go_enter Tryd.func12, Tryd.ntmps12
  go_wp2_with (refine step_box rfl rfl ?_)
  intro w1 g1 hg1 hle1 hb1
  have HG := hide hg1
  clear hg1
  go_wp2_with (first | (refine step_loadA wD rfl rfl HG.out HL.out ?_) | (go_at_call 8; refine (appN_nob _ _ _ _ (HN.out.below hb1)).mono ?_; rintro e w' ⟨rfl, hb2⟩))
  go_ret
  exact ⟨rfl, hb1.trans (hb2.mono hb1.size)⟩
set_option maxRecDepth 100000 in
theorem merge_nob (p q : Value) (w : World) (h : RNob w p) : Calls Tryd.prog 13 #[p, q] w fun e w' => e = .returned (.int .i64 1) ∧ Below w.heap.size w w' := by
  obtain ⟨x, rfl⟩ := h.ptr
  have HN := hide h
  clear h
  go_enter Tryd.func13, Tryd.ntmps13
  go_wp2_with (go_at_call 18; refine (made_nob _ _ (HN.out.below ((Below.refl _ _).alloc (Nat.le_refl _) _))).mono ?_; rintro e w' ⟨rfl, rfl⟩)
  go_ret
  exact ⟨rfl, (Below.refl _ _).alloc (Nat.le_refl _) _⟩
set_option maxRecDepth 100000 in
theorem merge_nob2 (g : Nat) (p : Value) (w : World) (hg : w.cell? ⟨g, 0, none⟩ = some (.bool true)) (h : RNob w p) : Calls Tryd.prog 13 #[.pointer (some ⟨g, 0, none⟩), p] w fun e w' => e = .returned (.int .i64 1) ∧ Below w.heap.size w w' := by
  have HN := hide h
  have HG := hide hg
  clear h hg
  go_enter Tryd.func13, Tryd.ntmps13
  go_wp2_with fail
  refine (made_is _ _ (cell_below HG.out ((Below.refl _ _).alloc (Nat.le_refl _) _))).mono ?_
  rintro e w' ⟨rfl, rfl⟩
  go_wp2_with (go_at_call 18; refine (made_nob _ _ (HN.out.below ((Below.refl _ _).alloc (Nat.le_refl _) _))).mono ?_; rintro e w' ⟨rfl, rfl⟩)
  go_ret
  exact ⟨rfl, (Below.refl _ _).alloc (Nat.le_refl _) _⟩
theorem span_nob (p : Value) (w : World) (h : RNob w p) : Calls Tryd.prog 23 #[p] w fun e w' => e = .returned (.agg #[.int .i64 0, .int .i64 0]) ∧ Below w.heap.size w w' := by
  have HN := hide h
  clear h
  go_enter Tryd.func23, Tryd.ntmps23
  go_wp2_with (refine step_alloc zSp rfl ?_)
  intro w1 g1 hg1 hle1 hb1
  have HG := hide hg1
  clear hg1
  go_wp2_with (first | (go_at_call 18; refine (made_nob _ _ (HN.out.below hb1)).mono ?_; rintro e w' ⟨rfl, rfl⟩) | (refine step_storeA wSpn rfl rfl rfl HG.out rfl (One.two 0 0) rfl ?_; intro w2 hg2 hbut))
  refine bodyPost_ret (results_wide rfl wSpn _ _ rfl hg2 rfl) rfl ⟨rfl, ?_⟩
  exact hb1.trans (hbut.below hle1)
theorem len_nob (p : Value) (w : World) (h : RNob w p) : Calls Tryd.prog 24 #[p] w fun e w' => e = .returned (.int .i64 0) ∧ w = w' := by
  go_enter Tryd.func24, Tryd.ntmps24
  go_wp2_with (go_at_call 18; refine (made_nob _ _ h).mono ?_; rintro e w' ⟨rfl, rfl⟩)
  go_ret
  exact ⟨rfl, rfl⟩
set_option maxRecDepth 100000 in
theorem root_nob (p : Value) (w : World) (h : RNob w p) : Calls Tryd.prog 26 #[p] w fun e w' => e = .returned (.tuple #[.agg (u8s (zer 32)).toArray, .int .i64 1]) ∧ Below w.heap.size w w' := by
  have HN := hide h
  clear h
  go_enter Tryd.func26, Tryd.ntmps26
  go_wp2_with (refine step_alloc zD rfl ?_)
  intro w1 g1 hg1 hle1 hb1
  have HG := hide hg1
  clear hg1
  go_wp2_with (first | (go_at_call 18; refine (made_nob _ _ (HN.out.below hb1)).mono ?_; rintro e w' ⟨rfl, rfl⟩) | (refine step_buildD rfl ?_) | (refine step_storeA wD rfl rfl rfl HG.out rfl (One.u8 _) rfl ?_; intro w2 hg2 hbut))
  refine bodyPost_ret (results_wide2 rfl wD _ _ rfl hg2 rfl) rfl ⟨rfl, ?_⟩
  exact hb1.trans (hbut.below hle1)
theorem clone_nob (p : Value) (w : World) (h : RNob w p) : Calls Tryd.prog 9 #[p] w fun e w' => e = .returned (.pointer none) ∧ w = w' := by
  go_enter Tryd.func9, Tryd.ntmps9
  go_wp2_with (go_at_call 18; refine (made_nob _ _ h).mono ?_; rintro e w' ⟨rfl, rfl⟩)
  go_ret
  exact ⟨rfl, rfl⟩
theorem bytes_nob (p : Value) (w : World) (h : RNob w p) : Calls Tryd.prog 28 #[p] w fun e w' => e = .returned (.slice none 0 0) ∧ w = w' := by
  go_enter Tryd.func28, Tryd.ntmps28
  go_wp2_with (go_at_call 18; refine (made_nob _ _ h).mono ?_; rintro e w' ⟨rfl, rfl⟩)
  go_ret
  exact ⟨rfl, rfl⟩
theorem all_any (x : Option Addr) (w : World) : Calls Tryd.prog 25 #[.pointer x] w fun e w' => e = .returned (.func (.func 39) #[] #[.pointer (some ⟨w.heap.size, 0, none⟩)]) ∧ w' = w.alloc (.cells #[.pointer x] 23) := by
  go_enter Tryd.func25, Tryd.ntmps25
  go_wp2
  go_ret
  exact ⟨rfl, rfl⟩

/-- Its iterator tells nothing. -/
theorem all_nob_stops (Bs n₀ : Nat) (p : Value) (w : World) (hB : Bs < n₀) (hn0 : n₀ ≤ w.heap.size) (hBs : w.cell? ⟨Bs, 0, none⟩ = some p) (h : RNob w p) :
    SeqStopsK Fence.wide 2 Tryd.prog 39 #[.pointer (some ⟨Bs, 0, none⟩)] (fun x : Unit => #[Value.int .i64 0, Value.int .i64 0]) (Below n₀) (fun xs => xs = []) (fun pre => pre = []) 0 w := by
  intro l J Jx W hW hJ hJx hY h0
  have hc : W.cell? ⟨Bs, 0, none⟩ = some p := cell_below hBs hW
  have HN := hide (h.below hW)
  refine callsIn_of_wp Tryd.func39 rfl trivial ?_ rfl
  simp only [Tryd.ntmps39, List.size_toArray, List.length_cons, List.length_nil, Nat.reduceAdd, Nat.reduceSub, Array.replicate_succ, Array.replicate_zero, List.push_toArray, List.append_toArray, List.nil_append, List.cons_append]
  gi_wp2_with fail
  refine ⟨trivial, (callsIn_wide.2 (made_nob _ _ HN.out)).mono ?_⟩
  rintro e w' ⟨rfl, rfl⟩
  gi_wp2
  refine bodyPost_ret (results_none rfl _ _ _) rfl ?_
  exact ⟨⟨_, rfl⟩, .inl ⟨[], rfl, h0⟩⟩

/-- New of what is no place. -/
theorem new_bad (b : Int) (w : World) (h : b < 0 ∨ 281474976710656 < b) : Calls Tryd.prog 5 #[.int .i64 b] w fun e w' => e = .returned (.tuple #[.pointer none, .int .i64 40]) ∧ w = w' := by
  by_cases h1 : b < 0
  · go_enter Tryd.func5, Tryd.ntmps5
    go_wp2
    go_ret2
    exact ⟨rfl, rfl⟩
  · have h2 : 281474976710656 < b := by omega
    go_enter Tryd.func5, Tryd.ntmps5
    go_wp2
    go_ret2
    exact ⟨rfl, rfl⟩
/-- The cells of a range. -/
def rgC (b e : Int) (v : Value) : List Value := [.bool true, .int .i64 b, .int .i64 e, v]
section
variable {dst : Option Tmp} {ty : TypeId} {pos : String} {aft : Array Edge} {gd : Option (Nat × Bool)} {ops : Array Oper} {rest : List Oper} {a : Act} {w : World} {Q : Exit → Act → World → Prop}
theorem run_buildRg (b e : Int) (w : World) : (Instr.build 54 #[(0, .bool true), (1, .agg #[.int .i64 b, .int .i64 e])]).run Tryd.prog w = .ok (.agg (rgC b e (.slice none 0 0)).toArray) w := by kernel_rfl
theorem step_buildRg {x : Operand} {b e : Int} (hw : Region.wanted ⟨dst, .build 54 #[(0, .const (.bool true)), (1, x)], ty, pos, aft, gd⟩ (yielded ops a.tmps) = true) (hx : a.eval x = .agg #[.int .i64 b, .int .i64 e])
    (h : wpList Tryd.prog ops Q rest (a.put dst (.agg (rgC b e (.slice none 0 0)).toArray)) w) : wpList Tryd.prog ops Q (⟨dst, .build 54 #[(0, .const (.bool true)), (1, x)], ty, pos, aft, gd⟩ :: rest) a w :=
  step_run hw (.agg (rgC b e (.slice none 0 0)).toArray) w (run_op (M := Instr.build 54 #[(0, .bool true), (1, .agg #[.int .i64 b, .int .i64 e])]) (by have hc : a.eval (.const (.bool true)) = .bool true := rfl; simp [execOp, hx, hc]) (run_buildRg b e w)) h
theorem step_buildR0 (hw : Region.wanted ⟨dst, .build 54 #[], ty, pos, aft, gd⟩ (yielded ops a.tmps) = true)
    (h : wpList Tryd.prog ops Q rest (a.put dst (.agg ([.bool false, .int .i64 0, .int .i64 0, .slice none 0 0] : List Value).toArray)) w) : wpList Tryd.prog ops Q (⟨dst, .build 54 #[], ty, pos, aft, gd⟩ :: rest) a w :=
  step_run hw (.agg ([.bool false, .int .i64 0, .int .i64 0, .slice none 0 0] : List Value).toArray) w (by kernel_rfl) h
end
theorem new_ok (b : Int) (w : World) (h0 : 0 ≤ b) (h1 : b ≤ 281474976710656) : Calls Tryd.prog 5 #[.int .i64 b] w fun e w' => ∃ g, e = .returned (.tuple #[.pointer (some ⟨g, 0, none⟩), .int .i64 0]) ∧ Blk w' g 54 (rgC b b (.slice none 0 0)) ∧ w.heap.size ≤ g ∧ Below w.heap.size w w' := by
  have h2 : ¬ b < 0 := by omega
  have h3 : ¬ 281474976710656 < b := by omega
  go_enter Tryd.func5, Tryd.ntmps5
  go_wp2_with (first | (refine step_buildRg rfl rfl ?_) | (refine step_box (cs := rgC b b (.slice none 0 0)) rfl rfl ?_; intro w1 g1 hg1 hle1 hb1))
  go_ret2
  exact ⟨_, rfl, hg1, hle1, hb1⟩

end Go.Proofs.YtnjkjickclkmhaaDoor
