/-
  The program's and the document's Consistency.
-/
import Derived.Test.YtmgabnlobeienaaDoorCy
namespace Go.Proofs.YtmgabnlobeienaaDoor
open Go.RowKit
set_option linter.unusedVariables false

set_option maxRecDepth 100000 in
set_option maxHeartbeats 2000000 in
theorem consR_any (a : Option Addr) (n cap : Nat) (xs : List Int) (i m : Int) (w : World) (hs : Ds w a n cap xs) :
    Calls Tryd.prog 26 #[.slice a n cap, .int .i64 i, .int .i64 m] w fun r w' => ∃ v, r = .returned (.tuple #[v, .int .i64 (coE n i m)]) ∧ (∃ q, DOwn w' w.heap.size v q (coP xs n i m)) ∧ Below w.heap.size w w' := by
  have HS := hide hs
  have hcap := hs.hcap
  clear hs
  by_cases h1 : i < 1
  · skip
    have EE := hide (show coE n i m = 40 by unfold coE; rw [if_pos (by omega)])
    have EP := hide (show coP xs n i m = [] by unfold coP; rw [if_pos (by omega)])
    rw [EE.out, EP.out]
    go_enter Tryd.func26, Tryd.ntmps26
    go_wp2
    go_ret2
    exact ⟨_, rfl, ⟨0, DOwn.nil _ _⟩, Below.refl _ _⟩
  by_cases h2 : m < i
  · skip
    have EE := hide (show coE n i m = 40 by unfold coE; rw [if_pos (by omega)])
    have EP := hide (show coP xs n i m = [] by unfold coP; rw [if_pos (by omega)])
    rw [EE.out, EP.out]
    go_enter Tryd.func26, Tryd.ntmps26
    go_wp2
    go_ret2
    exact ⟨_, rfl, ⟨0, DOwn.nil _ _⟩, Below.refl _ _⟩
  by_cases h3 : (n : Int) < m
  · skip
    have EE := hide (show coE n i m = 40 by unfold coE; rw [if_pos (by omega)])
    have EP := hide (show coP xs n i m = [] by unfold coP; rw [if_pos (by omega)])
    rw [EE.out, EP.out]
    go_enter Tryd.func26, Tryd.ntmps26
    go_wp2
    go_ret2
    exact ⟨_, rfl, ⟨0, DOwn.nil _ _⟩, Below.refl _ _⟩
  obtain ⟨i, rfl⟩ : ∃ k : Nat, i = (k : Int) := ⟨i.toNat, by omega⟩
  obtain ⟨m, rfl⟩ : ∃ k : Nat, m = (k : Int) := ⟨m.toNat, by omega⟩
  have EE := hide (show coE n i m = 0 by unfold coE; rw [if_neg (by omega)])
  have EP := hide (show coP xs n i m = steps (xs.take (32 * m)) i true by unfold coP; rw [if_neg (by omega)]; simp [sub])
  rw [EE.out, EP.out]
  obtain ⟨bl, o, rfl⟩ := HS.out.place (by omega)
  have hsl := d_to bl o n cap m (m : Int) rfl (by omega)
  have HD := hide (HS.out.take m (by omega))
  go_enter Tryd.func26, Tryd.ntmps26
  go_wp2_with fail
  refine (stepsR_any m _ _ _ (xs.take (32 * m)) i _ true _ (Nat.le_refl _) (by omega) (by omega) rfl HD.out).mono ?_
  rintro r w1 ⟨v, rfl, ⟨q, ho⟩, hb⟩
  go_wp2
  go_ret2
  exact ⟨_, rfl, ⟨_, ho⟩, hb⟩

set_option maxRecDepth 100000 in
set_option maxHeartbeats 2000000 in
theorem cons_any (a : Option Addr) (n cap : Nat) (xs : List Int) (i m : Int) (w : World) (hs : Ds w a n cap xs) (hk : KT w) :
    Calls Tryd.prog 25 #[.slice a n cap, .int .i64 i, .int .i64 m] w fun r w' => ∃ v, r = .returned (.tuple #[v, .int .i64 (coE n i m)]) ∧ (∃ q, DOwn w' w.heap.size v q (coP xs n i m)) ∧ Below w.heap.size w w' := by
  have HS := hide hs
  have HK := hide hk
  have hcap := hs.hcap
  have hre := hs.hreach
  clear hs hk
  by_cases h1 : i < 1
  · skip
    have EE := hide (show coE n i m = 40 by unfold coE; rw [if_pos (by omega)])
    have EP := hide (show coP xs n i m = [] by unfold coP; rw [if_pos (by omega)])
    rw [EE.out, EP.out]
    go_enter Tryd.func25, Tryd.ntmps25
    go_wp2_with (refine step_box1 rfl rfl rfl ?_)
    intro w1 gd hr1 hl1 hb1
    have GD := hide hr1
    clear hr1
    go_wp2_with (refine step_box1 rfl rfl rfl ?_)
    intro w2 gi hr2 hl2 hb2
    have GI : Hid (Blk w2 gi 3 [.int .i64 i]) := hide hr2
    have GD2 := hide (GD.out.below hb2 GD.out.lt)
    have B2 := hide (hb1.trans (hb2.mono hb1.size))
    have hcd : w2.cell? ⟨gd, 0, none⟩ = some (.slice a n cap) := by rw [GD2.out.cell]; rfl
    have hci : w2.cell? ⟨gi, 0, none⟩ = some (.int .i64 i) := by rw [GI.out.cell]; rfl
    clear hr2 GD hb1 hb2
    go_wp2
    go_ret2
    exact ⟨_, rfl, ⟨0, DOwn.nil _ _⟩, B2.out⟩
  by_cases h2 : m < i
  · skip
    have EE := hide (show coE n i m = 40 by unfold coE; rw [if_pos (by omega)])
    have EP := hide (show coP xs n i m = [] by unfold coP; rw [if_pos (by omega)])
    rw [EE.out, EP.out]
    go_enter Tryd.func25, Tryd.ntmps25
    go_wp2_with (refine step_box1 rfl rfl rfl ?_)
    intro w1 gd hr1 hl1 hb1
    have GD := hide hr1
    clear hr1
    go_wp2_with (refine step_box1 rfl rfl rfl ?_)
    intro w2 gi hr2 hl2 hb2
    have GI : Hid (Blk w2 gi 3 [.int .i64 i]) := hide hr2
    have GD2 := hide (GD.out.below hb2 GD.out.lt)
    have B2 := hide (hb1.trans (hb2.mono hb1.size))
    have hcd : w2.cell? ⟨gd, 0, none⟩ = some (.slice a n cap) := by rw [GD2.out.cell]; rfl
    have hci : w2.cell? ⟨gi, 0, none⟩ = some (.int .i64 i) := by rw [GI.out.cell]; rfl
    clear hr2 GD hb1 hb2
    go_wp2
    go_ret2
    exact ⟨_, rfl, ⟨0, DOwn.nil _ _⟩, B2.out⟩
  by_cases h3 : (n : Int) < m
  · skip
    have EE := hide (show coE n i m = 40 by unfold coE; rw [if_pos (by omega)])
    have EP := hide (show coP xs n i m = [] by unfold coP; rw [if_pos (by omega)])
    rw [EE.out, EP.out]
    go_enter Tryd.func25, Tryd.ntmps25
    go_wp2_with (refine step_box1 rfl rfl rfl ?_)
    intro w1 gd hr1 hl1 hb1
    have GD := hide hr1
    clear hr1
    go_wp2_with (refine step_box1 rfl rfl rfl ?_)
    intro w2 gi hr2 hl2 hb2
    have GI : Hid (Blk w2 gi 3 [.int .i64 i]) := hide hr2
    have GD2 := hide (GD.out.below hb2 GD.out.lt)
    have B2 := hide (hb1.trans (hb2.mono hb1.size))
    have hcd : w2.cell? ⟨gd, 0, none⟩ = some (.slice a n cap) := by rw [GD2.out.cell]; rfl
    have hci : w2.cell? ⟨gi, 0, none⟩ = some (.int .i64 i) := by rw [GI.out.cell]; rfl
    clear hr2 GD hb1 hb2
    go_wp2
    go_ret2
    exact ⟨_, rfl, ⟨0, DOwn.nil _ _⟩, B2.out⟩
  obtain ⟨i, rfl⟩ : ∃ k : Nat, i = (k : Int) := ⟨i.toNat, by omega⟩
  obtain ⟨m, rfl⟩ : ∃ k : Nat, m = (k : Int) := ⟨m.toNat, by omega⟩
  have EE := hide (show coE n i m = 0 by unfold coE; rw [if_neg (by omega)])
  have EP := hide (show coP xs n i m = steps (sub xs 0 m) (i - 0) (beg 0) by unfold coP; rw [if_neg (by omega)]; simp [beg])
  rw [EE.out, EP.out]
  obtain ⟨bl, o, ea⟩ := HS.out.place (by omega)
  subst ea
  go_enter Tryd.func25, Tryd.ntmps25
  go_wp2_with (refine step_box1 rfl rfl rfl ?_)
  intro w1 gd hr1 hl1 hb1
  have GD := hide hr1
  clear hr1
  go_wp2_with (refine step_box1 rfl rfl rfl ?_)
  intro w2 gi hr2 hl2 hb2
  have GI : Hid (Blk w2 gi 3 [.int .i64 (i : Int)]) := hide hr2
  have GD2 := hide (GD.out.below hb2 GD.out.lt)
  have B2 := hide (hb1.trans (hb2.mono hb1.size))
  have hcd : w2.cell? ⟨gd, 0, none⟩ = some (.slice (some ⟨bl, o, none⟩) n cap) := by rw [GD2.out.cell]; rfl
  have hci : w2.cell? ⟨gi, 0, none⟩ = some (.int .i64 (i : Int)) := by rw [GI.out.cell]; rfl
  clear hr2 GD hb1 hb2
  go_wp2_with (refine step_alloc zSp rfl ?_)
  intro w3 gl hr3 hl3 hb3
  have GL := hide hr3
  clear hr3
  go_wp2_with (refine step_storeA (vs := spn 0 i) wSp rfl rfl rfl GL.out rfl (spn_one _ _) rfl ?_)
  intro w4 hg4 hbut4
  have B24 := hide (hb3.trans (hbut4.below hl3))
  have GL4 := hide hg4
  have GI4 := hide (GI.out.below B24.out GI.out.lt)
  have GD4 := hide (GD2.out.below B24.out GD2.out.lt)
  have B4 := hide (B2.out.trans (B24.out.mono B2.out.size))
  clear hb3 hbut4 hg4 GL GI GD2 B2 B24 hcd hci
  go_wp2_with (refine step_alloc zFn rfl ?_)
  intro w5 gp hr5 hl5 hb5
  have GP := hide hr5
  have GL5 := hide (GL4.out.below hb5 GL4.out.lt)
  have GI5 := hide (GI4.out.below hb5 GI4.out.lt)
  have GD5 := hide (GD4.out.below hb5 GD4.out.lt)
  have nl : gl ≠ gp := by have := GL4.out.lt; omega
  have ni : gi ≠ gp := by have := GI4.out.lt; omega
  have nd' : gd ≠ gp := by have := GD4.out.lt; omega
  have B5 := hide (B4.out.trans (hb5.mono B4.out.size))
  have hwp : w.heap.size ≤ gp := Nat.le_trans B4.out.size hl5
  have hcp : w5.cell? ⟨gp, 0, none⟩ = some .nilFunc := by rw [GP.out.cell]; rfl
  have hfp := GP.out.free 0
  clear hr5 hb5 GL4 GI4 GD4 B4 hl5 hl3 hl2 hl1
  go_wp2_with fail
  have hg6 := GP.out.set 0 (.func (.func 35) #[] #[.pointer (some ⟨gl, 0, none⟩), .pointer (some ⟨gi, 0, none⟩), .pointer (some ⟨gd, 0, none⟩), .pointer (some ⟨gp, 0, none⟩)])
  have hbut6 := But.setCell w5 gp 0 (.func (.func 35) #[] #[.pointer (some ⟨gl, 0, none⟩), .pointer (some ⟨gi, 0, none⟩), .pointer (some ⟨gd, 0, none⟩), .pointer (some ⟨gp, 0, none⟩)])
  have B6 := hide (B5.out.trans (hbut6.below hwp))
  have E6 := hide (show Enc _ gl gi gd gp i bl o n cap xs from ⟨GL5.out.but hbut6 nl, GI5.out.but hbut6 ni, hg6, GD5.out.but hbut6 nd', HS.out.below B6.out, HK.out.below B6.out HK.out.lt⟩)
  refine (cons1_any gl gi gd gp i bl o n cap xs (by omega) m 0 m _ (by omega) (by omega) (by omega) (by omega) E6.out).mono ?_
  rintro r w7 ⟨v, rfl, ⟨q, ho⟩, hb7⟩
  go_wp2
  go_ret2
  exact ⟨_, rfl, ⟨_, ho.base B6.out.size⟩, B6.out.trans (hb7.mono B6.out.size)⟩

end Go.Proofs.YtmgabnlobeienaaDoor
