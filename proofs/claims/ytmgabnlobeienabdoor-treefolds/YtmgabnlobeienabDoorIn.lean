/-
  The program's and the document's Inclusion.
-/
import Derived.Test.YtmgabnlobeienabDoorIc
import Derived.Laws.EntriesVeiled
namespace Go.Proofs.YtmgabnlobeienabDoor
open Go.RowKit
set_option linter.unusedVariables false


set_option maxRecDepth 100000 in
set_option maxHeartbeats 2000000 in
theorem incl_any (a : Option Addr) (n cap : Nat) (xs : List Int) (i m : Int) (w : World) (hs : Ds w a n cap xs) (hk : KT w) :
    Calls Tryd.prog 4 #[.slice a n cap, .int .i64 i, .int .i64 m] w fun r w' => ∃ v, r = .returned (.tuple #[v, .int .i64 (inE n i m)]) ∧ (∃ q, DOwn w' w.heap.size v q (inP xs n i m)) ∧ Below w.heap.size w w' := by
  have HS := hide hs
  have HK := hide hk
  have hcap := hs.hcap
  have hre := hs.hreach
  clear hs hk
  by_cases h1 : m < 1
  · skip
    have EE := hide (show inE n i m = 40 by unfold inE; rw [if_pos (by omega)])
    have EP := hide (show inP xs n i m = [] by unfold inP; rw [if_pos (by omega)])
    rw [EE.out, EP.out]
    go_enter Tryd.func4, Tryd.ntmps4
    go_wp2_with (refine step_box1 rfl rfl rfl ?_)
    intro w1 gd hr1 hl1 hb1
    have GD := hide hr1
    clear hr1
    go_wp2_with (refine step_box1 rfl rfl rfl ?_)
    intro w2 gi hr2 hl2 hb2
    have GI := hide hr2
    have GD2 := hide (GD.out.below hb2 GD.out.lt)
    have B2 := hide (hb1.trans (hb2.mono hb1.size))
    have hcd : w2.cell? ⟨gd, 0, none⟩ = some (.slice a n cap) := by rw [GD2.out.cell]; rfl
    have hci : w2.cell? ⟨gi, 0, none⟩ = some (.int .i64 i) := by rw [GI.out.cell]; rfl
    clear hr2 GD hb1 hb2
    go_wp2
    go_ret2
    exact ⟨_, rfl, ⟨0, DOwn.nil _ _⟩, B2.out⟩
  by_cases h2 : (n : Int) < m
  · skip
    have EE := hide (show inE n i m = 40 by unfold inE; rw [if_pos (by omega)])
    have EP := hide (show inP xs n i m = [] by unfold inP; rw [if_pos (by omega)])
    rw [EE.out, EP.out]
    go_enter Tryd.func4, Tryd.ntmps4
    go_wp2_with (refine step_box1 rfl rfl rfl ?_)
    intro w1 gd hr1 hl1 hb1
    have GD := hide hr1
    clear hr1
    go_wp2_with (refine step_box1 rfl rfl rfl ?_)
    intro w2 gi hr2 hl2 hb2
    have GI := hide hr2
    have GD2 := hide (GD.out.below hb2 GD.out.lt)
    have B2 := hide (hb1.trans (hb2.mono hb1.size))
    have hcd : w2.cell? ⟨gd, 0, none⟩ = some (.slice a n cap) := by rw [GD2.out.cell]; rfl
    have hci : w2.cell? ⟨gi, 0, none⟩ = some (.int .i64 i) := by rw [GI.out.cell]; rfl
    clear hr2 GD hb1 hb2
    go_wp2
    go_ret2
    exact ⟨_, rfl, ⟨0, DOwn.nil _ _⟩, B2.out⟩
  by_cases h3 : i < 0
  · skip
    have EE := hide (show inE n i m = 40 by unfold inE; rw [if_pos (by omega)])
    have EP := hide (show inP xs n i m = [] by unfold inP; rw [if_pos (by omega)])
    rw [EE.out, EP.out]
    go_enter Tryd.func4, Tryd.ntmps4
    go_wp2_with (refine step_box1 rfl rfl rfl ?_)
    intro w1 gd hr1 hl1 hb1
    have GD := hide hr1
    clear hr1
    go_wp2_with (refine step_box1 rfl rfl rfl ?_)
    intro w2 gi hr2 hl2 hb2
    have GI := hide hr2
    have GD2 := hide (GD.out.below hb2 GD.out.lt)
    have B2 := hide (hb1.trans (hb2.mono hb1.size))
    have hcd : w2.cell? ⟨gd, 0, none⟩ = some (.slice a n cap) := by rw [GD2.out.cell]; rfl
    have hci : w2.cell? ⟨gi, 0, none⟩ = some (.int .i64 i) := by rw [GI.out.cell]; rfl
    clear hr2 GD hb1 hb2
    go_wp2
    go_ret2
    exact ⟨_, rfl, ⟨0, DOwn.nil _ _⟩, B2.out⟩
  by_cases h4 : m ≤ i
  · skip
    have EE := hide (show inE n i m = 40 by unfold inE; rw [if_pos (by omega)])
    have EP := hide (show inP xs n i m = [] by unfold inP; rw [if_pos (by omega)])
    rw [EE.out, EP.out]
    go_enter Tryd.func4, Tryd.ntmps4
    go_wp2_with (refine step_box1 rfl rfl rfl ?_)
    intro w1 gd hr1 hl1 hb1
    have GD := hide hr1
    clear hr1
    go_wp2_with (refine step_box1 rfl rfl rfl ?_)
    intro w2 gi hr2 hl2 hb2
    have GI := hide hr2
    have GD2 := hide (GD.out.below hb2 GD.out.lt)
    have B2 := hide (hb1.trans (hb2.mono hb1.size))
    have hcd : w2.cell? ⟨gd, 0, none⟩ = some (.slice a n cap) := by rw [GD2.out.cell]; rfl
    have hci : w2.cell? ⟨gi, 0, none⟩ = some (.int .i64 i) := by rw [GI.out.cell]; rfl
    clear hr2 GD hb1 hb2
    go_wp2
    go_ret2
    exact ⟨_, rfl, ⟨0, DOwn.nil _ _⟩, B2.out⟩
  obtain ⟨i, rfl⟩ : ∃ k : Nat, i = (k : Int) := ⟨i.toNat, by omega⟩
  obtain ⟨m, rfl⟩ : ∃ k : Nat, m = (k : Int) := ⟨m.toNat, by omega⟩
  have EE := hide (show inE n i m = 0 by unfold inE; rw [if_neg (by omega)])
  have EP := hide (show inP xs n i m = path (sub xs 0 m) (i - 0) by unfold inP; rw [if_neg (by omega)]; simp)
  rw [EE.out, EP.out]
  obtain ⟨bl, o, ea⟩ := HS.out.place (by omega)
  subst ea
  go_enter Tryd.func4, Tryd.ntmps4
  go_wp2_with (refine step_box1 rfl rfl rfl ?_)
  intro w1 gd hr1 hl1 hb1
  have GD := hide hr1
  clear hr1
  go_wp2_with (refine step_box1 rfl rfl rfl ?_)
  intro w2 gi hr2 hl2 hb2
  have GI : Hid (Blk w2 gi 3 [.int .i64 (i : Int)]) := hide hr2
  have GD2 := hide (GD.out.below hb2 GD.out.lt)
  have B2 := hide (hb1.trans (hb2.mono hb1.size))
  have hcd : w2.cell? ⟨gd, 0, none⟩ = some (.slice (some ⟨bl, o, none⟩) n cap) := by rw [GD2.out.cell]; rfl
  have hci : w2.cell? ⟨gi, 0, none⟩ = some (.int .i64 (i : Int)) := by rw [GI.out.cell]; rfl
  clear hr2 GD hb1 hb2
  go_wp2_with (refine step_alloc zSp rfl ?_)
  intro w3 gl hr3 hl3 hb3
  have GL := hide hr3
  clear hr3
  go_wp2_with (refine step_storeA (vs := spn i (i + 1)) wSp rfl rfl rfl GL.out rfl (spn_one _ _) rfl ?_)
  intro w4 hg4 hbut4
  have B24 := hide (hb3.trans (hbut4.below hl3))
  have GL4 := hide hg4
  have GI4 := hide (GI.out.below B24.out GI.out.lt)
  have GD4 := hide (GD2.out.below B24.out GD2.out.lt)
  have B4 := hide (B2.out.trans (B24.out.mono B2.out.size))
  clear hb3 hbut4 hg4 GL GI GD2 B2 B24 hcd hci
  go_wp2_with (refine step_alloc zFn rfl ?_)
  intro w5 gp hr5 hl5 hb5
  have GP := hide hr5
  have GL5 := hide (GL4.out.below hb5 GL4.out.lt)
  have GI5 := hide (GI4.out.below hb5 GI4.out.lt)
  have GD5 := hide (GD4.out.below hb5 GD4.out.lt)
  have nl : gl ≠ gp := by have := GL4.out.lt; omega
  have ni : gi ≠ gp := by have := GI4.out.lt; omega
  have nd' : gd ≠ gp := by have := GD4.out.lt; omega
  have B5 := hide (B4.out.trans (hb5.mono B4.out.size))
  have hwp : w.heap.size ≤ gp := Nat.le_trans B4.out.size hl5
  have hcp : w5.cell? ⟨gp, 0, none⟩ = some .nilFunc := by rw [GP.out.cell]; rfl
  have hfp := GP.out.free 0
  clear hr5 hb5 GL4 GI4 GD4 B4 hl5 hl3 hl2 hl1
  go_wp2_with fail
  have hg6 := GP.out.set 0 (.func (.func 9) #[] #[.pointer (some ⟨gl, 0, none⟩), .pointer (some ⟨gi, 0, none⟩), .pointer (some ⟨gp, 0, none⟩), .pointer (some ⟨gd, 0, none⟩)])
  have hbut6 := But.setCell w5 gp 0 (.func (.func 9) #[] #[.pointer (some ⟨gl, 0, none⟩), .pointer (some ⟨gi, 0, none⟩), .pointer (some ⟨gp, 0, none⟩), .pointer (some ⟨gd, 0, none⟩)])
  have B6 := hide (B5.out.trans (hbut6.below hwp))
  have E6 := hide (show Env _ gl gi gp gd i bl o n cap xs from ⟨GL5.out.but hbut6 nl, GI5.out.but hbut6 ni, hg6, GD5.out.but hbut6 nd', HS.out.below B6.out, HK.out.below B6.out HK.out.lt⟩)
  refine (incl1_any gl gi gp gd i bl o n cap xs (by omega) m 0 m _ (by omega) (by omega) (by omega) (by omega) E6.out).mono ?_
  rintro r w7 ⟨v, rfl, ⟨q, ho⟩, hb7⟩
  go_wp2
  go_ret2
  exact ⟨_, rfl, ⟨_, ho.base B6.out.size⟩, B6.out.trans (hb7.mono B6.out.size)⟩

end Go.Proofs.YtmgabnlobeienabDoor
