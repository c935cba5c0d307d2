/-
  Consistency of both.
-/
import Derived.Test.YtojepbapdjkknaaDoorVc
namespace Go.Proofs.YtojepbapdjkknaaDoor
open Go.RowKit
set_option linter.unusedVariables false

/-- What Consistency tells. -/
def csR (X Y o n : List Int) (E : Int) : Int := if E = 0 then (if X = o ∧ Y = n then 0 else 71) else E
set_option maxRecDepth 100000 in
set_option maxHeartbeats 2000000 in
theorem cons7_any (o nw : List Int) (m n : Int) (a : Option Addr) (l cap : Nat) (xs X Y : List Int) (E : Int) (w : World) (hB : RT o m n l xs X Y E) (hol : o.length = 32) (hnl : nw.length = 32) (hs : Ds w a l cap xs) (hk : KT w) :
    Calls Tryd.prog 49 #[.int .i64 m, .int .i64 n, .agg (u8s o).toArray, .agg (u8s nw).toArray, .slice a l cap] w fun r w' => r = .returned (.int .i64 (csR X Y o nw E)) ∧ Below w.heap.size w w' := by
  have HK := hide hk
  have HB := hide hB
  have HS := hide hs
  have HXL := hide hB.lx
  have HYL := hide hB.ly
  have HOL := hide hol
  have HNL := hide hnl
  have HXU := hide (show (u8s X).length = 32 by rw [u8s_length, hB.lx])
  have HYU := hide (show (u8s Y).length = 32 by rw [u8s_length, hB.ly])
  have HOU := hide (show (u8s o).length = 32 by rw [u8s_length, hol])
  have HNU := hide (show (u8s nw).length = 32 by rw [u8s_length, hnl])
  clear hk hs hol hnl hB
  by_cases hE : E = 0
  · subst hE
    by_cases h1 : X = o
    · have HX : Hid ((!decide (X = o)) = false) := hide (by simp [h1])
      by_cases h2 : Y = nw
      · have HY : Hid ((!decide (Y = nw)) = false) := hide (by simp [h2])
        rw [show csR X Y o nw 0 = 0 by unfold csR; rw [if_pos rfl, if_pos ⟨h1, h2⟩]]
        clear h1 h2
        go_enter Tryd.func49, Tryd.ntmps49
        go_wp2_with (refine step_box rfl rfl ?_)
        intro w1 g7 hr1 hl1 hb1
        have G7 := hide hr1
        clear hr1
        go_wp2_with (refine step_box rfl rfl ?_)
        intro w2 g8 hr2 hl2 hb2
        have G8 := hide hr2
        have G72 := hide (G7.out.on hb2)
        have B2 := hide (on_below hb1 hb2)
        clear hr2 hb1 hb2 G7
        go_wp2_with (refine step_loadA wD rfl rfl G72.out HOU.out ?_)
        refine (HB.out.prog a cap _ (HS.out.below B2.out) (HK.out.below B2.out HK.out.lt)).mono ?_
        rintro r w3 ⟨rfl, hb3⟩
        have G83 := hide (G8.out.on hb3)
        have G73 := hide (G72.out.on hb3)
        have B3 := hide (on_below B2.out hb3)
        clear hb3 G72 G8 B2
        go_wp2_with (refine step_alloc zD rfl ?_)
        intro w4 g11 hr4 hl4 hb4
        have G11 := hide hr4
        clear hr4
        go_wp2_with (refine step_alloc zD rfl ?_)
        intro w5 g12 hr5 hl5 hb5
        have h1112 : g11 ≠ g12 := by have := G11.out.lt; omega
        have G12 := hide hr5
        have G115 := hide (G11.out.on hb5)
        have X5 := hide (on_below hb4 hb5)
        have hl35 : w3.heap.size ≤ g12 := Nat.le_trans hb4.size hl5
        clear hr5 hb4 hb5 G11
        go_wp2_with (refine step_storeA wD rfl rfl rfl G115.out HXU.out (One.u8 _) rfl ?_)
        intro w6 hg6 hbut6
        have G116 := hide hg6
        have G126 := hide (G12.out.but hbut6 h1112.symm)
        have X6 := hide (X5.out.trans (hbut6.below hl4))
        clear hg6 hbut6 G115 G12 X5
        go_wp2_with (refine step_storeA wD rfl rfl rfl G126.out HYU.out (One.u8 _) rfl ?_)
        intro w9 hg9 hbut9
        have X9 := hide (X6.out.trans (hbut9.below hl35))
        have GX := hide (G116.out.but hbut9 h1112)
        have GY := hide hg9
        have GO := hide (G73.out.on X9.out)
        have GN := hide (G83.out.on X9.out)
        have B9 := hide (on_below B3.out X9.out)
        clear hg9 hbut9 X9 X6 G116 G126 G73 G83 B3
        go_wp2_with (first | (refine step_loadA wD rfl rfl GX.out HXU.out ?_) | (refine step_loadA wD rfl rfl GO.out HOU.out ?_) | (refine step_loadA wD rfl rfl GY.out HYU.out ?_) | (refine step_loadA wD rfl rfl GN.out HNU.out ?_) | (refine step_neQ aD _ HX.out rfl rfl rfl HXL.out HOL.out ?_) | (refine step_neQ aD _ HY.out rfl rfl rfl HYL.out HNL.out ?_))
        go_ret
        exact ⟨rfl, B9.out⟩
      · have HY : Hid ((!decide (Y = nw)) = true) := hide (by simp [h2])
        rw [show csR X Y o nw 0 = 71 by unfold csR; rw [if_pos rfl, if_neg (fun h => h2 h.2)]]
        clear h1 h2
        go_enter Tryd.func49, Tryd.ntmps49
        go_wp2_with (refine step_box rfl rfl ?_)
        intro w1 g7 hr1 hl1 hb1
        have G7 := hide hr1
        clear hr1
        go_wp2_with (refine step_box rfl rfl ?_)
        intro w2 g8 hr2 hl2 hb2
        have G8 := hide hr2
        have G72 := hide (G7.out.on hb2)
        have B2 := hide (on_below hb1 hb2)
        clear hr2 hb1 hb2 G7
        go_wp2_with (refine step_loadA wD rfl rfl G72.out HOU.out ?_)
        refine (HB.out.prog a cap _ (HS.out.below B2.out) (HK.out.below B2.out HK.out.lt)).mono ?_
        rintro r w3 ⟨rfl, hb3⟩
        have G83 := hide (G8.out.on hb3)
        have G73 := hide (G72.out.on hb3)
        have B3 := hide (on_below B2.out hb3)
        clear hb3 G72 G8 B2
        go_wp2_with (refine step_alloc zD rfl ?_)
        intro w4 g11 hr4 hl4 hb4
        have G11 := hide hr4
        clear hr4
        go_wp2_with (refine step_alloc zD rfl ?_)
        intro w5 g12 hr5 hl5 hb5
        have h1112 : g11 ≠ g12 := by have := G11.out.lt; omega
        have G12 := hide hr5
        have G115 := hide (G11.out.on hb5)
        have X5 := hide (on_below hb4 hb5)
        have hl35 : w3.heap.size ≤ g12 := Nat.le_trans hb4.size hl5
        clear hr5 hb4 hb5 G11
        go_wp2_with (refine step_storeA wD rfl rfl rfl G115.out HXU.out (One.u8 _) rfl ?_)
        intro w6 hg6 hbut6
        have G116 := hide hg6
        have G126 := hide (G12.out.but hbut6 h1112.symm)
        have X6 := hide (X5.out.trans (hbut6.below hl4))
        clear hg6 hbut6 G115 G12 X5
        go_wp2_with (refine step_storeA wD rfl rfl rfl G126.out HYU.out (One.u8 _) rfl ?_)
        intro w9 hg9 hbut9
        have X9 := hide (X6.out.trans (hbut9.below hl35))
        have GX := hide (G116.out.but hbut9 h1112)
        have GY := hide hg9
        have GO := hide (G73.out.on X9.out)
        have GN := hide (G83.out.on X9.out)
        have B9 := hide (on_below B3.out X9.out)
        clear hg9 hbut9 X9 X6 G116 G126 G73 G83 B3
        go_wp2_with (first | (refine step_loadA wD rfl rfl GX.out HXU.out ?_) | (refine step_loadA wD rfl rfl GO.out HOU.out ?_) | (refine step_loadA wD rfl rfl GY.out HYU.out ?_) | (refine step_loadA wD rfl rfl GN.out HNU.out ?_) | (refine step_neQ aD _ HX.out rfl rfl rfl HXL.out HOL.out ?_) | (refine step_neQ aD _ HY.out rfl rfl rfl HYL.out HNL.out ?_))
        go_ret
        exact ⟨rfl, B9.out⟩
    · have HX : Hid ((!decide (X = o)) = true) := hide (by simp [h1])
      have HY : Hid ((!decide (Y = nw)) = !decide (Y = nw)) := hide rfl
      rw [show csR X Y o nw 0 = 71 by unfold csR; rw [if_pos rfl, if_neg (fun h => h1 h.1)]]
      clear h1
      go_enter Tryd.func49, Tryd.ntmps49
      go_wp2_with (refine step_box rfl rfl ?_)
      intro w1 g7 hr1 hl1 hb1
      have G7 := hide hr1
      clear hr1
      go_wp2_with (refine step_box rfl rfl ?_)
      intro w2 g8 hr2 hl2 hb2
      have G8 := hide hr2
      have G72 := hide (G7.out.on hb2)
      have B2 := hide (on_below hb1 hb2)
      clear hr2 hb1 hb2 G7
      go_wp2_with (refine step_loadA wD rfl rfl G72.out HOU.out ?_)
      refine (HB.out.prog a cap _ (HS.out.below B2.out) (HK.out.below B2.out HK.out.lt)).mono ?_
      rintro r w3 ⟨rfl, hb3⟩
      have G83 := hide (G8.out.on hb3)
      have G73 := hide (G72.out.on hb3)
      have B3 := hide (on_below B2.out hb3)
      clear hb3 G72 G8 B2
      go_wp2_with (refine step_alloc zD rfl ?_)
      intro w4 g11 hr4 hl4 hb4
      have G11 := hide hr4
      clear hr4
      go_wp2_with (refine step_alloc zD rfl ?_)
      intro w5 g12 hr5 hl5 hb5
      have h1112 : g11 ≠ g12 := by have := G11.out.lt; omega
      have G12 := hide hr5
      have G115 := hide (G11.out.on hb5)
      have X5 := hide (on_below hb4 hb5)
      have hl35 : w3.heap.size ≤ g12 := Nat.le_trans hb4.size hl5
      clear hr5 hb4 hb5 G11
      go_wp2_with (refine step_storeA wD rfl rfl rfl G115.out HXU.out (One.u8 _) rfl ?_)
      intro w6 hg6 hbut6
      have G116 := hide hg6
      have G126 := hide (G12.out.but hbut6 h1112.symm)
      have X6 := hide (X5.out.trans (hbut6.below hl4))
      clear hg6 hbut6 G115 G12 X5
      go_wp2_with (refine step_storeA wD rfl rfl rfl G126.out HYU.out (One.u8 _) rfl ?_)
      intro w9 hg9 hbut9
      have X9 := hide (X6.out.trans (hbut9.below hl35))
      have GX := hide (G116.out.but hbut9 h1112)
      have GY := hide hg9
      have GO := hide (G73.out.on X9.out)
      have GN := hide (G83.out.on X9.out)
      have B9 := hide (on_below B3.out X9.out)
      clear hg9 hbut9 X9 X6 G116 G126 G73 G83 B3
      go_wp2_with (first | (refine step_loadA wD rfl rfl GX.out HXU.out ?_) | (refine step_loadA wD rfl rfl GO.out HOU.out ?_) | (refine step_loadA wD rfl rfl GY.out HYU.out ?_) | (refine step_loadA wD rfl rfl GN.out HNU.out ?_) | (refine step_neQ aD _ HX.out rfl rfl rfl HXL.out HOL.out ?_) | (refine step_neQ aD _ HY.out rfl rfl rfl HYL.out HNL.out ?_))
      go_ret
      exact ⟨rfl, B9.out⟩
  · rw [show csR X Y o nw E = E by unfold csR; rw [if_neg hE]]
    have hE1 : (E != 0) = true := by simp [hE]
    have hE2 : (E == 0) = false := by simp [hE]
    go_enter Tryd.func49, Tryd.ntmps49
    go_wp2_with (refine step_box rfl rfl ?_)
    intro w1 g7 hr1 hl1 hb1
    have G7 := hide hr1
    clear hr1
    go_wp2_with (refine step_box rfl rfl ?_)
    intro w2 g8 hr2 hl2 hb2
    have G8 := hide hr2
    have G72 := hide (G7.out.on hb2)
    have B2 := hide (on_below hb1 hb2)
    clear hr2 hb1 hb2 G7
    go_wp2_with (refine step_loadA wD rfl rfl G72.out HOU.out ?_)
    refine (HB.out.prog a cap _ (HS.out.below B2.out) (HK.out.below B2.out HK.out.lt)).mono ?_
    rintro r w3 ⟨rfl, hb3⟩
    have G83 := hide (G8.out.on hb3)
    have G73 := hide (G72.out.on hb3)
    have B3 := hide (on_below B2.out hb3)
    clear hb3 G72 G8 B2
    go_wp2_with (refine step_alloc zD rfl ?_)
    intro w4 g11 hr4 hl4 hb4
    have G11 := hide hr4
    clear hr4
    go_wp2_with (refine step_alloc zD rfl ?_)
    intro w5 g12 hr5 hl5 hb5
    have h1112 : g11 ≠ g12 := by have := G11.out.lt; omega
    have G12 := hide hr5
    have G115 := hide (G11.out.on hb5)
    have X5 := hide (on_below hb4 hb5)
    have hl35 : w3.heap.size ≤ g12 := Nat.le_trans hb4.size hl5
    clear hr5 hb4 hb5 G11
    go_wp2_with (refine step_storeA wD rfl rfl rfl G115.out HXU.out (One.u8 _) rfl ?_)
    intro w6 hg6 hbut6
    have G116 := hide hg6
    have G126 := hide (G12.out.but hbut6 h1112.symm)
    have X6 := hide (X5.out.trans (hbut6.below hl4))
    clear hg6 hbut6 G115 G12 X5
    go_wp2_with (refine step_storeA wD rfl rfl rfl G126.out HYU.out (One.u8 _) rfl ?_)
    intro w9 hg9 hbut9
    have X9 := hide (X6.out.trans (hbut9.below hl35))
    have GX := hide (G116.out.but hbut9 h1112)
    have GY := hide hg9
    have GO := hide (G73.out.on X9.out)
    have GN := hide (G83.out.on X9.out)
    have B9 := hide (on_below B3.out X9.out)
    clear hg9 hbut9 X9 X6 G116 G126 G73 G83 B3
    go_wp2
    go_ret
    exact ⟨rfl, B9.out⟩
set_option maxRecDepth 100000 in
set_option maxHeartbeats 2000000 in
theorem consR7_any (o nw : List Int) (m n : Int) (a : Option Addr) (l cap : Nat) (xs X Y : List Int) (E : Int) (w : World) (hB : RT o m n l xs X Y E) (hol : o.length = 32) (hnl : nw.length = 32) (hs : Ds w a l cap xs) :
    Calls Tryd.prog 50 #[.int .i64 m, .int .i64 n, .agg (u8s o).toArray, .agg (u8s nw).toArray, .slice a l cap] w fun r w' => r = .returned (.int .i64 (csR X Y o nw E)) ∧ Below w.heap.size w w' := by
  have HB := hide hB
  have HS := hide hs
  have HXL := hide hB.lx
  have HYL := hide hB.ly
  have HOL := hide hol
  have HNL := hide hnl
  have HXU := hide (show (u8s X).length = 32 by rw [u8s_length, hB.lx])
  have HYU := hide (show (u8s Y).length = 32 by rw [u8s_length, hB.ly])
  have HOU := hide (show (u8s o).length = 32 by rw [u8s_length, hol])
  have HNU := hide (show (u8s nw).length = 32 by rw [u8s_length, hnl])
  clear hs hol hnl hB
  by_cases hE : E = 0
  · subst hE
    by_cases h1 : X = o
    · have HX : Hid ((!decide (X = o)) = false) := hide (by simp [h1])
      by_cases h2 : Y = nw
      · have HY : Hid ((!decide (Y = nw)) = false) := hide (by simp [h2])
        rw [show csR X Y o nw 0 = 0 by unfold csR; rw [if_pos rfl, if_pos ⟨h1, h2⟩]]
        clear h1 h2
        go_enter Tryd.func50, Tryd.ntmps50
        go_wp2_with (refine step_box rfl rfl ?_)
        intro w1 g7 hr1 hl1 hb1
        have G7 := hide hr1
        clear hr1
        go_wp2_with (refine step_box rfl rfl ?_)
        intro w2 g8 hr2 hl2 hb2
        have G8 := hide hr2
        have G72 := hide (G7.out.on hb2)
        have B2 := hide (on_below hb1 hb2)
        clear hr2 hb1 hb2 G7
        go_wp2_with (refine step_loadA wD rfl rfl G72.out HOU.out ?_)
        refine (HB.out.doc a cap _ (HS.out.below B2.out)).mono ?_
        rintro r w3 ⟨rfl, hb3⟩
        have G83 := hide (G8.out.on hb3)
        have G73 := hide (G72.out.on hb3)
        have B3 := hide (on_below B2.out hb3)
        clear hb3 G72 G8 B2
        go_wp2_with (refine step_alloc zD rfl ?_)
        intro w4 g11 hr4 hl4 hb4
        have G11 := hide hr4
        clear hr4
        go_wp2_with (refine step_alloc zD rfl ?_)
        intro w5 g12 hr5 hl5 hb5
        have h1112 : g11 ≠ g12 := by have := G11.out.lt; omega
        have G12 := hide hr5
        have G115 := hide (G11.out.on hb5)
        have X5 := hide (on_below hb4 hb5)
        have hl35 : w3.heap.size ≤ g12 := Nat.le_trans hb4.size hl5
        clear hr5 hb4 hb5 G11
        go_wp2_with (refine step_storeA wD rfl rfl rfl G115.out HXU.out (One.u8 _) rfl ?_)
        intro w6 hg6 hbut6
        have G116 := hide hg6
        have G126 := hide (G12.out.but hbut6 h1112.symm)
        have X6 := hide (X5.out.trans (hbut6.below hl4))
        clear hg6 hbut6 G115 G12 X5
        go_wp2_with (refine step_storeA wD rfl rfl rfl G126.out HYU.out (One.u8 _) rfl ?_)
        intro w9 hg9 hbut9
        have X9 := hide (X6.out.trans (hbut9.below hl35))
        have GX := hide (G116.out.but hbut9 h1112)
        have GY := hide hg9
        have GO := hide (G73.out.on X9.out)
        have GN := hide (G83.out.on X9.out)
        have B9 := hide (on_below B3.out X9.out)
        clear hg9 hbut9 X9 X6 G116 G126 G73 G83 B3
        go_wp2_with (first | (refine step_loadA wD rfl rfl GX.out HXU.out ?_) | (refine step_loadA wD rfl rfl GO.out HOU.out ?_) | (refine step_loadA wD rfl rfl GY.out HYU.out ?_) | (refine step_loadA wD rfl rfl GN.out HNU.out ?_) | (refine step_neQ aD _ HX.out rfl rfl rfl HXL.out HOL.out ?_) | (refine step_neQ aD _ HY.out rfl rfl rfl HYL.out HNL.out ?_))
        go_ret
        exact ⟨rfl, B9.out⟩
      · have HY : Hid ((!decide (Y = nw)) = true) := hide (by simp [h2])
        rw [show csR X Y o nw 0 = 71 by unfold csR; rw [if_pos rfl, if_neg (fun h => h2 h.2)]]
        clear h1 h2
        go_enter Tryd.func50, Tryd.ntmps50
        go_wp2_with (refine step_box rfl rfl ?_)
        intro w1 g7 hr1 hl1 hb1
        have G7 := hide hr1
        clear hr1
        go_wp2_with (refine step_box rfl rfl ?_)
        intro w2 g8 hr2 hl2 hb2
        have G8 := hide hr2
        have G72 := hide (G7.out.on hb2)
        have B2 := hide (on_below hb1 hb2)
        clear hr2 hb1 hb2 G7
        go_wp2_with (refine step_loadA wD rfl rfl G72.out HOU.out ?_)
        refine (HB.out.doc a cap _ (HS.out.below B2.out)).mono ?_
        rintro r w3 ⟨rfl, hb3⟩
        have G83 := hide (G8.out.on hb3)
        have G73 := hide (G72.out.on hb3)
        have B3 := hide (on_below B2.out hb3)
        clear hb3 G72 G8 B2
        go_wp2_with (refine step_alloc zD rfl ?_)
        intro w4 g11 hr4 hl4 hb4
        have G11 := hide hr4
        clear hr4
        go_wp2_with (refine step_alloc zD rfl ?_)
        intro w5 g12 hr5 hl5 hb5
        have h1112 : g11 ≠ g12 := by have := G11.out.lt; omega
        have G12 := hide hr5
        have G115 := hide (G11.out.on hb5)
        have X5 := hide (on_below hb4 hb5)
        have hl35 : w3.heap.size ≤ g12 := Nat.le_trans hb4.size hl5
        clear hr5 hb4 hb5 G11
        go_wp2_with (refine step_storeA wD rfl rfl rfl G115.out HXU.out (One.u8 _) rfl ?_)
        intro w6 hg6 hbut6
        have G116 := hide hg6
        have G126 := hide (G12.out.but hbut6 h1112.symm)
        have X6 := hide (X5.out.trans (hbut6.below hl4))
        clear hg6 hbut6 G115 G12 X5
        go_wp2_with (refine step_storeA wD rfl rfl rfl G126.out HYU.out (One.u8 _) rfl ?_)
        intro w9 hg9 hbut9
        have X9 := hide (X6.out.trans (hbut9.below hl35))
        have GX := hide (G116.out.but hbut9 h1112)
        have GY := hide hg9
        have GO := hide (G73.out.on X9.out)
        have GN := hide (G83.out.on X9.out)
        have B9 := hide (on_below B3.out X9.out)
        clear hg9 hbut9 X9 X6 G116 G126 G73 G83 B3
        go_wp2_with (first | (refine step_loadA wD rfl rfl GX.out HXU.out ?_) | (refine step_loadA wD rfl rfl GO.out HOU.out ?_) | (refine step_loadA wD rfl rfl GY.out HYU.out ?_) | (refine step_loadA wD rfl rfl GN.out HNU.out ?_) | (refine step_neQ aD _ HX.out rfl rfl rfl HXL.out HOL.out ?_) | (refine step_neQ aD _ HY.out rfl rfl rfl HYL.out HNL.out ?_))
        go_ret
        exact ⟨rfl, B9.out⟩
    · have HX : Hid ((!decide (X = o)) = true) := hide (by simp [h1])
      have HY : Hid ((!decide (Y = nw)) = !decide (Y = nw)) := hide rfl
      rw [show csR X Y o nw 0 = 71 by unfold csR; rw [if_pos rfl, if_neg (fun h => h1 h.1)]]
      clear h1
      go_enter Tryd.func50, Tryd.ntmps50
      go_wp2_with (refine step_box rfl rfl ?_)
      intro w1 g7 hr1 hl1 hb1
      have G7 := hide hr1
      clear hr1
      go_wp2_with (refine step_box rfl rfl ?_)
      intro w2 g8 hr2 hl2 hb2
      have G8 := hide hr2
      have G72 := hide (G7.out.on hb2)
      have B2 := hide (on_below hb1 hb2)
      clear hr2 hb1 hb2 G7
      go_wp2_with (refine step_loadA wD rfl rfl G72.out HOU.out ?_)
      refine (HB.out.doc a cap _ (HS.out.below B2.out)).mono ?_
      rintro r w3 ⟨rfl, hb3⟩
      have G83 := hide (G8.out.on hb3)
      have G73 := hide (G72.out.on hb3)
      have B3 := hide (on_below B2.out hb3)
      clear hb3 G72 G8 B2
      go_wp2_with (refine step_alloc zD rfl ?_)
      intro w4 g11 hr4 hl4 hb4
      have G11 := hide hr4
      clear hr4
      go_wp2_with (refine step_alloc zD rfl ?_)
      intro w5 g12 hr5 hl5 hb5
      have h1112 : g11 ≠ g12 := by have := G11.out.lt; omega
      have G12 := hide hr5
      have G115 := hide (G11.out.on hb5)
      have X5 := hide (on_below hb4 hb5)
      have hl35 : w3.heap.size ≤ g12 := Nat.le_trans hb4.size hl5
      clear hr5 hb4 hb5 G11
      go_wp2_with (refine step_storeA wD rfl rfl rfl G115.out HXU.out (One.u8 _) rfl ?_)
      intro w6 hg6 hbut6
      have G116 := hide hg6
      have G126 := hide (G12.out.but hbut6 h1112.symm)
      have X6 := hide (X5.out.trans (hbut6.below hl4))
      clear hg6 hbut6 G115 G12 X5
      go_wp2_with (refine step_storeA wD rfl rfl rfl G126.out HYU.out (One.u8 _) rfl ?_)
      intro w9 hg9 hbut9
      have X9 := hide (X6.out.trans (hbut9.below hl35))
      have GX := hide (G116.out.but hbut9 h1112)
      have GY := hide hg9
      have GO := hide (G73.out.on X9.out)
      have GN := hide (G83.out.on X9.out)
      have B9 := hide (on_below B3.out X9.out)
      clear hg9 hbut9 X9 X6 G116 G126 G73 G83 B3
      go_wp2_with (first | (refine step_loadA wD rfl rfl GX.out HXU.out ?_) | (refine step_loadA wD rfl rfl GO.out HOU.out ?_) | (refine step_loadA wD rfl rfl GY.out HYU.out ?_) | (refine step_loadA wD rfl rfl GN.out HNU.out ?_) | (refine step_neQ aD _ HX.out rfl rfl rfl HXL.out HOL.out ?_) | (refine step_neQ aD _ HY.out rfl rfl rfl HYL.out HNL.out ?_))
      go_ret
      exact ⟨rfl, B9.out⟩
  · rw [show csR X Y o nw E = E by unfold csR; rw [if_neg hE]]
    have hE1 : (E != 0) = true := by simp [hE]
    have hE2 : (E == 0) = false := by simp [hE]
    go_enter Tryd.func50, Tryd.ntmps50
    go_wp2_with (refine step_box rfl rfl ?_)
    intro w1 g7 hr1 hl1 hb1
    have G7 := hide hr1
    clear hr1
    go_wp2_with (refine step_box rfl rfl ?_)
    intro w2 g8 hr2 hl2 hb2
    have G8 := hide hr2
    have G72 := hide (G7.out.on hb2)
    have B2 := hide (on_below hb1 hb2)
    clear hr2 hb1 hb2 G7
    go_wp2_with (refine step_loadA wD rfl rfl G72.out HOU.out ?_)
    refine (HB.out.doc a cap _ (HS.out.below B2.out)).mono ?_
    rintro r w3 ⟨rfl, hb3⟩
    have G83 := hide (G8.out.on hb3)
    have G73 := hide (G72.out.on hb3)
    have B3 := hide (on_below B2.out hb3)
    clear hb3 G72 G8 B2
    go_wp2_with (refine step_alloc zD rfl ?_)
    intro w4 g11 hr4 hl4 hb4
    have G11 := hide hr4
    clear hr4
    go_wp2_with (refine step_alloc zD rfl ?_)
    intro w5 g12 hr5 hl5 hb5
    have h1112 : g11 ≠ g12 := by have := G11.out.lt; omega
    have G12 := hide hr5
    have G115 := hide (G11.out.on hb5)
    have X5 := hide (on_below hb4 hb5)
    have hl35 : w3.heap.size ≤ g12 := Nat.le_trans hb4.size hl5
    clear hr5 hb4 hb5 G11
    go_wp2_with (refine step_storeA wD rfl rfl rfl G115.out HXU.out (One.u8 _) rfl ?_)
    intro w6 hg6 hbut6
    have G116 := hide hg6
    have G126 := hide (G12.out.but hbut6 h1112.symm)
    have X6 := hide (X5.out.trans (hbut6.below hl4))
    clear hg6 hbut6 G115 G12 X5
    go_wp2_with (refine step_storeA wD rfl rfl rfl G126.out HYU.out (One.u8 _) rfl ?_)
    intro w9 hg9 hbut9
    have X9 := hide (X6.out.trans (hbut9.below hl35))
    have GX := hide (G116.out.but hbut9 h1112)
    have GY := hide hg9
    have GO := hide (G73.out.on X9.out)
    have GN := hide (G83.out.on X9.out)
    have B9 := hide (on_below B3.out X9.out)
    clear hg9 hbut9 X9 X6 G116 G126 G73 G83 B3
    go_wp2
    go_ret
    exact ⟨rfl, B9.out⟩

end Go.Proofs.YtojepbapdjkknaaDoor
