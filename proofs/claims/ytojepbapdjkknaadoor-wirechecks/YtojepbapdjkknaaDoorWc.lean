/-
  Check and CheckTwo, of the program and of the document.
-/
import Derived.Test.YtojepbapdjkknaaDoorWx
import Derived.Test.YtojepbapdjkknaaDoorVi
import Derived.Test.YtojepbapdjkknaaDoorVy
namespace Go.Proofs.YtojepbapdjkknaaDoor
open Go.RowKit
set_option linter.unusedVariables false
set_option linter.unusedSimpArgs false

/-- What a check tells: Decode's error, or that it is of the other kind, or what the verifier tells. -/
def ckR (E k K R : Int) : Int := if E = 0 then (if k = K then R else 2) else E
section
variable {xs : List Int} {k f s : Int} {n : Nat} {ys : List Int} {E : Int}
set_option maxRecDepth 100000 in
set_option maxHeartbeats 1000000 in
theorem check_any (hD : DecB xs k f s n ys E) (x y : List Int) (R : Int) (a : Option Addr) (len cap : Nat) (w : World) (hs : Sl w a len cap xs) (hx : x.length = 32) (hy : y.length = 32)
    (hV : ∀ (va : Option Addr) (vc : Nat) (V : World), Below w.heap.size w V → Ds V va n vc ys → Calls Tryd.prog 46 #[.agg (u8s x).toArray, .int .i64 f, .int .i64 s, .slice va n vc, .agg (u8s y).toArray] V fun r w' => r = .returned (.int .i64 R) ∧ Below V.heap.size V w') :
    Calls Tryd.prog 20 #[.slice a len cap, .agg (u8s x).toArray, .agg (u8s y).toArray] w fun r w' => r = .returned (.int .i64 (ckR E k 1 R)) ∧ Below w.heap.size w w' := by
  have hn49 := hD.few
  have HYB := hide (hD.byte hs.hbyte)
  have HS := hide hs
  have HD := hide hD
  have HXU := hide (show (u8s x).length = 32 by rw [u8s_length, hx])
  have HYU := hide (show (u8s y).length = 32 by rw [u8s_length, hy])
  have HV := hide hV
  clear hs hD hV hx hy
  by_cases hE : E = 0
  · subst hE
    by_cases hk : k = 1
    · subst hk
      rw [show ckR 0 1 1 R = R from rfl]
      go_enter Tryd.func20, Tryd.ntmps20
      go_wp2_with (refine step_box rfl rfl ?_)
      intro w1 g4 hr1 hl1 hb1
      have G4 := hide hr1
      clear hr1
      go_wp2_with (refine step_box rfl rfl ?_)
      intro w2 g5 hr2 hl2 hb2
      have G52 := hide hr2
      have G42 := hide (G4.out.on hb2)
      have B2 := hide (on_below hb1 hb2)
      clear hr2 hb1 hb2 G4
      go_wp2_with fail
      refine (decodeB HD.out _ _ _ _ (HS.out.below B2.out)).mono ?_
      rintro r w3 ⟨hb3, v, rfl, ho⟩
      obtain ⟨va, vc, rfl, hds, _⟩ := ho.ds HYB.out (by omega)
      have B3 := hide (on_below B2.out hb3)
      have G43 := hide (G42.out.on hb3)
      have G53 := hide (G52.out.on hb3)
      have D3 := hide hds
      clear hds ho hb3 G42 G52 B2
      go_wp2_with (refine step_alloc zP rfl ?_)
      intro w4 g7 hr4 hl4 hb4
      have R4 := hide hr4
      clear hr4
      go_wp2_with (refine step_storeA wP rfl rfl rfl R4.out rfl (One.pf _ _ _ _ _ _) rfl ?_)
      intro w5 hg5 hbut5
      have Y5 := hide (hb4.trans (hbut5.below hl4))
      have B5 := hide (on_below B3.out Y5.out)
      have G45 := hide (G43.out.on Y5.out)
      have G55 := hide (G53.out.on Y5.out)
      have D5 := hide (D3.out.below Y5.out)
      obtain ⟨c0, c1, c2', c3⟩ := pf_at hg5
      clear hb4 hbut5 hl4 R4 Y5 B3 G43 G53 D3 hg5
      go_wp2_with (first | (refine step_loadA wD rfl rfl G45.out HXU.out ?_) | (refine step_loadA wD rfl rfl G55.out HYU.out ?_) | fail)
      refine (HV.out va vc _ B5.out D5.out).mono ?_
      rintro r w6 ⟨rfl, hb6⟩
      go_wp2
      go_ret
      exact ⟨rfl, on_below B5.out hb6⟩
    · have hk' : (k != 1) = true := by simpa using hk
      rw [show ckR 0 k 1 R = 2 by unfold ckR; rw [if_pos rfl, if_neg hk]]
      go_enter Tryd.func20, Tryd.ntmps20
      go_wp2_with (refine step_box rfl rfl ?_)
      intro w1 g4 hr1 hl1 hb1
      have G4 := hide hr1
      clear hr1
      go_wp2_with (refine step_box rfl rfl ?_)
      intro w2 g5 hr2 hl2 hb2
      have G52 := hide hr2
      have G42 := hide (G4.out.on hb2)
      have B2 := hide (on_below hb1 hb2)
      clear hr2 hb1 hb2 G4
      go_wp2_with fail
      refine (decodeB HD.out _ _ _ _ (HS.out.below B2.out)).mono ?_
      rintro r w3 ⟨hb3, v, rfl, ho⟩
      obtain ⟨va, vc, rfl, hds, _⟩ := ho.ds HYB.out (by omega)
      have B3 := hide (on_below B2.out hb3)
      have G43 := hide (G42.out.on hb3)
      have G53 := hide (G52.out.on hb3)
      have D3 := hide hds
      clear hds ho hb3 G42 G52 B2
      go_wp2_with (refine step_alloc zP rfl ?_)
      intro w4 g7 hr4 hl4 hb4
      have R4 := hide hr4
      clear hr4
      go_wp2_with (refine step_storeA wP rfl rfl rfl R4.out rfl (One.pf _ _ _ _ _ _) rfl ?_)
      intro w5 hg5 hbut5
      have Y5 := hide (hb4.trans (hbut5.below hl4))
      have B5 := hide (on_below B3.out Y5.out)
      have G45 := hide (G43.out.on Y5.out)
      have G55 := hide (G53.out.on Y5.out)
      have D5 := hide (D3.out.below Y5.out)
      obtain ⟨c0, c1, c2', c3⟩ := pf_at hg5
      clear hb4 hbut5 hl4 R4 Y5 B3 G43 G53 D3 hg5
      go_wp2
      go_ret
      exact ⟨rfl, B5.out⟩
  · have hE' : (E != 0) = true := by simpa using hE
    rw [show ckR E k 1 R = E by unfold ckR; rw [if_neg hE]]
    go_enter Tryd.func20, Tryd.ntmps20
    go_wp2_with (refine step_box rfl rfl ?_)
    intro w1 g4 hr1 hl1 hb1
    have G4 := hide hr1
    clear hr1
    go_wp2_with (refine step_box rfl rfl ?_)
    intro w2 g5 hr2 hl2 hb2
    have G52 := hide hr2
    have G42 := hide (G4.out.on hb2)
    have B2 := hide (on_below hb1 hb2)
    clear hr2 hb1 hb2 G4
    go_wp2_with fail
    refine (decodeB HD.out _ _ _ _ (HS.out.below B2.out)).mono ?_
    rintro r w3 ⟨hb3, v, rfl, ho⟩
    obtain ⟨va, vc, rfl, hds, _⟩ := ho.ds HYB.out (by omega)
    have B3 := hide (on_below B2.out hb3)
    have G43 := hide (G42.out.on hb3)
    have G53 := hide (G52.out.on hb3)
    have D3 := hide hds
    clear hds ho hb3 G42 G52 B2
    go_wp2_with (refine step_alloc zP rfl ?_)
    intro w4 g7 hr4 hl4 hb4
    have R4 := hide hr4
    clear hr4
    go_wp2_with (refine step_storeA wP rfl rfl rfl R4.out rfl (One.pf _ _ _ _ _ _) rfl ?_)
    intro w5 hg5 hbut5
    have Y5 := hide (hb4.trans (hbut5.below hl4))
    have B5 := hide (on_below B3.out Y5.out)
    have G45 := hide (G43.out.on Y5.out)
    have G55 := hide (G53.out.on Y5.out)
    have D5 := hide (D3.out.below Y5.out)
    obtain ⟨c0, c1, c2', c3⟩ := pf_at hg5
    clear hb4 hbut5 hl4 R4 Y5 B3 G43 G53 D3 hg5
    go_wp2
    go_ret
    exact ⟨rfl, B5.out⟩
set_option maxRecDepth 100000 in
set_option maxHeartbeats 1000000 in
theorem check2_any (hD : DecB xs k f s n ys E) (x y : List Int) (R : Int) (a : Option Addr) (len cap : Nat) (w : World) (hs : Sl w a len cap xs) (hx : x.length = 32) (hy : y.length = 32)
    (hV : ∀ (va : Option Addr) (vc : Nat) (V : World), Below w.heap.size w V → Ds V va n vc ys → Calls Tryd.prog 49 #[.int .i64 f, .int .i64 s, .agg (u8s x).toArray, .agg (u8s y).toArray, .slice va n vc] V fun r w' => r = .returned (.int .i64 R) ∧ Below V.heap.size V w') :
    Calls Tryd.prog 22 #[.slice a len cap, .agg (u8s x).toArray, .agg (u8s y).toArray] w fun r w' => r = .returned (.int .i64 (ckR E k 2 R)) ∧ Below w.heap.size w w' := by
  have hn49 := hD.few
  have HYB := hide (hD.byte hs.hbyte)
  have HS := hide hs
  have HD := hide hD
  have HXU := hide (show (u8s x).length = 32 by rw [u8s_length, hx])
  have HYU := hide (show (u8s y).length = 32 by rw [u8s_length, hy])
  have HV := hide hV
  clear hs hD hV hx hy
  by_cases hE : E = 0
  · subst hE
    by_cases hk : k = 2
    · subst hk
      rw [show ckR 0 2 2 R = R from rfl]
      go_enter Tryd.func22, Tryd.ntmps22
      go_wp2_with (refine step_box rfl rfl ?_)
      intro w1 g4 hr1 hl1 hb1
      have G4 := hide hr1
      clear hr1
      go_wp2_with (refine step_box rfl rfl ?_)
      intro w2 g5 hr2 hl2 hb2
      have G52 := hide hr2
      have G42 := hide (G4.out.on hb2)
      have B2 := hide (on_below hb1 hb2)
      clear hr2 hb1 hb2 G4
      go_wp2_with fail
      refine (decodeB HD.out _ _ _ _ (HS.out.below B2.out)).mono ?_
      rintro r w3 ⟨hb3, v, rfl, ho⟩
      obtain ⟨va, vc, rfl, hds, _⟩ := ho.ds HYB.out (by omega)
      have B3 := hide (on_below B2.out hb3)
      have G43 := hide (G42.out.on hb3)
      have G53 := hide (G52.out.on hb3)
      have D3 := hide hds
      clear hds ho hb3 G42 G52 B2
      go_wp2_with (refine step_alloc zP rfl ?_)
      intro w4 g7 hr4 hl4 hb4
      have R4 := hide hr4
      clear hr4
      go_wp2_with (refine step_storeA wP rfl rfl rfl R4.out rfl (One.pf _ _ _ _ _ _) rfl ?_)
      intro w5 hg5 hbut5
      have Y5 := hide (hb4.trans (hbut5.below hl4))
      have B5 := hide (on_below B3.out Y5.out)
      have G45 := hide (G43.out.on Y5.out)
      have G55 := hide (G53.out.on Y5.out)
      have D5 := hide (D3.out.below Y5.out)
      obtain ⟨c0, c1, c2', c3⟩ := pf_at hg5
      clear hb4 hbut5 hl4 R4 Y5 B3 G43 G53 D3 hg5
      go_wp2_with (first | (refine step_loadA wD rfl rfl G45.out HXU.out ?_) | (refine step_loadA wD rfl rfl G55.out HYU.out ?_) | fail)
      refine (HV.out va vc _ B5.out D5.out).mono ?_
      rintro r w6 ⟨rfl, hb6⟩
      go_wp2
      go_ret
      exact ⟨rfl, on_below B5.out hb6⟩
    · have hk' : (k != 2) = true := by simpa using hk
      rw [show ckR 0 k 2 R = 2 by unfold ckR; rw [if_pos rfl, if_neg hk]]
      go_enter Tryd.func22, Tryd.ntmps22
      go_wp2_with (refine step_box rfl rfl ?_)
      intro w1 g4 hr1 hl1 hb1
      have G4 := hide hr1
      clear hr1
      go_wp2_with (refine step_box rfl rfl ?_)
      intro w2 g5 hr2 hl2 hb2
      have G52 := hide hr2
      have G42 := hide (G4.out.on hb2)
      have B2 := hide (on_below hb1 hb2)
      clear hr2 hb1 hb2 G4
      go_wp2_with fail
      refine (decodeB HD.out _ _ _ _ (HS.out.below B2.out)).mono ?_
      rintro r w3 ⟨hb3, v, rfl, ho⟩
      obtain ⟨va, vc, rfl, hds, _⟩ := ho.ds HYB.out (by omega)
      have B3 := hide (on_below B2.out hb3)
      have G43 := hide (G42.out.on hb3)
      have G53 := hide (G52.out.on hb3)
      have D3 := hide hds
      clear hds ho hb3 G42 G52 B2
      go_wp2_with (refine step_alloc zP rfl ?_)
      intro w4 g7 hr4 hl4 hb4
      have R4 := hide hr4
      clear hr4
      go_wp2_with (refine step_storeA wP rfl rfl rfl R4.out rfl (One.pf _ _ _ _ _ _) rfl ?_)
      intro w5 hg5 hbut5
      have Y5 := hide (hb4.trans (hbut5.below hl4))
      have B5 := hide (on_below B3.out Y5.out)
      have G45 := hide (G43.out.on Y5.out)
      have G55 := hide (G53.out.on Y5.out)
      have D5 := hide (D3.out.below Y5.out)
      obtain ⟨c0, c1, c2', c3⟩ := pf_at hg5
      clear hb4 hbut5 hl4 R4 Y5 B3 G43 G53 D3 hg5
      go_wp2
      go_ret
      exact ⟨rfl, B5.out⟩
  · have hE' : (E != 0) = true := by simpa using hE
    rw [show ckR E k 2 R = E by unfold ckR; rw [if_neg hE]]
    go_enter Tryd.func22, Tryd.ntmps22
    go_wp2_with (refine step_box rfl rfl ?_)
    intro w1 g4 hr1 hl1 hb1
    have G4 := hide hr1
    clear hr1
    go_wp2_with (refine step_box rfl rfl ?_)
    intro w2 g5 hr2 hl2 hb2
    have G52 := hide hr2
    have G42 := hide (G4.out.on hb2)
    have B2 := hide (on_below hb1 hb2)
    clear hr2 hb1 hb2 G4
    go_wp2_with fail
    refine (decodeB HD.out _ _ _ _ (HS.out.below B2.out)).mono ?_
    rintro r w3 ⟨hb3, v, rfl, ho⟩
    obtain ⟨va, vc, rfl, hds, _⟩ := ho.ds HYB.out (by omega)
    have B3 := hide (on_below B2.out hb3)
    have G43 := hide (G42.out.on hb3)
    have G53 := hide (G52.out.on hb3)
    have D3 := hide hds
    clear hds ho hb3 G42 G52 B2
    go_wp2_with (refine step_alloc zP rfl ?_)
    intro w4 g7 hr4 hl4 hb4
    have R4 := hide hr4
    clear hr4
    go_wp2_with (refine step_storeA wP rfl rfl rfl R4.out rfl (One.pf _ _ _ _ _ _) rfl ?_)
    intro w5 hg5 hbut5
    have Y5 := hide (hb4.trans (hbut5.below hl4))
    have B5 := hide (on_below B3.out Y5.out)
    have G45 := hide (G43.out.on Y5.out)
    have G55 := hide (G53.out.on Y5.out)
    have D5 := hide (D3.out.below Y5.out)
    obtain ⟨c0, c1, c2', c3⟩ := pf_at hg5
    clear hb4 hbut5 hl4 R4 Y5 B3 G43 G53 D3 hg5
    go_wp2
    go_ret
    exact ⟨rfl, B5.out⟩
set_option maxRecDepth 100000 in
set_option maxHeartbeats 1000000 in
theorem checkR_any (hD : DecB xs k f s n ys E) (x y : List Int) (R : Int) (a : Option Addr) (len cap : Nat) (w : World) (hs : Sl w a len cap xs) (hx : x.length = 32) (hy : y.length = 32)
    (hV : ∀ (va : Option Addr) (vc : Nat) (V : World), Below w.heap.size w V → Ds V va n vc ys → Calls Tryd.prog 48 #[.agg (u8s x).toArray, .int .i64 f, .int .i64 s, .slice va n vc, .agg (u8s y).toArray] V fun r w' => r = .returned (.int .i64 R) ∧ Below V.heap.size V w') :
    Calls Tryd.prog 21 #[.slice a len cap, .agg (u8s x).toArray, .agg (u8s y).toArray] w fun r w' => r = .returned (.int .i64 (ckR E k 1 R)) ∧ Below w.heap.size w w' := by
  have hn49 := hD.few
  have HYB := hide (hD.byte hs.hbyte)
  have HS := hide hs
  have HD := hide hD
  have HXU := hide (show (u8s x).length = 32 by rw [u8s_length, hx])
  have HYU := hide (show (u8s y).length = 32 by rw [u8s_length, hy])
  have HV := hide hV
  clear hs hD hV hx hy
  by_cases hE : E = 0
  · subst hE
    by_cases hk : k = 1
    · subst hk
      rw [show ckR 0 1 1 R = R from rfl]
      go_enter Tryd.func21, Tryd.ntmps21
      go_wp2_with (refine step_box rfl rfl ?_)
      intro w1 g4 hr1 hl1 hb1
      have G4 := hide hr1
      clear hr1
      go_wp2_with (refine step_box rfl rfl ?_)
      intro w2 g5 hr2 hl2 hb2
      have G52 := hide hr2
      have G42 := hide (G4.out.on hb2)
      have B2 := hide (on_below hb1 hb2)
      clear hr2 hb1 hb2 G4
      go_wp2_with fail
      refine (decodeRB HD.out _ _ _ _ (HS.out.below B2.out)).mono ?_
      rintro r w3 ⟨hb3, v, rfl, ho⟩
      obtain ⟨va, vc, rfl, hds, _⟩ := ho.ds HYB.out (by omega)
      have B3 := hide (on_below B2.out hb3)
      have G43 := hide (G42.out.on hb3)
      have G53 := hide (G52.out.on hb3)
      have D3 := hide hds
      clear hds ho hb3 G42 G52 B2
      go_wp2_with (refine step_alloc zP rfl ?_)
      intro w4 g7 hr4 hl4 hb4
      have R4 := hide hr4
      clear hr4
      go_wp2_with (refine step_storeA wP rfl rfl rfl R4.out rfl (One.pf _ _ _ _ _ _) rfl ?_)
      intro w5 hg5 hbut5
      have Y5 := hide (hb4.trans (hbut5.below hl4))
      have B5 := hide (on_below B3.out Y5.out)
      have G45 := hide (G43.out.on Y5.out)
      have G55 := hide (G53.out.on Y5.out)
      have D5 := hide (D3.out.below Y5.out)
      obtain ⟨c0, c1, c2', c3⟩ := pf_at hg5
      clear hb4 hbut5 hl4 R4 Y5 B3 G43 G53 D3 hg5
      go_wp2_with (first | (refine step_loadA wD rfl rfl G45.out HXU.out ?_) | (refine step_loadA wD rfl rfl G55.out HYU.out ?_) | fail)
      refine (HV.out va vc _ B5.out D5.out).mono ?_
      rintro r w6 ⟨rfl, hb6⟩
      go_wp2
      go_ret
      exact ⟨rfl, on_below B5.out hb6⟩
    · have hk' : (k != 1) = true := by simpa using hk
      rw [show ckR 0 k 1 R = 2 by unfold ckR; rw [if_pos rfl, if_neg hk]]
      go_enter Tryd.func21, Tryd.ntmps21
      go_wp2_with (refine step_box rfl rfl ?_)
      intro w1 g4 hr1 hl1 hb1
      have G4 := hide hr1
      clear hr1
      go_wp2_with (refine step_box rfl rfl ?_)
      intro w2 g5 hr2 hl2 hb2
      have G52 := hide hr2
      have G42 := hide (G4.out.on hb2)
      have B2 := hide (on_below hb1 hb2)
      clear hr2 hb1 hb2 G4
      go_wp2_with fail
      refine (decodeRB HD.out _ _ _ _ (HS.out.below B2.out)).mono ?_
      rintro r w3 ⟨hb3, v, rfl, ho⟩
      obtain ⟨va, vc, rfl, hds, _⟩ := ho.ds HYB.out (by omega)
      have B3 := hide (on_below B2.out hb3)
      have G43 := hide (G42.out.on hb3)
      have G53 := hide (G52.out.on hb3)
      have D3 := hide hds
      clear hds ho hb3 G42 G52 B2
      go_wp2_with (refine step_alloc zP rfl ?_)
      intro w4 g7 hr4 hl4 hb4
      have R4 := hide hr4
      clear hr4
      go_wp2_with (refine step_storeA wP rfl rfl rfl R4.out rfl (One.pf _ _ _ _ _ _) rfl ?_)
      intro w5 hg5 hbut5
      have Y5 := hide (hb4.trans (hbut5.below hl4))
      have B5 := hide (on_below B3.out Y5.out)
      have G45 := hide (G43.out.on Y5.out)
      have G55 := hide (G53.out.on Y5.out)
      have D5 := hide (D3.out.below Y5.out)
      obtain ⟨c0, c1, c2', c3⟩ := pf_at hg5
      clear hb4 hbut5 hl4 R4 Y5 B3 G43 G53 D3 hg5
      go_wp2
      go_ret
      exact ⟨rfl, B5.out⟩
  · have hE' : (E != 0) = true := by simpa using hE
    rw [show ckR E k 1 R = E by unfold ckR; rw [if_neg hE]]
    go_enter Tryd.func21, Tryd.ntmps21
    go_wp2_with (refine step_box rfl rfl ?_)
    intro w1 g4 hr1 hl1 hb1
    have G4 := hide hr1
    clear hr1
    go_wp2_with (refine step_box rfl rfl ?_)
    intro w2 g5 hr2 hl2 hb2
    have G52 := hide hr2
    have G42 := hide (G4.out.on hb2)
    have B2 := hide (on_below hb1 hb2)
    clear hr2 hb1 hb2 G4
    go_wp2_with fail
    refine (decodeRB HD.out _ _ _ _ (HS.out.below B2.out)).mono ?_
    rintro r w3 ⟨hb3, v, rfl, ho⟩
    obtain ⟨va, vc, rfl, hds, _⟩ := ho.ds HYB.out (by omega)
    have B3 := hide (on_below B2.out hb3)
    have G43 := hide (G42.out.on hb3)
    have G53 := hide (G52.out.on hb3)
    have D3 := hide hds
    clear hds ho hb3 G42 G52 B2
    go_wp2_with (refine step_alloc zP rfl ?_)
    intro w4 g7 hr4 hl4 hb4
    have R4 := hide hr4
    clear hr4
    go_wp2_with (refine step_storeA wP rfl rfl rfl R4.out rfl (One.pf _ _ _ _ _ _) rfl ?_)
    intro w5 hg5 hbut5
    have Y5 := hide (hb4.trans (hbut5.below hl4))
    have B5 := hide (on_below B3.out Y5.out)
    have G45 := hide (G43.out.on Y5.out)
    have G55 := hide (G53.out.on Y5.out)
    have D5 := hide (D3.out.below Y5.out)
    obtain ⟨c0, c1, c2', c3⟩ := pf_at hg5
    clear hb4 hbut5 hl4 R4 Y5 B3 G43 G53 D3 hg5
    go_wp2
    go_ret
    exact ⟨rfl, B5.out⟩
set_option maxRecDepth 100000 in
set_option maxHeartbeats 1000000 in
theorem checkR2_any (hD : DecB xs k f s n ys E) (x y : List Int) (R : Int) (a : Option Addr) (len cap : Nat) (w : World) (hs : Sl w a len cap xs) (hx : x.length = 32) (hy : y.length = 32)
    (hV : ∀ (va : Option Addr) (vc : Nat) (V : World), Below w.heap.size w V → Ds V va n vc ys → Calls Tryd.prog 50 #[.int .i64 f, .int .i64 s, .agg (u8s x).toArray, .agg (u8s y).toArray, .slice va n vc] V fun r w' => r = .returned (.int .i64 R) ∧ Below V.heap.size V w') :
    Calls Tryd.prog 23 #[.slice a len cap, .agg (u8s x).toArray, .agg (u8s y).toArray] w fun r w' => r = .returned (.int .i64 (ckR E k 2 R)) ∧ Below w.heap.size w w' := by
  have hn49 := hD.few
  have HYB := hide (hD.byte hs.hbyte)
  have HS := hide hs
  have HD := hide hD
  have HXU := hide (show (u8s x).length = 32 by rw [u8s_length, hx])
  have HYU := hide (show (u8s y).length = 32 by rw [u8s_length, hy])
  have HV := hide hV
  clear hs hD hV hx hy
  by_cases hE : E = 0
  · subst hE
    by_cases hk : k = 2
    · subst hk
      rw [show ckR 0 2 2 R = R from rfl]
      go_enter Tryd.func23, Tryd.ntmps23
      go_wp2_with (refine step_box rfl rfl ?_)
      intro w1 g4 hr1 hl1 hb1
      have G4 := hide hr1
      clear hr1
      go_wp2_with (refine step_box rfl rfl ?_)
      intro w2 g5 hr2 hl2 hb2
      have G52 := hide hr2
      have G42 := hide (G4.out.on hb2)
      have B2 := hide (on_below hb1 hb2)
      clear hr2 hb1 hb2 G4
      go_wp2_with fail
      refine (decodeRB HD.out _ _ _ _ (HS.out.below B2.out)).mono ?_
      rintro r w3 ⟨hb3, v, rfl, ho⟩
      obtain ⟨va, vc, rfl, hds, _⟩ := ho.ds HYB.out (by omega)
      have B3 := hide (on_below B2.out hb3)
      have G43 := hide (G42.out.on hb3)
      have G53 := hide (G52.out.on hb3)
      have D3 := hide hds
      clear hds ho hb3 G42 G52 B2
      go_wp2_with (refine step_alloc zP rfl ?_)
      intro w4 g7 hr4 hl4 hb4
      have R4 := hide hr4
      clear hr4
      go_wp2_with (refine step_storeA wP rfl rfl rfl R4.out rfl (One.pf _ _ _ _ _ _) rfl ?_)
      intro w5 hg5 hbut5
      have Y5 := hide (hb4.trans (hbut5.below hl4))
      have B5 := hide (on_below B3.out Y5.out)
      have G45 := hide (G43.out.on Y5.out)
      have G55 := hide (G53.out.on Y5.out)
      have D5 := hide (D3.out.below Y5.out)
      obtain ⟨c0, c1, c2', c3⟩ := pf_at hg5
      clear hb4 hbut5 hl4 R4 Y5 B3 G43 G53 D3 hg5
      go_wp2_with (first | (refine step_loadA wD rfl rfl G45.out HXU.out ?_) | (refine step_loadA wD rfl rfl G55.out HYU.out ?_) | fail)
      refine (HV.out va vc _ B5.out D5.out).mono ?_
      rintro r w6 ⟨rfl, hb6⟩
      go_wp2
      go_ret
      exact ⟨rfl, on_below B5.out hb6⟩
    · have hk' : (k != 2) = true := by simpa using hk
      rw [show ckR 0 k 2 R = 2 by unfold ckR; rw [if_pos rfl, if_neg hk]]
      go_enter Tryd.func23, Tryd.ntmps23
      go_wp2_with (refine step_box rfl rfl ?_)
      intro w1 g4 hr1 hl1 hb1
      have G4 := hide hr1
      clear hr1
      go_wp2_with (refine step_box rfl rfl ?_)
      intro w2 g5 hr2 hl2 hb2
      have G52 := hide hr2
      have G42 := hide (G4.out.on hb2)
      have B2 := hide (on_below hb1 hb2)
      clear hr2 hb1 hb2 G4
      go_wp2_with fail
      refine (decodeRB HD.out _ _ _ _ (HS.out.below B2.out)).mono ?_
      rintro r w3 ⟨hb3, v, rfl, ho⟩
      obtain ⟨va, vc, rfl, hds, _⟩ := ho.ds HYB.out (by omega)
      have B3 := hide (on_below B2.out hb3)
      have G43 := hide (G42.out.on hb3)
      have G53 := hide (G52.out.on hb3)
      have D3 := hide hds
      clear hds ho hb3 G42 G52 B2
      go_wp2_with (refine step_alloc zP rfl ?_)
      intro w4 g7 hr4 hl4 hb4
      have R4 := hide hr4
      clear hr4
      go_wp2_with (refine step_storeA wP rfl rfl rfl R4.out rfl (One.pf _ _ _ _ _ _) rfl ?_)
      intro w5 hg5 hbut5
      have Y5 := hide (hb4.trans (hbut5.below hl4))
      have B5 := hide (on_below B3.out Y5.out)
      have G45 := hide (G43.out.on Y5.out)
      have G55 := hide (G53.out.on Y5.out)
      have D5 := hide (D3.out.below Y5.out)
      obtain ⟨c0, c1, c2', c3⟩ := pf_at hg5
      clear hb4 hbut5 hl4 R4 Y5 B3 G43 G53 D3 hg5
      go_wp2
      go_ret
      exact ⟨rfl, B5.out⟩
  · have hE' : (E != 0) = true := by simpa using hE
    rw [show ckR E k 2 R = E by unfold ckR; rw [if_neg hE]]
    go_enter Tryd.func23, Tryd.ntmps23
    go_wp2_with (refine step_box rfl rfl ?_)
    intro w1 g4 hr1 hl1 hb1
    have G4 := hide hr1
    clear hr1
    go_wp2_with (refine step_box rfl rfl ?_)
    intro w2 g5 hr2 hl2 hb2
    have G52 := hide hr2
    have G42 := hide (G4.out.on hb2)
    have B2 := hide (on_below hb1 hb2)
    clear hr2 hb1 hb2 G4
    go_wp2_with fail
    refine (decodeRB HD.out _ _ _ _ (HS.out.below B2.out)).mono ?_
    rintro r w3 ⟨hb3, v, rfl, ho⟩
    obtain ⟨va, vc, rfl, hds, _⟩ := ho.ds HYB.out (by omega)
    have B3 := hide (on_below B2.out hb3)
    have G43 := hide (G42.out.on hb3)
    have G53 := hide (G52.out.on hb3)
    have D3 := hide hds
    clear hds ho hb3 G42 G52 B2
    go_wp2_with (refine step_alloc zP rfl ?_)
    intro w4 g7 hr4 hl4 hb4
    have R4 := hide hr4
    clear hr4
    go_wp2_with (refine step_storeA wP rfl rfl rfl R4.out rfl (One.pf _ _ _ _ _ _) rfl ?_)
    intro w5 hg5 hbut5
    have Y5 := hide (hb4.trans (hbut5.below hl4))
    have B5 := hide (on_below B3.out Y5.out)
    have G45 := hide (G43.out.on Y5.out)
    have G55 := hide (G53.out.on Y5.out)
    have D5 := hide (D3.out.below Y5.out)
    obtain ⟨c0, c1, c2', c3⟩ := pf_at hg5
    clear hb4 hbut5 hl4 R4 Y5 B3 G43 G53 D3 hg5
    go_wp2
    go_ret
    exact ⟨rfl, B5.out⟩
end

end Go.Proofs.YtojepbapdjkknaaDoor
