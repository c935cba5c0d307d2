/-
  A digest that grows: New, Write, Sum, Len of a state that a call made.
-/
import Derived.Test.YtbankdepjpeniaaDoorWb
namespace Go.Proofs.YtbankdepjpeniaaDoor
open Go.RowKit
set_option linter.unusedVariables false

theorem made_yes (h : List Int) (n0 : Nat) (m : List Int) (g : Nat) (w : World) (hg : Blk w g 38 (stM h n0 m)) :
    Calls Tryd.prog 36 #[.pointer (some ⟨g, 0, none⟩)] w fun e w' => e = .returned (.bool true) ∧ w = w' := by
  have c0 : w.cell? ⟨g, 0, none⟩ = some (.bool true) := by rw [hg.cell]; rfl
  go_enter Tryd.func36, Tryd.ntmps36
  go_wp2
  go_ret
  exact ⟨rfl, rfl⟩

set_option maxHeartbeats 1000000 in
theorem new_any (w : World) : Calls Tryd.prog 21 #[] w fun e w' => ∃ g, e = .returned (.pointer (some ⟨g, 0, none⟩)) ∧ w.heap.size ≤ g ∧ Blk w' g 38 (stM bL 0 []) ∧ Below w.heap.size w w' := by
  have HL := hide (stM_length bL 0 [] rfl)
  go_enter Tryd.func21, Tryd.ntmps21
  go_wp2_with fail
  refine (begun_any _).mono ?_
  rintro e w1 ⟨rfl, hb1⟩
  go_wp2_with (first | (refine step_alloc zSt rfl ?_; intro w2 g hg hle hb2; have HG := hide hg; clear hg) | (refine step_storeA wSt rfl rfl rfl HG.out HL.out (One.st _ _ _ _) rfl ?_; intro w3 hg3 hbut3))
  go_ret
  exact ⟨g, rfl, Nat.le_trans hb1.size hle, hg3, hb1.trans ((hb2.trans (hbut3.below hle)).mono hb1.size)⟩

set_option maxHeartbeats 1000000 in
theorem write_any (h : List Int) (n0 : Nat) (m : List Int) (g : Nat) (a : Option Addr) (len cap : Nat) (xs : List Int) (w : World) (hg : Blk w g 38 (stM h n0 m)) (hh : h.length = 8) (hn0 : n0 % 64 = 0) (hmb : isB m)
    (hs : Sl w a len cap xs) (hap : 0 < len → Apart g a) (hk : KT w) (hg0 : g ≠ 0) (hbd : n0 + m.length + len ≤ 2305843009213693951) :
    Calls Tryd.prog 16 #[.pointer (some ⟨g, 0, none⟩), .slice a len cap] w fun e w' => e = .returned (.int .i64 0) ∧ Blk w' g 38 (stM h n0 (m ++ xs)) ∧ Chg g w w' := by
  have c9 : w.cell? ⟨g, 9, none⟩ = some (.int .i64 ((n0 + m.length : Nat) : Int)) := by rw [hg.cell]; exact stC_size _ _ _ _ (ov_length _ _ hh _)
  have HG := hide hg
  have HH := hide hh
  have HM := hide hmb
  have HS := hide hs
  have HA := hide hap
  have HK := hide hk
  clear hg hh hmb hs hap hk
  generalize hN : n0 + m.length = N at *
  have QN := hide hN
  clear hN
  have hle : ¬ ((2305843009213693951 : Int) - (N : Int) < (len : Int)) := by omega
  go_enter Tryd.func16, Tryd.ntmps16
  go_wp2_with (first | (go_at_call 36; refine (made_yes _ _ _ _ _ HG.out).mono ?_; rintro e w' ⟨rfl, rfl⟩) | (go_at_call 26; refine (take_any h n0 m g _ _ _ _ _ HG.out HH.out hn0 HM.out HS.out HA.out HK.out hg0 (by have := QN.out; omega)).mono ?_; rintro e w1 ⟨rfl, hg1, hc1⟩))
  go_ret
  exact ⟨rfl, hg1, hc1⟩

set_option maxHeartbeats 1000000 in
theorem len_any (h : List Int) (n0 : Nat) (m : List Int) (g : Nat) (w : World) (hg : Blk w g 38 (stM h n0 m)) (hh : h.length = 8) :
    Calls Tryd.prog 18 #[.pointer (some ⟨g, 0, none⟩)] w fun e w' => e = .returned (.int .i64 ((n0 + m.length : Nat) : Int)) ∧ w = w' := by
  have c9 : w.cell? ⟨g, 9, none⟩ = some (.int .i64 ((n0 + m.length : Nat) : Int)) := by rw [hg.cell]; exact stC_size _ _ _ _ (ov_length _ _ hh _)
  have HG := hide hg
  clear hg
  generalize n0 + m.length = N at *
  go_enter Tryd.func18, Tryd.ntmps18
  go_wp2_with (go_at_call 36; refine (made_yes _ _ _ _ _ HG.out).mono ?_; rintro e w' ⟨rfl, rfl⟩)
  go_ret
  exact ⟨rfl, rfl⟩

set_option maxHeartbeats 1000000 in
theorem ssum_any (h : List Int) (n0 : Nat) (m : List Int) (g : Nat) (w : World) (hg : Blk w g 38 (stM h n0 m)) (hh : h.length = 8) (hn0 : n0 % 64 = 0) (hmb : isB m) (hk : KT w) (hbd : n0 + m.length ≤ 2305843009213693951) :
    Calls Tryd.prog 17 #[.pointer (some ⟨g, 0, none⟩)] w fun e w' => e = .returned (.agg (u8s (dg h n0 m)).toArray) ∧ Below w.heap.size w w' := by
  have HG := hide hg
  have HH := hide hh
  have HM := hide hmb
  have HK := hide hk
  have HD := hide (dg_length h n0 m hh)
  clear hg hh hmb hk
  go_enter Tryd.func17, Tryd.ntmps17
  go_wp2_with (refine step_alloc zD rfl ?_)
  intro w1 g1 hg1 hle1 hb1
  have G1 := hide (HG.out.below hb1 HG.out.lt)
  have K1 := hide (HK.out.below hb1 HK.out.lt)
  have D1 := hide hg1
  clear hg1
  go_wp2_with (first | (go_at_call 36; refine (made_yes _ _ _ _ _ G1.out).mono ?_; rintro e w' ⟨rfl, rfl⟩) | (go_at_call 27; refine (digest_any h n0 m g _ G1.out HH.out hn0 HM.out K1.out hbd).mono ?_; rintro e w2 ⟨rfl, hb2⟩; have D2 := hide (D1.out.below hb2 D1.out.lt)) | (refine step_storeA wD rfl rfl rfl D2.out (by rw [u8s_length]; exact HD.out) (One.u8 _) rfl ?_; intro w3 hg3 hbut3))
  refine bodyPost_ret (results_wide rfl wD _ _ rfl hg3 (by rw [u8s_length]; exact HD.out)) rfl ⟨rfl, ?_⟩
  exact hb1.trans ((hb2.mono hb1.size).trans (hbut3.below hle1))

end Go.Proofs.YtbankdepjpeniaaDoor
