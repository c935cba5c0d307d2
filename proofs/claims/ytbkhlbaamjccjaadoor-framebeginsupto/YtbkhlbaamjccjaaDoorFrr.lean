/-
  A frame read at a place: the document's Read.
-/
import Derived.Test.YtbkhlbaamjccjaaDoorFrd
namespace Go.Proofs.YtbkhlbaamjccjaaDoor
open Go.RowKit
set_option linter.unusedVariables false
set_option linter.unusedSimpArgs false

set_option maxHeartbeats 1000000 in
theorem readR11_any (a : Option Addr) (len cap : Nat) (xs : List Int) (p : Int) (w : World) (hs : Sl w a len cap xs) :
    Calls Tryd.prog 19 #[.slice a len cap, .int .i64 p] w fun e w' => ∃ v, e = .returned (.tuple #[v, .int .i64 (frR xs p).2.1, .int .i64 (frR xs p).2.2]) ∧ Own w' w.heap.size v (frR xs p).1 ∧ Below w.heap.size w w' := by
  have hlen := hs.hlen
  have hr := hs.hreach
  have hcap := hs.hcap
  unfold frR
  rw [hlen]
  by_cases h1 : p < 0
  · rw [if_pos (.inl h1)]
    clear hs hlen
    go_enter Tryd.func19, Tryd.ntmps19
    go_wp2
    go_ret3
    exact ⟨_, rfl, Own.nil _ _, Below.refl _ _⟩
  by_cases h2 : (len : Int) < p
  · rw [if_pos (.inr h2)]
    clear hs hlen
    go_enter Tryd.func19, Tryd.ntmps19
    go_wp2
    go_ret3
    exact ⟨_, rfl, Own.nil _ _, Below.refl _ _⟩
  rw [if_neg (by omega)]
  obtain ⟨p, rfl⟩ := Int.eq_ofNat_of_zero_le (show 0 ≤ p by omega)
  rw [Int.toNat_natCast]
  by_cases h3 : (len : Int) - p < 8
  · rw [if_pos h3]
    clear hs hlen
    go_enter Tryd.func19, Tryd.ntmps19
    go_wp2
    go_ret3
    exact ⟨_, rfl, Own.nil _ _, Below.refl _ _⟩
  rw [if_neg h3]
  have hp8 : p + 8 ≤ len := by omega
  have U1 := hide (read_any a len cap xs (p : Int) 4 w hs (by omega) (by omega))
  have U2 := hide (read_any a len cap xs ((p : Int) + 4) 4 w hs (by omega) (by omega))
  have e1 : rdV xs p 4 = frN xs p := by simp only [rdV, hlen]; rw [if_pos (by omega)]; simp [frN]
  have e2 : rdN len p 4 = p + 4 := by simp [rdN]; omega
  have e3 : rdE len p 4 = 0 := by simp [rdE]; omega
  have e4 : rdV xs ((p : Int) + 4) 4 = frS xs p := by simp only [rdV, hlen]; rw [if_pos (by omega)]; simp [frS]; rw [show ((p : Int) + 4).toNat = p + 4 by omega]
  have e5 : rdN len ((p : Int) + 4) 4 = (p : Int) + 8 := by simp [rdN]; omega
  have e6 : rdE len ((p : Int) + 4) 4 = 0 := by simp [rdE]; omega
  rw [e1, e2, e3] at U1
  rw [e4, e5, e6] at U2
  clear e1 e2 e3 e4 e5 e6
  have bN := hs.hbyte.at4 p (by omega)
  have bS := hs.hbyte.at4 (p + 4) (by omega)
  have hN : frN xs p = beVal ((xs.drop p).take 4) := rfl
  have hS : frS xs p = beVal ((xs.drop (p + 4)).take 4) := rfl
  rw [← hN] at bN
  rw [← hS] at bS
  clear hN hS
  obtain ⟨n, hn⟩ : ∃ n : Nat, frN xs p = (n : Int) := ⟨(frN xs p).toNat, by omega⟩
  have HD : Hid (frD xs p = (xs.drop (p + 8)).take n) := hide (by rw [frD, hn, Int.toNat_natCast])
  have HC : Hid (frC xs p = ((crE (crE 0 ((xs.drop p).take 4)) (frD xs p) : Nat) : Int)) := hide rfl
  have HS := hide hs
  rw [hn] at U1 bN ⊢
  obtain ⟨s, hs2⟩ : ∃ s : Int, frS xs p = s := ⟨_, rfl⟩
  rw [hs2] at U2 bS ⊢
  have h1' : ¬ ((p : Int) < 0) := by omega
  have h2' : ¬ ((len : Int) < (p : Int)) := by omega
  clear hn hs2 hs hlen h1 h2
  by_cases h4 : (1048576 : Int) < n
  · rw [if_pos h4]
    clear HD HC HS
    go_enter Tryd.func19, Tryd.ntmps19
    go_wp2_with fail
    refine U1.out.mono ?_
    rintro e w1 ⟨rfl, rfl⟩
    go_wp2_with fail
    refine U2.out.mono ?_
    rintro e w1 ⟨rfl, rfl⟩
    go_wp2
    go_ret3
    exact ⟨_, rfl, Own.nil _ _, Below.refl _ _⟩
  rw [if_neg h4]
  have hwn : IntKind.i64.wrap (n : Int) = (n : Int) := wrap_in _ (by omega) (by omega)
  have h4' : ¬ ((1048576 : Int) < n) := h4
  by_cases h5 : (len : Int) - p - 8 < n
  · rw [if_pos h5]
    clear HD HC HS
    go_enter Tryd.func19, Tryd.ntmps19
    go_wp2_with fail
    refine U1.out.mono ?_
    rintro e w1 ⟨rfl, rfl⟩
    go_wp2_with fail
    refine U2.out.mono ?_
    rintro e w1 ⟨rfl, rfl⟩
    go_wp2
    go_ret3
    exact ⟨_, rfl, Own.nil _ _, Below.refl _ _⟩
  rw [if_neg h5]
  have h5' : ¬ (len : Int) - (p : Int) - 8 < n := h5
  have hws : IntKind.u32.wrap s = s := by rw [IntKind.wrap_u32]; omega
  obtain ⟨a1, hsl1, S1⟩ := slice_mid HS.out p (p + 4) (p : Int) ((p : Int) + 4) rfl (by omega) (by omega) (by omega)
  obtain ⟨a2, hsl2, S2⟩ := slice_mid HS.out (p + 8) (p + 8 + n) ((p : Int) + 8) ((p : Int) + 8 + (n : Int)) (by omega) (by omega) (by omega) (by omega)
  rw [show p + 4 - p = 4 by omega] at hsl1 S1
  rw [show p + 8 + n - (p + 8) = n by omega, ← HD.out] at S2
  rw [show p + 8 + n - (p + 8) = n by omega] at hsl2
  have HS2 := hide S2
  have CA := hide (sumR_any a1 4 (cap - p) _ w S1)
  obtain ⟨t1, HT1⟩ : ∃ t1, Hid (crE 0 ((xs.drop p).take 4) = t1) := ⟨_, hide rfl⟩
  have ht1 : t1 < 4294967296 := by rw [← HT1.out]; exact crE_lt _ _
  rw [HT1.out] at CA HC
  have CB := hide (extendR_any t1 a2 n (cap - (p + 8)) _ w ht1 S2)
  rw [← HC.out] at CB
  obtain ⟨c, HCC⟩ : ∃ c, Hid (frC xs p = c) := ⟨_, hide rfl⟩
  rw [HCC.out] at CB
  rw [HCC.out]
  obtain ⟨d, HDD⟩ : ∃ d, Hid (frD xs p = d) := ⟨_, hide rfl⟩
  rw [HDD.out] at HS2
  rw [HDD.out]
  clear S1 S2 HD HC HS h5 h4
  have hb1 : (p : Int) + 8 + (n : Int) ≤ len := by omega
  by_cases h6 : c = s
  · rw [if_neg (by simp [h6])]
    have hcs : (s != c) = false := by simp [h6]
    clear h6
    go_enter Tryd.func19, Tryd.ntmps19
    go_wp2_with fail
    refine U1.out.mono ?_
    rintro e w1 ⟨rfl, rfl⟩
    go_wp2_with fail
    refine U2.out.mono ?_
    rintro e w1 ⟨rfl, rfl⟩
    go_wp2_with fail
    refine CA.out.mono ?_
    rintro e w1 ⟨rfl, rfl⟩
    go_wp2_with fail
    refine CB.out.mono ?_
    rintro e w1 ⟨rfl, rfl⟩
    have ho0 : Own (w.alloc (.cells #[] 5)) w.heap.size (.slice (some ⟨w.heap.size, 0, none⟩) 0 0) [] := Own.of_blk (xs := []) (Blk.made w 5 []) (Nat.le_refl _) (by simp)
    have hb0 : Below w.heap.size w (w.alloc (.cells #[] 5)) := (Below.refl _ _).alloc (Nat.le_refl _) _
    go_wp2_with (refine step_append rfl rfl rfl ho0 (HS2.out.below hb0) (by simp; omega) (by simp) ?_)
    intro v1 w1 ho1 hg1 hn1
    have hbb : Below w.heap.size w w1 := hb0.trans (Below.of_grown hg1 hb0.size ho0.lt)
    rw [List.nil_append] at ho1
    go_wp2
    go_ret3
    exact ⟨v1, rfl, ho1, hbb⟩
  · rw [if_pos (by simp [h6])]
    have hcs : (s != c) = true := by simp; exact fun e => h6 e.symm
    clear h6
    go_enter Tryd.func19, Tryd.ntmps19
    go_wp2_with fail
    refine U1.out.mono ?_
    rintro e w1 ⟨rfl, rfl⟩
    go_wp2_with fail
    refine U2.out.mono ?_
    rintro e w1 ⟨rfl, rfl⟩
    go_wp2_with fail
    refine CA.out.mono ?_
    rintro e w1 ⟨rfl, rfl⟩
    go_wp2_with fail
    refine CB.out.mono ?_
    rintro e w1 ⟨rfl, rfl⟩
    go_wp2
    go_ret3
    exact ⟨_, rfl, Own.nil _ _, Below.refl _ _⟩

end Go.Proofs.YtbkhlbaamjccjaaDoor
