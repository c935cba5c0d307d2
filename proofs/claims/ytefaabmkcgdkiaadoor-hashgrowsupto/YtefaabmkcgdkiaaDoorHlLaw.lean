/-
  The walk of HashLoads.
-/
import Derived.Test.YtefaabmkcgdkiaaDoorSt
import Derived.Test.YtefaabmkcgdkiaaDoorLs
import Derived.Test.YtefaabmkcgdkiaaDoorRk
import Derived.Test.YtefaabmkcgdkiaaDoorRl
import Derived.Test.YtefaabmkcgdkiaaDoorWx
namespace Go.Proofs.YtefaabmkcgdkiaaDoor
open Go.RowKit
set_option linter.unusedVariables false

theorem ldN_in (xs : List Int) (hb : isB xs) (h : 40 ≤ xs.length) : 0 ≤ ldN xs ∧ ldN xs < 18446744073709551616 := by
  have h1 := beVal_bd _ ((hb.drop 32).take 8)
  have hl : ((xs.drop 32).take 8).length = 8 := by simp; omega
  rw [hl] at h1
  unfold ldN
  have : (256 : Int) ^ 8 = 18446744073709551616 := by decide
  omega
theorem wordAt_bd (xs : List Int) (hb : isB xs) (k : Nat) (h : 4 * k + 4 ≤ xs.length) : 0 ≤ wordAt xs k ∧ wordAt xs k < 4294967296 := by
  have h1 := beVal_bd _ ((hb.drop (4 * k)).take 4)
  have hl : ((xs.drop (4 * k)).take 4).length = 4 := by simp; omega
  rw [hl] at h1
  unfold wordAt
  have : (256 : Int) ^ 4 = 4294967296 := by decide
  omega
theorem ldW_isW (xs : List Int) (hb : isB xs) (h : 32 ≤ xs.length) : isW (ldW xs) := by
  intro x hx
  simp only [ldW, List.mem_cons, List.not_mem_nil, or_false] at hx
  rcases hx with rfl | rfl | rfl | rfl | rfl | rfl | rfl | rfl
  · exact wordAt_bd xs hb 0 (by omega)
  · exact wordAt_bd xs hb 1 (by omega)
  · exact wordAt_bd xs hb 2 (by omega)
  · exact wordAt_bd xs hb 3 (by omega)
  · exact wordAt_bd xs hb 4 (by omega)
  · exact wordAt_bd xs hb 5 (by omega)
  · exact wordAt_bd xs hb 6 (by omega)
  · exact wordAt_bd xs hb 7 (by omega)

/-- Are these bytes a saved state of n bytes? -/
def Ok (xs : List Int) (n : Nat) : Prop := 40 ≤ xs.length ∧ ldN xs = (n : Int) ∧ n ≤ 2305843009213693951 ∧ xs.length - 40 = n % 64 ∧ (64 ≤ n ∨ ldW xs = bL)

theorem load_ok (a : Option Addr) (len cap : Nat) (xs : List Int) (n : Nat) (w : World) (hs : Sl w a len cap xs) (hk : Ok xs n) :
    Calls Tryd.prog 17 #[.slice a len cap] w fun e w' => ∃ g, e = .returned (.tuple #[.pointer (some ⟨g, 0, none⟩), .int .i64 0]) ∧ w.heap.size ≤ g ∧ Blk w' g 65 (stM (ldW xs) (n - n % 64) (xs.drop 40)) ∧ Below w.heap.size w w' := by
  obtain ⟨h1, h2, h3, h4, h5⟩ := hk
  rw [hs.hlen] at h1 h4
  by_cases h64 : 64 ≤ n
  · exact load_good a len cap xs n w hs h1 h2 h3 h4 h64
  · exact load_small a len cap xs n w hs h1 h2 h3 h4 (by omega) (h5.resolve_left h64)
theorem rload_ok (a : Option Addr) (len cap : Nat) (xs : List Int) (n : Nat) (w : World) (hs : Sl w a len cap xs) (hk : Ok xs n) :
    Calls Tryd.prog 19 #[.slice a len cap] w fun e w' => ∃ a' cap', e = .returned (.tuple #[.agg (rfC (ldW xs) (n : Int) (.slice a' (n % 64) cap')).toArray, .int .i64 0]) ∧ Sl w' a' (n % 64) cap' (xs.drop 40) ∧ (∀ x, a' = some x → w.heap.size ≤ x.block) ∧ Below w.heap.size w w' := by
  obtain ⟨h1, h2, h3, h4, h5⟩ := hk
  rw [hs.hlen] at h1 h4
  by_cases h64 : 64 ≤ n
  · exact rload_good a len cap xs n w hs h1 h2 h3 h4 h64
  · exact rload_small a len cap xs n w hs h1 h2 h3 h4 (by omega) (h5.resolve_left h64)
theorem load_no (a : Option Addr) (len cap : Nat) (xs : List Int) (w : World) (hs : Sl w a len cap xs) (hk : ∀ n, ¬ Ok xs n) :
    Calls Tryd.prog 17 #[.slice a len cap] w fun e w' => e = .returned (.tuple #[.pointer none, .int .i64 20]) ∧ Below w.heap.size w w' := by
  by_cases h40 : len < 40
  · refine (load_short a len cap w h40).mono ?_
    rintro e w' ⟨rfl, rfl⟩
    exact ⟨rfl, Below.refl _ _⟩
  have hb := ldN_in xs hs.hbyte (by rw [hs.hlen]; omega)
  obtain ⟨n, hn⟩ : ∃ n : Nat, ldN xs = (n : Int) := ⟨(ldN xs).toNat, by omega⟩
  by_cases hbad : 2305843009213693951 < n ∨ len - 40 ≠ n % 64
  · refine (load_bad a len cap xs n w hs (by omega) hn (by omega) hbad).mono ?_
    rintro e w' ⟨rfl, q, rfl⟩
    exact ⟨rfl, below_drewN (Below.refl _ _) q⟩
  have hk2 := hk n
  unfold Ok at hk2
  rw [hs.hlen] at hk2
  exact load_words a len cap xs n w hs (by omega) hn (by omega) (by omega) (by omega) (fun h => by apply hk2; exact ⟨by omega, hn, by omega, by omega, .inr h⟩)
theorem rload_no (a : Option Addr) (len cap : Nat) (xs : List Int) (w : World) (hs : Sl w a len cap xs) (hk : ∀ n, ¬ Ok xs n) :
    Calls Tryd.prog 19 #[.slice a len cap] w fun e w' => e = .returned (.tuple #[.agg (rfC (zer 8) 0 (.slice none 0 0)).toArray, .int .i64 20]) ∧ Below w.heap.size w w' := by
  by_cases h40 : len < 40
  · exact rload_short a len cap w h40
  have hb := ldN_in xs hs.hbyte (by rw [hs.hlen]; omega)
  obtain ⟨n, hn⟩ : ∃ n : Nat, ldN xs = (n : Int) := ⟨(ldN xs).toNat, by omega⟩
  by_cases hbad : 2305843009213693951 < n ∨ len - 40 ≠ n % 64
  · exact rload_bad a len cap xs n w hs (by omega) hn (by omega) hbad
  have hk2 := hk n
  unfold Ok at hk2
  rw [hs.hlen] at hk2
  exact rload_words a len cap xs n w hs (by omega) hn (by omega) (by omega) (by omega) (fun h => by apply hk2; exact ⟨by omega, hn, by omega, by omega, .inr h⟩)

set_option maxRecDepth 100000 in
set_option maxHeartbeats 4000000 in
theorem loads_walk (a : Option Addr) (len cap : Nat) (xs : List Int) (a1 : Option Addr) (len1 cap1 : Nat) (ys : List Int) (w : World) (hs : Sl w a len cap xs) (hl : cap ≤ 140737488351232) (hs1 : Sl w a1 len1 cap1 ys) (hl1 : cap1 ≤ 140737488351232) (hk : KT w) :
    Calls Tryd.prog 4 #[.slice a len cap, .slice a1 len1 cap1] w fun e w' => e = .returned (.bool true) ∧ Below w.heap.size w w' := by
  have HS := hide hs
  have HS1 := hide hs1
  have HK := hide hk
  have hcap1 := hs1.hcap
  have HX := hide hs.hlen
  have HXB := hide hs.hbyte
  have HY := hide hs1.hlen
  have HYB := hide hs1.hbyte
  clear hs hs1 hk
  go_enter Tryd.func4, Tryd.ntmps4
  by_cases hok : ∃ n, Ok xs n
  · obtain ⟨n, hn⟩ := hok
    have OK := hide hn
    obtain ⟨h40, hN, hmax, hmod, _⟩ := hn
    have HML := hide (show (xs.drop 40).length = n % 64 by rw [List.length_drop, hmod])
    have HMB := hide (HXB.out.drop 40)
    have HW := hide (ldW_isW xs HXB.out (by omega))
    have HBK : Hid (bk (xs.drop 40) = 0) := hide (by rw [bk, HML.out]; omega)
    have EOV : Hid (ov (ldW xs) (xs.drop 40) (bk (xs.drop 40)) = ldW xs) := hide (by rw [HBK.out]; rfl)
    have ETL : Hid (tl (xs.drop 40) = xs.drop 40) := hide (by rw [tl, HBK.out]; rfl)
    clear hN hmod h40
    obtain ⟨m, hm⟩ : ∃ m, m = xs.drop 40 := ⟨_, rfl⟩
    obtain ⟨h, hh⟩ : ∃ h, h = ldW xs := ⟨_, rfl⟩
    have QM := hide hm
    have QH := hide hh
    rw [← hm] at HML HMB HBK EOV ETL
    rw [← hh] at HW EOV
    have HL8 : Hid (h.length = 8) := hide (by rw [hh]; rfl)
    clear hm hh
    obtain ⟨n0, hn0⟩ : ∃ n0, n0 = n - n % 64 := ⟨_, rfl⟩
    have Q0 := hide hn0
    have HN0 : Hid (n0 % 64 = 0) := hide (by omega)
    have HNN : Hid (n0 + m.length = n) := hide (by rw [HML.out]; omega)
    clear hn0
    have EMM : Hid (m.length % 64 = n % 64) := hide (by rw [HML.out, Nat.mod_mod])
    go_wp2_with fail
    refine (load_ok _ _ _ xs n _ HS.out OK.out).mono ?_
    rintro e w1 ⟨g, rfl, hlg, hg, hb1⟩
    rw [← QM.out, ← QH.out, ← Q0.out] at hg
    have G1 := hide hg
    have HB1 := hide hb1
    have S1 := hide (HS.out.below hb1)
    clear hg hb1
    go_wp2_with fail
    refine (rload_ok _ _ _ xs n _ S1.out OK.out).mono ?_
    rintro e w2 ⟨a', c', rfl, hs', hf', hb2⟩
    have AGr : Hid (0 < n % 64 → Apart g a') := hide (fun _ x hx => by have := hf' x hx; have := G1.out.lt; omega)
    clear hf'
    rw [← QM.out] at hs'
    rw [← QH.out]
    have HB2 := hide (HB1.out.trans (hb2.mono HB1.out.size))
    have G2 := hide (G1.out.below hb2 G1.out.lt)
    have SR2 := hide hs'
    have HRL := hide (rfC_length h (n : Int) (.slice a' (n % 64) c') HL8.out)
    clear hs' hb2 G1 S1
    go_wp2_with (refine step_alloc zRS rfl ?_)
    intro w3 g7 hg3 hle3 hb3
    go_wp2_with (refine step_storeA wRS rfl rfl rfl hg3 HRL.out (One.rf _ _ _ _ _) rfl ?_)
    intro w4 hg4 hbut4
    have hb24 := hb3.trans (hbut4.below hle3)
    have HB4 := hide (HB2.out.trans (hb24.mono HB2.out.size))
    have G74 := hide hg4
    have G4 := hide (G2.out.below hb24 G2.out.lt)
    have SR4 := hide (SR2.out.below hb24)
    have Y4 := hide (HS1.out.below HB4.out)
    have K4 := hide (HK.out.below HB4.out HK.out.lt)
    have hwg : w.heap.size ≤ g := hlg
    have hg0 : g ≠ 0 := by have := HK.out.lt; omega
    have AY := hide (HS1.out.apart hwg)
    have h7g : g7 ≠ g := by have := G2.out.lt; omega
    have hw7 : w.heap.size ≤ g7 := Nat.le_trans HB2.out.size hle3
    have AR := hide (SR2.out.apart hle3)
    clear hg3 hb3 hg4 hbut4 hb24 hle3 G2 SR2
    go_wp2_with (go_at_call 18; refine (names_any _).mono ?_; rintro e w' ⟨rfl, rfl⟩)
    have SRm := hide SR4.out
    rw [← ETL.out, ← EMM.out] at SRm
    by_cases hbig : n + len1 ≤ 2305843009213693951
    · refine (write_any h n0 m g _ _ _ ys _ G4.out HL8.out HN0.out HMB.out Y4.out AY.out K4.out hg0 (by rw [HNN.out]; exact hbig)).mono ?_
      rintro e w5 ⟨rfl, hg5, hc5⟩
      have G5 := hide hg5
      have G75 := hide (G74.out.chg hc5 h7g)
      have h7l := G75.out.lt
      have HB5 := hide (HB4.out.trans (hc5.below hwg HB4.out.size))
      have AG : Hid (0 < m.length % 64 → Apart g a') := hide (fun h0 x hx => by have := AGr.out (by have := EMM.out; omega) x hx; exact this)
      have SR5 := hide (SRm.out.chg hc5 AG.out)
      have Y5 := hide (HS1.out.below HB5.out)
      clear hg5 hc5 G4 G74 SR4 SRm Y4 K4
      have ER : Hid (rfC h (n : Int) (.slice a' (n % 64) c') = rfC (ov h m (bk m)) ((n0 + m.length : Nat) : Int) (.slice a' (m.length % 64) c')) := hide (by rw [EOV.out, HNN.out, EMM.out])
      have RW := hide (rwrite_any h n0 m a' c' a1 len1 cap1 ys w5 HL8.out HN0.out SR5.out Y5.out (by omega) (by rw [HNN.out]; exact hbig))
      have RW' := hide RW.out
      rw [← ER.out] at RW'
      go_wp2_with (refine step_loadA wRS rfl rfl G75.out HRL.out ?_)
      refine RW'.out.mono ?_
      rintro e w6 ⟨a6, c6, rfl, hs6, hf6, hb6⟩
      have HB6 := hide (HB5.out.trans (hb6.mono HB5.out.size))
      have G6 := hide (G5.out.below hb6 G5.out.lt)
      have G76 := hide (G75.out.below hb6 G75.out.lt)
      have SR6 := hide hs6
      have HMX := hide (show n0 + (m ++ ys).length ≤ 2305843009213693951 by rw [List.length_append, HY.out]; have := HNN.out; omega)
      have HRL6 := hide (rfC_length (ov h (m ++ ys) (bk (m ++ ys))) ((n0 + (m ++ ys).length : Nat) : Int) (.slice a6 ((m ++ ys).length % 64) c6) (ov_length h (m ++ ys) HL8.out _))
      have MYB := hide (HMB.out.append HYB.out)
      clear hs6 hb6 G5 G75 SR5 Y5 RW RW' ER
      have HST := hide (fun (w0 : World) (hg0 : Blk w0 g 65 (stM h n0 (m ++ ys))) (hs0 : Sl w0 a6 ((m ++ ys).length % 64) c6 (tl (m ++ ys))) (hk0 : KT w0) => stands_any h n0 (m ++ ys) g a6 c6 w0 hg0 HL8.out HW.out HN0.out MYB.out hs0 hk0 HMX.out)
      have HON := hide (One.rf (ov h (m ++ ys) (bk (m ++ ys))) ((n0 + (m ++ ys).length : Nat) : Int) a6 ((m ++ ys).length % 64) c6)
      revert SR6 HRL6 HST HON
      generalize rfC (ov h (m ++ ys) (bk (m ++ ys))) ((n0 + (m ++ ys).length : Nat) : Int) (.slice a6 ((m ++ ys).length % 64) c6) = RC
      intro SR6 HRL6 HST HON
      go_wp2_with (refine step_storeA wRS rfl rfl rfl G76.out HRL6.out HON.out HRL.out ?_)
      intro w7 hg7 hbut7
      have A67 : Hid (0 < (m ++ ys).length % 64 → Apart g7 a6) := hide (fun _ x hx => by have := hf6 x hx; omega)
      have G7 := hide (G6.out.but hbut7 (fun h => h7g h.symm))
      have SR7 := hide (SR6.out.but hbut7 A67.out)
      have HB7 := hide (HB6.out.trans (hbut7.below hw7))
      have G77 := hide hg7
      have K7 := hide (HK.out.below HB7.out HK.out.lt)
      clear hg7 hbut7
      go_wp2_with (first | (refine step_loadA wRS rfl rfl G77.out HRL6.out ?_) | (go_at_call 11; refine (HST.out _ G7.out SR7.out K7.out).mono ?_; rintro e w8 ⟨rfl, hb8⟩))
      go_ret
      exact ⟨rfl, HB7.out.trans (hb8.mono HB7.out.size)⟩
    · refine (write_big h n0 m g _ _ _ _ G4.out HL8.out (by rw [HNN.out]; exact hmax) (by rw [HNN.out]; omega)).mono ?_
      rintro e w5 ⟨rfl, rfl⟩
      have RB := hide (rwrite_big h n a' (n % 64) c' a1 len1 cap1 w4 HL8.out hmax (by omega))
      have ER : Hid (rfC h (n : Int) (.slice a' (n % 64) c') = rfC (ov h m (bk m)) ((n0 + m.length : Nat) : Int) (.slice a' (m.length % 64) c')) := hide (by rw [EOV.out, HNN.out, EMM.out])
      have HST := hide (fun (w0 : World) (hg0 : Blk w0 g 65 (stM h n0 m)) (hs0 : Sl w0 a' (m.length % 64) c' (tl m)) (hk0 : KT w0) => stands_any h n0 m g a' c' w0 hg0 HL8.out HW.out HN0.out HMB.out hs0 hk0 (by rw [HNN.out]; exact hmax))
      have HST' := hide HST.out
      rw [← ER.out] at HST'
      have HON := hide (One.rf h (n : Int) a' (n % 64) c')
      clear HST ER
      revert RB HRL HST' HON G74
      generalize rfC h (n : Int) (.slice a' (n % 64) c') = RC
      intro HRL G74 RB HST' HON
      go_wp2_with (refine step_loadA wRS rfl rfl G74.out HRL.out ?_)
      refine RB.out.mono ?_
      rintro e w6 ⟨rfl, hb6⟩
      have HB6 := hide (HB4.out.trans (hb6.mono HB4.out.size))
      have G6 := hide (G4.out.below hb6 G4.out.lt)
      have G76 := hide (G74.out.below hb6 G74.out.lt)
      have SR6 := hide (SRm.out.below hb6)
      clear hb6
      go_wp2_with (refine step_storeA wRS rfl rfl rfl G76.out HRL.out HON.out HRL.out ?_)
      intro w7 hg7 hbut7
      have G7 := hide (G6.out.but hbut7 (fun h => h7g h.symm))
      have A67 : Hid (0 < m.length % 64 → Apart g7 a') := hide (fun h0 x hx => by have := AR.out (by have := EMM.out; omega) x hx; exact this)
      have SR7 := hide (SR6.out.but hbut7 A67.out)
      have HB7 := hide (HB6.out.trans (hbut7.below hw7))
      have G77 := hide hg7
      have K7 := hide (HK.out.below HB7.out HK.out.lt)
      clear hg7 hbut7
      go_wp2_with (first | (refine step_loadA wRS rfl rfl G77.out HRL.out ?_) | (go_at_call 11; refine (HST'.out _ G7.out SR7.out K7.out).mono ?_; rintro e w8 ⟨rfl, hb8⟩))
      go_ret
      exact ⟨rfl, HB7.out.trans (hb8.mono HB7.out.size)⟩
  · have hno : ∀ n, ¬ Ok xs n := fun n h => hok ⟨n, h⟩
    have NO := hide hno
    clear hok hno
    have HZL : Hid ((rfC (zer 8) 0 (.slice none 0 0)).length = 10) := hide rfl
    go_wp2_with fail
    refine (load_no _ _ _ xs _ HS.out NO.out).mono ?_
    rintro e w1 ⟨rfl, hb1⟩
    have HB1 := hide hb1
    have S1 := hide (HS.out.below hb1)
    clear hb1
    go_wp2_with fail
    refine (rload_no _ _ _ xs _ S1.out NO.out).mono ?_
    rintro e w2 ⟨rfl, hb2⟩
    have HB2 := hide (HB1.out.trans (hb2.mono HB1.out.size))
    clear hb2
    go_wp2_with (refine step_alloc zRS rfl ?_)
    intro w3 g7 hg3 hle3 hb3
    have G3 := hide hg3
    clear hg3
    go_wp2_with (first | (refine step_storeA wRS rfl rfl rfl G3.out HZL.out (One.rf _ _ _ _ _) rfl ?_; intro w4 hg4 hbut4) | (go_at_call 18; refine (names_any _).mono ?_; rintro e w' ⟨rfl, rfl⟩))
    go_ret
    exact ⟨rfl, HB2.out.trans ((hb3.trans (hbut4.below hle3)).mono HB2.out.size)⟩

end Go.Proofs.YtefaabmkcgdkiaaDoor
