/-
  A frame read at a place: what is told of any bytes; bytes.Clone; the program's Read and the document's.
-/
import Derived.Test.YtbkhlbaamjccjaaDoorFcr
import Derived.Laws.Cover3
namespace Go.Proofs.YtbkhlbaamjccjaaDoor
open Go.RowKit
set_option linter.unusedVariables false
set_option linter.unusedSimpArgs false

/-- The length that stands at a place, the sum that stands behind it, the data behind both. -/
def frN (xs : List Int) (p : Nat) : Int := beVal ((xs.drop p).take 4)
def frS (xs : List Int) (p : Nat) : Int := beVal ((xs.drop (p + 4)).take 4)
def frD (xs : List Int) (p : Nat) : List Int := (xs.drop (p + 8)).take (frN xs p).toNat
def frC (xs : List Int) (p : Nat) : Int := ((crE (crE 0 ((xs.drop p).take 4)) (frD xs p) : Nat) : Int)
/-- What reading at a place tells: the data, the place behind, the error. -/
def frR (xs : List Int) (p : Int) : List Int × Int × Int :=
  if p < 0 ∨ (xs.length : Int) < p then ([], 0, 2)
  else if (xs.length : Int) - p < 8 then ([], 0, 111)
  else if 1048576 < frN xs p.toNat then ([], 0, 3)
  else if (xs.length : Int) - p - 8 < frN xs p.toNat then ([], 0, 111)
  else if frC xs p.toNat ≠ frS xs p.toNat then ([], 0, 110)
  else (frD xs p.toNat, p + 8 + frN xs p.toNat, 0)

theorem isB.at4 {xs : List Int} (h : isB xs) (p : Nat) (hp : p + 4 ≤ xs.length) : 0 ≤ beVal ((xs.drop p).take 4) ∧ beVal ((xs.drop p).take 4) < 4294967296 := by
  have h1 := beVal_bd _ ((h.drop p).take 4)
  have hl : ((xs.drop p).take 4).length = 4 := by simp; omega
  rw [hl] at h1
  exact h1
theorem frC_bd (xs : List Int) (p : Nat) : 0 ≤ frC xs p ∧ frC xs p < 4294967296 := by
  have := crE_lt (crE 0 ((xs.drop p).take 4)) (frD xs p)
  unfold frC
  omega

/-- b[i:j] -/
theorem slice_mid {w : World} {a : Option Addr} {len cap : Nat} {xs : List Int} (h : Sl w a len cap xs) (i j : Nat) (I J : Int) (hI : I = (i : Int)) (hJ : J = (j : Int)) (hij : i ≤ j) (hj : j ≤ len) :
    ∃ a', (∀ v : World, (Instr.slice 23 (.slice a len cap) (some (.int .i64 I)) (some (.int .i64 J)) none).run Tryd.prog v = .ok (.slice a' (j - i) (cap - i)) v) ∧ Sl w a' (j - i) (cap - i) ((xs.drop i).take (j - i)) := by
  subst hI hJ
  have hc0 := h.hcap
  have hrun : ∀ v : World, (Instr.slice 23 (.slice a len cap) (some (.int .i64 i)) (some (.int .i64 j)) none).run Tryd.prog v = .ok (sliced a i j cap 1) v := fun v => by
    rw [run_slice_lh v _ _ _ _ und22 .i64 .i64 i j (by omega) (by omega) (by omega), elem22, sizeB]
    simp
  obtain ⟨h1, h2, h3, h4, h5, h6, h7⟩ := h
  by_cases hc : i < cap
  · cases a with
    | none => have := h6 rfl; omega
    | some ad =>
      have es : sliced (some ad) i j cap 1 = .slice (some (ad.add i)) (j - i) (cap - i) := by
        simp only [sliced, Nat.mul_one]
        have : ¬ (cap = i) := by omega
        simp [this]
      refine ⟨some (ad.add i), fun v => by rw [hrun v, es], ?_⟩
      refine ⟨by simp; omega, by omega, by omega, by omega, (h5.drop i).take _, (fun e => by cases e), fun h0 => ?_⟩
      obtain ⟨b, o, e, hce⟩ := h7 (by omega)
      cases e
      refine ⟨b, o + i, by rw [Addr.add_lit], fun k hk => ?_⟩
      rw [show o + i + k = o + (i + k) by omega, hce (i + k) (by omega)]
      simp [List.getD, List.getElem?_drop, List.getElem?_take, hk]
  · obtain rfl : i = cap := by omega
    obtain rfl : len = i := by omega
    obtain rfl : j = len := by omega
    have es : sliced a j j j 1 = .slice a (j - j) (j - j) := by
      cases a <;> simp [sliced]
    refine ⟨a, fun v => by rw [hrun v, es], ?_⟩
    rw [Nat.sub_self]
    exact ⟨by simp, Nat.le_refl _, by omega, by omega, (h5.drop _).take _, fun _ => ⟨rfl, rfl⟩, fun h => absurd h (by omega)⟩

theorem eql_nil (a : Option Addr) (l c : Nat) (w : World) : (binOp .eql 23 (.slice a l c) (.slice none 0 0)).run Tryd.prog w = .ok (.bool a.isNone) w := by
  have h := run_equal_slice_nil (P := Tryd.prog) w 23 5 a l c undBs
  simp [binOp, h, Result.andThen]
set_option maxHeartbeats 400000 in
theorem clone_any (a : Option Addr) (len cap : Nat) (xs : List Int) (w : World) (hs : Sl w a len cap xs) :
    Calls Tryd.prog 28 #[.slice a len cap] w fun e w' => ∃ v, e = .returned v ∧ Own w' w.heap.size v xs ∧ Below w.heap.size w w' := by
  cases a with
  | none =>
    obtain ⟨rfl, rfl⟩ := hs.hnil rfl
    obtain rfl : xs = [] := List.eq_nil_of_length_eq_zero hs.hlen
    clear hs
    have hq : ∀ w : World, (binOp .eql 23 (.slice none 0 0) (.slice none 0 0)).run Tryd.prog w = .ok (.bool true) w := fun w => eql_nil none 0 0 w
    go_enter Tryd.func28, Tryd.ntmps28
    go_wp2
    go_ret
    exact ⟨_, rfl, Own.nil _ _, Below.refl _ _⟩
  | some x =>
    have hr := hs.hreach
    have HS := hide hs
    clear hs
    have hq : ∀ w : World, (binOp .eql 23 (.slice (some x) len cap) (.slice none 0 0)).run Tryd.prog w = .ok (.bool false) w := fun w => eql_nil (some x) len cap w
    go_enter Tryd.func28, Tryd.ntmps28
    have ho0 : Own (w.alloc (.cells #[] 5)) w.heap.size (.slice (some ⟨w.heap.size, 0, none⟩) 0 0) [] := Own.of_blk (xs := []) (Blk.made w 5 []) (Nat.le_refl _) (by simp)
    have hb0 : Below w.heap.size w (w.alloc (.cells #[] 5)) := (Below.refl _ _).alloc (Nat.le_refl _) _
    go_wp2_with (refine step_append rfl rfl rfl ho0 (HS.out.below hb0) (by simp; omega) (by simp) ?_)
    intro v1 w1 ho1 hg1 hn1
    have hb1 : Below w.heap.size w w1 := hb0.trans (Below.of_grown hg1 hb0.size ho0.lt)
    rw [List.nil_append] at ho1
    go_wp2
    go_ret
    exact ⟨_, rfl, ho1, hb1⟩

set_option maxHeartbeats 1000000 in
theorem read11_any (a : Option Addr) (len cap : Nat) (xs : List Int) (p : Int) (w : World) (hs : Sl w a len cap xs) (hk : KT w) :
    Calls Tryd.prog 18 #[.slice a len cap, .int .i64 p] w fun e w' => ∃ v, e = .returned (.tuple #[v, .int .i64 (frR xs p).2.1, .int .i64 (frR xs p).2.2]) ∧ Own w' w.heap.size v (frR xs p).1 ∧ Below w.heap.size w w' := by
  have hlen := hs.hlen
  have hr := hs.hreach
  have hcap := hs.hcap
  unfold frR
  rw [hlen]
  by_cases h1 : p < 0
  · rw [if_pos (.inl h1)]
    clear hs hk hlen
    go_enter Tryd.func18, Tryd.ntmps18
    go_wp2
    go_ret3
    exact ⟨_, rfl, Own.nil _ _, Below.refl _ _⟩
  by_cases h2 : (len : Int) < p
  · rw [if_pos (.inr h2)]
    clear hs hk hlen
    go_enter Tryd.func18, Tryd.ntmps18
    go_wp2
    go_ret3
    exact ⟨_, rfl, Own.nil _ _, Below.refl _ _⟩
  rw [if_neg (by omega)]
  obtain ⟨p, rfl⟩ := Int.eq_ofNat_of_zero_le (show 0 ≤ p by omega)
  rw [Int.toNat_natCast]
  by_cases h3 : (len : Int) - p < 8
  · rw [if_pos h3]
    clear hs hk hlen
    go_enter Tryd.func18, Tryd.ntmps18
    go_wp2
    go_ret3
    exact ⟨_, rfl, Own.nil _ _, Below.refl _ _⟩
  rw [if_neg h3]
  have hp8 : p + 8 ≤ len := by omega
  have U1 := hide (uint32_any a len cap xs (p : Int) w hs)
  have U2 := hide (uint32_any a len cap xs ((p : Int) + 4) w hs)
  have e1 : rdV xs p 4 = frN xs p := by simp only [rdV, hlen]; rw [if_pos (by omega)]; simp [frN]
  have e2 : rdN len p 4 = p + 4 := by simp [rdN]; omega
  have e3 : rdE len p 4 = 0 := by simp [rdE]; omega
  have e4 : rdV xs ((p : Int) + 4) 4 = frS xs p := by simp only [rdV, hlen]; rw [if_pos (by omega)]; simp [frS]; rw [show ((p : Int) + 4).toNat = p + 4 by omega]
  have e5 : rdN len ((p : Int) + 4) 4 = (p : Int) + 8 := by simp [rdN]; omega
  have e6 : rdE len ((p : Int) + 4) 4 = 0 := by simp [rdE]; omega
  rw [e1, e2, e3] at U1
  rw [e4, e5, e6] at U2
  clear e1 e2 e3 e4 e5 e6
  have bN := hs.hbyte.at4 p (by omega)
  have bS := hs.hbyte.at4 (p + 4) (by omega)
  have hN : frN xs p = beVal ((xs.drop p).take 4) := rfl
  have hS : frS xs p = beVal ((xs.drop (p + 4)).take 4) := rfl
  rw [← hN] at bN
  rw [← hS] at bS
  clear hN hS
  obtain ⟨n, hn⟩ : ∃ n : Nat, frN xs p = (n : Int) := ⟨(frN xs p).toNat, by omega⟩
  have HD : Hid (frD xs p = (xs.drop (p + 8)).take n) := hide (by rw [frD, hn, Int.toNat_natCast])
  have HC : Hid (frC xs p = ((crE (crE 0 ((xs.drop p).take 4)) (frD xs p) : Nat) : Int)) := hide rfl
  have HK := hide hk
  have HS := hide hs
  rw [hn] at U1 bN ⊢
  obtain ⟨s, hs2⟩ : ∃ s : Int, frS xs p = s := ⟨_, rfl⟩
  rw [hs2] at U2 bS ⊢
  have h1' : ¬ ((p : Int) < 0) := by omega
  have h2' : ¬ ((len : Int) < (p : Int)) := by omega
  clear hn hs2 hk hs hlen h1 h2
  by_cases h4 : (1048576 : Int) < n
  · rw [if_pos h4]
    clear HK HD HC HS
    go_enter Tryd.func18, Tryd.ntmps18
    go_wp2_with fail
    refine U1.out.mono ?_
    rintro e w1 ⟨rfl, rfl⟩
    go_wp2_with fail
    refine U2.out.mono ?_
    rintro e w1 ⟨rfl, rfl⟩
    go_wp2
    go_ret3
    exact ⟨_, rfl, Own.nil _ _, Below.refl _ _⟩
  rw [if_neg h4]
  have hwn : IntKind.i64.wrap (n : Int) = (n : Int) := wrap_in _ (by omega) (by omega)
  have h4' : ¬ ((1048576 : Int) < n) := h4
  by_cases h5 : (len : Int) - p - 8 < n
  · rw [if_pos h5]
    have h5' : (len : Int) - ((p : Int) + 8) < n := by omega
    clear HK HD HC HS h5
    go_enter Tryd.func18, Tryd.ntmps18
    go_wp2_with fail
    refine U1.out.mono ?_
    rintro e w1 ⟨rfl, rfl⟩
    go_wp2_with fail
    refine U2.out.mono ?_
    rintro e w1 ⟨rfl, rfl⟩
    go_wp2
    go_ret3
    exact ⟨_, rfl, Own.nil _ _, Below.refl _ _⟩
  rw [if_neg h5]
  have h5' : ¬ (len : Int) - ((p : Int) + 8) < n := by omega
  obtain ⟨a1, hsl1, S1⟩ := slice_mid HS.out p (p + 4) (p : Int) ((p : Int) + 4) rfl (by omega) (by omega) (by omega)
  obtain ⟨a2, hsl2, S2⟩ := slice_mid HS.out (p + 8) (p + 8 + n) ((p : Int) + 8) ((p : Int) + 8 + (n : Int)) (by omega) (by omega) (by omega) (by omega)
  rw [show p + 4 - p = 4 by omega] at hsl1 S1
  rw [show p + 8 + n - (p + 8) = n by omega, ← HD.out] at S2
  rw [show p + 8 + n - (p + 8) = n by omega] at hsl2
  have HS1 := hide S1
  have HS2 := hide S2
  have CA := hide (fun v (hv : Below w.heap.size w v) => sum_any a1 4 (cap - p) _ v (S1.below hv) (HK.out.on hv))
  obtain ⟨t1, HT1⟩ : ∃ t1, Hid (crE 0 ((xs.drop p).take 4) = t1) := ⟨_, hide rfl⟩
  have ht1 : t1 < 4294967296 := by rw [← HT1.out]; exact crE_lt _ _
  rw [HT1.out] at CA HC
  have CB := hide (fun v (hv : Below w.heap.size w v) => extend_any t1 a2 n (cap - (p + 8)) _ v ht1 (S2.below hv) (HK.out.on hv))
  rw [← HC.out] at CB
  obtain ⟨c, HCC⟩ : ∃ c, Hid (frC xs p = c) := ⟨_, hide rfl⟩
  rw [HCC.out] at CB
  rw [HCC.out]
  obtain ⟨d, HDD⟩ : ∃ d, Hid (frD xs p = d) := ⟨_, hide rfl⟩
  rw [HDD.out] at HS2
  rw [HDD.out]
  clear S1 S2 HD HC HK HS h5 h4
  have hb1 : (p : Int) + 8 + (n : Int) ≤ len := by omega
  by_cases h6 : c = s
  · rw [if_neg (by simp [h6])]
    have hcs : (c != s) = false := by simp [h6]
    clear h6
    go_enter Tryd.func18, Tryd.ntmps18
    go_wp2_with fail
    refine U1.out.mono ?_
    rintro e w1 ⟨rfl, rfl⟩
    go_wp2_with fail
    refine U2.out.mono ?_
    rintro e w1 ⟨rfl, rfl⟩
    go_wp2_with fail
    have nb0 : ∀ n, Below w.heap.size w (w.drewN n) := fun n => below_drews (Below.refl _ _) n
    go_quiet (first | (go_at_call 9; exact Calls.quiet_of_same ((CA.out _ (nb0 _)).mono fun _ _ h => ⟨h.1, h.2.symm⟩)) | (go_at_call 11; exact Calls.quiet_of_same ((CB.out _ (nb0 _)).mono fun _ _ h => ⟨h.1, h.2.symm⟩)))
    go_wp2_with fail
    refine (clone_any _ _ _ d _ (HS2.out.drewN nq)).mono ?_
    rintro e w3 ⟨v, rfl, ho, hb⟩
    go_wp2
    go_ret3
    exact ⟨v, rfl, ho, (nb0 nq).trans hb⟩
  · rw [if_pos (by simp [h6])]
    have hcs : (c != s) = true := by simp [h6]
    clear h6
    go_enter Tryd.func18, Tryd.ntmps18
    go_wp2_with fail
    refine U1.out.mono ?_
    rintro e w1 ⟨rfl, rfl⟩
    go_wp2_with fail
    refine U2.out.mono ?_
    rintro e w1 ⟨rfl, rfl⟩
    go_wp2_with fail
    have nb0 : ∀ n, Below w.heap.size w (w.drewN n) := fun n => below_drews (Below.refl _ _) n
    go_quiet (first | (go_at_call 9; exact Calls.quiet_of_same ((CA.out _ (nb0 _)).mono fun _ _ h => ⟨h.1, h.2.symm⟩)) | (go_at_call 11; exact Calls.quiet_of_same ((CB.out _ (nb0 _)).mono fun _ _ h => ⟨h.1, h.2.symm⟩)))
    go_wp2
    go_ret3
    exact ⟨_, rfl, Own.nil _ _, nb0 nq⟩

end Go.Proofs.YtbkhlbaamjccjaaDoor
