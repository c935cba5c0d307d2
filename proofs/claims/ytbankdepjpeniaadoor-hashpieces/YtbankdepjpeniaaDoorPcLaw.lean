/-
  The walk of HashPieces.
-/
import Derived.Test.YtbankdepjpeniaaDoorGr
import Derived.Test.YtbankdepjpeniaaDoorKn
namespace Go.Proofs.YtbankdepjpeniaaDoor
open Go.RowKit
set_option linter.unusedVariables false

/-- A slice of numbers in memory. -/
structure SlI (w : World) (a : Option Addr) (len cap : Nat) (zs : List Int) : Prop where
  hlen : zs.length = len
  hmax : len ≤ 9223372036854775807
  hcell : 0 < len → ∃ b off, a = some ⟨b, off, none⟩ ∧ ∀ i, i < len → w.cell? ⟨b, off + i, none⟩ = some (.int .i64 (zs.getD i 0))
theorem SlI.below {w w' : World} {a : Option Addr} {len cap : Nat} {zs : List Int} (h : SlI w a len cap zs) (hb : Below w.heap.size w w') : SlI w' a len cap zs := by
  obtain ⟨h1, h2, h7⟩ := h
  refine ⟨h1, h2, fun h => ?_⟩
  obtain ⟨b, off, e, hc⟩ := h7 h
  refine ⟨b, off, e, fun i hi => ?_⟩
  have := hc i hi
  rw [hb.cell (World.block_lt_of_cell? w _ this)]
  exact this

/-- b[:k] -/
theorem slice_to (a : Option Addr) (len cap k : Nat) (K : Int) (hK : K = (k : Int)) (hk : k ≤ cap) (v : World) :
    (Instr.slice 22 (.slice a len cap) none (some (.int .i64 K)) none).run Tryd.prog v = .ok (sliced a 0 k cap 1) v := by
  subst hK
  rw [run_slice_h v _ _ _ _ und22 .i64 k (by omega) (by omega), elem22, sizeB]
  simp
theorem slice_to0 {w : World} {a : Option Addr} {len cap : Nat} {xs : List Int} (h : Sl w a len cap xs) (k : Nat) (K : Int) (hK : K = (k : Int)) (hk : k ≤ len) (v : World) :
    (Instr.slice 22 (.slice a len cap) none (some (.int .i64 K)) none).run Tryd.prog v = .ok (.slice a k cap) v := by
  rw [slice_to a len cap k K hK (by have := h.hcap; omega) v]
  congr 1
  simp only [sliced, Nat.zero_mul, Nat.sub_zero]
  split
  · rfl
  · cases a with
    | none => rfl
    | some ad =>
      obtain ⟨b, o, sp⟩ := ad
      by_cases h0 : 0 < len
      · obtain ⟨b', o', e, _⟩ := h.hcell h0
        cases e
        simp [Addr.add_lit]
      · simp [Addr.add]

theorem tmod_in (z n : Int) (hn : 0 < n) : -n < z.tmod n ∧ z.tmod n < n := by
  rcases Int.le_total 0 z with h | h
  · rw [Int.tmod_eq_emod_of_nonneg h]
    have := Int.emod_nonneg z (show n ≠ 0 by omega)
    have := Int.emod_lt_of_pos z hn
    omega
  · obtain ⟨y, rfl⟩ : ∃ y, z = -y := ⟨-z, by omega⟩
    rw [Int.neg_tmod, Int.tmod_eq_emod_of_nonneg (show 0 ≤ y by omega)]
    have := Int.emod_nonneg y (show n ≠ 0 by omega)
    have := Int.emod_lt_of_pos y hn
    omega
theorem cut_in (z : Int) (L : Nat) (hL : L ≤ 140737488351232) : ∃ kk : Nat, kk ≤ L ∧ (wrap64 (z.tmod ((L : Int) + 1) + ((L : Int) + 1))).tmod ((L : Int) + 1) = (kk : Int) := by
  have h := tmod_in z ((L : Int) + 1) (by omega)
  have e : wrap64 (z.tmod ((L : Int) + 1) + ((L : Int) + 1)) = z.tmod ((L : Int) + 1) + ((L : Int) + 1) := by
    unfold wrap64
    omega
  rw [e]
  have hu : 0 ≤ z.tmod ((L : Int) + 1) + ((L : Int) + 1) := by omega
  clear e h
  generalize z.tmod ((L : Int) + 1) + ((L : Int) + 1) = u at *
  refine ⟨(u.tmod ((L : Int) + 1)).toNat, ?_, ?_⟩
  · rw [Int.tmod_eq_emod_of_nonneg (by omega)]
    have := Int.emod_nonneg u (show (L : Int) + 1 ≠ 0 by omega)
    have := Int.emod_lt_of_pos u (show 0 < (L : Int) + 1 by omega)
    omega
  · rw [Int.tmod_eq_emod_of_nonneg (by omega)]
    have := Int.emod_nonneg u (show (L : Int) + 1 ≠ 0 by omega)
    omega

set_option maxRecDepth 100000 in
set_option maxHeartbeats 2000000 in
theorem pieces_walk (a : Option Addr) (len cap : Nat) (xs : List Int) (ca : Option Addr) (cl cc : Nat) (zs : List Int) (w : World) (hs : Sl w a len cap xs) (hl : cap ≤ 140737488351232) (hz : SlI w ca cl cc zs) (hk : KT w) :
    Calls Tryd.prog 6 #[.slice a len cap, .slice ca cl cc] w fun e w' => e = .returned (.bool true) ∧ Below w.heap.size w w' := by
  have HS := hide hs
  have HK := hide hk
  have hcap := hs.hcap
  have HX := hide hs.hlen
  have HXB := hide hs.hbyte
  have HZ := hide hz
  have hzm := hz.hmax
  have HD := hide (dg_length bL 0 xs rfl)
  clear hs hk hz
  go_enter Tryd.func6, Tryd.ntmps6
  go_wp2_with fail
  refine (new_any _).mono ?_
  rintro e w1 ⟨g, rfl, hle, hg1, hb1⟩
  have G1 := hide hg1
  have HB1 := hide hb1
  have hg0 : g ≠ 0 := by have := HK.out.lt; omega
  have hap0 := hide (HS.out.apart hle)
  clear hg1 hb1
  go_wp2
  go_loopw [6, 7] (fun v i wr => ∃ (j : Nat) (a' : Option Addr) (k : Nat), j ≤ len ∧ k ≤ cl ∧ i = .int .i64 k ∧ v = .slice a' (len - j) (cap - j) ∧ Sl wr a' (len - j) (cap - j) (xs.drop j) ∧ (0 < len - j → Apart g a') ∧ Blk wr g 38 (stM bL 0 (xs.take j)) ∧ Below w.heap.size w wr) (fun _ i _ => cl - (intOf i).toNat)
  case atStart => exact ⟨0, a, 0, by omega, by omega, rfl, rfl, HS.out.below HB1.out, hap0.out, G1.out, HB1.out⟩
  case round =>
    clear G1 HB1 hap0
    obtain ⟨j, a', k, hj, hkc, rfl, rfl, hs1, hap, hg, hb⟩ := hrel
    have S1 := hide hs1
    have AP := hide hap
    have G := hide hg
    have HB := hide hb
    have HXT := hide (show (xs.take j).length = j by rw [List.length_take, HX.out]; omega)
    have KR := hide (HK.out.below HB.out HK.out.lt)
    clear hs1 hap hg hb
    by_cases hlt : k < cl
    · have hlt' : (k : Int) < (cl : Int) := by omega
      obtain ⟨zb, zo, ez, hzc⟩ := (HZ.out.below HB.out).hcell (by omega)
      have cz := hzc k hlt
      subst ez
      clear hzc
      generalize zs.getD k 0 = z at *
      generalize hL : len - j = L at *
      generalize hC : cap - j = C at *
      have QL := hide hL
      have QC := hide hC
      clear hL hC
      have hLb : L ≤ 140737488351232 := by have := QL.out; omega
      have hnz : (L : Int) + 1 ≠ 0 := by omega
      obtain ⟨kk, hkk, hq⟩ := cut_in z L hLb
      have hst := slice_to0 S1.out kk (kk : Int) rfl hkk
      obtain ⟨a2, hsl2, hs2, hap2⟩ := slice_from S1.out kk (kk : Int) rfl hkk
      have S2 := hide hs2
      have AP2 := hide (hap2 g AP.out)
      have ST := hide (S1.out.take kk hkk)
      have APT : Hid (0 < kk → Apart g a') := hide (fun h0 => AP.out (by omega))
      have ED : Hid (xs.drop (j + kk) = (xs.drop j).drop kk) := hide (by rw [List.drop_drop])
      have ET : Hid (xs.take (j + kk) = xs.take j ++ (xs.drop j).take kk) := hide List.take_add
      have EL : Hid (L - kk = len - (j + kk) ∧ C - kk = cap - (j + kk)) := hide (by have := QL.out; have := QC.out; omega)
      have hbd : 0 + (xs.take j).length + kk ≤ 2305843009213693951 := by rw [HXT.out]; have := QL.out; omega
      clear hs2 hap2
      go_wp2_with (go_at_call 16; refine (write_any bL 0 (xs.take j) g _ _ _ _ _ G.out rfl rfl (HXB.out.take j) ST.out APT.out KR.out hg0 hbd).mono ?_; rintro e w2 ⟨rfl, hg2, hc2⟩)
      refine ⟨⟨j + kk, a2, k + 1, by have := QL.out; omega, by omega, by go_num, by rw [EL.out.1, EL.out.2], ?_, ?_, ?_, HB.out.trans (hc2.below hle HB.out.size)⟩, ?_⟩
      · rw [← EL.out.1, ← EL.out.2, ED.out]
        exact S2.out.chg hc2 AP2.out
      · rw [← EL.out.1]
        exact AP2.out
      · rw [ET.out]
        exact hg2
      · simp [intOf]; omega
    · have hlt' : ¬ (k : Int) < (cl : Int) := by omega
      have hbd : 0 + (xs.take j).length + (len - j) ≤ 2305843009213693951 := by rw [HXT.out]; omega
      have EA : Hid (xs.take j ++ xs.drop j = xs) := hide (List.take_append_drop j xs)
      have HLN : Hid (((0 + xs.length : Nat) : Int) = (len : Int)) := hide (by rw [HX.out]; omega)
      generalize hL : len - j = L at *
      generalize hC : cap - j = C at *
      go_wp2_with fail
      refine (write_any bL 0 (xs.take j) g _ _ _ _ _ G.out rfl rfl (HXB.out.take j) S1.out AP.out KR.out hg0 hbd).mono ?_
      rintro e w2 ⟨rfl, hg2, hc2⟩
      rw [EA.out] at hg2
      have G2 := hide hg2
      have HB2 := hide (HB.out.trans (hc2.below hle HB.out.size))
      have K2 := hide (HK.out.below HB2.out HK.out.lt)
      clear hg2 hc2
      go_wp2_with (first | (go_at_call 17; refine (ssum_any bL 0 xs g _ G2.out rfl rfl HXB.out K2.out (by rw [HX.out]; omega)).mono ?_; rintro e w3 ⟨rfl, hb3⟩; have HB3 := hide (HB2.out.trans (hb3.mono HB2.out.size)); have S3 := hide (HS.out.below HB3.out); have K3 := hide (HK.out.below HB3.out HK.out.lt); have G3 := hide (G2.out.below hb3 G2.out.lt)) | (go_at_call 8; refine (sum_any _ _ _ xs _ S3.out K3.out).mono ?_; rintro e w4 ⟨rfl, hb4⟩; have HB4 := hide (HB3.out.trans (hb4.mono HB3.out.size)); have G4 := hide (G3.out.below hb4 G3.out.lt); have K4 := hide (HK.out.below HB4.out HK.out.lt)) | (refine step_eqA aD rfl rfl rfl HD.out HD.out ?_) | (go_at_call 18; refine (len_any bL 0 xs g _ G4.out rfl).mono ?_; rintro e w' ⟨rfl, rfl⟩; rw [HLN.out]) | (go_at_call 22; refine (known_any _ K4.out).mono ?_; rintro e w5 ⟨rfl, hb5⟩))
      go_ret
      exact ⟨rfl, HB4.out.trans (hb5.mono HB4.out.size)⟩

end Go.Proofs.YtbankdepjpeniaaDoor
