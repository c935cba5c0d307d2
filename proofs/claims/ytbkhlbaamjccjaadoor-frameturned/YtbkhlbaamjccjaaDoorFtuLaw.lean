/-
  The walk of FrameTurned: a frame of which one byte behind its length is another one.
-/
import Derived.Test.YtbkhlbaamjccjaaDoorFsp
import Derived.Test.YtbkhlbaamjccjaaDoorFpt
import Derived.Test.YtbkhlbaamjccjaaDoorFrd
import Derived.Deep.Cut
namespace Go.Proofs.YtbkhlbaamjccjaaDoor
open Go.RowKit
set_option linter.unusedVariables false
set_option linter.unusedSimpArgs false

theorem be4_val (v : Int) (h0 : 0 ≤ v) (h1 : v < 4294967296) : beVal (be v 4) = v := by
  have e : be v 4 = [v / 256 ^ 3 % 256, v / 256 ^ 2 % 256, v / 256 ^ 1 % 256, v / 256 ^ 0 % 256] := rfl
  rw [e]
  simp only [beVal, List.foldl]
  omega
theorem bv4 (a b c d : Int) : beVal [a, b, c, d] = ((a * 256 + b) * 256 + c) * 256 + d := by simp [beVal]
/-- Four bytes of which one is another one are another number. -/
theorem bv4_set (l : List Int) (hl : l.length = 4) (hb : isB l) (k : Nat) (hk : k < 4) (z : Int) (hz : 0 ≤ z ∧ z ≤ 255) (hne : z ≠ l.getD k 0) : beVal (l.set k z) ≠ beVal l := by
  match l, hl with
  | [a, b, c, d], _ =>
    have ha := hb a (by simp)
    have hbb := hb b (by simp)
    have hc := hb c (by simp)
    have hd := hb d (by simp)
    match k, hk with
    | 0, _ => simp only [List.set_cons_zero, List.set_cons_succ, bv4]; simp at hne; omega
    | 1, _ => simp only [List.set_cons_zero, List.set_cons_succ, bv4]; simp at hne; omega
    | 2, _ => simp only [List.set_cons_zero, List.set_cons_succ, bv4]; simp at hne; omega
    | 3, _ => simp only [List.set_cons_zero, List.set_cons_succ, bv4]; simp at hne; omega

/-- The parts of a frame. -/
theorem fmB_head (ys : List Int) : (fmB ys).take 4 = be (ys.length : Int) 4 := by
  unfold fmB
  rw [List.append_assoc, List.take_append_of_le_length (by rw [be_length]; exact Nat.le_refl _), List.take_of_length_le (by rw [be_length]; exact Nat.le_refl _)]
theorem fmB_sum (ys : List Int) : ((fmB ys).drop 4).take 4 = be (fmC ys : Int) 4 := by
  unfold fmB
  rw [List.append_assoc, List.drop_append_of_le_length (by rw [be_length]; exact Nat.le_refl _), List.drop_of_length_le (by rw [be_length]; exact Nat.le_refl _), List.nil_append, List.take_append_of_le_length (by rw [be_length]; exact Nat.le_refl _), List.take_of_length_le (by rw [be_length]; exact Nat.le_refl _)]
theorem fmB_data (ys : List Int) : (fmB ys).drop 8 = ys := by
  unfold fmB
  rw [List.drop_append_of_le_length (by simp [be_length]), List.drop_of_length_le (by simp [be_length]), List.nil_append]
theorem set_take {l : List Int} {k n : Nat} (z : Int) (h : n ≤ k) : (l.set k z).take n = l.take n := List.take_set_of_le h
theorem drop_set_lt {l : List Int} {k n : Nat} (z : Int) (h : k < n) : (l.set k z).drop n = l.drop n := List.drop_set_of_lt h
theorem drop_set_ge {l : List Int} {k n : Nat} (z : Int) (h : n ≤ k) : (l.set k z).drop n = (l.drop n).set (k - n) z := by
  rw [List.drop_set]
  rw [if_neg (by omega)]
theorem fmB_N (ys : List Int) (hy : ys.length ≤ 1048576) : frN (fmB ys) 0 = (ys.length : Int) := by
  unfold frN
  rw [List.drop_zero, fmB_head, be4_val _ (by omega) (by omega)]
/-- A frame of which a byte behind its length is another one is not read. -/
theorem turned_R (ys : List Int) (hb : isB ys) (hy : ys.length ≤ 1048576) (k : Nat) (hk : 4 ≤ k) (hk2 : k < 8 + ys.length) (z : Int) (hz : 0 ≤ z ∧ z ≤ 255) (hne : z ≠ (fmB ys).getD k 0) : frR ((fmB ys).set k z) 0 = ([], 0, 110) := by
  have hl : ((fmB ys).set k z).length = 8 + ys.length := by rw [List.length_set, fmB_length]
  have hN : frN ((fmB ys).set k z) 0 = (ys.length : Int) := by
    unfold frN
    rw [List.drop_zero, set_take z hk, fmB_head, be4_val _ (by omega) (by omega)]
  have hh : (((fmB ys).set k z).drop 0).take 4 = be (ys.length : Int) 4 := by rw [List.drop_zero, set_take z hk, fmB_head]
  have hsum : frC ((fmB ys).set k z) 0 ≠ frS ((fmB ys).set k z) 0 := by
    unfold frC frS frD
    rw [hN, hh, Int.toNat_natCast, Nat.zero_add, Nat.zero_add]
    by_cases hk8 : k < 8
    · rw [drop_set_lt z hk8, fmB_data, List.take_of_length_le (Nat.le_refl _)]
      rw [drop_set_ge z hk, List.take_set, fmB_sum]
      have e1 : crE (crE 0 (be (ys.length : Int) 4)) ys = fmC ys := rfl
      rw [e1]
      have h1 := bv4_set (be (fmC ys : Int) 4) (be_length _ _) (be_isB _ _) (k - 4) (by omega) z hz (by
        intro e
        apply hne
        rw [e, ← fmB_sum]
        simp only [List.getD]
        rw [List.getElem?_take, if_pos (by omega), List.getElem?_drop, show 4 + (k - 4) = k by omega])
      rw [be4_val _ (by omega) (by have := fmC_lt ys; omega)] at h1
      exact fun e => h1 e.symm
    · have e8 : (((fmB ys).set k z).drop 8).take ys.length = ys.set (k - 8) z := by
        rw [drop_set_ge z (by omega), fmB_data, List.take_of_length_le (by rw [List.length_set]; exact Nat.le_refl _)]
      have e4 : ((((fmB ys).set k z).drop 4).take 4) = be (fmC ys : Int) 4 := by
        rw [drop_set_ge z hk, List.take_set_of_le (by omega), fmB_sum]
      rw [e8, e4, be4_val _ (by omega) (by have := fmC_lt ys; omega)]
      have h1 := crE_set (crE 0 (be (ys.length : Int) 4)) ys (k - 8) z hb hz (by omega) (by
        intro e
        apply hne
        have h := congrArg (fun l => l.getD (k - 8) 0) (fmB_data ys)
        simp only [List.getD, List.getElem?_drop] at h
        rw [show 8 + (k - 8) = k by omega] at h
        rw [e]
        exact h.symm)
      intro e
      apply h1
      have e1 : crE (crE 0 (be (ys.length : Int) 4)) ys = fmC ys := rfl
      rw [e1]
      omega
  unfold frR
  rw [hl, if_neg (by omega), if_neg (by omega), Int.toNat_zero, hN, if_neg (by omega), if_neg (by omega), if_pos hsum]

theorem mod_place (q : Int) (m : Nat) (hm : m ≤ 1048576) : ∃ k : Nat, wrap64 (4 + (wrap64 (q.tmod (8 + (m : Int) - 4) + (8 + (m : Int) - 4))).tmod (8 + (m : Int) - 4)) = (k : Int) ∧ 4 ≤ k ∧ k < 8 + m := by
  have hN : (8 + (m : Int) - 4) = ((m + 4 : Nat) : Int) := by omega
  rw [hN]
  have h1 : q.tmod ((m + 4 : Nat) : Int) < ((m + 4 : Nat) : Int) := Int.tmod_lt_of_pos q (by omega)
  have h2 : -((m + 4 : Nat) : Int) < q.tmod ((m + 4 : Nat) : Int) := Int.lt_tmod_of_pos q (by omega)
  generalize q.tmod ((m + 4 : Nat) : Int) = r at *
  have h3 : wrap64 (r + ((m + 4 : Nat) : Int)) = r + ((m + 4 : Nat) : Int) := by unfold wrap64; omega
  rw [h3]
  have h4 : 0 ≤ (r + ((m + 4 : Nat) : Int)).tmod ((m + 4 : Nat) : Int) := Int.tmod_nonneg _ (by omega)
  have h5 : (r + ((m + 4 : Nat) : Int)).tmod ((m + 4 : Nat) : Int) < ((m + 4 : Nat) : Int) := Int.tmod_lt_of_pos _ (by omega)
  generalize (r + ((m + 4 : Nat) : Int)).tmod ((m + 4 : Nat) : Int) = s at *
  have h6 : wrap64 (4 + s) = 4 + s := by unfold wrap64; omega
  rw [h6]
  exact ⟨(4 + s).toNat, by omega, by omega, by omega⟩
theorem xor8 (y z : Int) (hy : 0 ≤ y ∧ y ≤ 255) (hz : 0 ≤ z ∧ z ≤ 255) (h : z ≠ 0) : ∃ x, bits .xor .u8 y z = x ∧ (0 ≤ x ∧ x ≤ 255) ∧ x ≠ y := by
  obtain ⟨a, rfl⟩ := Int.eq_ofNat_of_zero_le hy.1
  obtain ⟨b, rfl⟩ := Int.eq_ofNat_of_zero_le hz.1
  have hl : a ^^^ b < 256 := Nat.xor_lt_two_pow (n := 8) (by omega) (by omega)
  refine ⟨((a ^^^ b : Nat) : Int), u8_xor_nat a b (by omega) (by omega), by omega, fun e => h ?_⟩
  have e2 : a ^^^ b = a ^^^ 0 := by rw [Nat.xor_zero]; omega
  have := xor_inj a b 0 e2
  omega
set_option maxRecDepth 100000 in
set_option maxHeartbeats 1000000 in
theorem turned_walk (b : Option Addr) (m c : Nat) (ys : List Int) (q z : Int) (w : World) (hy : Sl w b m c ys) (hq : -9223372036854775808 ≤ q ∧ q ≤ 9223372036854775807) (hz : 0 ≤ z ∧ z ≤ 255) (hk : KT w) :
    Calls Tryd.prog 8 #[.slice b m c, .int .i64 q, .int .u8 z] w fun e w' => e = .returned (.bool true) ∧ Below w.heap.size w w' := by
  by_cases hm : 1048576 < m
  · have hm' : (1048576 : Int) < m := by omega
    go_enter Tryd.func8, Tryd.ntmps8
    go_wp2_with (go_at_call 13; refine (put_big _ _ _ _ _ _ _ hm).mono ?_; rintro e w' ⟨rfl, rfl⟩)
    go_ret
    exact ⟨rfl, Below.refl _ _⟩
  · have hm' : m ≤ 1048576 := by omega
    clear hm
    have HY := hide hy
    have HYL := hide hy.hlen
    have HYB := hide hy.hbyte
    have HK := hide hk
    have hnil : Sl w none 0 0 [] := ⟨rfl, Nat.le_refl _, by omega, by omega, (fun x hx => by cases hx), fun _ => ⟨rfl, rfl⟩, fun h => absurd h (by omega)⟩
    have P1 := hide (put_ok none b 0 0 m c [] ys w hnil hy hm' hk)
    rw [List.nil_append, Nat.zero_add, Nat.zero_add] at P1
    clear hy hk hnil
    go_enter Tryd.func8, Tryd.ntmps8
    go_wp2_with fail
    refine P1.out.mono ?_
    rintro _ w1 ⟨g, rfl, hg, ho, hb⟩
    have O1 := hide ho
    have B1 := hide hb
    clear ho hb P1
    by_cases hz0 : z = 0
    · subst hz0
      go_wp2
      go_ret
      exact ⟨rfl, B1.out⟩
    · have hzb : (z == 0) = false := by simpa using hz0
      go_upto_region 10 with fail
      obtain ⟨k, hkE, hk4, hk8⟩ := mod_place q m hm'
      rw [hkE]
      clear hkE
      have hfl : (fmB ys).length = 8 + m := by rw [fmB_length, HYL.out]
      have HFB := hide (fmB_isB ys HYB.out)
      have HBK : Hid (Blk w1 g 5 (u8s (fmB ys))) := by
        rcases O1.out.2 with ⟨e, _⟩ | ⟨g', c', cur, e, _, hh, h3, h4, h5, h6⟩
        · injection e with e1 _ _
          cases e1
        · injection e with e1 e2 e3
          have e4 : g = g' := by injection e1 with e1; injection e1
          subst e4 e3
          have hc : cur.toList.length = (fmB ys).length * 1 := by rw [Array.length_toList, h5, hfl]
          rw [List.take_of_length_le (by rw [hc]; exact Nat.le_refl _)] at h6
          show Blk w1 g 5 (u8s (fmB ys))
          unfold Blk
          rw [← h6]
          simpa using hh
      have hcell : w1.cell? ⟨g, k, none⟩ = some (.int .u8 ((fmB ys).getD k 0)) := by rw [HBK.out.cell]; exact u8s_get _ _ (by omega)
      have hfree : w1.frozen? ⟨g, k, none⟩ = false := HBK.out.free k
      have hyk := HFB.out.get k
      obtain ⟨y, HYK⟩ : ∃ y, Hid ((fmB ys).getD k 0 = y) := ⟨_, hide rfl⟩
      rw [HYK.out] at hcell hyk
      obtain ⟨x, hx, hx8, hxy⟩ := xor8 y z hyk hz hz0
      have HT := hide (turned_R ys HYB.out (by rw [HYL.out]; exact hm') k hk4 (by rw [HYL.out]; exact hk8) x hx8 (by rw [HYK.out]; exact hxy))
      have hb2 := HBK.out.set k (.int .u8 x)
      rw [u8s_set] at hb2
      have hlS : ((fmB ys).set k x).length = 8 + m := by rw [List.length_set, hfl]
      have hbS : isB ((fmB ys).set k x) := fun v hv => by
        rcases List.mem_or_eq_of_mem_set hv with hv | rfl
        · exact HFB.out v hv
        · exact hx8
      have s2 := hb2.sl0 hbS (by rw [hlS]; omega)
      rw [hlS] at s2
      have K2 := HK.out.on (B1.out.trans ((But.setCell w1 g k (.int .u8 x)).below hg))
      have R2 := hide (read11_any _ _ _ _ 0 _ s2 K2)
      rw [HT.out] at R2
      have B2 := hide (B1.out.trans ((But.setCell w1 g k (.int .u8 x)).below hg))
      have hk8' : (k : Int) < 8 + (m : Int) := by omega
      clear hb2 s2 hbS hlS K2 HT hxy hyk HYK HBK hfl
      go_wp2_with fail
      refine R2.out.mono ?_
      rintro _ w3 ⟨v, rfl, ho3, hb3⟩
      obtain ⟨a3, c3, rfl, s3⟩ := ho3.sl' (fun x hx => by cases hx) (by simp)
      have B3 := hide (on_below B2.out hb3)
      clear ho3 hb3 s3 hcell hfree hx
      go_wp2
      go_ret
      exact ⟨rfl, B3.out⟩
theorem turned_law (b : Option Addr) (m c : Nat) (ys : List Int) (q z : Int) (w : World) (hy : Sl w b m c ys) (hc : c ≤ 140737488351232) (hq : (Lit.int .i64 q).wf = true) (hz : (Lit.int .u8 z).wf = true) (hk : KT w) :
    Calls Tryd.prog 8 #[.slice b m c, .int .i64 q, .int .u8 z] w fun e w' => e = .returned (.bool true) ∧ Below w.heap.size w w' :=
  turned_walk b m c ys q z w hy (bounds_i64 hq) (bounds_u8 hz) hk

end Go.Proofs.YtbkhlbaamjccjaaDoor
