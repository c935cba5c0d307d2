/-
  The walk of HashLengthens.
-/
import Derived.Test.YtbankdepjpeniaaDoorLd
import Derived.Test.YtbankdepjpeniaaDoorPp
import Derived.Test.YtbankdepjpeniaaDoorKn
namespace Go.Proofs.YtbankdepjpeniaaDoor
open Go.RowKit
set_option linter.unusedVariables false

/-- Each is a word. -/
def isW (ws : List Int) : Prop := ∀ x ∈ ws, 0 ≤ x ∧ x < 4294967296
theorem comp_isW (h blk : List Int) : isW (comp h blk) := by
  intro x hx
  obtain ⟨i, hi, rfl⟩ := List.getElem_of_mem hx
  simp only [comp, List.getElem_zipWith, ad]
  omega
theorem ov_isW (h m : List Int) (hw : isW h) : ∀ k, isW (ov h m k)
  | 0 => hw
  | k + 1 => comp_isW _ _
theorem bL_isW : isW bL := by
  intro x hx
  simp only [bL, List.mem_cons, List.not_mem_nil, or_false] at hx
  omega
theorem be4 (x : Int) (h : 0 ≤ x ∧ x < 4294967296) : beVal (be x 4) = x := by
  have e : be x 4 = [x / 16777216 % 256, x / 65536 % 256, x / 256 % 256, x / 1 % 256] := rfl
  rw [e]
  simp only [beVal, List.foldl_cons, List.foldl_nil]
  omega
theorem be8 (x : Int) (h : 0 ≤ x ∧ x < 18446744073709551616) : beVal (be x 8) = x := by
  have e : be x 8 = [x / 72057594037927936 % 256, x / 281474976710656 % 256, x / 1099511627776 % 256, x / 4294967296 % 256, x / 16777216 % 256, x / 65536 % 256, x / 256 % 256, x / 1 % 256] := rfl
  rw [e]
  simp only [beVal, List.foldl_cons, List.foldl_nil]
  omega
theorem be_cons (x : Int) (r : List Int) : be x 4 ++ r = x / 16777216 % 256 :: x / 65536 % 256 :: x / 256 % 256 :: x / 1 % 256 :: r := rfl
theorem wordAt_wb (ws r : List Int) (hw : isW ws) (k : Nat) (hk : k < ws.length) : wordAt (wb ws ++ r) k = ws.getD k 0 := by
  have hd : ((wb ws ++ r).drop (4 * k)) = be (ws.getD k 0) 4 ++ (wb (ws.drop (k + 1)) ++ r) := by
    have e : ws = ws.take k ++ (ws.getD k 0 :: ws.drop (k + 1)) := by
      have : ws.drop k = ws.getD k 0 :: ws.drop (k + 1) := by
        rw [List.drop_eq_getElem_cons hk]
        simp [List.getD, hk]
      rw [← this, List.take_append_drop]
    have hl : (wb (ws.take k)).length = 4 * k := by rw [wb_length, List.length_take]; omega
    have e2 : wb ws = wb (ws.take k) ++ (be (ws.getD k 0) 4 ++ wb (ws.drop (k + 1))) := by
      conv => lhs; rw [e]
      simp only [wb, List.flatMap_append, List.flatMap_cons]
    rw [e2, List.append_assoc, ← hl, List.drop_left, List.append_assoc]
  unfold wordAt
  rw [hd, List.take_append_of_le_length (by rw [be_length]; omega), List.take_of_length_le (by rw [be_length]; omega)]
  refine be4 _ ?_
  have := hw ws[k] (List.getElem_mem hk)
  simpa [List.getD, hk] using this
theorem ldW_wb (ws r : List Int) (hw : isW ws) (hl : ws.length = 8) : ldW (wb ws ++ r) = ws := by
  obtain ⟨a, b, c, d, e, f, g, i, rfl⟩ := eight ws hl
  unfold ldW
  rw [wordAt_wb _ r hw 0 (by simp), wordAt_wb _ r hw 1 (by simp), wordAt_wb _ r hw 2 (by simp), wordAt_wb _ r hw 3 (by simp), wordAt_wb _ r hw 4 (by simp), wordAt_wb _ r hw 5 (by simp), wordAt_wb _ r hw 6 (by simp), wordAt_wb _ r hw 7 (by simp)]
  rfl

/-- Behind whole blocks all goes on from their words. -/
theorem ov_split (h P z : List Int) (q : Nat) (hP : P.length = 64 * q) : ∀ k, ov h (P ++ z) (q + k) = ov (ov h P q) z k
  | 0 => by rw [Nat.add_zero]; exact ov_pre h P z q (by omega)
  | k + 1 => by
    show comp (ov h (P ++ z) (q + k)) _ = comp (ov (ov h P q) z k) _
    rw [ov_split h P z q hP k]
    congr 2
    show List.drop (64 * (q + k)) (P ++ z) = _
    rw [show 64 * (q + k) = P.length + 64 * k by omega, ← List.drop_drop, List.drop_left]
theorem bk_split (P z : List Int) (q : Nat) (hP : P.length = 64 * q) : bk (P ++ z) = q + bk z := by
  simp [bk, hP]; omega
theorem dg_split (h P more : List Int) (q : Nat) (hP : P.length = 64 * q) : dg (ov h P q) P.length more = dg h 0 (P ++ more) := by
  unfold dg
  rw [Nat.zero_add, List.length_append, List.append_assoc, bk_split P _ q hP, ov_split h P _ q hP]
theorem pad_whole (n : Nat) : ∃ q, n + (padZ n + 9) = 64 * q ∧ 1 ≤ q := ⟨(n + (padZ n + 9)) / 64, by unfold padZ; omega, by unfold padZ; omega⟩

theorem own_cast {w : World} {B : Nat} {v : Value} {l l' : List Int} (h : Own w B v l) (e : l = l') : Own w B v l' := e ▸ h
theorem IsB2 {a b : List Int} (h : isB a) (k : isB b) : isB (a ++ b) := h.append k
theorem one_sl (w : World) (x : Int) (hx : 0 ≤ x ∧ x ≤ 255) : Sl (w.alloc (.cells #[.int .u8 x] 5)) (some ⟨w.heap.size, 0, none⟩) 1 1 [x] :=
  (Blk.made w 5 (u8s [x])).sl0 (by intro y hy; simp at hy; omega) (by simp)
theorem take_snoc (B : List Int) (j : Nat) (h : j < B.length) : B.take j ++ [B.getD j 0] = B.take (j + 1) := by
  rw [List.take_succ_eq_append_getElem h]
  simp [List.getD, h]

set_option maxRecDepth 100000 in
set_option maxHeartbeats 4000000 in
theorem lengthens_walk (a : Option Addr) (len cap : Nat) (xs : List Int) (a1 : Option Addr) (len1 cap1 : Nat) (ys : List Int) (w : World) (hs : Sl w a len cap xs) (hc : cap ≤ 1048576) (hs1 : Sl w a1 len1 cap1 ys) (hc1 : cap1 ≤ 1048576) (hk : KT w) :
    Calls Tryd.prog 7 #[.slice a len cap, .slice a1 len1 cap1] w fun e w' => e = .returned (.bool true) ∧ Below w.heap.size w w' := by
  have HS := hide hs
  have HS1 := hide hs1
  have HK := hide hk
  have hl := hs.hcap
  have hl1 := hs1.hcap
  have HX := hide hs.hlen
  have HY := hide hs1.hlen
  have HXB := hide hs.hbyte
  have HYB := hide hs1.hbyte
  have HD := hide (dg_length bL 0 xs rfl)
  obtain ⟨q, hq, hq1⟩ := pad_whole len
  have hz := padZ_lt len
  have HPL := hide (pad_length len)
  have HPB := hide (pad_isB len)
  have HWS : Hid (dg bL 0 xs = wb (ov bL (xs ++ pad len) q)) := hide (by
    have e : bk (xs ++ pad len) = q := by rw [bk, List.length_append, HX.out, HPL.out]; omega
    rw [dg, Nat.zero_add, HX.out, e])
  have HPN := hide (show (xs ++ pad len).length = 64 * q by rw [List.length_append, HX.out, HPL.out]; omega)
  have HOL := hide (ov_length bL (xs ++ pad len) rfl q)
  have HOW := hide (ov_isW bL (xs ++ pad len) bL_isW q)
  clear hs hs1 hk
  go_enter Tryd.func7, Tryd.ntmps7
  go_wp2_with fail
  refine (sum_any _ _ _ xs _ HS.out HK.out).mono ?_
  rintro e w1 ⟨rfl, hb1⟩
  go_wp2_with (refine step_alloc zD rfl ?_)
  intro w2 g5 hg2 hle2 hb2
  go_wp2_with (refine step_storeA wD rfl rfl rfl hg2 (by rw [u8s_length]; exact HD.out) (One.u8 _) rfl ?_)
  intro w3 hg3 hbut3
  have hb13 : Below w1.heap.size w1 w3 := hb2.trans (hbut3.below hle2)
  have HB3 := hide (hb1.trans (hb13.mono hb1.size))
  have D3 := hide hg3
  clear hb1 hg2 hle2 hb2 hg3 hbut3 hb13
  go_wp2_with fail
  refine (padP_any len _ (by omega)).mono ?_
  rintro e w4 ⟨gp, rfl, hle4, hg4, hb4⟩
  have HB4 := hide (HB3.out.trans (hb4.mono HB3.out.size))
  have D4 := hide (D3.out.below hb4 D3.out.lt)
  have P4 := hide hg4
  have SD := hide (D4.out.sl0 (by rw [HWS.out]; exact wb_isB _) (by rw [HD.out]; omega))
  rw [HD.out] at SD
  have hsA : ∀ v : World, (Instr.sliceAt 24 (.pointer (some ⟨g5, 0, none⟩)) none none none).run Tryd.prog v = .ok (.slice (some ⟨g5, 0, none⟩) 32 32) v := fun v => by kernel_rfl
  have hqn : (len : Int) + ((padZ len : Int) + 9) = ((64 * q : Nat) : Int) := by omega
  clear hb4 hg4 hle4 D3
  have ho0 : Own (w4.alloc (.cells #[] 5)) w4.heap.size (.slice (some ⟨w4.heap.size, 0, none⟩) 0 0) [] := Own.of_blk (xs := []) (Blk.made w4 5 []) (Nat.le_refl _) (by simp)
  have hb0 : Below w4.heap.size w4 (w4.alloc (.cells #[] 5)) := (Below.refl _ _).alloc (Nat.le_refl _) _
  go_wp2_with (refine step_append rfl rfl rfl ho0 (SD.out.below hb0) (by simp) (by simp) ?_)
  intro v5 w5 ho5 hg5 hn5
  have B5 := hide (hb0.trans (Below.of_grown hg5 hb0.size ho0.lt))
  have hv5 : v5 ≠ .slice none 0 0 := fun e => by have e2 := (hn5 e).1; cases e2
  rw [List.nil_append] at ho5
  have O5 := hide ho5
  have N5 := hide hv5
  clear ho0 hb0 hg5 hn5 ho5 hv5
  go_wp2
  have HBL := hide (be_length (64 * (q : Int)) 8)
  have HDL : Hid ((dg bL 0 xs).length = 32) := HD
  go_loopw [9, 10] (fun v i wr => ∃ j : Nat, j ≤ 8 ∧ i = .int .i64 (7 - (j : Int)) ∧ Own wr w4.heap.size v (dg bL 0 xs ++ (be (64 * (q : Int)) 8).take j) ∧ v ≠ .slice none 0 0 ∧ Below w4.heap.size w4 wr) (fun _ i _ => (intOf i + 1).toNat)
  case atStart => exact ⟨0, by omega, rfl, by simpa using O5.out, N5.out, B5.out⟩
  case round =>
    clear O5 N5 B5
    obtain ⟨j, hj, rfl, ho, hne, hb⟩ := hrel
    have O := hide ho
    have NE := hide hne
    have B := hide hb
    have HOLn := hide (show (dg bL 0 xs ++ (be (64 * (q : Int)) 8).take j).length = 32 + j by rw [List.length_append, HDL.out, List.length_take, HBL.out]; omega)
    clear ho hne hb
    by_cases hlt : j < 8
    · have hg9 := hide (be_get (64 * (q : Int)) 8 j hlt)
      have hsn := hide (take_snoc (be (64 * (q : Int)) 8) j (by rw [HBL.out]; exact hlt))
      have hcase : j = 0 ∨ j = 1 ∨ j = 2 ∨ j = 3 ∨ j = 4 ∨ j = 5 ∨ j = 6 ∨ j = 7 := by omega
      clear hlt hj
      rcases hcase with rfl | rfl | rfl | rfl | rfl | rfl | rfl | rfl
      · go_wp2_with (refine step_append rfl rfl rfl (O.out.alloc _) (one_sl _ _ (by omega)) (by rw [HOLn.out]; omega) (by have := B.out.size; simp; omega) ?_; intro v6 w6 ho6 hg6 hn6)
        refine ⟨⟨1, by omega, by rfl, ?_, ?_, ?_⟩, ?_⟩
        · rw [← hsn.out, hg9.out, ← List.append_assoc]
          refine own_cast ho6 ?_
          congr 2
          show _ = 64 * (q : Int) / 72057594037927936 % 256
          omega
        · exact fun e => NE.out (hn6 e).1
        · exact (B.out.alloc B.out.size _).trans (Below.of_grown hg6 (by have := B.out.size; simp; omega) O.out.lt)
        · simp [intOf]
      · go_wp2_with (refine step_append rfl rfl rfl (O.out.alloc _) (one_sl _ _ (by omega)) (by rw [HOLn.out]; omega) (by have := B.out.size; simp; omega) ?_; intro v6 w6 ho6 hg6 hn6)
        refine ⟨⟨2, by omega, by rfl, ?_, ?_, ?_⟩, ?_⟩
        · rw [← hsn.out, hg9.out, ← List.append_assoc]
          refine own_cast ho6 ?_
          congr 2
          show _ = 64 * (q : Int) / 281474976710656 % 256
          omega
        · exact fun e => NE.out (hn6 e).1
        · exact (B.out.alloc B.out.size _).trans (Below.of_grown hg6 (by have := B.out.size; simp; omega) O.out.lt)
        · simp [intOf]
      · go_wp2_with (refine step_append rfl rfl rfl (O.out.alloc _) (one_sl _ _ (by omega)) (by rw [HOLn.out]; omega) (by have := B.out.size; simp; omega) ?_; intro v6 w6 ho6 hg6 hn6)
        refine ⟨⟨3, by omega, by rfl, ?_, ?_, ?_⟩, ?_⟩
        · rw [← hsn.out, hg9.out, ← List.append_assoc]
          refine own_cast ho6 ?_
          congr 2
          show _ = 64 * (q : Int) / 1099511627776 % 256
          omega
        · exact fun e => NE.out (hn6 e).1
        · exact (B.out.alloc B.out.size _).trans (Below.of_grown hg6 (by have := B.out.size; simp; omega) O.out.lt)
        · simp [intOf]
      · go_wp2_with (refine step_append rfl rfl rfl (O.out.alloc _) (one_sl _ _ (by omega)) (by rw [HOLn.out]; omega) (by have := B.out.size; simp; omega) ?_; intro v6 w6 ho6 hg6 hn6)
        refine ⟨⟨4, by omega, by rfl, ?_, ?_, ?_⟩, ?_⟩
        · rw [← hsn.out, hg9.out, ← List.append_assoc]
          refine own_cast ho6 ?_
          congr 2
          show _ = 64 * (q : Int) / 4294967296 % 256
          omega
        · exact fun e => NE.out (hn6 e).1
        · exact (B.out.alloc B.out.size _).trans (Below.of_grown hg6 (by have := B.out.size; simp; omega) O.out.lt)
        · simp [intOf]
      · go_wp2_with (refine step_append rfl rfl rfl (O.out.alloc _) (one_sl _ _ (by omega)) (by rw [HOLn.out]; omega) (by have := B.out.size; simp; omega) ?_; intro v6 w6 ho6 hg6 hn6)
        refine ⟨⟨5, by omega, by rfl, ?_, ?_, ?_⟩, ?_⟩
        · rw [← hsn.out, hg9.out, ← List.append_assoc]
          refine own_cast ho6 ?_
          congr 2
          show _ = 64 * (q : Int) / 16777216 % 256
          omega
        · exact fun e => NE.out (hn6 e).1
        · exact (B.out.alloc B.out.size _).trans (Below.of_grown hg6 (by have := B.out.size; simp; omega) O.out.lt)
        · simp [intOf]
      · go_wp2_with (refine step_append rfl rfl rfl (O.out.alloc _) (one_sl _ _ (by omega)) (by rw [HOLn.out]; omega) (by have := B.out.size; simp; omega) ?_; intro v6 w6 ho6 hg6 hn6)
        refine ⟨⟨6, by omega, by rfl, ?_, ?_, ?_⟩, ?_⟩
        · rw [← hsn.out, hg9.out, ← List.append_assoc]
          refine own_cast ho6 ?_
          congr 2
          show _ = 64 * (q : Int) / 65536 % 256
          omega
        · exact fun e => NE.out (hn6 e).1
        · exact (B.out.alloc B.out.size _).trans (Below.of_grown hg6 (by have := B.out.size; simp; omega) O.out.lt)
        · simp [intOf]
      · go_wp2_with (refine step_append rfl rfl rfl (O.out.alloc _) (one_sl _ _ (by omega)) (by rw [HOLn.out]; omega) (by have := B.out.size; simp; omega) ?_; intro v6 w6 ho6 hg6 hn6)
        refine ⟨⟨7, by omega, by rfl, ?_, ?_, ?_⟩, ?_⟩
        · rw [← hsn.out, hg9.out, ← List.append_assoc]
          exact ho6
        · exact fun e => NE.out (hn6 e).1
        · exact (B.out.alloc B.out.size _).trans (Below.of_grown hg6 (by have := B.out.size; simp; omega) O.out.lt)
        · simp [intOf]
      · go_wp2_with (refine step_append rfl rfl rfl (O.out.alloc _) (one_sl _ _ (by omega)) (by rw [HOLn.out]; omega) (by have := B.out.size; simp; omega) ?_; intro v6 w6 ho6 hg6 hn6)
        refine ⟨⟨8, by omega, by rfl, ?_, ?_, ?_⟩, ?_⟩
        · rw [← hsn.out, hg9.out, ← List.append_assoc]
          refine own_cast ho6 ?_
          congr 2
          show _ = 64 * (q : Int) / 1 % 256
          omega
        · exact fun e => NE.out (hn6 e).1
        · exact (B.out.alloc B.out.size _).trans (Below.of_grown hg6 (by have := B.out.size; simp; omega) O.out.lt)
        · simp [intOf]
    · obtain rfl : j = 8 := by omega
      have O8 := hide O.out
      rw [List.take_of_length_le (by rw [HBL.out]; exact Nat.le_refl _)] at O8
      have HSB : Hid (isB (dg bL 0 xs ++ be (64 * (q : Int)) 8)) := hide (IsB2 (by rw [HWS.out]; exact wb_isB _) (be_isB _ _))
      have HSL := hide (show (dg bL 0 xs ++ be (64 * (q : Int)) 8).length = 40 by rw [List.length_append, HDL.out, HBL.out])
      obtain ⟨gs, cs, es, _, hss⟩ := O8.out.sl HSB.out (by rw [HSL.out]; omega) NE.out
      subst es
      rw [HSL.out] at hss ⊢
      have SS := hide hss
      have ELN : Hid (ldN (dg bL 0 xs ++ be (64 * (q : Int)) 8) = ((64 * q : Nat) : Int)) := hide (by
        unfold ldN
        rw [show 32 = (dg bL 0 xs).length from HDL.out.symm, List.drop_left, List.take_of_length_le (by rw [HBL.out]; exact Nat.le_refl _), be8 _ (by omega)]
        omega)
      have ELW : Hid (ldW (dg bL 0 xs ++ be (64 * (q : Int)) 8) = ov bL (xs ++ pad len) q) := hide (by rw [HWS.out]; exact ldW_wb _ _ HOW.out HOL.out)
      have ELD : Hid ((dg bL 0 xs ++ be (64 * (q : Int)) 8).drop 40 = []) := hide (List.drop_of_length_le (by rw [HSL.out]; exact Nat.le_refl _))
      have hmod : 64 * q - 64 * q % 64 = 64 * q := by omega
      clear hss O O8 NE HOLn
      go_wp2_with fail
      refine (load_good _ _ _ _ (64 * q) _ SS.out (by omega) ELN.out (by omega) (by omega) (by omega)).mono ?_
      rintro e w6 ⟨g, rfl, hle6, hg6, hb6⟩
      rw [ELW.out, ELD.out, hmod] at hg6
      have HB6 := hide ((HB4.out.trans (B.out.mono HB4.out.size)).trans (hb6.mono (Nat.le_trans HB4.out.size B.out.size)))
      have hw6 : w.heap.size ≤ g := Nat.le_trans (Nat.le_trans HB4.out.size B.out.size) hle6
      have P6 := hide ((P4.out.below B.out P4.out.lt).below hb6 (Nat.lt_of_lt_of_le P4.out.lt B.out.size))
      have hgp : gp ≠ g := by have := P4.out.lt; have := B.out.size; omega
      have hg0 : g ≠ 0 := by have := HK.out.lt; omega
      have G6 := hide hg6
      have Y6 := hide (HS1.out.below HB6.out)
      have AY := hide (HS1.out.apart hw6)
      have K6 := hide (HK.out.below HB6.out HK.out.lt)
      clear hg6 hb6 P4 D4 SD SS B
      go_wp2_with fail
      refine (write_any (ov bL (xs ++ pad len) q) (64 * q) [] g _ _ _ _ _ G6.out HOL.out (by omega) (by intro x hx; simp at hx) Y6.out AY.out K6.out hg0 (by simp; omega)).mono ?_
      rintro e w7 ⟨rfl, hg7, hc7⟩
      rw [List.nil_append] at hg7
      have G7 := hide hg7
      have HB7 := hide (HB6.out.trans (hc7.below hw6 HB6.out.size))
      have P7 := hide (P6.out.chg hc7 hgp)
      have X7 := hide (HS.out.below HB7.out)
      have Y7 := hide (HS1.out.below HB7.out)
      have SP7 := hide (P7.out.sl0 HPB.out (by rw [HPL.out]; omega))
      rw [HPL.out] at SP7
      clear hg7 hc7 G6 HB6 P6 Y6 K6
      have ho7 : Own (w7.alloc (.cells #[] 5)) w7.heap.size (.slice (some ⟨w7.heap.size, 0, none⟩) 0 0) [] := Own.of_blk (xs := []) (Blk.made w7 5 []) (Nat.le_refl _) (by simp)
      have hb7 : Below w7.heap.size w7 (w7.alloc (.cells #[] 5)) := (Below.refl _ _).alloc (Nat.le_refl _) _
      go_wp2_with (refine step_append rfl rfl rfl ho7 (X7.out.below hb7) (by simp; omega) (by simp) ?_)
      intro v8 w8 ho8 hg8 hn8
      have B8 := hide (hb7.trans (Below.of_grown hg8 hb7.size ho7.lt))
      have hv8 : v8 ≠ .slice none 0 0 := fun e => by have e2 := (hn8 e).1; cases e2
      rw [List.nil_append] at ho8
      have O8 := hide ho8
      clear ho7 hb7 hg8 hn8 ho8
      go_wp2_with (refine step_append rfl rfl rfl O8.out (SP7.out.below B8.out) (by rw [HX.out]; omega) B8.out.size ?_)
      intro v9 w9 ho9 hg9 hn9
      have B9 := hide (B8.out.grown hg9 B8.out.size O8.out.lt)
      have hv9 : v9 ≠ .slice none 0 0 := fun e => hv8 (hn9 e).1
      have O9 := hide ho9
      clear hg9 hn9 ho9 O8 hv8 B8
      go_wp2_with (refine step_append rfl rfl rfl O9.out (Y7.out.below B9.out) (by rw [HPN.out]; omega) B9.out.size ?_)
      intro v10 w10 ho10 hg10 hn10
      have B10 := hide (B9.out.grown hg10 B9.out.size O9.out.lt)
      have hv10 : v10 ≠ .slice none 0 0 := fun e => hv9 (hn10 e).1
      have HAL := hide (show ((xs ++ pad len) ++ ys).length = 64 * q + len1 by rw [List.length_append, HPN.out, HY.out])
      obtain ⟨ga, ca, ea, _, hsa⟩ := ho10.sl ((HXB.out.append HPB.out).append HYB.out) (by rw [HAL.out]; omega) hv10
      subst ea
      rw [HAL.out] at hsa ⊢
      have SA := hide hsa
      have HBA := hide (HB7.out.trans (B10.out.mono HB7.out.size))
      have GA := hide (G7.out.below B10.out G7.out.lt)
      have KA := hide (HK.out.below HBA.out HK.out.lt)
      have EDG : Hid (dg (ov bL (xs ++ pad len) q) (64 * q) ys = dg bL 0 ((xs ++ pad len) ++ ys)) := hide (by
        rw [← dg_split bL (xs ++ pad len) ys q HPN.out, HPN.out])
      have HDA := hide (dg_length bL 0 ((xs ++ pad len) ++ ys) rfl)
      obtain ⟨dA, hdA⟩ : ∃ dA, dg bL 0 ((xs ++ pad len) ++ ys) = dA := ⟨_, rfl⟩
      have EDA := hide hdA
      rw [hdA] at HDA EDG
      clear hdA
      clear hg10 hn10 ho10 hsa O9 hv9 hv10 B9 B10 SP7 X7 Y7 P7 G7 HB7
      go_wp2_with fail
      refine (ssum_any (ov bL (xs ++ pad len) q) (64 * q) ys g _ GA.out HOL.out (by omega) HYB.out KA.out (by rw [HY.out]; omega)).mono ?_
      rintro e wb1 ⟨rfl, hbb⟩
      rw [EDG.out]
      have SB := hide (SA.out.below hbb)
      have HBB := hide (HBA.out.trans (hbb.mono HBA.out.size))
      have KB := hide (HK.out.below HBB.out HK.out.lt)
      go_wp2_with fail
      refine (sum_any _ _ _ ((xs ++ pad len) ++ ys) _ SB.out KB.out).mono ?_
      rintro e wc1 ⟨rfl, hbc⟩
      have HBC := hide (HBB.out.trans (hbc.mono HBB.out.size))
      have KC := hide (HK.out.below HBC.out HK.out.lt)
      rw [EDA.out]
      go_wp2_with (first | (refine step_eqA aD rfl rfl rfl HDA.out HDA.out ?_) | (go_at_call 22; refine (known_any _ KC.out).mono ?_; rintro e wd1 ⟨rfl, hbd⟩))
      go_ret
      exact ⟨rfl, HBC.out.trans (hbd.mono HBC.out.size)⟩

end Go.Proofs.YtbankdepjpeniaaDoor
