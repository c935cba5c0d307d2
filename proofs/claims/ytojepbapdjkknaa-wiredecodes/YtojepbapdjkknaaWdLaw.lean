/-
  The walk of WireDecodes.
-/
import Derived.Test.YtojepbapdjkknaaWx
namespace Go.Proofs.Ytojepbapdjkknaa
open Go.RowKit
set_option linter.unusedVariables false
set_option linter.unusedSimpArgs false

theorem str_5aW (xs : List Int) : str xs ++ { data := #[90] } = str (xs ++ [90]) := (str_append xs [90])
theorem one_slW (w : World) (x : Int) (hx : 0 ≤ x ∧ x ≤ 255) : Sl (w.alloc (.cells #[.int .u8 x] 5)) (some ⟨w.heap.size, 0, none⟩) 1 1 [x] :=
  (Blk.made w 5 (u8s [x])).sl0 (by intro y hy; simp at hy; omega) (by simp)
def d7 : List Int := 7 :: zer 31
theorem d7_length : (u8s d7).length = 32 := by simp [d7, u8s, zer]
section
variable {dst : Option Tmp} {ty : TypeId} {pos : String} {aft : Array Edge} {gd : Option (Nat × Bool)} {ops : Array Oper} {rest : List Oper} {a : Act} {w : World} {Q : Exit → Act → World → Prop}
theorem step_build7 (hw : Region.wanted ⟨dst, .build 33 #[(0, .const (.int .u8 7))], ty, pos, aft, gd⟩ (yielded ops a.tmps) = true)
    (h : wpList Try.prog ops Q rest (a.put dst (.agg (u8s d7).toArray)) w) : wpList Try.prog ops Q (⟨dst, .build 33 #[(0, .const (.int .u8 7))], ty, pos, aft, gd⟩ :: rest) a w :=
  step_run hw _ w (by kernel_rfl) h
end
/-- The block of a slice of digests. -/
theorem DOwn.lies {w : World} {B : Nat} {a : Option Addr} {n m c : Nat} {ys : List Int} (h : DOwn w B (.slice a n c) m ys) (h0 : 0 < n) : ∃ g, a = some ⟨g, 0, none⟩ ∧ B ≤ g ∧ g < w.heap.size ∧ ∃ cs, Blk w g 33 cs ∧ 32 * n ≤ cs.length := by
  have hl := h.len
  rcases h.2 with ⟨e, _⟩ | ⟨g, cap, cur, e, hB, hh, h3, h4, h5, h6⟩
  · injection e with _ e2 _
    omega
  · injection e with e1 e2 e3
    subst e1 e2
    have hb : Blk w g 33 cur.toList := by unfold Blk; simpa using hh
    exact ⟨g, rfl, hB, hb.lt, cur.toList, hb, by simp; omega⟩
set_option maxRecDepth 100000 in
set_option maxHeartbeats 4000000 in
theorem decodes_walk (a : Option Addr) (len cap : Nat) (xs : List Int) (w : World) (hs : Sl w a len cap xs) (hl : cap ≤ 140737488351232) :
    Calls Try.prog 3 #[.slice a len cap] w fun e w' => e = .returned (.bool true) ∧ Below w.heap.size w w' := by
  have HS := hide hs
  have hcap := hs.hcap
  have HX := hide hs.hlen
  have HXB := hide hs.hbyte
  obtain ⟨k, f, s, n, ys, E, hD⟩ := decB xs
  have HD := hide hD
  have hn49 := hD.few
  have HYB := hide (hD.byte hs.hbyte)
  clear hs hD
  go_enter Try.func3, Try.ntmps3
  have ho0 : Own (w.alloc (.cells #[] 5)) w.heap.size (.slice (some ⟨w.heap.size, 0, none⟩) 0 0) [] := Own.of_blk (xs := []) (Blk.made w 5 []) (Nat.le_refl _) (by simp)
  have hb0 : Below w.heap.size w (w.alloc (.cells #[] 5)) := (Below.refl _ _).alloc (Nat.le_refl _) _
  go_wp2_with (refine step_append rfl rfl rfl ho0 (HS.out.below hb0) (by simp; omega) (by simp) ?_)
  intro v1 w1 ho1 hg1 hn1
  have hb1 : Below w.heap.size w w1 := hb0.trans (Below.of_grown hg1 hb0.size ho0.lt)
  have hv1n : v1 ≠ .slice none 0 0 := fun e => by have e2 := (hn1 e).1; cases e2
  clear hg1 hn1 ho0 hb0
  have HO1 := hide ho1
  clear ho1
  go_wp2_with (refine step_append rfl rfl rfl (HO1.out.alloc _) (one_slW _ 90 (by omega)) (by simp [HX.out]; omega) (by have := hb1.size; simp; omega) ?_)
  intro v2 w2 ho2 hg2 hn2
  have HB2 := hide ((hb1.alloc hb1.size _).trans (Below.of_grown hg2 (by have := hb1.size; simp; omega) HO1.out.lt))
  have hv2n : v2 ≠ .slice none 0 0 := fun e => hv1n (hn2 e).1
  clear hg2 hn2 HO1
  rw [List.nil_append] at ho2
  obtain ⟨gk, ck, rfl, _, hin⟩ := ho2.sl (HXB.out.append (by simp [isB])) (by simp [HX.out]; omega) hv2n
  have hlx : (xs ++ [90]).length = len + 1 := by simp [HX.out]
  rw [hlx] at hin ⊢
  clear hlx
  have hkc := hin.hcap
  have hkm := hin.hmax
  have IK := hide hin
  have hpre := hin.take len (by omega)
  rw [List.take_append_of_le_length (by rw [HX.out]; exact Nat.le_refl _), List.take_of_length_le (by rw [HX.out]; exact Nat.le_refl _)] at hpre
  have PK := hide hpre
  have HW2 := hide HB2.out.size
  clear hin hpre ho2 hv1n hv2n hb1
  have hsl := sl_to gk (len + 1) ck len (len : Int) rfl (by omega)
  go_wp2_with fail
  refine (decodeB HD.out _ _ _ _ PK.out).mono ?_
  rintro e w3 ⟨hb3, u1, rfl, hu1⟩
  obtain ⟨a1, c1, rfl, hd1, hx1⟩ := hu1.ds HYB.out (by omega)
  have D1 := hide hd1
  have HV := hide (hu1.lies)
  have hs3 := hb3.size
  have B3 := hide (on_below HB2.out hb3)
  have I3 := hide (IK.out.below hb3)
  have P3 := hide (PK.out.below hb3)
  clear hb3 hd1 hu1 IK PK HB2
  go_wp2_with (refine step_alloc zP rfl ?_)
  intro w4 gx hrA hlA hbA
  have RA := hide hrA
  clear hrA
  go_wp2_with (refine step_storeA wP rfl rfl rfl RA.out rfl (One.pf _ _ _ _ _ _) rfl ?_)
  intro w5 hgB hbB
  have Y5 := hide (hbA.trans (hbB.below hlA))
  have RX := hide hgB
  have B5 := hide (on_below B3.out Y5.out)
  have I5 := hide (I3.out.below Y5.out)
  have P5 := hide (P3.out.below Y5.out)
  have D5 := hide (D1.out.below Y5.out)
  have l5 := Y5.out.size
  have hgx := RX.out.lt
  have hV5 := Y5.out
  have lx := hlA
  clear hgB hbB hbA hlA RA B3 I3 P3 D1 Y5
  go_wp2_with fail
  refine (decodeB HD.out _ _ _ _ P5.out).mono ?_
  rintro e w6 ⟨hb6, u2, rfl, hu2⟩
  obtain ⟨a2, c2', rfl, _, _⟩ := hu2.ds HYB.out (by omega)
  have O6 := hide hu2
  have Y6 := hide hb6
  clear hb6 hu2
  go_wp2_with (refine step_alloc zP rfl ?_)
  intro w7 gy hrA hlA hbA
  have RA := hide hrA
  clear hrA
  go_wp2_with (refine step_storeA wP rfl rfl rfl RA.out rfl (One.pf _ _ _ _ _ _) rfl ?_)
  intro w8 hgB hbB
  have RY := hide hgB
  have Y8 := hide (on_below Y6.out (hbA.trans (hbB.below hlA)))
  have O8 := hide (O6.out.below (hbA.trans (hbB.below hlA)))
  have ly := Nat.le_trans Y6.out.size hlA
  have B8 := hide (on_below B5.out Y8.out)
  have I8 := hide (I5.out.below Y8.out)
  have D8 := hide (D5.out.below Y8.out)
  have RX8 := hide (RX.out.on Y8.out)
  have S8 := hide (HS.out.below B8.out)
  have l8 := Y8.out.size
  have hV8 := hV5.trans (Y8.out.mono hV5.size)
  clear hgB hbB hbA hlA RA O6 Y6 Y8 B5 I5 P5 D5 RX hV5
  go_wp2_with fail
  refine (decodeRB HD.out _ _ _ _ S8.out).mono ?_
  rintro e w9 ⟨hb9, u3, rfl, hu3⟩
  obtain ⟨a3, c3, rfl, _, _⟩ := hu3.ds HYB.out (by omega)
  have O9 := hide hu3
  have Y9 := hide hb9
  clear hb9 hu3
  go_wp2_with (refine step_alloc zP rfl ?_)
  intro w10 gw hrA hlA hbA
  have RA := hide hrA
  clear hrA
  go_wp2_with (refine step_storeA wP rfl rfl rfl RA.out rfl (One.pf _ _ _ _ _ _) rfl ?_)
  intro w11 hgB hbB
  have RW := hide hgB
  have Y11 := hide (on_below Y9.out (hbA.trans (hbB.below hlA)))
  have O11 := hide (O9.out.below (hbA.trans (hbB.below hlA)))
  have lw := Nat.le_trans Y9.out.size hlA
  have BB := hide (on_below B8.out Y11.out)
  have II := hide (I8.out.below Y11.out)
  have DX := hide (D8.out.below Y11.out)
  have RXB := hide (RX8.out.on Y11.out)
  have RYB := hide (RY.out.on Y11.out)
  have SB := hide (HS.out.below BB.out)
  have OY := hide (O8.out.below Y11.out)
  have hV := hV8.trans (Y11.out.mono hV8.size)
  have l11 := Y11.out.size
  clear hgB hbB hbA hlA RA O9 Y9 Y11 B8 I8 D8 RX8 RY S8 O8 hV8
  obtain ⟨gv, hgv, hgb⟩ : ∃ gv, (0 < n → a1 = some ⟨gv, 0, none⟩ ∧ ∃ cs, Blk w11 gv 33 cs ∧ 32 * n ≤ cs.length) ∧ ((w2.heap.size ≤ gv ∧ gv < w3.heap.size) ∨ gv = w11.heap.size) := by
    by_cases h0 : 0 < n
    · obtain ⟨g, e, h1, h2, cs, h3, h4⟩ := HV.out h0
      exact ⟨g, fun _ => ⟨e, cs, h3.on hV, h4⟩, .inl ⟨h1, h2⟩⟩
    · exact ⟨w11.heap.size, fun h => absurd h h0, .inr rfl⟩
  have HGV := hide hgv
  have nx : gx ≠ gv := by have := RXB.out.lt; omega
  have ny : gy ≠ gv := by have := RYB.out.lt; omega
  have nw : gw ≠ gv := by have := RW.out.lt; omega
  have hyv : (Value.slice a2 n c2').ownBlock ≠ some gv := fun e => by
    obtain ⟨cs, hb⟩ := OY.out.blk8 e
    have := hb.lt
    have := OY.out.lt gv e
    omega
  have hwv : (Value.slice a3 n c3).ownBlock ≠ some gv := fun e => by
    obtain ⟨cs, hb⟩ := O11.out.blk8 e
    have := hb.lt
    have := O11.out.lt gv e
    omega
  have hwg : w.heap.size ≤ gv := by have := HW2.out; have := BB.out.size; omega
  clear hgv hV HV
  have hst := str_5aW xs
  have hsz : ¬ 9223372036854775807 < (str xs).size + 1 := by rw [str_size, HX.out]; omega
  obtain ⟨A3, C3, e3, DW, _⟩ := O11.out.ds HYB.out (by omega)
  obtain ⟨rfl, rfl⟩ : a3 = A3 ∧ c3 = C3 := by injection e3 with h1 h2 h3; exact ⟨h1, h3⟩
  have HDW := hide DW
  clear DW e3
  go_wp2_with (first | (refine step_loadA wP rfl rfl RXB.out rfl ?_) | (refine step_loadA wP rfl rfl RW.out rfl ?_) | fail)
  refine (samep k f s a1 a3 n c1 c3 ys _ DX.out HDW.out).mono ?_
  rintro r w12 ⟨rfl, hb12⟩
  have I12 := hide (II.out.below hb12)
  have S12 := hide (SB.out.below hb12)
  have X12 := hide (RXB.out.on hb12)
  have Y12 := hide (RYB.out.on hb12)
  have W12 := hide (RW.out.on hb12)
  have OY12 := hide (OY.out.below hb12)
  have OW12 := hide (O11.out.below hb12)
  have B12 := hide (on_below BB.out hb12)
  have hc13 := (pf_at X12.out).2.2.2
  clear II SB RXB RYB RW OY O11 BB DX HDW
  go_wp2_with (first | (refine step_toStr rfl rfl I12.out ?_) | (refine step_toStr rfl rfl S12.out ?_) | fail)
  clear hst hsz I12 S12 hc13
  have HB12 := hide hb12
  clear hb12
  have HGW : Hid (0 < n → ∃ cs, Blk w12 gv 33 cs ∧ 32 * n ≤ cs.length) := hide (fun h => by
    obtain ⟨_, cs, h1, h2⟩ := HGV.out h
    exact ⟨cs, h1.on HB12.out, h2⟩)
  go_loopw [10] (fun i W => ∃ j : Nat, j ≤ n ∧ i = .int .i64 (j : Int) ∧ But gv w12 W ∧ (0 < n → ∃ cs, Blk W gv 33 cs ∧ 32 * n ≤ cs.length)) (fun i _ => n - (intOf i).toNat)
  case atStart => exact ⟨0, by omega, rfl, But.refl _ _, HGW.out⟩
  case round =>
    obtain ⟨j, hjn, rfl, hbj, hbl⟩ := hrel
    have BJ := hide hbj
    have HBL := hide hbl
    have hcX := (pf_at (X12.out.but hbj nx)).2.2.2
    clear hbj hbl HGW
    by_cases hlt : j < n
    · have hlt' : (j : Int) < (n : Int) := by omega
      obtain ⟨cs, hcs, hcl⟩ := HBL.out (by omega)
      have ea := (HGV.out (by omega)).1
      subst ea
      have GV := hide hcs
      have hat := d_at gv 0 n c1 j (j : Int) rfl hlt
      clear hcs
      go_wp2_with (first | (refine step_build7 rfl ?_) | (refine step_store (n := 32) wD rfl rfl rfl GV.out d7_length (One.u8 _) (by omega) ?_))
      intro wn hgn hbn
      have hln : 32 * n ≤ (spl cs (u8s d7) (32 * j)).length := by rw [spl_length _ _ _ (by rw [d7_length]; omega)]; exact hcl
      have BN := hide (BJ.out.trans hbn)
      have GN := hide hgn
      clear hgn hbn
      go_wp2
      go_roundw
      case rel => exact ⟨j + 1, by omega, by simp, BN.out, fun _ => ⟨_, GN.out, hln⟩⟩
      case measure => simp only [intOf]; omega
    · have hlt' : ¬ ((j : Int) < (n : Int)) := by omega
      have YE := hide (Y12.out.but BJ.out ny)
      have WE := hide (W12.out.but BJ.out nw)
      obtain ⟨A2, C2, e2, DY, _⟩ := (OY12.out.but8 BJ.out hyv).ds HYB.out (by omega)
      obtain ⟨rfl, rfl⟩ : a2 = A2 ∧ c2' = C2 := by injection e2 with h1 h2 h3; exact ⟨h1, h3⟩
      obtain ⟨A3, C3, e3, DW, _⟩ := (OW12.out.but8 BJ.out hwv).ds HYB.out (by omega)
      obtain ⟨rfl, rfl⟩ : a3 = A3 ∧ c3 = C3 := by injection e3 with h1 h2 h3; exact ⟨h1, h3⟩
      have HDY := hide DY
      have HDW := hide DW
      have BE := hide (B12.out.trans (BJ.out.below hwg))
      clear DY DW e2 e3
      go_wp2_with (first | (refine step_loadA wP rfl rfl YE.out rfl ?_) | (refine step_loadA wP rfl rfl WE.out rfl ?_) | fail)
      refine (samep k f s a2 a3 n c2' c3 ys _ HDY.out HDW.out).mono ?_
      rintro r w14 ⟨rfl, hb14⟩
      go_wp2_with fail
      refine (names8 _).mono ?_
      rintro r w15 ⟨rfl, rfl⟩
      go_wp2
      go_ret
      exact ⟨rfl, on_below BE.out hb14⟩

end Go.Proofs.Ytojepbapdjkknaa
