/-
  Texts one behind the other: WbLaw FrX.
-/
import Derived.Test.YtojepbapdjkknaaDoorPkbB
import Derived.Test.YtojepbapdjkknaaDoorPkbA
import Derived.LaidLaws

/-
  The walk of WireBack.
-/
namespace Go.Proofs.YtojepbapdjkknaaDoor
open Go.RowKit
set_option linter.unusedVariables false
set_option linter.unusedSimpArgs false

theorem DecB.back {xs : List Int} {k f s : Int} {n : Nat} {ys : List Int} {E : Int} (h : DecB xs k f s n ys E) (hb : isB xs) : E = 80 ∨ (E = 0 ∧ pcnt k f s = some n ∧ encB k f s n ys = xs) := by
  rcases h with ⟨_, _, _, _, _, _, rfl⟩ | ⟨h, rfl, rfl, rfl, rfl, rfl⟩
  · exact .inl rfl
  · exact .inr ⟨rfl, h.c, enc_dec h hb⟩
theorem PrsB.back {t : ByteArray} {k f z : Int} {n : Nat} {ys : List Int} {a E : Int} (h : PrsB t k f z n ys a E) : E = 80 ∨ (E = 0 ∧ ∃ f' z' : Nat, f = (f' : Int) ∧ z = (z' : Int) ∧ pcnt k (f' : Int) (z' : Int) = some n ∧ bA (textU k f' z' n ys) = t) := by
  rcases h with ⟨b, _, _, _, _, _, _, _, rfl⟩ | ⟨f', z', h, rfl, rfl, rfl, _, rfl⟩
  · exact .inl rfl
  · exact .inr ⟨rfl, f', z', rfl, rfl, h.hd.2.hn, text_prs h⟩
theorem DecB.byt {xs : List Int} {k f s : Int} {n : Nat} {ys : List Int} {E : Int} (h : DecB xs k f s n ys E) (hb : isB xs) : isB ys := h.byte hb
set_option maxRecDepth 100000 in
set_option maxHeartbeats 8000000 in
theorem back_core (k f z : Int) (a : Option Addr) (n cap : Nat) (ys XS : List Int) (TT : ByteArray) (E : Int) (V : Bool) (ba : Option Addr) (bl bc : Nat) (xs : List Int) (t : ByteArray) (w : World)
    (hs : Ds w a n cap ys) (hbs : Sl w ba bl bc xs) (hts : t.size ≤ 1048576) (hv : EV w) (hXB : isB XS) (hXL : XS.length ≤ 100000) (hn49 : V = true → n ≤ 49) (eE : (E == 0) = V)
    (CE : ∀ (b : Option Addr) (c : Nat) (V : World), Ds V b n c ys → Calls Tryd.prog 9 #[.agg (pfC k f z (.slice b n c)).toArray] V fun r w' => Below V.heap.size V w' ∧ ∃ v, r = .returned (.tuple #[v, .int .i64 E]) ∧ Own w' V.heap.size v XS)
    (CT : ∀ (b : Option Addr) (c : Nat) (V : World), Ds V b n c ys → Below w.heap.size w V → Calls Tryd.prog 11 #[.agg (pfC k f z (.slice b n c)).toArray] V fun r w' => r = .returned (.tuple #[.string TT, .int .i64 E]) ∧ Below V.heap.size V w')
    (CV : ∀ (b : Option Addr) (c : Nat) (W : World), Calls Tryd.prog 13 #[.agg (pfC k f z (.slice b n c)).toArray] W fun r w' => r = .returned (.bool V) ∧ Below W.heap.size W w')
    (hD : V = true → DecB XS k f z n ys 0) (hP : V = true → PrsB TT k f z n ys 0 0 ∧ TT.size ≤ 1048576) :
    Calls Tryd.prog 6 #[.agg (pfC k f z (.slice a n cap)).toArray, .slice ba bl bc, .string t] w fun e w' => e = .returned (.bool true) ∧ Below w.heap.size w w' := by
  obtain ⟨k2, f2, s2, n2, ys2, E2, hD2⟩ := decB xs
  obtain ⟨k3, f3, z3, n3, ys3, A3, E3, hP3⟩ := prsB t
  have HS := hide hs
  have HB := hide hbs
  have HV := hide hv
  have HXB := hide hXB
  have HE := hide CE
  have HT := hide CT
  have HL := hide CV
  have HD := hide hD
  have HP := hide hP
  have HN := hide hn49
  have HD2 := hide hD2
  have HP3 := hide hP3
  have HY2 := hide (hD2.byte hbs.hbyte)
  have hn2 := hD2.few
  have hn3 := hP3.few
  have HY3 := hide hP3.byte
  have HBK2 := hide (hD2.back hbs.hbyte)
  have HBK3 := hide hP3.back
  have HYB := hide hs.hbyte
  clear hs hbs hv hXB CE CT CV hD hP hD2 hP3 hn49
  go_enter Tryd.func6, Tryd.ntmps6
  go_wp2_with (refine step_box (cs := pfC k f z (.slice a n cap)) rfl rfl ?_)
  intro w1 g3 hr1 hl1 hb1
  have R1 := hide hr1
  have B1 := hide hb1
  clear hr1 hb1
  go_wp2_with (first | (refine step_loadA wP rfl rfl R1.out rfl ?_) | fail)
  refine (lent_any k f z a n cap ys _ (HS.out.below B1.out)).mono ?_
  rintro r w2 ⟨hb2, a1, c1, rfl, hd2⟩
  have D2 := hide hd2
  have B2 := hide (on_below B1.out hb2)
  have R2 := hide (R1.out.on hb2)
  clear hb2 hd2 R1 B1
  go_wp2_with fail
  refine (HE.out _ _ _ D2.out).mono ?_
  rintro r w3 ⟨hb3, vx, rfl, hx3⟩
  obtain ⟨ax, cx, rfl, hsx, _⟩ := own_lies hx3 HXB.out (by omega)
  have SX3 := hide hsx
  have B3 := hide (on_below B2.out hb3)
  have R3 := hide (R2.out.on hb3)
  clear hb3 hx3 hsx R2 B2 D2
  go_wp2_with (first | (refine step_loadA wP rfl rfl R3.out rfl ?_) | fail)
  refine (lent_any k f z a n cap ys _ (HS.out.below B3.out)).mono ?_
  rintro r w4 ⟨hb4, a2, c2, rfl, hd4⟩
  have D4 := hide hd4
  have B4 := hide (on_below B3.out hb4)
  have R4 := hide (R3.out.on hb4)
  have SX4 := hide (SX3.out.below hb4)
  clear hb4 hd4 R3 B3 SX3
  go_wp2_with fail
  refine (HT.out _ _ _ D4.out B4.out).mono ?_
  rintro r w5 ⟨rfl, hb5⟩
  have B5 := hide (on_below B4.out hb5)
  have R5 := hide (R4.out.on hb5)
  have SX5 := hide (SX4.out.below hb5)
  clear hb5 R4 B4 SX4 D4
  go_wp2_with (first | (refine step_loadA wP rfl rfl R5.out rfl ?_) | fail)
  refine (lent_any k f z a n cap ys _ (HS.out.below B5.out)).mono ?_
  rintro r w6 ⟨hb6, a3, c3, rfl, hd6⟩
  have B6 := hide (on_below B5.out hb6)
  have R6 := hide (R5.out.on hb6)
  have SX6 := hide (SX5.out.below hb6)
  clear hb6 hd6 R5 B5 SX5
  go_wp2_with fail
  refine (HL.out _ _ _).mono ?_
  rintro r w7 ⟨rfl, hb7⟩
  have B7 := hide (on_below B6.out hb7)
  have R7 := hide (R6.out.on hb7)
  have SX7 := hide (SX6.out.below hb7)
  clear hb7 R6 B6 SX6
  go_upto_if 51 with fail
  go_cut [11, 12, 13, 14, 15] from 25 (fun _ _ _ _ _ W => Below w.heap.size w W)
  case first =>
    cases V
    · go_wp2_with fail
      go_meet
      case rel => exact B7.out
    · have hn49 := HN.out rfl
      have HD1 := hide (HD.out rfl)
      have HP1 := hide (HP.out rfl)
      clear HD HP
      go_wp2_with fail
      refine (decodeB HD1.out _ _ _ _ SX7.out).mono ?_
      rintro r w8 ⟨hb8, v8, rfl, ho8⟩
      obtain ⟨q1, qc1, rfl, hd8, _⟩ := ho8.ds HYB.out (by omega)
      have D8 := hide hd8
      have B8 := hide (on_below B7.out hb8)
      have R8 := hide (R7.out.on hb8)
      clear hb8 ho8 hd8 R7 B7
      go_wp2_with (refine step_alloc zP rfl ?_)
      intro w9 g11 hr9 hl9 hb9
      have G9 := hide hr9
      clear hr9
      go_wp2_with (refine step_storeA wP rfl rfl rfl G9.out rfl (One.pf _ _ _ _ _ _) rfl ?_)
      intro w10 hg10 hbut10
      have Y10 := hide (hb9.trans (hbut10.below hl9))
      have GQ := hide hg10
      have D10 := hide (D8.out.below Y10.out)
      have B10 := hide (on_below B8.out Y10.out)
      have R10 := hide (R8.out.on Y10.out)
      clear hg10 hbut10 hb9 hl9 G9 D8 B8 R8 Y10
      go_wp2_with fail
      refine (parseB HP1.out.1 _ HP1.out.2 (HV.out.below B10.out)).mono ?_
      rintro r w11 ⟨hb11, v11, rfl, ho11⟩
      obtain ⟨q2, qc2, rfl, hd11, _⟩ := ho11.ds HYB.out (by omega)
      have D11 := hide (D10.out.below hb11)
      have DR11 := hide hd11
      have B11 := hide (on_below B10.out hb11)
      have R11 := hide (R10.out.on hb11)
      have GQ11 := hide (GQ.out.on hb11)
      clear hb11 ho11 hd11 D10 B10 R10 GQ
      go_wp2_with (refine step_alloc zP rfl ?_)
      intro w12 g13 hr12 hl12 hb12
      have G12 := hide hr12
      clear hr12
      go_wp2_with (refine step_storeA wP rfl rfl rfl G12.out rfl (One.pf _ _ _ _ _ _) rfl ?_)
      intro w13 hg13 hbut13
      have Y13 := hide (hb12.trans (hbut13.below hl12))
      have GR := hide hg13
      have D13 := hide (D11.out.below Y13.out)
      have DR13 := hide (DR11.out.below Y13.out)
      have B13 := hide (on_below B11.out Y13.out)
      have R13 := hide (R11.out.on Y13.out)
      have GQ13 := hide (GQ11.out.on Y13.out)
      clear hg13 hbut13 hb12 hl12 G12 D11 DR11 B11 R11 GQ11 Y13
      go_wp2_with (first | (refine step_loadA wP rfl rfl GQ13.out rfl ?_) | (refine step_loadA wP rfl rfl R13.out rfl ?_) | fail)
      refine (samep k f z q1 a n qc1 cap ys _ D13.out (HS.out.below B13.out)).mono ?_
      rintro r w14 ⟨rfl, hb14⟩
      have B14 := hide (on_below B13.out hb14)
      have R14 := hide (R13.out.on hb14)
      have GR14 := hide (GR.out.on hb14)
      have DR14 := hide (DR13.out.below hb14)
      clear hb14 B13 R13 GR DR13 D13 GQ13
      go_wp2_with (first | (refine step_loadA wP rfl rfl GR14.out rfl ?_) | (refine step_loadA wP rfl rfl R14.out rfl ?_) | fail)
      refine (samep k f z q2 a n qc2 cap ys _ DR14.out (HS.out.below B14.out)).mono ?_
      rintro r w15 ⟨rfl, hb15⟩
      have B15 := hide (on_below B14.out hb15)
      clear hb15
      go_wp2_with fail
      go_meet
      case rel => exact B15.out
  case rest =>
    have B8 := hide hcut
    clear hcut B7 R7 SX7
    go_wp2_with fail
    refine (decodeB HD2.out _ _ _ _ (HB.out.below B8.out)).mono ?_
    rintro r w9 ⟨hb9, v9, rfl, ho9⟩
    obtain ⟨q1, qc1, rfl, hd9, _⟩ := ho9.ds HY2.out (by omega)
    have D9 := hide hd9
    have B9 := hide (on_below B8.out hb9)
    clear hb9 ho9 hd9 B8
    go_wp2_with (refine step_alloc zP rfl ?_)
    intro w10 g16 hr10 hl10 hb10
    have G10 := hide hr10
    clear hr10
    go_wp2_with (refine step_storeA wP rfl rfl rfl G10.out rfl (One.pf _ _ _ _ _ _) rfl ?_)
    intro w11 hg11 hbut11
    have Y11 := hide (hb10.trans (hbut11.below hl10))
    have GQ := hide hg11
    have D11 := hide (D9.out.below Y11.out)
    have B11 := hide (on_below B9.out Y11.out)
    clear hg11 hbut11 hb10 hl10 G10 D9 B9 Y11
    go_wp2_with fail
    refine (parseB HP3.out _ hts (HV.out.below B11.out)).mono ?_
    rintro r w12 ⟨hb12, v12, rfl, ho12⟩
    obtain ⟨q2, qc2, rfl, hd12, _⟩ := ho12.ds HY3.out (by omega)
    have D12 := hide (D11.out.below hb12)
    have DR12 := hide hd12
    have B12 := hide (on_below B11.out hb12)
    have GQ12 := hide (GQ.out.on hb12)
    clear hb12 ho12 hd12 D11 B11 GQ
    go_wp2_with (refine step_alloc zP rfl ?_)
    intro w13 g18 hr13 hl13 hb13
    have G13 := hide hr13
    clear hr13
    go_wp2_with (refine step_storeA wP rfl rfl rfl G13.out rfl (One.pf _ _ _ _ _ _) rfl ?_)
    intro w14 hg14 hbut14
    have Y14 := hide (hb13.trans (hbut14.below hl13))
    have GR := hide hg14
    have D14 := hide (D12.out.below Y14.out)
    have DR14 := hide (DR12.out.below Y14.out)
    have B14 := hide (on_below B12.out Y14.out)
    have GQ14 := hide (GQ12.out.on Y14.out)
    clear hg14 hbut14 hb13 hl13 G13 D12 DR12 B12 GQ12 Y14
    obtain ⟨bE2, hE2⟩ : ∃ b, (E2 == 0) = b := ⟨_, rfl⟩
    go_upto_if 93 with fail
    go_cut [21, 22] from 25 (fun _ _ W => Below w14.heap.size w14 W)
    case first =>
      rcases HBK2.out with rfl | ⟨rfl, hc2, he2⟩
      · obtain rfl : bE2 = false := hE2.symm
        go_wp2_with fail
        go_meet
        case rel => exact Below.refl _ _
      · obtain rfl : bE2 = true := hE2.symm
        have HE2 := hide (encode_ok k2 f2 s2 q1 n2 qc1 ys2 w14 D14.out hc2)
        rw [he2] at HE2
        clear hc2 he2
        go_wp2_with (first | (refine step_loadA wP rfl rfl GQ14.out rfl ?_) | fail)
        refine HE2.out.mono ?_
        rintro r w15 ⟨hb15, v15, rfl, _, ho15⟩
        obtain ⟨ay, cy, rfl, hsy, _⟩ := own_lies ho15 HB.out.hbyte (by rw [HB.out.hlen]; exact HB.out.hreach)
        have SY := hide hsy
        have SB := hide (HB.out.below (on_below B14.out hb15))
        have Y15 := hide hb15
        clear hb15 ho15 hsy
        go_wp2_with (first | (refine step_toStr rfl rfl SY.out ?_) | (refine step_toStr rfl rfl SB.out ?_) | fail)
        go_meet
        case rel => exact Y15.out
    case rest =>
      have Y15 := hide hcut
      have B15 := hide (on_below B14.out hcut)
      have GR15 := hide (GR.out.on hcut)
      have DR15 := hide (DR14.out.below hcut)
      clear hcut
      rcases HBK3.out with rfl | ⟨rfl, f', z', rfl, rfl, hc3, he3⟩
      · go_wp2
        go_ret
        exact ⟨rfl, B15.out⟩
      · have HT3 := hide (text_ok k3 f' z' q2 n3 qc2 ys3 wc DR15.out hc3 (HV.out.below B15.out).pt)
        rw [he3] at HT3
        clear hc3 he3
        go_wp2_with (first | (refine step_loadA wP rfl rfl GR15.out rfl ?_) | fail)
        refine HT3.out.mono ?_
        rintro r w16 ⟨rfl, hb16⟩
        go_wp2
        go_ret
        exact ⟨rfl, on_below B15.out hb16⟩

theorem back_walk (k f z : Int) (a : Option Addr) (n cap : Nat) (ys : List Int) (ba : Option Addr) (bl bc : Nat) (xs : List Int) (t : ByteArray) (w : World)
    (hs : Ds w a n cap ys) (hbs : Sl w ba bl bc xs) (hts : t.size ≤ 1048576) (hv : EV w) :
    Calls Tryd.prog 6 #[.agg (pfC k f z (.slice a n cap)).toArray, .slice ba bl bc, .string t] w fun e w' => e = .returned (.bool true) ∧ Below w.heap.size w w' := by
  have hn := hs.hreach
  by_cases hpv : pval k f z n = true
  · have hc : pcnt k f z = some n := by unfold pval at hpv; simpa using hpv
    obtain ⟨hk, hf0, hfs, hs48⟩ := pcnt_bd hc
    obtain ⟨f', rfl⟩ := Int.eq_ofNat_of_zero_le hf0
    obtain ⟨z', rfl⟩ := Int.eq_ofNat_of_zero_le (show 0 ≤ z by omega)
    have hn49 := pcnt_le hc
    have hsz : (bA (textU k f' z' n ys)).size ≤ 1048576 := by
      rw [← strL_length, strL_bA]
      unfold textU
      rw [List.length_append, bodyU_length hs.hlen n (Nat.le_refl _)]
      have := headU_length k f' z' (by omega) (by omega)
      omega
    refine back_core k f' z' a n cap ys (encB k f' z' n ys) (bA (textU k f' z' n ys)) 0 true ba bl bc xs t w hs hbs hts hv (encB_isB hc hs.hbyte) (by rw [encB_length hs.hlen]; omega) (fun _ => hn49) rfl ?_ ?_ ?_ (fun _ => dec_enc hc hs.hlen) (fun _ => ⟨prs_text hc hs.hlen hs.hbyte, hsz⟩)
    · intro b c V hV
      exact (encode_ok k f' z' b n c ys V hV hc).mono fun r w' ⟨h1, v, h2, _, h3⟩ => ⟨h1, v, h2, h3⟩
    · exact fun b c V hV hb => text_ok k f' z' b n c ys V hV hc (hv.pt.below hb)
    · exact fun b c V => by have := valid_any k f' z' b n c V (by omega); rwa [hpv] at this
  · have hpv : pval k f z n = false := by simpa using hpv
    refine back_core k f z a n cap ys [] (bA []) 2 false ba bl bc xs t w hs hbs hts hv (by intro x hx; simp at hx) (by simp) (fun h => by cases h) rfl ?_ ?_ ?_ (fun h => by cases h) (fun h => by cases h)
    · intro b c V hV
      exact (encode_bad k f z b n c V (by omega) hpv).mono fun r w' ⟨h1, h2⟩ => ⟨h2, _, h1, World.ownsRow_nil _ _ _ _⟩
    · exact fun b c V hV hb => text_bad k f z b n c V (by omega) hpv
    · exact fun b c V => by have := valid_any k f z b n c V (by omega); rwa [hpv] at this

end Go.Proofs.YtojepbapdjkknaaDoor

/-
  What lies there for WireParses and WireBack: the tables, the library's two errors, and one number.
-/
namespace Go.Proofs.YtojepbapdjkknaaDoor
open Go.ChangeShapes Go.WideShapes Go.ChangeAt Go.RowKit
set_option linter.unusedVariables false

theorem str_upto {H : Type} {s : ByteArray} (h : Rows.uptoBulk (H := H) (.lit (.string s.data.toList)) ≤ 1048576) : s.size ≤ 1048576 := by
  simp only [Rows.uptoBulk] at h
  have : s.data.toList.length = s.size := by simp
  omega
theorem gES : Tryd.prog.globalNamed "strconv.ErrSyntax" = some 5 := by kernel_rfl
theorem gEST : (Tryd.prog.globals[5]?).map (·.type) = some 65 := by kernel_rfl
theorem gER : Tryd.prog.globalNamed "strconv.ErrRange" = some 6 := by kernel_rfl
theorem gERT : (Tryd.prog.globals[6]?).map (·.type) = some 65 := by kernel_rfl
theorem cellsES : Tryd.prog.cellsOf 217 = 1 := by kernel_rfl
theorem cellsSt : Tryd.prog.cellsOf 9 = 1 := by kernel_rfl
theorem starES : "*" ++ "errors.errorString" = "*errors.errorString" := by decide
theorem rowES (u : TypeId) (h : Tryd.prog.typeName? 3 u = some "*errors.errorString") : u = 215 :=
  typeName_ptr_named (nm := "errors.errorString") (by rw [starES]; kernel_rfl) (by kernel_rfl) (by decide) u (by rw [starES]; exact h)
abbrev laid5 : List (String × DataW Unit) := [("math/bits.deBruijn32tab", Rows.laid_math_bits_deBruijn32tab), ("math/bits.deBruijn64tab", Rows.laid_math_bits_deBruijn64tab), ("internal/strconv.uint64pow10", Rows.laid_internal_strconv_uint64pow10), ("strconv.ErrRange", Rows.laid_strconv_ErrRange), ("strconv.ErrSyntax", Rows.laid_strconv_ErrSyntax)]
theorem ev_of {W : World} (h : laidMetH Tryd.prog laid5 W) (hsh : W.ShapedOpen Tryd.prog) : EV W := by
  have h0 : laidMet Tryd.prog laid5 W := h
  have h2 := laidMet.tail (laidMet.tail h0)
  have h3 := laidMet.tail h2
  have h4 := laidMet.tail h3
  obtain ⟨a0, s0, hv0, -, -, -⟩ := laid_sentinel h3 gER gERT Tryd.underlying65 rowES Tryd.underlying215 Tryd.underlying217 rfl rfl Tryd.underlying9 cellsES cellsSt
  obtain ⟨a1, s1, hv1, -, -, -⟩ := laid_sentinel h4 gES gEST Tryd.underlying65 rowES Tryd.underlying215 Tryd.underlying217 rfl rfl Tryd.underlying9 cellsES cellsSt
  exact ⟨Lib.tabIs_of_head (rest := [("strconv.ErrRange", Rows.laid_strconv_ErrRange), ("strconv.ErrSyntax", Rows.laid_strconv_ErrSyntax)]) gPT gPTt undP undP8 cellsP8 cellsPt h2, Tryd.laysM145.s1_3 W hsh, ⟨_, _, hv1⟩, ⟨_, _, hv0⟩⟩
abbrev synS : ByteArray := { data := #[105, 110, 118, 97, 108, 105, 100, 32, 115, 121, 110, 116, 97, 120] }
abbrev rngS : ByteArray := { data := #[118, 97, 108, 117, 101, 32, 111, 117, 116, 32, 111, 102, 32, 114, 97, 110, 103, 101] }
/-- A world with the tables and the two errors laid in it, for the witness; the errors' own blocks are its last two. -/
def laidOf5 (W : World) : World :=
  { laidOf4 W with heap := ((laidOf4 W).heap.modify 6 fun
      | .cells _ t frozen => .cells #[.iface 215 (.pointer (some ⟨W.heap.size - 2, 0, none⟩))] t frozen
      | o => o).modify 5 fun
      | .cells _ t frozen => .cells #[.iface 215 (.pointer (some ⟨W.heap.size - 1, 0, none⟩))] t frozen
      | o => o }
/-- The two errors' own blocks. -/
def errs5 : Array Obj := #[.cells #[.string rngS] 217, .cells #[.string synS] 217]

end Go.Proofs.YtojepbapdjkknaaDoor
