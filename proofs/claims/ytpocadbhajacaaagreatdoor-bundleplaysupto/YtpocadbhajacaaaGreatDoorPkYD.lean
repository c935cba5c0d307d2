/-
  Texts one behind the other: Bwi Kqg Kqh Kqi Byh.
-/
import Derived.Test.YtpocadbhajacaaaGreatDoorPkYC
import Derived.Test.YtpocadbhajacaaaGreatDoorPkYA
import Derived.Deep.Upon
import Derived.Maps.AppendAt

/-
  How many leaves a height has: Count.
-/
namespace Go.Proofs.YtpocadbhajacaaaGreatDoor
open Go.RowKit Go.Shelf
set_option linter.unusedVariables false
set_option linter.unusedSimpArgs false
set_option maxRecDepth 100000

/-- What stands while leaves are counted. -/
structure ZN (w W : World) (b9 k : Nat) : Prop where
  c9 : Blk W b9 3 [.int .i64 (k : Int)]
  n9 : w.heap.size ≤ b9
  bel : Below w.heap.size w W
theorem ZN.ck {w W W' : World} {b9 k : Nat} (h : ZN w W b9 k) (hk : CK W W') (hb : Below w.heap.size w W') : ZN w W' b9 k := ⟨h.c9.ck hk, h.n9, hb⟩
theorem ZN.on {w W W' : World} {b9 k : Nat} (h : ZN w W b9 k) (hb : Below W.heap.size W W') : ZN w W' b9 k := ⟨h.c9.on hb, h.n9, on_below h.bel hb⟩
section
variable (d s : Nat) (rs : List Rw) (D : Dm) (w : World) (hd : DkAt w d s rs D)
include hd
theorem madeB_any : Calls Tryz.prog 31 #[.pointer (some ⟨d, 0, none⟩)] w fun r w' => r = .returned (.bool true) ∧ w' = w := by
  have HH := hide hd
  have h1 : (0 : Int) < (s : Int) := by have := hd.s1; omega
  clear hd
  go_enter Tryz.func31, Tryz.ntmps31
  go_wp2_with (go_at_call 64; refine (sector_any d s rs D _ HH.out).mono ?_; rintro e w ⟨rfl, rfl⟩)
  go_ret
  exact ⟨by simp; omega, rfl⟩
theorem countB_bad (h : Int) (ht : PT w) (he : bnE h 0 ≠ 0) : Calls Tryz.prog 18 #[.pointer (some ⟨d, 0, none⟩), .int .i64 h] w fun r w' => r = .returned (.tuple #[.int .i64 0, .int .i64 2]) ∧ Below w.heap.size w w' := by
  have e2 : bnE h 0 = 2 := by rcases bnE_bin h 0 with k | k; exact absurd k he; exact k
  have HM := hide (madeB_any d s rs D w hd)
  have HN := hide (bname_any h 0 w ht)
  rw [e2] at HN
  generalize bnP h 0 = nm at *
  clear hd ht he e2
  refine (callsIn_wide (n := 5)).1 ?_
  refine callsIn_of_wp_marks Tryz.func18 rfl trivial ?_ rfl
  refine wpIn_wide.2 ?_
  simp only [Tryz.ntmps18, List.size_toArray, List.length_cons, List.length_nil, Nat.reduceAdd, Nat.reduceSub, Array.replicate_succ, Array.replicate_zero, List.push_toArray, List.append_toArray, List.nil_append, List.cons_append]
  go_wp2_with (go_at_call 31; refine HM.out.mono ?_; rintro r w' ⟨rfl, hw'⟩; subst w')
  refine HN.out.mono ?_
  rintro r w1 ⟨rfl, hb1⟩
  go_wp2
  exact ⟨.tuple #[.int .i64 0, .int .i64 2], by simp [results, Tryz.f18, go_sem], rfl, hb1⟩
set_option maxHeartbeats 2000000 in
theorem countB_ok (H n : Nat) (hh : hB H) (hn : CnL (play rs) H n) (ht : PT w) (hwt : wt rs ≤ 1099511000000) : Calls Tryz.prog 18 #[.pointer (some ⟨d, 0, none⟩), .int .i64 (H : Int)] w fun r w' => r = .returned (.tuple #[.int .i64 (n : Int), .int .i64 0]) ∧ Below w.heap.size w w' := by
  have e0 : bnE (H : Int) 0 = 0 := bnE_nat (I := 0) hh (by decide)
  have HMD := hide (madeB_any d s rs D w hd)
  have HNM := hide (bname_any (H : Int) 0 w ht)
  rw [e0] at HNM
  generalize bnP (H : Int) 0 = nm at *
  have hnb : n ≤ 1048576 := hn.le
  have HD := hide hd
  have HT := hide ht
  have HL := hide hh
  have HN := hide hn
  have HW := hide hwt
  have HFD : Hid (∀ k, FD d D k → k < w.heap.size) := hide (fun k hk => fd_lt hd ht hk)
  clear hd ht hh hn hwt e0
  refine (callsIn_wide (n := 5)).1 ?_
  refine callsIn_of_wp_marks Tryz.func18 rfl trivial ?_ rfl
  refine wpIn_wide.2 ?_
  simp only [Tryz.ntmps18, List.size_toArray, List.length_cons, List.length_nil, Nat.reduceAdd, Nat.reduceSub, Array.replicate_succ, Array.replicate_zero, List.push_toArray, List.append_toArray, List.nil_append, List.cons_append]
  go_wp2_with (go_at_call 31; refine HMD.out.mono ?_; rintro r w' ⟨rfl, hw'⟩; subst w')
  refine HNM.out.mono ?_
  rintro r w1 ⟨rfl, hb1⟩
  have HB1 := hide hb1
  clear hb1 HMD HNM
  go_wp2_with fail
  have C9 : Blk (w1.alloc (.cells #[.int .i64 0] 3)) w1.heap.size 3 [.int .i64 0] := Blk.made w1 3 [.int .i64 0]
  have hb9 : Below w1.heap.size w1 (w1.alloc (.cells #[.int .i64 0] 3)) := (Below.refl _ _).alloc (Nat.le_refl _) _
  have HZ2 : Hid (ZN w (w1.alloc (.cells #[.int .i64 0] 3)) w1.heap.size 0) := hide ⟨C9, HB1.out.size, on_below HB1.out hb9⟩
  clear hb9 C9
  revert HZ2
  generalize w1.alloc (.cells #[.int .i64 0] 3) = w2
  have hs1 : w.heap.size ≤ w1.heap.size := HB1.out.size
  generalize w1.heap.size = b9 at *
  intro HZ2
  clear HB1
  go_wp2_with fail
  refine (placesB_mk _ _ _).mono ?_
  rintro r w3 ⟨gd, gh, rfl, BD, BH, hgd, hgh, hb3⟩
  have HZ3 := hide (HZ2.out.on hb3)
  have hb92 : b9 < w2.heap.size := HZ2.out.c9.lt
  have HSQ := hide (placesB_seq d s rs D gd gh H n w2.heap.size w3 ⟨HD.out.below HZ3.out.bel, HT.out.below HZ3.out.bel, BD, BH, hgd, hgh⟩ HL.out HN.out HW.out hb3.size (fun k hk => by have := HFD.out k hk; omega))
  have hs3 : w.heap.size ≤ w3.heap.size := HZ3.out.bel.size
  clear hb3 BD BH HZ2 hgd hgh
  go_wp2_with fail
  refine (wpIn_wide (n := 5)).1 ?_
  refine rangeM rfl (by decide) (gf := 82) (lb := #[.pointer (some ⟨gh, 0, none⟩), .pointer (some ⟨gd, 0, none⟩)]) rfl trivial (enters_of Tryz.func82 (by kernel_rfl) rfl)
    HSQ.out KB.trans (fun x V l o o' hl h hc => KB.book (B' := w3.heap.size) (fun k hk => by have := HFD.out k hk; omega) V l o o' hl h hc) (fun x A C h => KB.below h) (fun _ => rfl) (fun pre x V0 => rpl_own _ _ _ _ pre x V0)
    (fun pre V => ZN w V b9 pre.length) (fun _ _ _ => False)
    (fun _ A C row h hg hr => h.ck (CK.of_grown hg (fun r e => (hr r e).2)) (h.bel.grown hg h.bel.size (fun r e => by have := (hr r e).1; omega)))
    (fun c _ A C row h hg hr => h) HZ3.out ?act (fun _ _ _ => True) (fun _ _ _ _ _ _ _ _ => trivial) ?assign ?body ?done ?stop
  case assign =>
    rintro l x V K _ hK
    have hsem := Oper.semAt_some
    obtain ⟨g, hg⟩ : ∃ g, g = V.heap.size := ⟨_, rfl⟩
    have hK2 := hK g V (Below.refl _ _) (by omega) trivial
    clear hK
    simp only [encPl]
    gi_wp2
    simp only [List.zip_toArray, List.zip_cons_cons, List.zip_nil_left, List.foldl_toArray, List.foldl_cons, List.foldl_nil, List.setIfInBounds_toArray, List.set_cons_succ, List.set_cons_zero]
    exact hK2
  case stop =>
    rintro D0 c pre V hD hSp h hK
    exact h.elim
  case body =>
    rintro l pre x gx V0 V _ _ _ hck hsz hz ⟨h1, h2, h3⟩
    have hsem := Oper.semAt_some
    have d9 : V.cell? ⟨b9, 0, none⟩ = some (.int .i64 (pre.length : Int)) := by rw [hz.c9.cell]; rfl
    have f9 := hz.c9.free 0
    have HZV := hide hz
    have hpn : pre.length < n := h1
    obtain ⟨i, HI⟩ : ∃ i, Hid (pre.length = i) := ⟨_, hide rfl⟩
    rw [HI.out] at d9 HZV hpn
    have HP1 : Hid ((pre ++ [x]).length = i + 1) := hide (by rw [List.length_append, HI.out]; rfl)
    clear hz hck hsz h1 h2 h3
    gi_wp2
    have hbut := But.setCell V b9 0 (.int .i64 ((i + 1 : Nat) : Int))
    refine ⟨(keepsO_but hbut HZV.out.c9).from _, KB.but hbut hb92 (fun k hk => by have := HFD.out k hk; omega), ?_⟩
    show ZN w _ b9 (pre ++ [x]).length
    rw [HP1.out]
    exact ⟨HZV.out.c9.set 0 _, HZV.out.n9, HZV.out.bel.trans (hbut.below HZV.out.n9)⟩
  case done =>
    rintro Dk ys V hD hS hz hK2
    obtain rfl : ys = plsL (play rs) H n := hS
    rw [plsL_len] at hz
    have d9 : V.cell? ⟨b9, 0, none⟩ = some (.int .i64 (n : Int)) := by rw [hz.c9.cell]; rfl
    have HDK := hide hK2
    have HBL := hide hz.bel
    clear hK2 hz
    go_wp2
    refine ⟨by simp, .inl ⟨_, _, rfl, run_takeDeferred HDK.out, ?_⟩⟩
    refine ⟨.tuple #[.int .i64 (n : Int), .int .i64 0], by simp [results, Tryz.f18, go_sem], ?_⟩
    exact ⟨rfl, HBL.out.trans (belowK_b (w := w) (Nat.le_refl _) _ Dk _ (.deferred none) (by omega) HDK.out rfl rfl)⟩
/-- Count, whatever the height. -/
theorem countB_any (h : Int) (n : Nat) (ht : PT w) (hn : bnE h 0 = 0 → CnL (play rs) h.toNat n) (hwt : wt rs ≤ 1099511000000) : Calls Tryz.prog 18 #[.pointer (some ⟨d, 0, none⟩), .int .i64 h] w fun r w' =>
    r = .returned (.tuple #[.int .i64 (if bnE h 0 = 0 then (n : Int) else 0), .int .i64 (bnE h 0)]) ∧ Below w.heap.size w w' := by
  by_cases he : bnE h 0 = 0
  · obtain ⟨H, I, rfl, e0, hh, _⟩ := nmO'_nats (bnE_zero he)
    rw [if_pos he, he]
    exact countB_ok d s rs D w hd H n hh (hn he) ht hwt
  · have e2 : bnE h 0 = 2 := by rcases bnE_bin h 0 with k | k; exact absurd k he; exact k
    rw [if_neg he, e2]
    exact countB_bad d s rs D w hd h ht he
end

end Go.Proofs.YtpocadbhajacaaaGreatDoor

/-
  The document's do: a file removed, renamed.
-/
namespace Go.Proofs.YtpocadbhajacaaaGreatDoor
open Go.RowKit
set_option linter.unusedVariables false

theorem zFi : Zeroed 131 [.string ByteArray.empty, .string ByteArray.empty] := fun _ _ _ _ _ _ _ => by kernel_rfl
theorem One.fi (a b : ByteArray) : One [.string a, .string b] := by
  intro v hv
  simp at hv
  rcases hv with rfl | rfl <;> rfl
section
variable (r s : Nat) (rs : List Rw) (R : Rm) (n : ByteArray) (w : World) (h : RkAt w r s rs R) (hn : nmB n = true) (hwt : wt rs + 1 ≤ 1099511000000) (xs : List Int) (hf : play rs n = some xs) (hv : BV w (.slice none 0 0) [])
include h hn hwt hf hv
set_option maxRecDepth 100000 in
set_option maxHeartbeats 1000000 in
theorem doR_rm : Calls Tryz.prog 62 #[.pointer (some ⟨r, 0, none⟩), .agg (rwC 4 n (.slice none 0 0) 0 ByteArray.empty).toArray] w fun e w' => e = .returned (.tuple #[]) ∧ RoR w w' r s R (rs ++ [rRm n]) (.slice none 0 0) := by
  obtain ⟨A, B0, hAB0, hA, hlt, hB⟩ := h.fls.split n
  obtain ⟨I, hI⟩ : ∃ I, A.length = I := ⟨_, rfl⟩
  obtain ⟨B, hBB, hB2⟩ : ∃ B, B0 = (n, xs) :: B ∧ ∀ b ∈ B, blt n b.1 = true := by
    rcases hB with ⟨h1, _⟩ | ⟨ys, B', h1, h2, h3⟩
    · rw [hf] at h1; cases h1
    · rw [hf] at h1
      injection h1 with h1
      subst h1
      exact ⟨B', h2, h3⟩
  subst hBB
  have hAB := hAB0
  have HLR : Hid (Lraw s (play rs) (rRm n)) := hide ⟨.inr (.inr (.inr (.inl ⟨n, xs, rfl, hn, hf⟩))), fun h2 => by cases h2⟩
  have HFL : Hid (FL (doR (play rs) (rRm n)) (A ++ B)) := hide (by
    have := h.fls
    rw [hAB] at this
    exact this.turn hlt hB2)
  have HLN : Hid ((A ++ B).length ≤ rs.length + 1) := hide (by
    have := h.few
    rw [hAB] at this
    simp at this ⊢
    omega)
  clear hB hB2 hn hAB0
  obtain ⟨fa, fc, hfe⟩ := row_slice h.fk.row
  have HH := hide h
  have HL : Hid (R.l.length ≤ 1099511000000) := hide (by have h1 := h.few; have h2 := len_wt rs; omega)
  have hrl : R.qs.length = rs.length := by rw [← h.raw]; simp
  have HRL : Hid (R.qs.length ≤ 1099511000000) := hide (by have h2 := len_wt rs; omega)
  clear hrl
  have HFE := hide hfe
  have HAB := hide hAB
  have HA := hide hA
  have HLTA := hide hlt
  have HV := hide hv
  have hfind : ∀ (W : World), FkAt W r s R.fv R.qv R.l → Calls Tryz.prog 67 #[.pointer (some ⟨r, 0, none⟩), .string n] W fun e w' => e = .returned (.tuple #[.int .i64 (I : Int), .bool true]) ∧ Below W.heap.size W w' := fun W hW => by
    have := find_any r s R.fv R.qv R.l (play rs) n W hW h.fls HL.out
    rw [← hA, hI, hf] at this
    exact this
  have HFD := hide hfind
  clear h hAB hA hlt hv hfe hfind hwt
  go_enter Tryz.func62, Tryz.ntmps62
  go_wp2_with (refine step_box (cs := rwC 4 n (.slice none 0 0) 0 ByteArray.empty) rfl rfl ?_)
  intro w1 g3 hg3 hle3 hb1
  have D1 : Hid (DsR w w1 r s R R.fv R.l (rRm n) (Value.slice none 0 0) g3) := hide (HH.out.ds hb1 hg3 hle3)
  have c1 : w1.cell? ⟨g3, 1, none⟩ = some (.string n) := D1.out.r1
  clear hg3 hle3 hb1
  go_upto_region 12 with (go_at_call 67; refine (HFD.out _ D1.out.fk).mono ?_; rintro e w2 ⟨rfl, hb2⟩; have D2 := hide (D1.out.below hb2); have c0 : w2.cell? ⟨g3, 0, none⟩ = some (.int .i64 4) := D2.out.r0; clear c1 D1 hb2)
  clear HFD
  have D2' := D2
  rw [HAB.out] at D2'
  obtain ⟨g, cap, hfv, hcells⟩ := D2'.out.at'
  have HFV := hide hfv
  obtain ⟨L, hL⟩ : ∃ L, (A ++ (n, xs) :: B).length = L := ⟨_, rfl⟩
  rw [hL] at hfv
  have HIX : Hid (∀ z : World, (Instr.indexAt 107 (.slice (some ⟨g, 0, none⟩) L cap) (.int .i64 (I : Int))).run Tryz.prog z = .ok (.pointer (some ⟨g, I * 2, none⟩)) z) := hide (fun z => vw_at rFi g L cap I (by rw [← hL, ← hI]; simp) z)
  have HC1 : Hid (∀ z : World, Below w2.heap.size w2 z → z.cell? ⟨r, 1, none⟩ = some (.slice (some ⟨g, 0, none⟩) L cap)) := hide (fun z hz => by rw [← hfv]; exact (D2.out.below hz).c1)
  have HCB : Hid (∀ z : World, Below w2.heap.size w2 z → z.cell? ⟨g, I * 2 + 1, none⟩ = some (.string (str xs))) := hide (fun z hz => by rw [← hI]; exact (hcells z hz).2.1)
  have HFZ : Hid (∀ z : World, Below w2.heap.size w2 z → z.frozen? ⟨g, I * 2 + 1, none⟩ = false) := hide (fun z hz => by rw [← hI]; exact (hcells z hz).2.2.1)
  have HRG : Hid (∀ z : World, Below w2.heap.size w2 z → z.rangeAt g (I * 2) [.string n, .string (str xs)]) := hide (fun z hz => by rw [← hI]; exact (hcells z hz).2.2.2)
  have HLL := hide hL
  have HII := hide hI
  clear hfv hcells hL c0 hI
  obtain ⟨vA, hto, hvt⟩ := (Vw.of_row D2'.out.fk.row).to rFi (k := I) (by rw [← HII.out]; simp)
  obtain ⟨vB, hfr, hvf⟩ := (Vw.of_row D2'.out.fk.row).from rFi (k := I + 1) (by rw [← HII.out]; simp)
  rw [HFV.out, HLL.out] at hto hfr
  have HTO := hide hto
  have hfr' : ∀ W : World, (Instr.slice 107 (.slice (some ⟨g, 0, none⟩) L cap) (some (.int .i64 ((I : Int) + 1))) none none).run Tryz.prog W = .ok vB W := fun W => by have := hfr W; push_cast at this; exact this
  have HFR := hide hfr'
  have HIB : Hid ((I : Int) + 1 ≤ 1099511000001) := hide (by have h1 := HL.out; rw [HAB.out, List.length_append] at h1; have h2 := HII.out; omega)
  have c1 := HC1.out _ (Below.refl _ _)
  have hix := HIX.out
  clear hto hfr hfr'
  go_wp2_with (first | (refine step_loadR wFi rfl rfl [.string n, .string (str xs)] (HRG.out _ (Below.refl _ _)) rfl ?_) | (refine step_alloc zFi rfl ?_))
  intro w3 g7 hg7 hle7 hb3
  go_wp2_with (refine step_storeA wFi rfl rfl rfl hg7 rfl (One.fi _ _) rfl ?_)
  intro w4 hg7' hbut4
  have Y4 := hide (hb3.trans (hbut4.below hle7))
  have G7 := hide hg7'
  have L7 := hide hle7
  have HVT : Hid (∀ z : World, Below w4.heap.size w4 z → Vw z 131 2 vA A.length (filC A)) := hide (fun z hz => by
    have hz2 := Y4.out.trans (hz.mono Y4.out.size)
    have := hvt z (Vw.of_row (D2'.out.below hz2).fk.row)
    rw [← filC_take, ← HII.out, List.take_left' rfl] at this
    exact this)
  have HVF : Hid (∀ z : World, Below w4.heap.size w4 z → Vw z 131 2 vB B.length (filC B)) := hide (fun z hz => by
    have hz2 := Y4.out.trans (hz.mono Y4.out.size)
    have := hvf z (Vw.of_row (D2'.out.below hz2).fk.row)
    rw [← filC_drop, ← HII.out] at this
    have e1 : (A ++ (n, xs) :: B).drop (A.length + 1) = B := by rw [← List.drop_drop, List.drop_left' rfl]; rfl
    have e2 : (A ++ (n, xs) :: B).length - (A.length + 1) = B.length := by simp; omega
    rw [e1, e2] at this
    exact this)
  clear hvt hvf hg7 hg7' hle7 hb3 hbut4 c1
  go_wp2_with fail
  refine wp_region_noPanic ?_
  refine wp_region_U (q := 19) (S := fun z : World => Below w4.heap.size w4 z) (by kernel_rfl) ?_
  have Z0 := hide ((Below.refl w4.heap.size w4).drew)
  have hHeld := Z0.out
  have HC14 : Hid (∀ z : World, Below w4.heap.size w4 z → z.cell? ⟨r, 1, none⟩ = some (.slice (some ⟨g, 0, none⟩) L cap)) := hide (fun z hz => HC1.out z (Y4.out.trans (hz.mono Y4.out.size)))
  obtain ⟨f1a, f1b⟩ := wrapN ((I : Int) + 1) (by omega) (by have := HIB.out; omega)
  refine takeU 19 0 97 (.pointer (some ⟨r, 0, none⟩)) hHeld rfl rfl (by kernel_rfl) (by kernel_rfl) (by kernel_rfl) (by kernel_rfl) (by kernel_rfl) (by kernel_rfl) (fun _ _ _ h => h) (Or.inl ⟨by rfl, fun w _ => by go_simp⟩) ?_
  simp only [Act.put, List.setIfInBounds_toArray, List.set_cons_zero, List.set_cons_succ]
  refine takeU 19 2 99 (.pointer (some ⟨r, 0, none⟩)) hHeld rfl rfl (by kernel_rfl) (by kernel_rfl) (by kernel_rfl) (by kernel_rfl) (by kernel_rfl) (by kernel_rfl) (fun _ _ _ h => h) (Or.inl ⟨by rfl, fun w _ => by go_simp⟩) ?_
  simp only [Act.put, List.setIfInBounds_toArray, List.set_cons_zero, List.set_cons_succ]
  refine takeU 19 3 100 (.pointer (some ⟨r, 0, none⟩)) hHeld rfl rfl (by kernel_rfl) (by kernel_rfl) (by kernel_rfl) (by kernel_rfl) (by kernel_rfl) (by kernel_rfl) (fun _ _ _ h => h) (Or.inl ⟨by rfl, fun w _ => by go_simp⟩) ?_
  simp only [Act.put, List.setIfInBounds_toArray, List.set_cons_zero, List.set_cons_succ]
  refine takeU 19 4 101 (.pointer (some ⟨r, 1, none⟩)) hHeld rfl rfl (by kernel_rfl) (by kernel_rfl) (by kernel_rfl) (by kernel_rfl) (by kernel_rfl) (by kernel_rfl) (fun _ _ _ h => h) (Or.inl ⟨by rfl, fun w _ => by go_simp⟩) ?_
  simp only [Act.put, List.setIfInBounds_toArray, List.set_cons_zero, List.set_cons_succ]
  refine takeU 19 5 102 (.slice (some ⟨g, 0, none⟩) L cap) hHeld rfl rfl (by kernel_rfl) (by kernel_rfl) (by kernel_rfl) (by kernel_rfl) (by kernel_rfl) (by kernel_rfl) (fun _ _ _ h => h) (Or.inl ⟨by rfl, fun w hw => by have hw' : w.cell? ⟨r, 1, none⟩ = some (.slice (some ⟨g, 0, none⟩) L cap) := (fun hw => HC14.out _ hw) hw; go_simp⟩) ?_
  simp only [Act.put, List.setIfInBounds_toArray, List.set_cons_zero, List.set_cons_succ]
  refine takeU 19 6 103 (.int .i64 (I : Int)) hHeld rfl rfl (by kernel_rfl) (by kernel_rfl) (by kernel_rfl) (by kernel_rfl) (by kernel_rfl) (by kernel_rfl) (fun _ _ _ h => h) (Or.inl ⟨by rfl, fun w _ => by go_simp⟩) ?_
  simp only [Act.put, List.setIfInBounds_toArray, List.set_cons_zero, List.set_cons_succ]
  refine takeU 19 7 104 (vA) hHeld rfl rfl (by kernel_rfl) (by kernel_rfl) (by kernel_rfl) (by kernel_rfl) (by kernel_rfl) (by kernel_rfl) (fun _ _ _ h => h) (Or.inl ⟨by rfl, fun w h => run_op rfl (HTO.out w)⟩) ?_
  simp only [Act.put, List.setIfInBounds_toArray, List.set_cons_zero, List.set_cons_succ]
  refine takeU 19 9 106 (.pointer (some ⟨r, 0, none⟩)) hHeld rfl rfl (by kernel_rfl) (by kernel_rfl) (by kernel_rfl) (by kernel_rfl) (by kernel_rfl) (by kernel_rfl) (fun _ _ _ h => h) (Or.inl ⟨by rfl, fun w _ => by go_simp⟩) ?_
  simp only [Act.put, List.setIfInBounds_toArray, List.set_cons_zero, List.set_cons_succ]
  refine takeU 19 10 107 (.pointer (some ⟨r, 0, none⟩)) hHeld rfl rfl (by kernel_rfl) (by kernel_rfl) (by kernel_rfl) (by kernel_rfl) (by kernel_rfl) (by kernel_rfl) (fun _ _ _ h => h) (Or.inl ⟨by rfl, fun w _ => by go_simp⟩) ?_
  simp only [Act.put, List.setIfInBounds_toArray, List.set_cons_zero, List.set_cons_succ]
  refine takeU 19 11 108 (.pointer (some ⟨r, 1, none⟩)) hHeld rfl rfl (by kernel_rfl) (by kernel_rfl) (by kernel_rfl) (by kernel_rfl) (by kernel_rfl) (by kernel_rfl) (fun _ _ _ h => h) (Or.inl ⟨by rfl, fun w _ => by go_simp⟩) ?_
  simp only [Act.put, List.setIfInBounds_toArray, List.set_cons_zero, List.set_cons_succ]
  refine takeU 19 12 109 (.slice (some ⟨g, 0, none⟩) L cap) hHeld rfl rfl (by kernel_rfl) (by kernel_rfl) (by kernel_rfl) (by kernel_rfl) (by kernel_rfl) (by kernel_rfl) (fun _ _ _ h => h) (Or.inl ⟨by rfl, fun w hw => by have hw' : w.cell? ⟨r, 1, none⟩ = some (.slice (some ⟨g, 0, none⟩) L cap) := (fun hw => HC14.out _ hw) hw; go_simp⟩) ?_
  simp only [Act.put, List.setIfInBounds_toArray, List.set_cons_zero, List.set_cons_succ]
  refine takeU 19 13 110 (.int .i64 (I : Int)) hHeld rfl rfl (by kernel_rfl) (by kernel_rfl) (by kernel_rfl) (by kernel_rfl) (by kernel_rfl) (by kernel_rfl) (fun _ _ _ h => h) (Or.inl ⟨by rfl, fun w _ => by go_simp⟩) ?_
  simp only [Act.put, List.setIfInBounds_toArray, List.set_cons_zero, List.set_cons_succ]
  refine takeU 19 14 111 (.int .i64 ((I : Int) + 1)) hHeld rfl rfl (by kernel_rfl) (by kernel_rfl) (by kernel_rfl) (by kernel_rfl) (by kernel_rfl) (by kernel_rfl) (fun _ _ _ h => h) (Or.inl ⟨by rfl, fun w _ => by go_simp⟩) ?_
  simp only [Act.put, List.setIfInBounds_toArray, List.set_cons_zero, List.set_cons_succ]
  refine takeU 19 15 112 (vB) hHeld rfl rfl (by kernel_rfl) (by kernel_rfl) (by kernel_rfl) (by kernel_rfl) (by kernel_rfl) (by kernel_rfl) (fun _ _ _ h => h) (Or.inl ⟨by rfl, fun w h => run_op rfl (HFR.out w)⟩) ?_
  simp only [Act.put, List.setIfInBounds_toArray, List.set_cons_zero, List.set_cons_succ]
  have ONE1 : Hid (∀ x ∈ filC A, x.oneCell' = true) := hide (filC_one A)
  have HLA : Hid (A.length ≤ 1099511000000 ∧ B.length ≤ 1099511000000 ∧ A.length + B.length ≤ 1099511000000) := hide (by have := HL.out; rw [HAB.out, List.length_append, List.length_cons] at this; omega)
  refine wpAnyU_ready (rs := [1]) (by kernel_rfl) (by simp) (AllReadyU.cons rfl (fun K hK => ?_) AllReadyU.nil)
  rw [if_pos (by rfl)]
  refine wp_0F Z0.out.size ?_
  intro w5 g0 hv0 hb5
  have Z5 := hide (Z0.out.trans (hb5.mono Z0.out.size))
  have V0 := hide hv0
  refine hK.out _ _ (fun _ => Z5.out) ?_
  have hHeld := Z5.out
  clear hK K
  clear hv0 hb5
  simp only [Act.put]
  refine wpAnyU_ready (rs := [8]) (by kernel_rfl) (by simp) (AllReadyU.cons rfl (fun K hK => ?_) AllReadyU.nil)
  rw [if_pos (by rfl)]
  refine wp_app0 rFi rfl rfl V0.out (HVT.out _ Z5.out) ONE1.out (by have := HLA.out.1; omega) Z5.out.size ?_
  intro v29 w7 hv29 hb7
  have Z7 := hide (Z5.out.trans (hb7.mono Z5.out.size))
  have V29 := hide hv29
  refine hK.out _ _ (fun _ => Z7.out) ?_
  have hHeld := Z7.out
  clear hK K
  clear hv29 hb7
  simp only [Act.put]
  refine wpAnyU_ready (rs := [16]) (by kernel_rfl) (by simp) (AllReadyU.cons rfl (fun K hK => ?_) AllReadyU.nil)
  rw [if_pos (by rfl)]
  refine wp_appV rFi rfl rfl V29.out (HVF.out _ Z7.out) (filC_one _) (by have := HLA.out; omega) Z7.out.size ?_
  intro v43 w8 hv43 hgr8 hat8
  obtain ⟨L4, hL4⟩ : ∃ L4, (A ++ B).length = L4 := ⟨_, rfl⟩
  have HL4 := hide hL4
  clear hL4
  have V8 : Hid (w8.ownsRow w4.heap.size 131 2 v43 L4 (filC (A ++ B))) := hide (by rw [filC_app, ← HL4.out, List.length_append]; exact hv43)
  have Z8 := hide (Z7.out.trans (grown_below hgr8 (fun k hk => row_ge V29.out hk) Z7.out.size))
  have Y8 := hide (Y4.out.trans (Z8.out.mono Y4.out.size))
  have D8 := hide (D2'.out.below Y8.out)
  obtain ⟨a4, c4, hve4⟩ := row_slice V8.out
  subst hve4
  have k1 : w8.cell? ⟨r, 1, none⟩ = some (.slice (some ⟨g, 0, none⟩) L cap) := HC14.out _ Z8.out
  have k2 : w8.frozen? ⟨r, 1, none⟩ = false := D8.out.fk.blk.free 1
  refine hK.out _ _ (fun _ => Z8.out) ?_
  have hHeld := Z8.out
  clear hK K
  clear hv43 hgr8 hat8
  simp only [Act.put]
  refine wpAnyU_ready (rs := [17]) (by kernel_rfl) (by simp) (AllReadyU.cons rfl (fun K hK => ?_) AllReadyU.nil)
  rw [if_pos (by rfl)]
  go_simp
  refine hK.out _ _ (fun _ => Z8.out) ?_
  have hHeld := Z8.out
  clear hK K
  refine takeU 19 18 115 (.pointer (some ⟨r, 1, none⟩)) hHeld rfl rfl (by kernel_rfl) (by kernel_rfl) (by kernel_rfl) (by kernel_rfl) (by kernel_rfl) (by kernel_rfl) (fun _ _ _ h => h) (Or.inl ⟨by rfl, fun w _ => by go_simp⟩) ?_
  simp only [Act.put, List.setIfInBounds_toArray, List.set_cons_zero, List.set_cons_succ]
  refine wpAnyU_ready (rs := [19]) (by kernel_rfl) (by simp) (AllReadyU.cons rfl (fun K hK => ?_) AllReadyU.nil)
  rw [if_pos (by rfl)]
  go_simp
  refine hK.out _ _ (fun h => absurd h (by decide)) ?_
  clear hK K
  refine wpAnyU_done (by kernel_rfl) ?_ _
  refine NoPanic.normal ?_
  have B6 := But.setCell w8 r 1 (.slice a4 L4 c4)
  have D6 : Hid (DsR w (w8.setCell ⟨r, 1, none⟩ (.slice a4 L4 c4)) r s R (.slice a4 L4 c4) (A ++ B) (rRm n) (Value.slice none 0 0) g3) := hide (by
    have hne : ∀ {k : Nat} {t : TypeId} {cs : List Value}, Blk w8 k t cs → t ≠ 110 → k ≠ r := fun hc ht => hc.apart D8.out.fk.blk ht
    refine ⟨⟨D8.out.fk.blk.set 1 _, ?_⟩, ?_, ?_, D8.out.new, D8.out.chs.thenBut B6 (.inl (.inl rfl)), fun k hk => ?_, D8.out.off⟩
    · rw [HL4.out]
      refine row_same (Vw.row0 V8.out) (fun k hk => B6.block k ?_)
      obtain ⟨cs, hc⟩ := row_lies V8.out hk
      exact hne hc (by decide)
    · refine row_same D8.out.row (fun k hk => B6.block k ?_)
      obtain ⟨cs, hc⟩ := row_lies D8.out.row hk
      exact hne hc (by decide)
    · exact D8.out.gb.but B6 (hne D8.out.gb (by decide))
    · right
      have h1 := row_ge V8.out hk
      have h2 := D2'.out.chs.size
      have h3 := Y4.out.size
      omega)
  have G76 : Hid (Blk (w8.setCell ⟨r, 1, none⟩ (.slice a4 L4 c4)) g7 131 [.string n, .string (str xs)]) := hide ((G7.out.on Z8.out).but B6 ((G7.out.on Z8.out).apart D8.out.fk.blk (by decide)))
  have N7 : Hid (∀ k, (Value.slice a4 L4 c4).ownBlock = some k → k ≠ g7) := hide (fun k hk e => by
    have h1 := row_ge V8.out hk
    have h2 := G7.out.lt
    omega)
  revert D6 G76
  generalize w8.setCell ⟨r, 1, none⟩ (.slice a4 L4 c4) = w6
  intro D6 G76
  clear k1 k2 hix hHeld f1a f1b B6 V8 Z8 Y8 D8 V29 Z7 V0 Z5 Z0 HC14 HVT HVF HTO HFR
  have c0 : w6.cell? ⟨g3, 0, none⟩ = some (.int .i64 4) := D6.out.r0
  go_wp2_with fail
  clear c0
  have HRE5 : Hid (∃ q1 q2, R.qv = .slice q1 R.qs.length q2) := hide (by obtain ⟨q1, q2, hq⟩ := row_slice HH.out.row; exact ⟨q1, q2, hq⟩)
  obtain ⟨L5, hL5⟩ : ∃ L5, (R.qs ++ [(rRm n, (Value.slice none 0 0))]).length = L5 := ⟨_, rfl⟩
  have HL5 := hide hL5
  clear hL5
  refine wp_region_noPanic ?_
  refine wp_region_U (q := 10) (S := fun z : World => z.cell? ⟨r, 2, none⟩ = some R.qv ∧ z.rangeAt g3 0 (rwC 4 n (.slice none 0 0) 0 ByteArray.empty)) (by kernel_rfl) ?_
  have Z0 := hide ((Below.refl w6.heap.size w6).drew)
  have E0 := hide (D6.out.below Z0.out)
  have HIR : Hid ((Tryz.prog.info? 117).map (·.size) = some (rwC 4 n (.slice none 0 0) 0 ByteArray.empty).length) := hide (by rw [wRw.size]; rfl)
  have gb0 : Blk w6.drew g3 117 (rwC 4 n (.slice none 0 0) 0 ByteArray.empty) := E0.out.gb
  have hHeld : w6.drew.cell? ⟨r, 2, none⟩ = some R.qv ∧ w6.drew.rangeAt g3 0 (rwC 4 n (.slice none 0 0) 0 ByteArray.empty) := ⟨E0.out.c2, gb0.range 0 _ (by simp)⟩
  clear gb0
  refine takeU 10 0 168 (.pointer (some ⟨r, 0, none⟩)) hHeld rfl rfl (by kernel_rfl) (by kernel_rfl) (by kernel_rfl) (by kernel_rfl) (by kernel_rfl) (by kernel_rfl) (fun _ _ _ h => h) (Or.inl ⟨by rfl, fun w _ => by go_simp⟩) ?_
  simp only [Act.put, List.setIfInBounds_toArray, List.set_cons_zero, List.set_cons_succ]
  refine takeU 10 1 169 (.pointer (some ⟨r, 0, none⟩)) hHeld rfl rfl (by kernel_rfl) (by kernel_rfl) (by kernel_rfl) (by kernel_rfl) (by kernel_rfl) (by kernel_rfl) (fun _ _ _ h => h) (Or.inl ⟨by rfl, fun w _ => by go_simp⟩) ?_
  simp only [Act.put, List.setIfInBounds_toArray, List.set_cons_zero, List.set_cons_succ]
  refine takeU 10 2 170 (.pointer (some ⟨r, 0, none⟩)) hHeld rfl rfl (by kernel_rfl) (by kernel_rfl) (by kernel_rfl) (by kernel_rfl) (by kernel_rfl) (by kernel_rfl) (fun _ _ _ h => h) (Or.inl ⟨by rfl, fun w _ => by go_simp⟩) ?_
  simp only [Act.put, List.setIfInBounds_toArray, List.set_cons_zero, List.set_cons_succ]
  refine takeU 10 3 171 (.pointer (some ⟨r, 2, none⟩)) hHeld rfl rfl (by kernel_rfl) (by kernel_rfl) (by kernel_rfl) (by kernel_rfl) (by kernel_rfl) (by kernel_rfl) (fun _ _ _ h => h) (Or.inl ⟨by rfl, fun w _ => by go_simp⟩) ?_
  simp only [Act.put, List.setIfInBounds_toArray, List.set_cons_zero, List.set_cons_succ]
  refine takeU 10 4 172 (R.qv) hHeld rfl rfl (by kernel_rfl) (by kernel_rfl) (by kernel_rfl) (by kernel_rfl) (by kernel_rfl) (by kernel_rfl) (fun _ _ _ h => h) (Or.inl ⟨by rfl, fun w hw => by have hw' : w.cell? ⟨r, 2, none⟩ = some (R.qv) := (fun h => h.1) hw; go_simp⟩) ?_
  simp only [Act.put, List.setIfInBounds_toArray, List.set_cons_zero, List.set_cons_succ]
  refine takeU 10 5 173 (.agg (rwC 4 n (.slice none 0 0) 0 ByteArray.empty).toArray) hHeld rfl rfl (by kernel_rfl) (by kernel_rfl) (by kernel_rfl) (by kernel_rfl) (by kernel_rfl) (by kernel_rfl) (fun _ _ _ h => h) (yieldsIf_load_mid (by rfl) _ _ rfl g3 0 rfl _ _ (fun w h => h.2) Tryz.underlying117 rfl HIR.out) ?_
  simp only [Act.put, List.setIfInBounds_toArray, List.set_cons_zero, List.set_cons_succ]
  refine wpAnyU_ready (rs := [6]) (by kernel_rfl) (by simp) (AllReadyU.cons rfl (fun K hK => ?_) AllReadyU.nil)
  rw [if_pos (by rfl)]
  refine wp_oneR (r := rRm n) (v := (Value.slice none 0 0)) ⟨_, _, _, rfl⟩ rfl ?_
  intro w4 u4 hu4 hb4
  have E4 := hide (E0.out.below hb4)
  have HU4 := hide hu4
  have gb0 : Blk w4 g3 117 (rwC 4 n (.slice none 0 0) 0 ByteArray.empty) := E4.out.gb
  have hH4 : w4.cell? ⟨r, 2, none⟩ = some R.qv ∧ w4.rangeAt g3 0 (rwC 4 n (.slice none 0 0) 0 ByteArray.empty) := ⟨E4.out.c2, gb0.range 0 _ (by simp)⟩
  clear gb0
  refine hK.out _ _ (fun _ => hH4) ?_
  have hHeld := hH4
  clear hK K
  clear hu4 hb4 hH4
  simp only [Act.put]
  refine wpAnyU_ready (rs := [7]) (by kernel_rfl) (by simp) (AllReadyU.cons rfl (fun K hK => ?_) AllReadyU.nil)
  rw [if_pos (by rfl)]
  refine wp_appV rRw rfl rfl E4.out.row HU4.out (rwsC_one _ (fun x hx => by simp at hx; subst hx; exact ⟨_, _, _, rfl⟩)) (by have := HRL.out; omega) (Nat.zero_le _) ?_
  intro qv5 w5 hrow5 hgr5 hat5
  have hne5 : ∀ k, R.qv.ownBlock = some k → k ≠ r := fun k hk e => by
    obtain ⟨cs, hc⟩ := row_lies E4.out.row hk
    exact hc.apart E4.out.fk.blk (by decide) e
  have hnf5 : ∀ k, (Value.slice a4 L4 c4).ownBlock = some k → R.qv.ownBlock ≠ some k := fun k hk e => by
    obtain ⟨cs, hc⟩ := row_lies E4.out.row e
    obtain ⟨cs', hc'⟩ := row_lies E4.out.fk.row hk
    exact hc.apart hc' (by decide) rfl
  have DK5 : Hid (Blk w5 r 110 (rkC s (Value.slice a4 L4 c4) R.qv)) := hide (E4.out.fk.blk.same (hgr5.block r E4.out.fk.blk.lt (fun e => hne5 r e.symm rfl)))
  have G5 : Hid (Blk w5 g3 117 (rwC 4 n (.slice none 0 0) 0 ByteArray.empty)) := hide (Blk.same E4.out.gb (hgr5.block g3 E4.out.gb.lt (fun e => E4.out.off e.symm)))
  have F5 : Hid (w5.ownsRow 0 131 2 (Value.slice a4 L4 c4) (A ++ B).length (filC ((A ++ B)))) := hide (row_same E4.out.fk.row (fun k hk => by
    obtain ⟨cs, hc⟩ := row_lies E4.out.fk.row hk
    exact hgr5.block k hc.lt (fun e => hnf5 k hk e.symm)))
  have CH5 : Hid (Chs (R.own r) w w5) := hide (E4.out.chs.thenGrown hgr5 (fun k hk => .inl (.inr (.inr hk))))
  have LQ5 : Hid (∀ k, qv5.ownBlock = some k → R.own r k ∨ w.heap.size ≤ k) := hide (fun k hk => by
    rcases hat5 with e | e
    · exact .inl (.inr (.inr (by rw [e] at hk; exact hk)))
    · rw [e] at hk
      injection hk with hk
      have := E4.out.chs.size
      right
      omega)
  have ROW5 : Hid (w5.ownsRow 0 117 5 qv5 L5 (rwsC (R.qs ++ [(rRm n, (Value.slice none 0 0))]))) := hide (by rw [rwsC_app, ← HL5.out, List.length_append]; exact hrow5)
  obtain ⟨qa5, qc5, hqe5⟩ := row_slice ROW5.out
  subst hqe5
  have k1 : w5.cell? ⟨r, 2, none⟩ = some R.qv := by rw [DK5.out.cell]; rfl
  have k2 : w5.frozen? ⟨r, 2, none⟩ = false := DK5.out.free 2
  have hH5 : w5.cell? ⟨r, 2, none⟩ = some R.qv ∧ w5.rangeAt g3 0 (rwC 4 n (.slice none 0 0) 0 ByteArray.empty) := ⟨k1, G5.out.range 0 _ (by simp)⟩
  refine hK.out _ _ (fun _ => hH5) ?_
  have hHeld := hH5
  clear hK K
  clear hrow5 hgr5 hat5 hne5 hnf5
  simp only [Act.put]
  refine wpAnyU_ready (rs := [8]) (by kernel_rfl) (by simp) (AllReadyU.cons rfl (fun K hK => ?_) AllReadyU.nil)
  rw [if_pos (by rfl)]
  go_simp
  refine hK.out _ _ (fun _ => hH5) ?_
  have hHeld := hH5
  clear hK K
  clear hH5
  refine takeU 10 9 177 (.pointer (some ⟨r, 2, none⟩)) hHeld rfl rfl (by kernel_rfl) (by kernel_rfl) (by kernel_rfl) (by kernel_rfl) (by kernel_rfl) (by kernel_rfl) (fun _ _ _ h => h) (Or.inl ⟨by rfl, fun w _ => by go_simp⟩) ?_
  simp only [Act.put, List.setIfInBounds_toArray, List.set_cons_zero, List.set_cons_succ]
  refine wpAnyU_ready (rs := [10]) (by kernel_rfl) (by simp) (AllReadyU.cons rfl (fun K hK => ?_) AllReadyU.nil)
  rw [if_pos (by rfl)]
  go_simp
  refine hK.out _ _ (fun h => absurd h (by decide)) ?_
  clear hK K
  refine wpAnyU_done (by kernel_rfl) ?_ _
  refine NoPanic.normal ?_
  have B6 := But.setCell w5 r 2 (.slice qa5 L5 qc5)
  have FK6 : FkAt (w5.setCell ⟨r, 2, none⟩ (.slice qa5 L5 qc5)) r s (Value.slice a4 L4 c4) (.slice qa5 L5 qc5) ((A ++ B)) := ⟨DK5.out.set 2 _, row_same F5.out (fun k hk => B6.block k (fun e => by
    obtain ⟨cs, hc⟩ := row_lies F5.out hk
    exact hc.apart DK5.out (by decide) e))⟩
  have hres : RoR w (w5.setCell ⟨r, 2, none⟩ (.slice qa5 L5 qc5)) r s R (rs ++ [rRm n]) (Value.slice none 0 0) := DsR.done HH.out HLR.out HV.out (by exact HFL.out) HLN.out FK6 (by rw [HL5.out]; exact row_same ROW5.out (fun k hk => B6.block k (fun e => by
    obtain ⟨cs, hc⟩ := row_lies ROW5.out hk
    exact hc.apart DK5.out (by decide) e))) (CH5.out.thenBut B6 (.inl (.inl rfl))) D6.out.lie LQ5.out rfl
  revert hres
  generalize w5.setCell ⟨r, 2, none⟩ (.slice qa5 L5 qc5) = w6
  intro hres
  have HRES := hide hres
  clear hres
  go_wp2
  go_end0
  exact ⟨rfl, HRES.out⟩
end

end Go.Proofs.YtpocadbhajacaaaGreatDoor

/-
  The document's do: a file renamed.
-/
namespace Go.Proofs.YtpocadbhajacaaaGreatDoor
open Go.RowKit
set_option linter.unusedVariables false

section
variable (r s : Nat) (rs : List Rw) (R : Rm) (n t : ByteArray) (w : World) (h : RkAt w r s rs R) (hn : nmB n = true) (hnt' : nmB t = true) (hnt : n ≠ t) (hwt : wt rs + 1 ≤ 1099511000000) (xs : List Int) (hf : play rs n = some xs) (hv : BV w (.slice none 0 0) [])
include h hn hnt' hnt hwt hf hv
set_option maxRecDepth 100000 in
set_option maxHeartbeats 4000000 in
theorem doR_rn0 (ht : play rs t = none) : Calls Tryz.prog 62 #[.pointer (some ⟨r, 0, none⟩), .agg (rwC 5 n (.slice none 0 0) 0 t).toArray] w fun e w' => e = .returned (.tuple #[]) ∧ RoR w w' r s R (rs ++ [rRn n t]) (.slice none 0 0) := by
  obtain ⟨A, B0, hAB0, hA, hlt, hB⟩ := h.fls.split n
  obtain ⟨I, hI⟩ : ∃ I, A.length = I := ⟨_, rfl⟩
  obtain ⟨B, hBB, hB2⟩ : ∃ B, B0 = (n, xs) :: B ∧ ∀ b ∈ B, blt n b.1 = true := by
    rcases hB with ⟨h1, _⟩ | ⟨ys, B', h1, h2, h3⟩
    · rw [hf] at h1; cases h1
    · rw [hf] at h1
      injection h1 with h1
      subst h1
      exact ⟨B', h2, h3⟩
  subst hBB
  have hAB := hAB0
  have hxs : fl (play rs) n = xs := by simp [fl, hf]
  have HLR : Hid (Lraw s (play rs) (rRn n t)) := hide ⟨.inr (.inr (.inr (.inr ⟨n, t, xs, rfl, hn, hnt', hf, hnt⟩))), fun h2 => by cases h2⟩
  have hF2 : FL (upd (play rs) n none) (A ++ B) := by
    have := h.fls
    rw [hAB] at this
    exact this.turn hlt hB2
  obtain ⟨A2, B3, hAB3, hA2, hlt2, hB3⟩ := hF2.split t
  obtain ⟨J, hJ⟩ : ∃ J, A2.length = J := ⟨_, rfl⟩
  have htf : upd (play rs) n none t = play rs t := upd_ne _ _ (Ne.symm hnt)
  rw [htf] at hB3
  obtain ⟨B2, hBB2, hB4⟩ : ∃ B2, B3 = B2 ∧ ∀ b ∈ B2, blt t b.1 = true := by
    rcases hB3 with ⟨_, h2⟩ | ⟨ys, B', h1, _⟩
    · exact ⟨_, rfl, h2⟩
    · rw [ht] at h1; cases h1
  subst hBB2
  have HFL : Hid (FL (doR (play rs) (rRn n t)) ((A2 ++ [(t, xs)]) ++ B3)) := hide (by
    have h3 := hF2
    rw [hAB3] at h3
    have h4 := h3.put hlt2 hB4 xs
    rw [ren_upd _ hnt] at h4
    rw [do_rn, hxs, List.append_assoc]
    exact h4)
  have hlen : (A ++ B).length = (A2 ++ B3).length := by rw [hAB3]
  have HLN : Hid (((A2 ++ [(t, xs)]) ++ B3).length ≤ rs.length + 1) := hide (by
    have := h.few
    rw [hAB] at this
    simp at this hlen ⊢
    omega)
  have HLA2 : Hid ((A ++ B).length ≤ 1099511000000) := hide (by have h1 := h.few; rw [hAB] at h1; have h2 := len_wt rs; simp at h1 ⊢; omega)
  have HFD2 : Hid (∀ (fv : Value) (W : World), FkAt W r s fv R.qv (A ++ B) → Calls Tryz.prog 67 #[.pointer (some ⟨r, 0, none⟩), .string t] W fun e w' => e = .returned (.tuple #[.int .i64 (J : Int), .bool false]) ∧ Below W.heap.size W w') := hide (fun fv W hW => by
    have := find_any r s fv R.qv (A ++ B) (upd (play rs) n none) t W hW hF2 HLA2.out
    rw [← hA2, hJ, htf, ht] at this
    exact this)
  have HAB2 := hide hAB3
  have HJ := hide hJ
  clear hB hB2 hn hAB0 hxs hF2 hAB3 hA2 hlt2 hB3 hJ htf hB4 hlen hnt'
  obtain ⟨fa, fc, hfe⟩ := row_slice h.fk.row
  have HH := hide h
  have HL : Hid (R.l.length ≤ 1099511000000) := hide (by have h1 := h.few; have h2 := len_wt rs; omega)
  have hrl : R.qs.length = rs.length := by rw [← h.raw]; simp
  have HRL : Hid (R.qs.length ≤ 1099511000000) := hide (by have h2 := len_wt rs; omega)
  clear hrl
  have HFE := hide hfe
  have HAB := hide hAB
  have HA := hide hA
  have HLTA := hide hlt
  have HV := hide hv
  have hfind : ∀ (W : World), FkAt W r s R.fv R.qv R.l → Calls Tryz.prog 67 #[.pointer (some ⟨r, 0, none⟩), .string n] W fun e w' => e = .returned (.tuple #[.int .i64 (I : Int), .bool true]) ∧ Below W.heap.size W w' := fun W hW => by
    have := find_any r s R.fv R.qv R.l (play rs) n W hW h.fls HL.out
    rw [← hA, hI, hf] at this
    exact this
  have HFD := hide hfind
  clear h hAB hA hlt hv hfe hfind hwt
  go_enter Tryz.func62, Tryz.ntmps62
  go_wp2_with (refine step_box (cs := rwC 5 n (.slice none 0 0) 0 t) rfl rfl ?_)
  intro w1 g3 hg3 hle3 hb1
  have D1 : Hid (DsR w w1 r s R R.fv R.l (rRn n t) (Value.slice none 0 0) g3) := hide (HH.out.ds hb1 hg3 hle3)
  have c1 : w1.cell? ⟨g3, 1, none⟩ = some (.string n) := D1.out.r1
  clear hg3 hle3 hb1
  go_upto_region 12 with (go_at_call 67; refine (HFD.out _ D1.out.fk).mono ?_; rintro e w2 ⟨rfl, hb2⟩; have D2 := hide (D1.out.below hb2); have c0 : w2.cell? ⟨g3, 0, none⟩ = some (.int .i64 5) := D2.out.r0; clear c1 D1 hb2)
  clear HFD
  have D2' := D2
  rw [HAB.out] at D2'
  obtain ⟨g, cap, hfv, hcells⟩ := D2'.out.at'
  have HFV := hide hfv
  obtain ⟨L, hL⟩ : ∃ L, (A ++ (n, xs) :: B).length = L := ⟨_, rfl⟩
  rw [hL] at hfv
  have HIX : Hid (∀ z : World, (Instr.indexAt 107 (.slice (some ⟨g, 0, none⟩) L cap) (.int .i64 (I : Int))).run Tryz.prog z = .ok (.pointer (some ⟨g, I * 2, none⟩)) z) := hide (fun z => vw_at rFi g L cap I (by rw [← hL, ← hI]; simp) z)
  have HC1 : Hid (∀ z : World, Below w2.heap.size w2 z → z.cell? ⟨r, 1, none⟩ = some (.slice (some ⟨g, 0, none⟩) L cap)) := hide (fun z hz => by rw [← hfv]; exact (D2.out.below hz).c1)
  have HCB : Hid (∀ z : World, Below w2.heap.size w2 z → z.cell? ⟨g, I * 2 + 1, none⟩ = some (.string (str xs))) := hide (fun z hz => by rw [← hI]; exact (hcells z hz).2.1)
  have HFZ : Hid (∀ z : World, Below w2.heap.size w2 z → z.frozen? ⟨g, I * 2 + 1, none⟩ = false) := hide (fun z hz => by rw [← hI]; exact (hcells z hz).2.2.1)
  have HRG : Hid (∀ z : World, Below w2.heap.size w2 z → z.rangeAt g (I * 2) [.string n, .string (str xs)]) := hide (fun z hz => by rw [← hI]; exact (hcells z hz).2.2.2)
  have HLL := hide hL
  have HII := hide hI
  clear hfv hcells hL c0 hI
  obtain ⟨vA, hto, hvt⟩ := (Vw.of_row D2'.out.fk.row).to rFi (k := I) (by rw [← HII.out]; simp)
  obtain ⟨vB, hfr, hvf⟩ := (Vw.of_row D2'.out.fk.row).from rFi (k := I + 1) (by rw [← HII.out]; simp)
  rw [HFV.out, HLL.out] at hto hfr
  have HTO := hide hto
  have hfr' : ∀ W : World, (Instr.slice 107 (.slice (some ⟨g, 0, none⟩) L cap) (some (.int .i64 ((I : Int) + 1))) none none).run Tryz.prog W = .ok vB W := fun W => by have := hfr W; push_cast at this; exact this
  have HFR := hide hfr'
  have HIB : Hid ((I : Int) + 1 ≤ 1099511000001) := hide (by have h1 := HL.out; rw [HAB.out, List.length_append] at h1; have h2 := HII.out; omega)
  have c1 := HC1.out _ (Below.refl _ _)
  have hix := HIX.out
  clear hto hfr hfr'
  go_wp2_with (first | (refine step_loadR wFi rfl rfl [.string n, .string (str xs)] (HRG.out _ (Below.refl _ _)) rfl ?_) | (refine step_alloc zFi rfl ?_))
  intro w3 g7 hg7 hle7 hb3
  go_wp2_with (refine step_storeA wFi rfl rfl rfl hg7 rfl (One.fi _ _) rfl ?_)
  intro w4 hg7' hbut4
  have Y4 := hide (hb3.trans (hbut4.below hle7))
  have G7 := hide hg7'
  have L7 := hide hle7
  have HVT : Hid (∀ z : World, Below w4.heap.size w4 z → Vw z 131 2 vA A.length (filC A)) := hide (fun z hz => by
    have hz2 := Y4.out.trans (hz.mono Y4.out.size)
    have := hvt z (Vw.of_row (D2'.out.below hz2).fk.row)
    rw [← filC_take, ← HII.out, List.take_left' rfl] at this
    exact this)
  have HVF : Hid (∀ z : World, Below w4.heap.size w4 z → Vw z 131 2 vB B.length (filC B)) := hide (fun z hz => by
    have hz2 := Y4.out.trans (hz.mono Y4.out.size)
    have := hvf z (Vw.of_row (D2'.out.below hz2).fk.row)
    rw [← filC_drop, ← HII.out] at this
    have e1 : (A ++ (n, xs) :: B).drop (A.length + 1) = B := by rw [← List.drop_drop, List.drop_left' rfl]; rfl
    have e2 : (A ++ (n, xs) :: B).length - (A.length + 1) = B.length := by simp; omega
    rw [e1, e2] at this
    exact this)
  clear hvt hvf hg7 hg7' hle7 hb3 hbut4 c1
  go_wp2_with fail
  refine wp_region_noPanic ?_
  refine wp_region_U (q := 19) (S := fun z : World => Below w4.heap.size w4 z) (by kernel_rfl) ?_
  have Z0 := hide ((Below.refl w4.heap.size w4).drew)
  have hHeld := Z0.out
  have HC14 : Hid (∀ z : World, Below w4.heap.size w4 z → z.cell? ⟨r, 1, none⟩ = some (.slice (some ⟨g, 0, none⟩) L cap)) := hide (fun z hz => HC1.out z (Y4.out.trans (hz.mono Y4.out.size)))
  obtain ⟨f1a, f1b⟩ := wrapN ((I : Int) + 1) (by omega) (by have := HIB.out; omega)
  refine takeU 19 0 97 (.pointer (some ⟨r, 0, none⟩)) hHeld rfl rfl (by kernel_rfl) (by kernel_rfl) (by kernel_rfl) (by kernel_rfl) (by kernel_rfl) (by kernel_rfl) (fun _ _ _ h => h) (Or.inl ⟨by rfl, fun w _ => by go_simp⟩) ?_
  simp only [Act.put, List.setIfInBounds_toArray, List.set_cons_zero, List.set_cons_succ]
  refine takeU 19 2 99 (.pointer (some ⟨r, 0, none⟩)) hHeld rfl rfl (by kernel_rfl) (by kernel_rfl) (by kernel_rfl) (by kernel_rfl) (by kernel_rfl) (by kernel_rfl) (fun _ _ _ h => h) (Or.inl ⟨by rfl, fun w _ => by go_simp⟩) ?_
  simp only [Act.put, List.setIfInBounds_toArray, List.set_cons_zero, List.set_cons_succ]
  refine takeU 19 3 100 (.pointer (some ⟨r, 0, none⟩)) hHeld rfl rfl (by kernel_rfl) (by kernel_rfl) (by kernel_rfl) (by kernel_rfl) (by kernel_rfl) (by kernel_rfl) (fun _ _ _ h => h) (Or.inl ⟨by rfl, fun w _ => by go_simp⟩) ?_
  simp only [Act.put, List.setIfInBounds_toArray, List.set_cons_zero, List.set_cons_succ]
  refine takeU 19 4 101 (.pointer (some ⟨r, 1, none⟩)) hHeld rfl rfl (by kernel_rfl) (by kernel_rfl) (by kernel_rfl) (by kernel_rfl) (by kernel_rfl) (by kernel_rfl) (fun _ _ _ h => h) (Or.inl ⟨by rfl, fun w _ => by go_simp⟩) ?_
  simp only [Act.put, List.setIfInBounds_toArray, List.set_cons_zero, List.set_cons_succ]
  refine takeU 19 5 102 (.slice (some ⟨g, 0, none⟩) L cap) hHeld rfl rfl (by kernel_rfl) (by kernel_rfl) (by kernel_rfl) (by kernel_rfl) (by kernel_rfl) (by kernel_rfl) (fun _ _ _ h => h) (Or.inl ⟨by rfl, fun w hw => by have hw' : w.cell? ⟨r, 1, none⟩ = some (.slice (some ⟨g, 0, none⟩) L cap) := (fun hw => HC14.out _ hw) hw; go_simp⟩) ?_
  simp only [Act.put, List.setIfInBounds_toArray, List.set_cons_zero, List.set_cons_succ]
  refine takeU 19 6 103 (.int .i64 (I : Int)) hHeld rfl rfl (by kernel_rfl) (by kernel_rfl) (by kernel_rfl) (by kernel_rfl) (by kernel_rfl) (by kernel_rfl) (fun _ _ _ h => h) (Or.inl ⟨by rfl, fun w _ => by go_simp⟩) ?_
  simp only [Act.put, List.setIfInBounds_toArray, List.set_cons_zero, List.set_cons_succ]
  refine takeU 19 7 104 (vA) hHeld rfl rfl (by kernel_rfl) (by kernel_rfl) (by kernel_rfl) (by kernel_rfl) (by kernel_rfl) (by kernel_rfl) (fun _ _ _ h => h) (Or.inl ⟨by rfl, fun w h => run_op rfl (HTO.out w)⟩) ?_
  simp only [Act.put, List.setIfInBounds_toArray, List.set_cons_zero, List.set_cons_succ]
  refine takeU 19 9 106 (.pointer (some ⟨r, 0, none⟩)) hHeld rfl rfl (by kernel_rfl) (by kernel_rfl) (by kernel_rfl) (by kernel_rfl) (by kernel_rfl) (by kernel_rfl) (fun _ _ _ h => h) (Or.inl ⟨by rfl, fun w _ => by go_simp⟩) ?_
  simp only [Act.put, List.setIfInBounds_toArray, List.set_cons_zero, List.set_cons_succ]
  refine takeU 19 10 107 (.pointer (some ⟨r, 0, none⟩)) hHeld rfl rfl (by kernel_rfl) (by kernel_rfl) (by kernel_rfl) (by kernel_rfl) (by kernel_rfl) (by kernel_rfl) (fun _ _ _ h => h) (Or.inl ⟨by rfl, fun w _ => by go_simp⟩) ?_
  simp only [Act.put, List.setIfInBounds_toArray, List.set_cons_zero, List.set_cons_succ]
  refine takeU 19 11 108 (.pointer (some ⟨r, 1, none⟩)) hHeld rfl rfl (by kernel_rfl) (by kernel_rfl) (by kernel_rfl) (by kernel_rfl) (by kernel_rfl) (by kernel_rfl) (fun _ _ _ h => h) (Or.inl ⟨by rfl, fun w _ => by go_simp⟩) ?_
  simp only [Act.put, List.setIfInBounds_toArray, List.set_cons_zero, List.set_cons_succ]
  refine takeU 19 12 109 (.slice (some ⟨g, 0, none⟩) L cap) hHeld rfl rfl (by kernel_rfl) (by kernel_rfl) (by kernel_rfl) (by kernel_rfl) (by kernel_rfl) (by kernel_rfl) (fun _ _ _ h => h) (Or.inl ⟨by rfl, fun w hw => by have hw' : w.cell? ⟨r, 1, none⟩ = some (.slice (some ⟨g, 0, none⟩) L cap) := (fun hw => HC14.out _ hw) hw; go_simp⟩) ?_
  simp only [Act.put, List.setIfInBounds_toArray, List.set_cons_zero, List.set_cons_succ]
  refine takeU 19 13 110 (.int .i64 (I : Int)) hHeld rfl rfl (by kernel_rfl) (by kernel_rfl) (by kernel_rfl) (by kernel_rfl) (by kernel_rfl) (by kernel_rfl) (fun _ _ _ h => h) (Or.inl ⟨by rfl, fun w _ => by go_simp⟩) ?_
  simp only [Act.put, List.setIfInBounds_toArray, List.set_cons_zero, List.set_cons_succ]
  refine takeU 19 14 111 (.int .i64 ((I : Int) + 1)) hHeld rfl rfl (by kernel_rfl) (by kernel_rfl) (by kernel_rfl) (by kernel_rfl) (by kernel_rfl) (by kernel_rfl) (fun _ _ _ h => h) (Or.inl ⟨by rfl, fun w _ => by go_simp⟩) ?_
  simp only [Act.put, List.setIfInBounds_toArray, List.set_cons_zero, List.set_cons_succ]
  refine takeU 19 15 112 (vB) hHeld rfl rfl (by kernel_rfl) (by kernel_rfl) (by kernel_rfl) (by kernel_rfl) (by kernel_rfl) (by kernel_rfl) (fun _ _ _ h => h) (Or.inl ⟨by rfl, fun w h => run_op rfl (HFR.out w)⟩) ?_
  simp only [Act.put, List.setIfInBounds_toArray, List.set_cons_zero, List.set_cons_succ]
  have ONE1 : Hid (∀ x ∈ filC A, x.oneCell' = true) := hide (filC_one A)
  have HLA : Hid (A.length ≤ 1099511000000 ∧ B.length ≤ 1099511000000 ∧ A.length + B.length ≤ 1099511000000) := hide (by have := HL.out; rw [HAB.out, List.length_append, List.length_cons] at this; omega)
  refine wpAnyU_ready (rs := [1]) (by kernel_rfl) (by simp) (AllReadyU.cons rfl (fun K hK => ?_) AllReadyU.nil)
  rw [if_pos (by rfl)]
  refine wp_0F Z0.out.size ?_
  intro w5 g0 hv0 hb5
  have Z5 := hide (Z0.out.trans (hb5.mono Z0.out.size))
  have V0 := hide hv0
  refine hK.out _ _ (fun _ => Z5.out) ?_
  have hHeld := Z5.out
  clear hK K
  clear hv0 hb5
  simp only [Act.put]
  refine wpAnyU_ready (rs := [8]) (by kernel_rfl) (by simp) (AllReadyU.cons rfl (fun K hK => ?_) AllReadyU.nil)
  rw [if_pos (by rfl)]
  refine wp_app0 rFi rfl rfl V0.out (HVT.out _ Z5.out) ONE1.out (by have := HLA.out.1; omega) Z5.out.size ?_
  intro v29 w7 hv29 hb7
  have Z7 := hide (Z5.out.trans (hb7.mono Z5.out.size))
  have V29 := hide hv29
  refine hK.out _ _ (fun _ => Z7.out) ?_
  have hHeld := Z7.out
  clear hK K
  clear hv29 hb7
  simp only [Act.put]
  refine wpAnyU_ready (rs := [16]) (by kernel_rfl) (by simp) (AllReadyU.cons rfl (fun K hK => ?_) AllReadyU.nil)
  rw [if_pos (by rfl)]
  refine wp_appV rFi rfl rfl V29.out (HVF.out _ Z7.out) (filC_one _) (by have := HLA.out; omega) Z7.out.size ?_
  intro v43 w8 hv43 hgr8 hat8
  obtain ⟨L4, hL4⟩ : ∃ L4, (A ++ B).length = L4 := ⟨_, rfl⟩
  have HL4 := hide hL4
  clear hL4
  have V8 : Hid (w8.ownsRow w4.heap.size 131 2 v43 L4 (filC (A ++ B))) := hide (by rw [filC_app, ← HL4.out, List.length_append]; exact hv43)
  have Z8 := hide (Z7.out.trans (grown_below hgr8 (fun k hk => row_ge V29.out hk) Z7.out.size))
  have Y8 := hide (Y4.out.trans (Z8.out.mono Y4.out.size))
  have D8 := hide (D2'.out.below Y8.out)
  obtain ⟨a4, c4, hve4⟩ := row_slice V8.out
  subst hve4
  have k1 : w8.cell? ⟨r, 1, none⟩ = some (.slice (some ⟨g, 0, none⟩) L cap) := HC14.out _ Z8.out
  have k2 : w8.frozen? ⟨r, 1, none⟩ = false := D8.out.fk.blk.free 1
  refine hK.out _ _ (fun _ => Z8.out) ?_
  have hHeld := Z8.out
  clear hK K
  clear hv43 hgr8 hat8
  simp only [Act.put]
  refine wpAnyU_ready (rs := [17]) (by kernel_rfl) (by simp) (AllReadyU.cons rfl (fun K hK => ?_) AllReadyU.nil)
  rw [if_pos (by rfl)]
  go_simp
  refine hK.out _ _ (fun _ => Z8.out) ?_
  have hHeld := Z8.out
  clear hK K
  refine takeU 19 18 115 (.pointer (some ⟨r, 1, none⟩)) hHeld rfl rfl (by kernel_rfl) (by kernel_rfl) (by kernel_rfl) (by kernel_rfl) (by kernel_rfl) (by kernel_rfl) (fun _ _ _ h => h) (Or.inl ⟨by rfl, fun w _ => by go_simp⟩) ?_
  simp only [Act.put, List.setIfInBounds_toArray, List.set_cons_zero, List.set_cons_succ]
  refine wpAnyU_ready (rs := [19]) (by kernel_rfl) (by simp) (AllReadyU.cons rfl (fun K hK => ?_) AllReadyU.nil)
  rw [if_pos (by rfl)]
  go_simp
  refine hK.out _ _ (fun h => absurd h (by decide)) ?_
  clear hK K
  refine wpAnyU_done (by kernel_rfl) ?_ _
  refine NoPanic.normal ?_
  have B6 := But.setCell w8 r 1 (.slice a4 L4 c4)
  have D6 : Hid (DsR w (w8.setCell ⟨r, 1, none⟩ (.slice a4 L4 c4)) r s R (.slice a4 L4 c4) (A ++ B) (rRn n t) (Value.slice none 0 0) g3) := hide (by
    have hne : ∀ {k : Nat} {t : TypeId} {cs : List Value}, Blk w8 k t cs → t ≠ 110 → k ≠ r := fun hc ht => hc.apart D8.out.fk.blk ht
    refine ⟨⟨D8.out.fk.blk.set 1 _, ?_⟩, ?_, ?_, D8.out.new, D8.out.chs.thenBut B6 (.inl (.inl rfl)), fun k hk => ?_, D8.out.off⟩
    · rw [HL4.out]
      refine row_same (Vw.row0 V8.out) (fun k hk => B6.block k ?_)
      obtain ⟨cs, hc⟩ := row_lies V8.out hk
      exact hne hc (by decide)
    · refine row_same D8.out.row (fun k hk => B6.block k ?_)
      obtain ⟨cs, hc⟩ := row_lies D8.out.row hk
      exact hne hc (by decide)
    · exact D8.out.gb.but B6 (hne D8.out.gb (by decide))
    · right
      have h1 := row_ge V8.out hk
      have h2 := D2'.out.chs.size
      have h3 := Y4.out.size
      omega)
  have G76 : Hid (Blk (w8.setCell ⟨r, 1, none⟩ (.slice a4 L4 c4)) g7 131 [.string n, .string (str xs)]) := hide ((G7.out.on Z8.out).but B6 ((G7.out.on Z8.out).apart D8.out.fk.blk (by decide)))
  have N7 : Hid (∀ k, (Value.slice a4 L4 c4).ownBlock = some k → k ≠ g7) := hide (fun k hk e => by
    have h1 := row_ge V8.out hk
    have h2 := G7.out.lt
    omega)
  revert D6 G76
  generalize w8.setCell ⟨r, 1, none⟩ (.slice a4 L4 c4) = w6
  intro D6 G76
  clear k1 k2 hix hHeld f1a f1b B6 V8 Z8 Y8 D8 V29 Z7 V0 Z5 Z0 HC14 HVT HVF HTO HFR
  have c0 : w6.cell? ⟨g3, 0, none⟩ = some (.int .i64 5) := D6.out.r0
  have c44 : w6.cell? ⟨g3, 4, none⟩ = some (.string t) := D6.out.r4
  go_wp2_with (go_at_call 67; refine (HFD2.out _ _ D6.out.fk).mono ?_; rintro e w8 ⟨rfl, hb8⟩; have D8 := hide (D6.out.below hb8); have G78 := hide (G76.out.on hb8); clear hb8)
  clear c0 c44 HFD2
  have HC4 : Hid (∀ z : World, Below w8.heap.size w8 z → z.cell? ⟨g3, 4, none⟩ = some (.string t)) := hide (fun z hz => (D8.out.below hz).r4)
  have HC7 : Hid (∀ z : World, Below w8.heap.size w8 z → z.cell? ⟨g7, 1, none⟩ = some (.string (str xs))) := hide (fun z hz => by rw [(G78.out.on hz).cell]; rfl)
  have HC8 : Hid (∀ z : World, Below w8.heap.size w8 z → z.cell? ⟨r, 1, none⟩ = some (.slice a4 L4 c4)) := hide (fun z hz => (D8.out.below hz).c1)
  obtain ⟨vA2, hto, hvt⟩ := (Vw.of_row D8.out.fk.row).to rFi (k := J) (by rw [HAB2.out, List.length_append, HJ.out]; omega)
  obtain ⟨vB2, hfr, hvf⟩ := (Vw.of_row D8.out.fk.row).from rFi (k := J) (by rw [HAB2.out, List.length_append, HJ.out]; omega)
  have HTO2 := hide hto
  have HFR2 := hide hfr
  have HVT2 : Hid (∀ z : World, Below w8.heap.size w8 z → Vw z 131 2 vA2 A2.length (filC A2)) := hide (fun z hz => by
    have := hvt z (Vw.of_row (D8.out.below hz).fk.row)
    rw [← filC_take, HAB2.out, ← HJ.out, List.take_left' rfl] at this
    exact this)
  have HVF2 : Hid (∀ z : World, Below w8.heap.size w8 z → Vw z 131 2 vB2 B3.length (filC B3)) := hide (fun z hz => by
    have := hvf z (Vw.of_row (D8.out.below hz).fk.row)
    rw [← filC_drop, HAB2.out, ← HJ.out, List.drop_left' rfl, List.length_append, Nat.add_sub_cancel_left] at this
    exact this)
  clear hto hfr hvt hvf
  refine join4 (fun x y z u W => Hid (W.ownsRow w8.heap.size 131 2 u (A2 ++ [(t, xs)]).length (filC (A2 ++ [(t, xs)]))) ∧ Hid (Below w8.heap.size w8 W)) ?act2 ?tail2 (fun hjoin => ?_)
  rotate_left
  rotate_left
  · refine wp_region_noPanic ?_
    refine wp_region_U (q := 15) (S := fun z : World => Below w8.heap.size w8 z) (by kernel_rfl) ?_
    have Z0 := hide ((Below.refl w8.heap.size w8).drew)
    have hHeld := Z0.out
    refine takeU 15 1 137 (.pointer (some ⟨r, 0, none⟩)) hHeld rfl rfl (by kernel_rfl) (by kernel_rfl) (by kernel_rfl) (by kernel_rfl) (by kernel_rfl) (by kernel_rfl) (fun _ _ _ h => h) (Or.inl ⟨by rfl, fun w _ => by go_simp⟩) ?_
    simp only [Act.put, List.setIfInBounds_toArray, List.set_cons_zero, List.set_cons_succ]
    refine takeU 15 2 138 (.pointer (some ⟨r, 0, none⟩)) hHeld rfl rfl (by kernel_rfl) (by kernel_rfl) (by kernel_rfl) (by kernel_rfl) (by kernel_rfl) (by kernel_rfl) (fun _ _ _ h => h) (Or.inl ⟨by rfl, fun w _ => by go_simp⟩) ?_
    simp only [Act.put, List.setIfInBounds_toArray, List.set_cons_zero, List.set_cons_succ]
    refine takeU 15 3 139 (.pointer (some ⟨r, 1, none⟩)) hHeld rfl rfl (by kernel_rfl) (by kernel_rfl) (by kernel_rfl) (by kernel_rfl) (by kernel_rfl) (by kernel_rfl) (fun _ _ _ h => h) (Or.inl ⟨by rfl, fun w _ => by go_simp⟩) ?_
    simp only [Act.put, List.setIfInBounds_toArray, List.set_cons_zero, List.set_cons_succ]
    refine takeU 15 4 140 (.slice a4 L4 c4) hHeld rfl rfl (by kernel_rfl) (by kernel_rfl) (by kernel_rfl) (by kernel_rfl) (by kernel_rfl) (by kernel_rfl) (fun _ _ _ h => h) (Or.inl ⟨by rfl, fun w hw => by have hw' : w.cell? ⟨r, 1, none⟩ = some (.slice a4 L4 c4) := (fun hw => HC8.out _ hw) hw; go_simp⟩) ?_
    simp only [Act.put, List.setIfInBounds_toArray, List.set_cons_zero, List.set_cons_succ]
    refine takeU 15 5 141 (.int .i64 (J : Int)) hHeld rfl rfl (by kernel_rfl) (by kernel_rfl) (by kernel_rfl) (by kernel_rfl) (by kernel_rfl) (by kernel_rfl) (fun _ _ _ h => h) (Or.inl ⟨by rfl, fun w _ => by go_simp⟩) ?_
    simp only [Act.put, List.setIfInBounds_toArray, List.set_cons_zero, List.set_cons_succ]
    refine takeU 15 6 142 (vA2) hHeld rfl rfl (by kernel_rfl) (by kernel_rfl) (by kernel_rfl) (by kernel_rfl) (by kernel_rfl) (by kernel_rfl) (fun _ _ _ h => h) (Or.inl ⟨by rfl, fun w h => run_op rfl (HTO2.out w)⟩) ?_
    simp only [Act.put, List.setIfInBounds_toArray, List.set_cons_zero, List.set_cons_succ]
    refine takeU 15 8 144 (.pointer (some ⟨g3, 4, none⟩)) hHeld rfl rfl (by kernel_rfl) (by kernel_rfl) (by kernel_rfl) (by kernel_rfl) (by kernel_rfl) (by kernel_rfl) (fun _ _ _ h => h) (Or.inl ⟨by rfl, fun w _ => by go_simp⟩) ?_
    simp only [Act.put, List.setIfInBounds_toArray, List.set_cons_zero, List.set_cons_succ]
    refine takeU 15 9 145 (.string t) hHeld rfl rfl (by kernel_rfl) (by kernel_rfl) (by kernel_rfl) (by kernel_rfl) (by kernel_rfl) (by kernel_rfl) (fun _ _ _ h => h) (Or.inl ⟨by rfl, fun w hw => by have hw' : w.cell? ⟨g3, 4, none⟩ = some (.string t) := (fun hw => HC4.out _ hw) hw; go_simp⟩) ?_
    simp only [Act.put, List.setIfInBounds_toArray, List.set_cons_zero, List.set_cons_succ]
    refine takeU 15 10 146 (.pointer (some ⟨g7, 1, none⟩)) hHeld rfl rfl (by kernel_rfl) (by kernel_rfl) (by kernel_rfl) (by kernel_rfl) (by kernel_rfl) (by kernel_rfl) (fun _ _ _ h => h) (Or.inl ⟨by rfl, fun w _ => by go_simp⟩) ?_
    simp only [Act.put, List.setIfInBounds_toArray, List.set_cons_zero, List.set_cons_succ]
    refine takeU 15 11 147 (.string (str xs)) hHeld rfl rfl (by kernel_rfl) (by kernel_rfl) (by kernel_rfl) (by kernel_rfl) (by kernel_rfl) (by kernel_rfl) (fun _ _ _ h => h) (Or.inl ⟨by rfl, fun w hw => by have hw' : w.cell? ⟨g7, 1, none⟩ = some (.string (str xs)) := (fun hw => HC7.out _ hw) hw; go_simp⟩) ?_
    simp only [Act.put, List.setIfInBounds_toArray, List.set_cons_zero, List.set_cons_succ]
    refine takeU 15 12 148 (.agg #[.string t, .string (str xs)]) hHeld rfl rfl (by kernel_rfl) (by kernel_rfl) (by kernel_rfl) (by kernel_rfl) (by kernel_rfl) (by kernel_rfl) (fun _ _ _ h => h) (Or.inl ⟨by rfl, fun w h => run_buildF2 rfl rfl⟩) ?_
    simp only [Act.put, List.setIfInBounds_toArray, List.set_cons_zero, List.set_cons_succ]
    have ONE1 : Hid (∀ x ∈ filC A2, x.oneCell' = true) := hide (filC_one A2)
    have ONE2 : Hid (∀ x ∈ filC [(t, xs)], x.oneCell' = true) := hide (filC_one _)
    have HLA : Hid (A2.length ≤ 1099511000000) := hide (by have := HLA2.out; rw [HAB2.out, List.length_append] at this; omega)
    have HVA : Hid (∀ z : World, Below w8.heap.size w8 z → Vw z 131 2 vA2 A2.length (filC A2)) := hide (fun z hz => HVT2.out z hz)
    refine wpAnyU_ready (rs := [0, 13]) (by kernel_rfl) (by simp) (AllReadyU.cons rfl (fun K hK => ?_) (AllReadyU.cons rfl (fun K hK => ?_) AllReadyU.nil))
    · rw [if_pos (by rfl)]
      refine wp_0F Z0.out.size ?_
      intro w3 g0 hv0 hb0
      have Z3 := hide (Z0.out.trans (hb0.mono Z0.out.size))
      have V0 := hide hv0
      have B0 := hide hb0
      refine hK.out _ _ (fun _ => Z3.out) ?_
      have hHeld := Z3.out
      clear hK K
      clear hv0 hb0
      simp only [Act.put]
      refine wpAnyU_ready (rs := [7, 13]) (by kernel_rfl) (by simp) (AllReadyU.cons rfl (fun K hK => ?_) (AllReadyU.cons rfl (fun K hK => ?_) AllReadyU.nil))
      · rw [if_pos (by rfl)]
        refine wp_app0 rFi rfl rfl V0.out (HVA.out _ Z3.out) ONE1.out (by have := HLA.out; omega) Z3.out.size ?_
        intro v29 w4 hv29 hb7
        have Z4 := hide (Z3.out.trans (hb7.mono Z3.out.size))
        have V29 := hide hv29
        have B7 := hide hb7
        refine hK.out _ _ (fun _ => Z4.out) ?_
        have hHeld := Z4.out
        clear hK K
        clear hv29 hb7
        simp only [Act.put]
        refine wpAnyU_ready (rs := [13]) (by kernel_rfl) (by simp) (AllReadyU.cons rfl (fun K hK => ?_) AllReadyU.nil)
        rw [if_pos (by rfl)]
        refine wp_oneF (n := t) (xs := xs) rfl ?_
        intro w5 v33 hu33 hb11
        have Z5 := hide (Z4.out.trans (hb11.mono Z4.out.size))
        have U33 := hide hu33
        have B11 := hide hb11
        refine hK.out _ _ (fun _ => Z5.out) ?_
        have hHeld := Z5.out
        clear hK K
        clear hu33 hb11
        simp only [Act.put]
        have V29' := hide (row_on V29.out B11.out)
        refine wpAnyU_ready (rs := [14]) (by kernel_rfl) (by simp) (AllReadyU.cons rfl (fun K hK => ?_) AllReadyU.nil)
        rw [if_pos (by rfl)]
        refine wp_appV rFi rfl rfl V29'.out U33.out ONE2.out (by have := HLA.out; omega) Z5.out.size ?_
        intro v34 w6 hv34 hgr12 hat12
        have Z6 := hide (Z5.out.trans (grown_below hgr12 (fun k hk => row_ge V29'.out hk) Z5.out.size))
        have V34 : Hid (w6.ownsRow w8.heap.size 131 2 v34 (A2 ++ [(t, xs)]).length (filC (A2 ++ [(t, xs)]))) := hide (by rw [filC_app, List.length_append]; exact hv34)
        refine hK.out _ _ (fun _ => Z6.out) ?_
        have hHeld := Z6.out
        clear hK K
        clear hv34 hgr12 hat12
        simp only [Act.put]
        refine wpAnyU_ready (rs := [15]) (by kernel_rfl) (by simp) (AllReadyU.cons rfl (fun K hK => ?_) AllReadyU.nil)
        rw [if_pos (by rfl)]
        go_simp
        refine hK.out _ _ (fun h => absurd h (by decide)) ?_
        clear hK K
        refine wpAnyU_done (by kernel_rfl) ?_ _
        refine NoPanic.normal ?_
        exact hjoin g0 v29 v33 v34 w6 ⟨V34, Z6⟩
      · rw [if_pos (by rfl)]
        refine wp_oneF (n := t) (xs := xs) rfl ?_
        intro w4 v33 hu33 hb11
        have Z4 := hide (Z3.out.trans (hb11.mono Z3.out.size))
        have U33 := hide hu33
        have B11 := hide hb11
        refine hK.out _ _ (fun _ => Z4.out) ?_
        have hHeld := Z4.out
        clear hK K
        clear hu33 hb11
        simp only [Act.put]
        have V0' := hide (And.intro V0.out.1 (row_on V0.out.2 B11.out))
        refine wpAnyU_ready (rs := [7]) (by kernel_rfl) (by simp) (AllReadyU.cons rfl (fun K hK => ?_) AllReadyU.nil)
        rw [if_pos (by rfl)]
        refine wp_app0 rFi rfl rfl V0'.out (HVA.out _ Z4.out) ONE1.out (by have := HLA.out; omega) Z4.out.size ?_
        intro v29 w5 hv29 hb7
        have Z5 := hide (Z4.out.trans (hb7.mono Z4.out.size))
        have V29 := hide hv29
        have B7 := hide hb7
        refine hK.out _ _ (fun _ => Z5.out) ?_
        have hHeld := Z5.out
        clear hK K
        clear hv29 hb7
        simp only [Act.put]
        have U33' := hide (U33.out.on B7.out)
        refine wpAnyU_ready (rs := [14]) (by kernel_rfl) (by simp) (AllReadyU.cons rfl (fun K hK => ?_) AllReadyU.nil)
        rw [if_pos (by rfl)]
        refine wp_appV rFi rfl rfl V29.out U33'.out ONE2.out (by have := HLA.out; omega) Z5.out.size ?_
        intro v34 w6 hv34 hgr12 hat12
        have Z6 := hide (Z5.out.trans (grown_below hgr12 (fun k hk => row_ge V29.out hk) Z5.out.size))
        have V34 : Hid (w6.ownsRow w8.heap.size 131 2 v34 (A2 ++ [(t, xs)]).length (filC (A2 ++ [(t, xs)]))) := hide (by rw [filC_app, List.length_append]; exact hv34)
        refine hK.out _ _ (fun _ => Z6.out) ?_
        have hHeld := Z6.out
        clear hK K
        clear hv34 hgr12 hat12
        simp only [Act.put]
        refine wpAnyU_ready (rs := [15]) (by kernel_rfl) (by simp) (AllReadyU.cons rfl (fun K hK => ?_) AllReadyU.nil)
        rw [if_pos (by rfl)]
        go_simp
        refine hK.out _ _ (fun h => absurd h (by decide)) ?_
        clear hK K
        refine wpAnyU_done (by kernel_rfl) ?_ _
        refine NoPanic.normal ?_
        exact hjoin g0 v29 v33 v34 w6 ⟨V34, Z6⟩
    · rw [if_pos (by rfl)]
      refine wp_oneF (n := t) (xs := xs) rfl ?_
      intro w3 v33 hu33 hb11
      have Z3 := hide (Z0.out.trans (hb11.mono Z0.out.size))
      have U33 := hide hu33
      have B11 := hide hb11
      refine hK.out _ _ (fun _ => Z3.out) ?_
      have hHeld := Z3.out
      clear hK K
      clear hu33 hb11
      simp only [Act.put]
      refine wpAnyU_ready (rs := [0]) (by kernel_rfl) (by simp) (AllReadyU.cons rfl (fun K hK => ?_) AllReadyU.nil)
      rw [if_pos (by rfl)]
      refine wp_0F Z3.out.size ?_
      intro w4 g0 hv0 hb0
      have Z4 := hide (Z3.out.trans (hb0.mono Z3.out.size))
      have V0 := hide hv0
      have B0 := hide hb0
      refine hK.out _ _ (fun _ => Z4.out) ?_
      have hHeld := Z4.out
      clear hK K
      clear hv0 hb0
      simp only [Act.put]
      have U33' := hide (U33.out.on B0.out)
      refine wpAnyU_ready (rs := [7]) (by kernel_rfl) (by simp) (AllReadyU.cons rfl (fun K hK => ?_) AllReadyU.nil)
      rw [if_pos (by rfl)]
      refine wp_app0 rFi rfl rfl V0.out (HVA.out _ Z4.out) ONE1.out (by have := HLA.out; omega) Z4.out.size ?_
      intro v29 w5 hv29 hb7
      have Z5 := hide (Z4.out.trans (hb7.mono Z4.out.size))
      have V29 := hide hv29
      have B7 := hide hb7
      refine hK.out _ _ (fun _ => Z5.out) ?_
      have hHeld := Z5.out
      clear hK K
      clear hv29 hb7
      simp only [Act.put]
      have U33'' := hide (U33'.out.on B7.out)
      refine wpAnyU_ready (rs := [14]) (by kernel_rfl) (by simp) (AllReadyU.cons rfl (fun K hK => ?_) AllReadyU.nil)
      rw [if_pos (by rfl)]
      refine wp_appV rFi rfl rfl V29.out U33''.out ONE2.out (by have := HLA.out; omega) Z5.out.size ?_
      intro v34 w6 hv34 hgr12 hat12
      have Z6 := hide (Z5.out.trans (grown_below hgr12 (fun k hk => row_ge V29.out hk) Z5.out.size))
      have V34 : Hid (w6.ownsRow w8.heap.size 131 2 v34 (A2 ++ [(t, xs)]).length (filC (A2 ++ [(t, xs)]))) := hide (by rw [filC_app, List.length_append]; exact hv34)
      refine hK.out _ _ (fun _ => Z6.out) ?_
      have hHeld := Z6.out
      clear hK K
      clear hv34 hgr12 hat12
      simp only [Act.put]
      refine wpAnyU_ready (rs := [15]) (by kernel_rfl) (by simp) (AllReadyU.cons rfl (fun K hK => ?_) AllReadyU.nil)
      rw [if_pos (by rfl)]
      go_simp
      refine hK.out _ _ (fun h => absurd h (by decide)) ?_
      clear hK K
      refine wpAnyU_done (by kernel_rfl) ?_ _
      refine NoPanic.normal ?_
      exact hjoin g0 v29 v33 v34 w6 ⟨V34, Z6⟩
  intro x y z u W9 hP
  obtain ⟨V91, Z91⟩ := hP
  have D31 := hide (D8.out.below Z91.out)
  have c1 : W9.cell? ⟨r, 1, none⟩ = some (Value.slice a4 L4 c4) := D31.out.c1
  have hfr := HFR2.out
  obtain ⟨L9, hL9⟩ : ∃ L9, ((A2 ++ [(t, xs)]) ++ B3).length = L9 := ⟨_, rfl⟩
  have HL9 := hide hL9
  clear hL9
  have HLB : Hid ((A2 ++ [(t, xs)]).length + B3.length ≤ 1099511000002) := hide (by have := HLA2.out; rw [HAB2.out, List.length_append] at this; simp; omega)
  go_upto_region 20 with (refine step_appV rFi rfl rfl rfl V91.out (HVF2.out _ Z91.out) (filC_one _) (by have := HLB.out; omega) Z91.out.size ?_; intro v93 w9 hv93 hgr9 hat9; have V9 : Hid (w9.ownsRow w8.heap.size 131 2 v93 L9 (filC ((A2 ++ [(t, xs)]) ++ B3))) := hide (by rw [filC_app, ← HL9.out, List.length_append]; exact hv93); have Z9 := hide (Z91.out.trans (grown_below hgr9 (fun k hk => row_ge V91.out hk) Z91.out.size)); have D9 := hide (D8.out.below Z9.out); clear hv93 hgr9 hat9; obtain ⟨a9, c9, hve4⟩ := row_slice V9.out; subst hve4; have k1 : w9.cell? ⟨r, 1, none⟩ = some (Value.slice a4 L4 c4) := D9.out.c1; have k2 : w9.frozen? ⟨r, 1, none⟩ = false := D9.out.fk.blk.free 1)
  have B10 := But.setCell w9 r 1 (.slice a9 L9 c9)
  have D10 : Hid (DsR w (w9.setCell ⟨r, 1, none⟩ (.slice a9 L9 c9)) r s R (.slice a9 L9 c9) ((A2 ++ [(t, xs)]) ++ B3) (rRn n t) (Value.slice none 0 0) g3) := hide (by
    have hne : ∀ {k : Nat} {t : TypeId} {cs : List Value}, Blk w9 k t cs → t ≠ 110 → k ≠ r := fun hc ht => hc.apart D9.out.fk.blk ht
    refine ⟨⟨D9.out.fk.blk.set 1 _, ?_⟩, ?_, ?_, D9.out.new, D9.out.chs.thenBut B10 (.inl (.inl rfl)), fun k hk => ?_, D9.out.off⟩
    · rw [HL9.out]
      refine row_same (Vw.row0 V9.out) (fun k hk => B10.block k ?_)
      obtain ⟨cs, hc⟩ := row_lies V9.out hk
      exact hne hc (by decide)
    · refine row_same D9.out.row (fun k hk => B10.block k ?_)
      obtain ⟨cs, hc⟩ := row_lies D9.out.row hk
      exact hne hc (by decide)
    · exact D9.out.gb.but B10 (hne D9.out.gb (by decide))
    · right
      have h1 := row_ge V9.out hk
      have h2 := D8.out.chs.size
      omega)
  revert D10
  generalize w9.setCell ⟨r, 1, none⟩ (.slice a9 L9 c9) = w10
  intro D10
  clear k1 k2 c1 hfr B10 D9 Z9 V9 D31
  go_wp2_with fail
  have HRE5 : Hid (∃ q1 q2, R.qv = .slice q1 R.qs.length q2) := hide (by obtain ⟨q1, q2, hq⟩ := row_slice HH.out.row; exact ⟨q1, q2, hq⟩)
  obtain ⟨L5, hL5⟩ : ∃ L5, (R.qs ++ [(rRn n t, (Value.slice none 0 0))]).length = L5 := ⟨_, rfl⟩
  have HL5 := hide hL5
  clear hL5
  refine wp_region_noPanic ?_
  refine wp_region_U (q := 10) (S := fun z : World => z.cell? ⟨r, 2, none⟩ = some R.qv ∧ z.rangeAt g3 0 (rwC 5 n (.slice none 0 0) 0 t)) (by kernel_rfl) ?_
  have Z0 := hide ((Below.refl w10.heap.size w10).drew)
  have E0 := hide (D10.out.below Z0.out)
  have HIR : Hid ((Tryz.prog.info? 117).map (·.size) = some (rwC 5 n (.slice none 0 0) 0 t).length) := hide (by rw [wRw.size]; rfl)
  have gb0 : Blk w10.drew g3 117 (rwC 5 n (.slice none 0 0) 0 t) := E0.out.gb
  have hHeld : w10.drew.cell? ⟨r, 2, none⟩ = some R.qv ∧ w10.drew.rangeAt g3 0 (rwC 5 n (.slice none 0 0) 0 t) := ⟨E0.out.c2, gb0.range 0 _ (by simp)⟩
  clear gb0
  refine takeU 10 0 168 (.pointer (some ⟨r, 0, none⟩)) hHeld rfl rfl (by kernel_rfl) (by kernel_rfl) (by kernel_rfl) (by kernel_rfl) (by kernel_rfl) (by kernel_rfl) (fun _ _ _ h => h) (Or.inl ⟨by rfl, fun w _ => by go_simp⟩) ?_
  simp only [Act.put, List.setIfInBounds_toArray, List.set_cons_zero, List.set_cons_succ]
  refine takeU 10 1 169 (.pointer (some ⟨r, 0, none⟩)) hHeld rfl rfl (by kernel_rfl) (by kernel_rfl) (by kernel_rfl) (by kernel_rfl) (by kernel_rfl) (by kernel_rfl) (fun _ _ _ h => h) (Or.inl ⟨by rfl, fun w _ => by go_simp⟩) ?_
  simp only [Act.put, List.setIfInBounds_toArray, List.set_cons_zero, List.set_cons_succ]
  refine takeU 10 2 170 (.pointer (some ⟨r, 0, none⟩)) hHeld rfl rfl (by kernel_rfl) (by kernel_rfl) (by kernel_rfl) (by kernel_rfl) (by kernel_rfl) (by kernel_rfl) (fun _ _ _ h => h) (Or.inl ⟨by rfl, fun w _ => by go_simp⟩) ?_
  simp only [Act.put, List.setIfInBounds_toArray, List.set_cons_zero, List.set_cons_succ]
  refine takeU 10 3 171 (.pointer (some ⟨r, 2, none⟩)) hHeld rfl rfl (by kernel_rfl) (by kernel_rfl) (by kernel_rfl) (by kernel_rfl) (by kernel_rfl) (by kernel_rfl) (fun _ _ _ h => h) (Or.inl ⟨by rfl, fun w _ => by go_simp⟩) ?_
  simp only [Act.put, List.setIfInBounds_toArray, List.set_cons_zero, List.set_cons_succ]
  refine takeU 10 4 172 (R.qv) hHeld rfl rfl (by kernel_rfl) (by kernel_rfl) (by kernel_rfl) (by kernel_rfl) (by kernel_rfl) (by kernel_rfl) (fun _ _ _ h => h) (Or.inl ⟨by rfl, fun w hw => by have hw' : w.cell? ⟨r, 2, none⟩ = some (R.qv) := (fun h => h.1) hw; go_simp⟩) ?_
  simp only [Act.put, List.setIfInBounds_toArray, List.set_cons_zero, List.set_cons_succ]
  refine takeU 10 5 173 (.agg (rwC 5 n (.slice none 0 0) 0 t).toArray) hHeld rfl rfl (by kernel_rfl) (by kernel_rfl) (by kernel_rfl) (by kernel_rfl) (by kernel_rfl) (by kernel_rfl) (fun _ _ _ h => h) (yieldsIf_load_mid (by rfl) _ _ rfl g3 0 rfl _ _ (fun w h => h.2) Tryz.underlying117 rfl HIR.out) ?_
  simp only [Act.put, List.setIfInBounds_toArray, List.set_cons_zero, List.set_cons_succ]
  refine wpAnyU_ready (rs := [6]) (by kernel_rfl) (by simp) (AllReadyU.cons rfl (fun K hK => ?_) AllReadyU.nil)
  rw [if_pos (by rfl)]
  refine wp_oneR (r := rRn n t) (v := (Value.slice none 0 0)) ⟨_, _, _, rfl⟩ rfl ?_
  intro w4 u4 hu4 hb4
  have E4 := hide (E0.out.below hb4)
  have HU4 := hide hu4
  have gb0 : Blk w4 g3 117 (rwC 5 n (.slice none 0 0) 0 t) := E4.out.gb
  have hH4 : w4.cell? ⟨r, 2, none⟩ = some R.qv ∧ w4.rangeAt g3 0 (rwC 5 n (.slice none 0 0) 0 t) := ⟨E4.out.c2, gb0.range 0 _ (by simp)⟩
  clear gb0
  refine hK.out _ _ (fun _ => hH4) ?_
  have hHeld := hH4
  clear hK K
  clear hu4 hb4 hH4
  simp only [Act.put]
  refine wpAnyU_ready (rs := [7]) (by kernel_rfl) (by simp) (AllReadyU.cons rfl (fun K hK => ?_) AllReadyU.nil)
  rw [if_pos (by rfl)]
  refine wp_appV rRw rfl rfl E4.out.row HU4.out (rwsC_one _ (fun x hx => by simp at hx; subst hx; exact ⟨_, _, _, rfl⟩)) (by have := HRL.out; omega) (Nat.zero_le _) ?_
  intro qv5 w5 hrow5 hgr5 hat5
  have hne5 : ∀ k, R.qv.ownBlock = some k → k ≠ r := fun k hk e => by
    obtain ⟨cs, hc⟩ := row_lies E4.out.row hk
    exact hc.apart E4.out.fk.blk (by decide) e
  have hnf5 : ∀ k, (Value.slice a9 L9 c9).ownBlock = some k → R.qv.ownBlock ≠ some k := fun k hk e => by
    obtain ⟨cs, hc⟩ := row_lies E4.out.row e
    obtain ⟨cs', hc'⟩ := row_lies E4.out.fk.row hk
    exact hc.apart hc' (by decide) rfl
  have DK5 : Hid (Blk w5 r 110 (rkC s (Value.slice a9 L9 c9) R.qv)) := hide (E4.out.fk.blk.same (hgr5.block r E4.out.fk.blk.lt (fun e => hne5 r e.symm rfl)))
  have G5 : Hid (Blk w5 g3 117 (rwC 5 n (.slice none 0 0) 0 t)) := hide (Blk.same E4.out.gb (hgr5.block g3 E4.out.gb.lt (fun e => E4.out.off e.symm)))
  have F5 : Hid (w5.ownsRow 0 131 2 (Value.slice a9 L9 c9) ((A2 ++ [(t, xs)]) ++ B3).length (filC (((A2 ++ [(t, xs)]) ++ B3)))) := hide (row_same E4.out.fk.row (fun k hk => by
    obtain ⟨cs, hc⟩ := row_lies E4.out.fk.row hk
    exact hgr5.block k hc.lt (fun e => hnf5 k hk e.symm)))
  have CH5 : Hid (Chs (R.own r) w w5) := hide (E4.out.chs.thenGrown hgr5 (fun k hk => .inl (.inr (.inr hk))))
  have LQ5 : Hid (∀ k, qv5.ownBlock = some k → R.own r k ∨ w.heap.size ≤ k) := hide (fun k hk => by
    rcases hat5 with e | e
    · exact .inl (.inr (.inr (by rw [e] at hk; exact hk)))
    · rw [e] at hk
      injection hk with hk
      have := E4.out.chs.size
      right
      omega)
  have ROW5 : Hid (w5.ownsRow 0 117 5 qv5 L5 (rwsC (R.qs ++ [(rRn n t, (Value.slice none 0 0))]))) := hide (by rw [rwsC_app, ← HL5.out, List.length_append]; exact hrow5)
  obtain ⟨qa5, qc5, hqe5⟩ := row_slice ROW5.out
  subst hqe5
  have k1 : w5.cell? ⟨r, 2, none⟩ = some R.qv := by rw [DK5.out.cell]; rfl
  have k2 : w5.frozen? ⟨r, 2, none⟩ = false := DK5.out.free 2
  have hH5 : w5.cell? ⟨r, 2, none⟩ = some R.qv ∧ w5.rangeAt g3 0 (rwC 5 n (.slice none 0 0) 0 t) := ⟨k1, G5.out.range 0 _ (by simp)⟩
  refine hK.out _ _ (fun _ => hH5) ?_
  have hHeld := hH5
  clear hK K
  clear hrow5 hgr5 hat5 hne5 hnf5
  simp only [Act.put]
  refine wpAnyU_ready (rs := [8]) (by kernel_rfl) (by simp) (AllReadyU.cons rfl (fun K hK => ?_) AllReadyU.nil)
  rw [if_pos (by rfl)]
  go_simp
  refine hK.out _ _ (fun _ => hH5) ?_
  have hHeld := hH5
  clear hK K
  clear hH5
  refine takeU 10 9 177 (.pointer (some ⟨r, 2, none⟩)) hHeld rfl rfl (by kernel_rfl) (by kernel_rfl) (by kernel_rfl) (by kernel_rfl) (by kernel_rfl) (by kernel_rfl) (fun _ _ _ h => h) (Or.inl ⟨by rfl, fun w _ => by go_simp⟩) ?_
  simp only [Act.put, List.setIfInBounds_toArray, List.set_cons_zero, List.set_cons_succ]
  refine wpAnyU_ready (rs := [10]) (by kernel_rfl) (by simp) (AllReadyU.cons rfl (fun K hK => ?_) AllReadyU.nil)
  rw [if_pos (by rfl)]
  go_simp
  refine hK.out _ _ (fun h => absurd h (by decide)) ?_
  clear hK K
  refine wpAnyU_done (by kernel_rfl) ?_ _
  refine NoPanic.normal ?_
  have B6 := But.setCell w5 r 2 (.slice qa5 L5 qc5)
  have FK6 : FkAt (w5.setCell ⟨r, 2, none⟩ (.slice qa5 L5 qc5)) r s (Value.slice a9 L9 c9) (.slice qa5 L5 qc5) (((A2 ++ [(t, xs)]) ++ B3)) := ⟨DK5.out.set 2 _, row_same F5.out (fun k hk => B6.block k (fun e => by
    obtain ⟨cs, hc⟩ := row_lies F5.out hk
    exact hc.apart DK5.out (by decide) e))⟩
  have hres : RoR w (w5.setCell ⟨r, 2, none⟩ (.slice qa5 L5 qc5)) r s R (rs ++ [rRn n t]) (Value.slice none 0 0) := DsR.done HH.out HLR.out HV.out (by exact HFL.out) HLN.out FK6 (by rw [HL5.out]; exact row_same ROW5.out (fun k hk => B6.block k (fun e => by
    obtain ⟨cs, hc⟩ := row_lies ROW5.out hk
    exact hc.apart DK5.out (by decide) e))) (CH5.out.thenBut B6 (.inl (.inl rfl))) D10.out.lie LQ5.out rfl
  revert hres
  generalize w5.setCell ⟨r, 2, none⟩ (.slice qa5 L5 qc5) = w6
  intro hres
  have HRES := hide hres
  clear hres
  go_wp2
  go_end0
  exact ⟨rfl, HRES.out⟩
set_option maxRecDepth 100000 in
set_option maxHeartbeats 1000000 in
theorem doR_rn1 (ys : List Int) (ht : play rs t = some ys) : Calls Tryz.prog 62 #[.pointer (some ⟨r, 0, none⟩), .agg (rwC 5 n (.slice none 0 0) 0 t).toArray] w fun e w' => e = .returned (.tuple #[]) ∧ RoR w w' r s R (rs ++ [rRn n t]) (.slice none 0 0) := by
  obtain ⟨A, B0, hAB0, hA, hlt, hB⟩ := h.fls.split n
  obtain ⟨I, hI⟩ : ∃ I, A.length = I := ⟨_, rfl⟩
  obtain ⟨B, hBB, hB2⟩ : ∃ B, B0 = (n, xs) :: B ∧ ∀ b ∈ B, blt n b.1 = true := by
    rcases hB with ⟨h1, _⟩ | ⟨ys, B', h1, h2, h3⟩
    · rw [hf] at h1; cases h1
    · rw [hf] at h1
      injection h1 with h1
      subst h1
      exact ⟨B', h2, h3⟩
  subst hBB
  have hAB := hAB0
  have hxs : fl (play rs) n = xs := by simp [fl, hf]
  have HLR : Hid (Lraw s (play rs) (rRn n t)) := hide ⟨.inr (.inr (.inr (.inr ⟨n, t, xs, rfl, hn, hnt', hf, hnt⟩))), fun h2 => by cases h2⟩
  have hF2 : FL (upd (play rs) n none) (A ++ B) := by
    have := h.fls
    rw [hAB] at this
    exact this.turn hlt hB2
  obtain ⟨A2, B3, hAB3, hA2, hlt2, hB3⟩ := hF2.split t
  obtain ⟨J, hJ⟩ : ∃ J, A2.length = J := ⟨_, rfl⟩
  have htf : upd (play rs) n none t = play rs t := upd_ne _ _ (Ne.symm hnt)
  rw [htf] at hB3
  obtain ⟨B2, hBB2, hB4⟩ : ∃ B2, B3 = (t, ys) :: B2 ∧ ∀ b ∈ B2, blt t b.1 = true := by
    rcases hB3 with ⟨h1, _⟩ | ⟨zs, B', h1, h2, h3⟩
    · rw [ht] at h1; cases h1
    · rw [ht] at h1
      injection h1 with h1
      subst h1
      exact ⟨B', h2, h3⟩
  subst hBB2
  have HFL : Hid (FL (doR (play rs) (rRn n t)) (A2 ++ (t, xs) :: B2)) := hide (by
    have h3 := hF2
    rw [hAB3] at h3
    have h4 := h3.set hlt2 hB4 xs
    rw [ren_upd _ hnt] at h4
    rw [do_rn, hxs]
    exact h4)
  have hlen : (A ++ B).length = (A2 ++ (t, ys) :: B2).length := by rw [hAB3]
  have HLN : Hid ((A2 ++ (t, xs) :: B2).length ≤ rs.length + 1) := hide (by
    have := h.few
    rw [hAB] at this
    simp at this hlen ⊢
    omega)
  have HLA2 : Hid ((A ++ B).length ≤ 1099511000000) := hide (by have h1 := h.few; rw [hAB] at h1; have h2 := len_wt rs; simp at h1 ⊢; omega)
  have HFD2 : Hid (∀ (fv : Value) (W : World), FkAt W r s fv R.qv (A ++ B) → Calls Tryz.prog 67 #[.pointer (some ⟨r, 0, none⟩), .string t] W fun e w' => e = .returned (.tuple #[.int .i64 (J : Int), .bool true]) ∧ Below W.heap.size W w') := hide (fun fv W hW => by
    have := find_any r s fv R.qv (A ++ B) (upd (play rs) n none) t W hW hF2 HLA2.out
    rw [← hA2, hJ, htf, ht] at this
    exact this)
  have HAB2 := hide hAB3
  have HJ := hide hJ
  clear hB hB2 hn hAB0 hxs hF2 hAB3 hA2 hlt2 hB3 hJ htf hB4 hlen hnt'
  obtain ⟨fa, fc, hfe⟩ := row_slice h.fk.row
  have HH := hide h
  have HL : Hid (R.l.length ≤ 1099511000000) := hide (by have h1 := h.few; have h2 := len_wt rs; omega)
  have hrl : R.qs.length = rs.length := by rw [← h.raw]; simp
  have HRL : Hid (R.qs.length ≤ 1099511000000) := hide (by have h2 := len_wt rs; omega)
  clear hrl
  have HFE := hide hfe
  have HAB := hide hAB
  have HA := hide hA
  have HLTA := hide hlt
  have HV := hide hv
  have hfind : ∀ (W : World), FkAt W r s R.fv R.qv R.l → Calls Tryz.prog 67 #[.pointer (some ⟨r, 0, none⟩), .string n] W fun e w' => e = .returned (.tuple #[.int .i64 (I : Int), .bool true]) ∧ Below W.heap.size W w' := fun W hW => by
    have := find_any r s R.fv R.qv R.l (play rs) n W hW h.fls HL.out
    rw [← hA, hI, hf] at this
    exact this
  have HFD := hide hfind
  clear h hAB hA hlt hv hfe hfind hwt
  go_enter Tryz.func62, Tryz.ntmps62
  go_wp2_with (refine step_box (cs := rwC 5 n (.slice none 0 0) 0 t) rfl rfl ?_)
  intro w1 g3 hg3 hle3 hb1
  have D1 : Hid (DsR w w1 r s R R.fv R.l (rRn n t) (Value.slice none 0 0) g3) := hide (HH.out.ds hb1 hg3 hle3)
  have c1 : w1.cell? ⟨g3, 1, none⟩ = some (.string n) := D1.out.r1
  clear hg3 hle3 hb1
  go_upto_region 12 with (go_at_call 67; refine (HFD.out _ D1.out.fk).mono ?_; rintro e w2 ⟨rfl, hb2⟩; have D2 := hide (D1.out.below hb2); have c0 : w2.cell? ⟨g3, 0, none⟩ = some (.int .i64 5) := D2.out.r0; clear c1 D1 hb2)
  clear HFD
  have D2' := D2
  rw [HAB.out] at D2'
  obtain ⟨g, cap, hfv, hcells⟩ := D2'.out.at'
  have HFV := hide hfv
  obtain ⟨L, hL⟩ : ∃ L, (A ++ (n, xs) :: B).length = L := ⟨_, rfl⟩
  rw [hL] at hfv
  have HIX : Hid (∀ z : World, (Instr.indexAt 107 (.slice (some ⟨g, 0, none⟩) L cap) (.int .i64 (I : Int))).run Tryz.prog z = .ok (.pointer (some ⟨g, I * 2, none⟩)) z) := hide (fun z => vw_at rFi g L cap I (by rw [← hL, ← hI]; simp) z)
  have HC1 : Hid (∀ z : World, Below w2.heap.size w2 z → z.cell? ⟨r, 1, none⟩ = some (.slice (some ⟨g, 0, none⟩) L cap)) := hide (fun z hz => by rw [← hfv]; exact (D2.out.below hz).c1)
  have HCB : Hid (∀ z : World, Below w2.heap.size w2 z → z.cell? ⟨g, I * 2 + 1, none⟩ = some (.string (str xs))) := hide (fun z hz => by rw [← hI]; exact (hcells z hz).2.1)
  have HFZ : Hid (∀ z : World, Below w2.heap.size w2 z → z.frozen? ⟨g, I * 2 + 1, none⟩ = false) := hide (fun z hz => by rw [← hI]; exact (hcells z hz).2.2.1)
  have HRG : Hid (∀ z : World, Below w2.heap.size w2 z → z.rangeAt g (I * 2) [.string n, .string (str xs)]) := hide (fun z hz => by rw [← hI]; exact (hcells z hz).2.2.2)
  have HLL := hide hL
  have HII := hide hI
  clear hfv hcells hL c0 hI
  obtain ⟨vA, hto, hvt⟩ := (Vw.of_row D2'.out.fk.row).to rFi (k := I) (by rw [← HII.out]; simp)
  obtain ⟨vB, hfr, hvf⟩ := (Vw.of_row D2'.out.fk.row).from rFi (k := I + 1) (by rw [← HII.out]; simp)
  rw [HFV.out, HLL.out] at hto hfr
  have HTO := hide hto
  have hfr' : ∀ W : World, (Instr.slice 107 (.slice (some ⟨g, 0, none⟩) L cap) (some (.int .i64 ((I : Int) + 1))) none none).run Tryz.prog W = .ok vB W := fun W => by have := hfr W; push_cast at this; exact this
  have HFR := hide hfr'
  have HIB : Hid ((I : Int) + 1 ≤ 1099511000001) := hide (by have h1 := HL.out; rw [HAB.out, List.length_append] at h1; have h2 := HII.out; omega)
  have c1 := HC1.out _ (Below.refl _ _)
  have hix := HIX.out
  clear hto hfr hfr'
  go_wp2_with (first | (refine step_loadR wFi rfl rfl [.string n, .string (str xs)] (HRG.out _ (Below.refl _ _)) rfl ?_) | (refine step_alloc zFi rfl ?_))
  intro w3 g7 hg7 hle7 hb3
  go_wp2_with (refine step_storeA wFi rfl rfl rfl hg7 rfl (One.fi _ _) rfl ?_)
  intro w4 hg7' hbut4
  have Y4 := hide (hb3.trans (hbut4.below hle7))
  have G7 := hide hg7'
  have L7 := hide hle7
  have HVT : Hid (∀ z : World, Below w4.heap.size w4 z → Vw z 131 2 vA A.length (filC A)) := hide (fun z hz => by
    have hz2 := Y4.out.trans (hz.mono Y4.out.size)
    have := hvt z (Vw.of_row (D2'.out.below hz2).fk.row)
    rw [← filC_take, ← HII.out, List.take_left' rfl] at this
    exact this)
  have HVF : Hid (∀ z : World, Below w4.heap.size w4 z → Vw z 131 2 vB B.length (filC B)) := hide (fun z hz => by
    have hz2 := Y4.out.trans (hz.mono Y4.out.size)
    have := hvf z (Vw.of_row (D2'.out.below hz2).fk.row)
    rw [← filC_drop, ← HII.out] at this
    have e1 : (A ++ (n, xs) :: B).drop (A.length + 1) = B := by rw [← List.drop_drop, List.drop_left' rfl]; rfl
    have e2 : (A ++ (n, xs) :: B).length - (A.length + 1) = B.length := by simp; omega
    rw [e1, e2] at this
    exact this)
  clear hvt hvf hg7 hg7' hle7 hb3 hbut4 c1
  go_wp2_with fail
  refine wp_region_noPanic ?_
  refine wp_region_U (q := 19) (S := fun z : World => Below w4.heap.size w4 z) (by kernel_rfl) ?_
  have Z0 := hide ((Below.refl w4.heap.size w4).drew)
  have hHeld := Z0.out
  have HC14 : Hid (∀ z : World, Below w4.heap.size w4 z → z.cell? ⟨r, 1, none⟩ = some (.slice (some ⟨g, 0, none⟩) L cap)) := hide (fun z hz => HC1.out z (Y4.out.trans (hz.mono Y4.out.size)))
  obtain ⟨f1a, f1b⟩ := wrapN ((I : Int) + 1) (by omega) (by have := HIB.out; omega)
  refine takeU 19 0 97 (.pointer (some ⟨r, 0, none⟩)) hHeld rfl rfl (by kernel_rfl) (by kernel_rfl) (by kernel_rfl) (by kernel_rfl) (by kernel_rfl) (by kernel_rfl) (fun _ _ _ h => h) (Or.inl ⟨by rfl, fun w _ => by go_simp⟩) ?_
  simp only [Act.put, List.setIfInBounds_toArray, List.set_cons_zero, List.set_cons_succ]
  refine takeU 19 2 99 (.pointer (some ⟨r, 0, none⟩)) hHeld rfl rfl (by kernel_rfl) (by kernel_rfl) (by kernel_rfl) (by kernel_rfl) (by kernel_rfl) (by kernel_rfl) (fun _ _ _ h => h) (Or.inl ⟨by rfl, fun w _ => by go_simp⟩) ?_
  simp only [Act.put, List.setIfInBounds_toArray, List.set_cons_zero, List.set_cons_succ]
  refine takeU 19 3 100 (.pointer (some ⟨r, 0, none⟩)) hHeld rfl rfl (by kernel_rfl) (by kernel_rfl) (by kernel_rfl) (by kernel_rfl) (by kernel_rfl) (by kernel_rfl) (fun _ _ _ h => h) (Or.inl ⟨by rfl, fun w _ => by go_simp⟩) ?_
  simp only [Act.put, List.setIfInBounds_toArray, List.set_cons_zero, List.set_cons_succ]
  refine takeU 19 4 101 (.pointer (some ⟨r, 1, none⟩)) hHeld rfl rfl (by kernel_rfl) (by kernel_rfl) (by kernel_rfl) (by kernel_rfl) (by kernel_rfl) (by kernel_rfl) (fun _ _ _ h => h) (Or.inl ⟨by rfl, fun w _ => by go_simp⟩) ?_
  simp only [Act.put, List.setIfInBounds_toArray, List.set_cons_zero, List.set_cons_succ]
  refine takeU 19 5 102 (.slice (some ⟨g, 0, none⟩) L cap) hHeld rfl rfl (by kernel_rfl) (by kernel_rfl) (by kernel_rfl) (by kernel_rfl) (by kernel_rfl) (by kernel_rfl) (fun _ _ _ h => h) (Or.inl ⟨by rfl, fun w hw => by have hw' : w.cell? ⟨r, 1, none⟩ = some (.slice (some ⟨g, 0, none⟩) L cap) := (fun hw => HC14.out _ hw) hw; go_simp⟩) ?_
  simp only [Act.put, List.setIfInBounds_toArray, List.set_cons_zero, List.set_cons_succ]
  refine takeU 19 6 103 (.int .i64 (I : Int)) hHeld rfl rfl (by kernel_rfl) (by kernel_rfl) (by kernel_rfl) (by kernel_rfl) (by kernel_rfl) (by kernel_rfl) (fun _ _ _ h => h) (Or.inl ⟨by rfl, fun w _ => by go_simp⟩) ?_
  simp only [Act.put, List.setIfInBounds_toArray, List.set_cons_zero, List.set_cons_succ]
  refine takeU 19 7 104 (vA) hHeld rfl rfl (by kernel_rfl) (by kernel_rfl) (by kernel_rfl) (by kernel_rfl) (by kernel_rfl) (by kernel_rfl) (fun _ _ _ h => h) (Or.inl ⟨by rfl, fun w h => run_op rfl (HTO.out w)⟩) ?_
  simp only [Act.put, List.setIfInBounds_toArray, List.set_cons_zero, List.set_cons_succ]
  refine takeU 19 9 106 (.pointer (some ⟨r, 0, none⟩)) hHeld rfl rfl (by kernel_rfl) (by kernel_rfl) (by kernel_rfl) (by kernel_rfl) (by kernel_rfl) (by kernel_rfl) (fun _ _ _ h => h) (Or.inl ⟨by rfl, fun w _ => by go_simp⟩) ?_
  simp only [Act.put, List.setIfInBounds_toArray, List.set_cons_zero, List.set_cons_succ]
  refine takeU 19 10 107 (.pointer (some ⟨r, 0, none⟩)) hHeld rfl rfl (by kernel_rfl) (by kernel_rfl) (by kernel_rfl) (by kernel_rfl) (by kernel_rfl) (by kernel_rfl) (fun _ _ _ h => h) (Or.inl ⟨by rfl, fun w _ => by go_simp⟩) ?_
  simp only [Act.put, List.setIfInBounds_toArray, List.set_cons_zero, List.set_cons_succ]
  refine takeU 19 11 108 (.pointer (some ⟨r, 1, none⟩)) hHeld rfl rfl (by kernel_rfl) (by kernel_rfl) (by kernel_rfl) (by kernel_rfl) (by kernel_rfl) (by kernel_rfl) (fun _ _ _ h => h) (Or.inl ⟨by rfl, fun w _ => by go_simp⟩) ?_
  simp only [Act.put, List.setIfInBounds_toArray, List.set_cons_zero, List.set_cons_succ]
  refine takeU 19 12 109 (.slice (some ⟨g, 0, none⟩) L cap) hHeld rfl rfl (by kernel_rfl) (by kernel_rfl) (by kernel_rfl) (by kernel_rfl) (by kernel_rfl) (by kernel_rfl) (fun _ _ _ h => h) (Or.inl ⟨by rfl, fun w hw => by have hw' : w.cell? ⟨r, 1, none⟩ = some (.slice (some ⟨g, 0, none⟩) L cap) := (fun hw => HC14.out _ hw) hw; go_simp⟩) ?_
  simp only [Act.put, List.setIfInBounds_toArray, List.set_cons_zero, List.set_cons_succ]
  refine takeU 19 13 110 (.int .i64 (I : Int)) hHeld rfl rfl (by kernel_rfl) (by kernel_rfl) (by kernel_rfl) (by kernel_rfl) (by kernel_rfl) (by kernel_rfl) (fun _ _ _ h => h) (Or.inl ⟨by rfl, fun w _ => by go_simp⟩) ?_
  simp only [Act.put, List.setIfInBounds_toArray, List.set_cons_zero, List.set_cons_succ]
  refine takeU 19 14 111 (.int .i64 ((I : Int) + 1)) hHeld rfl rfl (by kernel_rfl) (by kernel_rfl) (by kernel_rfl) (by kernel_rfl) (by kernel_rfl) (by kernel_rfl) (fun _ _ _ h => h) (Or.inl ⟨by rfl, fun w _ => by go_simp⟩) ?_
  simp only [Act.put, List.setIfInBounds_toArray, List.set_cons_zero, List.set_cons_succ]
  refine takeU 19 15 112 (vB) hHeld rfl rfl (by kernel_rfl) (by kernel_rfl) (by kernel_rfl) (by kernel_rfl) (by kernel_rfl) (by kernel_rfl) (fun _ _ _ h => h) (Or.inl ⟨by rfl, fun w h => run_op rfl (HFR.out w)⟩) ?_
  simp only [Act.put, List.setIfInBounds_toArray, List.set_cons_zero, List.set_cons_succ]
  have ONE1 : Hid (∀ x ∈ filC A, x.oneCell' = true) := hide (filC_one A)
  have HLA : Hid (A.length ≤ 1099511000000 ∧ B.length ≤ 1099511000000 ∧ A.length + B.length ≤ 1099511000000) := hide (by have := HL.out; rw [HAB.out, List.length_append, List.length_cons] at this; omega)
  refine wpAnyU_ready (rs := [1]) (by kernel_rfl) (by simp) (AllReadyU.cons rfl (fun K hK => ?_) AllReadyU.nil)
  rw [if_pos (by rfl)]
  refine wp_0F Z0.out.size ?_
  intro w5 g0 hv0 hb5
  have Z5 := hide (Z0.out.trans (hb5.mono Z0.out.size))
  have V0 := hide hv0
  refine hK.out _ _ (fun _ => Z5.out) ?_
  have hHeld := Z5.out
  clear hK K
  clear hv0 hb5
  simp only [Act.put]
  refine wpAnyU_ready (rs := [8]) (by kernel_rfl) (by simp) (AllReadyU.cons rfl (fun K hK => ?_) AllReadyU.nil)
  rw [if_pos (by rfl)]
  refine wp_app0 rFi rfl rfl V0.out (HVT.out _ Z5.out) ONE1.out (by have := HLA.out.1; omega) Z5.out.size ?_
  intro v29 w7 hv29 hb7
  have Z7 := hide (Z5.out.trans (hb7.mono Z5.out.size))
  have V29 := hide hv29
  refine hK.out _ _ (fun _ => Z7.out) ?_
  have hHeld := Z7.out
  clear hK K
  clear hv29 hb7
  simp only [Act.put]
  refine wpAnyU_ready (rs := [16]) (by kernel_rfl) (by simp) (AllReadyU.cons rfl (fun K hK => ?_) AllReadyU.nil)
  rw [if_pos (by rfl)]
  refine wp_appV rFi rfl rfl V29.out (HVF.out _ Z7.out) (filC_one _) (by have := HLA.out; omega) Z7.out.size ?_
  intro v43 w8 hv43 hgr8 hat8
  obtain ⟨L4, hL4⟩ : ∃ L4, (A ++ B).length = L4 := ⟨_, rfl⟩
  have HL4 := hide hL4
  clear hL4
  have V8 : Hid (w8.ownsRow w4.heap.size 131 2 v43 L4 (filC (A ++ B))) := hide (by rw [filC_app, ← HL4.out, List.length_append]; exact hv43)
  have Z8 := hide (Z7.out.trans (grown_below hgr8 (fun k hk => row_ge V29.out hk) Z7.out.size))
  have Y8 := hide (Y4.out.trans (Z8.out.mono Y4.out.size))
  have D8 := hide (D2'.out.below Y8.out)
  obtain ⟨a4, c4, hve4⟩ := row_slice V8.out
  subst hve4
  have k1 : w8.cell? ⟨r, 1, none⟩ = some (.slice (some ⟨g, 0, none⟩) L cap) := HC14.out _ Z8.out
  have k2 : w8.frozen? ⟨r, 1, none⟩ = false := D8.out.fk.blk.free 1
  refine hK.out _ _ (fun _ => Z8.out) ?_
  have hHeld := Z8.out
  clear hK K
  clear hv43 hgr8 hat8
  simp only [Act.put]
  refine wpAnyU_ready (rs := [17]) (by kernel_rfl) (by simp) (AllReadyU.cons rfl (fun K hK => ?_) AllReadyU.nil)
  rw [if_pos (by rfl)]
  go_simp
  refine hK.out _ _ (fun _ => Z8.out) ?_
  have hHeld := Z8.out
  clear hK K
  refine takeU 19 18 115 (.pointer (some ⟨r, 1, none⟩)) hHeld rfl rfl (by kernel_rfl) (by kernel_rfl) (by kernel_rfl) (by kernel_rfl) (by kernel_rfl) (by kernel_rfl) (fun _ _ _ h => h) (Or.inl ⟨by rfl, fun w _ => by go_simp⟩) ?_
  simp only [Act.put, List.setIfInBounds_toArray, List.set_cons_zero, List.set_cons_succ]
  refine wpAnyU_ready (rs := [19]) (by kernel_rfl) (by simp) (AllReadyU.cons rfl (fun K hK => ?_) AllReadyU.nil)
  rw [if_pos (by rfl)]
  go_simp
  refine hK.out _ _ (fun h => absurd h (by decide)) ?_
  clear hK K
  refine wpAnyU_done (by kernel_rfl) ?_ _
  refine NoPanic.normal ?_
  have B6 := But.setCell w8 r 1 (.slice a4 L4 c4)
  have D6 : Hid (DsR w (w8.setCell ⟨r, 1, none⟩ (.slice a4 L4 c4)) r s R (.slice a4 L4 c4) (A ++ B) (rRn n t) (Value.slice none 0 0) g3) := hide (by
    have hne : ∀ {k : Nat} {t : TypeId} {cs : List Value}, Blk w8 k t cs → t ≠ 110 → k ≠ r := fun hc ht => hc.apart D8.out.fk.blk ht
    refine ⟨⟨D8.out.fk.blk.set 1 _, ?_⟩, ?_, ?_, D8.out.new, D8.out.chs.thenBut B6 (.inl (.inl rfl)), fun k hk => ?_, D8.out.off⟩
    · rw [HL4.out]
      refine row_same (Vw.row0 V8.out) (fun k hk => B6.block k ?_)
      obtain ⟨cs, hc⟩ := row_lies V8.out hk
      exact hne hc (by decide)
    · refine row_same D8.out.row (fun k hk => B6.block k ?_)
      obtain ⟨cs, hc⟩ := row_lies D8.out.row hk
      exact hne hc (by decide)
    · exact D8.out.gb.but B6 (hne D8.out.gb (by decide))
    · right
      have h1 := row_ge V8.out hk
      have h2 := D2'.out.chs.size
      have h3 := Y4.out.size
      omega)
  have G76 : Hid (Blk (w8.setCell ⟨r, 1, none⟩ (.slice a4 L4 c4)) g7 131 [.string n, .string (str xs)]) := hide ((G7.out.on Z8.out).but B6 ((G7.out.on Z8.out).apart D8.out.fk.blk (by decide)))
  have N7 : Hid (∀ k, (Value.slice a4 L4 c4).ownBlock = some k → k ≠ g7) := hide (fun k hk e => by
    have h1 := row_ge V8.out hk
    have h2 := G7.out.lt
    omega)
  revert D6 G76
  generalize w8.setCell ⟨r, 1, none⟩ (.slice a4 L4 c4) = w6
  intro D6 G76
  clear k1 k2 hix hHeld f1a f1b B6 V8 Z8 Y8 D8 V29 Z7 V0 Z5 Z0 HC14 HVT HVF HTO HFR
  have c0 : w6.cell? ⟨g3, 0, none⟩ = some (.int .i64 5) := D6.out.r0
  have c44 : w6.cell? ⟨g3, 4, none⟩ = some (.string t) := D6.out.r4
  go_wp2_with (go_at_call 67; refine (HFD2.out _ _ D6.out.fk).mono ?_; rintro e w8 ⟨rfl, hb8⟩; have D8 := hide (D6.out.below hb8); have G78 := hide (G76.out.on hb8); clear hb8)
  clear c0 c44 HFD2
  have HC4 : Hid (∀ z : World, Below w8.heap.size w8 z → z.cell? ⟨g3, 4, none⟩ = some (.string t)) := hide (fun z hz => (D8.out.below hz).r4)
  have HC7 : Hid (∀ z : World, Below w8.heap.size w8 z → z.cell? ⟨g7, 1, none⟩ = some (.string (str xs))) := hide (fun z hz => by rw [(G78.out.on hz).cell]; rfl)
  have HC8 : Hid (∀ z : World, Below w8.heap.size w8 z → z.cell? ⟨r, 1, none⟩ = some (.slice a4 L4 c4)) := hide (fun z hz => (D8.out.below hz).c1)
  have D8' := D8
  rw [HAB2.out] at D8'
  obtain ⟨g', cap', hfv2, hcells2⟩ := D8'.out.at'
  have hL42 : (A2 ++ (t, ys) :: B2).length = L4 := by rw [← HAB2.out, HL4.out]
  have HFV2 := hide hfv2
  injection hfv2 with e1 e2 e3
  clear e2
  subst e1 e3
  have HIX2 : Hid (∀ z : World, (Instr.indexAt 107 (.slice (some ⟨g', 0, none⟩) L4 c4) (.int .i64 (J : Int))).run Tryz.prog z = .ok (.pointer (some ⟨g', J * 2, none⟩)) z) := hide (fun z => vw_at rFi g' L4 c4 J (by rw [← hL42, ← HJ.out]; simp) z)
  have HCB2 : Hid (∀ z : World, Below w8.heap.size w8 z → z.cell? ⟨g', J * 2 + 1, none⟩ = some (.string (str ys))) := hide (fun z hz => by rw [← HJ.out]; exact (hcells2 z hz).2.1)
  have HFZ2 : Hid (∀ z : World, Below w8.heap.size w8 z → z.frozen? ⟨g', J * 2 + 1, none⟩ = false) := hide (fun z hz => by rw [← HJ.out]; exact (hcells2 z hz).2.2.1)
  clear hcells2 hL42
  refine wp_region_noPanic ?_
  refine wp_region_U (q := 9) (S := fun z : World => Below w8.heap.size w8 z) (by kernel_rfl) ?_
  have Z0 := hide ((Below.refl w8.heap.size w8).drew)
  have hHeld := Z0.out
  refine takeU 9 0 127 (.pointer (some ⟨r, 0, none⟩)) hHeld rfl rfl (by kernel_rfl) (by kernel_rfl) (by kernel_rfl) (by kernel_rfl) (by kernel_rfl) (by kernel_rfl) (fun _ _ _ h => h) (Or.inl ⟨by rfl, fun w _ => by go_simp⟩) ?_
  simp only [Act.put, List.setIfInBounds_toArray, List.set_cons_zero, List.set_cons_succ]
  refine takeU 9 1 128 (.pointer (some ⟨r, 0, none⟩)) hHeld rfl rfl (by kernel_rfl) (by kernel_rfl) (by kernel_rfl) (by kernel_rfl) (by kernel_rfl) (by kernel_rfl) (fun _ _ _ h => h) (Or.inl ⟨by rfl, fun w _ => by go_simp⟩) ?_
  simp only [Act.put, List.setIfInBounds_toArray, List.set_cons_zero, List.set_cons_succ]
  refine takeU 9 2 129 (.pointer (some ⟨r, 1, none⟩)) hHeld rfl rfl (by kernel_rfl) (by kernel_rfl) (by kernel_rfl) (by kernel_rfl) (by kernel_rfl) (by kernel_rfl) (fun _ _ _ h => h) (Or.inl ⟨by rfl, fun w _ => by go_simp⟩) ?_
  simp only [Act.put, List.setIfInBounds_toArray, List.set_cons_zero, List.set_cons_succ]
  refine takeU 9 3 130 (.slice (some ⟨g', 0, none⟩) L4 c4) hHeld rfl rfl (by kernel_rfl) (by kernel_rfl) (by kernel_rfl) (by kernel_rfl) (by kernel_rfl) (by kernel_rfl) (fun _ _ _ h => h) (Or.inl ⟨by rfl, fun w hw => by have hw' : w.cell? ⟨r, 1, none⟩ = some (.slice (some ⟨g', 0, none⟩) L4 c4) := (fun hw => HC8.out _ hw) hw; go_simp⟩) ?_
  simp only [Act.put, List.setIfInBounds_toArray, List.set_cons_zero, List.set_cons_succ]
  refine takeU 9 4 131 (.int .i64 (J : Int)) hHeld rfl rfl (by kernel_rfl) (by kernel_rfl) (by kernel_rfl) (by kernel_rfl) (by kernel_rfl) (by kernel_rfl) (fun _ _ _ h => h) (Or.inl ⟨by rfl, fun w _ => by go_simp⟩) ?_
  simp only [Act.put, List.setIfInBounds_toArray, List.set_cons_zero, List.set_cons_succ]
  refine takeU 9 5 132 (.pointer (some ⟨g7, 1, none⟩)) hHeld rfl rfl (by kernel_rfl) (by kernel_rfl) (by kernel_rfl) (by kernel_rfl) (by kernel_rfl) (by kernel_rfl) (fun _ _ _ h => h) (Or.inl ⟨by rfl, fun w _ => by go_simp⟩) ?_
  simp only [Act.put, List.setIfInBounds_toArray, List.set_cons_zero, List.set_cons_succ]
  refine takeU 9 6 133 (.string (str xs)) hHeld rfl rfl (by kernel_rfl) (by kernel_rfl) (by kernel_rfl) (by kernel_rfl) (by kernel_rfl) (by kernel_rfl) (fun _ _ _ h => h) (Or.inl ⟨by rfl, fun w hw => by have hw' : w.cell? ⟨g7, 1, none⟩ = some (.string (str xs)) := (fun hw => HC7.out _ hw) hw; go_simp⟩) ?_
  simp only [Act.put, List.setIfInBounds_toArray, List.set_cons_zero, List.set_cons_succ]
  have hix := HIX2.out
  refine wpAnyU_ready (rs := [7]) (by kernel_rfl) (by simp) (AllReadyU.cons rfl (fun K hK => ?_) AllReadyU.nil)
  rw [if_pos (by rfl)]
  go_simp
  refine hK.out _ _ (fun _ => Z0.out) ?_
  have hHeld := Z0.out
  clear hK K
  refine takeU 9 8 135 (.pointer (some ⟨g', J * 2 + 1, none⟩)) hHeld rfl rfl (by kernel_rfl) (by kernel_rfl) (by kernel_rfl) (by kernel_rfl) (by kernel_rfl) (by kernel_rfl) (fun _ _ _ h => h) (Or.inl ⟨by rfl, fun w _ => by go_simp⟩) ?_
  simp only [Act.put, List.setIfInBounds_toArray, List.set_cons_zero, List.set_cons_succ]
  have k1 := HCB2.out _ Z0.out
  have k2 := HFZ2.out _ Z0.out
  refine wpAnyU_ready (rs := [9]) (by kernel_rfl) (by simp) (AllReadyU.cons rfl (fun K hK => ?_) AllReadyU.nil)
  rw [if_pos (by rfl)]
  go_simp
  refine hK.out _ _ (fun h => absurd h (by decide)) ?_
  clear hK K
  refine wpAnyU_done (by kernel_rfl) ?_ _
  refine NoPanic.normal ?_
  have D10 : Hid (DsR w ((w8.setCell ⟨g', J * 2 + 1, none⟩ (.string (str xs))).drew) r s R (.slice (some ⟨g', 0, none⟩) L4 c4) (A2 ++ (t, xs) :: B2) (rRn n t) (Value.slice none 0 0) g3) := hide (by
    have := D8'.out.setF HFV2.out xs
    rw [HJ.out] at this
    exact this.below ((Below.refl _ _).drew))
  revert D10
  generalize (w8.setCell ⟨g', J * 2 + 1, none⟩ (.string (str xs))).drew = w10
  intro D10
  clear k1 k2 hix hHeld
  go_wp2_with fail
  have HRE5 : Hid (∃ q1 q2, R.qv = .slice q1 R.qs.length q2) := hide (by obtain ⟨q1, q2, hq⟩ := row_slice HH.out.row; exact ⟨q1, q2, hq⟩)
  obtain ⟨L5, hL5⟩ : ∃ L5, (R.qs ++ [(rRn n t, (Value.slice none 0 0))]).length = L5 := ⟨_, rfl⟩
  have HL5 := hide hL5
  clear hL5
  refine wp_region_noPanic ?_
  refine wp_region_U (q := 10) (S := fun z : World => z.cell? ⟨r, 2, none⟩ = some R.qv ∧ z.rangeAt g3 0 (rwC 5 n (.slice none 0 0) 0 t)) (by kernel_rfl) ?_
  have Z0 := hide ((Below.refl w10.heap.size w10).drew)
  have E0 := hide (D10.out.below Z0.out)
  have HIR : Hid ((Tryz.prog.info? 117).map (·.size) = some (rwC 5 n (.slice none 0 0) 0 t).length) := hide (by rw [wRw.size]; rfl)
  have gb0 : Blk w10.drew g3 117 (rwC 5 n (.slice none 0 0) 0 t) := E0.out.gb
  have hHeld : w10.drew.cell? ⟨r, 2, none⟩ = some R.qv ∧ w10.drew.rangeAt g3 0 (rwC 5 n (.slice none 0 0) 0 t) := ⟨E0.out.c2, gb0.range 0 _ (by simp)⟩
  clear gb0
  refine takeU 10 0 168 (.pointer (some ⟨r, 0, none⟩)) hHeld rfl rfl (by kernel_rfl) (by kernel_rfl) (by kernel_rfl) (by kernel_rfl) (by kernel_rfl) (by kernel_rfl) (fun _ _ _ h => h) (Or.inl ⟨by rfl, fun w _ => by go_simp⟩) ?_
  simp only [Act.put, List.setIfInBounds_toArray, List.set_cons_zero, List.set_cons_succ]
  refine takeU 10 1 169 (.pointer (some ⟨r, 0, none⟩)) hHeld rfl rfl (by kernel_rfl) (by kernel_rfl) (by kernel_rfl) (by kernel_rfl) (by kernel_rfl) (by kernel_rfl) (fun _ _ _ h => h) (Or.inl ⟨by rfl, fun w _ => by go_simp⟩) ?_
  simp only [Act.put, List.setIfInBounds_toArray, List.set_cons_zero, List.set_cons_succ]
  refine takeU 10 2 170 (.pointer (some ⟨r, 0, none⟩)) hHeld rfl rfl (by kernel_rfl) (by kernel_rfl) (by kernel_rfl) (by kernel_rfl) (by kernel_rfl) (by kernel_rfl) (fun _ _ _ h => h) (Or.inl ⟨by rfl, fun w _ => by go_simp⟩) ?_
  simp only [Act.put, List.setIfInBounds_toArray, List.set_cons_zero, List.set_cons_succ]
  refine takeU 10 3 171 (.pointer (some ⟨r, 2, none⟩)) hHeld rfl rfl (by kernel_rfl) (by kernel_rfl) (by kernel_rfl) (by kernel_rfl) (by kernel_rfl) (by kernel_rfl) (fun _ _ _ h => h) (Or.inl ⟨by rfl, fun w _ => by go_simp⟩) ?_
  simp only [Act.put, List.setIfInBounds_toArray, List.set_cons_zero, List.set_cons_succ]
  refine takeU 10 4 172 (R.qv) hHeld rfl rfl (by kernel_rfl) (by kernel_rfl) (by kernel_rfl) (by kernel_rfl) (by kernel_rfl) (by kernel_rfl) (fun _ _ _ h => h) (Or.inl ⟨by rfl, fun w hw => by have hw' : w.cell? ⟨r, 2, none⟩ = some (R.qv) := (fun h => h.1) hw; go_simp⟩) ?_
  simp only [Act.put, List.setIfInBounds_toArray, List.set_cons_zero, List.set_cons_succ]
  refine takeU 10 5 173 (.agg (rwC 5 n (.slice none 0 0) 0 t).toArray) hHeld rfl rfl (by kernel_rfl) (by kernel_rfl) (by kernel_rfl) (by kernel_rfl) (by kernel_rfl) (by kernel_rfl) (fun _ _ _ h => h) (yieldsIf_load_mid (by rfl) _ _ rfl g3 0 rfl _ _ (fun w h => h.2) Tryz.underlying117 rfl HIR.out) ?_
  simp only [Act.put, List.setIfInBounds_toArray, List.set_cons_zero, List.set_cons_succ]
  refine wpAnyU_ready (rs := [6]) (by kernel_rfl) (by simp) (AllReadyU.cons rfl (fun K hK => ?_) AllReadyU.nil)
  rw [if_pos (by rfl)]
  refine wp_oneR (r := rRn n t) (v := (Value.slice none 0 0)) ⟨_, _, _, rfl⟩ rfl ?_
  intro w4 u4 hu4 hb4
  have E4 := hide (E0.out.below hb4)
  have HU4 := hide hu4
  have gb0 : Blk w4 g3 117 (rwC 5 n (.slice none 0 0) 0 t) := E4.out.gb
  have hH4 : w4.cell? ⟨r, 2, none⟩ = some R.qv ∧ w4.rangeAt g3 0 (rwC 5 n (.slice none 0 0) 0 t) := ⟨E4.out.c2, gb0.range 0 _ (by simp)⟩
  clear gb0
  refine hK.out _ _ (fun _ => hH4) ?_
  have hHeld := hH4
  clear hK K
  clear hu4 hb4 hH4
  simp only [Act.put]
  refine wpAnyU_ready (rs := [7]) (by kernel_rfl) (by simp) (AllReadyU.cons rfl (fun K hK => ?_) AllReadyU.nil)
  rw [if_pos (by rfl)]
  refine wp_appV rRw rfl rfl E4.out.row HU4.out (rwsC_one _ (fun x hx => by simp at hx; subst hx; exact ⟨_, _, _, rfl⟩)) (by have := HRL.out; omega) (Nat.zero_le _) ?_
  intro qv5 w5 hrow5 hgr5 hat5
  have hne5 : ∀ k, R.qv.ownBlock = some k → k ≠ r := fun k hk e => by
    obtain ⟨cs, hc⟩ := row_lies E4.out.row hk
    exact hc.apart E4.out.fk.blk (by decide) e
  have hnf5 : ∀ k, (Value.slice (some ⟨g', 0, none⟩) L4 c4).ownBlock = some k → R.qv.ownBlock ≠ some k := fun k hk e => by
    obtain ⟨cs, hc⟩ := row_lies E4.out.row e
    obtain ⟨cs', hc'⟩ := row_lies E4.out.fk.row hk
    exact hc.apart hc' (by decide) rfl
  have DK5 : Hid (Blk w5 r 110 (rkC s (Value.slice (some ⟨g', 0, none⟩) L4 c4) R.qv)) := hide (E4.out.fk.blk.same (hgr5.block r E4.out.fk.blk.lt (fun e => hne5 r e.symm rfl)))
  have G5 : Hid (Blk w5 g3 117 (rwC 5 n (.slice none 0 0) 0 t)) := hide (Blk.same E4.out.gb (hgr5.block g3 E4.out.gb.lt (fun e => E4.out.off e.symm)))
  have F5 : Hid (w5.ownsRow 0 131 2 (Value.slice (some ⟨g', 0, none⟩) L4 c4) (A2 ++ (t, xs) :: B2).length (filC ((A2 ++ (t, xs) :: B2)))) := hide (row_same E4.out.fk.row (fun k hk => by
    obtain ⟨cs, hc⟩ := row_lies E4.out.fk.row hk
    exact hgr5.block k hc.lt (fun e => hnf5 k hk e.symm)))
  have CH5 : Hid (Chs (R.own r) w w5) := hide (E4.out.chs.thenGrown hgr5 (fun k hk => .inl (.inr (.inr hk))))
  have LQ5 : Hid (∀ k, qv5.ownBlock = some k → R.own r k ∨ w.heap.size ≤ k) := hide (fun k hk => by
    rcases hat5 with e | e
    · exact .inl (.inr (.inr (by rw [e] at hk; exact hk)))
    · rw [e] at hk
      injection hk with hk
      have := E4.out.chs.size
      right
      omega)
  have ROW5 : Hid (w5.ownsRow 0 117 5 qv5 L5 (rwsC (R.qs ++ [(rRn n t, (Value.slice none 0 0))]))) := hide (by rw [rwsC_app, ← HL5.out, List.length_append]; exact hrow5)
  obtain ⟨qa5, qc5, hqe5⟩ := row_slice ROW5.out
  subst hqe5
  have k1 : w5.cell? ⟨r, 2, none⟩ = some R.qv := by rw [DK5.out.cell]; rfl
  have k2 : w5.frozen? ⟨r, 2, none⟩ = false := DK5.out.free 2
  have hH5 : w5.cell? ⟨r, 2, none⟩ = some R.qv ∧ w5.rangeAt g3 0 (rwC 5 n (.slice none 0 0) 0 t) := ⟨k1, G5.out.range 0 _ (by simp)⟩
  refine hK.out _ _ (fun _ => hH5) ?_
  have hHeld := hH5
  clear hK K
  clear hrow5 hgr5 hat5 hne5 hnf5
  simp only [Act.put]
  refine wpAnyU_ready (rs := [8]) (by kernel_rfl) (by simp) (AllReadyU.cons rfl (fun K hK => ?_) AllReadyU.nil)
  rw [if_pos (by rfl)]
  go_simp
  refine hK.out _ _ (fun _ => hH5) ?_
  have hHeld := hH5
  clear hK K
  clear hH5
  refine takeU 10 9 177 (.pointer (some ⟨r, 2, none⟩)) hHeld rfl rfl (by kernel_rfl) (by kernel_rfl) (by kernel_rfl) (by kernel_rfl) (by kernel_rfl) (by kernel_rfl) (fun _ _ _ h => h) (Or.inl ⟨by rfl, fun w _ => by go_simp⟩) ?_
  simp only [Act.put, List.setIfInBounds_toArray, List.set_cons_zero, List.set_cons_succ]
  refine wpAnyU_ready (rs := [10]) (by kernel_rfl) (by simp) (AllReadyU.cons rfl (fun K hK => ?_) AllReadyU.nil)
  rw [if_pos (by rfl)]
  go_simp
  refine hK.out _ _ (fun h => absurd h (by decide)) ?_
  clear hK K
  refine wpAnyU_done (by kernel_rfl) ?_ _
  refine NoPanic.normal ?_
  have B6 := But.setCell w5 r 2 (.slice qa5 L5 qc5)
  have FK6 : FkAt (w5.setCell ⟨r, 2, none⟩ (.slice qa5 L5 qc5)) r s (Value.slice (some ⟨g', 0, none⟩) L4 c4) (.slice qa5 L5 qc5) ((A2 ++ (t, xs) :: B2)) := ⟨DK5.out.set 2 _, row_same F5.out (fun k hk => B6.block k (fun e => by
    obtain ⟨cs, hc⟩ := row_lies F5.out hk
    exact hc.apart DK5.out (by decide) e))⟩
  have hres : RoR w (w5.setCell ⟨r, 2, none⟩ (.slice qa5 L5 qc5)) r s R (rs ++ [rRn n t]) (Value.slice none 0 0) := DsR.done HH.out HLR.out HV.out (by exact HFL.out) HLN.out FK6 (by rw [HL5.out]; exact row_same ROW5.out (fun k hk => B6.block k (fun e => by
    obtain ⟨cs, hc⟩ := row_lies ROW5.out hk
    exact hc.apart DK5.out (by decide) e))) (CH5.out.thenBut B6 (.inl (.inl rfl))) D10.out.lie LQ5.out rfl
  revert hres
  generalize w5.setCell ⟨r, 2, none⟩ (.slice qa5 L5 qc5) = w6
  intro hres
  have HRES := hide hres
  clear hres
  go_wp2
  go_end0
  exact ⟨rfl, HRES.out⟩
end

end Go.Proofs.YtpocadbhajacaaaGreatDoor

/-
  The document's disk: do whole, New, wrong, Create, All, Cut, Remove, Rename, Read.
-/
namespace Go.Proofs.YtpocadbhajacaaaGreatDoor
open Go.RowKit
set_option linter.unusedVariables false

theorem BV.nil {w : World} {v : Value} (h : BV w v []) : v = .slice none 0 0 := by
  rcases h with ⟨h, _⟩ | ⟨b, o, l, c, rfl, h0, hs, _⟩
  · exact h
  · have := hs.hlen
    simp at this
    omega
theorem doR_any (r s : Nat) (rs : List Rw) (R : Rm) (x : Rw) (v : Value) (w : World) (h : RkAt w r s rs R) (hx : Lraw s (play rs) x) (hv : BV w v x.b) (hwt : wt rs + x.b.length + 1 ≤ 1099511000000) :
    Calls Tryz.prog 62 #[.pointer (some ⟨r, 0, none⟩), .agg (rwC x.k x.n v x.s x.t).toArray] w fun e w' => e = .returned (.tuple #[]) ∧ RoR w w' r s R (rs ++ [x]) v := by
  obtain ⟨hl, hfit⟩ := hx
  rcases hl with ⟨n, rfl, hn, hf⟩ | ⟨n, b, xs, rfl, hn, hf, hb, hB⟩ | ⟨n, k, xs, rfl, hn, hf, h0, h1⟩ | ⟨n, xs, rfl, hn, hf⟩ | ⟨n, t, xs, rfl, hn, ht, hf, hnt⟩
  · have e := BV.nil hv
    subst e
    exact doR_cr r s rs R n w h hn (by simp [rCr] at hwt; omega) hf hv
  · have hxs : fl (play rs) n = xs := by simp [fl, hf]
    have h2 := hfit rfl
    change (fl (play rs) n).length % s + b.length ≤ s at h2
    rw [hxs] at h2
    exact doR_ap r s rs R n w h hn v b xs hf hb hB h2 hwt hv
  · have e := BV.nil hv
    subst e
    exact doR_cu r s rs R n w h hn k xs hf h0 h1 (by simp [rCu] at hwt; omega) hv
  · have e := BV.nil hv
    subst e
    exact doR_rm r s rs R n w h hn (by simp [rRm] at hwt; omega) xs hf hv
  · have e := BV.nil hv
    subst e
    cases hp : play rs t with
    | none => exact doR_rn0 r s rs R n t w h hn ht hnt (by simp [rRn] at hwt; omega) xs hf hv hp
    | some ys => exact doR_rn1 r s rs R n t w h hn ht hnt (by simp [rRn] at hwt; omega) xs hf hv ys hp

/-- What a call that writes leaves of the document's disk. -/
def RoP (w w' : World) (r s : Nat) (R : Rm) (rs' : List Rw) : Prop :=
  ∃ R', RkAt w' r s rs' R' ∧ Chs (R.own r) w w' ∧ (∀ k, R'.own r k → R.own r k ∨ w.heap.size ≤ k) ∧ (∀ k, R'.ro k → R.ro k ∨ w.heap.size ≤ k)
theorem RoP.below {w w' : World} {r s : Nat} {R : Rm} {rs : List Rw} (h : RkAt w r s rs R) (hb : Below w.heap.size w w') : RoP w w' r s R rs := ⟨R, h.below hb, Chs.of_below _ hb, fun k hk => .inl hk, fun k hk => .inl hk⟩
theorem RoR.op {w w1 w' : World} {r s : Nat} {R : Rm} {rs' : List Rw} {v : Value} (hb : Below w.heap.size w w1) (hv : ∀ k, v.ownBlock = some k → w.heap.size ≤ k) (h : RoR w1 w' r s R rs' v) : RoP w w' r s R rs' := by
  obtain ⟨R', h1, h2, h3, h4⟩ := h
  have hsz := hb.size
  exact ⟨R', h1, (Chs.of_below _ hb).after h2 (fun k hk => .inl hk), fun k hk => (h3 k hk).imp id (fun h => Nat.le_trans hsz h), fun k hk => (h4 k hk).imp id (hv k)⟩
theorem novb (k w : Nat) (h : (Value.slice none 0 0).ownBlock = some k) : w ≤ k := by cases h

section
variable {dst : Option Tmp} {ty : TypeId} {pos : String} {aft : Array Edge} {gd : Option (Nat × Bool)} {ops : Array Oper} {rest : List Oper} {a : Act} {w : World} {Q : Exit → Act → World → Prop}
theorem step_bRk {x : Operand} {k : Int} (hw : Region.wanted ⟨dst, .build 110 #[(0, x)], ty, pos, aft, gd⟩ (yielded ops a.tmps) = true) (hx : a.eval x = .int .i64 k)
    (h : wpList Tryz.prog ops Q rest (a.put dst (.agg (rkC k (.slice none 0 0) (.slice none 0 0)).toArray)) w) : wpList Tryz.prog ops Q (⟨dst, .build 110 #[(0, x)], ty, pos, aft, gd⟩ :: rest) a w :=
  step_run hw _ w (run_op (M := Instr.build 110 #[(0, .int .i64 k)]) (by simp [execOp, hx]) (by kernel_rfl)) h
end
def rm0 : Rm := ⟨.slice none 0 0, .slice none 0 0, [], []⟩
theorem RkAt.new {w : World} {g s : Nat} (h : Blk w g 110 (rkC s (.slice none 0 0) (.slice none 0 0))) (h1 : 1 ≤ s) (h2 : s ≤ 4096) : RkAt w g s [] rm0 :=
  ⟨h1, h2, ⟨h, World.ownsRow_nil _ _ _ _⟩, World.ownsRow_nil _ _ _ _, (fun x hx => by cases hx), rfl, FL.nil, trivial, Nat.le_refl _⟩
theorem rm0_own {g B : Nat} (hg : B ≤ g) : ∀ k, rm0.own g k → B ≤ k := fun k hk => by
  rcases hk with rfl | hk | hk
  · exact hg
  · cases hk
  · cases hk
theorem newR_ok (s : Nat) (w : World) (h1 : 1 ≤ s) (h2 : s ≤ 4096) : Calls Tryz.prog 24 #[.int .i64 (s : Int)] w fun e w' => ∃ g, e = .returned (.tuple #[.pointer (some ⟨g, 0, none⟩), .int .i64 0]) ∧ RkAt w' g s [] rm0 ∧ w.heap.size ≤ g ∧ Below w.heap.size w w' := by
  have h3 : ¬ (s : Int) < 1 := by omega
  have h4 : ¬ 4096 < (s : Int) := by omega
  go_enter Tryz.func24, Tryz.ntmps24
  go_wp2_with (first | (refine step_bRk rfl rfl ?_) | (refine step_box (cs := rkC s (.slice none 0 0) (.slice none 0 0)) rfl rfl ?_; intro w1 g hg hl hb))
  go_ret2
  exact ⟨g, rfl, RkAt.new hg h1 h2, hl, hb⟩

section
variable (r s : Nat) (rs : List Rw) (R : Rm) (w : World) (h : RkAt w r s rs R)
include h
theorem RkAt.few2 (hwt : wt rs ≤ 1099511000000) : R.l.length ≤ 1099511000000 := by have h1 := h.few; have h2 := len_wt rs; omega
set_option maxRecDepth 100000 in
theorem wrong_t (n : ByteArray) (hwt : wt rs ≤ 1099511000000) : Calls Tryz.prog 61 #[.pointer (some ⟨r, 0, none⟩), .string n, .bool true] w fun e w' => e = .returned (.int .i64 (fE rs n)) ∧ Below w.heap.size w w' := by
  have hfew := h.few2 r s rs R w hwt
  have HFD : Hid (∀ W : World, FkAt W r s R.fv R.qv R.l → Calls Tryz.prog 67 #[.pointer (some ⟨r, 0, none⟩), .string n] W fun e w' => e = .returned (.tuple #[.int .i64 (posF R.l n : Nat), .bool (play rs n).isSome]) ∧ Below W.heap.size W w') := hide (fun W hW => find_any r s R.fv R.qv R.l (play rs) n W hW h.fls hfew)
  have HK := hide h.fk
  clear h hfew hwt
  generalize posF R.l n = I at HFD
  by_cases hn : nmB n = true
  · cases hf : (play rs n).isSome with
    | true =>
      have e0 : fE rs n = 0 := by simp [fE, hn, hf]
      rw [e0]
      rw [hf] at HFD
      clear e0 hf
      go_enter Tryz.func61, Tryz.ntmps61
      go_wp2_with (first | (go_at_call 87; refine (nameR_any _ _).mono ?_; rintro e w ⟨rfl, rfl⟩) | (go_at_call 67; refine (HFD.out _ HK.out).mono ?_; rintro e w2 ⟨rfl, hb2⟩))
      go_ret
      exact ⟨rfl, hb2⟩
    | false =>
      have e0 : fE rs n = 121 := by simp [fE, hn, hf]
      rw [e0]
      rw [hf] at HFD
      clear e0 hf
      go_enter Tryz.func61, Tryz.ntmps61
      go_wp2_with (first | (go_at_call 87; refine (nameR_any _ _).mono ?_; rintro e w ⟨rfl, rfl⟩) | (go_at_call 67; refine (HFD.out _ HK.out).mono ?_; rintro e w2 ⟨rfl, hb2⟩))
      go_ret
      exact ⟨rfl, hb2⟩
  · have hn' : nmB n = false := by simpa using hn
    have e0 : fE rs n = 2 := by simp [fE, hn']
    rw [e0]
    clear e0 hn
    go_enter Tryz.func61, Tryz.ntmps61
    go_wp2_with (first | (go_at_call 87; refine (nameR_any _ _).mono ?_; rintro e w ⟨rfl, rfl⟩))
    go_ret
    exact ⟨rfl, Below.refl _ _⟩
set_option maxRecDepth 100000 in
theorem wrong_f (n : ByteArray) (hwt : wt rs ≤ 1099511000000) : Calls Tryz.prog 61 #[.pointer (some ⟨r, 0, none⟩), .string n, .bool false] w fun e w' => e = .returned (.int .i64 (crE rs n)) ∧ Below w.heap.size w w' := by
  have hfew := h.few2 r s rs R w hwt
  have HFD : Hid (∀ W : World, FkAt W r s R.fv R.qv R.l → Calls Tryz.prog 67 #[.pointer (some ⟨r, 0, none⟩), .string n] W fun e w' => e = .returned (.tuple #[.int .i64 (posF R.l n : Nat), .bool (play rs n).isSome]) ∧ Below W.heap.size W w') := hide (fun W hW => find_any r s R.fv R.qv R.l (play rs) n W hW h.fls hfew)
  have HK := hide h.fk
  clear h hfew hwt
  generalize posF R.l n = I at HFD
  by_cases hn : nmB n = true
  · cases hf : (play rs n).isSome with
    | true =>
      have e0 : crE rs n = 120 := by simp [crE, hn, hf]
      rw [e0]
      rw [hf] at HFD
      clear e0 hf
      go_enter Tryz.func61, Tryz.ntmps61
      go_wp2_with (first | (go_at_call 87; refine (nameR_any _ _).mono ?_; rintro e w ⟨rfl, rfl⟩) | (go_at_call 67; refine (HFD.out _ HK.out).mono ?_; rintro e w2 ⟨rfl, hb2⟩))
      go_ret
      exact ⟨rfl, hb2⟩
    | false =>
      have e0 : crE rs n = 0 := by simp [crE, hn, hf]
      rw [e0]
      rw [hf] at HFD
      clear e0 hf
      go_enter Tryz.func61, Tryz.ntmps61
      go_wp2_with (first | (go_at_call 87; refine (nameR_any _ _).mono ?_; rintro e w ⟨rfl, rfl⟩) | (go_at_call 67; refine (HFD.out _ HK.out).mono ?_; rintro e w2 ⟨rfl, hb2⟩))
      go_ret
      exact ⟨rfl, hb2⟩
  · have hn' : nmB n = false := by simpa using hn
    have e0 : crE rs n = 2 := by simp [crE, hn']
    rw [e0]
    clear e0 hn
    go_enter Tryz.func61, Tryz.ntmps61
    go_wp2_with (first | (go_at_call 87; refine (nameR_any _ _).mono ?_; rintro e w ⟨rfl, rfl⟩))
    go_ret
    exact ⟨rfl, Below.refl _ _⟩
set_option maxRecDepth 100000 in
theorem all_any (n : ByteArray) (hwt : wt rs ≤ 1099511000000) : Calls Tryz.prog 36 #[.pointer (some ⟨r, 0, none⟩), .string n] w fun e w' => e = .returned (.tuple #[.string (str (fl (play rs) n)), .bool (play rs n).isSome]) ∧ Below w.heap.size w w' := by
  have hfew := h.few2 r s rs R w hwt
  have HFD : Hid (∀ W : World, FkAt W r s R.fv R.qv R.l → Calls Tryz.prog 67 #[.pointer (some ⟨r, 0, none⟩), .string n] W fun e w' => e = .returned (.tuple #[.int .i64 (posF R.l n : Nat), .bool (play rs n).isSome]) ∧ Below W.heap.size W w') := hide (fun W hW => find_any r s R.fv R.qv R.l (play rs) n W hW h.fls hfew)
  have HK := hide h.fk
  obtain ⟨A, B, hAB, hA, hlt, hB⟩ := h.fls.split n
  cases hf : play rs n with
  | none =>
    have e1 : fl (play rs) n = [] := by simp [fl, hf]
    rw [e1]
    rw [hf] at HFD
    clear h hfew hwt hAB hA hlt hB e1 hf
    generalize posF R.l n = I at HFD
    go_enter Tryz.func36, Tryz.ntmps36
    go_wp2_with (go_at_call 67; refine (HFD.out _ HK.out).mono ?_; rintro e w2 ⟨rfl, hb2⟩)
    go_ret2
    exact ⟨rfl, hb2⟩
  | some xs =>
    obtain ⟨B', rfl⟩ : ∃ B', B = (n, xs) :: B' := by
      rcases hB with ⟨h1, _⟩ | ⟨ys, B', h1, h2, _⟩
      · rw [hf] at h1; cases h1
      · rw [hf] at h1
        injection h1 with h1
        subst h1
        exact ⟨B', h2⟩
    have e1 : fl (play rs) n = xs := by simp [fl, hf]
    rw [e1]
    rw [hf] at HFD
    have hx : R.l[posF R.l n]? = some (n, xs) := by rw [← hA, hAB]; simp
    have hlt2 : posF R.l n < R.l.length := (List.getElem?_eq_some_iff.1 hx).1
    obtain ⟨g, cap, cs, hfv, hg, _, _, _, _, hc1⟩ := h.fk.file hx
    have HG : Hid (Blk w g 131 cs) := hide hg
    generalize hI : posF R.l n = I at HFD hx hlt2 hc1
    have hix := vw_at rFi g R.l.length cap I hlt2
    have HC1 := hide hc1
    have HFV := hide hfv
    generalize hL : R.l.length = L at hfv hix HFV
    clear h hfew hwt hAB hA hlt hB e1 hf hx hlt2 hg hc1 hI hL
    go_enter Tryz.func36, Tryz.ntmps36
    go_wp2_with (go_at_call 67; refine (HFD.out _ HK.out).mono ?_; rintro e w2 ⟨rfl, hb2⟩; have c1 : w2.cell? ⟨r, 1, none⟩ = some (.slice (some ⟨g, 0, none⟩) L cap) := (by rw [(HK.out.blk.on hb2).cell, ← HFV.out]; rfl); have c2 : w2.cell? ⟨g, I * 2 + 1, none⟩ = some (.string (str xs)) := (by rw [(HG.out.on hb2).cell]; exact HC1.out))
    go_ret2
    exact ⟨rfl, hb2⟩
end

end Go.Proofs.YtpocadbhajacaaaGreatDoor

/-
  The document's All and Count.
-/
namespace Go.Proofs.YtpocadbhajacaaaGreatDoor
open Go.RowKit Go.Shelf
set_option linter.unusedVariables false
set_option linter.unusedSimpArgs false
set_option maxRecDepth 100000

section
variable {dst : Option Tmp} {ty : TypeId} {pos : String} {aft : Array Edge} {gd : Option (Nat × Bool)} {ops : Array Oper} {rest : List Oper} {a : Act} {w : World} {K : Act → World → Prop} {Q : Exit → Act → World → Prop}
theorem wpappNs {s x : Operand} {B Z : Nat} {v y : Value} {ns ms : List ByteArray} (hs : a.eval s = v) (hx : a.eval x = y) (hown : OwnN w B v ns) (hy : OwnN w Z y ms) (hlen : ns.length + ms.length ≤ 1073741824) (hB : B ≤ w.heap.size)
    (h : ∀ v' w', OwnN w' B v' (ns ++ ms) → w.grownBy w' v.ownBlock → K (a.put dst v') w') :
    Oper.wp Tryz.prog ⟨dst, .call { callee := .builtin .append, args := #[s, x], argTypes := #[74, 74] }, ty, pos, aft, gd⟩ a w K Q := by
  obtain ⟨i0, hi, hz0, hz1, hz2⟩ := info_someN infoN
  rcases hy.lies with ⟨rfl, rfl⟩ | ⟨g, cap, cs, rfl, hg, hb, h1, h2, h3, h4⟩
  · obtain ⟨va, vc, hv⟩ := OwnN.slice hown
    have hle : ns.length ≤ vc := by
      rcases hown.lies with ⟨e, e2⟩ | ⟨g, cap, cs, e, _, _, hc, _⟩
      · rw [e2]; exact Nat.zero_le _
      · rw [hv] at e
        injection e with _ _ e3
        omega
    have hr := run_append_nothing (P := Tryz.prog) w 74 74 ty 9 i0 undNl hi va ns.length vc hle (.slice none 0 0) (Src.ofNil w undNl 0)
    rw [← hv] at hr
    unfold Oper.wp
    simp [execOp, resolve, invoke, builtin, hs, hx, hr, Result.andThen]
    exact h _ _ (by rw [List.append_nil]; exact hown) (World.grownBy.refl _ _)
  · obtain ⟨v', w', hr, ho, hgr, _, _⟩ := run_append_own_at (P := Tryz.prog) w B 74 ty 9 i0 (.string ByteArray.empty) 1 16 undNl hi hz0 hz1 hz2 rfl (by decide) v _ _ hown ⟨g, 0, none⟩ ms.length cap (nC ms) (by rw [nC_length, Nat.mul_one]) (fun j u hu => by
      rw [Addr.add_lit, Nat.zero_add, hb.cell]
      have hj : j < ms.length := by
        have := (List.getElem?_eq_some_iff.1 hu).1
        rwa [nC_length] at this
      rw [← h4, List.getElem?_take, if_pos hj] at hu
      exact hu) (One.nC ms) (by unfold maxLen; omega) (by omega) hB
    unfold Oper.wp
    simp [execOp, resolve, invoke, builtin, hs, hx, hr, Result.andThen]
    refine h _ _ (by unfold OwnN; rw [show nC (ns ++ ms) = nC ns ++ nC ms by simp [nC], List.length_append]; exact ho) hgr
set_option maxRecDepth 100000 in
theorem stepappNs {s x : Operand} {B Z : Nat} {v y : Value} {ns ms : List ByteArray} (hw : Region.wanted ⟨dst, .call { callee := .builtin .append, args := #[s, x], argTypes := #[74, 74] }, ty, pos, aft, gd⟩ (yielded ops a.tmps) = true)
    (hs : a.eval s = v) (hx : a.eval x = y) (hown : OwnN w B v ns) (hy : OwnN w Z y ms) (hlen : ns.length + ms.length ≤ 1073741824) (hB : B ≤ w.heap.size)
    (h : ∀ v' w', OwnN w' B v' (ns ++ ms) → w.grownBy w' v.ownBlock → wpList Tryz.prog ops Q rest (a.put dst v') w') :
    wpList Tryz.prog ops Q (⟨dst, .call { callee := .builtin .append, args := #[s, x], argTypes := #[74, 74] }, ty, pos, aft, gd⟩ :: rest) a w :=
  BigFrame.wpList_want hw fun K hK => wpappNs hs hx hown hy hlen hB fun v' w' h1 h2 => hK _ _ (h v' w' h1 h2)
end
/-- A file's leaves behind those of the files ahead. -/
theorem lfs_file (F : ByteArray → Option (List Int)) (h k : Nat) : ∀ j, j ≤ (wlF F h k).length → lfs F h (k * 2 ^ h + j) = lfs F h (k * 2 ^ h) ++ (wlF F h k).take j
  | 0, _ => by simp
  | j + 1, hj => by
    have hl := wlF_le F h k
    rw [← Nat.add_assoc, lfs_succ, lfs_file F h k j (by omega), lf_at (by omega), List.take_succ_eq_append_getElem (by omega), List.append_assoc]
    congr 2
    simp [List.getD, show j < (wlF F h k).length by omega]
theorem hh_true {h : Int} {H : Nat} (hh : hB H) : (decide ((1 : Int) ≤ (H : Int)) && decide ((H : Int) ≤ 8)) = true := by
  have h1 := hh.1
  have h8 := hh.2
  simp
  omega
theorem bnE_height {h : Int} (he : bnE h 0 ≠ 0) : (decide (1 ≤ h) && decide (h ≤ 8)) = false := by
  cases hb : (decide (1 ≤ h) && decide (h ≤ 8)) with
  | false => rfl
  | true =>
    have hb2 : 1 ≤ h ∧ h ≤ 8 := by simpa using hb
    refine absurd ?_ he
    unfold bnE
    rw [if_pos (nmO'_is.2 ⟨hb2.1, hb2.2, by omega, by omega⟩)]
theorem allR_bad (r : Nat) (w : World) (hh : Int) (he : bnE hh 0 ≠ 0) : Calls Tryz.prog 30 #[.pointer (some ⟨r, 0, none⟩), .int .i64 hh] w fun e w' => e = .returned (.slice none 0 0) ∧ w' = w := by
  have HH := hide (height_is hh w)
  rw [bnE_height he] at HH
  clear he
  go_enter Tryz.func30, Tryz.ntmps30
  go_wp2_with (go_at_call 29; refine HH.out.mono ?_; rintro r w' ⟨rfl, hw'⟩; subst w')
  go_ret
  exact ⟨rfl, rfl⟩
section
variable (r s : Nat) (rs : List Rw) (R : Rm) (w : World) (h : RkAt w r s rs R)
include h
set_option maxHeartbeats 2000000 in
theorem allR_any (H n : Nat) (hh : hB H) (hc : CnL (play rs) H n) (hwt : wt rs ≤ 1099511000000) :
    Calls Tryz.prog 30 #[.pointer (some ⟨r, 0, none⟩), .int .i64 (H : Int)] w fun e w' => ∃ o, e = .returned o ∧ OwnN w' w.heap.size o ((lfs (play rs) H n).map str) ∧ Below w.heap.size w w' := by
  have HHT := hide (height_is (H : Int) w)
  rw [hh_true (h := 0) hh] at HHT
  have HR := hide h
  have hnb : n ≤ 1048576 := hc.le
  have HVB : Hid (∀ m, isB (fl (play rs) m)) := hide (fun m => by
    cases e : play rs m with
    | none => rw [fl_none e]; intro y hy; cases hy
    | some xs => rw [show fl (play rs) m = xs by simp [fl, e]]; exact h.isb e)
  have HFB : Hid (∀ m, (fl (play rs) m).length ≤ 1099511000000) := hide (fun m => Nat.le_trans (play_wt rs m) hwt)
  have HAL : Hid (∀ (W : World) (m : ByteArray), RkAt W r s rs R → Calls Tryz.prog 36 #[.pointer (some ⟨r, 0, none⟩), .string m] W fun e w' => e = .returned (.tuple #[.string (str (fl (play rs) m)), .bool (play rs m).isSome]) ∧ Below W.heap.size W w') := hide (fun W m hW => all_any r s rs R W hW m hwt)
  have HFI : Hid (∀ (W : World) (k : Nat), k ≤ 1048576 → Calls Tryz.prog 47 #[.int .i64 (H : Int), .int .i64 (k : Int)] W fun r w' => r = .returned (.string (lfN H k)) ∧ w' = W) := hide (fun W k hk => fileR_any H k W hh (by omega))
  have hp := hh.pow
  have hfit : ∀ k, k * 2 ^ H < 1048576 → k * 2 ^ H + 2 ^ H ≤ 1048576 := fun k hk => hh.fit hk
  have HAT : Hid (∀ k, k * 2 ^ H ≤ n → k * 2 ^ H < 1048576 → k * 2 ^ H + (wlF (play rs) H k).length ≤ n ∧ ((wlF (play rs) H k).length < 2 ^ H → n = k * 2 ^ H + (wlF (play rs) H k).length)) := hide (fun k h1 h2 => hc.at' hh h1 h2)
  have HLF : Hid (∀ k, lfs (play rs) H (k * 2 ^ H + (wlF (play rs) H k).length) = lfs (play rs) H (k * 2 ^ H) ++ wlF (play rs) H k) := hide (fun k => by
    have := lfs_file (play rs) H k _ (Nat.le_refl _)
    rwa [List.take_of_length_le (Nat.le_refl _)] at this)
  have HWE : Hid (∀ k, wlF (play rs) H k = wl (2 ^ H) (fl (play rs) (lfN H k))) := hide (fun k => rfl)
  have HWL : Hid (∀ k, (wlF (play rs) H k).length ≤ 2 ^ H) := hide (fun k => wlF_le _ _ _)
  obtain ⟨P, HP⟩ : ∃ P, Hid (2 ^ H = P) := ⟨_, hide rfl⟩
  have hH1 := hh.1
  have hH8 := hh.2
  have hq20 : ∃ Q, 1048576 / 2 ^ H = Q ∧ Q * P = 1048576 ∧ Q ≤ 1048576 := by
    refine ⟨_, rfl, ?_, Nat.div_le_self _ _⟩
    rw [← HP.out]
    rcases (by omega : H = 1 ∨ H = 2 ∨ H = 3 ∨ H = 4 ∨ H = 5 ∨ H = 6 ∨ H = 7 ∨ H = 8) with rfl | rfl | rfl | rfl | rfl | rfl | rfl | rfl <;> rfl
  obtain ⟨Q, hQ1, hQ2, hQ3⟩ := hq20
  rw [HP.out] at HAT HLF HWE hp hfit HWL
  have hsh : (1048576 : Int) / 2 ^ H = (Q : Int) := by rw [← hQ1]; exact shrN 1048576 H
  have hHi1 : (1 : Int) ≤ (H : Int) := by omega
  have hHi8 : (H : Int) ≤ 8 := by omega
  have HWP := hide (wrap_powB hh HP.out)
  clear h hh hc hwt hQ1
  go_enter Tryz.func30, Tryz.ntmps30
  go_wp2_with (go_at_call 29; refine HHT.out.mono ?_; rintro r w' ⟨rfl, hw'⟩; subst w')
  rw [HWP.out]
  go_loopw [5, 7] (fun o p wr => ∃ k : Nat, k ≤ Q ∧ k * P ≤ n ∧ p = .int .i64 (k : Int) ∧ Hid (OwnN wr w.heap.size o ((lfs (play rs) H (k * P)).map str)) ∧ Hid (Below w.heap.size w wr)) (fun _ p _ => Q - (intOf p).toNat)
  case atStart => exact ⟨0, Nat.zero_le _, by omega, rfl, hide (by rw [Nat.zero_mul]; exact World.ownsRow_nil _ _ _ _), hide (Below.refl _ _)⟩
  case round =>
    obtain ⟨k, hk, hkp, rfl, HO, HB⟩ := hrel
    obtain ⟨oa, oc, ho⟩ := OwnN.slice HO.out
    rw [List.length_map, lfs_len] at ho
    subst ho
    by_cases hlt : k < Q
    · have hlti : (k : Int) < (Q : Int) := by omega
      have hk2 : k * P < 1048576 := by
        have := Nat.mul_lt_mul_of_pos_right hlt (show 0 < P by omega)
        omega
      have hat := HAT.out k hkp hk2
      have hLF := HLF.out k
      have hWE := HWE.out k
      have hWL := HWL.out k
      have HFK := hide (HFI.out wr k (by omega))
      obtain ⟨nm, HNM⟩ : ∃ nm, Hid (lfN H k = nm) := ⟨_, hide rfl⟩
      rw [HNM.out] at hWE HFK
      have hxb := HVB.out nm
      have hxl := HFB.out nm
      have HAK := hide (fun (W : World) (hW : RkAt W r s rs R) => HAL.out W nm hW)
      have hno : (play rs nm).isSome = false → fl (play rs) nm = [] := fun hq => by
        cases e : play rs nm with
        | none => exact fl_none e
        | some xs => rw [e] at hq; cases hq
      obtain ⟨b, HBB⟩ : ∃ b, Hid (fl (play rs) nm = b) := ⟨_, hide rfl⟩
      obtain ⟨th, HTH⟩ : ∃ th, Hid ((play rs nm).isSome = th) := ⟨_, hide rfl⟩
      rw [HBB.out] at hWE hxb hxl HAK hno
      rw [HTH.out] at HAK hno
      obtain ⟨ls, HLS⟩ : ∃ ls, Hid (wlF (play rs) H k = ls) := ⟨_, hide rfl⟩
      rw [HLS.out] at hat hLF hWE hWL
      have HWH := hide (fun (W : World) => wholeR_any b P W hxb hxl (by omega))
      rw [← hWE] at HWH
      have hls0 : th = false → ls.length = 0 := fun hq => by rw [hWE, hno hq, wl_one (by simp [wl])]; rfl
      have HLM : Hid ((lfs (play rs) H (k * P)).map str ++ ls.map str = (lfs (play rs) H (k * P + ls.length)).map str) := hide (by rw [hLF, List.map_append])
      obtain ⟨m, HM⟩ : ∃ m, Hid (ls.length = m) := ⟨_, hide rfl⟩
      have HLL : Hid ((ls.map str).length = m) := hide (by rw [List.length_map, HM.out])
      rw [HM.out] at hat hWL HLM hls0
      obtain ⟨kp, HKP⟩ : ∃ kp, Hid (k * P = kp) := ⟨_, hide rfl⟩
      have HKP1 : Hid ((k + 1) * P = kp + P) := hide (by rw [Nat.add_mul, Nat.one_mul, HKP.out])
      rw [HKP.out] at hat hkp hk2 HLM HO ⊢
      generalize str b = X at *
      clear hWE hxb hxl hno hLF
      go_wp2_with fail
      refine HFK.out.mono ?_
      rintro e w' ⟨rfl, hw'⟩
      subst w'
      go_wp2_with fail
      refine (HAK.out _ (HR.out.below HB.out)).mono ?_
      rintro e w3 ⟨rfl, hb3⟩
      have HB3 := hide (on_below HB.out hb3)
      have HO3 := hide (HO.out.below hb3)
      clear hb3 HFK HAK HO
      go_wp2_with fail
      refine (HWH.out w3).mono ?_
      rintro e w4 ⟨lo, lv, rfl, hlo, _, hb4⟩
      have HB4 := hide (on_below HB3.out hb4)
      have HO4 := hide (HO3.out.below hb4)
      have HLO := hide hlo
      obtain ⟨la, lc, hls⟩ := OwnN.slice hlo
      rw [HLL.out] at hls
      subst hls
      clear hlo hb4 HWH HB3 HO3
      go_wp2_with (refine stepappNs rfl rfl rfl HO4.out HLO.out (by rw [HLL.out, List.length_map, lfs_len]; omega) HB4.out.size ?_)
      intro o5 w5 ho5 hgr5
      rw [HLM.out] at ho5
      have HB5 := hide (HB4.out.grown hgr5 HB4.out.size (fun q e => row_ge HO4.out e))
      have HO5 := hide ho5
      clear ho5 hgr5 HO4 HLO HB4 HLM
      by_cases hfull : m = P
      · have hth : th = true := by
          cases hq : th with
          | true => rfl
          | false => have := hls0 hq; omega
        subst hth hfull
        have hkn : kp + m ≤ n := hat.1
        have hk1 : (k + 1) * m ≤ n := by rw [HKP1.out]; exact hkn
        rw [← HKP1.out] at HO5
        clear hat hls0
        go_wp2
        go_roundw
        case rel => exact ⟨k + 1, by omega, hk1, by go_num, HO5, HB5⟩
        case measure => simp only [intOf]; omega
      · have hlm : m < P := by omega
        have hnn := hat.2 hlm
        rw [← hnn] at HO5
        have hmi : (m : Int) < (P : Int) := by omega
        clear hat hls0 hnn
        cases th
        · go_wp2
          go_ret
          exact ⟨_, rfl, HO5.out, HB5.out⟩
        · go_wp2
          go_ret
          exact ⟨_, rfl, HO5.out, HB5.out⟩
    · have hlti : ¬ (k : Int) < (Q : Int) := by omega
      have hke : k = Q := by omega
      have hkn : k * P = n := by rw [hke, hQ2] at hkp ⊢; omega
      rw [hkn] at HO
      have hkn2 : Value.slice oa (k * P) oc = Value.slice oa n oc := by rw [hkn]
      rw [hkn2]
      clear hkn hkn2 hke
      go_wp2
      go_ret
      exact ⟨_, rfl, HO.out, HB.out⟩
end

end Go.Proofs.YtpocadbhajacaaaGreatDoor
