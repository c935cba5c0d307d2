/-
  The document's Less and Find.
-/
import Derived.Test.YtabpfbankinojaaDpa
import Derived.Test.YtabpfbankinojaaDgl
namespace Go.Proofs.Ytabpfbankinojaa
open Go.RowKit Go.Shelf
set_option linter.unusedVariables false
set_option linter.unusedSimpArgs false
set_option maxRecDepth 100000

theorem dig_at (g i : Nat) (I : Int) (hI : I = (i : Int)) (hi : i < 32) (w : World) : (Instr.indexAt 24 (.pointer (some ⟨g, 0, none⟩)) (.int .i64 I)).run Try.prog w = .ok (.pointer (some ⟨g, i, none⟩)) w :=
  index_at (by kernel_rfl) (by kernel_rfl) (fun _ => by kernel_rfl) g i I hI hi w
theorem less_any (xs ys : List Int) (w : World) (hx : xs.length = 32) (hy : ys.length = 32) (bx : isB xs) (bY : isB ys) :
    Calls Try.prog 22 #[.agg (u8s xs).toArray, .agg (u8s ys).toArray] w fun e w' => e = .returned (.bool (decide (kD xs < kD ys))) ∧ Below w.heap.size w w' := by
  have HX := hide hx
  have HY := hide hy
  have BX := hide bx
  have BY := hide bY
  clear hx hy bx bY
  go_enter Try.func22, Try.ntmps22
  go_wp2_with (refine step_box (cs := u8s xs) rfl rfl ?_)
  intro w1 g1 hg1 hle1 hb1
  have G1 := hide hg1
  have B1 := hide hb1
  clear hg1 hb1
  go_wp2_with (refine step_box (cs := u8s ys) rfl rfl ?_)
  intro w2 g2 hg2 hle2 hb2
  have H0 : Hid (Blk w2 g1 24 (u8s xs) ∧ Blk w2 g2 24 (u8s ys) ∧ Below w.heap.size w w2) := hide ⟨G1.out.on hb2, hg2, on_below B1.out hb2⟩
  clear hg2 hle2 hb2 hle1 G1 B1
  go_wp2_with fail
  go_loopw [5] (fun s5 wr => ∃ (i : Nat), i ≤ 32 ∧ s5 = .int .i64 i ∧ Hid (xs.take i = ys.take i) ∧ Hid (Blk wr g1 24 (u8s xs) ∧ Blk wr g2 24 (u8s ys) ∧ Below w.heap.size w wr)) (fun s5 _ => 32 - (intOf s5).toNat)
  case atStart => exact ⟨0, Nat.zero_le _, rfl, hide rfl, H0⟩
  case round =>
    obtain ⟨i, hi, rfl, HT, HW⟩ := hrel
    by_cases hlt : i < 32
    · have hlt' : (i : Int) < 32 := by omega
      have HI1 := hide (fun V => dig_at g1 i (i : Int) rfl hlt V)
      have HI2 := hide (fun V => dig_at g2 i (i : Int) rfl hlt V)
      obtain ⟨x, hxi⟩ : ∃ x, xs.getD i 0 = x := ⟨_, rfl⟩
      obtain ⟨y, hyi⟩ : ∃ y, ys.getD i 0 = y := ⟨_, rfl⟩
      have HC1 : Hid (∀ V : World, Below wr.heap.size wr V → V.cell? ⟨g1, i, none⟩ = some (.int .u8 x)) := hide fun V hV => by rw [(HW.out.1.on hV).cell, u8s_get _ i (by rw [HX.out]; omega), hxi]
      have HC2 : Hid (∀ V : World, Below wr.heap.size wr V → V.cell? ⟨g2, i, none⟩ = some (.int .u8 y)) := hide fun V hV => by rw [(HW.out.2.1.on hV).cell, u8s_get _ i (by rw [HY.out]; omega), hyi]
      have HXI := hide hxi
      have HYI := hide hyi
      clear hxi hyi
      go_wp2_with fail
      refine wp_region_noPanic ?_
      have BD := hide (Below.refl wr.heap.size wr).drew
      refine wp_region_held_drew (S := fun V : World => Below wr.heap.size wr V) (by kernel_rfl) BD.out (fun hHeld => ?_)
      refine takeH 0 10 (.int .i64 (i : Int)) hHeld rfl rfl (by kernel_rfl) (by kernel_rfl) (by kernel_rfl) (fun _ _ _ h => h) (Or.inl ⟨by rfl, fun w _ => by go_simp⟩) ?_
      simp only [Act.put, List.setIfInBounds_toArray, List.set_cons_zero, List.set_cons_succ]
      refine takeH 1 11 (.pointer (some ⟨g1, i, none⟩)) hHeld rfl rfl (by kernel_rfl) (by kernel_rfl) (by kernel_rfl) (fun _ _ _ h => h) (Or.inl ⟨by rfl, fun w _ => run_op rfl (HI1.out w)⟩) ?_
      simp only [Act.put, List.setIfInBounds_toArray, List.set_cons_zero, List.set_cons_succ]
      refine takeH 2 12 (.int .u8 x) hHeld rfl rfl (by kernel_rfl) (by kernel_rfl) (by kernel_rfl) (fun _ _ _ h => h) (Or.inl ⟨by rfl, fun w hw => by have hw' : w.cell? ⟨g1, i, none⟩ = some (.int .u8 x) := (fun hw => HC1.out _ hw) hw; go_simp⟩) ?_
      simp only [Act.put, List.setIfInBounds_toArray, List.set_cons_zero, List.set_cons_succ]
      refine takeH 3 13 (.int .i64 (i : Int)) hHeld rfl rfl (by kernel_rfl) (by kernel_rfl) (by kernel_rfl) (fun _ _ _ h => h) (Or.inl ⟨by rfl, fun w _ => by go_simp⟩) ?_
      simp only [Act.put, List.setIfInBounds_toArray, List.set_cons_zero, List.set_cons_succ]
      refine takeH 4 14 (.pointer (some ⟨g2, i, none⟩)) hHeld rfl rfl (by kernel_rfl) (by kernel_rfl) (by kernel_rfl) (fun _ _ _ h => h) (Or.inl ⟨by rfl, fun w _ => run_op rfl (HI2.out w)⟩) ?_
      simp only [Act.put, List.setIfInBounds_toArray, List.set_cons_zero, List.set_cons_succ]
      refine takeH 5 15 (.int .u8 y) hHeld rfl rfl (by kernel_rfl) (by kernel_rfl) (by kernel_rfl) (fun _ _ _ h => h) (Or.inl ⟨by rfl, fun w hw => by have hw' : w.cell? ⟨g2, i, none⟩ = some (.int .u8 y) := (fun hw => HC2.out _ hw) hw; go_simp⟩) ?_
      simp only [Act.put, List.setIfInBounds_toArray, List.set_cons_zero, List.set_cons_succ]
      by_cases hne : x = y
      · have hne' : (x == y) = true := by rw [hne]; exact beq_self_eq_true _
        have HT2 : Hid (xs.take (i + 1) = ys.take (i + 1)) := hide (take_more HX.out HY.out hlt HT.out (by rw [HXI.out, HYI.out, hne]))
        refine takeH 6 16 (.bool false) hHeld rfl rfl (by kernel_rfl) (by kernel_rfl) (by kernel_rfl) (fun _ _ _ h => h) (Or.inl ⟨by rfl, fun w _ => by go_simp⟩) ?_
        simp only [Act.put, List.setIfInBounds_toArray, List.set_cons_zero, List.set_cons_succ]
        refine wpAnyH_done (by kernel_rfl) ?_ _
        refine NoPanic.normal ?_
        have HW2 : Hid (Blk wr.drew g1 24 (u8s xs) ∧ Blk wr.drew g2 24 (u8s ys) ∧ Below w.heap.size w wr.drew) := hide ⟨HW.out.1.on BD.out, HW.out.2.1.on BD.out, on_below HW.out.2.2 BD.out⟩
        clear hHeld
        go_wp2
        exact ⟨⟨i + 1, by omega, by go_num, HT2, HW2⟩, by simp [intOf]; omega⟩
      · have hne' : (x == y) = false := by rw [beq_eq_false_iff_ne]; exact hne
        have HLS : Hid (decide (x < y) = decide (kD xs < kD ys)) := hide (by
          have := less_at BX.out BY.out HX.out HY.out hlt HT.out (by rw [HXI.out, HYI.out]; exact hne)
          rwa [HXI.out, HYI.out] at this)
        refine takeH 6 16 (.bool true) hHeld rfl rfl (by kernel_rfl) (by kernel_rfl) (by kernel_rfl) (fun _ _ _ h => h) (Or.inl ⟨by rfl, fun w _ => by go_simp⟩) ?_
        simp only [Act.put, List.setIfInBounds_toArray, List.set_cons_zero, List.set_cons_succ]
        refine wpAnyH_done (by kernel_rfl) ?_ _
        refine NoPanic.normal ?_
        have B1 := BD.out
        revert B1
        generalize wr.drew = Vd
        intro B1
        have HB1 := hide B1
        clear hHeld B1 BD
        go_wp2_with fail
        refine wp_region_noPanic ?_
        have BD := hide (Below.refl Vd.heap.size Vd).drew
        refine wp_region_held_drew (S := fun V : World => Below Vd.heap.size Vd V) (by kernel_rfl) BD.out (fun hHeld => ?_)
        have HC3 : Hid (∀ V : World, Below Vd.heap.size Vd V → V.cell? ⟨g1, i, none⟩ = some (.int .u8 x)) := hide fun V hV => HC1.out V (on_below HB1.out hV)
        have HC4 : Hid (∀ V : World, Below Vd.heap.size Vd V → V.cell? ⟨g2, i, none⟩ = some (.int .u8 y)) := hide fun V hV => HC2.out V (on_below HB1.out hV)
        refine takeH 0 17 (.int .i64 (i : Int)) hHeld rfl rfl (by kernel_rfl) (by kernel_rfl) (by kernel_rfl) (fun _ _ _ h => h) (Or.inl ⟨by rfl, fun w _ => by go_simp⟩) ?_
        simp only [Act.put, List.setIfInBounds_toArray, List.set_cons_zero, List.set_cons_succ]
        refine takeH 1 18 (.pointer (some ⟨g1, i, none⟩)) hHeld rfl rfl (by kernel_rfl) (by kernel_rfl) (by kernel_rfl) (fun _ _ _ h => h) (Or.inl ⟨by rfl, fun w _ => run_op rfl (HI1.out w)⟩) ?_
        simp only [Act.put, List.setIfInBounds_toArray, List.set_cons_zero, List.set_cons_succ]
        refine takeH 2 19 (.int .u8 x) hHeld rfl rfl (by kernel_rfl) (by kernel_rfl) (by kernel_rfl) (fun _ _ _ h => h) (Or.inl ⟨by rfl, fun w hw => by have hw' : w.cell? ⟨g1, i, none⟩ = some (.int .u8 x) := (fun hw => HC3.out _ hw) hw; go_simp⟩) ?_
        simp only [Act.put, List.setIfInBounds_toArray, List.set_cons_zero, List.set_cons_succ]
        refine takeH 3 20 (.int .i64 (i : Int)) hHeld rfl rfl (by kernel_rfl) (by kernel_rfl) (by kernel_rfl) (fun _ _ _ h => h) (Or.inl ⟨by rfl, fun w _ => by go_simp⟩) ?_
        simp only [Act.put, List.setIfInBounds_toArray, List.set_cons_zero, List.set_cons_succ]
        refine takeH 4 21 (.pointer (some ⟨g2, i, none⟩)) hHeld rfl rfl (by kernel_rfl) (by kernel_rfl) (by kernel_rfl) (fun _ _ _ h => h) (Or.inl ⟨by rfl, fun w _ => run_op rfl (HI2.out w)⟩) ?_
        simp only [Act.put, List.setIfInBounds_toArray, List.set_cons_zero, List.set_cons_succ]
        refine takeH 5 22 (.int .u8 y) hHeld rfl rfl (by kernel_rfl) (by kernel_rfl) (by kernel_rfl) (fun _ _ _ h => h) (Or.inl ⟨by rfl, fun w hw => by have hw' : w.cell? ⟨g2, i, none⟩ = some (.int .u8 y) := (fun hw => HC4.out _ hw) hw; go_simp⟩) ?_
        simp only [Act.put, List.setIfInBounds_toArray, List.set_cons_zero, List.set_cons_succ]
        refine takeH 6 23 (.bool (decide (x < y))) hHeld rfl rfl (by kernel_rfl) (by kernel_rfl) (by kernel_rfl) (fun _ _ _ h => h) (Or.inl ⟨by rfl, fun w _ => by go_simp⟩) ?_
        simp only [Act.put, List.setIfInBounds_toArray, List.set_cons_zero, List.set_cons_succ]
        refine takeH 7 4 (.bool (decide (x < y))) hHeld rfl rfl (by kernel_rfl) (by kernel_rfl) (by kernel_rfl) (fun _ _ _ h => h) (Or.inl ⟨by rfl, fun w _ => by go_simp⟩) ?_
        simp only [Act.put, List.setIfInBounds_toArray, List.set_cons_zero, List.set_cons_succ]
        refine wpAnyH_done (by kernel_rfl) ?_ _
        refine NoPanic.normal ?_
        have HF : Hid (Below w.heap.size w Vd.drew) := hide (on_below (on_below HW.out.2.2 HB1.out) BD.out)
        clear hHeld
        rw [HLS.out]
        go_wp2
        go_ret
        exact ⟨rfl, HF.out⟩
    · obtain rfl : i = 32 := by omega
      have HE : Hid (decide (kD xs < kD ys) = false) := hide (by
        have := HT.out
        rw [List.take_of_length_le (by rw [HX.out]; exact Nat.le_refl _), List.take_of_length_le (by rw [HY.out]; exact Nat.le_refl _)] at this
        rw [this]
        simp)
      go_wp2
      go_ret
      exact ⟨by rw [HE.out]; rfl, HW.out.2.2⟩
/-! ### the document's index -/
theorem roI : Ro 27 56 33 40 (.agg (u8s (zer 32) ++ [Value.int .i64 0]).toArray) := ⟨by kernel_rfl, by kernel_rfl, by kernel_rfl, by kernel_rfl, by omega, by omega, by omega, fun w => by kernel_rfl⟩
theorem recI : Rec 56 (u8s (zer 32) ++ [Value.int .i64 0]) [(0, 32), (32, 1)] := fun _ => by kernel_rfl
/-- The document's items and runs, in memory. -/
structure Dx (w : World) (iv rv : Value) (L : List Ent) (R : List Nat) : Prop where
  i : Vw w 56 33 iv L.length (pcs L)
  r : Vw w 3 1 rv R.length (ns R)
section
variable {w w' : World} {iv rv : Value} {L : List Ent} {R : List Nat}
theorem Dx.on (h : Dx w iv rv L R) (hb : Below w.heap.size w w') : Dx w' iv rv L R := ⟨h.i.on hb, h.r.on hb⟩
theorem Dx.si (h : Dx w iv rv L R) : ∃ a c, iv = .slice a L.length c := h.i.slice
theorem Dx.sr (h : Dx w iv rv L R) : ∃ a c, rv = .slice a R.length c := h.r.slice
theorem Dx.at (h : Dx w iv rv L R) {i : Nat} (hi : i < L.length) : ∃ g o, (∀ W : World, (Instr.indexAt 27 iv (.int .i64 (i : Int))).run Try.prog W = .ok (.pointer (some ⟨g, o, none⟩)) W) ∧ ∀ W : World, Dx W iv rv L R → W.rangeAt g o (pc L[i]) := by
  obtain ⟨g, o, h1, h2⟩ := Vw.at roI h.i hi
  refine ⟨g, o, h1, fun W hW => ?_⟩
  have := (h2 W hW.i).1
  rwa [pcs_at L i hi] at this
theorem Dx.run (h : Dx w iv rv L R) {i : Nat} (hi : i < R.length) : ∃ g o, (∀ W : World, (Instr.indexAt 28 rv (.int .i64 (i : Int))).run Try.prog W = .ok (.pointer (some ⟨g, o, none⟩)) W) ∧ ∀ W : World, Dx W iv rv L R → W.cell? ⟨g, o, none⟩ = some (.int .i64 (R.getD i 0 : Int)) := by
  obtain ⟨g, o, h1, h2⟩ := Vw.at roN h.r hi
  refine ⟨g, o, h1, fun W hW => ?_⟩
  have := (h2 W hW.r).1 0 (.int .i64 (R.getD i 0 : Int)) (by
    rw [Nat.mul_one, List.getElem?_take, if_pos (by omega), List.getElem?_drop, Nat.add_zero]
    exact ns_at R i hi)
  exact this
end
set_option maxHeartbeats 1000000 in
theorem findD_any (iv rv : Value) (L : List Ent) (R : List Nat) (d : List Int) (w : World) (h : Dx w iv rv L R) (hl : d.length = 32) (hb : isB d) (hn : L.length ≤ 4398046511104) :
    Calls Try.prog 17 #[.agg #[iv, rv], .agg (u8s d).toArray] w fun e w' => e = .returned (fO (fndR d L)) ∧ Below w.heap.size w w' := by
  have HD := hide h
  have HL := hide hl
  obtain ⟨ia, ic, rfl⟩ := h.si
  obtain ⟨n, hnn⟩ : ∃ n, L.length = n := ⟨_, rfl⟩
  have HN := hide hnn
  rw [hnn] at hn HD ⊢
  clear h hb hl hnn
  go_enter Try.func17, Try.ntmps17
  go_wp2_with (refine step_box (cs := [.slice ia n ic, rv]) rfl rfl ?_)
  intro w1 g1 hg1 hle1 hb1
  have G1 := hide hg1
  have B1 := hide hb1
  clear hg1 hb1
  go_wp2_with (refine step_box (cs := u8s d) rfl rfl ?_)
  intro w2 g2 hg2 hle2 hb2
  have H0 : Hid (Blk w2 g1 30 [.slice ia n ic, rv] ∧ Blk w2 g2 24 (u8s d) ∧ Dx w2 (.slice ia n ic) rv L R ∧ Below w.heap.size w w2) := hide ⟨G1.out.on hb2, hg2, (HD.out.on B1.out).on hb2, on_below B1.out hb2⟩
  clear hg2 hle2 hb2 hle1 G1 B1
  go_wp2_with fail
  go_loopw [6] (fun s6 wr => ∃ (i : Nat), i ≤ n ∧ s6 = .int .i64 i ∧ Hid (fndR d (L.take i) = none) ∧ Hid (Blk wr g1 30 [.slice ia n ic, rv] ∧ Blk wr g2 24 (u8s d) ∧ Dx wr (.slice ia n ic) rv L R ∧ Below w.heap.size w wr)) (fun s6 _ => n - (intOf s6).toNat)
  case atStart => exact ⟨0, Nat.zero_le _, rfl, hide (by rw [List.take_zero]; rfl), H0⟩
  case round =>
    obtain ⟨i, hi, rfl, HF, HW⟩ := hrel
    have c0 : wr.cell? ⟨g1, 0, none⟩ = some (.slice ia n ic) := by rw [HW.out.1.cell]; rfl
    by_cases hlt : i < n
    · have hlt' : (i : Int) < (n : Int) := by omega
      have hiL : i < L.length := by rw [HN.out]; exact hlt
      obtain ⟨g3, o3, hix, hrg⟩ := HW.out.2.2.1.at hiL
      obtain ⟨x, hx⟩ : ∃ x, L[i] = x := ⟨_, rfl⟩
      rw [hx] at hrg
      have HIX := hide hix
      have HRG : Hid (∀ V : World, Below wr.heap.size wr V → V.rangeAt g3 o3 (pc x)) := hide fun V hV => hrg V (HW.out.2.2.1.on hV)
      have HRX : Hid (∀ V : World, Below wr.heap.size wr V → V.rangeAt g2 0 (u8s d)) := hide (fun W hW => (HW.out.2.1.on hW).range 0 _ (by rw [List.drop_zero, List.take_length]))
      have HC0 : Hid (∀ V : World, Below wr.heap.size wr V → V.cell? ⟨g1, 0, none⟩ = some (.slice ia n ic)) := hide (fun V hV => by rw [(HW.out.1.on hV).cell]; rfl)
      have hu := aDd.und
      have HX1 : Hid ((Try.prog.info? 24).map (·.size) = some (u8s x.d).length) := hide (by rw [wideD.size, u8s_length, x.hl])
      have HX2 : Hid ((Try.prog.info? 24).map (·.size) = some (u8s d).length) := hide (by rw [wideD.size, u8s_length, HL.out])
      have HX := hide hx
      clear hx hix hrg
      go_wp2_with fail
      refine wp_region_noPanic ?_
      have BD := hide (Below.refl wr.heap.size wr).drew
      refine wp_region_held_drew (S := fun V : World => Below wr.heap.size wr V) (by kernel_rfl) BD.out (fun hHeld => ?_)
      clear c0
      refine takeH 0 14 (.pointer (some ⟨g1, 0, none⟩)) hHeld rfl rfl (by kernel_rfl) (by kernel_rfl) (by kernel_rfl) (fun _ _ _ h => h) (Or.inl ⟨by rfl, fun w _ => by go_simp⟩) ?_
      simp only [Act.put, List.setIfInBounds_toArray, List.set_cons_zero, List.set_cons_succ]
      refine takeH 1 15 (.slice ia n ic) hHeld rfl rfl (by kernel_rfl) (by kernel_rfl) (by kernel_rfl) (fun _ _ _ h => h) (Or.inl ⟨by rfl, fun w hw => by have hw' : w.cell? ⟨g1, 0, none⟩ = some (.slice ia n ic) := (fun hw => HC0.out _ hw) hw; go_simp⟩) ?_
      simp only [Act.put, List.setIfInBounds_toArray, List.set_cons_zero, List.set_cons_succ]
      refine takeH 2 16 (.int .i64 (i : Int)) hHeld rfl rfl (by kernel_rfl) (by kernel_rfl) (by kernel_rfl) (fun _ _ _ h => h) (Or.inl ⟨by rfl, fun w _ => by go_simp⟩) ?_
      simp only [Act.put, List.setIfInBounds_toArray, List.set_cons_zero, List.set_cons_succ]
      refine takeH 3 17 (.pointer (some ⟨g3, o3, none⟩)) hHeld rfl rfl (by kernel_rfl) (by kernel_rfl) (by kernel_rfl) (fun _ _ _ h => h) (Or.inl ⟨by rfl, fun w _ => run_op rfl (HIX.out w)⟩) ?_
      simp only [Act.put, List.setIfInBounds_toArray, List.set_cons_zero, List.set_cons_succ]
      refine takeH 4 18 (.pointer (some ⟨g3, o3, none⟩)) hHeld rfl rfl (by kernel_rfl) (by kernel_rfl) (by kernel_rfl) (fun _ _ _ h => h) (Or.inl ⟨by rfl, fun w _ => by go_simp⟩) ?_
      simp only [Act.put, List.setIfInBounds_toArray, List.set_cons_zero, List.set_cons_succ]
      refine takeH 5 19 (.agg (u8s x.d).toArray) hHeld rfl rfl (by kernel_rfl) (by kernel_rfl) (by kernel_rfl) (fun _ _ _ h => h) (yieldsIf_load_mid (by rfl) _ _ rfl g3 o3 rfl _ _ (fun V h => rangeAt_d (HRG.out V h)) hu rfl HX1.out) ?_
      simp only [Act.put, List.setIfInBounds_toArray, List.set_cons_zero, List.set_cons_succ]
      refine takeH 6 20 (.agg (u8s d).toArray) hHeld rfl rfl (by kernel_rfl) (by kernel_rfl) (by kernel_rfl) (fun _ _ _ h => h) (yieldsIf_load_mid (by rfl) _ _ rfl g2 0 rfl _ _ (fun V h => HRX.out V h) hu rfl HX2.out) ?_
      simp only [Act.put, List.setIfInBounds_toArray, List.set_cons_zero, List.set_cons_succ]
      by_cases he : x.d = d
      · have HFN : Hid (fndR d L = some x.p) := hide (by
          have := fndR_hit hiL HF.out (by rw [HX.out]; exact he)
          rwa [HX.out] at this)
        refine takeH 7 21 (.bool (decide (x.d = d))) hHeld rfl rfl (by kernel_rfl) (by kernel_rfl) (by kernel_rfl) (fun _ _ _ h => h) (Or.inl ⟨by rfl, fun v _ => run_eqA aDd _ rfl rfl x.hl HL.out⟩) ?_
        simp only [Act.put, List.setIfInBounds_toArray, List.set_cons_zero, List.set_cons_succ]
        have hdc : decide (x.d = d) = true := decide_eq_true he
        rw [hdc]
        refine wpAnyH_done (by kernel_rfl) ?_ _
        refine NoPanic.normal ?_
        have HF2 : Hid (Below w.heap.size w wr.drew) := hide (on_below HW.out.2.2.2 BD.out)
        have c1 : wr.drew.cell? ⟨g1, 0, none⟩ = some (.slice ia n ic) := HC0.out _ BD.out
        have c2 : wr.drew.cell? ⟨g3, o3 + 32, none⟩ = some (.int .i64 x.p) := rangeAt_p (HRG.out _ BD.out)
        have hix2 := HIX.out
        clear hHeld hdc
        go_wp2_with fail
        go_ret2
        exact ⟨by rw [HFN.out]; rfl, HF2.out⟩
      · have HFN : Hid (fndR d (L.take (i + 1)) = none) := hide (fndR_more hiL HF.out (by rw [HX.out]; exact he))
        refine takeH 7 21 (.bool (decide (x.d = d))) hHeld rfl rfl (by kernel_rfl) (by kernel_rfl) (by kernel_rfl) (fun _ _ _ h => h) (Or.inl ⟨by rfl, fun v _ => run_eqA aDd _ rfl rfl x.hl HL.out⟩) ?_
        simp only [Act.put, List.setIfInBounds_toArray, List.set_cons_zero, List.set_cons_succ]
        have hdc : decide (x.d = d) = false := decide_eq_false he
        rw [hdc]
        refine wpAnyH_done (by kernel_rfl) ?_ _
        refine NoPanic.normal ?_
        have HW2 : Hid (Blk wr.drew g1 30 [.slice ia n ic, rv] ∧ Blk wr.drew g2 24 (u8s d) ∧ Dx wr.drew (.slice ia n ic) rv L R ∧ Below w.heap.size w wr.drew) := hide ⟨HW.out.1.on BD.out, HW.out.2.1.on BD.out, HW.out.2.2.1.on BD.out, on_below HW.out.2.2.2 BD.out⟩
        clear hHeld hdc
        go_wp2
        exact ⟨⟨i + 1, by omega, by go_num, HFN, HW2⟩, by simp [intOf]; omega⟩
    · obtain rfl : i = n := by omega
      have hlt' : ¬ (i : Int) < (i : Int) := by omega
      have HFN : Hid (fndR d L = none) := hide (by
        have := HF.out
        rwa [List.take_of_length_le (by rw [HN.out]; exact Nat.le_refl _)] at this)
      go_wp2
      go_ret2
      exact ⟨by rw [HFN.out]; rfl, HW.out.2.2.2⟩

end Go.Proofs.Ytabpfbankinojaa
