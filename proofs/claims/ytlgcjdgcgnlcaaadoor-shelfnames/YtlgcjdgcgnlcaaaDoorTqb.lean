/-
  A tile's path as the document tells it.
-/
import Derived.Test.YtlgcjdgcgnlcaaaDoorTqa
import Derived.Test.YtlgcjdgcgnlcaaaDoorTi0
namespace Go.Proofs.YtlgcjdgcgnlcaaaDoor
open Go.RowKit
set_option linter.unusedVariables false
set_option linter.unusedSimpArgs false

theorem digR (n : Nat) (w : World) (h : n < 9223372036854775808) : Calls Tryd.prog 40 #[.int .i64 (n : Int)] w fun r w' => r = .returned (.string (bA (Lib.decDigits n))) ∧ Below w.heap.size w w' :=
  (digits_any n n w (Nat.le_refl _) h).mono fun r w' ⟨e, hw⟩ => ⟨e, by rw [hw]; exact Below.refl _ _⟩
set_option maxRecDepth 100000 in
theorem pathR_no (h l i n : Int) (w : World) (k : ¬ tOK h l i n) : Calls Tryd.prog 20 #[.agg #[.int .i64 h, .int .i64 l, .int .i64 i, .int .i64 n]] w fun r w' => r = .returned (.tuple #[.string (bA []), .int .i64 2]) ∧ Below w.heap.size w w' := by
  obtain ⟨q, hq, hc⟩ := validTR_any h l i n
  obtain rfl : q = false := by
    cases q with
    | false => rfl
    | true => exact absurd (hq.1 rfl) k
  have HVd := hide hc
  clear hc hq k
  go_enter Tryd.func20, Tryd.ntmps20
  go_wp2_with (first | (refine step_box (cs := c4 h l i n) rfl rfl ?_; intro w1 g1 hg1 hle1 hb1; have HG1 := hide hg1; have HB1 := hide hb1; clear hg1 hb1 hle1) | (refine step_loadA wT rfl rfl HG1.out rfl ?_))
  refine (HVd.out _).mono ?_
  rintro r w2 ⟨rfl, hb2⟩
  have HG2 := hide (HG1.out.on hb2)
  have HB2 := hide (on_below HB1.out hb2)
  clear HG1 HB1 hb2 HVd
  go_wp2
  go_ret2
  exact ⟨rfl, HB2.out⟩
set_option maxRecDepth 100000 in
set_option maxHeartbeats 1000000 in
theorem pathR_ok (h l i n : Nat) (w : World) (hh : isH h) (hl : l ≤ 48) (hi : i < 281474976710656) (hn1 : 1 ≤ n) (hn : n ≤ 2 ^ h) (k : tOK (h : Int) (l : Int) (i : Int) (n : Int)) :
    Calls Tryd.prog 20 #[.agg #[.int .i64 (h : Int), .int .i64 (l : Int), .int .i64 (i : Int), .int .i64 (n : Int)]] w fun r w' => r = .returned (.tuple #[.string (bA (pU h l i n)), .int .i64 0]) ∧ Below w.heap.size w w' := by
  obtain ⟨q, hq, hc⟩ := validTR_any (h : Int) (l : Int) (i : Int) (n : Int)
  obtain rfl : q = true := hq.2 k
  have HVd := hide hc
  have hp := hh.pow
  have h8 := hh.2
  have LH := hide (dec_len h (by omega))
  have LL := hide (dec_len l (by omega))
  have LN := hide (dec_len n (by omega))
  have LI := hide (ixP_len i)
  have HIh := hide (fun v => digR h v (by omega))
  have HIl := hide (fun v => digR l v (by omega))
  have HIn := hide (fun v => digR n v (by omega))
  have HIx := hide (fun v => indexR_any i v (by omega))
  have HPU : Hid (pU h l i n = if n < 2 ^ h then ((((tileB ++ Lib.decDigits h) ++ [47]) ++ Lib.decDigits l) ++ [47]) ++ ixP i ++ markB ++ Lib.decDigits n else ((((tileB ++ Lib.decDigits h) ++ [47]) ++ Lib.decDigits l) ++ [47]) ++ ixP i) := hide (by
    unfold pU nmU
    split <;> simp only [List.append_assoc])
  obtain ⟨P, hP⟩ : ∃ P, 2 ^ h = P := ⟨_, rfl⟩
  obtain ⟨p1, p2, p3, p4⟩ := pow_w hP hh
  have HPW := hide p1
  have HPI := hide p2
  rw [hP] at HPU hn hp
  generalize pU h l i n = PU at *
  generalize Lib.decDigits h = dh at *
  generalize Lib.decDigits l = dl at *
  generalize Lib.decDigits n = dn at *
  generalize ixP i = di at *
  have HFU := hide (fun v => full_any h P v hh hP)
  clear hc hq k p1 p2 hP hh
  go_enter Tryd.func20, Tryd.ntmps20
  go_wp2_with (first | (refine step_box (cs := c4 (h : Int) (l : Int) (i : Int) (n : Int)) rfl rfl ?_; intro w1 g1 hg1 hle1 hb1; have HG1 := hide hg1; have HB1 := hide hb1; clear hg1 hb1 hle1) | (refine step_loadA wT rfl rfl HG1.out rfl ?_))
  refine (HVd.out _).mono ?_
  rintro r w2 ⟨rfl, hb2⟩
  have HG2 := hide (HG1.out.on hb2)
  have HB2 := hide (on_below HB1.out hb2)
  clear HG1 HB1 hb2 HVd
  have Y0 := hide ((Below.refl w2.heap.size w2).drew)
  have A0 : Hid (∀ v : World, Below w2.heap.size w2 v → v.cell? ⟨g1, 0, none⟩ = some (.int .i64 (h : Int))) := hide (fun v hv => (HG2.out.on hv).four.1)
  have A1 : Hid (∀ v : World, Below w2.heap.size w2 v → v.cell? ⟨g1, 1, none⟩ = some (.int .i64 (l : Int))) := hide (fun v hv => (HG2.out.on hv).four.2.1)
  have A2 : Hid (∀ v : World, Below w2.heap.size w2 v → v.cell? ⟨g1, 2, none⟩ = some (.int .i64 (i : Int))) := hide (fun v hv => (HG2.out.on hv).four.2.2.1)
  obtain ⟨s1, hs1⟩ : ∃ s, tileB ++ dh = s := ⟨_, rfl⟩
  obtain ⟨s2, hs2⟩ : ∃ s, s1 ++ [47] = s := ⟨_, rfl⟩
  obtain ⟨s3, hs3⟩ : ∃ s, s2 ++ dl = s := ⟨_, rfl⟩
  obtain ⟨s4, hs4⟩ : ∃ s, s3 ++ [47] = s := ⟨_, rfl⟩
  obtain ⟨s5, hs5⟩ : ∃ s, s4 ++ di = s := ⟨_, rfl⟩
  obtain ⟨s6, hs6⟩ : ∃ s, s5 ++ markB = s := ⟨_, rfl⟩
  obtain ⟨s7, hs7⟩ : ∃ s, s6 ++ dn = s := ⟨_, rfl⟩
  have y1 : s1.length ≤ 25 := by rw [← hs1, List.length_append]; have := LH.out; simp [tileB]; omega
  have y2 : s2.length ≤ 26 := by rw [← hs2, List.length_append]; simp; omega
  have y3 : s3.length ≤ 46 := by rw [← hs3, List.length_append]; have := LL.out; omega
  have y4 : s4.length ≤ 47 := by rw [← hs4, List.length_append]; simp; omega
  have y5 : s5.length ≤ 75 := by rw [← hs5, List.length_append]; have := LI.out; omega
  have y6 : s6.length ≤ 78 := by rw [← hs6, List.length_append]; simp [markB]; omega
  have Z1 : Hid (tileB ++ dh = s1 ∧ tileB.length + dh.length ≤ 9000) := hide ⟨hs1, by have := LH.out; simp [tileB]; omega⟩
  have Z2 : Hid (s1 ++ [47] = s2 ∧ s1.length + ([47] : List UInt8).length ≤ 9000) := hide ⟨hs2, by simp; omega⟩
  have Z3 : Hid (s2 ++ dl = s3 ∧ s2.length + dl.length ≤ 9000) := hide ⟨hs3, by have := LL.out; omega⟩
  have Z4 : Hid (s3 ++ [47] = s4 ∧ s3.length + ([47] : List UInt8).length ≤ 9000) := hide ⟨hs4, by simp; omega⟩
  have Z5 : Hid (s4 ++ di = s5 ∧ s4.length + di.length ≤ 9000) := hide ⟨hs5, by have := LI.out; omega⟩
  have Z6 : Hid (s5 ++ markB = s6 ∧ s5.length + markB.length ≤ 9000) := hide ⟨hs6, by simp [markB]; omega⟩
  have Z7 : Hid (s6 ++ dn = s7 ∧ s6.length + dn.length ≤ 9000) := hide ⟨hs7, by have := LN.out; omega⟩
  rw [hs1, hs2, hs3, hs4, hs5, hs6, hs7] at HPU
  clear hs1 hs2 hs3 hs4 hs5 hs6 hs7 y1 y2 y3 y4 y5 y6
  go_wp2_with fail
  refine joinP (fun W => Hid (Below w2.heap.size w2 W)) ?act ?tail (fun hjoin => ?_)
  rotate_left
  rotate_left
  · refine wp_region_noPanic ?_
    refine wp_region_held_drew (S := fun v : World => Below w2.heap.size w2 v) (by kernel_rfl) Y0.out (fun hHeld => ?_)
    refine takeH 0 8 (.pointer (some ⟨g1, 0, none⟩)) hHeld rfl rfl (by kernel_rfl) (by kernel_rfl) (by kernel_rfl) (fun _ _ _ h => h) (Or.inl ⟨by rfl, fun w _ => by go_simp⟩) ?_
    simp only [Act.put, List.setIfInBounds_toArray, List.set_cons_zero, List.set_cons_succ]
    refine takeH 1 9 (.int .i64 (h : Int)) hHeld rfl rfl (by kernel_rfl) (by kernel_rfl) (by kernel_rfl) (fun _ _ _ h => h) (Or.inl ⟨by rfl, fun w hw => by have hw' : w.cell? ⟨g1, 0, none⟩ = some (.int .i64 (h : Int)) := A0.out _ hw; go_simp⟩) ?_
    simp only [Act.put, List.setIfInBounds_toArray, List.set_cons_zero, List.set_cons_succ]
    refine takeH 5 13 (.pointer (some ⟨g1, 1, none⟩)) hHeld rfl rfl (by kernel_rfl) (by kernel_rfl) (by kernel_rfl) (fun _ _ _ h => h) (Or.inl ⟨by rfl, fun w _ => by go_simp⟩) ?_
    simp only [Act.put, List.setIfInBounds_toArray, List.set_cons_zero, List.set_cons_succ]
    refine takeH 6 14 (.int .i64 (l : Int)) hHeld rfl rfl (by kernel_rfl) (by kernel_rfl) (by kernel_rfl) (fun _ _ _ h => h) (Or.inl ⟨by rfl, fun w hw => by have hw' : w.cell? ⟨g1, 1, none⟩ = some (.int .i64 (l : Int)) := A1.out _ hw; go_simp⟩) ?_
    simp only [Act.put, List.setIfInBounds_toArray, List.set_cons_zero, List.set_cons_succ]
    refine takeH 10 18 (.pointer (some ⟨g1, 2, none⟩)) hHeld rfl rfl (by kernel_rfl) (by kernel_rfl) (by kernel_rfl) (fun _ _ _ h => h) (Or.inl ⟨by rfl, fun w _ => by go_simp⟩) ?_
    simp only [Act.put, List.setIfInBounds_toArray, List.set_cons_zero, List.set_cons_succ]
    refine takeH 11 19 (.int .i64 (i : Int)) hHeld rfl rfl (by kernel_rfl) (by kernel_rfl) (by kernel_rfl) (fun _ _ _ h => h) (Or.inl ⟨by rfl, fun w hw => by have hw' : w.cell? ⟨g1, 2, none⟩ = some (.int .i64 (i : Int)) := A2.out _ hw; go_simp⟩) ?_
    simp only [Act.put, List.setIfInBounds_toArray, List.set_cons_zero, List.set_cons_succ]
    refine wpAnyH_ready (rs := [2]) (by kernel_rfl) (by simp) (AllReadyH.cons rfl (fun K hK => ?_) AllReadyH.nil)
    rw [if_pos (by rfl)]
    go_simp
    refine (HIh.out _).mono ?_
    rintro r va ⟨rfl, hva⟩
    have Y1 := hide (on_below Y0.out hva)
    refine hK.out _ _ Y1.out (fun hHeld => ?_)
    clear hK K
    try simp only [Act.put, List.setIfInBounds_toArray, List.set_cons_zero, List.set_cons_succ]
    refine takeH 3 11 (.string (bA s1)) hHeld rfl rfl (by kernel_rfl) (by kernel_rfl) (by kernel_rfl) (fun _ _ _ h => h) (Or.inl ⟨by rfl, fun w _ => runS (p := tileB) (q := dh) rfl rfl Z1.out⟩) ?_
    simp only [Act.put, List.setIfInBounds_toArray, List.set_cons_zero, List.set_cons_succ]
    refine takeH 4 12 (.string (bA s2)) hHeld rfl rfl (by kernel_rfl) (by kernel_rfl) (by kernel_rfl) (fun _ _ _ h => h) (Or.inl ⟨by rfl, fun w _ => runS (p := s1) (q := [47]) rfl rfl Z2.out⟩) ?_
    simp only [Act.put, List.setIfInBounds_toArray, List.set_cons_zero, List.set_cons_succ]
    refine wpAnyH_ready (rs := [7]) (by kernel_rfl) (by simp) (AllReadyH.cons rfl (fun K hK => ?_) AllReadyH.nil)
    rw [if_pos (by rfl)]
    go_simp
    refine (HIl.out _).mono ?_
    rintro r vb ⟨rfl, hvb⟩
    have Y2 := hide (on_below Y1.out hvb)
    refine hK.out _ _ Y2.out (fun hHeld => ?_)
    clear hK K
    try simp only [Act.put, List.setIfInBounds_toArray, List.set_cons_zero, List.set_cons_succ]
    refine takeH 8 16 (.string (bA s3)) hHeld rfl rfl (by kernel_rfl) (by kernel_rfl) (by kernel_rfl) (fun _ _ _ h => h) (Or.inl ⟨by rfl, fun w _ => runS (p := s2) (q := dl) rfl rfl Z3.out⟩) ?_
    simp only [Act.put, List.setIfInBounds_toArray, List.set_cons_zero, List.set_cons_succ]
    refine takeH 9 17 (.string (bA s4)) hHeld rfl rfl (by kernel_rfl) (by kernel_rfl) (by kernel_rfl) (fun _ _ _ h => h) (Or.inl ⟨by rfl, fun w _ => runS (p := s3) (q := [47]) rfl rfl Z4.out⟩) ?_
    simp only [Act.put, List.setIfInBounds_toArray, List.set_cons_zero, List.set_cons_succ]
    refine wpAnyH_ready (rs := [12]) (by kernel_rfl) (by simp) (AllReadyH.cons rfl (fun K hK => ?_) AllReadyH.nil)
    rw [if_pos (by rfl)]
    go_simp
    refine (HIx.out _).mono ?_
    rintro r vc ⟨rfl, hvc⟩
    have Y3 := hide (on_below Y2.out hvc)
    refine hK.out _ _ Y3.out (fun hHeld => ?_)
    clear hK K
    try simp only [Act.put, List.setIfInBounds_toArray, List.set_cons_zero, List.set_cons_succ]
    refine takeH 13 21 (.string (bA s5)) hHeld rfl rfl (by kernel_rfl) (by kernel_rfl) (by kernel_rfl) (fun _ _ _ h => h) (Or.inl ⟨by rfl, fun w _ => runS (p := s4) (q := di) rfl rfl Z5.out⟩) ?_
    simp only [Act.put, List.setIfInBounds_toArray, List.set_cons_zero, List.set_cons_succ]
    refine takeH 14 4 (.string (bA s5)) hHeld rfl rfl (by kernel_rfl) (by kernel_rfl) (by kernel_rfl) (fun _ _ _ h => h) (Or.inl ⟨by rfl, fun w _ => by go_simp⟩) ?_
    simp only [Act.put, List.setIfInBounds_toArray, List.set_cons_zero, List.set_cons_succ]
    refine wpAnyH_done (by kernel_rfl) ?_ _
    refine NoPanic.normal ?_
    exact hjoin vc Y3
  · rintro W Y3
    have GW := hide (HG2.out.on Y3.out)
    have BW := hide (on_below HB2.out Y3.out)
    obtain ⟨c0, c1, c2, c3⟩ := GW.out.four
    clear A0 A1 A2 Y0 Y3 HG2 HB2 HIh HIl HIx Z1 Z2 Z3 Z4 Z5
    have e2 := HPI.out
    have e1 := HPW.out
    by_cases hlt : n < P
    · have hlt' : (n : Int) < (P : Int) := by omega
      have E : PU = s7 := by rw [HPU.out, if_pos hlt]
      subst E
      go_wp2_with fail
      go_quiet (first | (go_at_call 21; exact Calls.quiet_of_same (HFU.out _)))
      clear e1 e2
      go_wp2_with (refine step_addR (p := s5) (q := markB) rfl rfl rfl Z6.out ?_)
      refine (HIn.out _).mono ?_
      rintro r wn ⟨rfl, hbn⟩
      have BN := hide (on_below (below_drews BW.out nq) hbn)
      clear hbn
      go_wp2_with (refine step_addR (p := s6) (q := dn) rfl rfl rfl Z7.out ?_)
      go_ret2
      exact ⟨rfl, BN.out⟩
    · have hlt' : ¬ (n : Int) < (P : Int) := by omega
      have E : PU = s5 := by rw [HPU.out, if_neg hlt]
      subst E
      go_wp2_with fail
      go_quiet (first | (go_at_call 21; exact Calls.quiet_of_same (HFU.out _)))
      clear e1 e2
      go_wp2
      go_ret2
      exact ⟨rfl, below_drews BW.out _⟩
/-- What the document's Path tells of any tile. -/
theorem pathR_any (h l i n : Int) : ∃ (p : List UInt8) (e : Int), ((e = 0 ∧ tOK h l i n ∧ p = pathI h l i n) ∨ (e = 2 ∧ ¬ tOK h l i n ∧ p = [])) ∧
    ∀ w : World, Calls Tryd.prog 20 #[.agg (c4 h l i n).toArray] w fun r w' => r = .returned (.tuple #[.string (bA p), .int .i64 e]) ∧ Below w.heap.size w w' := by
  by_cases k : tOK h l i n
  · obtain ⟨H, L, I, N, rfl, rfl, rfl, rfl, hH, h1, h2, h3, h4⟩ := k.nats
    refine ⟨_, 0, .inl ⟨rfl, k, rfl⟩, fun w => ?_⟩
    have := pathR_ok H L I N w hH h1 h2 h3 h4 k
    unfold pathI
    simp only [Int.toNat_natCast]
    exact this
  · exact ⟨_, 2, .inr ⟨rfl, k, rfl⟩, fun w => pathR_no h l i n w k⟩
end Go.Proofs.YtlgcjdgcgnlcaaaDoor
