/-
  Raw: a raw write told.
-/
import Derived.Test.YtlgcjdgcgnlcaaaDoorKra
namespace Go.Proofs.YtlgcjdgcgnlcaaaDoor
open Go.RowKit
set_option linter.unusedVariables false

/-- Which entry a raw write is of. -/
theorem RecOk.find {s : Nat} (hs : 1 ≤ s) {es : List En} (h : RecOk s es) {i : Nat} (hi : i < (recs s es).length) {b : Nat} (hb : b ≤ es.length) (h1 : ∀ (j : Nat) e, es[j]? = some e → j < b → e.first ≤ i) (h2 : ∀ (j : Nat) e, es[j]? = some e → j = b → i < e.first) :
    1 ≤ b ∧ ∃ e, es[b - 1]? = some e ∧ e.first ≤ i ∧ i - e.first < cnt s e ∧ (recs s es)[i]? = some (pieces s e (i - e.first) (i - e.first + 1)) ∧ (e.r.b = [] ∨ edge s e (i - e.first) < edge s e (i - e.first + 1)) := by
  have h0 : 0 < es.length := by
    cases es with
    | nil => simp [recs] at hi
    | cons _ _ => simp
  obtain ⟨e0, he0⟩ : ∃ e, es[0]? = some e := ⟨_, List.getElem?_eq_getElem h0⟩
  have hf0 : e0.first = 0 := by rw [(h 0 e0 he0).1]; simp [recs]
  have hb1 : 1 ≤ b := by
    rcases Nat.eq_zero_or_pos b with hz | hz
    · have := h2 0 e0 he0 hz.symm
      omega
    · exact hz
  obtain ⟨e, he⟩ : ∃ e, es[b - 1]? = some e := ⟨_, List.getElem?_eq_getElem (by omega)⟩
  have hle := h1 (b - 1) e he (by omega)
  have hlt : i < e.first + cnt s e := by
    by_cases hbl : b < es.length
    · obtain ⟨x, hx⟩ : ∃ x, es[b]? = some x := ⟨_, List.getElem?_eq_getElem hbl⟩
      have h3 := h2 b x hx rfl
      have h4 := h.next he (x := x) (by rw [Nat.sub_add_cancel hb1]; exact hx)
      omega
    · have h4 := h.last he (by omega)
      omega
  refine ⟨hb1, e, he, hle, by omega, h.at hs he hle hlt, ?_⟩
  by_cases hb0 : e.r.b = []
  · exact .inl hb0
  · right
    have hk : e.r.k = 2 := by
      by_cases hk : e.r.k = 2
      · exact hk
      · exact absurd ((h _ e he).2.2.b0 hk) hb0
    have hc : cnt s e = cntN s e.had e.r.b.length := by simp [cnt, hk]
    exact edge_step hs (List.length_pos_iff.2 hb0) (by omega)

theorem wrapB {q : Nat} (h : q ≤ 366503600001) : (q : Int) ≤ 4611686018427387904 := by omega
theorem Own.mono2 {w : World} {B B' : Nat} {v : Value} {xs : List Int} (h : Own w B v xs) (hb : B' ≤ B) : Own w B' v xs := by
  obtain ⟨h1, h2⟩ := h
  refine ⟨h1, ?_⟩
  rcases h2 with h2 | ⟨g, cap, cur, rfl, hg, r⟩
  · exact .inl h2
  · exact .inr ⟨g, cap, cur, rfl, Nat.le_trans hb hg, r⟩
set_option maxRecDepth 100000 in
set_option maxHeartbeats 1000000 in
theorem raw_any (d s : Nat) (rs : List Rw) (D : Dm) (i : Nat) (w : World) (h : DkAt w d s rs D) (r : Rw) (hi : rs[i]? = some r) (hwt : wt rs ≤ 366503600000) :
    Calls Tryd.prog 16 #[.pointer (some ⟨d, 0, none⟩), .int .i64 (i : Int)] w fun e w' => ∃ v, e = .returned (.tuple #[.agg (rwC r.k r.n v r.s r.t).toArray, .int .i64 0]) ∧ Own w' w.heap.size v r.b ∧ Below w.heap.size w w' := by
  have hlt : i < rs.length := (List.getElem?_eq_some_iff.1 hi).1
  have hrl : rs.length ≤ 366503600000 := Nat.le_trans (len_wt rs) hwt
  have hi1 : ¬ (i : Int) < 0 := by omega
  have hi2 : ¬ (rs.length : Int) ≤ (i : Int) := by omega
  obtain ⟨ar, cr, hre⟩ := row_slice h.row
  have HRE := hide hre
  have HI := hide hi
  have HW := hide hwt
  have hes : D.es.length ≤ 366503600000 := Nat.le_trans h.few2 hrl
  clear hi hwt hre
  have HH := hide h
  clear h
  go_enter Tryd.func16, Tryd.ntmps16
  go_wp2_with (refine step_box1 (v := .pointer (some ⟨d, 0, none⟩)) rfl rfl rfl ?_)
  intro w1 b2 hb2 hl2 be1
  go_wp2_with (refine step_box1 (v := .int .i64 (i : Int)) rfl rfl rfl ?_)
  intro w2 b3 hb3 hl3 be2
  go_wp2_with (refine step_alloc zRw rfl ?_)
  intro w3 g4 hg4 hl4 be3
  have be12 := be1.trans (be2.mono be1.size)
  have S3 : Hid (RaS w w3 d s rs D i b2 b3 g4) := hide ⟨HH.out.below (be12.trans (be3.mono be12.size)), (hb2.on be2).on be3, hb3.on be3, hg4, by have := be12.size; omega, be12.trans (be3.mono be12.size)⟩
  clear hb2 hl2 be1 hb3 hl3 be2 hg4 hl4 be3 be12
  obtain ⟨k1, k2, k3, k4, hp⟩ := S3.out.c2
  go_wp2_with (go_at_call 30; refine (made_ok _ _ _ k3 hp).mono ?_; rintro e w3 ⟨rfl, rfl⟩)
  go_quiet (fail)
  have S4 := hide (S3.out.on (below_drewN (Below.refl _ _) nq))
  revert S4
  generalize w3.drewN nq = w4
  intro S4
  clear k1 k2 k3 k4 S3
  obtain ⟨k1, k2, k3, k4, hp⟩ := S4.out.c2
  have k5 : w4.cell? ⟨d, 2, none⟩ = some (.slice ar D.es.length cr) := by rw [S4.out.dk.blk.cell, ← HRE.out]; rfl
  clear k2 k3 k4
  go_wp2_with fail
  have hPM : ∀ a b, a ≤ b → b < D.es.length → (match D.es[a]? with | some x => decide ((i : Int) < (x.1.first : Int)) | none => false) = true → (match D.es[b]? with | some x => decide ((i : Int) < (x.1.first : Int)) | none => false) = true := by
    intro a b hab hb hpa
    obtain ⟨x, hx⟩ : ∃ x, D.es[a]? = some x := ⟨_, List.getElem?_eq_getElem (by omega)⟩
    obtain ⟨y, hy⟩ : ∃ y, D.es[b]? = some y := ⟨_, List.getElem?_eq_getElem hb⟩
    rw [hx] at hpa
    rw [hy]
    have h1 := of_decide_eq_true hpa
    have h2 := S4.out.dk.rok.rising S4.out.dk.s1 (i := a) (j := b) (e := x.1) (x := y.1) (by rw [List.getElem?_map, hx]; rfl) (by rw [List.getElem?_map, hy]; rfl) hab
    exact decide_eq_true (by omega)
  refine (search_any D.es.length 34 #[.pointer (some ⟨b2, 0, none⟩), .pointer (some ⟨b3, 0, none⟩)] (fun a => match D.es[a]? with | some x => decide ((i : Int) < (x.1.first : Int)) | none => false) _ hes (enters_of Tryd.func34 (by kernel_rfl) rfl) (fun k W hk hW => ?_) hPM).mono ?_
  · obtain ⟨x, hx⟩ : ∃ x, D.es[k]? = some x := ⟨_, List.getElem?_eq_getElem hk⟩
    simp only [hx]
    have SW := S4.out.on hW
    exact later_any d s rs D i W b2 b3 k x SW.dk SW.c2.1 SW.c2.2.1 hx
  rintro e w5 ⟨bh, rfl, hbh, hbf, hbt, hb5⟩
  have S5 := hide (S4.out.on hb5)
  obtain ⟨hb1, e, he, hle, hcn, hrs, hedge⟩ := S5.out.dk.rok.find S5.out.dk.s1 (i := i) (b := bh) (by rw [S5.out.dk.raw]; exact hlt) (by simpa using hbh) (fun j e hj hjb => by
    rw [List.getElem?_map] at hj
    obtain ⟨x, hx, rfl⟩ := Option.map_eq_some_iff.1 hj
    have := hbf j hjb
    simp only [hx] at this
    have := of_decide_eq_false this
    omega) (fun j e hj hjb => by
    rw [List.getElem?_map] at hj
    obtain ⟨x, hx, rfl⟩ := Option.map_eq_some_iff.1 hj
    subst hjb
    have := hbt (List.getElem?_eq_some_iff.1 hx).1
    simp only [hx] at this
    have := of_decide_eq_true this
    omega)
  rw [S5.out.dk.raw, HI.out] at hrs
  have hr := Option.some.inj hrs
  rw [List.getElem?_map] at he
  obtain ⟨x, hx, hxe⟩ := Option.map_eq_some_iff.1 he
  obtain ⟨e', v⟩ := x
  simp only at hxe
  subst hxe
  have hxe : (D.es.map (·.1))[bh - 1]? = some e' := by rw [List.getElem?_map, hx]; rfl
  obtain ⟨hlen1, hlen2, hlen3⟩ := S5.out.dk.rok.len S5.out.dk.s1 hxe
  rw [S5.out.dk.raw] at hlen1 hlen2 hlen3
  obtain ⟨gr, cap, cs, hrv, hgr, hat⟩ := S5.out.dk.recAt (by omega)
  rw [HRE.out] at hrv
  injection hrv with hr1 _ hr3
  subst hr1 hr3
  have hat2 := hat (bh - 1) _ hx
  have hbv := S5.out.dk.byt _ (List.mem_of_getElem? hx)
  obtain ⟨av0, cv0, hve, _⟩ := hbv.sl
  simp only at hve hbv hat2
  subst hve
  have hix := en_at gr D.es.length cr (bh - 1) (by omega)
  have GR := hide hgr
  have HAT := hide hat2
  have HBV := hide hbv
  have HLE : Hid (e'.r.b.length ≤ 366503600000 ∧ e'.had ≤ 366503600000 ∧ e'.first ≤ i ∧ i - e'.first < cnt s e') := hide ⟨by have := HW.out; omega, by have := HW.out; omega, hle, hcn⟩
  have HED := hide hedge
  have HR := hide hr
  obtain ⟨bq, hbq⟩ : ∃ bq : Nat, bq = bh - 1 := ⟨_, rfl⟩
  obtain ⟨q, hq⟩ : ∃ q : Nat, q = i - e'.first := ⟨_, rfl⟩
  rw [← hbq] at hix HAT
  rw [← hq] at HR HED HLE
  have HQB : Hid (q ≤ 366503600000) := hide (by omega)
  have hbq2 : (bh : Int) - 1 = (bq : Int) := by omega
  have hq2 : (i : Int) - (e'.first : Int) = (q : Int) := by omega
  have hbqb : bq ≤ 366503600000 := by omega
  have hqb : q ≤ 366503600000 := by omega
  have m1 : IntKind.i64.wrap ((bh : Int) - 1) = (bq : Int) ∧ wrap64 ((bh : Int) - 1) = (bq : Int) := by rw [hbq2]; exact wrapN _ (Int.natCast_nonneg _) (wrapB (Nat.le_succ_of_le hbqb))
  have m3 : IntKind.i64.wrap ((i : Int) - (e'.first : Int)) = (q : Int) ∧ wrap64 ((i : Int) - (e'.first : Int)) = (q : Int) := by rw [hq2]; exact wrapN _ (Int.natCast_nonneg _) (wrapB (Nat.le_succ_of_le hqb))
  have m5 : IntKind.i64.wrap ((q : Int) + 1) = ((q + 1 : Nat) : Int) ∧ wrap64 ((q : Int) + 1) = ((q + 1 : Nat) : Int) := wrapN _ (Int.natCast_nonneg (q + 1)) (wrapB (Nat.succ_le_succ hqb))
  have M3 := hide m3
  have M5 := hide m5
  obtain ⟨m1a, m1b⟩ := m1
  obtain ⟨k1, k2, k3, k4, hp⟩ := S5.out.c2
  have k5 : w5.cell? ⟨d, 2, none⟩ = some (.slice (some ⟨gr, 0, none⟩) D.es.length cr) := by rw [S5.out.dk.blk.cell, ← HRE.out]; rfl
  clear hat hat2 hgr hbv hx he hxe hlen1 hlen2 hlen3 hbf hbt hPM hb5 hedge hle hcn S4 HI HRE hr hrs hbq hq m3 m5 hbq2 hq2 k2 k3 k4 hlt hi1 hi2
  go_wp2_with (first | (refine step_load wEn rfl rfl GR.out (enC e' (.slice av0 e'.r.b.length cv0)) rfl HAT.out ?_) | (refine step_alloc zEn rfl ?_))
  intro w5b g7 hg7 hle7 hb5b
  go_wp2_with (refine step_storeA wEn rfl rfl rfl hg7 rfl (One.en _ _ _ _) rfl ?_)
  intro w6 hg7' hbut6
  have hb6 : Below w5.heap.size w5 w6 := hb5b.trans (hbut6.below hle7)
  have S6 := hide (S5.out.on hb6)
  have G7 := hide hg7'
  have BV6 := hide (HBV.out.below hb6)
  clear hg7 hg7' hbut6 hb5b hix GR hle7 hb6 S5 k1 k5 m1a m1b HBV HAT
  go_wp2_with fail
  have HIE : Hid ((Tryd.prog.info? 77).map (·.size) = some (enC e' (.slice av0 e'.r.b.length cv0)).length) := hide (by rw [wEn.size]; rfl)
  have HRG : Hid (∀ z : World, Below w6.heap.size w6 z → z.rangeAt g7 0 (enC e' (.slice av0 e'.r.b.length cv0))) := hide (fun z hz => (G7.out.on hz).range 0 _ (by simp))
  have HC5 : Hid (∀ z : World, Below w6.heap.size w6 z → z.cell? ⟨g7, 5, none⟩ = some (.int .i64 (e'.first : Int))) := hide (fun z hz => by rw [(G7.out.on hz).cell]; rfl)
  have HCI : Hid (∀ z : World, Below w6.heap.size w6 z → z.cell? ⟨b3, 0, none⟩ = some (.int .i64 (i : Int))) := hide (fun z hz => (S6.out.on hz).c2.2.1)
  have HCD : Hid (∀ z : World, Below w6.heap.size w6 z → z.cell? ⟨b2, 0, none⟩ = some (.pointer (some ⟨d, 0, none⟩))) := hide (fun z hz => (S6.out.on hz).c2.1)
  have HCS : Hid (∀ z : World, Below w6.heap.size w6 z → z.cell? ⟨d, 0, none⟩ = some (.int .i64 (s : Int))) := hide (fun z hz => (S6.out.on hz).c2.2.2.1)
  refine wp_region_noPanic ?_
  refine wp_region_U (q := 16) (S := fun z : World => Below w6.heap.size w6 z) (by kernel_rfl) ?_
  have Z0 := hide ((Below.refl w6.heap.size w6).drew)
  have hHeld := Z0.out
  have m3a := M3.out.1
  have m5a := M5.out.1
  have m3b := M3.out.2
  have m5b := M5.out.2
  refine takeU 16 0 39 (.agg (enC e' (.slice av0 e'.r.b.length cv0)).toArray) hHeld rfl rfl (by kernel_rfl) (by kernel_rfl) (by kernel_rfl) (by kernel_rfl) (by kernel_rfl) (by kernel_rfl) (fun _ _ _ h => h) (yieldsIf_load_mid (by rfl) _ _ rfl g7 0 rfl _ _ (fun w h => HRG.out w h) Tryd.underlying77 rfl HIE.out) ?_
  simp only [Act.put, List.setIfInBounds_toArray, List.set_cons_zero, List.set_cons_succ]
  refine takeU 16 1 40 (.int .i64 (i : Int)) hHeld rfl rfl (by kernel_rfl) (by kernel_rfl) (by kernel_rfl) (by kernel_rfl) (by kernel_rfl) (by kernel_rfl) (fun _ _ _ h => h) (Or.inl ⟨by rfl, fun w hw => by have hw' : w.cell? ⟨b3, 0, none⟩ = some (.int .i64 (i : Int)) := (fun hw => HCI.out _ hw) hw; go_simp⟩) ?_
  simp only [Act.put, List.setIfInBounds_toArray, List.set_cons_zero, List.set_cons_succ]
  refine takeU 16 2 41 (.pointer (some ⟨g7, 5, none⟩)) hHeld rfl rfl (by kernel_rfl) (by kernel_rfl) (by kernel_rfl) (by kernel_rfl) (by kernel_rfl) (by kernel_rfl) (fun _ _ _ h => h) (Or.inl ⟨by rfl, fun w _ => by go_simp⟩) ?_
  simp only [Act.put, List.setIfInBounds_toArray, List.set_cons_zero, List.set_cons_succ]
  refine takeU 16 3 42 (.int .i64 (e'.first : Int)) hHeld rfl rfl (by kernel_rfl) (by kernel_rfl) (by kernel_rfl) (by kernel_rfl) (by kernel_rfl) (by kernel_rfl) (fun _ _ _ h => h) (Or.inl ⟨by rfl, fun w hw => by have hw' : w.cell? ⟨g7, 5, none⟩ = some (.int .i64 (e'.first : Int)) := (fun hw => HC5.out _ hw) hw; go_simp⟩) ?_
  simp only [Act.put, List.setIfInBounds_toArray, List.set_cons_zero, List.set_cons_succ]
  refine takeU 16 4 43 (.int .i64 (q : Int)) hHeld rfl rfl (by kernel_rfl) (by kernel_rfl) (by kernel_rfl) (by kernel_rfl) (by kernel_rfl) (by kernel_rfl) (fun _ _ _ h => h) (Or.inl ⟨by rfl, fun w _ => by go_simp⟩) ?_
  simp only [Act.put, List.setIfInBounds_toArray, List.set_cons_zero, List.set_cons_succ]
  refine takeU 16 5 44 (.int .i64 (i : Int)) hHeld rfl rfl (by kernel_rfl) (by kernel_rfl) (by kernel_rfl) (by kernel_rfl) (by kernel_rfl) (by kernel_rfl) (fun _ _ _ h => h) (Or.inl ⟨by rfl, fun w hw => by have hw' : w.cell? ⟨b3, 0, none⟩ = some (.int .i64 (i : Int)) := (fun hw => HCI.out _ hw) hw; go_simp⟩) ?_
  simp only [Act.put, List.setIfInBounds_toArray, List.set_cons_zero, List.set_cons_succ]
  refine takeU 16 6 45 (.pointer (some ⟨g7, 5, none⟩)) hHeld rfl rfl (by kernel_rfl) (by kernel_rfl) (by kernel_rfl) (by kernel_rfl) (by kernel_rfl) (by kernel_rfl) (fun _ _ _ h => h) (Or.inl ⟨by rfl, fun w _ => by go_simp⟩) ?_
  simp only [Act.put, List.setIfInBounds_toArray, List.set_cons_zero, List.set_cons_succ]
  refine takeU 16 7 46 (.int .i64 (e'.first : Int)) hHeld rfl rfl (by kernel_rfl) (by kernel_rfl) (by kernel_rfl) (by kernel_rfl) (by kernel_rfl) (by kernel_rfl) (fun _ _ _ h => h) (Or.inl ⟨by rfl, fun w hw => by have hw' : w.cell? ⟨g7, 5, none⟩ = some (.int .i64 (e'.first : Int)) := (fun hw => HC5.out _ hw) hw; go_simp⟩) ?_
  simp only [Act.put, List.setIfInBounds_toArray, List.set_cons_zero, List.set_cons_succ]
  refine takeU 16 8 47 (.int .i64 (q : Int)) hHeld rfl rfl (by kernel_rfl) (by kernel_rfl) (by kernel_rfl) (by kernel_rfl) (by kernel_rfl) (by kernel_rfl) (fun _ _ _ h => h) (Or.inl ⟨by rfl, fun w _ => by go_simp⟩) ?_
  simp only [Act.put, List.setIfInBounds_toArray, List.set_cons_zero, List.set_cons_succ]
  refine takeU 16 9 48 (.int .i64 ((q + 1 : Nat) : Int)) hHeld rfl rfl (by kernel_rfl) (by kernel_rfl) (by kernel_rfl) (by kernel_rfl) (by kernel_rfl) (by kernel_rfl) (fun _ _ _ h => h) (Or.inl ⟨by rfl, fun w _ => by go_simp⟩) ?_
  simp only [Act.put, List.setIfInBounds_toArray, List.set_cons_zero, List.set_cons_succ]
  refine takeU 16 10 49 (.pointer (some ⟨d, 0, none⟩)) hHeld rfl rfl (by kernel_rfl) (by kernel_rfl) (by kernel_rfl) (by kernel_rfl) (by kernel_rfl) (by kernel_rfl) (fun _ _ _ h => h) (Or.inl ⟨by rfl, fun w hw => by have hw' : w.cell? ⟨b2, 0, none⟩ = some (.pointer (some ⟨d, 0, none⟩)) := (fun hw => HCD.out _ hw) hw; go_simp⟩) ?_
  simp only [Act.put, List.setIfInBounds_toArray, List.set_cons_zero, List.set_cons_succ]
  refine takeU 16 11 50 (.pointer (some ⟨d, 0, none⟩)) hHeld rfl rfl (by kernel_rfl) (by kernel_rfl) (by kernel_rfl) (by kernel_rfl) (by kernel_rfl) (by kernel_rfl) (fun _ _ _ h => h) (Or.inl ⟨by rfl, fun w _ => by go_simp⟩) ?_
  simp only [Act.put, List.setIfInBounds_toArray, List.set_cons_zero, List.set_cons_succ]
  refine takeU 16 12 51 (.pointer (some ⟨d, 0, none⟩)) hHeld rfl rfl (by kernel_rfl) (by kernel_rfl) (by kernel_rfl) (by kernel_rfl) (by kernel_rfl) (by kernel_rfl) (fun _ _ _ h => h) (Or.inl ⟨by rfl, fun w _ => by go_simp⟩) ?_
  simp only [Act.put, List.setIfInBounds_toArray, List.set_cons_zero, List.set_cons_succ]
  refine takeU 16 13 52 (.int .i64 (s : Int)) hHeld rfl rfl (by kernel_rfl) (by kernel_rfl) (by kernel_rfl) (by kernel_rfl) (by kernel_rfl) (by kernel_rfl) (fun _ _ _ h => h) (Or.inl ⟨by rfl, fun w hw => by have hw' : w.cell? ⟨d, 0, none⟩ = some (.int .i64 (s : Int)) := (fun hw => HCS.out _ hw) hw; go_simp⟩) ?_
  simp only [Act.put, List.setIfInBounds_toArray, List.set_cons_zero, List.set_cons_succ]
  clear m3a m5a m3b m5b
  refine wpAnyU_ready (rs := [14, 15]) (by kernel_rfl) (by simp) (AllReadyU.cons rfl (fun K hK => ?_) (AllReadyU.cons rfl (fun K hK => ?_) AllReadyU.nil))
  · rw [if_pos (by rfl)]
    go_simp
    refine (pieces_any e' (.slice av0 e'.r.b.length cv0) s q (q + 1) _ S6.out.dk.s1 S6.out.dk.s2 (BV6.out.below Z0.out) (by have := HLE.out; omega) (by have := HLE.out; omega) (by omega) (by have := HQB.out; omega) HED.out).mono ?_
    rintro ret wa ⟨va, rfl, hbva, _, hba⟩
    rw [← HR.out] at hbva
    obtain ⟨av, cv, rfl, _⟩ := hbva.sl
    have Za := hide (Z0.out.trans (hba.mono Z0.out.size))
    refine hK.out _ _ (fun _ => Za.out) ?_
    have hHeld := Za.out
    clear hK K
    have BVA := hide hbva
    clear hba hbva
    refine wpAnyU_ready (rs := [15]) (by kernel_rfl) (by simp) (AllReadyU.cons rfl (fun K hK => ?_) AllReadyU.nil)
    rw [if_pos (by rfl)]
    refine wp_allocG zRw ?_
    intro wb g8 hg8 hle8 hbb
    have Zb := hide (Za.out.trans (hbb.mono Za.out.size))
    have G8 := hide hg8
    have L8 : Hid (w6.heap.size ≤ g8) := hide (Nat.le_trans Za.out.size hle8)
    have BVX := hide (BVA.out.below hbb)
    refine hK.out _ _ (fun _ => Zb.out) ?_
    have hHeld := Zb.out
    clear hK K
    clear hg8 hle8 hbb
    simp only [Act.put]
    refine wpAnyU_ready (rs := [16]) (by kernel_rfl) (by simp) (AllReadyU.cons rfl (fun K hK => ?_) AllReadyU.nil)
    rw [if_pos (by rfl)]
    refine wp_storeW wRw rfl rfl rfl G8.out rfl (One.rw _ _ _ _ _ _ _) (by decide) ?_
    intro w7 hg8 hbut7
    refine hK.out _ _ (fun h => absurd h (by decide)) ?_
    clear hK K
    simp only [Act.put]
    refine wpAnyU_done (by kernel_rfl) ?_ _
    refine NoPanic.normal ?_
    have hg8' : Blk w7 g8 50 (rwC e'.r.k e'.r.n (.slice av r.b.length cv) e'.r.s e'.r.t) := hg8
    have Z7 := hide (Zb.out.trans (hbut7.below L8.out))
    have BV7 : Hid (BV w7 (.slice av r.b.length cv) r.b) := hide (BVX.out.same (fun k hk => by
      obtain ⟨cs, hc⟩ := BVX.out.lies hk
      exact hbut7.block k (hc.apart G8.out (by decide))))
    have S7 := hide (S6.out.on Z7.out)
    have G8L := hide hg8'.lt
    have L48 : Hid (g4 ≠ g8) := hide (by have h1 := S6.out.f4.lt; have h2 := L8.out; omega)
    clear hbut7 hg8 hHeld
    obtain ⟨a9, c9, hve9, hvs9⟩ := BV7.out.sl
    injection hve9 with q1 q2 q3
    subst q1 q3
    have HVS := hide hvs9
    clear hvs9
    have c82 : w7.cell? ⟨g8, 2, none⟩ = some (.slice av r.b.length cv) := by rw [hg8'.cell]; rfl
    go_wp2_with fail
    refine (clone_any _ _ _ _ _ HVS.out).mono ?_
    rintro e2 w8 ⟨v8, rfl, ho8, hb8⟩
    obtain ⟨a8, c8, rfl⟩ := ho8.slice
    have hg88 := hg8'.on hb8
    have k1 : w8.cell? ⟨g8, 2, none⟩ = some (.slice av r.b.length cv) := by rw [hg88.cell]; rfl
    have k2 : w8.frozen? ⟨g8, 2, none⟩ = false := hg88.free 2
    have HO8 := hide ho8
    have HB8 := hide hb8
    have G88 := hide hg88
    clear ho8 hb8 c82 hg8' hg88
    go_wp2_with (first | (refine step_loadA wRw rfl rfl ((G88.out).set 2 _) rfl ?_) | (refine step_storeA wRw rfl rfl rfl (((S7.out.on HB8.out).f4).but (But.setCell _ _ _ _) (L48.out)) rfl (One.rw _ _ _ _ _ _ _) rfl ?_; intro w9 hg9 hbut9))
    refine bodyPost_ret (results_wide2 rfl wRw _ _ rfl hg9 rfl) rfl ?_
    have hs4 := (S7.out.on HB8.out).new
    have hl8 : w.heap.size ≤ g8 := Nat.le_trans S6.out.bel.size L8.out
    have hbel := ((S7.out.on HB8.out).bel.trans ((But.setCell w8 g8 2 (.slice a8 r.b.length c8)).below hl8)).trans (hbut9.below hs4)
    have hsz : w.heap.size ≤ w7.heap.size := S7.out.bel.size
    refine ⟨.slice a8 r.b.length c8, ?_, ?_, hbel⟩
    · rw [HR.out]
      rfl
    · refine (Own.same (HO8.out) (fun k hk => ?_)).mono2 hsz
      have hk7 := HO8.out.lt k hk
      rw [hbut9.block k (fun e4 => by have := S7.out.f4.lt; omega)]
      exact (But.setCell w8 g8 2 _).block k (fun e4 => by have := G8L.out; omega)
  · rw [if_pos (by rfl)]
    refine wp_allocG zRw ?_
    intro wa g8 hg8 hle8 hba
    have Za := hide (Z0.out.trans (hba.mono Z0.out.size))
    have L8 : Hid (w6.heap.size ≤ g8) := hide (Nat.le_trans Z0.out.size hle8)
    refine hK.out _ _ (fun _ => Za.out) ?_
    have hHeld := Za.out
    clear hK K
    have G8a := hide hg8
    clear hg8 hle8 hba
    simp only [Act.put]
    refine wpAnyU_ready (rs := [14]) (by kernel_rfl) (by simp) (AllReadyU.cons rfl (fun K hK => ?_) AllReadyU.nil)
    rw [if_pos (by rfl)]
    go_simp
    refine (pieces_any e' (.slice av0 e'.r.b.length cv0) s q (q + 1) _ S6.out.dk.s1 S6.out.dk.s2 (BV6.out.below Za.out) (by have := HLE.out; omega) (by have := HLE.out; omega) (by omega) (by have := HQB.out; omega) HED.out).mono ?_
    rintro ret wb ⟨va, rfl, hbva, _, hbb⟩
    rw [← HR.out] at hbva
    obtain ⟨av, cv, rfl, _⟩ := hbva.sl
    have Zb := hide (Za.out.trans (hbb.mono Za.out.size))
    have G8 := hide (G8a.out.on hbb)
    have BVX := hide hbva
    refine hK.out _ _ (fun _ => Zb.out) ?_
    have hHeld := Zb.out
    clear hK K
    clear hbb hbva
    refine wpAnyU_ready (rs := [16]) (by kernel_rfl) (by simp) (AllReadyU.cons rfl (fun K hK => ?_) AllReadyU.nil)
    rw [if_pos (by rfl)]
    refine wp_storeW wRw rfl rfl rfl G8.out rfl (One.rw _ _ _ _ _ _ _) (by decide) ?_
    intro w7 hg8 hbut7
    refine hK.out _ _ (fun h => absurd h (by decide)) ?_
    clear hK K
    simp only [Act.put]
    refine wpAnyU_done (by kernel_rfl) ?_ _
    refine NoPanic.normal ?_
    have hg8' : Blk w7 g8 50 (rwC e'.r.k e'.r.n (.slice av r.b.length cv) e'.r.s e'.r.t) := hg8
    have Z7 := hide (Zb.out.trans (hbut7.below L8.out))
    have BV7 : Hid (BV w7 (.slice av r.b.length cv) r.b) := hide (BVX.out.same (fun k hk => by
      obtain ⟨cs, hc⟩ := BVX.out.lies hk
      exact hbut7.block k (hc.apart G8.out (by decide))))
    have S7 := hide (S6.out.on Z7.out)
    have G8L := hide hg8'.lt
    have L48 : Hid (g4 ≠ g8) := hide (by have h1 := S6.out.f4.lt; have h2 := L8.out; omega)
    clear hbut7 hg8 hHeld
    obtain ⟨a9, c9, hve9, hvs9⟩ := BV7.out.sl
    injection hve9 with q1 q2 q3
    subst q1 q3
    have HVS := hide hvs9
    clear hvs9
    have c82 : w7.cell? ⟨g8, 2, none⟩ = some (.slice av r.b.length cv) := by rw [hg8'.cell]; rfl
    go_wp2_with fail
    refine (clone_any _ _ _ _ _ HVS.out).mono ?_
    rintro e2 w8 ⟨v8, rfl, ho8, hb8⟩
    obtain ⟨a8, c8, rfl⟩ := ho8.slice
    have hg88 := hg8'.on hb8
    have k1 : w8.cell? ⟨g8, 2, none⟩ = some (.slice av r.b.length cv) := by rw [hg88.cell]; rfl
    have k2 : w8.frozen? ⟨g8, 2, none⟩ = false := hg88.free 2
    have HO8 := hide ho8
    have HB8 := hide hb8
    have G88 := hide hg88
    clear ho8 hb8 c82 hg8' hg88
    go_wp2_with (first | (refine step_loadA wRw rfl rfl ((G88.out).set 2 _) rfl ?_) | (refine step_storeA wRw rfl rfl rfl (((S7.out.on HB8.out).f4).but (But.setCell _ _ _ _) (L48.out)) rfl (One.rw _ _ _ _ _ _ _) rfl ?_; intro w9 hg9 hbut9))
    refine bodyPost_ret (results_wide2 rfl wRw _ _ rfl hg9 rfl) rfl ?_
    have hs4 := (S7.out.on HB8.out).new
    have hl8 : w.heap.size ≤ g8 := Nat.le_trans S6.out.bel.size L8.out
    have hbel := ((S7.out.on HB8.out).bel.trans ((But.setCell w8 g8 2 (.slice a8 r.b.length c8)).below hl8)).trans (hbut9.below hs4)
    have hsz : w.heap.size ≤ w7.heap.size := S7.out.bel.size
    refine ⟨.slice a8 r.b.length c8, ?_, ?_, hbel⟩
    · rw [HR.out]
      rfl
    · refine (Own.same (HO8.out) (fun k hk => ?_)).mono2 hsz
      have hk7 := HO8.out.lt k hk
      rw [hbut9.block k (fun e4 => by have := S7.out.f4.lt; omega)]
      exact (But.setCell w8 g8 2 _).block k (fun e4 => by have := G8L.out; omega)

end Go.Proofs.YtlgcjdgcgnlcaaaDoor
