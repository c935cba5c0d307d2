/-
  The program's Consistency: the closure that tells the proof of a beginning; the document's Consistency.
-/
import Derived.Test.YtmgabnlobeienaaDoorIc
import Derived.Test.YtmgabnlobeienaaDoorSx
import Derived.Laws.EntriesVeiled
namespace Go.Proofs.YtmgabnlobeienaaDoor
open Go.RowKit
set_option linter.unusedVariables false

/-- What the closure of Consistency holds: the span of the beginning, its size, the leaves, itself. -/
structure Enc (w : World) (gl gi gd gp m bl o n cap : Nat) (xs : List Int) : Prop where
  leaf : Blk w gl 37 (spn 0 m)
  at' : Blk w gi 3 [.int .i64 (m : Int)]
  self : Blk w gp 58 [.func (.func 35) #[] #[.pointer (some ⟨gl, 0, none⟩), .pointer (some ⟨gi, 0, none⟩), .pointer (some ⟨gd, 0, none⟩), .pointer (some ⟨gp, 0, none⟩)]]
  var : Blk w gd 35 [.slice (some ⟨bl, o, none⟩) n cap]
  ds : Ds w (some ⟨bl, o, none⟩) n cap xs
  kt : KT w
theorem Enc.below {w w' : World} {gl gi gd gp m bl o n cap : Nat} {xs : List Int} (h : Enc w gl gi gd gp m bl o n cap xs) (hb : Below w.heap.size w w') : Enc w' gl gi gd gp m bl o n cap xs :=
  ⟨h.leaf.below hb h.leaf.lt, h.at'.below hb h.at'.lt, h.self.below hb h.self.lt, h.var.below hb h.var.lt, h.ds.below hb, h.kt.below hb h.kt.lt⟩

/-- Is the span a beginning? -/
def beg (b : Nat) : Bool := b == 0

set_option maxRecDepth 100000 in
set_option maxHeartbeats 4000000 in
theorem cons1_any (gl gi gd gp m bl o n cap : Nat) (xs : List Int) (hm0 : 0 < m) : ∀ (f b e : Nat) (w : World), e - b ≤ f → b < m → m ≤ e → e ≤ n → Enc w gl gi gd gp m bl o n cap xs →
    Calls Tryd.prog 35 #[.agg (spn b e).toArray, .pointer (some ⟨gl, 0, none⟩), .pointer (some ⟨gi, 0, none⟩), .pointer (some ⟨gd, 0, none⟩), .pointer (some ⟨gp, 0, none⟩)] w
      fun r w' => ∃ v, r = .returned v ∧ (∃ q, DOwn w' w.heap.size v q (steps (sub xs b e) (m - b) (beg b))) ∧ Below w.heap.size w w' := by
  intro f
  induction f with
  | zero => intro b e w hfu hb hme hen hE; omega
  | succ f ih =>
    intro b e w hfu hb hme hen hE
    have hre := hE.ds.hreach
    have hx := hE.ds.hlen
    have hxb := hE.ds.hbyte
    have hsl := sub_length hx (show b ≤ e by omega) hen
    have hsb := sub_isB hxb b e
    by_cases h1 : e = m
    · subst h1
      by_cases h0 : b = 0
      · subst h0
        have EP := hide (show steps (sub xs 0 e) (e - 0) (beg 0) = [] from steps_all (wh := true) hsl (by omega))
        rw [EP.out]
        have HE := hide hE
        clear hE hx hxb hsl hsb
        go_enter Tryd.func35, Tryd.ntmps35
        go_wp2_with (refine step_box (cs := spn 0 e) rfl rfl ?_)
        intro w1 g5 hr1 hl1 hb1
        have G5 := hide hr1
        have GL := hide (HE.out.leaf.below hb1 HE.out.leaf.lt)
        clear hr1
        go_wp2_with (first | (refine step_loadA wSp rfl rfl G5.out rfl ?_) | (refine step_loadA wSp rfl rfl GL.out rfl ?_) | (refine step_eqSp true (by simp) rfl rfl rfl ?_))
        go_ret
        exact ⟨_, rfl, ⟨0, DOwn.nil _ _⟩, hb1⟩
      · have hbg : beg b = false := by unfold beg; simp [h0]
        have EP := hide (show steps (sub xs b e) (e - b) (beg b) = root (sub xs b e) by rw [hbg]; exact steps_all (wh := false) hsl (by omega))
        have HRL := hide (root_length hsl hsb)
        rw [EP.out]
        have HE := hide hE
        clear hE hx hxb hsl hsb
        go_enter Tryd.func35, Tryd.ntmps35
        go_wp2_with (refine step_box (cs := spn b e) rfl rfl ?_)
        intro w1 g5 hr1 hl1 hb1
        have G5 := hide hr1
        have E1 := hide (HE.out.below hb1)
        have GL := hide E1.out.leaf
        have B1 := hide hb1
        have hci : w1.cell? ⟨gi, 0, none⟩ = some (.int .i64 (e : Int)) := by rw [E1.out.at'.cell]; rfl
        have hcd : w1.cell? ⟨gd, 0, none⟩ = some (.slice (some ⟨bl, o, none⟩) n cap) := by rw [E1.out.var.cell]; rfl
        have hc5 : w1.cell? ⟨g5, 1, none⟩ = some (.int .i64 (e : Int)) := by rw [G5.out.cell]; rfl
        clear hr1 hb1
        go_wp2_with (first | (refine step_loadA wSp rfl rfl G5.out rfl ?_) | (refine step_loadA wSp rfl rfl GL.out rfl ?_) | (refine step_eqSp false (by symm; rw [decide_eq_false_iff_not]; omega) rfl rfl rfl ?_))
        refine (rootOf_any bl o n cap b e _ _ xs _ E1.out.ds rfl rfl hb hen E1.out.kt).mono ?_
        rintro r w2 ⟨rfl, hb2⟩
        go_wp2_with (refine step_oneD rfl rfl HRL.out ?_; intro w3 v3 ho3 hb3)
        go_ret
        exact ⟨_, rfl, ⟨_, ho3.base (Nat.le_trans B1.out.size hb2.size)⟩, B1.out.trans ((hb2.trans (hb3.mono hb2.size)).mono B1.out.size)⟩
    have h2 : 2 ≤ e - b := by omega
    have hbd := hf_bd (e - b) h2 (by omega)
    have ELO := hide (sub_lo hx (by omega) hen h2 (by omega))
    have EHI := hide (sub_hi hx (by omega) hen h2 (by omega))
    obtain ⟨b1, e1, b2, e2, hr, EP0, hb1i, hi1e, he1n, hlt1, hb2, he2⟩ : ∃ b1 e1 b2 e2, ((m - 1 < b + hf (e - b) ∧ b1 = b ∧ e1 = b + hf (e - b) ∧ b2 = b + hf (e - b) ∧ e2 = e) ∨ (b + hf (e - b) ≤ m - 1 ∧ b1 = b + hf (e - b) ∧ e1 = e ∧ b2 = b ∧ e2 = b + hf (e - b))) ∧
        steps (sub xs b e) (m - b) (beg b) = steps (sub xs b1 e1) (m - b1) (beg b1) ++ root (sub xs b2 e2) ∧ b1 < m ∧ m ≤ e1 ∧ e1 ≤ n ∧ e1 - b1 ≤ f ∧ b2 < e2 ∧ e2 ≤ n := by
      by_cases hlt : m - 1 < b + hf (e - b)
      · refine ⟨b, b + hf (e - b), b + hf (e - b), e, .inl ⟨hlt, rfl, rfl, rfl, rfl⟩, ?_, by omega, by omega, by omega, by omega, by omega, by omega⟩
        rw [steps_lo hsl (by omega) (by omega) (by omega) (by omega), ELO.out, EHI.out]
      · refine ⟨b + hf (e - b), e, b, b + hf (e - b), .inr ⟨by omega, rfl, rfl, rfl, rfl⟩, ?_, by omega, by omega, by omega, by omega, by omega, by omega⟩
        have hbg : beg (b + hf (e - b)) = false := by unfold beg; simp; omega
        rw [steps_hi hsl (by omega) (by omega) (by omega), ELO.out, EHI.out, show m - b - hf (e - b) = m - (b + hf (e - b)) by omega, hbg]
    have EP := hide EP0
    have HL2 := hide (root_length (sub_length hx (show b2 ≤ e2 by omega) he2) (sub_isB hxb b2 e2))
    have HB2 := hide (root_isB (sub_length hx (show b2 ≤ e2 by omega) he2) (sub_isB hxb b2 e2))
    have PB : Hid ((steps (sub xs b1 e1) (m - b1) (beg b1)).length ≤ 2080) := hide (by
      obtain ⟨⟨q, hq, hl⟩, _⟩ := steps_bd _ (e1 - b1) (m - b1) (beg b1) (sub xs b1 e1) (Nat.le_refl _) (by omega) (by omega) (sub_length hx (by omega) he1n) (by omega) (sub_isB hxb b1 e1)
      have := Lib.bitLen_le (e1 - b1 - 1) 64 (Nat.le_refl _) (by omega)
      omega)
    have HR := hide hr
    have HE := hide hE
    have hem : ¬ ((e : Int) = (m : Int)) := by omega
    have hm1 : (m : Int) - 1 = ((m - 1 : Nat) : Int) := by omega
    have HM1 := hide hm1
    clear hE hr EP0 ELO EHI hx hxb hsl hsb hm1
    go_enter Tryd.func35, Tryd.ntmps35
    go_wp2_with (refine step_box (cs := spn b e) rfl rfl ?_)
    intro w1 g5 hr1 hl1 hbw1
    have G5 := hide hr1
    have E1 := hide (HE.out.below hbw1)
    have B1 := hide hbw1
    have GL := hide E1.out.leaf
    have hci : w1.cell? ⟨gi, 0, none⟩ = some (.int .i64 (m : Int)) := by rw [E1.out.at'.cell]; rfl
    have hc5 : w1.cell? ⟨g5, 1, none⟩ = some (.int .i64 (e : Int)) := by rw [G5.out.cell]; rfl
    clear hr1 hbw1
    go_wp2_with (first | (refine step_loadA wSp rfl rfl G5.out rfl ?_) | (refine step_loadA wSp rfl rfl GL.out rfl ?_) | (refine step_eqSp false (by symm; rw [decide_eq_false_iff_not]; omega) rfl rfl rfl ?_))
    refine (halves_any b e (m - 1) (hf (e - b)) _ _ HM1.out h2 (by omega) (by omega) rfl b1 e1 b2 e2 HR.out).mono ?_
    rintro r w2 ⟨rfl, hb2w⟩
    have E2 := hide (E1.out.below hb2w)
    have B2 := hide (B1.out.trans (hb2w.mono B1.out.size))
    clear hb2w E1 G5 GL hci hc5 B1 hl1
    go_wp2_with (refine step_alloc zSp rfl ?_)
    intro w3 g7 hr3 hl3 hb3
    have G7 := hide hr3
    clear hr3
    go_wp2_with (refine step_alloc zSp rfl ?_)
    intro w4 g8 hr4 hl4 hb4
    have G8 := hide hr4
    have G74 := hide (G7.out.below hb4 G7.out.lt)
    have n78 : g7 ≠ g8 := by have := G7.out.lt; omega
    have B24 := hide (hb3.trans (hb4.mono hb3.size))
    have h28 : w2.heap.size ≤ g8 := Nat.le_trans hb3.size hl4
    clear hr4 hb3 hb4 G7
    go_wp2_with (refine step_storeA (vs := spn b1 e1) wSp rfl rfl rfl G74.out rfl (spn_one _ _) rfl ?_)
    intro w5 hg5 hbut5
    have G85 := hide (G8.out.but hbut5 n78.symm)
    have G75 := hide hg5
    have B25 := hide (B24.out.trans (hbut5.below hl3))
    clear hg5 hbut5 G8 G74 B24
    go_wp2_with (refine step_storeA (vs := spn b2 e2) wSp rfl rfl rfl G85.out rfl (spn_one _ _) rfl ?_)
    intro w6 hg6 hbut6
    have G86 := hide hg6
    have G76 := hide (G75.out.but hbut6 n78)
    have B26 := hide (B25.out.trans (hbut6.below h28))
    have E6 := hide (E2.out.below B26.out)
    have B6 := hide (B2.out.trans (B26.out.mono B2.out.size))
    clear hg6 hbut6 G85 G75 B25 E2 B26 B2 hl3 hl4
    have hu := Tryd.underlying37
    have hSS : ∀ v : World, Below w6.heap.size w6 v → v.cell? ⟨gp, 0, none⟩ = some (.func (.func 35) #[] #[.pointer (some ⟨gl, 0, none⟩), .pointer (some ⟨gi, 0, none⟩), .pointer (some ⟨gd, 0, none⟩), .pointer (some ⟨gp, 0, none⟩)]) ∧ v.rangeAt g7 0 (spn b1 e1) ∧ v.cell? ⟨gd, 0, none⟩ = some (.slice (some ⟨bl, o, none⟩) n cap) ∧ v.rangeAt g8 0 (spn b2 e2) := fun v hv =>
      ⟨by rw [(E6.out.below hv).self.cell]; rfl, (G76.out.below hv G76.out.lt).range 0 _ (by simp [spn]), by rw [(E6.out.below hv).var.cell]; rfl, (G86.out.below hv G86.out.lt).range 0 _ (by simp [spn])⟩
    go_wp2_with fail
    refine wp_region_noPanic ?_
    have B0 := hide ((Below.refl w6.heap.size w6).drew)
    refine wp_region_held_drew (S := fun v : World => v.cell? ⟨gp, 0, none⟩ = some (.func (.func 35) #[] #[.pointer (some ⟨gl, 0, none⟩), .pointer (some ⟨gi, 0, none⟩), .pointer (some ⟨gd, 0, none⟩), .pointer (some ⟨gp, 0, none⟩)]) ∧ v.rangeAt g7 0 (spn b1 e1) ∧ v.cell? ⟨gd, 0, none⟩ = some (.slice (some ⟨bl, o, none⟩) n cap) ∧ v.rangeAt g8 0 (spn b2 e2)) (by kernel_rfl) (hSS _ B0.out) (fun hHeld => ?_)
    refine takeH 0 27 (.func (.func 35) #[] #[.pointer (some ⟨gl, 0, none⟩), .pointer (some ⟨gi, 0, none⟩), .pointer (some ⟨gd, 0, none⟩), .pointer (some ⟨gp, 0, none⟩)]) hHeld rfl rfl (by kernel_rfl) (by kernel_rfl) (by kernel_rfl) (fun _ _ _ h => h) (Or.inl ⟨by rfl, fun w hw => by have hw' := hw.1; go_simp⟩) ?_
    simp only [Act.put, List.setIfInBounds_toArray, List.set_cons_zero, List.set_cons_succ]
    refine takeH 1 28 (.agg (spn b1 e1).toArray) hHeld rfl rfl (by kernel_rfl) (by kernel_rfl) (by kernel_rfl) (fun _ _ _ h => h) (yieldsIf_load_mid (by rfl) _ _ rfl g7 0 rfl _ _ (fun w h => h.2.1) hu rfl wSp.size) ?_
    simp only [Act.put, List.setIfInBounds_toArray, List.set_cons_zero, List.set_cons_succ]
    refine takeH 3 30 (.slice (some ⟨bl, o, none⟩) n cap) hHeld rfl rfl (by kernel_rfl) (by kernel_rfl) (by kernel_rfl) (fun _ _ _ h => h) (Or.inl ⟨by rfl, fun w hw => by have hw' := hw.2.2.1; go_simp⟩) ?_
    simp only [Act.put, List.setIfInBounds_toArray, List.set_cons_zero, List.set_cons_succ]
    refine takeH 4 31 (.agg (spn b2 e2).toArray) hHeld rfl rfl (by kernel_rfl) (by kernel_rfl) (by kernel_rfl) (fun _ _ _ h => h) (yieldsIf_load_mid (by rfl) _ _ rfl g8 0 rfl _ _ (fun w h => h.2.2.2) hu rfl wSp.size) ?_
    simp only [Act.put, List.setIfInBounds_toArray, List.set_cons_zero, List.set_cons_succ]
    refine wpAnyH_ready (rs := [2]) (by kernel_rfl) (by simp) (AllReadyH.cons rfl (fun K hK => ?_) AllReadyH.nil)
    rw [if_pos (by rfl)]
    go_simp
    refine (ih b1 e1 _ hlt1 hb1i hi1e he1n (E6.out.below B0.out)).mono ?_
    rintro r v1 ⟨u1, rfl, ⟨q1, ho1⟩, hv1⟩
    have B1 := hide (B0.out.trans (hv1.mono B0.out.size))
    refine hK.out _ _ (hSS _ B1.out) (fun hHeld => ?_)
    clear hK K
    refine wpAnyH_ready (rs := [5]) (by kernel_rfl) (by simp) (AllReadyH.cons rfl (fun K hK => ?_) AllReadyH.nil)
    rw [if_pos (by rfl)]
    go_simp
    refine (rootOf_any bl o n cap b2 e2 _ _ xs _ (E6.out.below B1.out).ds rfl rfl hb2 he2 (E6.out.below B1.out).kt).mono ?_
    rintro r v2 ⟨rfl, hv2⟩
    have B2 := hide (B1.out.trans (hv2.mono B1.out.size))
    have ho2 := ho1.below hv2
    refine hK.out _ _ (hSS _ B2.out) (fun hHeld => ?_)
    clear hK K
    refine wpAnyH_ready (rs := [6]) (by kernel_rfl) (by simp) (AllReadyH.cons rfl (fun K hK => ?_) AllReadyH.nil)
    rw [if_pos (by rfl)]
    refine wp_oneD rfl HL2.out HB2.out ?_
    intro v3 gq hsq hv3
    have B3 := hide (B2.out.trans (hv3.mono B2.out.size))
    have ho3 := ho2.below hv3
    refine hK.out _ _ (hSS _ B3.out) (fun hHeld => ?_)
    clear hK K
    simp only [Act.put]
    refine wpAnyH_ready (rs := [7]) (by kernel_rfl) (by simp) (AllReadyH.cons rfl (fun K hK => ?_) AllReadyH.nil)
    rw [if_pos (by rfl)]
    have hq1 : 32 * q1 = (steps (sub xs b1 e1) (m - b1) (beg b1)).length := ho3.len.symm
    refine wp_appendDG rfl rfl ho3 hsq (by have := PB.out; omega) (Nat.le_trans hv1.size (Nat.le_trans hv2.size hv3.size)) ?_
    intro u4 v4 ho4 hg4
    have B4 := hide (B3.out.trans (Below.of_grown hg4 B3.out.size (fun k hk => Nat.le_trans B0.out.size (ho3.lt k hk))))
    rw [← EP.out] at ho4
    refine hK.out _ _ (hSS _ B4.out) (fun hHeld => ?_)
    clear hK K
    simp only [Act.put]
    refine takeH 8 6 (u4) hHeld rfl rfl (by kernel_rfl) (by kernel_rfl) (by kernel_rfl) (fun _ _ _ h => h) (Or.inl ⟨by rfl, fun w _ => by go_simp⟩) ?_
    simp only [Act.put, List.setIfInBounds_toArray, List.set_cons_zero, List.set_cons_succ]
    refine wpAnyH_done (by kernel_rfl) ?_ _
    refine NoPanic.normal ?_
    clear hHeld
    go_wp2
    go_ret
    exact ⟨_, rfl, ⟨_, ho4.base (Nat.le_trans B6.out.size B0.out.size)⟩, B6.out.trans (B4.out.mono B6.out.size)⟩

/-- What Consistency answers. -/
def coE (n : Nat) (m l : Int) : Int := if m < 1 ∨ l < m ∨ (n : Int) < l then 40 else 0
def coP (xs : List Int) (n : Nat) (m l : Int) : List Int := if m < 1 ∨ l < m ∨ (n : Int) < l then [] else steps (sub xs 0 l.toNat) m.toNat true
theorem coP_bd {xs : List Int} {n : Nat} (m l : Int) (h : xs.length = 32 * n) (hb : isB xs) (hn : n < 2 ^ 63) : (∃ q, (coP xs n m l).length = 32 * q ∧ q ≤ 65) ∧ isB (coP xs n m l) := by
  unfold coP
  split
  · exact ⟨⟨0, rfl, by omega⟩, by intro x hx; simp at hx⟩
  · obtain ⟨⟨q, hq, hl⟩, hB⟩ := steps_bd _ (l.toNat - 0) m.toNat true (sub xs 0 l.toNat) (Nat.le_refl _) (by omega) (by omega) (sub_length h (by omega) (by omega)) (by omega) (sub_isB hb _ _)
    have := Lib.bitLen_le (l.toNat - 0 - 1) 64 (Nat.le_refl _) (by omega)
    exact ⟨⟨q, hq, by omega⟩, hB⟩


end Go.Proofs.YtmgabnlobeienaaDoor
