/-
  The document's steps.
-/
import Derived.Test.YtmgabnlobeienaaDoorPb
namespace Go.Proofs.YtmgabnlobeienaaDoor
open Go.RowKit
set_option linter.unusedVariables false

section
variable {dst : Option Tmp} {ty : TypeId} {pos : String} {aft : Array Edge} {gd : Option (Nat × Bool)} {ops : Array Oper} {rest : List Oper} {a : Act} {w : World} {Q : Exit → Act → World → Prop}
set_option maxRecDepth 100000 in
theorem step_oneD {x : Operand} {ds : List Int} (hw : Region.wanted ⟨dst, .buildSlice 35 1 #[(0, x)], ty, pos, aft, gd⟩ (yielded ops a.tmps) = true) (hx : a.eval x = .agg (u8s ds).toArray) (hd : ds.length = 32)
    (h : ∀ w1 v, DOwn w1 w.heap.size v 1 ds → Below w.heap.size w w1 → wpList Tryd.prog ops Q rest (a.put dst v) w1) :
    wpList Tryd.prog ops Q (⟨dst, .buildSlice 35 1 #[(0, x)], ty, pos, aft, gd⟩ :: rest) a w := by
  refine step_run hw (.slice (some ⟨w.heap.size, 0, none⟩) 1 1) (w.alloc (.cells (u8s ds).toArray 24)) ?_ (h _ _ ⟨by rw [u8s_length, hd], .inr ⟨w.heap.size, 1, (u8s ds).toArray, rfl, Nat.le_refl _, Blk.made w _ _, Nat.le_refl _, by unfold maxLen; omega, by simp [u8s_length, hd], List.take_of_length_le (by simp [u8s_length, hd])⟩⟩ ((Below.refl _ _).alloc (Nat.le_refl _) _))
  unfold execOp
  simp only [List.map_toArray, List.map_cons, List.map_nil, hx]
  simp only [Sem.run_bind, build_D ds hd, Result.andThen_ok, Sem.run_pure]
end

set_option maxRecDepth 100000 in
set_option maxHeartbeats 4000000 in
theorem stepsR_any : ∀ (f : Nat) (a : Option Addr) (n cap : Nat) (xs : List Int) (m : Nat) (M : Int) (wh : Bool) (w : World), n ≤ f → 0 < m → m ≤ n → M = (m : Int) → Ds w a n cap xs →
    Calls Tryd.prog 36 #[.slice a n cap, .int .i64 M, .bool wh] w fun e w' => ∃ v, e = .returned v ∧ (∃ q, DOwn w' w.heap.size v q (steps xs m wh)) ∧ Below w.heap.size w w' := by
  intro f
  induction f with
  | zero => intro a n cap xs m M wh w hfu h0 hm hM hs; omega
  | succ f ih =>
    intro a n cap xs m M wh w hfu h0 hm hM hs
    subst hM
    have hx := hs.hlen
    have hcap := hs.hcap
    have hre := hs.hreach
    by_cases h1 : m = n
    · subst h1
      have HS := hide hs
      have HRL := hide (root_length hx hs.hbyte)
      cases wh with
      | true =>
        have EP := hide (steps_all (wh := true) hx h0)
        rw [EP.out]
        clear hs hx
        go_enter Tryd.func36, Tryd.ntmps36
        go_wp2
        go_ret
        exact ⟨_, rfl, ⟨0, DOwn.nil _ _⟩, Below.refl _ _⟩
      | false =>
        have EP := hide (show steps xs m false = root xs from steps_all (wh := false) hx h0)
        rw [EP.out]
        clear hs hx
        go_enter Tryd.func36, Tryd.ntmps36
        go_wp2_with fail
        refine (rootR_any m _ _ _ xs _ (Nat.le_refl _) HS.out).mono ?_
        rintro r w1 ⟨rfl, hb1⟩
        go_wp2_with (refine step_oneD rfl rfl HRL.out ?_; intro w2 v2 ho2 hb2)
        go_ret
        exact ⟨_, rfl, ⟨_, ho2.base hb1.size⟩, hb1.trans (hb2.mono hb1.size)⟩
    have h2 : 2 ≤ n := by omega
    have hbd := hf_bd n h2 (by omega)
    have HS := hide hs
    obtain ⟨b, o, rfl⟩ := hs.place (by omega)
    have HDL := hide (show Ds w (some ⟨b, o, none⟩) (hf n) cap (lo xs) by rw [lo_eq hx]; exact hs.take (hf n) (by omega))
    have HDH := hide (show Ds w (some ⟨b, o + 32 * hf n, none⟩) (n - hf n) (cap - hf n) (hi xs) by rw [hi_eq hx]; exact hs.drop (hf n) (by omega))
    have LL := hide (root_length HDL.out.hlen HDL.out.hbyte)
    have LH := hide (root_length HDH.out.hlen HDH.out.hbyte)
    have BL := hide (root_isB HDL.out.hlen HDL.out.hbyte)
    have BH := hide (root_isB HDH.out.hlen HDH.out.hbyte)
    have n1 : ¬ ((m : Int) = (n : Int)) := by omega
    by_cases hle : m ≤ hf n
    · have EP := hide (steps_lo (wh := wh) hx h0 (by omega) (by omega) hle)
      have PB : Hid ((steps (lo xs) m wh).length ≤ 2080) := hide (by
        obtain ⟨⟨q, hq, hl⟩, _⟩ := steps_bd _ (hf n) m wh (lo xs) (Nat.le_refl _) h0 hle HDL.out.hlen (by omega) HDL.out.hbyte
        have := Lib.bitLen_le (hf n - 1) 64 (Nat.le_refl _) (by omega)
        omega)
      obtain ⟨k, HKE⟩ : ∃ k, Hid (hf n = k) := ⟨hf n, hide rfl⟩
      rw [HKE.out] at hbd HDL HDH hle
      have hle' : (m : Int) ≤ (k : Int) := by omega
      clear hs hx
      go_enter Tryd.func36, Tryd.ntmps36
      go_wp2_with fail
      refine (half_any n _ h2 (by omega)).mono ?_
      rintro e w2 ⟨rfl, rfl⟩
      rw [HKE.out]
      go_wp2_with fail
      refine wp_region_noPanic ?_
      have B0 := hide ((Below.refl w2.heap.size w2).drew)
      refine wp_region_held_drew (S := fun v : World => True) (by kernel_rfl) trivial (fun hHeld => ?_)
      refine takeH 0 22 (.slice (some ⟨b, o, none⟩) n cap) hHeld rfl rfl (by kernel_rfl) (by kernel_rfl) (by kernel_rfl) (fun _ _ _ h => h) (Or.inl ⟨by rfl, fun w _ => by go_simp⟩) ?_
      simp only [Act.put, List.setIfInBounds_toArray, List.set_cons_zero, List.set_cons_succ]
      refine takeH 1 23 (.int .i64 (k : Int)) hHeld rfl rfl (by kernel_rfl) (by kernel_rfl) (by kernel_rfl) (fun _ _ _ h => h) (Or.inl ⟨by rfl, fun w _ => by go_simp⟩) ?_
      simp only [Act.put, List.setIfInBounds_toArray, List.set_cons_zero, List.set_cons_succ]
      refine takeH 2 24 (.slice (some ⟨b, o, none⟩) k cap) hHeld rfl rfl (by kernel_rfl) (by kernel_rfl) (by kernel_rfl) (fun _ _ _ h => h) (Or.inl ⟨by rfl, fun w _ => run_op rfl (d_to b o n cap k (k : Int) rfl (by omega) w)⟩) ?_
      simp only [Act.put, List.setIfInBounds_toArray, List.set_cons_zero, List.set_cons_succ]
      refine takeH 3 25 (.int .i64 (m : Int)) hHeld rfl rfl (by kernel_rfl) (by kernel_rfl) (by kernel_rfl) (fun _ _ _ h => h) (Or.inl ⟨by rfl, fun w _ => by go_simp⟩) ?_
      simp only [Act.put, List.setIfInBounds_toArray, List.set_cons_zero, List.set_cons_succ]
      refine takeH 4 26 (.bool wh) hHeld rfl rfl (by kernel_rfl) (by kernel_rfl) (by kernel_rfl) (fun _ _ _ h => h) (Or.inl ⟨by rfl, fun w _ => by go_simp⟩) ?_
      simp only [Act.put, List.setIfInBounds_toArray, List.set_cons_zero, List.set_cons_succ]
      refine takeH 6 28 (.slice (some ⟨b, o, none⟩) n cap) hHeld rfl rfl (by kernel_rfl) (by kernel_rfl) (by kernel_rfl) (fun _ _ _ h => h) (Or.inl ⟨by rfl, fun w _ => by go_simp⟩) ?_
      simp only [Act.put, List.setIfInBounds_toArray, List.set_cons_zero, List.set_cons_succ]
      refine takeH 7 29 (.int .i64 (k : Int)) hHeld rfl rfl (by kernel_rfl) (by kernel_rfl) (by kernel_rfl) (fun _ _ _ h => h) (Or.inl ⟨by rfl, fun w _ => by go_simp⟩) ?_
      simp only [Act.put, List.setIfInBounds_toArray, List.set_cons_zero, List.set_cons_succ]
      refine takeH 8 30 (.slice (some ⟨b, o + 32 * k, none⟩) (n - k) (cap - k)) hHeld rfl rfl (by kernel_rfl) (by kernel_rfl) (by kernel_rfl) (fun _ _ _ h => h) (Or.inl ⟨by rfl, fun w _ => run_op rfl (d_from b o n cap k (k : Int) rfl (by omega) (by omega) w)⟩) ?_
      simp only [Act.put, List.setIfInBounds_toArray, List.set_cons_zero, List.set_cons_succ]
      refine wpAnyH_ready (rs := [5]) (by kernel_rfl) (by simp) (AllReadyH.cons rfl (fun K hK => ?_) AllReadyH.nil)
      rw [if_pos (by rfl)]
      go_simp
      refine (ih _ _ _ (lo xs) m _ wh _ (by omega) h0 hle rfl (HDL.out.below B0.out)).mono ?_
      rintro e v1 ⟨u1, rfl, ⟨q1, ho1⟩, hv1⟩
      have B1 := hide (B0.out.trans (hv1.mono B0.out.size))
      refine hK.out _ _ (trivial) (fun hHeld => ?_)
      clear hK K
      refine wpAnyH_ready (rs := [9]) (by kernel_rfl) (by simp) (AllReadyH.cons rfl (fun K hK => ?_) AllReadyH.nil)
      rw [if_pos (by rfl)]
      go_simp
      refine (rootR_any n _ _ _ (hi xs) _ (by omega) (HDH.out.below B1.out)).mono ?_
      rintro e v2 ⟨rfl, hv2⟩
      have B2 := hide (B1.out.trans (hv2.mono B1.out.size))
      have ho2 := ho1.below hv2
      refine hK.out _ _ (trivial) (fun hHeld => ?_)
      clear hK K
      refine wpAnyH_ready (rs := [10]) (by kernel_rfl) (by simp) (AllReadyH.cons rfl (fun K hK => ?_) AllReadyH.nil)
      rw [if_pos (by rfl)]
      refine wp_oneD rfl LH.out BH.out ?_
      intro v3 gq hsq hv3
      have B3 := hide (B2.out.trans (hv3.mono B2.out.size))
      have ho3 := ho2.below hv3
      refine hK.out _ _ trivial (fun hHeld => ?_)
      clear hK K
      simp only [Act.put]
      refine wpAnyH_ready (rs := [11]) (by kernel_rfl) (by simp) (AllReadyH.cons rfl (fun K hK => ?_) AllReadyH.nil)
      rw [if_pos (by rfl)]
      have hq1 : 32 * q1 = (steps (lo xs) m wh).length := ho3.len.symm
      refine wp_appendDG rfl rfl ho3 hsq (by have := PB.out; omega) (Nat.le_trans hv1.size (Nat.le_trans hv2.size hv3.size)) ?_
      intro u4 v4 ho4 hg4
      have B4 := hide (B3.out.trans (Below.of_grown hg4 B3.out.size (fun k hk => Nat.le_trans B0.out.size (ho3.lt k hk))))
      rw [← EP.out] at ho4
      refine hK.out _ _ trivial (fun hHeld => ?_)
      clear hK K
      simp only [Act.put]
      refine takeH 12 6 (u4) hHeld rfl rfl (by kernel_rfl) (by kernel_rfl) (by kernel_rfl) (fun _ _ _ h => h) (Or.inl ⟨by rfl, fun w _ => by go_simp⟩) ?_
      simp only [Act.put, List.setIfInBounds_toArray, List.set_cons_zero, List.set_cons_succ]
      refine wpAnyH_done (by kernel_rfl) ?_ _
      refine NoPanic.normal ?_
      clear hHeld
      go_wp2
      go_ret
      exact ⟨_, rfl, ⟨_, ho4.base B0.out.size⟩, B4.out⟩
    · have EP := hide (steps_hi (wh := wh) hx (by omega) (by omega) (Nat.lt_of_not_le hle))
      have PB : Hid ((steps (hi xs) (m - hf n) false).length ≤ 2080) := hide (by
        obtain ⟨⟨q, hq, hl⟩, _⟩ := steps_bd _ (n - hf n) (m - hf n) false (hi xs) (Nat.le_refl _) (by omega) (by omega) HDH.out.hlen (by omega) HDH.out.hbyte
        have := Lib.bitLen_le (n - hf n - 1) 64 (Nat.le_refl _) (by omega)
        omega)
      obtain ⟨k, HKE⟩ : ∃ k, Hid (hf n = k) := ⟨hf n, hide rfl⟩
      rw [HKE.out] at hbd HDL HDH hle EP PB
      have hle' : ¬ ((m : Int) ≤ (k : Int)) := by omega
      clear hs hx
      go_enter Tryd.func36, Tryd.ntmps36
      go_wp2_with fail
      refine (half_any n _ h2 (by omega)).mono ?_
      rintro e w2 ⟨rfl, rfl⟩
      rw [HKE.out]
      go_wp2_with fail
      refine wp_region_noPanic ?_
      have B0 := hide ((Below.refl w2.heap.size w2).drew)
      refine wp_region_held_drew (S := fun v : World => True) (by kernel_rfl) trivial (fun hHeld => ?_)
      refine takeH 0 34 (.slice (some ⟨b, o, none⟩) n cap) hHeld rfl rfl (by kernel_rfl) (by kernel_rfl) (by kernel_rfl) (fun _ _ _ h => h) (Or.inl ⟨by rfl, fun w _ => by go_simp⟩) ?_
      simp only [Act.put, List.setIfInBounds_toArray, List.set_cons_zero, List.set_cons_succ]
      refine takeH 1 35 (.int .i64 (k : Int)) hHeld rfl rfl (by kernel_rfl) (by kernel_rfl) (by kernel_rfl) (fun _ _ _ h => h) (Or.inl ⟨by rfl, fun w _ => by go_simp⟩) ?_
      simp only [Act.put, List.setIfInBounds_toArray, List.set_cons_zero, List.set_cons_succ]
      refine takeH 2 36 (.slice (some ⟨b, o + 32 * k, none⟩) (n - k) (cap - k)) hHeld rfl rfl (by kernel_rfl) (by kernel_rfl) (by kernel_rfl) (fun _ _ _ h => h) (Or.inl ⟨by rfl, fun w _ => run_op rfl (d_from b o n cap k (k : Int) rfl (by omega) (by omega) w)⟩) ?_
      simp only [Act.put, List.setIfInBounds_toArray, List.set_cons_zero, List.set_cons_succ]
      refine takeH 3 37 (.int .i64 (m : Int)) hHeld rfl rfl (by kernel_rfl) (by kernel_rfl) (by kernel_rfl) (fun _ _ _ h => h) (Or.inl ⟨by rfl, fun w _ => by go_simp⟩) ?_
      simp only [Act.put, List.setIfInBounds_toArray, List.set_cons_zero, List.set_cons_succ]
      refine takeH 4 38 (.int .i64 (k : Int)) hHeld rfl rfl (by kernel_rfl) (by kernel_rfl) (by kernel_rfl) (fun _ _ _ h => h) (Or.inl ⟨by rfl, fun w _ => by go_simp⟩) ?_
      simp only [Act.put, List.setIfInBounds_toArray, List.set_cons_zero, List.set_cons_succ]
      refine takeH 5 39 (.int .i64 ((m : Int) - (k : Int))) hHeld rfl rfl (by kernel_rfl) (by kernel_rfl) (by kernel_rfl) (fun _ _ _ h => h) (Or.inl ⟨by rfl, fun w _ => by go_simp; first | omega | (rw [wrap_in _ (by omega) (by omega)])⟩) ?_
      simp only [Act.put, List.setIfInBounds_toArray, List.set_cons_zero, List.set_cons_succ]
      refine takeH 7 41 (.slice (some ⟨b, o, none⟩) n cap) hHeld rfl rfl (by kernel_rfl) (by kernel_rfl) (by kernel_rfl) (fun _ _ _ h => h) (Or.inl ⟨by rfl, fun w _ => by go_simp⟩) ?_
      simp only [Act.put, List.setIfInBounds_toArray, List.set_cons_zero, List.set_cons_succ]
      refine takeH 8 42 (.int .i64 (k : Int)) hHeld rfl rfl (by kernel_rfl) (by kernel_rfl) (by kernel_rfl) (fun _ _ _ h => h) (Or.inl ⟨by rfl, fun w _ => by go_simp⟩) ?_
      simp only [Act.put, List.setIfInBounds_toArray, List.set_cons_zero, List.set_cons_succ]
      refine takeH 9 43 (.slice (some ⟨b, o, none⟩) k cap) hHeld rfl rfl (by kernel_rfl) (by kernel_rfl) (by kernel_rfl) (fun _ _ _ h => h) (Or.inl ⟨by rfl, fun w _ => run_op rfl (d_to b o n cap k (k : Int) rfl (by omega) w)⟩) ?_
      simp only [Act.put, List.setIfInBounds_toArray, List.set_cons_zero, List.set_cons_succ]
      refine wpAnyH_ready (rs := [6]) (by kernel_rfl) (by simp) (AllReadyH.cons rfl (fun K hK => ?_) AllReadyH.nil)
      rw [if_pos (by rfl)]
      go_simp
      refine (ih _ _ _ (hi xs) (m - k) _ false _ (by omega) (by omega) (by omega) (by omega) (HDH.out.below B0.out)).mono ?_
      rintro e v1 ⟨u1, rfl, ⟨q1, ho1⟩, hv1⟩
      have B1 := hide (B0.out.trans (hv1.mono B0.out.size))
      refine hK.out _ _ (trivial) (fun hHeld => ?_)
      clear hK K
      refine wpAnyH_ready (rs := [10]) (by kernel_rfl) (by simp) (AllReadyH.cons rfl (fun K hK => ?_) AllReadyH.nil)
      rw [if_pos (by rfl)]
      go_simp
      refine (rootR_any n _ _ _ (lo xs) _ (by omega) (HDL.out.below B1.out)).mono ?_
      rintro e v2 ⟨rfl, hv2⟩
      have B2 := hide (B1.out.trans (hv2.mono B1.out.size))
      have ho2 := ho1.below hv2
      refine hK.out _ _ (trivial) (fun hHeld => ?_)
      clear hK K
      refine wpAnyH_ready (rs := [11]) (by kernel_rfl) (by simp) (AllReadyH.cons rfl (fun K hK => ?_) AllReadyH.nil)
      rw [if_pos (by rfl)]
      refine wp_oneD rfl LL.out BL.out ?_
      intro v3 gq hsq hv3
      have B3 := hide (B2.out.trans (hv3.mono B2.out.size))
      have ho3 := ho2.below hv3
      refine hK.out _ _ trivial (fun hHeld => ?_)
      clear hK K
      simp only [Act.put]
      refine wpAnyH_ready (rs := [12]) (by kernel_rfl) (by simp) (AllReadyH.cons rfl (fun K hK => ?_) AllReadyH.nil)
      rw [if_pos (by rfl)]
      have hq1 : 32 * q1 = (steps (hi xs) (m - k) false).length := ho3.len.symm
      refine wp_appendDG rfl rfl ho3 hsq (by have := PB.out; omega) (Nat.le_trans hv1.size (Nat.le_trans hv2.size hv3.size)) ?_
      intro u4 v4 ho4 hg4
      have B4 := hide (B3.out.trans (Below.of_grown hg4 B3.out.size (fun k hk => Nat.le_trans B0.out.size (ho3.lt k hk))))
      rw [← EP.out] at ho4
      refine hK.out _ _ trivial (fun hHeld => ?_)
      clear hK K
      simp only [Act.put]
      refine takeH 13 6 (u4) hHeld rfl rfl (by kernel_rfl) (by kernel_rfl) (by kernel_rfl) (fun _ _ _ h => h) (Or.inl ⟨by rfl, fun w _ => by go_simp⟩) ?_
      simp only [Act.put, List.setIfInBounds_toArray, List.set_cons_zero, List.set_cons_succ]
      refine wpAnyH_done (by kernel_rfl) ?_ _
      refine NoPanic.normal ?_
      clear hHeld
      go_wp2
      go_ret
      exact ⟨_, rfl, ⟨_, ho4.base B0.out.size⟩, B4.out⟩

end Go.Proofs.YtmgabnlobeienaaDoor
