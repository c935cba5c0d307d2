/-
  A slice of one digest made; slices of digests of the call's own, once more; the document's path.
-/
import Derived.Test.YtmgabnlobeienaaDoorDa
import Derived.Test.YtmgabnlobeienaaDoorBu
import Derived.Great.BuildSlice
namespace Go.Proofs.YtmgabnlobeienaaDoor
open Go.RowKit
set_option linter.unusedVariables false

theorem DOwn.base {w : World} {B B' : Nat} {v : Value} {n : Nat} {xs : List Int} (h : DOwn w B v n xs) (hB : B' ≤ B) : DOwn w B' v n xs := by
  obtain ⟨h1, h2⟩ := h
  refine ⟨h1, ?_⟩
  rcases h2 with h2 | ⟨g, cap, cur, e, hg, r⟩
  · exact .inl h2
  · exact .inr ⟨g, cap, cur, e, Nat.le_trans hB hg, r⟩
theorem splD_all (xs : List Int) (h : xs.length = 32) : spl (u8s (zer 32)) (u8s xs) 0 = u8s xs := by
  unfold spl
  rw [List.drop_of_length_le (by rw [u8s_length, u8s_length, zer_length]; omega)]
  simp
theorem build_D (ds : List Int) (hd : ds.length = 32) (w : World) :
    (Instr.buildSlice 35 1 #[(0, .agg (u8s ds).toArray)]).run Tryd.prog w = .ok (.slice (some ⟨w.heap.size, 0, none⟩) 1 1) (w.alloc (.cells (u8s ds).toArray 24)) := by
  obtain ⟨i0, hi, hz0, hz1, hz2⟩ := info_parts infoD
  refine run_buildSlice w 35 24 1 _ _ i0 _ undDl hi hz0 (by rw [hz1]; decide) (by rw [hz1]; decide) ?_
  rw [hz1]
  have e0 : ((Array.range (1 * 32)).map ((Value.agg (u8s (zer 32)).toArray).cells[· % (Value.agg (u8s (zer 32)).toArray).cells.size]!)) = (u8s (zer 32)).toArray := by kernel_rfl
  rw [e0]
  show Instr.fill _ _ [(0, Value.agg (u8s ds).toArray)] = _
  rw [fill_cons (place := fun i => some (i * 32, 32)) (off := 0) (size := 32) (vs := u8s ds) rfl rfl (by rw [u8s_length, hd]) (by rw [u8s_length, zer_length]; omega), fill_nil, splD_all ds hd]
section
variable {dst : Option Tmp} {ty : TypeId} {pos : String} {aft : Array Edge} {gd : Option (Nat × Bool)} {a : Act} {w : World} {K : Act → World → Prop} {Q : Exit → Act → World → Prop}
set_option maxRecDepth 100000 in
theorem wp_oneD {x : Operand} {ds : List Int} (hx : a.eval x = .agg (u8s ds).toArray) (hd : ds.length = 32) (hb : isB ds) (h : ∀ w1 g, Ds w1 (some ⟨g, 0, none⟩) 1 1 ds → Below w.heap.size w w1 → K (a.put dst (.slice (some ⟨g, 0, none⟩) 1 1)) w1) :
    Oper.wp Tryd.prog ⟨dst, .buildSlice 35 1 #[(0, x)], ty, pos, aft, gd⟩ a w K Q := by
  have hs := (Blk.made w 24 (u8s ds)).sl0 hb (by omega)
  rw [hd] at hs
  refine wp_runV (.slice (some ⟨w.heap.size, 0, none⟩) 1 1) (w.alloc (.cells (u8s ds).toArray 24)) ?_ (h _ _ ⟨Nat.le_refl _, by omega, (fun e => by cases e), hs⟩ ((Below.refl _ _).alloc (Nat.le_refl _) _))
  unfold execOp
  simp only [List.map_toArray, List.map_cons, List.map_nil, hx]
  simp only [Sem.run_bind, build_D ds hd, Result.andThen_ok, Sem.run_pure]
end

theorem wp_appendDG {dst : Option Tmp} {s x : Operand} {ty : TypeId} {pos : String} {aft : Array Edge} {gd : Option (Nat × Bool)} {K : Act → World → Prop} {a : Act} {w : World} {Q : Exit → Act → World → Prop}
    {B : Nat} {v : Value} {n : Nat} {xs : List Int} {sa : Option Addr} {m c : Nat} {ys : List Int}
    (hs : a.eval s = v) (hx : a.eval x = .slice sa m c) (hown : DOwn w B v n xs) (hy : Ds w sa m c ys) (hlen : n + m ≤ 4398046511104) (hB : B ≤ w.heap.size)
    (h : ∀ v' w', DOwn w' B v' (n + m) (xs ++ ys) → w.grownBy w' v.ownBlock → K (a.put dst v') w') :
    Oper.wp Tryd.prog ⟨dst, .call { callee := .builtin .append, args := #[s, x], argTypes := #[35, 35] }, ty, pos, aft, gd⟩ a w K Q :=
  wp_appendD rfl hs hx hown hy hlen hB h

set_option maxRecDepth 100000 in
set_option maxHeartbeats 4000000 in
theorem pathR_any : ∀ (m : Nat) (a : Option Addr) (n cap : Nat) (xs : List Int) (i : Nat) (I : Int) (w : World), n ≤ m → i < n → I = (i : Int) → Ds w a n cap xs →
    Calls Tryd.prog 34 #[.slice a n cap, .int .i64 I] w fun e w' => ∃ v, e = .returned v ∧ (∃ q, DOwn w' w.heap.size v q (path xs i)) ∧ Below w.heap.size w w' := by
  intro m
  induction m with
  | zero => intro a n cap xs i I w hm hi hI hs; omega
  | succ m ih =>
    intro a n cap xs i I w hm hi' hI hs
    subst hI
    by_cases h1 : n = 1
    · subst h1
      have EP := hide (path_one (i := i) (show xs.length = 32 from hs.hlen))
      rw [EP.out]
      clear hs
      go_enter Tryd.func34, Tryd.ntmps34
      go_wp2
      go_ret
      exact ⟨_, rfl, ⟨0, DOwn.nil _ _⟩, Below.refl _ _⟩
    have h2 : 2 ≤ n := by omega
    have hx := hs.hlen
    have hcap := hs.hcap
    have hre := hs.hreach
    have hbd := hf_bd n h2 (by omega)
    have HS := hide hs
    obtain ⟨b, o, rfl⟩ := hs.place (by omega)
    have HDL := hide (show Ds w (some ⟨b, o, none⟩) (hf n) cap (lo xs) by rw [lo_eq hx]; exact hs.take (hf n) (by omega))
    have HDH := hide (show Ds w (some ⟨b, o + 32 * hf n, none⟩) (n - hf n) (cap - hf n) (hi xs) by rw [hi_eq hx]; exact hs.drop (hf n) (by omega))
    have LL := hide (root_length HDL.out.hlen HDL.out.hbyte)
    have LH := hide (root_length HDH.out.hlen HDH.out.hbyte)
    have BL := hide (root_isB HDL.out.hlen HDL.out.hbyte)
    have BH := hide (root_isB HDH.out.hlen HDH.out.hbyte)
    have n1 : ¬ ((n : Int) = 1) := by omega
    by_cases hlt : i < hf n
    · have EP := hide (path_lo hx h2 (by omega) hlt)
      have PB : Hid ((path (lo xs) i).length ≤ 2048) := hide (by
        obtain ⟨⟨q, hq, hl⟩, _⟩ := path_bd _ (hf n) i (lo xs) (Nat.le_refl _) (by omega) HDL.out.hlen (by omega) HDL.out.hbyte hlt
        have := Lib.bitLen_le (hf n - 1) 64 (Nat.le_refl _) (by omega)
        omega)
      obtain ⟨k, HKE⟩ : ∃ k, Hid (hf n = k) := ⟨hf n, hide rfl⟩
      rw [HKE.out] at hbd HDL HDH hlt
      have hlt' : (i : Int) < (k : Int) := by omega
      clear hs hx
      go_enter Tryd.func34, Tryd.ntmps34
      go_wp2_with fail
      refine (half_any n _ h2 (by omega)).mono ?_
      rintro e w2 ⟨rfl, rfl⟩
      rw [HKE.out]
      go_wp2_with fail
      refine wp_region_noPanic ?_
      have B0 := hide ((Below.refl w2.heap.size w2).drew)
      refine wp_region_held_drew (S := fun v : World => True) (by kernel_rfl) trivial (fun hHeld => ?_)
      refine takeH 0 15 (.slice (some ⟨b, o, none⟩) n cap) hHeld rfl rfl (by kernel_rfl) (by kernel_rfl) (by kernel_rfl) (fun _ _ _ h => h) (Or.inl ⟨by rfl, fun w _ => by go_simp⟩) ?_
      simp only [Act.put, List.setIfInBounds_toArray, List.set_cons_zero, List.set_cons_succ]
      refine takeH 1 16 (.int .i64 (k : Int)) hHeld rfl rfl (by kernel_rfl) (by kernel_rfl) (by kernel_rfl) (fun _ _ _ h => h) (Or.inl ⟨by rfl, fun w _ => by go_simp⟩) ?_
      simp only [Act.put, List.setIfInBounds_toArray, List.set_cons_zero, List.set_cons_succ]
      refine takeH 2 17 (.slice (some ⟨b, o, none⟩) k cap) hHeld rfl rfl (by kernel_rfl) (by kernel_rfl) (by kernel_rfl) (fun _ _ _ h => h) (Or.inl ⟨by rfl, fun w _ => run_op rfl (d_to b o n cap k (k : Int) rfl (by omega) w)⟩) ?_
      simp only [Act.put, List.setIfInBounds_toArray, List.set_cons_zero, List.set_cons_succ]
      refine takeH 3 18 (.int .i64 (i : Int)) hHeld rfl rfl (by kernel_rfl) (by kernel_rfl) (by kernel_rfl) (fun _ _ _ h => h) (Or.inl ⟨by rfl, fun w _ => by go_simp⟩) ?_
      simp only [Act.put, List.setIfInBounds_toArray, List.set_cons_zero, List.set_cons_succ]
      refine takeH 5 20 (.slice (some ⟨b, o, none⟩) n cap) hHeld rfl rfl (by kernel_rfl) (by kernel_rfl) (by kernel_rfl) (fun _ _ _ h => h) (Or.inl ⟨by rfl, fun w _ => by go_simp⟩) ?_
      simp only [Act.put, List.setIfInBounds_toArray, List.set_cons_zero, List.set_cons_succ]
      refine takeH 6 21 (.int .i64 (k : Int)) hHeld rfl rfl (by kernel_rfl) (by kernel_rfl) (by kernel_rfl) (fun _ _ _ h => h) (Or.inl ⟨by rfl, fun w _ => by go_simp⟩) ?_
      simp only [Act.put, List.setIfInBounds_toArray, List.set_cons_zero, List.set_cons_succ]
      refine takeH 7 22 (.slice (some ⟨b, o + 32 * k, none⟩) (n - k) (cap - k)) hHeld rfl rfl (by kernel_rfl) (by kernel_rfl) (by kernel_rfl) (fun _ _ _ h => h) (Or.inl ⟨by rfl, fun w _ => run_op rfl (d_from b o n cap k (k : Int) rfl (by omega) (by omega) w)⟩) ?_
      simp only [Act.put, List.setIfInBounds_toArray, List.set_cons_zero, List.set_cons_succ]
      refine wpAnyH_ready (rs := [4]) (by kernel_rfl) (by simp) (AllReadyH.cons rfl (fun K hK => ?_) AllReadyH.nil)
      rw [if_pos (by rfl)]
      go_simp
      refine (ih _ _ _ (lo xs) i _ _ (by omega) hlt rfl (HDL.out.below B0.out)).mono ?_
      rintro e v1 ⟨u1, rfl, ⟨q1, ho1⟩, hv1⟩
      have B1 := hide (B0.out.trans (hv1.mono B0.out.size))
      refine hK.out _ _ (trivial) (fun hHeld => ?_)
      clear hK K
      refine wpAnyH_ready (rs := [8]) (by kernel_rfl) (by simp) (AllReadyH.cons rfl (fun K hK => ?_) AllReadyH.nil)
      rw [if_pos (by rfl)]
      go_simp
      refine (rootR_any n _ _ _ (hi xs) _ (by omega) (HDH.out.below B1.out)).mono ?_
      rintro e v2 ⟨rfl, hv2⟩
      have B2 := hide (B1.out.trans (hv2.mono B1.out.size))
      have ho2 := ho1.below hv2
      refine hK.out _ _ (trivial) (fun hHeld => ?_)
      clear hK K
      refine wpAnyH_ready (rs := [9]) (by kernel_rfl) (by simp) (AllReadyH.cons rfl (fun K hK => ?_) AllReadyH.nil)
      rw [if_pos (by rfl)]
      refine wp_oneD rfl LH.out BH.out ?_
      intro v3 gq hsq hv3
      have B3 := hide (B2.out.trans (hv3.mono B2.out.size))
      have ho3 := ho2.below hv3
      refine hK.out _ _ trivial (fun hHeld => ?_)
      clear hK K
      simp only [Act.put]
      refine wpAnyH_ready (rs := [10]) (by kernel_rfl) (by simp) (AllReadyH.cons rfl (fun K hK => ?_) AllReadyH.nil)
      rw [if_pos (by rfl)]
      have hq1 : 32 * q1 = (path (lo xs) i).length := ho3.len.symm
      refine wp_appendDG rfl rfl ho3 hsq (by have := PB.out; omega) (Nat.le_trans hv1.size (Nat.le_trans hv2.size hv3.size)) ?_
      intro u4 v4 ho4 hg4
      have B4 := hide (B3.out.trans (Below.of_grown hg4 B3.out.size (fun k hk => Nat.le_trans B0.out.size (ho3.lt k hk))))
      rw [← EP.out] at ho4
      refine hK.out _ _ trivial (fun hHeld => ?_)
      clear hK K
      simp only [Act.put]
      refine takeH 11 4 (u4) hHeld rfl rfl (by kernel_rfl) (by kernel_rfl) (by kernel_rfl) (fun _ _ _ h => h) (Or.inl ⟨by rfl, fun w _ => by go_simp⟩) ?_
      simp only [Act.put, List.setIfInBounds_toArray, List.set_cons_zero, List.set_cons_succ]
      refine wpAnyH_done (by kernel_rfl) ?_ _
      refine NoPanic.normal ?_
      clear hHeld
      go_wp2
      go_ret
      exact ⟨_, rfl, ⟨_, ho4.base B0.out.size⟩, B4.out⟩
    · have EP := hide (path_hi hx h2 (by omega) (Nat.le_of_not_lt hlt))
      have PB : Hid ((path (hi xs) (i - hf n)).length ≤ 2048) := hide (by
        obtain ⟨⟨q, hq, hl⟩, _⟩ := path_bd _ (n - hf n) (i - hf n) (hi xs) (Nat.le_refl _) (by omega) HDH.out.hlen (by omega) HDH.out.hbyte (by omega)
        have := Lib.bitLen_le (n - hf n - 1) 64 (Nat.le_refl _) (by omega)
        omega)
      obtain ⟨k, HKE⟩ : ∃ k, Hid (hf n = k) := ⟨hf n, hide rfl⟩
      rw [HKE.out] at hbd HDL HDH hlt EP PB
      have hlt' : ¬ ((i : Int) < (k : Int)) := by omega
      clear hs hx
      go_enter Tryd.func34, Tryd.ntmps34
      go_wp2_with fail
      refine (half_any n _ h2 (by omega)).mono ?_
      rintro e w2 ⟨rfl, rfl⟩
      rw [HKE.out]
      go_wp2_with fail
      refine wp_region_noPanic ?_
      have B0 := hide ((Below.refl w2.heap.size w2).drew)
      refine wp_region_held_drew (S := fun v : World => True) (by kernel_rfl) trivial (fun hHeld => ?_)
      refine takeH 0 26 (.slice (some ⟨b, o, none⟩) n cap) hHeld rfl rfl (by kernel_rfl) (by kernel_rfl) (by kernel_rfl) (fun _ _ _ h => h) (Or.inl ⟨by rfl, fun w _ => by go_simp⟩) ?_
      simp only [Act.put, List.setIfInBounds_toArray, List.set_cons_zero, List.set_cons_succ]
      refine takeH 1 27 (.int .i64 (k : Int)) hHeld rfl rfl (by kernel_rfl) (by kernel_rfl) (by kernel_rfl) (fun _ _ _ h => h) (Or.inl ⟨by rfl, fun w _ => by go_simp⟩) ?_
      simp only [Act.put, List.setIfInBounds_toArray, List.set_cons_zero, List.set_cons_succ]
      refine takeH 2 28 (.slice (some ⟨b, o + 32 * k, none⟩) (n - k) (cap - k)) hHeld rfl rfl (by kernel_rfl) (by kernel_rfl) (by kernel_rfl) (fun _ _ _ h => h) (Or.inl ⟨by rfl, fun w _ => run_op rfl (d_from b o n cap k (k : Int) rfl (by omega) (by omega) w)⟩) ?_
      simp only [Act.put, List.setIfInBounds_toArray, List.set_cons_zero, List.set_cons_succ]
      refine takeH 3 29 (.int .i64 (i : Int)) hHeld rfl rfl (by kernel_rfl) (by kernel_rfl) (by kernel_rfl) (fun _ _ _ h => h) (Or.inl ⟨by rfl, fun w _ => by go_simp⟩) ?_
      simp only [Act.put, List.setIfInBounds_toArray, List.set_cons_zero, List.set_cons_succ]
      refine takeH 4 30 (.int .i64 (k : Int)) hHeld rfl rfl (by kernel_rfl) (by kernel_rfl) (by kernel_rfl) (fun _ _ _ h => h) (Or.inl ⟨by rfl, fun w _ => by go_simp⟩) ?_
      simp only [Act.put, List.setIfInBounds_toArray, List.set_cons_zero, List.set_cons_succ]
      refine takeH 5 31 (.int .i64 ((i : Int) - (k : Int))) hHeld rfl rfl (by kernel_rfl) (by kernel_rfl) (by kernel_rfl) (fun _ _ _ h => h) (Or.inl ⟨by rfl, fun w _ => by go_simp; first | omega | (rw [wrap_in _ (by omega) (by omega)])⟩) ?_
      simp only [Act.put, List.setIfInBounds_toArray, List.set_cons_zero, List.set_cons_succ]
      refine takeH 7 33 (.slice (some ⟨b, o, none⟩) n cap) hHeld rfl rfl (by kernel_rfl) (by kernel_rfl) (by kernel_rfl) (fun _ _ _ h => h) (Or.inl ⟨by rfl, fun w _ => by go_simp⟩) ?_
      simp only [Act.put, List.setIfInBounds_toArray, List.set_cons_zero, List.set_cons_succ]
      refine takeH 8 34 (.int .i64 (k : Int)) hHeld rfl rfl (by kernel_rfl) (by kernel_rfl) (by kernel_rfl) (fun _ _ _ h => h) (Or.inl ⟨by rfl, fun w _ => by go_simp⟩) ?_
      simp only [Act.put, List.setIfInBounds_toArray, List.set_cons_zero, List.set_cons_succ]
      refine takeH 9 35 (.slice (some ⟨b, o, none⟩) k cap) hHeld rfl rfl (by kernel_rfl) (by kernel_rfl) (by kernel_rfl) (fun _ _ _ h => h) (Or.inl ⟨by rfl, fun w _ => run_op rfl (d_to b o n cap k (k : Int) rfl (by omega) w)⟩) ?_
      simp only [Act.put, List.setIfInBounds_toArray, List.set_cons_zero, List.set_cons_succ]
      refine wpAnyH_ready (rs := [6]) (by kernel_rfl) (by simp) (AllReadyH.cons rfl (fun K hK => ?_) AllReadyH.nil)
      rw [if_pos (by rfl)]
      go_simp
      refine (ih _ _ _ (hi xs) (i - k) _ _ (by omega) (by omega) (by omega) (HDH.out.below B0.out)).mono ?_
      rintro e v1 ⟨u1, rfl, ⟨q1, ho1⟩, hv1⟩
      have B1 := hide (B0.out.trans (hv1.mono B0.out.size))
      refine hK.out _ _ (trivial) (fun hHeld => ?_)
      clear hK K
      refine wpAnyH_ready (rs := [10]) (by kernel_rfl) (by simp) (AllReadyH.cons rfl (fun K hK => ?_) AllReadyH.nil)
      rw [if_pos (by rfl)]
      go_simp
      refine (rootR_any n _ _ _ (lo xs) _ (by omega) (HDL.out.below B1.out)).mono ?_
      rintro e v2 ⟨rfl, hv2⟩
      have B2 := hide (B1.out.trans (hv2.mono B1.out.size))
      have ho2 := ho1.below hv2
      refine hK.out _ _ (trivial) (fun hHeld => ?_)
      clear hK K
      refine wpAnyH_ready (rs := [11]) (by kernel_rfl) (by simp) (AllReadyH.cons rfl (fun K hK => ?_) AllReadyH.nil)
      rw [if_pos (by rfl)]
      refine wp_oneD rfl LL.out BL.out ?_
      intro v3 gq hsq hv3
      have B3 := hide (B2.out.trans (hv3.mono B2.out.size))
      have ho3 := ho2.below hv3
      refine hK.out _ _ trivial (fun hHeld => ?_)
      clear hK K
      simp only [Act.put]
      refine wpAnyH_ready (rs := [12]) (by kernel_rfl) (by simp) (AllReadyH.cons rfl (fun K hK => ?_) AllReadyH.nil)
      rw [if_pos (by rfl)]
      have hq1 : 32 * q1 = (path (hi xs) (i - k)).length := ho3.len.symm
      refine wp_appendDG rfl rfl ho3 hsq (by have := PB.out; omega) (Nat.le_trans hv1.size (Nat.le_trans hv2.size hv3.size)) ?_
      intro u4 v4 ho4 hg4
      have B4 := hide (B3.out.trans (Below.of_grown hg4 B3.out.size (fun k hk => Nat.le_trans B0.out.size (ho3.lt k hk))))
      rw [← EP.out] at ho4
      refine hK.out _ _ trivial (fun hHeld => ?_)
      clear hK K
      simp only [Act.put]
      refine takeH 13 4 (u4) hHeld rfl rfl (by kernel_rfl) (by kernel_rfl) (by kernel_rfl) (fun _ _ _ h => h) (Or.inl ⟨by rfl, fun w _ => by go_simp⟩) ?_
      simp only [Act.put, List.setIfInBounds_toArray, List.set_cons_zero, List.set_cons_succ]
      refine wpAnyH_done (by kernel_rfl) ?_ _
      refine NoPanic.normal ?_
      clear hHeld
      go_wp2
      go_ret
      exact ⟨_, rfl, ⟨_, ho4.base B0.out.size⟩, B4.out⟩

end Go.Proofs.YtmgabnlobeienaaDoor
