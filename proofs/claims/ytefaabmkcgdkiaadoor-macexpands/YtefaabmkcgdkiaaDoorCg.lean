/-
  mac.Child and the document's Child where they answer a digest; the walk of MacChildren.
-/
import Derived.Test.YtefaabmkcgdkiaaDoorCh
import Derived.Test.YtefaabmkcgdkiaaDoorFr
namespace Go.Proofs.YtefaabmkcgdkiaaDoor
open Go.RowKit
set_option linter.unusedVariables false

set_option maxRecDepth 100000 in
set_option maxHeartbeats 4000000 in
theorem child_good (ds : List Int) (s : ByteArray) (i : Int) (w : World) (hd : ds.length = 32) (hdb : isB ds) (hs0 : 0 < s.size) (hs1 : s.size ≤ 255) (hi0 : 0 ≤ i) (hi1 : i < 9223372036854775808) (hk : KT w) :
    Calls Tryd.prog 30 #[.agg (u8s ds).toArray, .string s, .int .i64 i] w fun r w' => r = .returned (.tuple #[.agg (u8s (mc ds (chm s i))).toArray, .int .i64 0]) ∧ Below w.heap.size w w' := by
  have HK := hide hk
  clear hk
  have HD := hide hd
  have HDB := hide hdb
  have HML := hide (show (u8s (mc ds (chm s i))).length = 32 by rw [u8s_length, mc_length])
  have HSL := hide (sb_length s)
  clear hd hdb
  go_enter Tryd.func30, Tryd.ntmps30
  go_wp2_with (refine step_box rfl rfl ?_)
  intro w1 g3 hg1 hle1 hb1
  go_wp2_with (refine step_alloc zD rfl ?_)
  intro w2 g6 hg2 hle2 hb2
  have HB2 := hide (hb1.trans (hb2.mono hb1.size))
  have G6 := hide hg2
  have SD := hide ((hg1.below hb2 hg1.lt).sl0 HDB.out (by rw [HD.out]; omega))
  rw [HD.out] at SD
  have hl6 : w.heap.size ≤ g6 := Nat.le_trans hb1.size hle2
  clear hg1 hg2 hb1 hb2 hle1 hle2
  have h1 : ¬ (((s.size : Nat) : Int) = 0) := by omega
  have h1' : ¬ s.size = 0 := by omega
  have h1'' : ¬ ((s.size : Nat) : Int) < 1 := by omega
  have h2 : ¬ (255 : Int) < ((s.size : Nat) : Int) := by omega
  have h3 : ¬ i < 0 := by omega
  have hu8 : ((s.size : Nat) : Int) % 256 = ((s.size : Nat) : Int) := by omega
  have hw8 : IntKind.u8.wrap ((s.size : Nat) : Int) = ((s.size : Nat) : Int) := by rw [IntKind.wrap_u8']; omega
  have ho0 : Own (w2.alloc (.cells #[.int .u8 ((s.size : Nat) : Int)] 5)) w2.heap.size (.slice (some ⟨w2.heap.size, 0, none⟩) 1 1) [((s.size : Nat) : Int)] := Own.of_blk (xs := [((s.size : Nat) : Int)]) (Blk.made w2 5 (u8s [((s.size : Nat) : Int)])) (Nat.le_refl _) (by simp)
  have hb0 : Below w2.heap.size w2 (w2.alloc (.cells #[.int .u8 ((s.size : Nat) : Int)] 5)) := (Below.refl _ _).alloc (Nat.le_refl _) _
  go_wp2_with (refine step_appendS rfl rfl ho0 (by simp; omega) (by simp) ?_)
  intro v8 w3 ho3 hg3 hn3
  have B3 := hide (hb0.trans (Below.of_grown hg3 hb0.size ho0.lt))
  have hv8 : v8 ≠ .slice none 0 0 := fun e => by have e2 := hn3 e; cases e2
  have HMB := hide (show isB (((s.size : Nat) : Int) :: sb s) from isB.append (xs := [((s.size : Nat) : Int)]) (by intro x hx; simp at hx; omega) (sb_isB s))
  have HLM := hide (show (((s.size : Nat) : Int) :: sb s).length = s.size + 1 by rw [List.length_cons, HSL.out])
  have O3 := hide ho3
  obtain ⟨gm, cm, em, _, hsm⟩ := ho3.sl HMB.out (by rw [HLM.out]; omega) hv8
  subst em
  rw [HLM.out] at hsm O3 ⊢
  have SM := hide hsm
  have HB3 := hide (HB2.out.trans (B3.out.mono HB2.out.size))
  have SD3 := hide (SD.out.below B3.out)
  have G63 := hide (G6.out.below B3.out G6.out.lt)
  have hu64 : IntKind.u64.wrap i = i := by rw [IntKind.wrap_u64]; omega
  have EC : Hid ((((s.size : Nat) : Int) :: sb s) ++ be i 8 = chm s i) := hide (by simp [chm])
  have HCB := hide (show isB (chm s i) by rw [← EC.out]; exact HMB.out.append (be_isB _ _))
  have HCL := hide (show (chm s i).length = s.size + 1 + 8 by rw [← EC.out, List.length_append, HLM.out, be_length])
  clear ho0 hb0 ho3 hg3 hn3 hsm
  go_wp2_with fail
  refine wp_region_noPanic ?_
  have B0 := hide ((Below.refl w3.heap.size w3).drew)
  refine wp_region_held_drew (S := fun v : World => True) (by kernel_rfl) trivial (fun hHeld => ?_)
  refine takeH 0 28 (.slice (some ⟨g3, 0, none⟩) 32 32) hHeld rfl rfl (by kernel_rfl) (by kernel_rfl) (by kernel_rfl) (fun _ _ _ h => h) (Or.inl ⟨by rfl, fun w _ => run_op rfl (slice_Dg g3 w)⟩) ?_
  simp only [Act.put, List.setIfInBounds_toArray, List.set_cons_zero, List.set_cons_succ]
  refine takeH 1 29 (.slice (some ⟨gm, 0, none⟩) (s.size + 1) cm) hHeld rfl rfl (by kernel_rfl) (by kernel_rfl) (by kernel_rfl) (fun _ _ _ h => h) (Or.inl ⟨by rfl, fun w _ => by go_simp⟩) ?_
  simp only [Act.put, List.setIfInBounds_toArray, List.set_cons_zero, List.set_cons_succ]
  refine takeH 2 30 (.int .i64 i) hHeld rfl rfl (by kernel_rfl) (by kernel_rfl) (by kernel_rfl) (fun _ _ _ h => h) (Or.inl ⟨by rfl, fun w _ => by go_simp⟩) ?_
  simp only [Act.put, List.setIfInBounds_toArray, List.set_cons_zero, List.set_cons_succ]
  refine takeH 3 31 (.int .u64 i) hHeld rfl rfl (by kernel_rfl) (by kernel_rfl) (by kernel_rfl) (fun _ _ _ h => h) (Or.inl ⟨by rfl, fun w _ => by go_simp⟩) ?_
  simp only [Act.put, List.setIfInBounds_toArray, List.set_cons_zero, List.set_cons_succ]
  have K3 := hide (HK.out.below HB3.out HK.out.lt)
  refine wpAnyH_ready (rs := [4]) (by kernel_rfl) (by simp) (AllReadyH.cons rfl (fun K hK => ?_) AllReadyH.nil)
  rw [if_pos (by rfl)]
  go_simp
  refine (putUint64_any _ _ _ _ i _ (SM.out.below B0.out) hi0 (by omega)).mono ?_
  rintro e v1 ⟨gn, rfl, hln, hgn, hv1⟩
  rw [EC.out] at hgn
  have B1 := hide (B0.out.trans (hv1.mono B0.out.size))
  have SN := hide (hgn.sl0 HCB.out (by rw [HCL.out]; omega))
  rw [HCL.out] at SN
  refine hK.out _ _ (trivial) (fun hHeld => ?_)
  clear hK K
  clear hv1 hgn hln
  refine wpAnyH_ready (rs := [5]) (by kernel_rfl) (by simp) (AllReadyH.cons rfl (fun K hK => ?_) AllReadyH.nil)
  rw [if_pos (by rfl)]
  go_simp
  refine (mac_any _ _ _ ds _ _ _ (chm s i) _ (SD3.out.below B1.out) SN.out (K3.out.below B1.out K3.out.lt)).mono ?_
  rintro e v2 ⟨rfl, hv2⟩
  have B2 := hide (B1.out.trans (hv2.mono B1.out.size))
  refine hK.out _ _ (trivial) (fun hHeld => ?_)
  clear hK K
  clear hv2
  refine wpAnyH_ready (rs := [6]) (by kernel_rfl) (by simp) (AllReadyH.cons rfl (fun K hK => ?_) AllReadyH.nil)
  rw [if_pos (by rfl)]
  refine wp_storeW wD rfl rfl rfl (G63.out.below B2.out G63.out.lt) HML.out (One.u8 _) (by simp [u8s_length, zer_length]) ?_
  intro v3 hgz hbutz
  refine hK.out _ _ (trivial) (fun hHeld => ?_)
  clear hK K
  simp only [Act.put]
  refine takeH 7 7 (.int .i64 0) hHeld rfl rfl (by kernel_rfl) (by kernel_rfl) (by kernel_rfl) (fun _ _ _ h => h) (Or.inl ⟨by rfl, fun w _ => by go_simp⟩) ?_
  simp only [Act.put, List.setIfInBounds_toArray]
  refine wpAnyH_done (by kernel_rfl) ?_ _
  refine NoPanic.normal ?_
  clear hHeld
  have EZ : Hid (spl (u8s (zer 32)) (u8s (mc ds (chm s i))) 0 = u8s (mc ds (chm s i))) := hide (by
    unfold spl
    rw [List.drop_of_length_le (by rw [u8s_length, zer_length, HML.out]; omega)]
    simp)
  rw [EZ.out] at hgz
  go_wp2
  refine bodyPost_ret (results_wide2 rfl wD _ _ rfl hgz HML.out) rfl ⟨rfl, ?_⟩
  exact (HB3.out.trans (B2.out.mono HB3.out.size)).trans (hbutz.below hl6)

set_option maxRecDepth 100000 in
set_option maxHeartbeats 4000000 in
theorem childR_good (ds : List Int) (s : ByteArray) (i : Int) (w : World) (hd : ds.length = 32) (hdb : isB ds) (hs0 : 0 < s.size) (hs1 : s.size ≤ 255) (hi0 : 0 ≤ i) (hi1 : i < 9223372036854775808) :
    Calls Tryd.prog 31 #[.agg (u8s ds).toArray, .string s, .int .i64 i] w fun r w' => r = .returned (.tuple #[.agg (u8s (mc ds (chm s i))).toArray, .int .i64 0]) ∧ Below w.heap.size w w' := by
  have HD := hide hd
  have HDB := hide hdb
  have HML := hide (show (u8s (mc ds (chm s i))).length = 32 by rw [u8s_length, mc_length])
  have HSL := hide (sb_length s)
  clear hd hdb
  go_enter Tryd.func31, Tryd.ntmps31
  go_wp2_with (refine step_box rfl rfl ?_)
  intro w1 g3 hg1 hle1 hb1
  go_wp2_with (refine step_alloc zD rfl ?_)
  intro w2 g6 hg2 hle2 hb2
  have HB2 := hide (hb1.trans (hb2.mono hb1.size))
  have G6 := hide hg2
  have SD := hide ((hg1.below hb2 hg1.lt).sl0 HDB.out (by rw [HD.out]; omega))
  rw [HD.out] at SD
  have hl6 : w.heap.size ≤ g6 := Nat.le_trans hb1.size hle2
  clear hg1 hg2 hb1 hb2 hle1 hle2
  have h1 : ¬ (((s.size : Nat) : Int) = 0) := by omega
  have h1' : ¬ s.size = 0 := by omega
  have h1'' : ¬ ((s.size : Nat) : Int) < 1 := by omega
  have h2 : ¬ (255 : Int) < ((s.size : Nat) : Int) := by omega
  have h3 : ¬ i < 0 := by omega
  have hu8 : ((s.size : Nat) : Int) % 256 = ((s.size : Nat) : Int) := by omega
  have hw8 : IntKind.u8.wrap ((s.size : Nat) : Int) = ((s.size : Nat) : Int) := by rw [IntKind.wrap_u8']; omega
  have ho0 : Own (w2.alloc (.cells #[.int .u8 ((s.size : Nat) : Int)] 5)) w2.heap.size (.slice (some ⟨w2.heap.size, 0, none⟩) 1 1) [((s.size : Nat) : Int)] := Own.of_blk (xs := [((s.size : Nat) : Int)]) (Blk.made w2 5 (u8s [((s.size : Nat) : Int)])) (Nat.le_refl _) (by simp)
  have hb0 : Below w2.heap.size w2 (w2.alloc (.cells #[.int .u8 ((s.size : Nat) : Int)] 5)) := (Below.refl _ _).alloc (Nat.le_refl _) _
  go_wp2_with (refine step_appendS rfl rfl ho0 (by simp; omega) (by simp) ?_)
  intro v8 w3 ho3 hg3 hn3
  have B3 := hide (hb0.trans (Below.of_grown hg3 hb0.size ho0.lt))
  have hv8 : v8 ≠ .slice none 0 0 := fun e => by have e2 := hn3 e; cases e2
  have HMB := hide (show isB (((s.size : Nat) : Int) :: sb s) from isB.append (xs := [((s.size : Nat) : Int)]) (by intro x hx; simp at hx; omega) (sb_isB s))
  have HLM := hide (show (((s.size : Nat) : Int) :: sb s).length = s.size + 1 by rw [List.length_cons, HSL.out])
  have O3 := hide ho3
  obtain ⟨gm, cm, em, _, hsm⟩ := ho3.sl HMB.out (by rw [HLM.out]; omega) hv8
  subst em
  rw [HLM.out] at hsm O3 ⊢
  have SM := hide hsm
  have HB3 := hide (HB2.out.trans (B3.out.mono HB2.out.size))
  have SD3 := hide (SD.out.below B3.out)
  have G63 := hide (G6.out.below B3.out G6.out.lt)
  have hu64 : IntKind.u64.wrap i = i := by rw [IntKind.wrap_u64]; omega
  have EC : Hid ((((s.size : Nat) : Int) :: sb s) ++ be i 8 = chm s i) := hide (by simp [chm])
  have HCB := hide (show isB (chm s i) by rw [← EC.out]; exact HMB.out.append (be_isB _ _))
  have HCL := hide (show (chm s i).length = s.size + 1 + 8 by rw [← EC.out, List.length_append, HLM.out, be_length])
  clear ho0 hb0 ho3 hg3 hn3 hsm
  go_wp2_with fail
  refine wp_region_noPanic ?_
  have B0 := hide ((Below.refl w3.heap.size w3).drew)
  refine wp_region_held_drew (S := fun v : World => True) (by kernel_rfl) trivial (fun hHeld => ?_)
  refine takeH 0 28 (.slice (some ⟨g3, 0, none⟩) 32 32) hHeld rfl rfl (by kernel_rfl) (by kernel_rfl) (by kernel_rfl) (fun _ _ _ h => h) (Or.inl ⟨by rfl, fun w _ => run_op rfl (slice_Dg g3 w)⟩) ?_
  simp only [Act.put, List.setIfInBounds_toArray, List.set_cons_zero, List.set_cons_succ]
  refine takeH 1 29 (.slice (some ⟨gm, 0, none⟩) (s.size + 1) cm) hHeld rfl rfl (by kernel_rfl) (by kernel_rfl) (by kernel_rfl) (fun _ _ _ h => h) (Or.inl ⟨by rfl, fun w _ => by go_simp⟩) ?_
  simp only [Act.put, List.setIfInBounds_toArray, List.set_cons_zero, List.set_cons_succ]
  refine takeH 2 30 (.int .i64 i) hHeld rfl rfl (by kernel_rfl) (by kernel_rfl) (by kernel_rfl) (fun _ _ _ h => h) (Or.inl ⟨by rfl, fun w _ => by go_simp⟩) ?_
  simp only [Act.put, List.setIfInBounds_toArray, List.set_cons_zero, List.set_cons_succ]
  refine takeH 3 31 (.int .u64 i) hHeld rfl rfl (by kernel_rfl) (by kernel_rfl) (by kernel_rfl) (fun _ _ _ h => h) (Or.inl ⟨by rfl, fun w _ => by go_simp⟩) ?_
  simp only [Act.put, List.setIfInBounds_toArray, List.set_cons_zero, List.set_cons_succ]
  refine wpAnyH_ready (rs := [4]) (by kernel_rfl) (by simp) (AllReadyH.cons rfl (fun K hK => ?_) AllReadyH.nil)
  rw [if_pos (by rfl)]
  go_simp
  refine (number_ref i 8 _ (by omega) hi0 (by omega)).mono ?_
  rintro e v1 ⟨gn, rfl, hln, hgn, hv1⟩
  have B1a := hide (B0.out.trans (hv1.mono B0.out.size))
  have SN := hide (hgn.sl0 (be_isB _ _) (by rw [be_length]; omega))
  rw [be_length] at SN
  refine hK.out _ _ (trivial) (fun hHeld => ?_)
  clear hK K
  clear hv1 hgn hln
  refine wpAnyH_ready (rs := [5]) (by kernel_rfl) (by simp) (AllReadyH.cons rfl (fun K hK => ?_) AllReadyH.nil)
  rw [if_pos (by rfl)]
  have O3a := hide (O3.out.below B1a.out)
  have BW := hide (B3.out.trans (B1a.out.mono B3.out.size))
  refine wp_appendB rfl rfl rfl O3a.out SN.out (by rw [HLM.out]; omega) BW.out.size ?_
  intro v9 w9 ho9 hg9 hn9
  rw [EC.out] at ho9
  have hv9 : v9 ≠ .slice none 0 0 := fun e => by have e2 := (hn9 e).1; cases e2
  have B1 := hide (BW.out.trans (Below.of_grown hg9 BW.out.size O3a.out.lt))
  obtain ⟨gc, cc, ec, _, hsc⟩ := ho9.sl HCB.out (by rw [HCL.out]; omega) hv9
  subst ec
  rw [HCL.out] at hsc ⊢
  have SC := hide hsc
  refine hK.out _ _ (trivial) (fun hHeld => ?_)
  clear hK K
  simp only [Act.put]
  clear ho9 hg9 hn9 hv9 hsc
  refine wpAnyH_ready (rs := [6]) (by kernel_rfl) (by simp) (AllReadyH.cons rfl (fun K hK => ?_) AllReadyH.nil)
  rw [if_pos (by rfl)]
  go_simp
  refine (macR_any _ _ _ ds _ _ _ (chm s i) _ (SD.out.below B1.out) (by omega) SC.out (by omega)).mono ?_
  rintro e v2 ⟨rfl, hv2⟩
  have B2 := hide (B1.out.trans (hv2.mono B1.out.size))
  refine hK.out _ _ (trivial) (fun hHeld => ?_)
  clear hK K
  clear hv2
  refine wpAnyH_ready (rs := [7]) (by kernel_rfl) (by simp) (AllReadyH.cons rfl (fun K hK => ?_) AllReadyH.nil)
  rw [if_pos (by rfl)]
  refine wp_storeW wD rfl rfl rfl (G6.out.below B2.out G6.out.lt) HML.out (One.u8 _) (by simp [u8s_length, zer_length]) ?_
  intro v3 hgz hbutz
  refine hK.out _ _ (trivial) (fun hHeld => ?_)
  clear hK K
  simp only [Act.put]
  refine takeH 8 7 (.int .i64 0) hHeld rfl rfl (by kernel_rfl) (by kernel_rfl) (by kernel_rfl) (fun _ _ _ h => h) (Or.inl ⟨by rfl, fun w _ => by go_simp⟩) ?_
  simp only [Act.put, List.setIfInBounds_toArray]
  refine wpAnyH_done (by kernel_rfl) ?_ _
  refine NoPanic.normal ?_
  clear hHeld
  have EZ : Hid (spl (u8s (zer 32)) (u8s (mc ds (chm s i))) 0 = u8s (mc ds (chm s i))) := hide (by
    unfold spl
    rw [List.drop_of_length_le (by rw [u8s_length, zer_length, HML.out]; omega)]
    simp)
  rw [EZ.out] at hgz
  go_wp2
  refine bodyPost_ret (results_wide2 rfl wD _ _ rfl hgz HML.out) rfl ⟨rfl, ?_⟩
  exact (HB2.out.trans (B2.out.mono HB2.out.size)).trans (hbutz.below hl6)

set_option maxHeartbeats 400000 in
theorem names3_any (w : World) : Calls Tryd.prog 29 #[] w fun e w' => e = .returned (.bool true) ∧ w = w' := by
  go_enter Tryd.func29, Tryd.ntmps29
  go_wp2
  go_ret
  exact ⟨rfl, rfl⟩

/-- What a child is, and its error. -/
def chD (ds : List Int) (s : ByteArray) (i : Int) : List Int := if s.size = 0 ∨ 255 < s.size ∨ i < 0 then zer 32 else mc ds (chm s i)
def chE (s : ByteArray) (i : Int) : Int := if s.size = 0 ∨ 255 < s.size ∨ i < 0 then 2 else 0
theorem chD_length (ds : List Int) (s : ByteArray) (i : Int) : (chD ds s i).length = 32 := by
  unfold chD
  split
  · rfl
  · exact mc_length _ _
theorem child_any (ds : List Int) (s : ByteArray) (i : Int) (w : World) (hd : ds.length = 32) (hdb : isB ds) (hs : s.size ≤ 140737488351232) (hi1 : i < 9223372036854775808) (hk : KT w) :
    Calls Tryd.prog 30 #[.agg (u8s ds).toArray, .string s, .int .i64 i] w fun r w' => r = .returned (.tuple #[.agg (u8s (chD ds s i)).toArray, .int .i64 (chE s i)]) ∧ Below w.heap.size w w' := by
  by_cases h : s.size = 0 ∨ 255 < s.size ∨ i < 0
  · rw [chD, chE, if_pos h, if_pos h]
    exact child_bad ds s i w hs h
  · rw [chD, chE, if_neg h, if_neg h]
    exact child_good ds s i w hd hdb (by omega) (by omega) (by omega) hi1 hk
theorem childR_any (ds : List Int) (s : ByteArray) (i : Int) (w : World) (hd : ds.length = 32) (hdb : isB ds) (hs : s.size ≤ 140737488351232) (hi1 : i < 9223372036854775808) :
    Calls Tryd.prog 31 #[.agg (u8s ds).toArray, .string s, .int .i64 i] w fun r w' => r = .returned (.tuple #[.agg (u8s (chD ds s i)).toArray, .int .i64 (chE s i)]) ∧ Below w.heap.size w w' := by
  by_cases h : s.size = 0 ∨ 255 < s.size ∨ i < 0
  · rw [chD, chE, if_pos h, if_pos h]
    exact childR_bad ds s i w hs h
  · rw [chD, chE, if_neg h, if_neg h]
    exact childR_good ds s i w hd hdb (by omega) (by omega) (by omega) hi1

set_option maxHeartbeats 2000000 in
theorem children_walk (ds : List Int) (s : ByteArray) (i : Int) (w : World) (hd : ds.length = 32) (hdw : ∀ x ∈ ds, (Lit.int .u8 x).wf = true) (hs : s.size ≤ 140737488351232) (hi : (Lit.int .i64 i).wf = true) (hk : KT w) :
    Calls Tryd.prog 8 #[.agg (u8s ds).toArray, .string s, .int .i64 i] w fun e w' => e = .returned (.bool true) ∧ Below w.heap.size w w' := by
  have HK := hide hk
  have HD := hide hd
  have HDB := hide (show isB ds from fun x hx => bounds_u8 (hdw x hx))
  have HDL := hide (show (u8s ds).length = 32 by rw [u8s_length, HD.out])
  have hib := (bounds_i64 hi).2
  have HIB := hide (show i < 9223372036854775808 by omega)
  have HC := hide (chD_length ds s i)
  have HCL := hide (show (u8s (chD ds s i)).length = 32 by rw [u8s_length, HC.out])
  clear hk hd hdw hi hib
  go_enter Tryd.func8, Tryd.ntmps8
  go_wp2_with (refine step_box rfl rfl ?_)
  intro w1 g3 hg1 hle1 hb1
  have G1 := hide hg1
  have HB1 := hide hb1
  clear hg1 hb1
  go_wp2_with (refine step_loadA wD rfl rfl G1.out HDL.out ?_)
  refine (child_any ds s i _ HD.out HDB.out hs HIB.out (HK.out.below HB1.out HK.out.lt)).mono ?_
  rintro e w2 ⟨rfl, hb2⟩
  have G2 := hide (G1.out.below hb2 G1.out.lt)
  have HB2 := hide (HB1.out.trans (hb2.mono HB1.out.size))
  clear hb2
  go_wp2_with (refine step_alloc zD rfl ?_)
  intro w3 g7 hg3 hle3 hb3
  go_wp2_with (refine step_storeA wD rfl rfl rfl hg3 HCL.out (One.u8 _) rfl ?_)
  intro w4 hg4 hbut4
  have hb24 := hb3.trans (hbut4.below hle3)
  have G74 := hide hg4
  have G34 := hide (G2.out.below hb24 G2.out.lt)
  have HB4 := hide (HB2.out.trans (hb24.mono HB2.out.size))
  clear hg3 hb3 hg4 hbut4 hb24 hle3
  go_wp2_with (refine step_loadA wD rfl rfl G34.out HDL.out ?_)
  refine (childR_any ds s i _ HD.out HDB.out hs HIB.out).mono ?_
  rintro e w5 ⟨rfl, hb5⟩
  have G75 := hide (G74.out.below hb5 G74.out.lt)
  have HB5 := hide (HB4.out.trans (hb5.mono HB4.out.size))
  clear hb5
  go_wp2_with (refine step_alloc zD rfl ?_)
  intro w6 g9 hg6 hle6 hb6
  go_wp2_with (refine step_storeA wD rfl rfl rfl hg6 HCL.out (One.u8 _) rfl ?_)
  intro w7 hg7 hbut7
  have hb57 := hb6.trans (hbut7.below hle6)
  have G77 := hide (G75.out.below hb57 G75.out.lt)
  have G97 := hide hg7
  have HB7 := hide (HB5.out.trans (hb57.mono HB5.out.size))
  clear hg6 hb6 hg7 hbut7 hb57 hle6
  generalize chE s i = er
  go_wp2_with (first | (refine step_loadA wD rfl rfl G77.out HCL.out ?_) | (refine step_loadA wD rfl rfl G97.out HCL.out ?_) | (refine step_eqA aD rfl rfl rfl HC.out HC.out ?_) | (go_at_call 29; refine (names3_any _).mono ?_; rintro e w' ⟨rfl, rfl⟩))
  go_ret
  exact ⟨rfl, HB7.out⟩

end Go.Proofs.YtefaabmkcgdkiaaDoor
