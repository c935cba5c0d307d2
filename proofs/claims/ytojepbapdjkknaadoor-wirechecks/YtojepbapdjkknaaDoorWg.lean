/-
  wire: the digest that a reader of bytes tells; how many digests a proof has, by the program and by the document.
-/
import Derived.Test.YtojepbapdjkknaaDoorWn
import Derived.Test.YtojepbapdjkknaaDoorEn
namespace Go.Proofs.YtojepbapdjkknaaDoor
open Go.RowKit
set_option linter.unusedVariables false
set_option linter.unusedSimpArgs false

theorem joinE {T : Program} {c : Code} {a : Act} {w : World} {Q : Exit → Act → World → Prop} {K : Act → World → Prop} (P : Nat → World → Prop) (act : Nat → Act) (h1 : ∀ g W, P g W → K (act g) W) (h2 : (∀ g W, P g W → K (act g) W) → Code.wp T c (Exit.then K Q) a w) : Code.wp T c (Exit.then K Q) a w := h2 h1

set_option maxHeartbeats 400000 in
theorem octD_no (a : Option Addr) (len cap : Nat) (p : Int) (w : World) (hl : len ≤ 140737488355328) (h : p < 0 ∨ (len : Int) < p ∨ (len : Int) - p < 32) :
    Calls Tryd.prog 94 #[.slice a len cap, .int .i64 p] w fun e w' => e = .returned (.tuple #[.agg (u8s (zer 32)).toArray, .int .i64 0, .int .i64 (rdE len p 32)]) ∧ Below w.heap.size w w' := by
  have e3 : rdE len p 32 = 2 ∨ rdE len p 32 = 10 := by
    by_cases h1 : p < 0 ∨ (len : Int) < p
    · left; simp [rdE, h1]
    · right; have h2 : (len : Int) - p < 32 := by omega
      simp [rdE, h1, h2]
  have hne : (rdE len p 32 != 0) = true := by simp; omega
  clear e3 h
  go_enter Tryd.func94, Tryd.ntmps94
  go_wp2_with (refine step_alloc zD rfl ?_)
  intro w1 g1 hr1 hg1 hb1
  have G1 := hide hr1
  clear hr1
  go_wp2_with (first | (go_at_call 118; refine (room_any _ _ _ _ 32 _ hl (by omega)).mono ?_; rintro e w' ⟨rfl, rfl⟩) | (refine step_buildD rfl ?_) | (refine step_storeA wD rfl rfl rfl G1.out rfl (One.u8 _) rfl ?_; intro w2 hg2 hbut))
  refine bodyPost_ret (results_wide3 rfl wD _ _ rfl hg2 rfl) rfl ⟨rfl, ?_⟩
  exact hb1.trans (hbut.below hg1)

theorem Chg.fresh {g k : Nat} {w v v' : World} (h : Chg g w v) (hb : But k v v') (hk : w.heap.size ≤ k) : Chg g w v' :=
  ⟨hb.os.trans h.os, hb.tape.trans h.tape, hb.output.trans h.output, by rw [hb.size]; exact h.size, fun i hi hg => by rw [hb.block i (by omega)]; exact h.block i hi hg⟩
theorem rdE32_no {len : Nat} {p : Nat} (h : len < p + 32) : rdE len (p : Int) 32 ≠ 0 := by
  unfold rdE
  split
  · decide
  · rw [if_pos (by omega)]; decide

set_option maxRecDepth 100000 in
set_option maxHeartbeats 1000000 in
theorem dig_any (g : Nat) (a : Option Addr) (len cap : Nat) (p N E : Int) (D : List Int) (w : World) (hg : Blk w g 90 (brC (.slice a len cap) p)) (hD : D.length = 32)
    (hC : ∀ V : World, Below w.heap.size w V → Calls Tryd.prog 94 #[.slice a len cap, .int .i64 p] V fun e w' => e = .returned (.tuple #[.agg (u8s D).toArray, .int .i64 N, .int .i64 E]) ∧ Below V.heap.size V w') :
    Calls Tryd.prog 81 #[.pointer (some ⟨g, 0, none⟩)] w fun e w' =>
      (E = 0 → e = .returned (.agg (u8s D).toArray) ∧ Blk w' g 90 (brC (.slice a len cap) N) ∧ Chg g w w') ∧ (E ≠ 0 → e = .panicked PE ∧ Chg g w w') := by
  have G := hide hg
  have HC := hide hC
  have HDU := hide (show (u8s D).length = 32 by rw [u8s_length, hD])
  clear hg hC hD
  go_enter Tryd.func81, Tryd.ntmps81
  go_wp2_with (refine step_alloc zD rfl ?_)
  intro w1 g2 hr1 hl1 hb1
  have B1 := hide hb1
  have R2 := hide hr1
  have GW := hide (G.out.below hb1 G.out.lt)
  have hg2 : g < w.heap.size := G.out.lt
  clear hr1 hb1
  go_wp2_with fail
  refine joinE (fun g3 W => Blk W g3 45 (u8s D) ∧ w1.heap.size ≤ g3 ∧ Below w1.heap.size w1 W) ?act ?tail (fun hjoin => ?_)
  rotate_left
  rotate_left
  · have Y0 := hide ((Below.refl w1.heap.size w1).drew)
    have hc0 : ∀ v : World, Below w1.heap.size w1 v → v.cell? ⟨g, 0, none⟩ = some (.slice a len cap) := fun v hv => (br_at (GW.out.below hv GW.out.lt)).1
    have hc1 : ∀ v : World, Below w1.heap.size w1 v → v.cell? ⟨g, 1, none⟩ = some (.int .i64 p) := fun v hv => (br_at (GW.out.below hv GW.out.lt)).2
    refine wp_region_held_drew (S := fun v : World => Below w1.heap.size w1 v) (by kernel_rfl) Y0.out (fun hHeld => ?_)
    refine takeH 0 7 (.pointer (some ⟨g, 0, none⟩)) hHeld rfl rfl (by kernel_rfl) (by kernel_rfl) (by kernel_rfl) (fun _ _ _ h => h) (Or.inl ⟨by rfl, fun w _ => by go_simp⟩) ?_
    simp only [Act.put, List.setIfInBounds_toArray, List.set_cons_zero, List.set_cons_succ]
    refine takeH 1 8 (.pointer (some ⟨g, 0, none⟩)) hHeld rfl rfl (by kernel_rfl) (by kernel_rfl) (by kernel_rfl) (fun _ _ _ h => h) (Or.inl ⟨by rfl, fun w _ => by go_simp⟩) ?_
    simp only [Act.put, List.setIfInBounds_toArray, List.set_cons_zero, List.set_cons_succ]
    refine takeH 2 9 (.pointer (some ⟨g, 0, none⟩)) hHeld rfl rfl (by kernel_rfl) (by kernel_rfl) (by kernel_rfl) (fun _ _ _ h => h) (Or.inl ⟨by rfl, fun w _ => by go_simp⟩) ?_
    simp only [Act.put, List.setIfInBounds_toArray, List.set_cons_zero, List.set_cons_succ]
    refine takeH 3 10 (.slice a len cap) hHeld rfl rfl (by kernel_rfl) (by kernel_rfl) (by kernel_rfl) (fun _ _ _ h => h) (Or.inl ⟨by rfl, fun w hw => by have hw' : w.cell? ⟨g, 0, none⟩ = some (.slice a len cap) := hc0 _ hw; go_simp⟩) ?_
    simp only [Act.put, List.setIfInBounds_toArray, List.set_cons_zero, List.set_cons_succ]
    refine takeH 4 11 (.pointer (some ⟨g, 0, none⟩)) hHeld rfl rfl (by kernel_rfl) (by kernel_rfl) (by kernel_rfl) (fun _ _ _ h => h) (Or.inl ⟨by rfl, fun w _ => by go_simp⟩) ?_
    simp only [Act.put, List.setIfInBounds_toArray, List.set_cons_zero, List.set_cons_succ]
    refine takeH 5 12 (.pointer (some ⟨g, 0, none⟩)) hHeld rfl rfl (by kernel_rfl) (by kernel_rfl) (by kernel_rfl) (fun _ _ _ h => h) (Or.inl ⟨by rfl, fun w _ => by go_simp⟩) ?_
    simp only [Act.put, List.setIfInBounds_toArray, List.set_cons_zero, List.set_cons_succ]
    refine takeH 6 13 (.pointer (some ⟨g, 1, none⟩)) hHeld rfl rfl (by kernel_rfl) (by kernel_rfl) (by kernel_rfl) (fun _ _ _ h => h) (Or.inl ⟨by rfl, fun w _ => by go_simp⟩) ?_
    simp only [Act.put, List.setIfInBounds_toArray, List.set_cons_zero, List.set_cons_succ]
    refine takeH 7 14 (.int .i64 p) hHeld rfl rfl (by kernel_rfl) (by kernel_rfl) (by kernel_rfl) (fun _ _ _ h => h) (Or.inl ⟨by rfl, fun w hw => by have hw' : w.cell? ⟨g, 1, none⟩ = some (.int .i64 p) := hc1 _ hw; go_simp⟩) ?_
    simp only [Act.put, List.setIfInBounds_toArray, List.set_cons_zero, List.set_cons_succ]
    refine wpAnyH_ready (rs := [8, 13]) (by kernel_rfl) (by simp) (AllReadyH.cons rfl (fun K hK => ?_) (AllReadyH.cons rfl (fun K hK => ?_) AllReadyH.nil))
    · rw [if_pos (by rfl)]
      go_simp
      refine (HC.out _ (B1.out.trans (Y0.out.mono B1.out.size))).mono ?_
      rintro e v1 ⟨rfl, hv1⟩
      have Y1 := hide (on_below Y0.out hv1)
      refine hK.out _ _ Y1.out (fun hHeld => ?_)
      clear hK K
      try simp only [Act.put, List.setIfInBounds_toArray, List.set_cons_zero, List.set_cons_succ]
      refine takeH 9 6 (.tuple #[.agg (u8s D).toArray, .int .i64 N, .int .i64 E]) hHeld rfl rfl (by kernel_rfl) (by kernel_rfl) (by kernel_rfl) (fun _ _ _ h => h) (Or.inl ⟨by rfl, fun w _ => by go_simp⟩) ?_
      simp only [Act.put, List.setIfInBounds_toArray, List.set_cons_zero, List.set_cons_succ]
      refine takeH 10 16 (.agg (u8s D).toArray) hHeld rfl rfl (by kernel_rfl) (by kernel_rfl) (by kernel_rfl) (fun _ _ _ h => h) (Or.inl ⟨by rfl, fun w _ => by go_simp⟩) ?_
      simp only [Act.put, List.setIfInBounds_toArray, List.set_cons_zero, List.set_cons_succ]
      refine takeH 11 17 (.int .i64 N) hHeld rfl rfl (by kernel_rfl) (by kernel_rfl) (by kernel_rfl) (fun _ _ _ h => h) (Or.inl ⟨by rfl, fun w _ => by go_simp⟩) ?_
      simp only [Act.put, List.setIfInBounds_toArray, List.set_cons_zero, List.set_cons_succ]
      refine takeH 12 18 (.int .i64 E) hHeld rfl rfl (by kernel_rfl) (by kernel_rfl) (by kernel_rfl) (fun _ _ _ h => h) (Or.inl ⟨by rfl, fun w _ => by go_simp⟩) ?_
      simp only [Act.put, List.setIfInBounds_toArray, List.set_cons_zero, List.set_cons_succ]
      refine wpAnyH_ready (rs := [13]) (by kernel_rfl) (by simp) (AllReadyH.cons rfl (fun K hK => ?_) AllReadyH.nil)
      rw [if_pos (by rfl)]
      refine wp_allocG zD ?_
      intro v2 g3 hr3 hl3 hv2
      have G3 := hide hr3
      have Y2 := hide (on_below Y1.out hv2)
      have L3 : w1.heap.size ≤ g3 := Nat.le_trans Y1.out.size hl3
      refine hK.out _ _ Y2.out (fun hHeld => ?_)
      clear hK K
      try simp only [Act.put, List.setIfInBounds_toArray, List.set_cons_zero, List.set_cons_succ]
      refine wpAnyH_ready (rs := [14]) (by kernel_rfl) (by simp) (AllReadyH.cons rfl (fun K hK => ?_) AllReadyH.nil)
      rw [if_pos (by rfl)]
      refine wp_storeW wD rfl rfl rfl G3.out HDU.out (One.u8 _) (by rw [u8s_length, zer_length]; omega) ?_
      intro z1 hz1 hbz1
      rw [spl_full (by rw [HDU.out, u8s_length, zer_length])] at hz1
      have hbz := Y2.out.trans (hbz1.below L3)
      refine hK.out _ _ hbz (fun hHeld => ?_)
      clear hK K
      try simp only [Act.put, List.setIfInBounds_toArray, List.set_cons_zero, List.set_cons_succ]
      refine wpAnyH_ready (rs := [15]) (by kernel_rfl) (by simp) (AllReadyH.cons rfl (fun K hK => ?_) AllReadyH.nil)
      rw [if_pos (by rfl)]
      go_simp
      refine hK.out _ _ hbz (fun hHeld => ?_)
      clear hK K
      try simp only [Act.put, List.setIfInBounds_toArray, List.set_cons_zero, List.set_cons_succ]
      refine wpAnyH_ready (rs := [16]) (by kernel_rfl) (by simp) (AllReadyH.cons rfl (fun K hK => ?_) AllReadyH.nil)
      rw [if_pos (by rfl)]
      go_simp
      refine hK.out _ _ hbz (fun hHeld => ?_)
      clear hK K
      try simp only [Act.put, List.setIfInBounds_toArray, List.set_cons_zero, List.set_cons_succ]
      refine wpAnyH_done (by kernel_rfl) ?_ _
      exact hjoin _ _ ⟨hz1, L3, hbz⟩
    · rw [if_pos (by rfl)]
      refine wp_allocG zD ?_
      intro v1 g3 hr3 hl3 hv1
      have Y1 := hide (on_below Y0.out hv1)
      have L3 : w1.heap.size ≤ g3 := Nat.le_trans Y0.out.size hl3
      refine hK.out _ _ Y1.out (fun hHeld => ?_)
      clear hK K
      try simp only [Act.put, List.setIfInBounds_toArray, List.set_cons_zero, List.set_cons_succ]
      refine wpAnyH_ready (rs := [8]) (by kernel_rfl) (by simp) (AllReadyH.cons rfl (fun K hK => ?_) AllReadyH.nil)
      rw [if_pos (by rfl)]
      go_simp
      refine (HC.out _ (B1.out.trans (Y1.out.mono B1.out.size))).mono ?_
      rintro e v2 ⟨rfl, hv2⟩
      have Y2 := hide (on_below Y1.out hv2)
      have G3 := hide (hr3.on hv2)
      refine hK.out _ _ Y2.out (fun hHeld => ?_)
      clear hK K
      try simp only [Act.put, List.setIfInBounds_toArray, List.set_cons_zero, List.set_cons_succ]
      refine takeH 9 6 (.tuple #[.agg (u8s D).toArray, .int .i64 N, .int .i64 E]) hHeld rfl rfl (by kernel_rfl) (by kernel_rfl) (by kernel_rfl) (fun _ _ _ h => h) (Or.inl ⟨by rfl, fun w _ => by go_simp⟩) ?_
      simp only [Act.put, List.setIfInBounds_toArray, List.set_cons_zero, List.set_cons_succ]
      refine takeH 10 16 (.agg (u8s D).toArray) hHeld rfl rfl (by kernel_rfl) (by kernel_rfl) (by kernel_rfl) (fun _ _ _ h => h) (Or.inl ⟨by rfl, fun w _ => by go_simp⟩) ?_
      simp only [Act.put, List.setIfInBounds_toArray, List.set_cons_zero, List.set_cons_succ]
      refine takeH 11 17 (.int .i64 N) hHeld rfl rfl (by kernel_rfl) (by kernel_rfl) (by kernel_rfl) (fun _ _ _ h => h) (Or.inl ⟨by rfl, fun w _ => by go_simp⟩) ?_
      simp only [Act.put, List.setIfInBounds_toArray, List.set_cons_zero, List.set_cons_succ]
      refine takeH 12 18 (.int .i64 E) hHeld rfl rfl (by kernel_rfl) (by kernel_rfl) (by kernel_rfl) (fun _ _ _ h => h) (Or.inl ⟨by rfl, fun w _ => by go_simp⟩) ?_
      simp only [Act.put, List.setIfInBounds_toArray, List.set_cons_zero, List.set_cons_succ]
      refine wpAnyH_ready (rs := [14]) (by kernel_rfl) (by simp) (AllReadyH.cons rfl (fun K hK => ?_) AllReadyH.nil)
      rw [if_pos (by rfl)]
      refine wp_storeW wD rfl rfl rfl G3.out HDU.out (One.u8 _) (by rw [u8s_length, zer_length]; omega) ?_
      intro z1 hz1 hbz1
      rw [spl_full (by rw [HDU.out, u8s_length, zer_length])] at hz1
      have hbz := Y2.out.trans (hbz1.below L3)
      refine hK.out _ _ hbz (fun hHeld => ?_)
      clear hK K
      try simp only [Act.put, List.setIfInBounds_toArray, List.set_cons_zero, List.set_cons_succ]
      refine wpAnyH_ready (rs := [15]) (by kernel_rfl) (by simp) (AllReadyH.cons rfl (fun K hK => ?_) AllReadyH.nil)
      rw [if_pos (by rfl)]
      go_simp
      refine hK.out _ _ hbz (fun hHeld => ?_)
      clear hK K
      try simp only [Act.put, List.setIfInBounds_toArray, List.set_cons_zero, List.set_cons_succ]
      refine wpAnyH_ready (rs := [16]) (by kernel_rfl) (by simp) (AllReadyH.cons rfl (fun K hK => ?_) AllReadyH.nil)
      rw [if_pos (by rfl)]
      go_simp
      refine hK.out _ _ hbz (fun hHeld => ?_)
      clear hK K
      try simp only [Act.put, List.setIfInBounds_toArray, List.set_cons_zero, List.set_cons_succ]
      refine wpAnyH_done (by kernel_rfl) ?_ _
      exact hjoin _ _ ⟨hz1, L3, hbz⟩
  · rintro g3 W ⟨hr3, hl3, hbW⟩
    have GX := hide (GW.out.on hbW)
    have R2W := hide (R2.out.on hbW)
    have R3 := hide hr3
    have CH : Hid (Chg g w W) := hide (Chg.of_below (on_below B1.out hbW))
    obtain ⟨c0, c1⟩ := br_at GX.out
    have hfz := GX.out.free 1
    have n2 : g2 ≠ g := by omega
    have n3 : g3 ≠ g := by have := B1.out.size; omega
    have n23 : g2 ≠ g3 := by have := R2.out.lt; omega
    clear hr3 hl3 hbW HC GW R2 B1 G
    by_cases hE : E = 0
    · subst hE
      go_wp2_with fail
      refine (need_ok _).mono ?_
      rintro e w' ⟨rfl, rfl⟩
      have GN := hide (GX.out.set 1 (.int .i64 N))
      have BN := hide (But.setCell w' g 1 (.int .i64 N))
      have R2N := hide (R2W.out.but BN.out n2)
      have R3N := hide (R3.out.but BN.out n3)
      go_wp2_with (first | (refine step_loadA wD rfl rfl R3N.out HDU.out ?_) | (refine step_storeA wD rfl rfl rfl R2N.out HDU.out (One.u8 _) (by rw [u8s_length, zer_length]) ?_; intro w9 hg9 hbut9))
      refine bodyPost_ret (results_wide rfl wD _ _ rfl hg9 HDU.out) rfl ⟨rfl, GN.out.but hbut9 n2.symm, (CH.out.trans (Chg.of_but BN.out)).fresh hbut9 hl1⟩
    · have hne : (E == 0) = false := by simpa using hE
      go_wp2_with fail
      refine (need_no _).mono ?_
      rintro e w' ⟨rfl, rfl⟩
      exact ⟨rfl, fun h => absurd h hE, fun _ => ⟨rfl, CH.out⟩⟩
theorem dig_ok (g : Nat) (a : Option Addr) (len cap : Nat) (xs : List Int) (p : Nat) (w : World) (hg : Blk w g 90 (brC (.slice a len cap) (p : Int))) (hs : Sl w a len cap xs) (hp : p + 32 ≤ len) :
    Calls Tryd.prog 81 #[.pointer (some ⟨g, 0, none⟩)] w fun e w' => e = .returned (.agg (u8s ((xs.drop p).take 32)).toArray) ∧ Blk w' g 90 (brC (.slice a len cap) ((p + 32 : Nat) : Int)) ∧ Chg g w w' := by
  obtain ⟨b, off, rfl, _⟩ := hs.hcell (by omega)
  refine (dig_any g _ len cap (p : Int) ((p : Int) + 32) 0 ((xs.drop p).take 32) w hg (by rw [List.length_take, List.length_drop, hs.hlen]; omega) (fun V hV => octD_ok b off len cap xs p V (hs.below hV) hp)).mono ?_
  rintro e w' ⟨h, _⟩
  rw [show ((p + 32 : Nat) : Int) = (p : Int) + 32 by omega]
  exact h rfl
theorem dig_no (g : Nat) (a : Option Addr) (len cap : Nat) (p : Nat) (w : World) (hg : Blk w g 90 (brC (.slice a len cap) (p : Int))) (hl : len ≤ 140737488355328) (hp : len < p + 32) :
    Calls Tryd.prog 81 #[.pointer (some ⟨g, 0, none⟩)] w fun e w' => e = .panicked PE ∧ Chg g w w' := by
  refine (dig_any g _ len cap (p : Int) 0 (rdE len (p : Int) 32) (zer 32) w hg (zer_length 32) (fun V hV => octD_no a len cap (p : Int) V hl (by omega))).mono ?_
  rintro e w' ⟨_, h⟩
  exact h (rdE32_no hp)

/-- How many digests a proof has; none: there is no such proof. -/
def pcnt (k i n : Int) : Option Nat :=
  if k = 1 then (if 0 ≤ i ∧ i < n ∧ n ≤ 281474976710656 then some (hvL i.toNat 0 n.toNat).length else none)
  else if k = 2 then (if 1 ≤ i ∧ i ≤ n ∧ n ≤ 281474976710656 then some ((hvM i.toNat 0 n.toNat).length + ptM i.toNat 0 n.toNat) else none)
  else none
theorem pcnt_le {k i n : Int} {m : Nat} (h : pcnt k i n = some m) : m ≤ 49 := by
  unfold pcnt at h
  split at h
  · split at h
    · rename_i h1
      obtain rfl := Option.some.inj h
      have := hvL_few (i := i.toNat) (b := 0) (n := n.toNat) (Nat.zero_le _) (by omega) (by omega)
      omega
    · cases h
  · split at h
    · split at h
      · rename_i h1
        obtain rfl := Option.some.inj h
        have := hvM_few (m := i.toNat) (b := 0) (n := n.toNat) (by omega) (by omega) (by omega) (by omega)
        have := ptM_le i.toNat 0 n.toNat
        omega
      · cases h
    · cases h
/-- The cells of a proof. -/
def pfC (k i n : Int) (v : Value) : List Value := [.int .i64 k, .int .i64 i, .int .i64 n, v]
theorem wP : Wide 24 4 := ⟨by kernel_rfl, by kernel_rfl⟩
theorem zP : Zeroed 24 (pfC 0 0 0 (.slice none 0 0)) := fun _ _ _ _ _ _ _ => by kernel_rfl
theorem pf_at {w : World} {g : Nat} {t : TypeId} {k i n : Int} {v : Value} (h : Blk w g t (pfC k i n v)) : w.cell? ⟨g, 0, none⟩ = some (.int .i64 k) ∧ w.cell? ⟨g, 1, none⟩ = some (.int .i64 i) ∧ w.cell? ⟨g, 2, none⟩ = some (.int .i64 n) ∧ w.cell? ⟨g, 3, none⟩ = some v :=
  ⟨by rw [h.cell]; rfl, by rw [h.cell]; rfl, by rw [h.cell]; rfl, by rw [h.cell]; rfl⟩
theorem lengthV (i n : Int) (w : World) : ∃ m : Nat, ∃ E : Int, ((E = 0 ∧ pcnt 1 i n = some m) ∨ (E ≠ 0 ∧ m = 0 ∧ pcnt 1 i n = none)) ∧ (∀ V : World, Calls Tryd.prog 65 #[.int .i64 i, .int .i64 n] V fun r w' => r = .returned (.tuple #[.int .i64 (m : Int), .int .i64 E]) ∧ Below V.heap.size V w') ∧
    ∀ V : World, Calls Tryd.prog 67 #[.int .i64 i, .int .i64 n] V fun r w' => r = .returned (.tuple #[.int .i64 (m : Int), .int .i64 E]) ∧ w' = V := by
  by_cases h : 0 ≤ i ∧ i < n ∧ n ≤ 281474976710656
  · obtain ⟨a, rfl⟩ := Int.eq_ofNat_of_zero_le h.1
    obtain ⟨b, rfl⟩ := Int.eq_ofNat_of_zero_le (show 0 ≤ n by omega)
    exact ⟨(hvL a 0 b).length, 0, .inl ⟨rfl, by unfold pcnt; rw [if_pos rfl, if_pos h]; rfl⟩, fun V => length_ok a b V (by omega) (by omega), fun V => lengthR_ok a b V (by omega) (by omega)⟩
  · exact ⟨0, 40, .inr ⟨by decide, rfl, by unfold pcnt; rw [if_pos rfl, if_neg h]⟩, fun V => length_bad i n V (by omega), fun V => lengthR_bad i n V (by omega)⟩
theorem stepsV (i n : Int) (w : World) : ∃ m : Nat, ∃ E : Int, ((E = 0 ∧ pcnt 2 i n = some m) ∨ (E ≠ 0 ∧ m = 0 ∧ pcnt 2 i n = none)) ∧ (∀ V : World, Calls Tryd.prog 66 #[.int .i64 i, .int .i64 n] V fun r w' => r = .returned (.tuple #[.int .i64 (m : Int), .int .i64 E]) ∧ Below V.heap.size V w') ∧
    ∀ V : World, Calls Tryd.prog 68 #[.int .i64 i, .int .i64 n] V fun r w' => r = .returned (.tuple #[.int .i64 (m : Int), .int .i64 E]) ∧ w' = V := by
  by_cases h : 1 ≤ i ∧ i ≤ n ∧ n ≤ 281474976710656
  · obtain ⟨a, rfl⟩ := Int.eq_ofNat_of_zero_le (show 0 ≤ i by omega)
    obtain ⟨b, rfl⟩ := Int.eq_ofNat_of_zero_le (show 0 ≤ n by omega)
    exact ⟨(hvM a 0 b).length + ptM a 0 b, 0, .inl ⟨rfl, by unfold pcnt; rw [if_neg (by decide), if_pos rfl, if_pos h]; rfl⟩, fun V => steps_ok a b V (by omega) (by omega) (by omega), fun V => stepsR_ok a b V (by omega) (by omega) (by omega)⟩
  · exact ⟨0, 40, .inr ⟨by decide, rfl, by unfold pcnt; rw [if_neg (by decide), if_pos rfl, if_neg h]⟩, fun V => steps_bad i n V (by omega), fun V => stepsR_bad i n V (by omega)⟩

end Go.Proofs.YtojepbapdjkknaaDoor
