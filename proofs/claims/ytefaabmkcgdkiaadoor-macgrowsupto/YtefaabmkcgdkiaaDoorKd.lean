/-
  Keyed digests: New, isMade, Write, Sum, Mac, Extract.
-/
import Derived.Test.YtefaabmkcgdkiaaDoorMk
import Derived.Test.YtefaabmkcgdkiaaDoorGr
import Derived.Test.YtefaabmkcgdkiaaDoorPg
import Derived.Test.YtefaabmkcgdkiaaDoorSc
namespace Go.Proofs.YtefaabmkcgdkiaaDoor
open Go.RowKit
set_option linter.unusedVariables false

/-- The cells of a keyed digest: its state's place, the outer block. -/
def kdC (g : Nat) (o : List Int) : List Value := Value.pointer (some ⟨g, 0, none⟩) :: u8s o
theorem recK : Rec 82 (Value.pointer none :: u8s (zer 64)) [(0, 1), (1, 64)] := fun _ => by kernel_rfl
theorem build_K (g : Nat) (o : List Int) (ho : o.length = 64) (w : World) : (Instr.build 82 #[(0, .pointer (some ⟨g, 0, none⟩)), (1, .agg (u8s o).toArray)]).run Tryd.prog w = .ok (.agg (kdC g o).toArray) w := by
  refine run_build w _ _ _ ?_
  show Tryd.prog.built 82 [(0, .pointer (some ⟨g, 0, none⟩)), (1, .agg (u8s o).toArray)] = _
  rw [recK, fill_cons (off := 0) (size := 1) (vs := [.pointer (some ⟨g, 0, none⟩)]) rfl rfl rfl (by simp [u8s_length, zer_length])]
  rw [fill_cons (off := 1) (size := 64) (vs := u8s o) rfl rfl (by rw [u8s_length, ho]) (by simp [spl, u8s_length, zer_length]), fill_nil]
  congr 2
  simp [spl, kdC, u8s_length, zer_length, ho]
theorem run_buildK {dst : Option Tmp} {ty : TypeId} {pos : String} {aft : Array Edge} {gd : Option (Nat × Bool)} {a : Act} {w : World} {x y : Operand} {g : Nat} {o : List Int} (hx : a.eval x = .pointer (some ⟨g, 0, none⟩)) (hy : a.eval y = .agg (u8s o).toArray) (ho : o.length = 64) :
    (execOp a.eval ⟨dst, .build 82 #[(0, x), (1, y)], ty, pos, aft, gd⟩).run Tryd.prog w = .ok (.value (.agg (kdC g o).toArray)) w := by
  unfold execOp
  simp only [List.map_toArray, List.map_cons, List.map_nil, hx, hy]
  simp only [Sem.run_bind, build_K g o ho, Result.andThen_ok, Sem.run_pure]

/-- A keyed digest in memory: at k, its state at g, under that key, behind m. -/
structure Kd (w : World) (k g : Nat) (key m : List Int) : Prop where
  obj : Blk w k 82 (kdC g (mk 92 (kb key)))
  st : Blk w g 65 (stM bL 0 (mk 54 (kb key) ++ m))
theorem Kd.ne {w : World} {k g : Nat} {key m : List Int} (h : Kd w k g key m) : k ≠ g := by
  rintro rfl
  have e := h.obj.symm.trans h.st
  injection e with e
  injection e with _ e2 _
  revert e2
  decide
theorem Kd.below {w w' : World} {k g : Nat} {key m : List Int} (h : Kd w k g key m) (hb : Below w.heap.size w w') : Kd w' k g key m := ⟨h.obj.below hb h.obj.lt, h.st.below hb h.st.lt⟩
theorem Kd.cell {w : World} {k g : Nat} {key m : List Int} (h : Kd w k g key m) : w.cell? ⟨k, 0, none⟩ = some (.pointer (some ⟨g, 0, none⟩)) := by rw [h.obj.cell]; rfl
/-- What was hashed first. -/
def inn (key : List Int) : List Int := mk 54 (kb key)
theorem inn_length (key : List Int) : (inn key).length = 64 := by rw [inn, mk_length, kb_length]
theorem inn_isB (key : List Int) (h : isB key) : isB (inn key) := mk_isB _ _ (by omega) (kb_isB key h)
def outb (key : List Int) : List Int := mk 92 (kb key)
theorem outb_length (key : List Int) : (outb key).length = 64 := by rw [outb, mk_length, kb_length]
theorem outb_isB (key : List Int) (h : isB key) : isB (outb key) := mk_isB _ _ (by omega) (kb_isB key h)
/-- The keyed digest. -/
def mc (key m : List Int) : List Int := dg bL 0 (outb key ++ dg bL 0 (inn key ++ m))
theorem mc_length (key m : List Int) : (mc key m).length = 32 := dg_length _ _ _ rfl
theorem mc_isB (key m : List Int) : isB (mc key m) := dg_isB _ _ _

set_option maxRecDepth 100000 in
set_option maxHeartbeats 2000000 in
theorem macNew_any (a : Option Addr) (len cap : Nat) (xs : List Int) (w : World) (hs : Sl w a len cap xs) (hk : KT w) :
    Calls Tryd.prog 23 #[.slice a len cap] w fun e w' => ∃ k g, e = .returned (.pointer (some ⟨k, 0, none⟩)) ∧ w.heap.size ≤ k ∧ w.heap.size ≤ g ∧ Kd w' k g xs [] ∧ Below w.heap.size w w' := by
  have HS := hide hs
  have HK := hide hk
  have HKL := hide (show (u8s (kb xs)).length = 64 by rw [u8s_length, kb_length])
  have HKN := hide (kb_length xs)
  have HKB := hide (kb_isB xs hs.hbyte)
  have HO := hide (show (mk 92 (kb xs)).length = 64 by rw [mk_length, kb_length])
  clear hs hk
  go_enter Tryd.func23, Tryd.ntmps23
  go_wp2_with fail
  refine (keyBlock_any _ _ _ xs _ HS.out HK.out).mono ?_
  rintro e w1 ⟨rfl, hb1⟩
  go_wp2_with (refine step_alloc zBl rfl ?_)
  intro w2 g3 hg2 hle2 hb2
  go_wp2_with (refine step_storeA wB64 rfl rfl rfl hg2 HKL.out (One.u8 _) rfl ?_)
  intro w3 hg3 hbut3
  have HB3 := hide (hb1.trans ((hb2.trans (hbut3.below hle2)).mono hb1.size))
  have G3 := hide hg3
  have hu := aB64.und
  have hi : (Tryd.prog.info? 63).map (·.size) = some (u8s (kb xs)).length := by rw [wB64.size, HKL.out]
  clear hg2 hg3 hb1 hb2 hbut3 hle2
  go_wp2_with fail
  refine wp_region_noPanic ?_
  have B0 := hide ((Below.refl w3.heap.size w3).drew)
  refine wp_region_held_drew (S := fun v : World => v.rangeAt g3 0 (u8s (kb xs))) (by kernel_rfl) ((G3.out.below B0.out G3.out.lt).range 0 _ (by simp)) (fun hHeld => ?_)
  refine takeH 1 9 (.agg (u8s (kb xs)).toArray) hHeld rfl rfl (by kernel_rfl) (by kernel_rfl) (by kernel_rfl) (fun _ _ _ h => h) (yieldsIf_load_mid (by rfl) _ _ rfl g3 0 rfl _ _ (fun w h => h) hu rfl hi) ?_
  simp only [Act.put, List.setIfInBounds_toArray, List.set_cons_zero, List.set_cons_succ]
  refine wpAnyH_ready (rs := [0]) (by kernel_rfl) (by simp) (AllReadyH.cons rfl (fun K hK => ?_) AllReadyH.nil)
  rw [if_pos (by rfl)]
  go_simp
  refine (new_any _).mono ?_
  rintro e v1 ⟨g, rfl, hgl, hgb, hv1⟩
  have B1 := hide (B0.out.trans (hv1.mono B0.out.size))
  have hg3' : w3.heap.size ≤ g := Nat.le_trans B0.out.size hgl
  have GS1 := hide hgb
  refine hK.out _ _ ((G3.out.below B1.out G3.out.lt).range 0 _ (by simp)) (fun hHeld => ?_)
  clear hK K
  clear hv1 hgl hgb
  refine wpAnyH_ready (rs := [2]) (by kernel_rfl) (by simp) (AllReadyH.cons rfl (fun K hK => ?_) AllReadyH.nil)
  rw [if_pos (by rfl)]
  go_simp
  refine (masked_any (kb xs) 92 _ HKN.out).mono ?_
  rintro e v2 ⟨rfl, hv2⟩
  have B2 := hide (B1.out.trans (hv2.mono B1.out.size))
  have GS2 := hide (GS1.out.below hv2 GS1.out.lt)
  refine hK.out _ _ ((G3.out.below B2.out G3.out.lt).range 0 _ (by simp)) (fun hHeld => ?_)
  clear hK K
  clear hv2 GS1
  refine takeH 3 11 (.agg (kdC g (mk 92 (kb xs))).toArray) hHeld rfl rfl (by kernel_rfl) (by kernel_rfl) (by kernel_rfl) (fun _ _ _ h => h) (Or.inl ⟨by rfl, fun w _ => run_buildK rfl rfl HO.out⟩) ?_
  simp only [Act.put, List.setIfInBounds_toArray, List.set_cons_zero, List.set_cons_succ]
  refine wpAnyH_ready (rs := [4]) (by kernel_rfl) (by simp) (AllReadyH.cons rfl (fun K hK => ?_) AllReadyH.nil)
  rw [if_pos (by rfl)]
  refine wp_boxG rfl ?_
  intro v3 k hkb hkl hv3
  have B3 := hide (B2.out.trans (hv3.mono B2.out.size))
  have GS3 := hide (GS2.out.below hv3 GS2.out.lt)
  have hk3 : w3.heap.size ≤ k := Nat.le_trans B2.out.size hkl
  have hkg : k ≠ g := by have := GS2.out.lt; omega
  have GK3 := hide hkb
  refine hK.out _ _ ((G3.out.below B3.out G3.out.lt).range 0 _ (by simp)) (fun hHeld => ?_)
  clear hK K
  simp only [Act.put, List.setIfInBounds_toArray, List.set_cons_zero, List.set_cons_succ]
  clear hv3 hkb hkl GS2
  refine takeH 5 4 (.pointer (some ⟨k, 0, none⟩)) hHeld rfl rfl (by kernel_rfl) (by kernel_rfl) (by kernel_rfl) (fun _ _ _ h => h) (Or.inl ⟨by rfl, fun w _ => by go_simp⟩) ?_
  simp only [Act.put, List.setIfInBounds_toArray, List.set_cons_zero, List.set_cons_succ]
  refine wpAnyH_done (by kernel_rfl) ?_ _
  refine NoPanic.normal ?_
  clear hHeld
  have G33 := hide (G3.out.below B3.out G3.out.lt)
  have HBv := hide (HB3.out.trans (B3.out.mono HB3.out.size))
  have hg3ne : g ≠ g3 := by have := G3.out.lt; omega
  have hk3ne : k ≠ g3 := by have := G3.out.lt; omega
  go_wp2_with (first | (refine step_loadA wB64 rfl rfl G33.out HKL.out ?_) | fail)
  refine (masked_any (kb xs) 54 _ HKN.out).mono ?_
  rintro e w4 ⟨rfl, hb4⟩
  have HML := hide (show (u8s (mk 54 (kb xs))).length = 64 by rw [u8s_length, mk_length, HKN.out])
  go_wp2_with (first | (refine step_alloc zBl rfl ?_; intro w5 g5 hg5 hle5 hb5; have G5 := hide hg5; clear hg5) | (refine step_storeA wB64 rfl rfl rfl G5.out HML.out (One.u8 _) rfl ?_; intro w6 hg6 hbut6))
  have HB46 := hide (hb4.trans ((hb5.trans (hbut6.below hle5)).mono hb4.size))
  have HBw := hide (HBv.out.trans (HB46.out.mono HBv.out.size))
  have GS6 := hide (GS3.out.below HB46.out GS3.out.lt)
  have GK6 := hide (GK3.out.below HB46.out GK3.out.lt)
  have K6 := hide (HK.out.below HBw.out HK.out.lt)
  have hg0 : g ≠ 0 := by have := HK.out.lt; have := HB3.out.size; omega
  have hg5g : g5 ≠ g := by have := GS3.out.lt; have := hb4.size; omega
  have hg5k : g5 ≠ k := by have := GK3.out.lt; have := hb4.size; omega
  have SM := hide (hg6.sl0 (mk_isB 54 _ (by omega) HKB.out) (by rw [mk_length, HKN.out]; omega))
  have EL := hide (show (mk 54 (kb xs)).length = 64 by rw [mk_length, HKN.out])
  rw [EL.out] at SM
  have hcK : w6.cell? ⟨k, 0, none⟩ = some (.pointer (some ⟨g, 0, none⟩)) := by rw [GK6.out.cell]; rfl
  have hsl := slice_Bl g5
  have AP : Hid (0 < 64 → Apart g (some ⟨g5, 0, none⟩)) := hide (fun _ x hx => by cases hx; exact hg5g)
  clear hb4 hb5 hbut6 hg6 G5 G33 GS3 GK3 HB46
  go_wp2_with fail
  go_region_held3 (fun v : World => v.cell? ⟨k, 0, none⟩ = some (.pointer (some ⟨g, 0, none⟩))) (first | exact hcK | exact hcK7) (first | (go_at_call 12; refine (write_any bL 0 [] g _ _ _ _ _ (by exact GS6.out.below ((Below.refl _ _).drew) GS6.out.lt) rfl rfl (by intro x hx; simp at hx) (by exact SM.out.below ((Below.refl _ _).drew)) AP.out (by exact K6.out.below ((Below.refl _ _).drew) K6.out.lt) hg0 (by simp)).mono ?_; rintro e w7 ⟨rfl, hg7, hc7⟩; have GK7 := hide ((GK6.out.below ((Below.refl _ _).drew) GK6.out.lt).chg hc7 hkg); have hcK7 : w7.cell? ⟨k, 0, none⟩ = some (.pointer (some ⟨g, 0, none⟩)) := by rw [GK7.out.cell]; rfl))
  rw [List.nil_append] at hg7
  have HW7 := hide ((HBw.out.drew).trans (hc7.below (Nat.le_trans HB3.out.size hg3') HBw.out.size))
  go_wp2
  go_ret
  exact ⟨k, g, rfl, Nat.le_trans HB3.out.size hk3, Nat.le_trans HB3.out.size hg3', ⟨GK7.out, by rw [List.append_nil]; exact hg7⟩, HW7.out⟩

theorem kdMade_any (k g : Nat) (key m : List Int) (w : World) (h : Kd w k g key m) :
    Calls Tryd.prog 50 #[.pointer (some ⟨k, 0, none⟩)] w fun e w' => e = .returned (.bool true) ∧ w = w' := by
  have hc := h.cell
  have HG := hide h.st
  have HL := hide (show (0 : Int) < ((inn key).length : Int) + (m.length : Int) by rw [inn_length]; omega)
  clear h
  go_enter Tryd.func50, Tryd.ntmps50
  go_wp2_with (go_at_call 36; refine (len_any bL 0 (inn key ++ m) _ _ HG.out rfl).mono ?_; rintro e w' ⟨rfl, rfl⟩)
  go_ret
  refine ⟨?_, rfl⟩
  show Ending.returned (Value.bool (decide _)) = _
  rw [decide_eq_true HL.out]

set_option maxHeartbeats 1000000 in
theorem kdWrite_any (k g : Nat) (key m : List Int) (a : Option Addr) (len cap : Nat) (xs : List Int) (w : World) (h : Kd w k g key m) (hkb : isB key) (hmb : isB m) (hs : Sl w a len cap xs) (hap : 0 < len → Apart g a) (hk : KT w) (hg0 : g ≠ 0) (hbd : m.length + len ≤ 1152921504606846976) :
    Calls Tryd.prog 26 #[.pointer (some ⟨k, 0, none⟩), .slice a len cap] w fun e w' => e = .returned (.int .i64 0) ∧ Kd w' k g key (m ++ xs) ∧ Chg g w w' := by
  have H := hide h
  have hc := h.cell
  have HKB := hide hkb
  have HMB := hide hmb
  have HS := hide hs
  have HA := hide hap
  have HK := hide hk
  have HBD := hide hbd
  clear h hkb hmb hs hap hk hbd
  go_enter Tryd.func26, Tryd.ntmps26
  go_wp2_with (first | (go_at_call 50; refine (kdMade_any k g key m _ H.out).mono ?_; rintro e w' ⟨rfl, rfl⟩) | (go_at_call 12; refine (write_any bL 0 (inn key ++ m) g _ _ _ _ _ H.out.st rfl rfl ((inn_isB key HKB.out).append HMB.out) HS.out HA.out HK.out hg0 (by have := HBD.out; rw [List.length_append, inn_length]; omega)).mono ?_; rintro e w1 ⟨rfl, hg1, hc1⟩))
  go_ret
  exact ⟨rfl, ⟨H.out.obj.chg hc1 H.out.ne, by rw [← List.append_assoc]; exact hg1⟩, hc1⟩

theorem slice_Ko (k : Nat) (v : World) : (Instr.sliceAt 63 (.pointer (some ⟨k, 1, none⟩)) none none none).run Tryd.prog v = .ok (.slice (some ⟨k, 1, none⟩) 64 64) v := by kernel_rfl
theorem Kd.sl {w : World} {k g : Nat} {key m : List Int} (h : Kd w k g key m) (hk : isB key) : Sl w (some ⟨k, 1, none⟩) 64 64 (outb key) := by
  have e := h.obj.sl 1 64 (outb key) (show (u8s (outb key)).take (outb key).length = u8s (outb key) from List.take_of_length_le (by rw [u8s_length]; exact Nat.le_refl _)) (outb_isB key hk) (by rw [outb_length]; omega) (by rw [outb_length]; omega) (by omega)
  rw [outb_length] at e
  exact e

set_option maxRecDepth 100000 in
set_option maxHeartbeats 2000000 in
theorem kdSum_any (k g : Nat) (key m : List Int) (w : World) (h : Kd w k g key m) (hkb : isB key) (hmb : isB m) (hk : KT w) (hbd : m.length ≤ 1152921504606846976) :
    Calls Tryd.prog 25 #[.pointer (some ⟨k, 0, none⟩)] w fun e w' => e = .returned (.agg (u8s (mc key m)).toArray) ∧ Below w.heap.size w w' := by
  have H := hide h
  have HKB := hide hkb
  have HMB := hide hmb
  have HK := hide hk
  have HBD := hide hbd
  have HD := hide (dg_length bL 0 (inn key ++ m) rfl)
  have HML := hide (show (u8s (mc key m)).length = 32 by rw [u8s_length, mc_length])
  clear h hkb hmb hk hbd
  go_enter Tryd.func25, Tryd.ntmps25
  go_wp2_with (refine step_alloc zD rfl ?_)
  intro w1 g1 hg1 hle1 hb1
  have H1 := hide (H.out.below hb1)
  have K1 := hide (HK.out.below hb1 HK.out.lt)
  have G1 := hide hg1
  clear hg1
  go_wp2_with (go_at_call 50; refine (kdMade_any k g key m _ H1.out).mono ?_; rintro e w' ⟨rfl, rfl⟩)
  refine wp_region_noPanic ?_
  have B0 := hide ((Below.refl w1.heap.size w1).drew)
  have hsl := slice_Ko k
  refine wp_region_held_drew (S := fun v : World => v.cell? ⟨k, 0, none⟩ = some (.pointer (some ⟨g, 0, none⟩))) (by kernel_rfl) (H1.out.below B0.out).cell (fun hHeld => ?_)
  refine takeH 0 7 (.pointer (some ⟨k, 0, none⟩)) hHeld rfl rfl (by kernel_rfl) (by kernel_rfl) (by kernel_rfl) (fun _ _ _ h => h) (Or.inl ⟨by rfl, fun w _ => by go_simp⟩) ?_
  simp only [Act.put, List.setIfInBounds_toArray, List.set_cons_zero, List.set_cons_succ]
  refine takeH 1 8 (.pointer (some ⟨k, 0, none⟩)) hHeld rfl rfl (by kernel_rfl) (by kernel_rfl) (by kernel_rfl) (fun _ _ _ h => h) (Or.inl ⟨by rfl, fun w _ => by go_simp⟩) ?_
  simp only [Act.put, List.setIfInBounds_toArray, List.set_cons_zero, List.set_cons_succ]
  refine takeH 2 9 (.pointer (some ⟨k, 1, none⟩)) hHeld rfl rfl (by kernel_rfl) (by kernel_rfl) (by kernel_rfl) (fun _ _ _ h => h) (Or.inl ⟨by rfl, fun w _ => by go_simp⟩) ?_
  simp only [Act.put, List.setIfInBounds_toArray, List.set_cons_zero, List.set_cons_succ]
  refine takeH 3 10 (.slice (some ⟨k, 1, none⟩) 64 64) hHeld rfl rfl (by kernel_rfl) (by kernel_rfl) (by kernel_rfl) (fun _ _ _ h => h) (Or.inl ⟨by rfl, fun w _ => by go_simp⟩) ?_
  simp only [Act.put, List.setIfInBounds_toArray, List.set_cons_zero, List.set_cons_succ]
  refine takeH 4 11 (.pointer (some ⟨k, 0, none⟩)) hHeld rfl rfl (by kernel_rfl) (by kernel_rfl) (by kernel_rfl) (fun _ _ _ h => h) (Or.inl ⟨by rfl, fun w _ => by go_simp⟩) ?_
  simp only [Act.put, List.setIfInBounds_toArray, List.set_cons_zero, List.set_cons_succ]
  refine takeH 5 12 (.pointer (some ⟨k, 0, none⟩)) hHeld rfl rfl (by kernel_rfl) (by kernel_rfl) (by kernel_rfl) (fun _ _ _ h => h) (Or.inl ⟨by rfl, fun w _ => by go_simp⟩) ?_
  simp only [Act.put, List.setIfInBounds_toArray, List.set_cons_zero, List.set_cons_succ]
  refine takeH 6 13 (.pointer (some ⟨k, 0, none⟩)) hHeld rfl rfl (by kernel_rfl) (by kernel_rfl) (by kernel_rfl) (fun _ _ _ h => h) (Or.inl ⟨by rfl, fun w _ => by go_simp⟩) ?_
  simp only [Act.put, List.setIfInBounds_toArray, List.set_cons_zero, List.set_cons_succ]
  refine takeH 7 14 (.pointer (some ⟨g, 0, none⟩)) hHeld rfl rfl (by kernel_rfl) (by kernel_rfl) (by kernel_rfl) (fun _ _ _ h => h) (Or.inl ⟨by rfl, fun w hw => by have hw' : w.cell? ⟨k, 0, none⟩ = some (.pointer (some ⟨g, 0, none⟩)) := id hw; go_simp⟩) ?_
  simp only [Act.put, List.setIfInBounds_toArray, List.set_cons_zero, List.set_cons_succ]
  refine wpAnyH_ready (rs := [8]) (by kernel_rfl) (by simp) (AllReadyH.cons rfl (fun K hK => ?_) AllReadyH.nil)
  rw [if_pos (by rfl)]
  go_simp
  refine (ssum_any bL 0 (inn key ++ m) g _ (H1.out.below B0.out).st rfl rfl ((inn_isB key HKB.out).append HMB.out) (K1.out.below B0.out K1.out.lt) (by have := HBD.out; rw [List.length_append, inn_length]; omega)).mono ?_
  rintro e v1 ⟨rfl, hv1⟩
  have B1 := hide (B0.out.trans (hv1.mono B0.out.size))
  refine hK.out _ _ ((H1.out.below B1.out).cell) (fun hHeld => ?_)
  clear hK K
  clear hv1
  refine wpAnyH_ready (rs := [9]) (by kernel_rfl) (by simp) (AllReadyH.cons rfl (fun K hK => ?_) AllReadyH.nil)
  rw [if_pos (by rfl)]
  go_simp
  refine (putDigest_any _ _ _ (outb key) (dg bL 0 (inn key ++ m)) _ ((H1.out.below B1.out).sl HKB.out) HD.out (dg_isB _ _ _)).mono ?_
  rintro e v2 ⟨gp, rfl, hgp, hbp, hv2⟩
  have B2 := hide (B1.out.trans (hv2.mono B1.out.size))
  have SP := hide (hbp.sl0 ((outb_isB key HKB.out).append (dg_isB _ _ _)) (by rw [List.length_append, outb_length, HD.out]; omega))
  have ESP := hide (show (outb key ++ dg bL 0 (inn key ++ m)).length = 64 + 32 by rw [List.length_append, outb_length, HD.out])
  rw [ESP.out] at SP
  refine hK.out _ _ ((H1.out.below B2.out).cell) (fun hHeld => ?_)
  clear hK K
  clear hv2 hbp
  refine wpAnyH_ready (rs := [10]) (by kernel_rfl) (by simp) (AllReadyH.cons rfl (fun K hK => ?_) AllReadyH.nil)
  rw [if_pos (by rfl)]
  go_simp
  refine (sum_any _ _ _ (outb key ++ dg bL 0 (inn key ++ m)) _ SP.out (K1.out.below B2.out K1.out.lt)).mono ?_
  rintro e v3 ⟨rfl, hv3⟩
  have B3 := hide (B2.out.trans (hv3.mono B2.out.size))
  have EM : Hid (dg bL 0 (outb key ++ dg bL 0 (inn key ++ m)) = mc key m) := hide rfl
  rw [EM.out]
  refine hK.out _ _ ((H1.out.below B3.out).cell) (fun hHeld => ?_)
  clear hK K
  clear hv3 SP
  refine wpAnyH_ready (rs := [11]) (by kernel_rfl) (by simp) (AllReadyH.cons rfl (fun K hK => ?_) AllReadyH.nil)
  rw [if_pos (by rfl)]
  refine wp_storeW wD rfl rfl rfl (G1.out.below B3.out G1.out.lt) HML.out (One.u8 _) (by simp [u8s_length, zer_length]) ?_
  intro v4 hg4 hbut4
  have hkg1 : k ≠ g1 := by have := H.out.obj.lt; omega
  have C4 : v4.cell? ⟨k, 0, none⟩ = some (.pointer (some ⟨g, 0, none⟩)) := by rw [((H1.out.below B3.out).obj.but hbut4 hkg1).cell]; rfl
  refine hK.out _ _ (C4) (fun hHeld => ?_)
  clear hK K
  simp only [Act.put]
  refine wpAnyH_done (by kernel_rfl) ?_ _
  refine NoPanic.normal ?_
  clear hHeld
  have E4 : Hid (spl (u8s (zer 32)) (u8s (mc key m)) 0 = u8s (mc key m)) := hide (by
    unfold spl
    rw [List.drop_of_length_le (by rw [u8s_length, zer_length, HML.out]; omega)]
    simp)
  rw [E4.out] at hg4
  have HBF := hide ((hb1.trans (B3.out.mono hb1.size)).trans (hbut4.below hle1))
  go_wp2
  refine bodyPost_ret (results_wide rfl wD _ _ rfl hg4 HML.out) rfl ⟨rfl, ?_⟩
  exact HBF.out

set_option maxHeartbeats 1000000 in
theorem mac_any (a : Option Addr) (len cap : Nat) (xs : List Int) (a1 : Option Addr) (len1 cap1 : Nat) (ys : List Int) (w : World) (hs : Sl w a len cap xs) (hs1 : Sl w a1 len1 cap1 ys) (hk : KT w) :
    Calls Tryd.prog 21 #[.slice a len cap, .slice a1 len1 cap1] w fun e w' => e = .returned (.agg (u8s (mc xs ys)).toArray) ∧ Below w.heap.size w w' := by
  have HS := hide hs
  have HS1 := hide hs1
  have HK := hide hk
  have HXB := hide hs.hbyte
  have HYB := hide hs1.hbyte
  have HY := hide hs1.hlen
  have hr := hs1.hreach
  have HML := hide (show (u8s (mc xs ys)).length = 32 by rw [u8s_length, mc_length])
  clear hs hs1 hk
  go_enter Tryd.func21, Tryd.ntmps21
  go_wp2_with (refine step_alloc zD rfl ?_)
  intro w1 g1 hg1 hle1 hb1
  have S1 := hide (HS.out.below hb1)
  have K1 := hide (HK.out.below hb1 HK.out.lt)
  have G1 := hide hg1
  clear hg1
  go_wp2_with fail
  refine (macNew_any _ _ _ xs _ S1.out K1.out).mono ?_
  rintro e w2 ⟨k, g, rfl, hlk, hlg, hkd, hb2⟩
  have HB2 := hide (hb1.trans (hb2.mono hb1.size))
  have KD2 := hide hkd
  have Y2 := hide (HS1.out.below HB2.out)
  have K2 := hide (HK.out.below HB2.out HK.out.lt)
  have G2 := hide (G1.out.below hb2 G1.out.lt)
  have hlg' : w.heap.size ≤ g := Nat.le_trans hb1.size hlg
  have hg0 : g ≠ 0 := by have := HK.out.lt; omega
  have AP := hide (HS1.out.apart hlg')
  have hg1g : g1 ≠ g := by have := G1.out.lt; omega
  clear hkd hb2
  go_wp2_with fail
  refine (kdWrite_any k g xs [] _ _ _ ys _ KD2.out HXB.out (by intro x hx; simp at hx) Y2.out AP.out K2.out hg0 (by simp; omega)).mono ?_
  rintro e w3 ⟨rfl, hkd3, hc3⟩
  rw [List.nil_append] at hkd3
  have KD3 := hide hkd3
  have HB3 := hide (HB2.out.trans (hc3.below hlg' HB2.out.size))
  have G3 := hide (G2.out.chg hc3 hg1g)
  have K3 := hide (HK.out.below HB3.out HK.out.lt)
  clear hkd3 hc3
  go_wp2_with (first | (go_at_call 25; refine (kdSum_any k g xs ys _ KD3.out HXB.out HYB.out K3.out (by rw [HY.out]; omega)).mono ?_; rintro e w4 ⟨rfl, hb4⟩; have G4 := hide (G3.out.below hb4 G3.out.lt)) | (refine step_storeA wD rfl rfl rfl G4.out HML.out (One.u8 _) rfl ?_; intro w5 hg5 hbut5))
  refine bodyPost_ret (results_wide rfl wD _ _ rfl hg5 HML.out) rfl ⟨rfl, ?_⟩
  exact HB3.out.trans ((hb4.mono HB3.out.size).trans (hbut5.below hle1))

end Go.Proofs.YtefaabmkcgdkiaaDoor
