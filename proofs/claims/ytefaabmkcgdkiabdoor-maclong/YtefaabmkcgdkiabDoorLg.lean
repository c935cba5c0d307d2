/-
  The walk of MacLong.
-/
import Derived.Test.YtefaabmkcgdkiabDoorKd
import Derived.Lib.SlBytesConst
namespace Go.Proofs.YtefaabmkcgdkiabDoor
open Go.RowKit
set_option linter.unusedVariables false

section
variable {dst : Option Tmp} {ty : TypeId} {pos : String} {aft : Array Edge} {gd : Option (Nat × Bool)} {ops : Array Oper} {rest : List Oper} {a : Act} {w : World} {Q : Exit → Act → World → Prop}
/-- The bytes of a text that is written out. -/
theorem step_lit {n : Nat} {parts : Array (Nat × Operand)} (xs : List Int) (hw : Region.wanted ⟨dst, .buildSlice 22 n parts, ty, pos, aft, gd⟩ (yielded ops a.tmps) = true)
    (hrun : (execOp a.eval ⟨dst, .buildSlice 22 n parts, ty, pos, aft, gd⟩).run Tryd.prog w = .ok (.value (.slice (some ⟨w.heap.size, 0, none⟩) n n)) (w.alloc (.cells (u8s xs).toArray 5)))
    (h : ∀ w1 g, Hid (w1 = w.alloc (.cells (u8s xs).toArray 5) ∧ g = w.heap.size) → wpList Tryd.prog ops Q rest (a.put dst (.slice (some ⟨g, 0, none⟩) n n)) w1) :
    wpList Tryd.prog ops Q (⟨dst, .buildSlice 22 n parts, ty, pos, aft, gd⟩ :: rest) a w :=
  step_run hw _ _ hrun (h _ _ ⟨rfl, rfl⟩)
theorem frozen_sl (w : World) (xs : List Int) (n : Nat) (hn : xs.length = n) (hb : isB xs) (hl : n ≤ 140737488355328) (fz : Nat × Nat) : Sl (w.alloc (.cells (u8s xs).toArray 5 fz)) (some ⟨w.heap.size, 0, none⟩) n n xs :=
  ⟨hn, Nat.le_refl _, by omega, hl, hb, (fun e => by cases e), fun _ => ⟨w.heap.size, 0, rfl, fun i hi => by
    rw [Nat.zero_add, cell_of_row _ _ i _ _ _ (heap_alloc_new w _)]
    have := u8s_get xs i (by omega)
    simpa using this⟩⟩
theorem step_const {x : Operand} {w0 : World} {g n : Nat} {xs : List Int} (hw : Region.wanted ⟨dst, .convert 22 22 x, ty, pos, aft, gd⟩ (yielded ops a.tmps) = true)
    (hx : a.eval x = .slice (some ⟨g, 0, none⟩) n n) (he : Hid (w = w0.alloc (.cells (u8s xs).toArray 5) ∧ g = w0.heap.size)) (hn : xs.length = n) (hb : isB xs) (hl : n ≤ 140737488355328)
    (h : ∀ w1, Sl w1 (some ⟨g, 0, none⟩) n n xs → Below w0.heap.size w0 w1 → wpList Tryd.prog ops Q rest (a.put dst (.slice (some ⟨g, 0, none⟩) n n)) w1) :
    wpList Tryd.prog ops Q (⟨dst, .convert 22 22 x, ty, pos, aft, gd⟩ :: rest) a w := by
  obtain ⟨rfl, rfl⟩ := he
  have hc := Lib.run_convert_bytes_const (P := Tryd.prog) w0 22 5 (u8s xs).toArray n n undBs undB
  refine step_run hw (.slice (some ⟨w0.heap.size, 0, none⟩) n n) (w0.alloc (.cells (u8s xs).toArray 5 ((u8s xs).toArray.size, (u8s xs).toArray.size + 1))) ?_ (h _ (frozen_sl w0 xs n hn hb hl _) ((Below.refl _ _).alloc (Nat.le_refl _) _))
  unfold execOp
  simp only [hx]
  simp only [Sem.run_bind, hc, Result.andThen_ok, Sem.run_pure]
end

theorem index0_D (z : List Int) (hz : z.length = 32) (v : World) : (Instr.index 32 (.agg (u8s z).toArray) (.int .i64 0)).run Tryd.prog v = .ok (.int .u8 (z.getD 0 0)) v := by
  have hp := run_part_plain (P := Tryd.prog) v aD.plain (show (u8s z).toArray[0 * 1]? = some (.int .u8 (z.getD 0 0)) by
    have := u8s_get z 0 (by omega)
    simpa using this)
  simp only [Nat.zero_mul] at hp
  simp [Instr.index, run_underlying aD.und, asIntOf, hp]
theorem kb_dg (xs : List Int) (h : 64 < xs.length) : kb (dg bL 0 xs) = kb xs := by
  have hd := dg_length bL 0 xs rfl
  have e1 : kb (dg bL 0 xs) = dg bL 0 xs ++ zer (64 - (dg bL 0 xs).length) := by
    unfold kb
    rw [if_neg (by omega)]
  rw [e1, hd]
  unfold kb
  rw [if_pos h]
theorem kb_wide (xs : List Int) (h : ¬ 64 < xs.length) : kb (xs ++ zer (64 - xs.length)) = kb xs := by
  have hl : (xs ++ zer (64 - xs.length)).length = 64 := by rw [List.length_append, zer_length]; omega
  have e1 : kb (xs ++ zer (64 - xs.length)) = (xs ++ zer (64 - xs.length)) ++ zer (64 - (xs ++ zer (64 - xs.length)).length) := by
    unfold kb
    rw [if_neg (by omega)]
  rw [e1, hl]
  unfold kb
  rw [if_neg h]
  simp [zer]
theorem mc_kb {a b : List Int} (h : kb a = kb b) (m : List Int) : mc a m = mc b m := by
  unfold mc outb inn
  rw [h]

def kq : List Int := [107, 101, 121]
def fox : List Int := [84, 104, 101, 32, 113, 117, 105, 99, 107, 32, 98, 114, 111, 119, 110, 32, 102, 111, 120, 32, 106, 117, 109, 112, 115, 32, 111, 118, 101, 114, 32, 116, 104, 101, 32, 108, 97, 122, 121, 32, 100, 111, 103]
set_option maxRecDepth 1000000 in
theorem fox0 : (mc kq fox).getD 0 0 = 247 := by decide +kernel
theorem kq_isB : isB kq := by
  intro x hx
  simp only [kq, List.mem_cons, List.not_mem_nil, or_false] at hx
  omega
theorem fox_isB : isB fox := by
  have : ∀ x ∈ fox, 0 ≤ x ∧ x ≤ 255 := by decide
  exact this

set_option maxRecDepth 100000 in
set_option maxHeartbeats 4000000 in
theorem long_walk (a : Option Addr) (len cap : Nat) (xs : List Int) (a1 : Option Addr) (len1 cap1 : Nat) (ys : List Int) (w : World) (hs : Sl w a len cap xs) (hl : cap ≤ 140737488351232) (hs1 : Sl w a1 len1 cap1 ys) (hl1 : cap1 ≤ 140737488351232) (hk : KT w) :
    Calls Tryd.prog 5 #[.slice a len cap, .slice a1 len1 cap1] w fun e w' => e = .returned (.bool true) ∧ Below w.heap.size w w' := by
  have HS := hide hs
  have HS1 := hide hs1
  have HK := hide hk
  have HX := hide hs.hlen
  have HXB := hide hs.hbyte
  clear hs hs1 hk
  go_enter Tryd.func5, Tryd.ntmps5
  by_cases hln : 64 < len
  · have hln' : (64 : Int) < (len : Int) := by omega
    have HD := hide (dg_length bL 0 xs rfl)
    have EK := hide (mc_kb (kb_dg xs (by rw [HX.out]; exact hln)) ys)
    go_wp2_with fail
    refine (sum_any _ _ _ xs _ HS.out HK.out).mono ?_
    rintro e w1 ⟨rfl, hb1⟩
    go_wp2_with (refine step_alloc zD rfl ?_)
    intro w2 g5 hg2 hle2 hb2
    go_wp2_with (refine step_storeA wD rfl rfl rfl hg2 (by rw [u8s_length]; exact HD.out) (One.u8 _) rfl ?_)
    intro w3 hg3 hbut3
    have HB3 := hide (hb1.trans ((hb2.trans (hbut3.below hle2)).mono hb1.size))
    have SD := hide (hg3.sl0 (dg_isB _ _ _) (by rw [HD.out]; omega))
    rw [HD.out] at SD
    have S3 := hide (HS.out.below HB3.out)
    have Y3 := hide (HS1.out.below HB3.out)
    have K3 := hide (HK.out.below HB3.out HK.out.lt)
    clear hb1 hg2 hle2 hb2 hg3 hbut3
    go_wp2_with fail
    refine wp_region_noPanic ?_
    have B0 := hide ((Below.refl w3.heap.size w3).drew)
    refine wp_region_held_drew (S := fun v : World => True) (by kernel_rfl) trivial (fun hHeld => ?_)
    refine takeH 0 12 (.slice a len cap) hHeld rfl rfl (by kernel_rfl) (by kernel_rfl) (by kernel_rfl) (fun _ _ _ h => h) (Or.inl ⟨by rfl, fun w _ => by go_simp⟩) ?_
    simp only [Act.put, List.setIfInBounds_toArray, List.set_cons_zero, List.set_cons_succ]
    refine takeH 1 13 (.slice a1 len1 cap1) hHeld rfl rfl (by kernel_rfl) (by kernel_rfl) (by kernel_rfl) (fun _ _ _ h => h) (Or.inl ⟨by rfl, fun w _ => by go_simp⟩) ?_
    simp only [Act.put, List.setIfInBounds_toArray, List.set_cons_zero, List.set_cons_succ]
    refine takeH 3 15 (.slice (some ⟨g5, 0, none⟩) 32 32) hHeld rfl rfl (by kernel_rfl) (by kernel_rfl) (by kernel_rfl) (fun _ _ _ h => h) (Or.inl ⟨by rfl, fun w _ => run_op rfl (slice_Dg g5 w)⟩) ?_
    simp only [Act.put, List.setIfInBounds_toArray, List.set_cons_zero, List.set_cons_succ]
    refine takeH 4 16 (.slice a1 len1 cap1) hHeld rfl rfl (by kernel_rfl) (by kernel_rfl) (by kernel_rfl) (fun _ _ _ h => h) (Or.inl ⟨by rfl, fun w _ => by go_simp⟩) ?_
    simp only [Act.put, List.setIfInBounds_toArray, List.set_cons_zero, List.set_cons_succ]
    refine wpAnyH_ready (rs := [2]) (by kernel_rfl) (by simp) (AllReadyH.cons rfl (fun K hK => ?_) AllReadyH.nil)
    rw [if_pos (by rfl)]
    go_simp
    refine (mac_any _ _ _ xs _ _ _ ys _ (S3.out.below B0.out) (Y3.out.below B0.out) (K3.out.below B0.out K3.out.lt)).mono ?_
    rintro e v1 ⟨rfl, hv1⟩
    have B1 := hide (B0.out.trans (hv1.mono B0.out.size))
    refine hK.out _ _ (trivial) (fun hHeld => ?_)
    clear hK K
    clear hv1
    refine wpAnyH_ready (rs := [5]) (by kernel_rfl) (by simp) (AllReadyH.cons rfl (fun K hK => ?_) AllReadyH.nil)
    rw [if_pos (by rfl)]
    go_simp
    refine (mac_any _ _ _ (dg bL 0 xs) _ _ _ ys _ (SD.out.below B1.out) (Y3.out.below B1.out) (K3.out.below B1.out K3.out.lt)).mono ?_
    rintro e v2 ⟨rfl, hv2⟩
    rw [EK.out]
    have B2 := hide (B1.out.trans (hv2.mono B1.out.size))
    refine hK.out _ _ (trivial) (fun hHeld => ?_)
    clear hK K
    clear hv2
    refine takeH 6 18 (.bool true) hHeld rfl rfl (by kernel_rfl) (by kernel_rfl) (by kernel_rfl) (fun _ _ _ h => h) (Or.inl ⟨by rfl, fun v _ => run_eqT aD _ rfl rfl (mc_length xs ys)⟩) ?_
    simp only [Act.put, List.setIfInBounds_toArray, List.set_cons_zero, List.set_cons_succ]
    refine takeH 7 4 (.bool true) hHeld rfl rfl (by kernel_rfl) (by kernel_rfl) (by kernel_rfl) (fun _ _ _ h => h) (Or.inl ⟨by rfl, fun w _ => by go_simp⟩) ?_
    simp only [Act.put, List.setIfInBounds_toArray, List.set_cons_zero, List.set_cons_succ]
    refine wpAnyH_done (by kernel_rfl) ?_ _
    refine NoPanic.normal ?_
    clear hHeld
    go_wp2
    go_ret
    exact ⟨rfl, HB3.out.trans (B2.out.mono HB3.out.size)⟩
  · have hln' : ¬ ((64 : Int) < (len : Int)) := by omega
    have EK := hide (mc_kb (kb_wide xs (by rw [HX.out]; exact hln)) ys)
    rw [HX.out] at EK
    go_wp2_with (refine step_make 64 rfl rfl rfl (by rfl) (by rfl) (by omega) ?_)
    intro w1 g6 hg1 hle1 hb1
    have E6 : Hid (spl (u8s (zer 64)) (u8s (List.take len xs)) 0 = u8s (xs ++ zer (64 - len))) := hide (by
      rw [List.take_of_length_le (by rw [HX.out]; exact Nat.le_refl _), spl_u8, splB_zer _ _ (by rw [HX.out]; omega), HX.out])
    have S1 := hide (HS.out.below hb1)
    go_wp2_with (refine step_copy rfl rfl rfl S1.out g6 0 len (by omega) hg1 (fun _ => rfl) (by simp [u8s_length, zer_length]; omega) ?_)
    intro w2 hg2 hbut2
    rw [E6.out] at hg2
    have HB2 := hide (hb1.trans (hbut2.below hle1))
    have LW := hide (show (xs ++ zer (64 - len)).length = 64 by rw [List.length_append, zer_length, HX.out]; omega)
    have SW := hide (hg2.sl0 (HXB.out.append (zer_isB _)) (by rw [LW.out]; omega))
    rw [LW.out] at SW
    have S2 := hide (HS.out.below HB2.out)
    have Y2 := hide (HS1.out.below HB2.out)
    have K2 := hide (HK.out.below HB2.out HK.out.lt)
    clear hg1 hle1 hb1 S1 hg2 hbut2
    go_wp2_with fail
    refine (mac_any _ _ _ xs _ _ _ ys _ S2.out Y2.out K2.out).mono ?_
    rintro e w3 ⟨rfl, hb3⟩
    have HB3 := hide (HB2.out.trans (hb3.mono HB2.out.size))
    have SW3 := hide (SW.out.below hb3)
    have Y3 := hide (Y2.out.below hb3)
    have K3 := hide (HK.out.below HB3.out HK.out.lt)
    clear hb3
    go_wp2_with fail
    refine (mac_any _ _ _ (xs ++ zer (64 - len)) _ _ _ ys _ SW3.out Y3.out K3.out).mono ?_
    rintro e w4 ⟨rfl, hb4⟩
    rw [EK.out]
    have HB4 := hide (HB3.out.trans (hb4.mono HB3.out.size))
    have ML := hide (mc_length xs ys)
    clear hb4
    go_wp2_with (first | (refine step_eqA aD rfl rfl rfl ML.out ML.out ?_) | (refine step_lit kq rfl (by kernel_rfl) ?_))
    intro w5 gq hq5
    go_wp2_with (refine step_const rfl rfl hq5 rfl kq_isB (by omega) ?_)
    intro w6 SQ hb6
    have SQ6 := hide SQ
    have HB6 := hide (HB4.out.trans (hb6.mono HB4.out.size))
    clear SQ hb6
    go_wp2_with (refine step_lit fox rfl (by kernel_rfl) ?_)
    intro w7 gf hq7
    go_wp2_with (refine step_const rfl rfl hq7 rfl fox_isB (by omega) ?_)
    intro w8 SF hb8
    have SQ8 := hide (SQ6.out.below hb8)
    have SF8 := hide SF
    have HB8 := hide (HB6.out.trans (hb8.mono HB6.out.size))
    have K8 := hide (HK.out.below HB8.out HK.out.lt)
    clear SF hb8
    go_wp2_with fail
    refine (mac_any _ _ _ kq _ _ _ fox _ SQ8.out SF8.out K8.out).mono ?_
    rintro e w9 ⟨rfl, hb9⟩
    have HB9 := hide (HB8.out.trans (hb9.mono HB8.out.size))
    have F0 := hide fox0
    have FL := hide (mc_length kq fox)
    clear hb9
    generalize mc kq fox = z at *
    have hix : ∀ v : World, (Instr.index 32 (.agg (u8s z).toArray) (.int .i64 0)).run Tryd.prog v = .ok (.int .u8 247) v := by
      intro v
      rw [← F0.out]
      exact index0_D z FL.out v
    go_wp2
    go_ret
    exact ⟨rfl, HB9.out⟩

end Go.Proofs.YtefaabmkcgdkiabDoor
