/-
  Contract of the document's Base64.
-/
import Derived.Test.YtpfpgimhnmnhlaaB64
import Derived.Test.YtpfpgimhnmnhlaaPuts
import Derived.Test.YtpfpgimhnmnhlaaHex
import Derived.Deep.RegionHeld3
namespace Go.Proofs.Ytpfpgimhnmnhlaa
open Go.RowKit
set_option linter.unusedVariables false

/-- The four digits, none of them filled. -/
def sxs (V : Int) : List Int := [sx (V / 262144), sx (V / 4096 % 64), sx (V / 64 % 64), sx (V % 64)]
/-- The first j of four laid over others. -/
def mix (V : Int) (n j : Nat) : List Int := (four V n).take j ++ (sxs V).drop j

theorem num_at (xs : List Int) (p : Nat) : num ((xs.drop p).take 3) = xs.getD p 0 * 65536 + xs.getD (p + 1) 0 * 256 + xs.getD (p + 2) 0 := by
  simp [num, List.getD]
theorem getD_out (xs : List Int) (p : Nat) (h : xs.length ≤ p) : xs.getD p 0 = 0 := by simp [List.getD, List.getElem?_eq_none h]

theorem wp_run {P : Program} {o : Oper} {a : Act} {w : World} {K : Act → World → Prop} {Q : Exit → Act → World → Prop} (v : Value) (w' : World) (hrun : (execOp a.eval o).run P w = .ok (.value v) w') (h : K (a.put o.dst v) w') : Oper.wp P o a w K Q := by
  unfold Oper.wp
  rw [hrun, Oper.upon_value]
  exact h

theorem Own.ne {w : World} {B : Nat} {v : Value} {xs ys : List Int} {g : Nat} (h : Own w B v xs) (hr : Row w g 76 ys) : v.ownBlock ≠ some g := by
  intro e
  rcases h.2 with ⟨rfl, _⟩ | ⟨g', cap, cur, rfl, hb, hh, r⟩
  · simp [Value.ownBlock] at e
  · simp only [Value.ownBlock, Option.some.injEq] at e
    subst e
    unfold Row at hr
    rw [hh] at hr
    simp at hr
theorem Row.grown {w w' : World} {g : Nat} {t : TypeId} {xs : List Int} {row : Option Nat} (hr : Row w g t xs) (hg : w.grownBy w' row) (hne : row ≠ some g) : Row w' g t xs := by
  unfold Row
  rw [hg.block g hr.lt (fun e => hne e.symm)]
  exact hr
theorem Own.but {w w' : World} {B : Nat} {v : Value} {xs : List Int} {g : Nat} (h : Own w B v xs) (hb : But g w w') (hne : v.ownBlock ≠ some g) : Own w' B v xs := by
  refine ⟨h.1, ?_⟩
  rcases h.2 with h2 | ⟨g', cap, cur, rfl, hB, hh, r⟩
  · exact .inl h2
  · refine .inr ⟨g', cap, cur, rfl, hB, ?_, r⟩
    rw [hb.block g' (fun e => hne (by simp [Value.ownBlock, e]))]
    exact hh

set_option maxRecDepth 100000 in
set_option maxHeartbeats 2000000 in
theorem b64R_any (a : Option Addr) (len cap : Nat) (xs : List Int) (w : World) (hs : Sl w a len cap xs) (hl : len ≤ 1048576) :
    Calls Try.prog 30 #[.slice a len cap] w fun e w' => e = .returned (.string (str (b64B xs))) ∧ Below w.heap.size w w' := by
  have HS := hide hs
  have hcap := hs.hcap
  clear hs
  obtain ⟨m, hm⟩ : ∃ m, m = (len + 2) / 3 := ⟨_, rfl⟩
  have hm1 : 3 * m ≤ len + 2 := by omega
  have hm2 : len ≤ 3 * m := by omega
  have HM := hide hm
  clear hm
  go_enter Try.func30, Try.ntmps30
  go_wp2
  go_loopw [3, 4] (fun v i wr => ∃ k : Nat, k ≤ m ∧ i = .int .i64 (3 * k) ∧ Own wr w.heap.size v (b64To xs k) ∧ Below w.heap.size w wr) (fun _ i _ => (3 * m - intOf i).toNat)
  case atStart => exact ⟨0, by omega, rfl, Own.nil _ _, Below.refl _ _⟩
  case round =>
    obtain ⟨k, hk, rfl, ho, hb⟩ := hrel
    have HOO := hide ho
    clear ho
    by_cases hlt : k < m
    · obtain ⟨b, off, e, hc⟩ := HS.out.hcell (by omega)
      subst e
      have hce : ∀ i, i < len → wr.cell? ⟨b, off + i, none⟩ = some (.int .u8 (xs.getD i 0)) := by
        intro i hi
        have := hc i hi
        rw [hb.cell (World.block_lt_of_cell? w _ this)]; exact this
      have HCE := hide hce
      have hB := hb.size
      clear hc hce
      have hlt2 : (3 * (k : Int)) < len := by omega
      by_cases h3 : 3 * k + 3 < len
      · have hgt : (3 : Int) < (len : Int) - 3 * (k : Int) := by omega
        have c0 := HCE.out (3 * k) (by omega)
        have b0 := HS.out.hbyte.get (3 * k)
        obtain ⟨x0, hx0⟩ : ∃ x0, x0 = xs.getD (3 * k) 0 := ⟨_, rfl⟩
        rw [← hx0] at c0 b0
        obtain ⟨b00, b01⟩ := b0
        have HX0 := hide hx0
        clear hx0
        have c1 := HCE.out (3 * k + 1) (by omega)
        have b1 := HS.out.hbyte.get (3 * k + 1)
        obtain ⟨x1, hx1⟩ : ∃ x1, x1 = xs.getD (3 * k + 1) 0 := ⟨_, rfl⟩
        rw [← hx1] at c1 b1
        obtain ⟨b10, b11⟩ := b1
        have HX1 := hide hx1
        clear hx1
        have c2 := HCE.out (3 * k + 2) (by omega)
        have b2 := HS.out.hbyte.get (3 * k + 2)
        obtain ⟨x2, hx2⟩ : ∃ x2, x2 = xs.getD (3 * k + 2) 0 := ⟨_, rfl⟩
        rw [← hx2] at c2 b2
        obtain ⟨b20, b21⟩ := b2
        have HX2 := hide hx2
        clear hx2
        go_wp2
        refine wp_loop_rounds 4 ?_
        rw [rounds_succ]
        go_wp2
        rw [rounds_succ]
        go_wp2
        rw [rounds_succ]
        go_wp2
        rw [rounds_succ]
        go_wp2
        obtain ⟨V, hV⟩ : ∃ V, V = (x0 * 256 + x1) * 256 + x2 := ⟨_, rfl⟩
        have v0 : 0 ≤ V := by omega
        have v1 : V < 16777216 := by omega
        rw [← hV]
        have HGA : Hid (grpAt xs k = four V 3) := by
          show _ = _
          rw [grpAt, num_at, HS.out.hlen, ← HX0.out, ← HX1.out, ← HX2.out]
          congr 1 <;> omega
        clear hV c0 c1 c2
        have t0 : IntKind.i64.wrap (V.tdiv 262144) = V / 262144 := by rw [Int.tdiv_eq_ediv_of_nonneg v0]; exact i64_in _ (by omega) (by omega)
        have t1 : IntKind.i64.wrap (V.tdiv 4096) = V / 4096 := by rw [Int.tdiv_eq_ediv_of_nonneg v0]; exact i64_in _ (by omega) (by omega)
        have t2 : IntKind.i64.wrap (V.tdiv 64) = V / 64 := by rw [Int.tdiv_eq_ediv_of_nonneg v0]; exact i64_in _ (by omega) (by omega)
        have t3 : (V / 4096).tmod 64 = V / 4096 % 64 := Int.tmod_eq_emod_of_nonneg (by omega)
        have t4 : (V / 64).tmod 64 = V / 64 % 64 := Int.tmod_eq_emod_of_nonneg (by omega)
        have t5 : V.tmod 64 = V % 64 := Int.tmod_eq_emod_of_nonneg v0
        have T6 := hide (show V / 262144 % 64 = V / 262144 from Int.emod_eq_of_lt (by omega) (by omega))
        have q0 := sx_get (V / 262144) (by omega) (by omega) (by show _ < 64; omega)
        have l0 : (0 : Int) ≤ V / 262144 := by omega
        have m0 : V / 262144 < 64 := by omega
        have q1 := sx_get (V / 4096 % 64) (by omega) (by omega) (by show _ < 64; omega)
        have l1 : (0 : Int) ≤ V / 4096 % 64 := by omega
        have m1 : V / 4096 % 64 < 64 := by omega
        have q2 := sx_get (V / 64 % 64) (by omega) (by omega) (by show _ < 64; omega)
        have l2 : (0 : Int) ≤ V / 64 % 64 := by omega
        have m2 : V / 64 % 64 < 64 := by omega
        have q3 := sx_get (V % 64) (by omega) (by omega) (by show _ < 64; omega)
        have l3 : (0 : Int) ≤ V % 64 := by omega
        have m3 : V % 64 < 64 := by omega
        refine wp_region_noPanic ?_
        refine wp_region_held_drew (S := fun _ => True) (by kernel_rfl) trivial (fun hHeld => ?_)
        refine takeH 0 40 (.int .i64 V) hHeld rfl rfl (by kernel_rfl) (by kernel_rfl) (by kernel_rfl) (fun _ _ _ h => h) (Or.inl ⟨by rfl, fun w _ => by go_simp⟩) ?_
        simp only [Act.put, List.setIfInBounds_toArray, List.set_cons_zero, List.set_cons_succ]
        refine takeH 1 41 (.int .i64 (V / 262144)) hHeld rfl rfl (by kernel_rfl) (by kernel_rfl) (by kernel_rfl) (fun _ _ _ h => h) (Or.inl ⟨by rfl, fun w _ => by go_simp⟩) ?_
        simp only [Act.put, List.setIfInBounds_toArray, List.set_cons_zero, List.set_cons_succ]
        refine takeH 2 42 (.int .u8 (sx (V / 262144))) hHeld rfl rfl (by kernel_rfl) (by kernel_rfl) (by kernel_rfl) (fun _ _ _ h => h) (Or.inl ⟨by rfl, fun w _ => by go_simp⟩) ?_
        simp only [Act.put, List.setIfInBounds_toArray, List.set_cons_zero, List.set_cons_succ]
        refine takeH 3 43 (.int .i64 V) hHeld rfl rfl (by kernel_rfl) (by kernel_rfl) (by kernel_rfl) (fun _ _ _ h => h) (Or.inl ⟨by rfl, fun w _ => by go_simp⟩) ?_
        simp only [Act.put, List.setIfInBounds_toArray, List.set_cons_zero, List.set_cons_succ]
        refine takeH 4 44 (.int .i64 (V / 4096)) hHeld rfl rfl (by kernel_rfl) (by kernel_rfl) (by kernel_rfl) (fun _ _ _ h => h) (Or.inl ⟨by rfl, fun w _ => by go_simp⟩) ?_
        simp only [Act.put, List.setIfInBounds_toArray, List.set_cons_zero, List.set_cons_succ]
        refine takeH 5 45 (.int .i64 (V / 4096 % 64)) hHeld rfl rfl (by kernel_rfl) (by kernel_rfl) (by kernel_rfl) (fun _ _ _ h => h) (Or.inl ⟨by rfl, fun w _ => by go_simp⟩) ?_
        simp only [Act.put, List.setIfInBounds_toArray, List.set_cons_zero, List.set_cons_succ]
        refine takeH 6 46 (.int .u8 (sx (V / 4096 % 64))) hHeld rfl rfl (by kernel_rfl) (by kernel_rfl) (by kernel_rfl) (fun _ _ _ h => h) (Or.inl ⟨by rfl, fun w _ => by go_simp⟩) ?_
        simp only [Act.put, List.setIfInBounds_toArray, List.set_cons_zero, List.set_cons_succ]
        refine takeH 7 47 (.int .i64 V) hHeld rfl rfl (by kernel_rfl) (by kernel_rfl) (by kernel_rfl) (fun _ _ _ h => h) (Or.inl ⟨by rfl, fun w _ => by go_simp⟩) ?_
        simp only [Act.put, List.setIfInBounds_toArray, List.set_cons_zero, List.set_cons_succ]
        refine takeH 8 48 (.int .i64 (V / 64)) hHeld rfl rfl (by kernel_rfl) (by kernel_rfl) (by kernel_rfl) (fun _ _ _ h => h) (Or.inl ⟨by rfl, fun w _ => by go_simp⟩) ?_
        simp only [Act.put, List.setIfInBounds_toArray, List.set_cons_zero, List.set_cons_succ]
        refine takeH 9 49 (.int .i64 (V / 64 % 64)) hHeld rfl rfl (by kernel_rfl) (by kernel_rfl) (by kernel_rfl) (fun _ _ _ h => h) (Or.inl ⟨by rfl, fun w _ => by go_simp⟩) ?_
        simp only [Act.put, List.setIfInBounds_toArray, List.set_cons_zero, List.set_cons_succ]
        refine takeH 10 50 (.int .u8 (sx (V / 64 % 64))) hHeld rfl rfl (by kernel_rfl) (by kernel_rfl) (by kernel_rfl) (fun _ _ _ h => h) (Or.inl ⟨by rfl, fun w _ => by go_simp⟩) ?_
        simp only [Act.put, List.setIfInBounds_toArray, List.set_cons_zero, List.set_cons_succ]
        refine takeH 11 51 (.int .i64 V) hHeld rfl rfl (by kernel_rfl) (by kernel_rfl) (by kernel_rfl) (fun _ _ _ h => h) (Or.inl ⟨by rfl, fun w _ => by go_simp⟩) ?_
        simp only [Act.put, List.setIfInBounds_toArray, List.set_cons_zero, List.set_cons_succ]
        refine takeH 12 52 (.int .i64 (V % 64)) hHeld rfl rfl (by kernel_rfl) (by kernel_rfl) (by kernel_rfl) (fun _ _ _ h => h) (Or.inl ⟨by rfl, fun w _ => by go_simp⟩) ?_
        simp only [Act.put, List.setIfInBounds_toArray, List.set_cons_zero, List.set_cons_succ]
        refine takeH 13 53 (.int .u8 (sx (V % 64))) hHeld rfl rfl (by kernel_rfl) (by kernel_rfl) (by kernel_rfl) (fun _ _ _ h => h) (Or.inl ⟨by rfl, fun w _ => by go_simp⟩) ?_
        simp only [Act.put, List.setIfInBounds_toArray, List.set_cons_zero, List.set_cons_succ]
        refine takeH 14 54 (.agg (bs (sxs V))) hHeld rfl rfl (by kernel_rfl) (by kernel_rfl) (by kernel_rfl) (fun _ _ _ h => h) (Or.inl ⟨by rfl, fun w _ => by kernel_rfl⟩) ?_
        simp only [Act.put, List.setIfInBounds_toArray, List.set_cons_zero, List.set_cons_succ]
        refine wpAnyH_ready (rs := [15]) (by kernel_rfl) (by simp) (AllReadyH.cons rfl (fun K hK => ?_) AllReadyH.nil)
        rw [if_pos (by rfl)]
        refine wp_run (.pointer (some ⟨wr.heap.size, 0, none⟩)) (wr.drew.alloc (.cells (bs (zer 4)) 76)) (by kernel_rfl) ?_
        refine hK.out _ _ trivial (fun _ => ?_)
        clear hK K
        simp only [Act.put, List.setIfInBounds_toArray]
        have hrZ : Row (wr.drew.alloc (.cells (bs (zer 4)) 76)) wr.heap.size 76 (zer 4) := Row.made wr.drew 76 (zer 4)
        refine wpAnyH_ready (rs := [16]) (by kernel_rfl) (by simp) (AllReadyH.cons rfl (fun K hK => ?_) AllReadyH.nil)
        rw [if_pos (by rfl)]
        refine wp_store_row 76 _ _ rfl wr.heap.size (bs (sxs V)) rfl rfl 76 (bs (zer 4)) hrZ (by rw [info76]; rfl) rfl (bs_all _) ?_
        refine hK.out _ _ trivial (fun _ => ?_)
        clear hK K
        refine wpAnyH_done (by kernel_rfl) ?_ _
        refine NoPanic.normal ?_
        have hrA := hrZ.setRow (sxs V)
        have hbA : Below wr.heap.size wr ((wr.drew.alloc (.cells (bs (zer 4)) 76)).setRow wr.heap.size (bs (sxs V))) := (((Below.refl _ _).drew).alloc (Nat.le_refl _) _).trans ((But.setRow _ _ _).below (Nat.le_refl _))
        obtain ⟨wA, hwA⟩ : ∃ wA, wA = (wr.drew.alloc (.cells (bs (zer 4)) 76)).setRow wr.heap.size (bs (sxs V)) := ⟨_, rfl⟩
        rw [← hwA] at hrA hbA ⊢
        clear hwA hrZ t0 t1 t2 t3 t4 t5 q0 q1 q2 q3 l0 l1 l2 l3 m0 m1 m2 m3
        have hbW : Below w.heap.size w wA := hb.trans (hbA.mono hb.size)
        have HOA := hide (HOO.out.below hbA)
        have hgw : w.heap.size ≤ wr.heap.size := hb.size
        obtain ⟨gA, hgA⟩ : ∃ gA, gA = wr.heap.size := ⟨_, rfl⟩
        rw [← hgA] at hrA hgw ⊢
        clear hgA hbA HOO HCE hb hB
        have HNN := hide (show (b64To xs k).length + 5 ≤ 140737488355328 by rw [b64To_length]; omega)
        go_wp2
        go_loopw [3, 9] (fun v i wz => ∃ j : Nat, j ≤ 4 ∧ i = .int .i64 j ∧ Own wz w.heap.size v (b64To xs k ++ (four V 3).take j) ∧ Row wz gA 76 (mix V 3 j) ∧ Below w.heap.size w wz) (fun _ i _ => 4 - (intOf i).toNat)
        case atStart => exact ⟨0, by omega, rfl, by simpa using HOA.out, hrA, hbW⟩
        case round =>
          obtain ⟨j, hj, rfl, hoj, hrj, hbj⟩ := hrel
          have HOJ := hide hoj
          have HRJ := hide hrj
          have hBj := hbj.size
          clear hoj hrj HOA hrA hbW
          rcases (show j = 4 ∨ j = 0 ∨ j = 1 ∨ j = 2 ∨ j = 3 by omega) with rfl | rfl | rfl | rfl | rfl
          · go_wp2
            go_roundw
            case rel => exact ⟨k + 1, by omega, by go_num, by rw [b64To_succ, HGA.out]; exact HOJ.out, hbj⟩
            case measure => simp [intOf]; omega
          · have hcj : wr.cell? ⟨gA, 0, none⟩ = some (.int .u8 (sx (V / 262144))) := HRJ.out.cell 0 (by simp [mix, four, sxs])
            have HR2 := HRJ
            have HO2 := HOJ
            have hb2 := hbj
            have HMX := hide (show mix V 3 0 = mix V 3 1 by simp [mix, four, sxs, T6.out])
            have HTK := hide (show b64To xs k ++ (four V 3).take 0 ++ [sx (V / 262144)] = b64To xs k ++ (four V 3).take 1 by rw [List.append_assoc]; congr 1; simp [four, T6.out])
            have hB2 := hb2.size
            go_wp2_with (at_builtin; refine step_append rfl rfl rfl (HO2.out.alloc _) (sl_one _ _ (sx_bd _).1 (sx_bd _).2) (by have := HNN.out; rw [List.length_append]; simp [four]; omega) (by simp; omega) ?_)
            intro v5 w5 ho5 hg5 hn5
            have hr5 := (HR2.out.below ((Below.refl _ _).alloc (Nat.le_refl _) _) HR2.out.lt).grown hg5 (HO2.out.ne HR2.out)
            have hb5 : Below w.heap.size w w5 := (hb2.alloc hB2 _).grown hg5 (by simp; omega) (fun i hi => (World.ownsRow.lt HO2.out i hi).1)
            have HO5 := hide ho5
            have HR5 := hide hr5
            clear ho5 hg5 hn5 hr5 HOJ HRJ HO2 HR2 hcj
            go_wp2
            go_roundw
            case rel => exact ⟨1, by omega, rfl, by rw [← HTK.out]; exact HO5.out, by rw [← HMX.out]; exact HR5.out, hb5⟩
            case measure => simp [intOf]
          · have hcj : wr.cell? ⟨gA, 1, none⟩ = some (.int .u8 (sx (V / 4096 % 64))) := HRJ.out.cell 1 (by simp [mix, four, sxs])
            have HR2 := HRJ
            have HO2 := HOJ
            have hb2 := hbj
            have HMX := hide (show mix V 3 1 = mix V 3 2 by simp [mix, four, sxs])
            have HTK := hide (show b64To xs k ++ (four V 3).take 1 ++ [sx (V / 4096 % 64)] = b64To xs k ++ (four V 3).take 2 by rw [List.append_assoc]; congr 1)
            have hB2 := hb2.size
            go_wp2_with (at_builtin; refine step_append rfl rfl rfl (HO2.out.alloc _) (sl_one _ _ (sx_bd _).1 (sx_bd _).2) (by have := HNN.out; rw [List.length_append]; simp [four]; omega) (by simp; omega) ?_)
            intro v5 w5 ho5 hg5 hn5
            have hr5 := (HR2.out.below ((Below.refl _ _).alloc (Nat.le_refl _) _) HR2.out.lt).grown hg5 (HO2.out.ne HR2.out)
            have hb5 : Below w.heap.size w w5 := (hb2.alloc hB2 _).grown hg5 (by simp; omega) (fun i hi => (World.ownsRow.lt HO2.out i hi).1)
            have HO5 := hide ho5
            have HR5 := hide hr5
            clear ho5 hg5 hn5 hr5 HOJ HRJ HO2 HR2 hcj
            go_wp2
            go_roundw
            case rel => exact ⟨2, by omega, rfl, by rw [← HTK.out]; exact HO5.out, by rw [← HMX.out]; exact HR5.out, hb5⟩
            case measure => simp [intOf]
          · have hcj : wr.cell? ⟨gA, 2, none⟩ = some (.int .u8 (sx (V / 64 % 64))) := HRJ.out.cell 2 (by simp [mix, four, sxs])
            have HR2 := HRJ
            have HO2 := HOJ
            have hb2 := hbj
            have HMX := hide (show mix V 3 2 = mix V 3 3 by simp [mix, four, sxs])
            have HTK := hide (show b64To xs k ++ (four V 3).take 2 ++ [sx (V / 64 % 64)] = b64To xs k ++ (four V 3).take 3 by rw [List.append_assoc]; congr 1)
            have hB2 := hb2.size
            go_wp2_with (at_builtin; refine step_append rfl rfl rfl (HO2.out.alloc _) (sl_one _ _ (sx_bd _).1 (sx_bd _).2) (by have := HNN.out; rw [List.length_append]; simp [four]; omega) (by simp; omega) ?_)
            intro v5 w5 ho5 hg5 hn5
            have hr5 := (HR2.out.below ((Below.refl _ _).alloc (Nat.le_refl _) _) HR2.out.lt).grown hg5 (HO2.out.ne HR2.out)
            have hb5 : Below w.heap.size w w5 := (hb2.alloc hB2 _).grown hg5 (by simp; omega) (fun i hi => (World.ownsRow.lt HO2.out i hi).1)
            have HO5 := hide ho5
            have HR5 := hide hr5
            clear ho5 hg5 hn5 hr5 HOJ HRJ HO2 HR2 hcj
            go_wp2
            go_roundw
            case rel => exact ⟨3, by omega, rfl, by rw [← HTK.out]; exact HO5.out, by rw [← HMX.out]; exact HR5.out, hb5⟩
            case measure => simp [intOf]
          · have hcj : wr.cell? ⟨gA, 3, none⟩ = some (.int .u8 (sx (V % 64))) := HRJ.out.cell 3 (by simp [mix, four, sxs])
            have HR2 := HRJ
            have HO2 := HOJ
            have hb2 := hbj
            have HMX := hide (show mix V 3 3 = mix V 3 4 by simp [mix, four, sxs])
            have HTK := hide (show b64To xs k ++ (four V 3).take 3 ++ [sx (V % 64)] = b64To xs k ++ (four V 3).take 4 by rw [List.append_assoc]; congr 1)
            have hB2 := hb2.size
            go_wp2_with (at_builtin; refine step_append rfl rfl rfl (HO2.out.alloc _) (sl_one _ _ (sx_bd _).1 (sx_bd _).2) (by have := HNN.out; rw [List.length_append]; simp [four]; omega) (by simp; omega) ?_)
            intro v5 w5 ho5 hg5 hn5
            have hr5 := (HR2.out.below ((Below.refl _ _).alloc (Nat.le_refl _) _) HR2.out.lt).grown hg5 (HO2.out.ne HR2.out)
            have hb5 : Below w.heap.size w w5 := (hb2.alloc hB2 _).grown hg5 (by simp; omega) (fun i hi => (World.ownsRow.lt HO2.out i hi).1)
            have HO5 := hide ho5
            have HR5 := hide hr5
            clear ho5 hg5 hn5 hr5 HOJ HRJ HO2 HR2 hcj
            go_wp2
            go_roundw
            case rel => exact ⟨4, by omega, rfl, by rw [← HTK.out]; exact HO5.out, by rw [← HMX.out]; exact HR5.out, hb5⟩
            case measure => simp [intOf]
      rcases (show 3 * k + 3 = len ∨ 3 * k + 2 = len ∨ 3 * k + 1 = len by omega) with hr | hr | hr
      · have hgt : ¬ (3 : Int) < (len : Int) - 3 * (k : Int) := by omega
        have c0 := HCE.out (3 * k) (by omega)
        have b0 := HS.out.hbyte.get (3 * k)
        obtain ⟨x0, hx0⟩ : ∃ x0, x0 = xs.getD (3 * k) 0 := ⟨_, rfl⟩
        rw [← hx0] at c0 b0
        obtain ⟨b00, b01⟩ := b0
        have HX0 := hide hx0
        clear hx0
        have c1 := HCE.out (3 * k + 1) (by omega)
        have b1 := HS.out.hbyte.get (3 * k + 1)
        obtain ⟨x1, hx1⟩ : ∃ x1, x1 = xs.getD (3 * k + 1) 0 := ⟨_, rfl⟩
        rw [← hx1] at c1 b1
        obtain ⟨b10, b11⟩ := b1
        have HX1 := hide hx1
        clear hx1
        have c2 := HCE.out (3 * k + 2) (by omega)
        have b2 := HS.out.hbyte.get (3 * k + 2)
        obtain ⟨x2, hx2⟩ : ∃ x2, x2 = xs.getD (3 * k + 2) 0 := ⟨_, rfl⟩
        rw [← hx2] at c2 b2
        obtain ⟨b20, b21⟩ := b2
        have HX2 := hide hx2
        clear hx2
        go_wp2
        refine wp_loop_rounds 4 ?_
        rw [rounds_succ]
        go_wp2
        rw [rounds_succ]
        go_wp2
        rw [rounds_succ]
        go_wp2
        rw [rounds_succ]
        go_wp2
        obtain ⟨V, hV⟩ : ∃ V, V = (x0 * 256 + x1) * 256 + x2 := ⟨_, rfl⟩
        have v0 : 0 ≤ V := by omega
        have v1 : V < 16777216 := by omega
        rw [← hV]
        have HGA : Hid (grpAt xs k = four V 3) := by
          show _ = _
          rw [grpAt, num_at, HS.out.hlen, ← HX0.out, ← HX1.out, ← HX2.out]
          congr 1 <;> omega
        clear hV c0 c1 c2
        have t0 : IntKind.i64.wrap (V.tdiv 262144) = V / 262144 := by rw [Int.tdiv_eq_ediv_of_nonneg v0]; exact i64_in _ (by omega) (by omega)
        have t1 : IntKind.i64.wrap (V.tdiv 4096) = V / 4096 := by rw [Int.tdiv_eq_ediv_of_nonneg v0]; exact i64_in _ (by omega) (by omega)
        have t2 : IntKind.i64.wrap (V.tdiv 64) = V / 64 := by rw [Int.tdiv_eq_ediv_of_nonneg v0]; exact i64_in _ (by omega) (by omega)
        have t3 : (V / 4096).tmod 64 = V / 4096 % 64 := Int.tmod_eq_emod_of_nonneg (by omega)
        have t4 : (V / 64).tmod 64 = V / 64 % 64 := Int.tmod_eq_emod_of_nonneg (by omega)
        have t5 : V.tmod 64 = V % 64 := Int.tmod_eq_emod_of_nonneg v0
        have T6 := hide (show V / 262144 % 64 = V / 262144 from Int.emod_eq_of_lt (by omega) (by omega))
        have q0 := sx_get (V / 262144) (by omega) (by omega) (by show _ < 64; omega)
        have l0 : (0 : Int) ≤ V / 262144 := by omega
        have m0 : V / 262144 < 64 := by omega
        have q1 := sx_get (V / 4096 % 64) (by omega) (by omega) (by show _ < 64; omega)
        have l1 : (0 : Int) ≤ V / 4096 % 64 := by omega
        have m1 : V / 4096 % 64 < 64 := by omega
        have q2 := sx_get (V / 64 % 64) (by omega) (by omega) (by show _ < 64; omega)
        have l2 : (0 : Int) ≤ V / 64 % 64 := by omega
        have m2 : V / 64 % 64 < 64 := by omega
        have q3 := sx_get (V % 64) (by omega) (by omega) (by show _ < 64; omega)
        have l3 : (0 : Int) ≤ V % 64 := by omega
        have m3 : V % 64 < 64 := by omega
        refine wp_region_noPanic ?_
        refine wp_region_held_drew (S := fun _ => True) (by kernel_rfl) trivial (fun hHeld => ?_)
        refine takeH 0 40 (.int .i64 V) hHeld rfl rfl (by kernel_rfl) (by kernel_rfl) (by kernel_rfl) (fun _ _ _ h => h) (Or.inl ⟨by rfl, fun w _ => by go_simp⟩) ?_
        simp only [Act.put, List.setIfInBounds_toArray, List.set_cons_zero, List.set_cons_succ]
        refine takeH 1 41 (.int .i64 (V / 262144)) hHeld rfl rfl (by kernel_rfl) (by kernel_rfl) (by kernel_rfl) (fun _ _ _ h => h) (Or.inl ⟨by rfl, fun w _ => by go_simp⟩) ?_
        simp only [Act.put, List.setIfInBounds_toArray, List.set_cons_zero, List.set_cons_succ]
        refine takeH 2 42 (.int .u8 (sx (V / 262144))) hHeld rfl rfl (by kernel_rfl) (by kernel_rfl) (by kernel_rfl) (fun _ _ _ h => h) (Or.inl ⟨by rfl, fun w _ => by go_simp⟩) ?_
        simp only [Act.put, List.setIfInBounds_toArray, List.set_cons_zero, List.set_cons_succ]
        refine takeH 3 43 (.int .i64 V) hHeld rfl rfl (by kernel_rfl) (by kernel_rfl) (by kernel_rfl) (fun _ _ _ h => h) (Or.inl ⟨by rfl, fun w _ => by go_simp⟩) ?_
        simp only [Act.put, List.setIfInBounds_toArray, List.set_cons_zero, List.set_cons_succ]
        refine takeH 4 44 (.int .i64 (V / 4096)) hHeld rfl rfl (by kernel_rfl) (by kernel_rfl) (by kernel_rfl) (fun _ _ _ h => h) (Or.inl ⟨by rfl, fun w _ => by go_simp⟩) ?_
        simp only [Act.put, List.setIfInBounds_toArray, List.set_cons_zero, List.set_cons_succ]
        refine takeH 5 45 (.int .i64 (V / 4096 % 64)) hHeld rfl rfl (by kernel_rfl) (by kernel_rfl) (by kernel_rfl) (fun _ _ _ h => h) (Or.inl ⟨by rfl, fun w _ => by go_simp⟩) ?_
        simp only [Act.put, List.setIfInBounds_toArray, List.set_cons_zero, List.set_cons_succ]
        refine takeH 6 46 (.int .u8 (sx (V / 4096 % 64))) hHeld rfl rfl (by kernel_rfl) (by kernel_rfl) (by kernel_rfl) (fun _ _ _ h => h) (Or.inl ⟨by rfl, fun w _ => by go_simp⟩) ?_
        simp only [Act.put, List.setIfInBounds_toArray, List.set_cons_zero, List.set_cons_succ]
        refine takeH 7 47 (.int .i64 V) hHeld rfl rfl (by kernel_rfl) (by kernel_rfl) (by kernel_rfl) (fun _ _ _ h => h) (Or.inl ⟨by rfl, fun w _ => by go_simp⟩) ?_
        simp only [Act.put, List.setIfInBounds_toArray, List.set_cons_zero, List.set_cons_succ]
        refine takeH 8 48 (.int .i64 (V / 64)) hHeld rfl rfl (by kernel_rfl) (by kernel_rfl) (by kernel_rfl) (fun _ _ _ h => h) (Or.inl ⟨by rfl, fun w _ => by go_simp⟩) ?_
        simp only [Act.put, List.setIfInBounds_toArray, List.set_cons_zero, List.set_cons_succ]
        refine takeH 9 49 (.int .i64 (V / 64 % 64)) hHeld rfl rfl (by kernel_rfl) (by kernel_rfl) (by kernel_rfl) (fun _ _ _ h => h) (Or.inl ⟨by rfl, fun w _ => by go_simp⟩) ?_
        simp only [Act.put, List.setIfInBounds_toArray, List.set_cons_zero, List.set_cons_succ]
        refine takeH 10 50 (.int .u8 (sx (V / 64 % 64))) hHeld rfl rfl (by kernel_rfl) (by kernel_rfl) (by kernel_rfl) (fun _ _ _ h => h) (Or.inl ⟨by rfl, fun w _ => by go_simp⟩) ?_
        simp only [Act.put, List.setIfInBounds_toArray, List.set_cons_zero, List.set_cons_succ]
        refine takeH 11 51 (.int .i64 V) hHeld rfl rfl (by kernel_rfl) (by kernel_rfl) (by kernel_rfl) (fun _ _ _ h => h) (Or.inl ⟨by rfl, fun w _ => by go_simp⟩) ?_
        simp only [Act.put, List.setIfInBounds_toArray, List.set_cons_zero, List.set_cons_succ]
        refine takeH 12 52 (.int .i64 (V % 64)) hHeld rfl rfl (by kernel_rfl) (by kernel_rfl) (by kernel_rfl) (fun _ _ _ h => h) (Or.inl ⟨by rfl, fun w _ => by go_simp⟩) ?_
        simp only [Act.put, List.setIfInBounds_toArray, List.set_cons_zero, List.set_cons_succ]
        refine takeH 13 53 (.int .u8 (sx (V % 64))) hHeld rfl rfl (by kernel_rfl) (by kernel_rfl) (by kernel_rfl) (fun _ _ _ h => h) (Or.inl ⟨by rfl, fun w _ => by go_simp⟩) ?_
        simp only [Act.put, List.setIfInBounds_toArray, List.set_cons_zero, List.set_cons_succ]
        refine takeH 14 54 (.agg (bs (sxs V))) hHeld rfl rfl (by kernel_rfl) (by kernel_rfl) (by kernel_rfl) (fun _ _ _ h => h) (Or.inl ⟨by rfl, fun w _ => by kernel_rfl⟩) ?_
        simp only [Act.put, List.setIfInBounds_toArray, List.set_cons_zero, List.set_cons_succ]
        refine wpAnyH_ready (rs := [15]) (by kernel_rfl) (by simp) (AllReadyH.cons rfl (fun K hK => ?_) AllReadyH.nil)
        rw [if_pos (by rfl)]
        refine wp_run (.pointer (some ⟨wr.heap.size, 0, none⟩)) (wr.drew.alloc (.cells (bs (zer 4)) 76)) (by kernel_rfl) ?_
        refine hK.out _ _ trivial (fun _ => ?_)
        clear hK K
        simp only [Act.put, List.setIfInBounds_toArray]
        have hrZ : Row (wr.drew.alloc (.cells (bs (zer 4)) 76)) wr.heap.size 76 (zer 4) := Row.made wr.drew 76 (zer 4)
        refine wpAnyH_ready (rs := [16]) (by kernel_rfl) (by simp) (AllReadyH.cons rfl (fun K hK => ?_) AllReadyH.nil)
        rw [if_pos (by rfl)]
        refine wp_store_row 76 _ _ rfl wr.heap.size (bs (sxs V)) rfl rfl 76 (bs (zer 4)) hrZ (by rw [info76]; rfl) rfl (bs_all _) ?_
        refine hK.out _ _ trivial (fun _ => ?_)
        clear hK K
        refine wpAnyH_done (by kernel_rfl) ?_ _
        refine NoPanic.normal ?_
        have hrA := hrZ.setRow (sxs V)
        have hbA : Below wr.heap.size wr ((wr.drew.alloc (.cells (bs (zer 4)) 76)).setRow wr.heap.size (bs (sxs V))) := (((Below.refl _ _).drew).alloc (Nat.le_refl _) _).trans ((But.setRow _ _ _).below (Nat.le_refl _))
        obtain ⟨wA, hwA⟩ : ∃ wA, wA = (wr.drew.alloc (.cells (bs (zer 4)) 76)).setRow wr.heap.size (bs (sxs V)) := ⟨_, rfl⟩
        rw [← hwA] at hrA hbA ⊢
        clear hwA hrZ t0 t1 t2 t3 t4 t5 q0 q1 q2 q3 l0 l1 l2 l3 m0 m1 m2 m3
        have hbW : Below w.heap.size w wA := hb.trans (hbA.mono hb.size)
        have HOA := hide (HOO.out.below hbA)
        have hgw : w.heap.size ≤ wr.heap.size := hb.size
        obtain ⟨gA, hgA⟩ : ∃ gA, gA = wr.heap.size := ⟨_, rfl⟩
        rw [← hgA] at hrA hgw ⊢
        clear hgA hbA HOO HCE hb hB
        have HNN := hide (show (b64To xs k).length + 5 ≤ 140737488355328 by rw [b64To_length]; omega)
        go_wp2
        go_loopw [3, 9] (fun v i wz => ∃ j : Nat, j ≤ 4 ∧ i = .int .i64 j ∧ Own wz w.heap.size v (b64To xs k ++ (four V 3).take j) ∧ Row wz gA 76 (mix V 3 j) ∧ Below w.heap.size w wz) (fun _ i _ => 4 - (intOf i).toNat)
        case atStart => exact ⟨0, by omega, rfl, by simpa using HOA.out, hrA, hbW⟩
        case round =>
          obtain ⟨j, hj, rfl, hoj, hrj, hbj⟩ := hrel
          have HOJ := hide hoj
          have HRJ := hide hrj
          have hBj := hbj.size
          clear hoj hrj HOA hrA hbW
          rcases (show j = 4 ∨ j = 0 ∨ j = 1 ∨ j = 2 ∨ j = 3 by omega) with rfl | rfl | rfl | rfl | rfl
          · go_wp2
            go_roundw
            case rel => exact ⟨k + 1, by omega, by go_num, by rw [b64To_succ, HGA.out]; exact HOJ.out, hbj⟩
            case measure => simp [intOf]; omega
          · have hcj : wr.cell? ⟨gA, 0, none⟩ = some (.int .u8 (sx (V / 262144))) := HRJ.out.cell 0 (by simp [mix, four, sxs])
            have HR2 := HRJ
            have HO2 := HOJ
            have hb2 := hbj
            have HMX := hide (show mix V 3 0 = mix V 3 1 by simp [mix, four, sxs, T6.out])
            have HTK := hide (show b64To xs k ++ (four V 3).take 0 ++ [sx (V / 262144)] = b64To xs k ++ (four V 3).take 1 by rw [List.append_assoc]; congr 1; simp [four, T6.out])
            have hB2 := hb2.size
            go_wp2_with (at_builtin; refine step_append rfl rfl rfl (HO2.out.alloc _) (sl_one _ _ (sx_bd _).1 (sx_bd _).2) (by have := HNN.out; rw [List.length_append]; simp [four]; omega) (by simp; omega) ?_)
            intro v5 w5 ho5 hg5 hn5
            have hr5 := (HR2.out.below ((Below.refl _ _).alloc (Nat.le_refl _) _) HR2.out.lt).grown hg5 (HO2.out.ne HR2.out)
            have hb5 : Below w.heap.size w w5 := (hb2.alloc hB2 _).grown hg5 (by simp; omega) (fun i hi => (World.ownsRow.lt HO2.out i hi).1)
            have HO5 := hide ho5
            have HR5 := hide hr5
            clear ho5 hg5 hn5 hr5 HOJ HRJ HO2 HR2 hcj
            go_wp2
            go_roundw
            case rel => exact ⟨1, by omega, rfl, by rw [← HTK.out]; exact HO5.out, by rw [← HMX.out]; exact HR5.out, hb5⟩
            case measure => simp [intOf]
          · have hcj : wr.cell? ⟨gA, 1, none⟩ = some (.int .u8 (sx (V / 4096 % 64))) := HRJ.out.cell 1 (by simp [mix, four, sxs])
            have HR2 := HRJ
            have HO2 := HOJ
            have hb2 := hbj
            have HMX := hide (show mix V 3 1 = mix V 3 2 by simp [mix, four, sxs])
            have HTK := hide (show b64To xs k ++ (four V 3).take 1 ++ [sx (V / 4096 % 64)] = b64To xs k ++ (four V 3).take 2 by rw [List.append_assoc]; congr 1)
            have hB2 := hb2.size
            go_wp2_with (at_builtin; refine step_append rfl rfl rfl (HO2.out.alloc _) (sl_one _ _ (sx_bd _).1 (sx_bd _).2) (by have := HNN.out; rw [List.length_append]; simp [four]; omega) (by simp; omega) ?_)
            intro v5 w5 ho5 hg5 hn5
            have hr5 := (HR2.out.below ((Below.refl _ _).alloc (Nat.le_refl _) _) HR2.out.lt).grown hg5 (HO2.out.ne HR2.out)
            have hb5 : Below w.heap.size w w5 := (hb2.alloc hB2 _).grown hg5 (by simp; omega) (fun i hi => (World.ownsRow.lt HO2.out i hi).1)
            have HO5 := hide ho5
            have HR5 := hide hr5
            clear ho5 hg5 hn5 hr5 HOJ HRJ HO2 HR2 hcj
            go_wp2
            go_roundw
            case rel => exact ⟨2, by omega, rfl, by rw [← HTK.out]; exact HO5.out, by rw [← HMX.out]; exact HR5.out, hb5⟩
            case measure => simp [intOf]
          · have hcj : wr.cell? ⟨gA, 2, none⟩ = some (.int .u8 (sx (V / 64 % 64))) := HRJ.out.cell 2 (by simp [mix, four, sxs])
            have HR2 := HRJ
            have HO2 := HOJ
            have hb2 := hbj
            have HMX := hide (show mix V 3 2 = mix V 3 3 by simp [mix, four, sxs])
            have HTK := hide (show b64To xs k ++ (four V 3).take 2 ++ [sx (V / 64 % 64)] = b64To xs k ++ (four V 3).take 3 by rw [List.append_assoc]; congr 1)
            have hB2 := hb2.size
            go_wp2_with (at_builtin; refine step_append rfl rfl rfl (HO2.out.alloc _) (sl_one _ _ (sx_bd _).1 (sx_bd _).2) (by have := HNN.out; rw [List.length_append]; simp [four]; omega) (by simp; omega) ?_)
            intro v5 w5 ho5 hg5 hn5
            have hr5 := (HR2.out.below ((Below.refl _ _).alloc (Nat.le_refl _) _) HR2.out.lt).grown hg5 (HO2.out.ne HR2.out)
            have hb5 : Below w.heap.size w w5 := (hb2.alloc hB2 _).grown hg5 (by simp; omega) (fun i hi => (World.ownsRow.lt HO2.out i hi).1)
            have HO5 := hide ho5
            have HR5 := hide hr5
            clear ho5 hg5 hn5 hr5 HOJ HRJ HO2 HR2 hcj
            go_wp2
            go_roundw
            case rel => exact ⟨3, by omega, rfl, by rw [← HTK.out]; exact HO5.out, by rw [← HMX.out]; exact HR5.out, hb5⟩
            case measure => simp [intOf]
          · have hcj : wr.cell? ⟨gA, 3, none⟩ = some (.int .u8 (sx (V % 64))) := HRJ.out.cell 3 (by simp [mix, four, sxs])
            have HR2 := HRJ
            have HO2 := HOJ
            have hb2 := hbj
            have HMX := hide (show mix V 3 3 = mix V 3 4 by simp [mix, four, sxs])
            have HTK := hide (show b64To xs k ++ (four V 3).take 3 ++ [sx (V % 64)] = b64To xs k ++ (four V 3).take 4 by rw [List.append_assoc]; congr 1)
            have hB2 := hb2.size
            go_wp2_with (at_builtin; refine step_append rfl rfl rfl (HO2.out.alloc _) (sl_one _ _ (sx_bd _).1 (sx_bd _).2) (by have := HNN.out; rw [List.length_append]; simp [four]; omega) (by simp; omega) ?_)
            intro v5 w5 ho5 hg5 hn5
            have hr5 := (HR2.out.below ((Below.refl _ _).alloc (Nat.le_refl _) _) HR2.out.lt).grown hg5 (HO2.out.ne HR2.out)
            have hb5 : Below w.heap.size w w5 := (hb2.alloc hB2 _).grown hg5 (by simp; omega) (fun i hi => (World.ownsRow.lt HO2.out i hi).1)
            have HO5 := hide ho5
            have HR5 := hide hr5
            clear ho5 hg5 hn5 hr5 HOJ HRJ HO2 HR2 hcj
            go_wp2
            go_roundw
            case rel => exact ⟨4, by omega, rfl, by rw [← HTK.out]; exact HO5.out, by rw [← HMX.out]; exact HR5.out, hb5⟩
            case measure => simp [intOf]
      · have hgt : ¬ (3 : Int) < (len : Int) - 3 * (k : Int) := by omega
        have c0 := HCE.out (3 * k) (by omega)
        have b0 := HS.out.hbyte.get (3 * k)
        obtain ⟨x0, hx0⟩ : ∃ x0, x0 = xs.getD (3 * k) 0 := ⟨_, rfl⟩
        rw [← hx0] at c0 b0
        obtain ⟨b00, b01⟩ := b0
        have HX0 := hide hx0
        clear hx0
        have c1 := HCE.out (3 * k + 1) (by omega)
        have b1 := HS.out.hbyte.get (3 * k + 1)
        obtain ⟨x1, hx1⟩ : ∃ x1, x1 = xs.getD (3 * k + 1) 0 := ⟨_, rfl⟩
        rw [← hx1] at c1 b1
        obtain ⟨b10, b11⟩ := b1
        have HX1 := hide hx1
        clear hx1
        have HX2 := hide (getD_out xs (3 * k + 2) (by rw [HS.out.hlen]; omega))
        go_wp2
        refine wp_loop_rounds 4 ?_
        rw [rounds_succ]
        go_wp2
        rw [rounds_succ]
        go_wp2
        rw [rounds_succ]
        go_wp2
        rw [rounds_succ]
        go_wp2
        obtain ⟨V, hV⟩ : ∃ V, V = (x0 * 256 + x1) * 256 := ⟨_, rfl⟩
        have v0 : 0 ≤ V := by omega
        have v1 : V < 16777216 := by omega
        rw [← hV]
        have HGA : Hid (grpAt xs k = four V 2) := by
          show _ = _
          rw [grpAt, num_at, HS.out.hlen, ← HX0.out, ← HX1.out, HX2.out]
          congr 1 <;> omega
        clear hV c0 c1
        have t0 : IntKind.i64.wrap (V.tdiv 262144) = V / 262144 := by rw [Int.tdiv_eq_ediv_of_nonneg v0]; exact i64_in _ (by omega) (by omega)
        have t1 : IntKind.i64.wrap (V.tdiv 4096) = V / 4096 := by rw [Int.tdiv_eq_ediv_of_nonneg v0]; exact i64_in _ (by omega) (by omega)
        have t2 : IntKind.i64.wrap (V.tdiv 64) = V / 64 := by rw [Int.tdiv_eq_ediv_of_nonneg v0]; exact i64_in _ (by omega) (by omega)
        have t3 : (V / 4096).tmod 64 = V / 4096 % 64 := Int.tmod_eq_emod_of_nonneg (by omega)
        have t4 : (V / 64).tmod 64 = V / 64 % 64 := Int.tmod_eq_emod_of_nonneg (by omega)
        have t5 : V.tmod 64 = V % 64 := Int.tmod_eq_emod_of_nonneg v0
        have T6 := hide (show V / 262144 % 64 = V / 262144 from Int.emod_eq_of_lt (by omega) (by omega))
        have q0 := sx_get (V / 262144) (by omega) (by omega) (by show _ < 64; omega)
        have l0 : (0 : Int) ≤ V / 262144 := by omega
        have m0 : V / 262144 < 64 := by omega
        have q1 := sx_get (V / 4096 % 64) (by omega) (by omega) (by show _ < 64; omega)
        have l1 : (0 : Int) ≤ V / 4096 % 64 := by omega
        have m1 : V / 4096 % 64 < 64 := by omega
        have q2 := sx_get (V / 64 % 64) (by omega) (by omega) (by show _ < 64; omega)
        have l2 : (0 : Int) ≤ V / 64 % 64 := by omega
        have m2 : V / 64 % 64 < 64 := by omega
        have q3 := sx_get (V % 64) (by omega) (by omega) (by show _ < 64; omega)
        have l3 : (0 : Int) ≤ V % 64 := by omega
        have m3 : V % 64 < 64 := by omega
        refine wp_region_noPanic ?_
        refine wp_region_held_drew (S := fun _ => True) (by kernel_rfl) trivial (fun hHeld => ?_)
        refine takeH 0 40 (.int .i64 V) hHeld rfl rfl (by kernel_rfl) (by kernel_rfl) (by kernel_rfl) (fun _ _ _ h => h) (Or.inl ⟨by rfl, fun w _ => by go_simp⟩) ?_
        simp only [Act.put, List.setIfInBounds_toArray, List.set_cons_zero, List.set_cons_succ]
        refine takeH 1 41 (.int .i64 (V / 262144)) hHeld rfl rfl (by kernel_rfl) (by kernel_rfl) (by kernel_rfl) (fun _ _ _ h => h) (Or.inl ⟨by rfl, fun w _ => by go_simp⟩) ?_
        simp only [Act.put, List.setIfInBounds_toArray, List.set_cons_zero, List.set_cons_succ]
        refine takeH 2 42 (.int .u8 (sx (V / 262144))) hHeld rfl rfl (by kernel_rfl) (by kernel_rfl) (by kernel_rfl) (fun _ _ _ h => h) (Or.inl ⟨by rfl, fun w _ => by go_simp⟩) ?_
        simp only [Act.put, List.setIfInBounds_toArray, List.set_cons_zero, List.set_cons_succ]
        refine takeH 3 43 (.int .i64 V) hHeld rfl rfl (by kernel_rfl) (by kernel_rfl) (by kernel_rfl) (fun _ _ _ h => h) (Or.inl ⟨by rfl, fun w _ => by go_simp⟩) ?_
        simp only [Act.put, List.setIfInBounds_toArray, List.set_cons_zero, List.set_cons_succ]
        refine takeH 4 44 (.int .i64 (V / 4096)) hHeld rfl rfl (by kernel_rfl) (by kernel_rfl) (by kernel_rfl) (fun _ _ _ h => h) (Or.inl ⟨by rfl, fun w _ => by go_simp⟩) ?_
        simp only [Act.put, List.setIfInBounds_toArray, List.set_cons_zero, List.set_cons_succ]
        refine takeH 5 45 (.int .i64 (V / 4096 % 64)) hHeld rfl rfl (by kernel_rfl) (by kernel_rfl) (by kernel_rfl) (fun _ _ _ h => h) (Or.inl ⟨by rfl, fun w _ => by go_simp⟩) ?_
        simp only [Act.put, List.setIfInBounds_toArray, List.set_cons_zero, List.set_cons_succ]
        refine takeH 6 46 (.int .u8 (sx (V / 4096 % 64))) hHeld rfl rfl (by kernel_rfl) (by kernel_rfl) (by kernel_rfl) (fun _ _ _ h => h) (Or.inl ⟨by rfl, fun w _ => by go_simp⟩) ?_
        simp only [Act.put, List.setIfInBounds_toArray, List.set_cons_zero, List.set_cons_succ]
        refine takeH 7 47 (.int .i64 V) hHeld rfl rfl (by kernel_rfl) (by kernel_rfl) (by kernel_rfl) (fun _ _ _ h => h) (Or.inl ⟨by rfl, fun w _ => by go_simp⟩) ?_
        simp only [Act.put, List.setIfInBounds_toArray, List.set_cons_zero, List.set_cons_succ]
        refine takeH 8 48 (.int .i64 (V / 64)) hHeld rfl rfl (by kernel_rfl) (by kernel_rfl) (by kernel_rfl) (fun _ _ _ h => h) (Or.inl ⟨by rfl, fun w _ => by go_simp⟩) ?_
        simp only [Act.put, List.setIfInBounds_toArray, List.set_cons_zero, List.set_cons_succ]
        refine takeH 9 49 (.int .i64 (V / 64 % 64)) hHeld rfl rfl (by kernel_rfl) (by kernel_rfl) (by kernel_rfl) (fun _ _ _ h => h) (Or.inl ⟨by rfl, fun w _ => by go_simp⟩) ?_
        simp only [Act.put, List.setIfInBounds_toArray, List.set_cons_zero, List.set_cons_succ]
        refine takeH 10 50 (.int .u8 (sx (V / 64 % 64))) hHeld rfl rfl (by kernel_rfl) (by kernel_rfl) (by kernel_rfl) (fun _ _ _ h => h) (Or.inl ⟨by rfl, fun w _ => by go_simp⟩) ?_
        simp only [Act.put, List.setIfInBounds_toArray, List.set_cons_zero, List.set_cons_succ]
        refine takeH 11 51 (.int .i64 V) hHeld rfl rfl (by kernel_rfl) (by kernel_rfl) (by kernel_rfl) (fun _ _ _ h => h) (Or.inl ⟨by rfl, fun w _ => by go_simp⟩) ?_
        simp only [Act.put, List.setIfInBounds_toArray, List.set_cons_zero, List.set_cons_succ]
        refine takeH 12 52 (.int .i64 (V % 64)) hHeld rfl rfl (by kernel_rfl) (by kernel_rfl) (by kernel_rfl) (fun _ _ _ h => h) (Or.inl ⟨by rfl, fun w _ => by go_simp⟩) ?_
        simp only [Act.put, List.setIfInBounds_toArray, List.set_cons_zero, List.set_cons_succ]
        refine takeH 13 53 (.int .u8 (sx (V % 64))) hHeld rfl rfl (by kernel_rfl) (by kernel_rfl) (by kernel_rfl) (fun _ _ _ h => h) (Or.inl ⟨by rfl, fun w _ => by go_simp⟩) ?_
        simp only [Act.put, List.setIfInBounds_toArray, List.set_cons_zero, List.set_cons_succ]
        refine takeH 14 54 (.agg (bs (sxs V))) hHeld rfl rfl (by kernel_rfl) (by kernel_rfl) (by kernel_rfl) (fun _ _ _ h => h) (Or.inl ⟨by rfl, fun w _ => by kernel_rfl⟩) ?_
        simp only [Act.put, List.setIfInBounds_toArray, List.set_cons_zero, List.set_cons_succ]
        refine wpAnyH_ready (rs := [15]) (by kernel_rfl) (by simp) (AllReadyH.cons rfl (fun K hK => ?_) AllReadyH.nil)
        rw [if_pos (by rfl)]
        refine wp_run (.pointer (some ⟨wr.heap.size, 0, none⟩)) (wr.drew.alloc (.cells (bs (zer 4)) 76)) (by kernel_rfl) ?_
        refine hK.out _ _ trivial (fun _ => ?_)
        clear hK K
        simp only [Act.put, List.setIfInBounds_toArray]
        have hrZ : Row (wr.drew.alloc (.cells (bs (zer 4)) 76)) wr.heap.size 76 (zer 4) := Row.made wr.drew 76 (zer 4)
        refine wpAnyH_ready (rs := [16]) (by kernel_rfl) (by simp) (AllReadyH.cons rfl (fun K hK => ?_) AllReadyH.nil)
        rw [if_pos (by rfl)]
        refine wp_store_row 76 _ _ rfl wr.heap.size (bs (sxs V)) rfl rfl 76 (bs (zer 4)) hrZ (by rw [info76]; rfl) rfl (bs_all _) ?_
        refine hK.out _ _ trivial (fun _ => ?_)
        clear hK K
        refine wpAnyH_done (by kernel_rfl) ?_ _
        refine NoPanic.normal ?_
        have hrA := hrZ.setRow (sxs V)
        have hbA : Below wr.heap.size wr ((wr.drew.alloc (.cells (bs (zer 4)) 76)).setRow wr.heap.size (bs (sxs V))) := (((Below.refl _ _).drew).alloc (Nat.le_refl _) _).trans ((But.setRow _ _ _).below (Nat.le_refl _))
        obtain ⟨wA, hwA⟩ : ∃ wA, wA = (wr.drew.alloc (.cells (bs (zer 4)) 76)).setRow wr.heap.size (bs (sxs V)) := ⟨_, rfl⟩
        rw [← hwA] at hrA hbA ⊢
        clear hwA hrZ t0 t1 t2 t3 t4 t5 q0 q1 q2 q3 l0 l1 l2 l3 m0 m1 m2 m3
        have hbW : Below w.heap.size w wA := hb.trans (hbA.mono hb.size)
        have HOA := hide (HOO.out.below hbA)
        have hgw : w.heap.size ≤ wr.heap.size := hb.size
        obtain ⟨gA, hgA⟩ : ∃ gA, gA = wr.heap.size := ⟨_, rfl⟩
        rw [← hgA] at hrA hgw ⊢
        clear hgA hbA HOO HCE hb hB
        have HNN := hide (show (b64To xs k).length + 5 ≤ 140737488355328 by rw [b64To_length]; omega)
        go_wp2
        go_loopw [3, 9] (fun v i wz => ∃ j : Nat, j ≤ 4 ∧ i = .int .i64 j ∧ Own wz w.heap.size v (b64To xs k ++ (four V 2).take j) ∧ Row wz gA 76 (mix V 2 j) ∧ Below w.heap.size w wz) (fun _ i _ => 4 - (intOf i).toNat)
        case atStart => exact ⟨0, by omega, rfl, by simpa using HOA.out, hrA, hbW⟩
        case round =>
          obtain ⟨j, hj, rfl, hoj, hrj, hbj⟩ := hrel
          have HOJ := hide hoj
          have HRJ := hide hrj
          have hBj := hbj.size
          clear hoj hrj HOA hrA hbW
          rcases (show j = 4 ∨ j = 0 ∨ j = 1 ∨ j = 2 ∨ j = 3 by omega) with rfl | rfl | rfl | rfl | rfl
          · go_wp2
            go_roundw
            case rel => exact ⟨k + 1, by omega, by go_num, by rw [b64To_succ, HGA.out]; exact HOJ.out, hbj⟩
            case measure => simp [intOf]; omega
          · have hcj : wr.cell? ⟨gA, 0, none⟩ = some (.int .u8 (sx (V / 262144))) := HRJ.out.cell 0 (by simp [mix, four, sxs])
            have HR2 := HRJ
            have HO2 := HOJ
            have hb2 := hbj
            have HMX := hide (show mix V 2 0 = mix V 2 1 by simp [mix, four, sxs, T6.out])
            have HTK := hide (show b64To xs k ++ (four V 2).take 0 ++ [sx (V / 262144)] = b64To xs k ++ (four V 2).take 1 by rw [List.append_assoc]; congr 1; simp [four, T6.out])
            have hB2 := hb2.size
            go_wp2_with (at_builtin; refine step_append rfl rfl rfl (HO2.out.alloc _) (sl_one _ _ (sx_bd _).1 (sx_bd _).2) (by have := HNN.out; rw [List.length_append]; simp [four]; omega) (by simp; omega) ?_)
            intro v5 w5 ho5 hg5 hn5
            have hr5 := (HR2.out.below ((Below.refl _ _).alloc (Nat.le_refl _) _) HR2.out.lt).grown hg5 (HO2.out.ne HR2.out)
            have hb5 : Below w.heap.size w w5 := (hb2.alloc hB2 _).grown hg5 (by simp; omega) (fun i hi => (World.ownsRow.lt HO2.out i hi).1)
            have HO5 := hide ho5
            have HR5 := hide hr5
            clear ho5 hg5 hn5 hr5 HOJ HRJ HO2 HR2 hcj
            go_wp2
            go_roundw
            case rel => exact ⟨1, by omega, rfl, by rw [← HTK.out]; exact HO5.out, by rw [← HMX.out]; exact HR5.out, hb5⟩
            case measure => simp [intOf]
          · have hcj : wr.cell? ⟨gA, 1, none⟩ = some (.int .u8 (sx (V / 4096 % 64))) := HRJ.out.cell 1 (by simp [mix, four, sxs])
            have HR2 := HRJ
            have HO2 := HOJ
            have hb2 := hbj
            have HMX := hide (show mix V 2 1 = mix V 2 2 by simp [mix, four, sxs])
            have HTK := hide (show b64To xs k ++ (four V 2).take 1 ++ [sx (V / 4096 % 64)] = b64To xs k ++ (four V 2).take 2 by rw [List.append_assoc]; congr 1)
            have hB2 := hb2.size
            go_wp2_with (at_builtin; refine step_append rfl rfl rfl (HO2.out.alloc _) (sl_one _ _ (sx_bd _).1 (sx_bd _).2) (by have := HNN.out; rw [List.length_append]; simp [four]; omega) (by simp; omega) ?_)
            intro v5 w5 ho5 hg5 hn5
            have hr5 := (HR2.out.below ((Below.refl _ _).alloc (Nat.le_refl _) _) HR2.out.lt).grown hg5 (HO2.out.ne HR2.out)
            have hb5 : Below w.heap.size w w5 := (hb2.alloc hB2 _).grown hg5 (by simp; omega) (fun i hi => (World.ownsRow.lt HO2.out i hi).1)
            have HO5 := hide ho5
            have HR5 := hide hr5
            clear ho5 hg5 hn5 hr5 HOJ HRJ HO2 HR2 hcj
            go_wp2
            go_roundw
            case rel => exact ⟨2, by omega, rfl, by rw [← HTK.out]; exact HO5.out, by rw [← HMX.out]; exact HR5.out, hb5⟩
            case measure => simp [intOf]
          · have hcj : wr.cell? ⟨gA, 2, none⟩ = some (.int .u8 (sx (V / 64 % 64))) := HRJ.out.cell 2 (by simp [mix, four, sxs])
            have HR2 := HRJ
            have HO2 := HOJ
            have hb2 := hbj
            have HMX := hide (show mix V 2 2 = mix V 2 3 by simp [mix, four, sxs])
            have HTK := hide (show b64To xs k ++ (four V 2).take 2 ++ [sx (V / 64 % 64)] = b64To xs k ++ (four V 2).take 3 by rw [List.append_assoc]; congr 1)
            have hB2 := hb2.size
            go_wp2_with (at_builtin; refine step_append rfl rfl rfl (HO2.out.alloc _) (sl_one _ _ (sx_bd _).1 (sx_bd _).2) (by have := HNN.out; rw [List.length_append]; simp [four]; omega) (by simp; omega) ?_)
            intro v5 w5 ho5 hg5 hn5
            have hr5 := (HR2.out.below ((Below.refl _ _).alloc (Nat.le_refl _) _) HR2.out.lt).grown hg5 (HO2.out.ne HR2.out)
            have hb5 : Below w.heap.size w w5 := (hb2.alloc hB2 _).grown hg5 (by simp; omega) (fun i hi => (World.ownsRow.lt HO2.out i hi).1)
            have HO5 := hide ho5
            have HR5 := hide hr5
            clear ho5 hg5 hn5 hr5 HOJ HRJ HO2 HR2 hcj
            go_wp2
            go_roundw
            case rel => exact ⟨3, by omega, rfl, by rw [← HTK.out]; exact HO5.out, by rw [← HMX.out]; exact HR5.out, hb5⟩
            case measure => simp [intOf]
          · have hcj := HRJ.out.cell 3 (by simp [mix, four, sxs])
            have hfj := HRJ.out.free 3
            have HSL : Hid (Sl ((wr.setCell ⟨gA, 3, none⟩ (.int .u8 61)).alloc (.cells #[.int .u8 61] 5)) (some ⟨wr.heap.size, 0, none⟩) 1 1 [61]) := by
              have h := sl_one (wr.setCell ⟨gA, 3, none⟩ (.int .u8 61)) 61 (by decide) (by decide)
              have e : (wr.setCell ⟨gA, 3, none⟩ (.int .u8 61)).heap.size = wr.heap.size := by simp [World.setCell]
              rw [e] at h
              exact h
            have HB2 := hide (But.setCell wr gA 3 (.int .u8 61))
            have HR2 := hide (HRJ.out.set 3 61)
            have HO2 := hide (HOJ.out.but HB2.out (HOJ.out.ne HRJ.out))
            have hb2 := hbj.trans (HB2.out.below hgw)
            have HMX := hide (show (mix V 2 3).set 3 61 = mix V 2 4 by simp [mix, four, sxs])
            have HTK := hide (show b64To xs k ++ (four V 2).take 3 ++ [61] = b64To xs k ++ (four V 2).take 4 by rw [List.append_assoc]; congr 1)
            have hB2 := hb2.size
            go_wp2_with (at_builtin; refine step_append rfl rfl rfl (HO2.out.alloc _) HSL.out (by have := HNN.out; rw [List.length_append]; simp [four]; omega) (by simp; omega) ?_)
            intro v5 w5 ho5 hg5 hn5
            have hr5 := (HR2.out.below ((Below.refl _ _).alloc (Nat.le_refl _) _) HR2.out.lt).grown hg5 (HO2.out.ne HR2.out)
            have hb5 : Below w.heap.size w w5 := (hb2.alloc hB2 _).grown hg5 (by simp; omega) (fun i hi => (World.ownsRow.lt HO2.out i hi).1)
            have HO5 := hide ho5
            have HR5 := hide hr5
            clear ho5 hg5 hn5 hr5 HOJ HRJ HO2 HR2 hcj hfj HB2
            go_wp2
            go_roundw
            case rel => exact ⟨4, by omega, rfl, by rw [← HTK.out]; exact HO5.out, by rw [← HMX.out]; exact HR5.out, hb5⟩
            case measure => simp [intOf]
      · have hgt : ¬ (3 : Int) < (len : Int) - 3 * (k : Int) := by omega
        have c0 := HCE.out (3 * k) (by omega)
        have b0 := HS.out.hbyte.get (3 * k)
        obtain ⟨x0, hx0⟩ : ∃ x0, x0 = xs.getD (3 * k) 0 := ⟨_, rfl⟩
        rw [← hx0] at c0 b0
        obtain ⟨b00, b01⟩ := b0
        have HX0 := hide hx0
        clear hx0
        have HX1 := hide (getD_out xs (3 * k + 1) (by rw [HS.out.hlen]; omega))
        have HX2 := hide (getD_out xs (3 * k + 2) (by rw [HS.out.hlen]; omega))
        go_wp2
        refine wp_loop_rounds 4 ?_
        rw [rounds_succ]
        go_wp2
        rw [rounds_succ]
        go_wp2
        rw [rounds_succ]
        go_wp2
        rw [rounds_succ]
        go_wp2
        obtain ⟨V, hV⟩ : ∃ V, V = x0 * 256 * 256 := ⟨_, rfl⟩
        have v0 : 0 ≤ V := by omega
        have v1 : V < 16777216 := by omega
        rw [← hV]
        have HGA : Hid (grpAt xs k = four V 1) := by
          show _ = _
          rw [grpAt, num_at, HS.out.hlen, ← HX0.out, HX1.out, HX2.out]
          congr 1 <;> omega
        clear hV c0
        have t0 : IntKind.i64.wrap (V.tdiv 262144) = V / 262144 := by rw [Int.tdiv_eq_ediv_of_nonneg v0]; exact i64_in _ (by omega) (by omega)
        have t1 : IntKind.i64.wrap (V.tdiv 4096) = V / 4096 := by rw [Int.tdiv_eq_ediv_of_nonneg v0]; exact i64_in _ (by omega) (by omega)
        have t2 : IntKind.i64.wrap (V.tdiv 64) = V / 64 := by rw [Int.tdiv_eq_ediv_of_nonneg v0]; exact i64_in _ (by omega) (by omega)
        have t3 : (V / 4096).tmod 64 = V / 4096 % 64 := Int.tmod_eq_emod_of_nonneg (by omega)
        have t4 : (V / 64).tmod 64 = V / 64 % 64 := Int.tmod_eq_emod_of_nonneg (by omega)
        have t5 : V.tmod 64 = V % 64 := Int.tmod_eq_emod_of_nonneg v0
        have T6 := hide (show V / 262144 % 64 = V / 262144 from Int.emod_eq_of_lt (by omega) (by omega))
        have q0 := sx_get (V / 262144) (by omega) (by omega) (by show _ < 64; omega)
        have l0 : (0 : Int) ≤ V / 262144 := by omega
        have m0 : V / 262144 < 64 := by omega
        have q1 := sx_get (V / 4096 % 64) (by omega) (by omega) (by show _ < 64; omega)
        have l1 : (0 : Int) ≤ V / 4096 % 64 := by omega
        have m1 : V / 4096 % 64 < 64 := by omega
        have q2 := sx_get (V / 64 % 64) (by omega) (by omega) (by show _ < 64; omega)
        have l2 : (0 : Int) ≤ V / 64 % 64 := by omega
        have m2 : V / 64 % 64 < 64 := by omega
        have q3 := sx_get (V % 64) (by omega) (by omega) (by show _ < 64; omega)
        have l3 : (0 : Int) ≤ V % 64 := by omega
        have m3 : V % 64 < 64 := by omega
        refine wp_region_noPanic ?_
        refine wp_region_held_drew (S := fun _ => True) (by kernel_rfl) trivial (fun hHeld => ?_)
        refine takeH 0 40 (.int .i64 V) hHeld rfl rfl (by kernel_rfl) (by kernel_rfl) (by kernel_rfl) (fun _ _ _ h => h) (Or.inl ⟨by rfl, fun w _ => by go_simp⟩) ?_
        simp only [Act.put, List.setIfInBounds_toArray, List.set_cons_zero, List.set_cons_succ]
        refine takeH 1 41 (.int .i64 (V / 262144)) hHeld rfl rfl (by kernel_rfl) (by kernel_rfl) (by kernel_rfl) (fun _ _ _ h => h) (Or.inl ⟨by rfl, fun w _ => by go_simp⟩) ?_
        simp only [Act.put, List.setIfInBounds_toArray, List.set_cons_zero, List.set_cons_succ]
        refine takeH 2 42 (.int .u8 (sx (V / 262144))) hHeld rfl rfl (by kernel_rfl) (by kernel_rfl) (by kernel_rfl) (fun _ _ _ h => h) (Or.inl ⟨by rfl, fun w _ => by go_simp⟩) ?_
        simp only [Act.put, List.setIfInBounds_toArray, List.set_cons_zero, List.set_cons_succ]
        refine takeH 3 43 (.int .i64 V) hHeld rfl rfl (by kernel_rfl) (by kernel_rfl) (by kernel_rfl) (fun _ _ _ h => h) (Or.inl ⟨by rfl, fun w _ => by go_simp⟩) ?_
        simp only [Act.put, List.setIfInBounds_toArray, List.set_cons_zero, List.set_cons_succ]
        refine takeH 4 44 (.int .i64 (V / 4096)) hHeld rfl rfl (by kernel_rfl) (by kernel_rfl) (by kernel_rfl) (fun _ _ _ h => h) (Or.inl ⟨by rfl, fun w _ => by go_simp⟩) ?_
        simp only [Act.put, List.setIfInBounds_toArray, List.set_cons_zero, List.set_cons_succ]
        refine takeH 5 45 (.int .i64 (V / 4096 % 64)) hHeld rfl rfl (by kernel_rfl) (by kernel_rfl) (by kernel_rfl) (fun _ _ _ h => h) (Or.inl ⟨by rfl, fun w _ => by go_simp⟩) ?_
        simp only [Act.put, List.setIfInBounds_toArray, List.set_cons_zero, List.set_cons_succ]
        refine takeH 6 46 (.int .u8 (sx (V / 4096 % 64))) hHeld rfl rfl (by kernel_rfl) (by kernel_rfl) (by kernel_rfl) (fun _ _ _ h => h) (Or.inl ⟨by rfl, fun w _ => by go_simp⟩) ?_
        simp only [Act.put, List.setIfInBounds_toArray, List.set_cons_zero, List.set_cons_succ]
        refine takeH 7 47 (.int .i64 V) hHeld rfl rfl (by kernel_rfl) (by kernel_rfl) (by kernel_rfl) (fun _ _ _ h => h) (Or.inl ⟨by rfl, fun w _ => by go_simp⟩) ?_
        simp only [Act.put, List.setIfInBounds_toArray, List.set_cons_zero, List.set_cons_succ]
        refine takeH 8 48 (.int .i64 (V / 64)) hHeld rfl rfl (by kernel_rfl) (by kernel_rfl) (by kernel_rfl) (fun _ _ _ h => h) (Or.inl ⟨by rfl, fun w _ => by go_simp⟩) ?_
        simp only [Act.put, List.setIfInBounds_toArray, List.set_cons_zero, List.set_cons_succ]
        refine takeH 9 49 (.int .i64 (V / 64 % 64)) hHeld rfl rfl (by kernel_rfl) (by kernel_rfl) (by kernel_rfl) (fun _ _ _ h => h) (Or.inl ⟨by rfl, fun w _ => by go_simp⟩) ?_
        simp only [Act.put, List.setIfInBounds_toArray, List.set_cons_zero, List.set_cons_succ]
        refine takeH 10 50 (.int .u8 (sx (V / 64 % 64))) hHeld rfl rfl (by kernel_rfl) (by kernel_rfl) (by kernel_rfl) (fun _ _ _ h => h) (Or.inl ⟨by rfl, fun w _ => by go_simp⟩) ?_
        simp only [Act.put, List.setIfInBounds_toArray, List.set_cons_zero, List.set_cons_succ]
        refine takeH 11 51 (.int .i64 V) hHeld rfl rfl (by kernel_rfl) (by kernel_rfl) (by kernel_rfl) (fun _ _ _ h => h) (Or.inl ⟨by rfl, fun w _ => by go_simp⟩) ?_
        simp only [Act.put, List.setIfInBounds_toArray, List.set_cons_zero, List.set_cons_succ]
        refine takeH 12 52 (.int .i64 (V % 64)) hHeld rfl rfl (by kernel_rfl) (by kernel_rfl) (by kernel_rfl) (fun _ _ _ h => h) (Or.inl ⟨by rfl, fun w _ => by go_simp⟩) ?_
        simp only [Act.put, List.setIfInBounds_toArray, List.set_cons_zero, List.set_cons_succ]
        refine takeH 13 53 (.int .u8 (sx (V % 64))) hHeld rfl rfl (by kernel_rfl) (by kernel_rfl) (by kernel_rfl) (fun _ _ _ h => h) (Or.inl ⟨by rfl, fun w _ => by go_simp⟩) ?_
        simp only [Act.put, List.setIfInBounds_toArray, List.set_cons_zero, List.set_cons_succ]
        refine takeH 14 54 (.agg (bs (sxs V))) hHeld rfl rfl (by kernel_rfl) (by kernel_rfl) (by kernel_rfl) (fun _ _ _ h => h) (Or.inl ⟨by rfl, fun w _ => by kernel_rfl⟩) ?_
        simp only [Act.put, List.setIfInBounds_toArray, List.set_cons_zero, List.set_cons_succ]
        refine wpAnyH_ready (rs := [15]) (by kernel_rfl) (by simp) (AllReadyH.cons rfl (fun K hK => ?_) AllReadyH.nil)
        rw [if_pos (by rfl)]
        refine wp_run (.pointer (some ⟨wr.heap.size, 0, none⟩)) (wr.drew.alloc (.cells (bs (zer 4)) 76)) (by kernel_rfl) ?_
        refine hK.out _ _ trivial (fun _ => ?_)
        clear hK K
        simp only [Act.put, List.setIfInBounds_toArray]
        have hrZ : Row (wr.drew.alloc (.cells (bs (zer 4)) 76)) wr.heap.size 76 (zer 4) := Row.made wr.drew 76 (zer 4)
        refine wpAnyH_ready (rs := [16]) (by kernel_rfl) (by simp) (AllReadyH.cons rfl (fun K hK => ?_) AllReadyH.nil)
        rw [if_pos (by rfl)]
        refine wp_store_row 76 _ _ rfl wr.heap.size (bs (sxs V)) rfl rfl 76 (bs (zer 4)) hrZ (by rw [info76]; rfl) rfl (bs_all _) ?_
        refine hK.out _ _ trivial (fun _ => ?_)
        clear hK K
        refine wpAnyH_done (by kernel_rfl) ?_ _
        refine NoPanic.normal ?_
        have hrA := hrZ.setRow (sxs V)
        have hbA : Below wr.heap.size wr ((wr.drew.alloc (.cells (bs (zer 4)) 76)).setRow wr.heap.size (bs (sxs V))) := (((Below.refl _ _).drew).alloc (Nat.le_refl _) _).trans ((But.setRow _ _ _).below (Nat.le_refl _))
        obtain ⟨wA, hwA⟩ : ∃ wA, wA = (wr.drew.alloc (.cells (bs (zer 4)) 76)).setRow wr.heap.size (bs (sxs V)) := ⟨_, rfl⟩
        rw [← hwA] at hrA hbA ⊢
        clear hwA hrZ t0 t1 t2 t3 t4 t5 q0 q1 q2 q3 l0 l1 l2 l3 m0 m1 m2 m3
        have hbW : Below w.heap.size w wA := hb.trans (hbA.mono hb.size)
        have HOA := hide (HOO.out.below hbA)
        have hgw : w.heap.size ≤ wr.heap.size := hb.size
        obtain ⟨gA, hgA⟩ : ∃ gA, gA = wr.heap.size := ⟨_, rfl⟩
        rw [← hgA] at hrA hgw ⊢
        clear hgA hbA HOO HCE hb hB
        have HNN := hide (show (b64To xs k).length + 5 ≤ 140737488355328 by rw [b64To_length]; omega)
        go_wp2
        go_loopw [3, 9] (fun v i wz => ∃ j : Nat, j ≤ 4 ∧ i = .int .i64 j ∧ Own wz w.heap.size v (b64To xs k ++ (four V 1).take j) ∧ Row wz gA 76 (mix V 1 j) ∧ Below w.heap.size w wz) (fun _ i _ => 4 - (intOf i).toNat)
        case atStart => exact ⟨0, by omega, rfl, by simpa using HOA.out, hrA, hbW⟩
        case round =>
          obtain ⟨j, hj, rfl, hoj, hrj, hbj⟩ := hrel
          have HOJ := hide hoj
          have HRJ := hide hrj
          have hBj := hbj.size
          clear hoj hrj HOA hrA hbW
          rcases (show j = 4 ∨ j = 0 ∨ j = 1 ∨ j = 2 ∨ j = 3 by omega) with rfl | rfl | rfl | rfl | rfl
          · go_wp2
            go_roundw
            case rel => exact ⟨k + 1, by omega, by go_num, by rw [b64To_succ, HGA.out]; exact HOJ.out, hbj⟩
            case measure => simp [intOf]; omega
          · have hcj : wr.cell? ⟨gA, 0, none⟩ = some (.int .u8 (sx (V / 262144))) := HRJ.out.cell 0 (by simp [mix, four, sxs])
            have HR2 := HRJ
            have HO2 := HOJ
            have hb2 := hbj
            have HMX := hide (show mix V 1 0 = mix V 1 1 by simp [mix, four, sxs, T6.out])
            have HTK := hide (show b64To xs k ++ (four V 1).take 0 ++ [sx (V / 262144)] = b64To xs k ++ (four V 1).take 1 by rw [List.append_assoc]; congr 1; simp [four, T6.out])
            have hB2 := hb2.size
            go_wp2_with (at_builtin; refine step_append rfl rfl rfl (HO2.out.alloc _) (sl_one _ _ (sx_bd _).1 (sx_bd _).2) (by have := HNN.out; rw [List.length_append]; simp [four]; omega) (by simp; omega) ?_)
            intro v5 w5 ho5 hg5 hn5
            have hr5 := (HR2.out.below ((Below.refl _ _).alloc (Nat.le_refl _) _) HR2.out.lt).grown hg5 (HO2.out.ne HR2.out)
            have hb5 : Below w.heap.size w w5 := (hb2.alloc hB2 _).grown hg5 (by simp; omega) (fun i hi => (World.ownsRow.lt HO2.out i hi).1)
            have HO5 := hide ho5
            have HR5 := hide hr5
            clear ho5 hg5 hn5 hr5 HOJ HRJ HO2 HR2 hcj
            go_wp2
            go_roundw
            case rel => exact ⟨1, by omega, rfl, by rw [← HTK.out]; exact HO5.out, by rw [← HMX.out]; exact HR5.out, hb5⟩
            case measure => simp [intOf]
          · have hcj : wr.cell? ⟨gA, 1, none⟩ = some (.int .u8 (sx (V / 4096 % 64))) := HRJ.out.cell 1 (by simp [mix, four, sxs])
            have HR2 := HRJ
            have HO2 := HOJ
            have hb2 := hbj
            have HMX := hide (show mix V 1 1 = mix V 1 2 by simp [mix, four, sxs])
            have HTK := hide (show b64To xs k ++ (four V 1).take 1 ++ [sx (V / 4096 % 64)] = b64To xs k ++ (four V 1).take 2 by rw [List.append_assoc]; congr 1)
            have hB2 := hb2.size
            go_wp2_with (at_builtin; refine step_append rfl rfl rfl (HO2.out.alloc _) (sl_one _ _ (sx_bd _).1 (sx_bd _).2) (by have := HNN.out; rw [List.length_append]; simp [four]; omega) (by simp; omega) ?_)
            intro v5 w5 ho5 hg5 hn5
            have hr5 := (HR2.out.below ((Below.refl _ _).alloc (Nat.le_refl _) _) HR2.out.lt).grown hg5 (HO2.out.ne HR2.out)
            have hb5 : Below w.heap.size w w5 := (hb2.alloc hB2 _).grown hg5 (by simp; omega) (fun i hi => (World.ownsRow.lt HO2.out i hi).1)
            have HO5 := hide ho5
            have HR5 := hide hr5
            clear ho5 hg5 hn5 hr5 HOJ HRJ HO2 HR2 hcj
            go_wp2
            go_roundw
            case rel => exact ⟨2, by omega, rfl, by rw [← HTK.out]; exact HO5.out, by rw [← HMX.out]; exact HR5.out, hb5⟩
            case measure => simp [intOf]
          · have hcj := HRJ.out.cell 2 (by simp [mix, four, sxs])
            have hfj := HRJ.out.free 2
            have HSL : Hid (Sl ((wr.setCell ⟨gA, 2, none⟩ (.int .u8 61)).alloc (.cells #[.int .u8 61] 5)) (some ⟨wr.heap.size, 0, none⟩) 1 1 [61]) := by
              have h := sl_one (wr.setCell ⟨gA, 2, none⟩ (.int .u8 61)) 61 (by decide) (by decide)
              have e : (wr.setCell ⟨gA, 2, none⟩ (.int .u8 61)).heap.size = wr.heap.size := by simp [World.setCell]
              rw [e] at h
              exact h
            have HB2 := hide (But.setCell wr gA 2 (.int .u8 61))
            have HR2 := hide (HRJ.out.set 2 61)
            have HO2 := hide (HOJ.out.but HB2.out (HOJ.out.ne HRJ.out))
            have hb2 := hbj.trans (HB2.out.below hgw)
            have HMX := hide (show (mix V 1 2).set 2 61 = mix V 1 3 by simp [mix, four, sxs])
            have HTK := hide (show b64To xs k ++ (four V 1).take 2 ++ [61] = b64To xs k ++ (four V 1).take 3 by rw [List.append_assoc]; congr 1)
            have hB2 := hb2.size
            go_wp2_with (at_builtin; refine step_append rfl rfl rfl (HO2.out.alloc _) HSL.out (by have := HNN.out; rw [List.length_append]; simp [four]; omega) (by simp; omega) ?_)
            intro v5 w5 ho5 hg5 hn5
            have hr5 := (HR2.out.below ((Below.refl _ _).alloc (Nat.le_refl _) _) HR2.out.lt).grown hg5 (HO2.out.ne HR2.out)
            have hb5 : Below w.heap.size w w5 := (hb2.alloc hB2 _).grown hg5 (by simp; omega) (fun i hi => (World.ownsRow.lt HO2.out i hi).1)
            have HO5 := hide ho5
            have HR5 := hide hr5
            clear ho5 hg5 hn5 hr5 HOJ HRJ HO2 HR2 hcj hfj HB2
            go_wp2
            go_roundw
            case rel => exact ⟨3, by omega, rfl, by rw [← HTK.out]; exact HO5.out, by rw [← HMX.out]; exact HR5.out, hb5⟩
            case measure => simp [intOf]
          · have hcj := HRJ.out.cell 3 (by simp [mix, four, sxs])
            have hfj := HRJ.out.free 3
            have HSL : Hid (Sl ((wr.setCell ⟨gA, 3, none⟩ (.int .u8 61)).alloc (.cells #[.int .u8 61] 5)) (some ⟨wr.heap.size, 0, none⟩) 1 1 [61]) := by
              have h := sl_one (wr.setCell ⟨gA, 3, none⟩ (.int .u8 61)) 61 (by decide) (by decide)
              have e : (wr.setCell ⟨gA, 3, none⟩ (.int .u8 61)).heap.size = wr.heap.size := by simp [World.setCell]
              rw [e] at h
              exact h
            have HB2 := hide (But.setCell wr gA 3 (.int .u8 61))
            have HR2 := hide (HRJ.out.set 3 61)
            have HO2 := hide (HOJ.out.but HB2.out (HOJ.out.ne HRJ.out))
            have hb2 := hbj.trans (HB2.out.below hgw)
            have HMX := hide (show (mix V 1 3).set 3 61 = mix V 1 4 by simp [mix, four, sxs])
            have HTK := hide (show b64To xs k ++ (four V 1).take 3 ++ [61] = b64To xs k ++ (four V 1).take 4 by rw [List.append_assoc]; congr 1)
            have hB2 := hb2.size
            go_wp2_with (at_builtin; refine step_append rfl rfl rfl (HO2.out.alloc _) HSL.out (by have := HNN.out; rw [List.length_append]; simp [four]; omega) (by simp; omega) ?_)
            intro v5 w5 ho5 hg5 hn5
            have hr5 := (HR2.out.below ((Below.refl _ _).alloc (Nat.le_refl _) _) HR2.out.lt).grown hg5 (HO2.out.ne HR2.out)
            have hb5 : Below w.heap.size w w5 := (hb2.alloc hB2 _).grown hg5 (by simp; omega) (fun i hi => (World.ownsRow.lt HO2.out i hi).1)
            have HO5 := hide ho5
            have HR5 := hide hr5
            clear ho5 hg5 hn5 hr5 HOJ HRJ HO2 HR2 hcj hfj HB2
            go_wp2
            go_roundw
            case rel => exact ⟨4, by omega, rfl, by rw [← HTK.out]; exact HO5.out, by rw [← HMX.out]; exact HR5.out, hb5⟩
            case measure => simp [intOf]
    · have hkm : k = m := by omega
      subst hkm
      have e1 : b64To xs k = b64B xs := by rw [b64B, HS.out.hlen, ← HM.out]
      have ho := HOO.out
      rw [e1] at ho
      obtain ⟨sa, sc, rfl, sl⟩ := ho.sl' (by rw [← e1]; exact b64To_isB _ _) (by rw [← e1, b64To_length]; omega)
      have SL := hide sl
      clear sl ho e1
      have hge : ¬ ((3 * (k : Int)) < len) := by omega
      go_wp2_with (refine step_toStr rfl rfl SL.out ?_)
      go_ret
      exact ⟨rfl, hb⟩

end Go.Proofs.Ytpfpgimhnmnhlaa
