/-
  Texts one behind the other: Zds Zct Zpn Kqp Kqq Kqr Zpu Srd Zrd Sbj Sfi Sst.
-/
import Derived.Test.YtlgcjdgcgnlcaaaGreatDoorPkE
import Derived.Deep.Cut
import Derived.Test.YtlgcjdgcgnlcaaaGreatDoorPkA
import Derived.Test.YtlgcjdgcgnlcaaaGreatDoorSfrD
import Derived.OpenShut
import Derived.Test.YtlgcjdgcgnlcaaaGreatDoorPkD
import Derived.Test.YtlgcjdgcgnlcaaaGreatDoorNv
import Derived.Test.YtlgcjdgcgnlcaaaGreatDoorKmj
import Derived.Test.YtlgcjdgcgnlcaaaGreatDoorKmi

/-
  The law's disks: the program's disk has the files that the document's has.
-/
namespace Go.Proofs.YtlgcjdgcgnlcaaaGreatDoor
open Go.RowKit Go.Shelf
set_option linter.unusedVariables false
set_option linter.unusedSimpArgs false

set_option maxRecDepth 100000 in
set_option maxHeartbeats 2000000 in
theorem disks_any (d r s : Nat) (rs : List Rw) (D : Dm) (R : Rm) (w : World) (h : DkAt w d s rs D) (h' : RkAt w r s rs R) (hwt : wt rs ≤ 1000000000000) :
    Calls Tryz.prog 16 #[.pointer (some ⟨d, 0, none⟩), .pointer (some ⟨r, 0, none⟩)] w fun e w' => e = .returned (.bool true) ∧ Below w.heap.size w w' := by
  have HD := hide h
  have HR := hide h'
  have HW := hide hwt
  have HW2 : Hid (wt rs ≤ 1099511000000) := hide (by omega)
  clear h h' hwt
  refine (callsIn_wide (n := 7)).1 ?_
  refine callsIn_of_wp_marks Tryz.func16 rfl trivial ?_ rfl
  refine wpIn_wide.2 ?_
  simp only [Tryz.ntmps16, List.size_toArray, List.length_cons, List.length_nil, Nat.reduceAdd, Nat.reduceSub, Array.replicate_succ, Array.replicate_zero, List.push_toArray, List.append_toArray, List.nil_append, List.cons_append]
  go_wp2_with fail
  have c2 : Blk (((w.alloc (.cells #[.pointer (some ⟨d, 0, none⟩)] 26)).alloc (.cells #[.pointer (some ⟨r, 0, none⟩)] 27)).alloc (.cells #[.bool false] 4)) w.heap.size 26 [.pointer (some ⟨d, 0, none⟩)] := ((Blk.made w _ _).on ((Below.refl _ _).alloc (Nat.le_refl _) _)).on ((Below.refl _ _).alloc (Nat.le_refl _) _)
  have c3 : Blk (((w.alloc (.cells #[.pointer (some ⟨d, 0, none⟩)] 26)).alloc (.cells #[.pointer (some ⟨r, 0, none⟩)] 27)).alloc (.cells #[.bool false] 4)) (w.heap.size + 1) 27 [.pointer (some ⟨r, 0, none⟩)] := by
    have := (Blk.made (w.alloc (.cells #[.pointer (some ⟨d, 0, none⟩)] 26)) 27 [.pointer (some ⟨r, 0, none⟩)]).on ((Below.refl _ _).alloc (o := .cells #[.bool false] 4) (Nat.le_refl _))
    rwa [World.size_alloc] at this
  have c4 : Blk (((w.alloc (.cells #[.pointer (some ⟨d, 0, none⟩)] 26)).alloc (.cells #[.pointer (some ⟨r, 0, none⟩)] 27)).alloc (.cells #[.bool false] 4)) (w.heap.size + 2) 4 [.bool false] := by
    have := Blk.made ((w.alloc (.cells #[.pointer (some ⟨d, 0, none⟩)] 26)).alloc (.cells #[.pointer (some ⟨r, 0, none⟩)] 27)) 4 [.bool false]
    rwa [World.size_alloc, World.size_alloc] at this
  have B0 : Below w.heap.size w (((w.alloc (.cells #[.pointer (some ⟨d, 0, none⟩)] 26)).alloc (.cells #[.pointer (some ⟨r, 0, none⟩)] 27)).alloc (.cells #[.bool false] 4)) := (((Below.refl _ w).alloc (Nat.le_refl _) _).alloc (by simp) _).alloc (by simp; omega) _
  revert c2 c3 c4 B0
  generalize ((w.alloc (.cells #[.pointer (some ⟨d, 0, none⟩)] 26)).alloc (.cells #[.pointer (some ⟨r, 0, none⟩)] 27)).alloc (.cells #[.bool false] 4) = W0
  obtain ⟨b2, hb2⟩ : ∃ b, w.heap.size = b := ⟨_, rfl⟩
  obtain ⟨b3, hb3⟩ : ∃ b, w.heap.size + 1 = b := ⟨_, rfl⟩
  obtain ⟨b4, hb4⟩ : ∃ b, w.heap.size + 1 + 1 = b := ⟨_, rfl⟩
  have HB4 : Hid (w.heap.size ≤ b4) := hide (by omega)
  intro c2 c3 c4 B0
  rw [hb3] at c3
  rw [hb4] at c4
  rw [hb2] at c2
  rw [hb4, hb3, hb2]
  have C2 := hide c2
  have C3 := hide c3
  have C4 := hide c4
  have BB0 := hide B0
  clear c2 c3 c4 B0 hb2 hb3 hb4
  refine (listR_any r s rs R W0 (HR.out.below BB0.out) HW2.out).mono ?_
  rintro _ W1 ⟨v, rfl, hrow, hb1⟩
  obtain ⟨av, cv, rfl⟩ := row_slice hrow
  have ROW := hide hrow
  have BB1 := hide hb1
  clear hrow hb1
  go_upto_region 3 with fail
  have hbA : Below W1.heap.size W1 (W1.alloc (.cells #[.slice av R.l.length cv] 91)) := (Below.refl _ _).alloc (Nat.le_refl _) _
  have S1 : Hid (SD w (W1.alloc (.cells #[.slice av R.l.length cv] 91)) b2 b3 b4 W1.heap.size d r s rs D R av cv) := hide
    ⟨(C2.out.on BB1.out).on hbA, (C3.out.on BB1.out).on hbA, (C4.out.on BB1.out).on hbA, Blk.made W1 _ _, ownsRow_base_a (row_on ROW.out hbA) BB0.out.size, (HD.out.below (on_below BB0.out BB1.out)).below hbA, (HR.out.below (on_below BB0.out BB1.out)).below hbA, on_below (on_below BB0.out BB1.out) hbA, HB4.out⟩
  have A1 : Hid (AS (W1.alloc (.cells #[.slice av R.l.length cv] 91)) ((W1.alloc (.cells #[.slice av R.l.length cv] 91)).alloc (.cells #[.int .i64 0] 3)) (W1.heap.size + 1) 0) := hide
    ⟨(Below.refl _ _).alloc (Nat.le_refl _) _, by have := Blk.made (W1.alloc (.cells #[.slice av R.l.length cv] 91)) 3 [.int .i64 0]; rwa [World.size_alloc] at this, by simp⟩
  clear hbA C2 C3 C4 BB0 BB1 ROW
  revert S1 A1
  generalize (W1.alloc (.cells #[.slice av R.l.length cv] 91)).alloc (.cells #[.int .i64 0] 3) = W4
  generalize W1.alloc (.cells #[.slice av R.l.length cv] 91) = W3
  obtain ⟨b6, hb6⟩ : ∃ b, W1.heap.size + 1 = b := ⟨_, rfl⟩
  obtain ⟨b5, hb5⟩ : ∃ b, W1.heap.size = b := ⟨_, rfl⟩
  rw [hb6, hb5]
  intro S1 A1
  clear hb6 hb5
  have S4 := hide (S1.out.on A1.out.bel)
  have k2 := S4.out.q2
  go_wp2_with fail
  refine (list_any (some ⟨d, 0, none⟩) _).mono ?_
  rintro _ W5 ⟨rfl, rfl⟩
  have hbA : Below W4.heap.size W4 (W4.alloc (.cells #[.pointer (some ⟨d, 0, none⟩)] 26)) := (Below.refl _ _).alloc (Nat.le_refl _) _
  have S5 := hide (S4.out.on hbA)
  have A5 := hide (A1.out.on hbA)
  clear hbA k2 S4 A1
  revert S5 A5
  generalize W4.alloc (.cells #[.pointer (some ⟨d, 0, none⟩)] 26) = W5
  generalize W4.heap.size = bx0
  intro S5 A5
  have heq : ∀ v : World, (binOp BinOp.eql 102 (.func (.func 80) #[] #[.pointer (some ⟨bx0, 0, none⟩)]) .nilFunc).run Tryz.prog v = .ok (.bool false) v := fun v => by kernel_rfl
  have k2 := S5.out.q2
  go_wp2_with fail
  refine (list_any (some ⟨d, 0, none⟩) _).mono ?_
  rintro _ W6 ⟨rfl, rfl⟩
  have hbA : Below W5.heap.size W5 (W5.alloc (.cells #[.pointer (some ⟨d, 0, none⟩)] 26)) := (Below.refl _ _).alloc (Nat.le_refl _) _
  have S6 := hide (S5.out.on hbA)
  have A6 := hide (A5.out.on hbA)
  have BX : Hid (Blk (W5.alloc (.cells #[.pointer (some ⟨d, 0, none⟩)] 26)) W5.heap.size 26 [.pointer (some ⟨d, 0, none⟩)]) := hide (Blk.made _ _ _)
  clear hbA k2 S5 A5 heq
  revert S6 A6 BX
  generalize W5.alloc (.cells #[.pointer (some ⟨d, 0, none⟩)] 26) = W6
  generalize W5.heap.size = bx
  intro S6 A6 BX
  have hB6 : b6 < W6.heap.size := A6.out.c6.lt
  have hB3 : W3.heap.size ≤ W6.heap.size := A6.out.bel.size
  have HSQ := hide (list_seq bx d s rs D S6.out.rk.fls HW2.out W6 BX.out S6.out.dk)
  go_wp2_with fail
  refine (wpIn_wide (n := 7)).1 ?_
  refine rangeR rfl (by decide) (gf := 80) (lb := #[.pointer (some ⟨bx, 0, none⟩)]) rfl trivial (enters_of Tryz.func80 (by kernel_rfl) rfl)
    HSQ.out KS.trans (fun x W l o o' hl h hc => KS.book W l o o' h hc) (fun _ => rfl) (fun pre x => rl_own _ _ pre x)
    (fun pre W => AS W3 W b6 pre.length) (fun _ _ _ => False)
    (fun _ A C row h hg hr => h.kept hB3 hg hr) (fun c _ A C row h hg hr => h)
    A6.out ?act ?assign ?body ?done ?stop
  case assign =>
    rintro l x W K hK
    have hsem := Oper.semAt_some
    gi_wp2
    exact hK
  case stop =>
    rintro D2 c pre W9 hD2 hSp h hK3
    exact h.elim
  case body =>
    rintro l pre x W hA ⟨hp1, ys, hx⟩
    have hsem := Oper.semAt_some
    obtain ⟨k, HKK⟩ : ∃ k, Hid (pre.length = k) := ⟨_, hide rfl⟩
    rw [HKK.out] at hA hx
    have HPL : Hid ((pre ++ [x]).length = k + 1) := hide (by rw [List.length_append, HKK.out]; rfl)
    have HA := hide hA
    have hb6W : b6 < W.heap.size := hA.c6.lt
    have hW3W : W3.heap.size ≤ W.heap.size := hA.bel.size
    have SW := hide (S1.out.on hA.bel)
    have k3 := SW.out.q3
    have k5 := SW.out.q5
    have k6 : W.cell? ⟨b6, 0, none⟩ = some (.int .i64 (k : Int)) := by rw [hA.c6.cell]; rfl
    have hkl : k < R.l.length := (List.getElem?_eq_some_iff.1 hx).1
    obtain ⟨g, cap, cs, e1, hg, hcs, _⟩ := row_at SW.out.row (by omega)
    injection e1 with e1 e2 e3
    clear e2
    subst e1 e3
    have hix := st_at g R.l.length cv k hkl
    have hcell : W.cell? ⟨g, k, none⟩ = some (.string x) := by
      rw [hg.cell]
      have h1 : (nmsC R.l)[k]? = some (.string x) := by unfold nmsC; rw [List.getElem?_map, hx]; rfl
      rw [← hcs, List.getElem?_take, if_pos (by omega)] at h1
      exact h1
    have hf : Hid (play rs x = some ys) := hide ((SW.out.rk.fls.mem x ys).2 (List.mem_of_getElem? hx))
    have hnm : Hid (nmB x = true) := hide (SW.out.rk.nmR hf.out)
    have hlti : ¬ (R.l.length : Int) ≤ (k : Int) := by omega
    clear hx hg hcs hA hp1
    gi_wp2_with fail
    refine ⟨trivial, (calls_round (WideF.round l) (stand_all SW.out.rk hf.out HW2.out)).mono ?_⟩
    rintro _ Wa ⟨rfl, hba⟩
    have KOa := hide (keepsO_below hba)
    have KLa : Hid (KS W Wa) := hide (KS.below hba)
    have HAa := hide (HA.out.on hba)
    have SWa := hide (SW.out.on hba)
    have k2 := SWa.out.q2
    clear hba k3 k5 k6 hix hcell HA SW
    obtain ⟨Y, HYY⟩ : ∃ Y, Hid (str ys = Y) := ⟨_, hide rfl⟩
    have hyl : ys.length ≤ 1099511000000 := by
      have := play_wt rs x
      have e1 : fl (play rs) x = ys := by simp [fl, hf.out]
      rw [e1] at this
      have := HW2.out
      omega
    have hys : Y.size = ys.length := by rw [← HYY.out]; exact str_size ys
    have HYL := hide hyl
    have RD : Hid (∀ W : World, DkAt W d s rs D → Calls Tryz.prog 47 #[.pointer (some ⟨d, 0, none⟩), .string x, .int .i64 0, .int .i64 ((ys.length : Int) + 1)] W fun e w' => ∃ v, e = .returned (.tuple #[v, .int .i64 0]) ∧ Own w' W.heap.size v ys ∧ Below W.heap.size W w') := hide (fun W hW => stand_read hW hnm.out hf.out HW2.out)
    rw [HYY.out]
    obtain ⟨yl, HYLN⟩ : ∃ yl, Hid (ys.length = yl) := ⟨_, hide rfl⟩
    rw [HYLN.out] at RD hys hyl
    gi_wp2_with fail
    refine ⟨trivial, (calls_round (WideF.round l) (RD.out _ SWa.out.dk)).mono ?_⟩
    rintro _ Wb ⟨v1, rfl, ho1, hbb⟩
    have KOb := hide (KOa.out.trans (keepsO_below hbb))
    have KLb : Hid (KS W Wb) := hide (KLa.out.trans (KS.below hbb))
    have HAb := hide (HAa.out.on hbb)
    have SWb := hide (SWa.out.on hbb)
    have hisb := SWb.out.rk.isb hf.out
    obtain ⟨a1, c1, e1, s1⟩ := ho1.sl' hisb (by have := HYL.out; omega)
    have hcv := toStr s1
    rw [HYY.out] at hcv
    rw [HYLN.out] at e1 hcv
    subst e1
    have k6 : Wb.cell? ⟨b6, 0, none⟩ = some (.int .i64 (k : Int)) := by rw [HAb.out.c6.cell]; rfl
    have f6 := HAb.out.c6.free 0
    have HA7 := hide (HAb.out.set (k + 1))
    have KO7 : Hid (KeepsOthers W (Wb.setCell ⟨b6, 0, none⟩ (.int .i64 ((k + 1 : Nat) : Int)))) := hide (KOb.out.trans (KeepsOthers.setCell _ _ _))
    have KL7 : Hid (KS W (Wb.setCell ⟨b6, 0, none⟩ (.int .i64 ((k + 1 : Nat) : Int)))) := hide (KLb.out.trans (KS.but (But.setCell _ _ _ _) HAb.out.c6 (by decide)))
    have hk1 : (((k + 1 : Nat) : Int)) = (k : Int) + 1 := by omega
    rw [hk1] at HA7 KO7 KL7
    have hkb : (k : Int) < 9223372036854775807 := by have := SWb.out.rk.few2 _ _ _ _ _ HW2.out; omega
    clear hbb ho1 KOa KLa HAa SWa KOb KLb HAb SWb hisb s1 hk1 k2 RD
    gi_wp2
    all_goals exact ⟨KO7.out.from _, KL7.out, by show AS _ _ _ _; rw [HPL.out]; exact HA7.out⟩
  case done =>
    rintro D2 ys W9 hD2 hS hA hK3
    have hyl : ys.length = R.l.length := by rw [hS, List.length_map]
    rw [hyl] at hA
    have S9 := hide (S1.out.on hA.bel)
    have HM := hide hK3
    obtain ⟨qa, qc, hqv, hq2⟩ := S9.out.r2
    have HQV := hide hqv
    have HWD : Hid (w.heap.size ≤ D2) := hide (by have := S6.out.bel.size; omega)
    have HA9 := hide hA
    have HS : Hid (∀ W : World, Below W9.heap.size W9 W → SD w W b2 b3 b4 b5 d r s rs D R av cv ∧ AS W3 W b6 R.l.length) := hide (fun W hW => ⟨S9.out.on hW, HA9.out.on hW⟩)
    have HR2 : Hid (∀ W : World, Below W9.heap.size W9 W → W.cell? ⟨r, 2, none⟩ = some (.slice qa rs.length qc)) := hide (fun W hW => by rw [(S9.out.on hW).rk.fk.blk.cell, ← HQV.out]; rfl)
    clear hA hK3 hS hyl hq2 hqv
    go_wp2_with fail
    refine wp_region_noPanic ?_
    refine wp_region_U (q := 14) (S := fun v : World => Below W9.heap.size W9 v) (by kernel_rfl) ?_
    have hHeld := (Below.refl W9.heap.size W9).drew
    refine takeU 14 0 57 (.int .i64 (R.l.length : Int)) hHeld rfl rfl (by kernel_rfl) (by kernel_rfl) (by kernel_rfl) (by kernel_rfl) (by kernel_rfl) (by kernel_rfl) (fun _ _ _ h => h) (Or.inl ⟨by rfl, fun w hw => by have hw' : w.cell? ⟨b6, 0, none⟩ = some (.int .i64 (R.l.length : Int)) := (fun hw => by rw [(HS.out _ hw).2.c6.cell]; rfl) hw; go_simp⟩) ?_
    simp only [Act.put, List.setIfInBounds_toArray, List.set_cons_zero, List.set_cons_succ]
    refine takeU 14 1 58 (.slice av R.l.length cv) hHeld rfl rfl (by kernel_rfl) (by kernel_rfl) (by kernel_rfl) (by kernel_rfl) (by kernel_rfl) (by kernel_rfl) (fun _ _ _ h => h) (Or.inl ⟨by rfl, fun w hw => by have hw' : w.cell? ⟨b5, 0, none⟩ = some (.slice av R.l.length cv) := (fun hw => (HS.out _ hw).1.q5) hw; go_simp⟩) ?_
    simp only [Act.put, List.setIfInBounds_toArray, List.set_cons_zero, List.set_cons_succ]
    refine takeU 14 2 59 (.int .i64 (R.l.length : Int)) hHeld rfl rfl (by kernel_rfl) (by kernel_rfl) (by kernel_rfl) (by kernel_rfl) (by kernel_rfl) (by kernel_rfl) (fun _ _ _ h => h) (Or.inl ⟨by rfl, fun w _ => by go_simp⟩) ?_
    simp only [Act.put, List.setIfInBounds_toArray, List.set_cons_zero, List.set_cons_succ]
    refine takeU 14 3 60 (.bool true) hHeld rfl rfl (by kernel_rfl) (by kernel_rfl) (by kernel_rfl) (by kernel_rfl) (by kernel_rfl) (by kernel_rfl) (fun _ _ _ h => h) (Or.inl ⟨by rfl, fun w _ => by go_simp⟩) ?_
    simp only [Act.put, List.setIfInBounds_toArray, List.set_cons_zero, List.set_cons_succ]
    refine takeU 14 4 61 (.bool true) hHeld rfl rfl (by kernel_rfl) (by kernel_rfl) (by kernel_rfl) (by kernel_rfl) (by kernel_rfl) (by kernel_rfl) (fun _ _ _ h => h) (Or.inl ⟨by rfl, fun w _ => by go_simp⟩) ?_
    simp only [Act.put, List.setIfInBounds_toArray, List.set_cons_zero, List.set_cons_succ]
    refine takeU 14 5 62 (.pointer (some ⟨d, 0, none⟩)) hHeld rfl rfl (by kernel_rfl) (by kernel_rfl) (by kernel_rfl) (by kernel_rfl) (by kernel_rfl) (by kernel_rfl) (fun _ _ _ h => h) (Or.inl ⟨by rfl, fun w hw => by have hw' : w.cell? ⟨b2, 0, none⟩ = some (.pointer (some ⟨d, 0, none⟩)) := (fun hw => (HS.out _ hw).1.q2) hw; go_simp⟩) ?_
    simp only [Act.put, List.setIfInBounds_toArray, List.set_cons_zero, List.set_cons_succ]
    refine takeU 14 7 64 (.pointer (some ⟨r, 0, none⟩)) hHeld rfl rfl (by kernel_rfl) (by kernel_rfl) (by kernel_rfl) (by kernel_rfl) (by kernel_rfl) (by kernel_rfl) (fun _ _ _ h => h) (Or.inl ⟨by rfl, fun w hw => by have hw' : w.cell? ⟨b3, 0, none⟩ = some (.pointer (some ⟨r, 0, none⟩)) := (fun hw => (HS.out _ hw).1.q3) hw; go_simp⟩) ?_
    simp only [Act.put, List.setIfInBounds_toArray, List.set_cons_zero, List.set_cons_succ]
    refine takeU 14 8 65 (.pointer (some ⟨r, 0, none⟩)) hHeld rfl rfl (by kernel_rfl) (by kernel_rfl) (by kernel_rfl) (by kernel_rfl) (by kernel_rfl) (by kernel_rfl) (fun _ _ _ h => h) (Or.inl ⟨by rfl, fun w _ => by go_simp⟩) ?_
    simp only [Act.put, List.setIfInBounds_toArray, List.set_cons_zero, List.set_cons_succ]
    refine takeU 14 9 66 (.pointer (some ⟨r, 2, none⟩)) hHeld rfl rfl (by kernel_rfl) (by kernel_rfl) (by kernel_rfl) (by kernel_rfl) (by kernel_rfl) (by kernel_rfl) (fun _ _ _ h => h) (Or.inl ⟨by rfl, fun w _ => by go_simp⟩) ?_
    simp only [Act.put, List.setIfInBounds_toArray, List.set_cons_zero, List.set_cons_succ]
    refine takeU 14 10 67 (.slice qa rs.length qc) hHeld rfl rfl (by kernel_rfl) (by kernel_rfl) (by kernel_rfl) (by kernel_rfl) (by kernel_rfl) (by kernel_rfl) (fun _ _ _ h => h) (Or.inl ⟨by rfl, fun w hw => by have hw' : w.cell? ⟨r, 2, none⟩ = some (.slice qa rs.length qc) := (fun hw => HR2.out _ hw) hw; go_simp⟩) ?_
    simp only [Act.put, List.setIfInBounds_toArray, List.set_cons_zero, List.set_cons_succ]
    refine takeU 14 11 68 (.int .i64 (rs.length : Int)) hHeld rfl rfl (by kernel_rfl) (by kernel_rfl) (by kernel_rfl) (by kernel_rfl) (by kernel_rfl) (by kernel_rfl) (fun _ _ _ h => h) (Or.inl ⟨by rfl, fun w _ => by go_simp⟩) ?_
    simp only [Act.put, List.setIfInBounds_toArray, List.set_cons_zero, List.set_cons_succ]
    refine wpAnyU_ready (rs := [6]) (by kernel_rfl) (by simp) (AllReadyU.cons rfl (fun K hK => ?_) AllReadyU.nil)
    rw [if_pos (by rfl)]
    go_simp
    refine (writes_any d s rs D _ (HS.out _ hHeld).1.dk).mono ?_
    rintro e wa ⟨rfl, rfl⟩
    refine hK.out _ _ (fun _ => hHeld) ?_
    have hHeld := hHeld
    clear hK K
    try simp only [Act.put, List.setIfInBounds_toArray, List.set_cons_zero, List.set_cons_succ]
    refine takeU 14 12 69 (.bool true) hHeld rfl rfl (by kernel_rfl) (by kernel_rfl) (by kernel_rfl) (by kernel_rfl) (by kernel_rfl) (by kernel_rfl) (fun _ _ _ h => h) (Or.inl ⟨by rfl, fun w _ => by go_simp⟩) ?_
    simp only [Act.put, List.setIfInBounds_toArray, List.set_cons_zero, List.set_cons_succ]
    refine takeU 14 13 70 (.bool true) hHeld rfl rfl (by kernel_rfl) (by kernel_rfl) (by kernel_rfl) (by kernel_rfl) (by kernel_rfl) (by kernel_rfl) (fun _ _ _ h => h) (Or.inl ⟨by rfl, fun w _ => by go_simp⟩) ?_
    simp only [Act.put, List.setIfInBounds_toArray, List.set_cons_zero, List.set_cons_succ]
    have S10 := hide (HS.out _ hHeld).1
    have M10 : Hid (W9.drew.heap[D2]? = some (.deferred (some []))) := HM
    have h4 : W9.drew.cell? ⟨b4, 0, none⟩ = some (.bool false) := by rw [S10.out.c4.cell]; rfl
    have f4 := S10.out.c4.free 0
    revert S10 M10 h4 f4
    generalize W9.drew = Vd
    intro S10 M10 h4 f4
    refine wpAnyU_ready (rs := [14]) (by kernel_rfl) (by simp) (AllReadyU.cons rfl (fun K hK => ?_) AllReadyU.nil)
    rw [if_pos (by rfl)]
    go_simp
    refine hK.out _ _ (fun h => absurd h (by decide)) ?_
    clear hK K
    refine wpAnyU_done (by kernel_rfl) ?_ _
    refine NoPanic.normal ?_
    go_wp2_with fail
    have q8 := (KeepsOthers.setCell Vd ⟨b4, 0, none⟩ (.bool true)).same D2 _ M10.out rfl
    have hcA := World.cell?_setCell_same' Vd ⟨b4, 0, none⟩ (.bool true) (by rw [h4]; rfl)
    have hcC := Go.cell_kept hcA (grownBy_putObj' _ D2 (.deferred none)) (fun r e => by cases e; exact ⟨_, q8, rfl⟩)
    have B8 := S10.out.bel.setCell (p := ⟨b4, 0, none⟩) S10.out.l4 (.bool true)
    refine ⟨by simp, .inl ⟨_, _, rfl, run_takeDeferred q8, ?_⟩⟩
    refine ⟨.bool true, ?_, rfl, B8.trans (belowK_b (w := w) (Nat.le_refl _) _ D2 _ (.deferred none) HWD.out q8 rfl rfl)⟩
    simp [results, Tryz.f16, go_sem, hcC]

end Go.Proofs.YtlgcjdgcgnlcaaaGreatDoor

/-
  The law's counts: a level's digests, counted and told by both.
-/
namespace Go.Proofs.YtlgcjdgcgnlcaaaGreatDoor
open Go.RowKit Go.Shelf
set_option linter.unusedVariables false
set_option linter.unusedSimpArgs false
set_option maxRecDepth 100000

theorem all_bad_seq (d s : Nat) (rs : List Rw) (D : Dm) (gd gh gl : Nat) (hh l : Int) (w : World) (hd : Blk w gd 26 [.pointer (some ⟨d, 0, none⟩)]) (hb : Blk w gh 3 [.int .i64 hh]) (hl : Blk w gl 3 [.int .i64 l]) (h : DkAt w d s rs D) (ht : PT w) (hlb : l ≤ 9223372036854775807) (he : ¬ smE hh l 0 = 0) :
    SeqL Fence.wide 4 Tryz.prog 53 #[.pointer (some ⟨gd, 0, none⟩), .pointer (some ⟨gh, 0, none⟩), .pointer (some ⟨gl, 0, none⟩)] (fun x : Unit => #[Value.int .i64 0, Value.int .i64 0]) (fun _ _ _ _ => False) (fun _ _ _ => True) (fun ys => ys = []) (fun ys => False) w := by
  intro l0 J Jx W hW hJ hJx hY h0
  have hc1 : W.cell? ⟨gd, 0, none⟩ = some (.pointer (some ⟨d, 0, none⟩)) := by rw [(hd.on hW).cell]; rfl
  have hc2 : W.cell? ⟨gh, 0, none⟩ = some (.int .i64 hh) := by rw [(hb.on hW).cell]; rfl
  have hc3 : W.cell? ⟨gl, 0, none⟩ = some (.int .i64 l) := by rw [(hl.on hW).cell]; rfl
  have HC := hide (scheck_any d s rs D W (h.below hW) hh l hlb (ht.below hW))
  rw [(lvl_bad he).2] at HC
  have HJ0 := hide h0
  clear hd hb hl h hW ht he h0
  refine callsIn_of_wp_marks Tryz.func53 rfl trivial ?_ rfl
  refine wpIn_wide.2 ?_
  simp only [Tryz.ntmps53, List.size_toArray, List.length_cons, List.length_nil, Nat.reduceAdd, Nat.reduceSub, Array.replicate_succ, Array.replicate_zero, List.push_toArray, List.append_toArray, List.nil_append, List.cons_append]
  go_wp2_with (go_at_call 51; refine HC.out.mono ?_; rintro r w1 ⟨rfl, hb1⟩)
  exact ⟨_, results_none rfl _ _ _, ⟨_, rfl⟩, .inl ⟨[], rfl, by
    have hg : W.grownBy w1 none := ⟨hb1.os, hb1.tape, hb1.output, hb1.size, fun i hi _ => hb1.block i hi⟩
    exact hJ _ _ _ _ HJ0.out hg (fun q e => by cases e)⟩⟩
/-- What stands in the law's loop over a level's digests: its variables. -/
structure ZCt (w W : World) (b4 b6 b8 : Nat) (v : Value) (k : Nat) : Prop where
  c4 : Blk W b4 63 [v]
  c6 : Blk W b6 4 [.bool false]
  c8 : Blk W b8 3 [.int .i64 (k : Int)]
  n8 : w.heap.size ≤ b8 ∧ b8 ≠ b4 ∧ b8 ≠ b6
  bel : Below w.heap.size w W
section
variable {w W W' : World} {b4 b6 b8 : Nat} {v : Value} {k : Nat}
theorem ZCt.ck (h : ZCt w W b4 b6 b8 v k) (hk : CK W W') (hb : Below w.heap.size w W') : ZCt w W' b4 b6 b8 v k := ⟨h.c4.ck hk, h.c6.ck hk, h.c8.ck hk, h.n8, hb⟩
theorem ZCt.on (h : ZCt w W b4 b6 b8 v k) (hb : Below W.heap.size W W') : ZCt w W' b4 b6 b8 v k := h.ck (CK.below hb) (on_below h.bel hb)
end
set_option maxHeartbeats 4000000 in
theorem counts_ok (d r s : Nat) (rs : List Rw) (D : Dm) (R : Rm) (H L n : Nat) (w : World) (he : smE (H : Int) (L : Int) 0 = 0) (hn : Cn (play rs) H L n) (hd : DkAt w d s rs D) (hr : RkAt w r s rs R) (hwt : wt rs ≤ 1099511000000) (ht : PT w) :
    Calls Tryz.prog 15 #[.pointer (some ⟨d, 0, none⟩), .pointer (some ⟨r, 0, none⟩), .int .i64 (H : Int), .int .i64 (L : Int)] w fun e w' => e = .returned (.bool true) ∧ Below w.heap.size w w' := by
  obtain ⟨H', L', e1, e2, hh, hL, hv, hb⟩ := lvl_nat he
  obtain rfl : H = H' := by omega
  obtain rfl : L = L' := by omega
  have HD := hide hd
  have HR := hide hr
  have HT := hide ht
  have HN := hide hn
  have HW := hide hwt
  have HQ0 := hide hv
  have HCU := hide (fun (W : World) (h1 : DkAt W d s rs D) (h2 : PT W) => scount_any d s rs D W h1 (H : Int) (L : Int) n (by omega) h2 (fun _ => hn) hwt)
  have HCL := hide (fun (W : World) (h1 : RkAt W r s rs R) => countL_any r s rs R W h1 (H : Int) (L : Int) n (fun _ => hn) hwt)
  simp only [he, if_true] at HCU HCL
  have HAL := hide (fun (W : World) (h1 : RkAt W r s rs R) => allL_ok r s rs R W h1 H L n he hn hwt)
  have hnw := hn.wt hd.valS
  have hn9 : n ≤ 1099511000000 := by omega
  have HDG : Hid (∀ j, j < n → dg (play rs) H L j = dat (LT (play rs) H L n) j) := hide (fun j hj => (LT_dg hn hj).symm)
  have HXB : Hid (isB (LT (play rs) H L n)) := hide (by
    have hf : ∀ m, isB (fl (play rs) m) := fun m => by
      cases e : play rs m with
      | none => rw [fl_none e]; intro y hy; cases hy
      | some xs => rw [show fl (play rs) m = xs by simp [fl, e]]; exact hr.isb e
    intro y hy
    unfold LT at hy
    rcases List.mem_append.1 hy with hy | hy
    · unfold LB at hy
      obtain ⟨i, _, hy⟩ := List.mem_flatMap.1 hy
      exact hf _ y (List.mem_of_mem_take hy)
    · exact hf _ y (List.mem_of_mem_take hy))
  generalize LT (play rs) H L n = xs at *
  clear hd hr ht hwt he hn hv hb e1 e2 hnw
  refine (callsIn_wide (n := 5)).1 ?_
  refine callsIn_of_wp_marks Tryz.func15 rfl trivial ?_ rfl
  refine wpIn_wide.2 ?_
  simp only [Tryz.ntmps15, List.size_toArray, List.length_cons, List.length_nil, Nat.reduceAdd, Nat.reduceSub, Array.replicate_succ, Array.replicate_zero, List.push_toArray, List.append_toArray, List.nil_append, List.cons_append]
  go_wp2_with fail
  have B6 : Blk (w.alloc (.cells #[.bool false] 4)) w.heap.size 4 [.bool false] := Blk.made _ _ _
  have hb6 : Below w.heap.size w (w.alloc (.cells #[.bool false] 4)) := (Below.refl _ _).alloc (Nat.le_refl _) _
  obtain ⟨b6, hb6e⟩ : ∃ b, w.heap.size = b := ⟨_, rfl⟩
  have HL6 : Hid (w.heap.size ≤ b6) := hide (by omega)
  have HC6 : Hid (Blk (w.alloc (.cells #[.bool false] 4)) b6 4 [.bool false]) := hide (by rw [← hb6e]; exact B6)
  have HB6 := hide hb6
  rw [hb6e]
  clear B6 hb6 hb6e
  revert HC6 HB6
  generalize w.alloc (.cells #[.bool false] 4) = V6
  intro HC6 HB6
  refine (HCU.out _ (HD.out.below HB6.out) (HT.out.below HB6.out)).mono ?_
  rintro e V1 ⟨rfl, hb1⟩
  have HB1 := hide (on_below HB6.out hb1)
  have HC1 := hide (HC6.out.on hb1)
  clear hb1 HC6 HB6 HCU
  go_wp2_with fail
  refine (HCL.out _ (HR.out.below HB1.out)).mono ?_
  rintro e V2 ⟨rfl, hb2⟩
  have HB2 := hide (on_below HB1.out hb2)
  have HC2 := hide (HC1.out.on hb2)
  clear hb2 HC1 HB1 HCL
  go_wp2_with fail
  refine (HAL.out _ (HR.out.below HB2.out)).mono ?_
  rintro e V3 ⟨v, rfl, ho, hb3⟩
  obtain ⟨a, c, rfl, hds, hge⟩ := ho.ds HXB.out (by omega)
  have HDS := hide hds
  clear ho hds hge
  have HB3 := hide (on_below HB2.out hb3)
  have HC3 := hide (HC2.out.on hb3)
  have HL3 : Hid (b6 < V3.heap.size) := hide (HC2.out.on hb3).lt
  have h3s := HB3.out.size
  clear hb3 HC2 HB2 HAL
  go_wp2_with fail
  have B4 : Blk (V3.alloc (.cells #[.slice a n c] 63)) V3.heap.size 63 [.slice a n c] := Blk.made _ _ _
  have hb4 : Below V3.heap.size V3 (V3.alloc (.cells #[.slice a n c] 63)) := (Below.refl _ _).alloc (Nat.le_refl _) _
  have z4 : (V3.alloc (.cells #[.slice a n c] 63)).heap.size = V3.heap.size + 1 := World.size_alloc _ _
  obtain ⟨b4, hb4e⟩ : ∃ b, V3.heap.size = b := ⟨_, rfl⟩
  have G4 : Hid (Blk (V3.alloc (.cells #[.slice a n c] 63)) b4 63 [.slice a n c]) := hide (by rw [← hb4e]; exact B4)
  have HL4 : Hid (V3.heap.size = b4) := hide hb4e
  have BB4 := hide hb4
  rw [hb4e] at z4 ⊢
  rw [← z4]
  clear B4 hb4 hb4e
  revert G4 BB4 z4
  generalize V3.alloc (.cells #[.slice a n c] 63) = V4
  intro z4 G4 BB4
  have B8 : Blk (V4.alloc (.cells #[.int .i64 0] 3)) V4.heap.size 3 [.int .i64 0] := Blk.made _ _ _
  have hb8 : Below V4.heap.size V4 (V4.alloc (.cells #[.int .i64 0] 3)) := (Below.refl _ _).alloc (Nat.le_refl _) _
  have Z8 : Hid (ZCt V3 (V4.alloc (.cells #[.int .i64 0] 3)) b4 b6 V4.heap.size (.slice a n c) 0) := hide ⟨G4.out.on hb8, (HC3.out.on BB4.out).on hb8, B8, ⟨BB4.out.size, by omega, by have := HL3.out; have := HL4.out; omega⟩, on_below BB4.out hb8⟩
  have D8 := hide (((HD.out.below HB3.out).below BB4.out).below hb8)
  have T8 := hide (((HT.out.below HB3.out).below BB4.out).below hb8)
  have HN8 : Hid (∀ k, D.own d k ∨ D.ro k → k ≠ V4.heap.size) := hide (fun k hk => by have := HD.out.lt hk; have := HL4.out; omega)
  have HN9 : Hid (0 ≠ V4.heap.size) := hide (by have := HT.out.lt; have := HL4.out; omega)
  clear B8 hb8 G4 BB4 z4 HC3
  revert Z8 D8 T8 HN8 HN9
  generalize V4.alloc (.cells #[.int .i64 0] 3) = w8
  generalize V4.heap.size = b8
  intro Z8 D8 T8 HN8 HN9
  refine (all_mk _ _ _ _).mono ?_
  rintro r w9 ⟨gd0, gh0, gl0, rfl, _, _, _, _, _, _, hb9⟩
  have Z9 := hide (Z8.out.on hb9)
  have D9 := hide (D8.out.below hb9)
  have T9 := hide (T8.out.below hb9)
  clear hb9 Z8 D8 T8
  have heq : ∀ v : World, (binOp BinOp.eql 60 (.func (.func 53) #[] #[.pointer (some ⟨gd0, 0, none⟩), .pointer (some ⟨gh0, 0, none⟩), .pointer (some ⟨gl0, 0, none⟩)]) .nilFunc).run Tryz.prog v = .ok (.bool false) v := fun v => by kernel_rfl
  go_wp2_with fail
  refine (all_mk _ _ _ _).mono ?_
  rintro r w10 ⟨gd, gh, gl, rfl, BD, BH, BL, _, _, _, hb10⟩
  have Z10 := hide (Z9.out.on hb10)
  have D10 := hide (D9.out.below hb10)
  have T10 := hide (T9.out.below hb10)
  clear hb10 Z9 D9 T9 heq
  have hws : V3.heap.size ≤ w10.heap.size := Z10.out.bel.size
  have HP10 : Hid (PAt w10 d s rs D gd gh gl H L) := hide ⟨D10.out, T10.out, BD, BH, BL⟩
  clear BD BH BL D10 T10
  have HSQ := hide (all_seq d s rs D gd gh gl H L n w10 HP10.out HQ0.out HN.out HW.out)
  go_wp2_with fail
  refine (wpIn_wide (n := 5)).1 ?_
  refine rangeB rfl (by decide) (gf := 53) (lb := #[.pointer (some ⟨gd, 0, none⟩), .pointer (some ⟨gh, 0, none⟩), .pointer (some ⟨gl, 0, none⟩)]) rfl trivial (enters_of Tryz.func53 (by kernel_rfl) rfl)
    HSQ.out KD.trans (fun x V l o o' hl h hc => KD.book V l o o' h hc) (fun x A C h => KD.below h) (fun _ => rfl) (fun pre x V0 => ra_own _ _ _ _ _ pre x V0)
    (fun pre V => ZCt V3 V b4 b6 b8 (.slice a n c) pre.length ∧ DkAt V d s rs D ∧ PT V) (fun _ _ _ => False)
    (fun _ A C row h hg hr => ⟨h.1.ck (CK.of_grown hg (fun r e => (hr r e).2)) (h.1.bel.grown hg h.1.bel.size (fun r e => by have := (hr r e).1; omega)), h.2.1.same (fun k hk => hg.block k (h.2.1.lt hk) (fun e => by have h1 := (hr k e.symm).1; have h2 := HP10.out.dk.lt hk; omega)), h.2.2.sameS (hg.block _ h.2.2.lt (fun e => by have h1 := (hr _ e.symm).1; have h2 := HP10.out.pt.lt; omega))⟩)
    (fun c _ A C row h hg hr => h) ⟨Z10.out, HP10.out.dk, HP10.out.pt⟩ ?act (fun x g V => Blk V g 32 (u8s x.2)) (fun x g V l r o' hl hx => by
      unfold Blk
      rw [World.putObj_heap_other (fun e => by
        rw [e] at hx
        unfold Blk at hx
        rw [hl] at hx
        cases hx)]
      exact hx) ?assign ?body ?done ?stop
  case assign =>
    rintro l x V K ⟨pre, V0, h1, h2, h3⟩ hK
    have hsem := Oper.semAt_some
    have hxl : x.2.length = 32 := by rw [h3]; exact dg_len (HN.out.1 _ h1)
    have HUL : Hid ((u8s x.2).length = 32) := hide (by rw [u8s_length, hxl])
    simp only [encA]
    clear h1 h2 h3 hxl
    gi_wp2_with (refine istep_alloc (.round l) zDs rfl ?_)
    intro V1 g9 hg9 hle9 hb9
    gi_wp2_with (refine istep_storeA (.round l) wDs rfl rfl rfl hg9 HUL.out (One.u8 _) (by rw [u8s_length, zer_length]) ?_)
    intro V2 hg92 hbut9
    have hb92 : Below V.heap.size V V2 := hb9.trans (hbut9.below hle9)
    have hK2 := hK g9 V2 hb92 hle9 hg92
    clear hK
    gi_wp2
    exact hK2
  case stop =>
    rintro D0 c pre V hD hSp h hK
    exact h.elim
  case body =>
    rintro l pre ⟨xi, xv⟩ gx V0 V hgx hbx _ hck hsz ⟨hz, hdk, hpt⟩ ⟨h1, h2, h3⟩
    have hsem := Oper.semAt_some
    obtain ⟨j, HJ⟩ : ∃ j, Hid (pre.length = j) := ⟨_, hide rfl⟩
    rw [HJ.out] at h1 h3 hz
    obtain ⟨e1, e2⟩ := Prod.mk.inj h3
    rw [HDG.out j h1] at e2
    subst e1 e2
    have hds := HDS.out.below hz.bel
    obtain ⟨bb, o, rfl⟩ := hds.place (by omega)
    have hix := d_at bb o n c j (j : Int) rfl h1
    have HUL : Hid ((u8s (dat xs j)).length = 32) := hide (by rw [u8s_length, dat_length HDS.out.hlen h1])
    have HDL : Hid ((dat xs j).length = 32) := hide (dat_length HDS.out.hlen h1)
    have HRG : Hid (∀ v : World, Below V.heap.size V v → v.rangeAt bb (o + 32 * j) (u8s (dat xs j))) := hide (fun v hv => (hds.below hv).range j h1)
    have HRX : Hid (∀ v : World, Below V.heap.size V v → v.rangeAt gx 0 (u8s (dat xs j))) := hide (fun v hv => by have hb : Blk V gx 32 (u8s (dat xs j)) := hbx; exact (hb.on hv).range 0 _ (by simp))
    have HI1 : Hid ((Tryz.prog.info? 32).map (·.size) = some (u8s (dat xs j)).length) := hide (by rw [wDs.size, HUL.out])
    have HP1 : Hid ((pre ++ [((j : Int), dat xs j)]).length = j + 1) := hide (by rw [List.length_append, HJ.out]; rfl)
    have HZ := hide hz
    have HDKV := hide hdk
    have HPTV := hide hpt
    clear hdk hpt
    have hge : ¬ (n : Int) ≤ (j : Int) := by omega
    have hge2 : ¬ n ≤ j := by omega
    generalize dat xs j = y at *
    clear hds hz h2 h3 hck hsz hbx
    gi_wp2_with fail
    refine wpIn_region_held (S := fun v => Below V.heap.size V v) (WideF.round l) (by kernel_rfl) (by kernel_rfl) (Below.refl V.heap.size V).drew (fun hHeld => ?_)
    refine takeH 0 54 (.int .i64 (j : Int)) hHeld rfl rfl (by kernel_rfl) (by kernel_rfl) (by kernel_rfl) (fun _ _ _ h => h) (Or.inl ⟨by rfl, fun w _ => by go_simp⟩) ?_
    simp only [Act.put, List.setIfInBounds_toArray, List.set_cons_zero, List.set_cons_succ]
    refine takeH 1 55 (.int .i64 (j : Int)) hHeld rfl rfl (by kernel_rfl) (by kernel_rfl) (by kernel_rfl) (fun _ _ _ h => h) (Or.inl ⟨by rfl, fun w hw => by have hw' : w.cell? ⟨b8, 0, none⟩ = some (.int .i64 (j : Int)) := (fun hw => by rw [((HZ.out.on hw).c8).cell]; rfl) hw; go_simp⟩) ?_
    simp only [Act.put, List.setIfInBounds_toArray, List.set_cons_zero, List.set_cons_succ]
    refine takeH 2 56 (.bool false) hHeld rfl rfl (by kernel_rfl) (by kernel_rfl) (by kernel_rfl) (fun _ _ _ h => h) (Or.inl ⟨by rfl, fun w _ => by go_simp⟩) ?_
    simp only [Act.put, List.setIfInBounds_toArray, List.set_cons_zero, List.set_cons_succ]
    refine takeH 3 57 (.bool false) hHeld rfl rfl (by kernel_rfl) (by kernel_rfl) (by kernel_rfl) (fun _ _ _ h => h) (Or.inl ⟨by rfl, fun w _ => by go_simp⟩) ?_
    simp only [Act.put, List.setIfInBounds_toArray, List.set_cons_zero, List.set_cons_succ]
    refine takeH 4 58 (.int .i64 (j : Int)) hHeld rfl rfl (by kernel_rfl) (by kernel_rfl) (by kernel_rfl) (fun _ _ _ h => h) (Or.inl ⟨by rfl, fun w hw => by have hw' : w.cell? ⟨b8, 0, none⟩ = some (.int .i64 (j : Int)) := (fun hw => by rw [((HZ.out.on hw).c8).cell]; rfl) hw; go_simp⟩) ?_
    simp only [Act.put, List.setIfInBounds_toArray, List.set_cons_zero, List.set_cons_succ]
    refine takeH 5 59 (.slice (some ⟨bb, o, none⟩) n c) hHeld rfl rfl (by kernel_rfl) (by kernel_rfl) (by kernel_rfl) (fun _ _ _ h => h) (Or.inl ⟨by rfl, fun w hw => by have hw' : w.cell? ⟨b4, 0, none⟩ = some (.slice (some ⟨bb, o, none⟩) n c) := (fun hw => by rw [((HZ.out.on hw).c4).cell]; rfl) hw; go_simp⟩) ?_
    simp only [Act.put, List.setIfInBounds_toArray, List.set_cons_zero, List.set_cons_succ]
    refine takeH 6 60 (.int .i64 (n : Int)) hHeld rfl rfl (by kernel_rfl) (by kernel_rfl) (by kernel_rfl) (fun _ _ _ h => h) (Or.inl ⟨by rfl, fun w _ => by go_simp⟩) ?_
    simp only [Act.put, List.setIfInBounds_toArray, List.set_cons_zero, List.set_cons_succ]
    refine takeH 7 61 (.bool false) hHeld rfl rfl (by kernel_rfl) (by kernel_rfl) (by kernel_rfl) (fun _ _ _ h => h) (Or.inl ⟨by rfl, fun w _ => by go_simp⟩) ?_
    simp only [Act.put, List.setIfInBounds_toArray, List.set_cons_zero, List.set_cons_succ]
    refine takeH 8 62 (.bool false) hHeld rfl rfl (by kernel_rfl) (by kernel_rfl) (by kernel_rfl) (fun _ _ _ h => h) (Or.inl ⟨by rfl, fun w _ => by go_simp⟩) ?_
    simp only [Act.put, List.setIfInBounds_toArray, List.set_cons_zero, List.set_cons_succ]
    refine takeH 9 63 (.bool false) hHeld rfl rfl (by kernel_rfl) (by kernel_rfl) (by kernel_rfl) (fun _ _ _ h => h) (Or.inl ⟨by rfl, fun w _ => by go_simp⟩) ?_
    simp only [Act.put, List.setIfInBounds_toArray, List.set_cons_zero, List.set_cons_succ]
    refine takeH 10 64 (.agg (u8s y).toArray) hHeld rfl rfl (by kernel_rfl) (by kernel_rfl) (by kernel_rfl) (fun _ _ _ h => h) (yieldsIf_load_mid (by rfl) _ _ rfl gx 0 rfl _ _ (fun w h => HRX.out w h) Tryz.underlying32 rfl HI1.out) ?_
    simp only [Act.put, List.setIfInBounds_toArray, List.set_cons_zero, List.set_cons_succ]
    refine takeH 11 65 (.slice (some ⟨bb, o, none⟩) n c) hHeld rfl rfl (by kernel_rfl) (by kernel_rfl) (by kernel_rfl) (fun _ _ _ h => h) (Or.inl ⟨by rfl, fun w hw => by have hw' : w.cell? ⟨b4, 0, none⟩ = some (.slice (some ⟨bb, o, none⟩) n c) := (fun hw => by rw [((HZ.out.on hw).c4).cell]; rfl) hw; go_simp⟩) ?_
    simp only [Act.put, List.setIfInBounds_toArray, List.set_cons_zero, List.set_cons_succ]
    refine takeH 12 66 (.int .i64 (j : Int)) hHeld rfl rfl (by kernel_rfl) (by kernel_rfl) (by kernel_rfl) (fun _ _ _ h => h) (Or.inl ⟨by rfl, fun w hw => by have hw' : w.cell? ⟨b8, 0, none⟩ = some (.int .i64 (j : Int)) := (fun hw => by rw [((HZ.out.on hw).c8).cell]; rfl) hw; go_simp⟩) ?_
    simp only [Act.put, List.setIfInBounds_toArray, List.set_cons_zero, List.set_cons_succ]
    refine takeH 13 67 (.pointer (some ⟨bb, o + 32 * j, none⟩)) hHeld rfl rfl (by kernel_rfl) (by kernel_rfl) (by kernel_rfl) (fun _ _ _ h => h) (Or.inl ⟨by rfl, fun w _ => run_op rfl (hix w)⟩) ?_
    simp only [Act.put, List.setIfInBounds_toArray, List.set_cons_zero, List.set_cons_succ]
    refine takeH 14 68 (.agg (u8s y).toArray) hHeld rfl rfl (by kernel_rfl) (by kernel_rfl) (by kernel_rfl) (fun _ _ _ h => h) (yieldsIf_load_mid (by rfl) _ _ rfl bb (o + 32 * j) rfl _ _ (fun w h => HRG.out w h) Tryz.underlying32 rfl HI1.out) ?_
    simp only [Act.put, List.setIfInBounds_toArray, List.set_cons_zero, List.set_cons_succ]
    refine takeH 15 69 (.bool false) hHeld rfl rfl (by kernel_rfl) (by kernel_rfl) (by kernel_rfl) (fun _ _ _ h => h) (Or.inl ⟨by rfl, fun w _ => (run_neA aD _ rfl rfl HDL.out HDL.out).trans (by simp)⟩) ?_
    simp only [Act.put, List.setIfInBounds_toArray, List.set_cons_zero, List.set_cons_succ]
    refine takeH 16 70 (.bool false) hHeld rfl rfl (by kernel_rfl) (by kernel_rfl) (by kernel_rfl) (fun _ _ _ h => h) (Or.inl ⟨by rfl, fun w _ => by go_simp⟩) ?_
    simp only [Act.put, List.setIfInBounds_toArray, List.set_cons_zero, List.set_cons_succ]
    refine wpAnyH_done (by kernel_rfl) ?_ _
    refine Only.normal ?_
    obtain ⟨Vd, hVd⟩ : ∃ v, V.drew = v := ⟨_, rfl⟩
    rw [hVd] at hHeld ⊢
    clear hVd
    have HZd := hide (HZ.out.on hHeld)
    have HKd := hide (KD.below hHeld)
    have HDKd := hide (HDKV.out.below hHeld)
    have HPTd := hide (HPTV.out.below hHeld)
    have HOd := hide (keepsO_below hHeld)
    have d8 : Vd.cell? ⟨b8, 0, none⟩ = some (.int .i64 (j : Int)) := by rw [HZd.out.c8.cell]; rfl
    have f8 := HZd.out.c8.free 0
    clear hHeld hix hge hge2
    gi_wp2
    have hbut := But.setCell Vd b8 0 (.int .i64 ((j + 1 : Nat) : Int))
    refine ⟨(HOd.out.trans (keepsO_but hbut HZd.out.c8)).from _, HKd.out.trans ⟨Nat.le_of_eq hbut.size.symm, fun k cs hk => hk.but hbut (hk.apart HZd.out.c8 (by decide))⟩, ?_⟩
    refine ⟨?_, HDKd.out.same (fun k hk => hbut.block k (HN8.out k hk)), HPTd.out.sameS (hbut.block _ HN9.out)⟩
    show ZCt V3 _ b4 b6 b8 _ (pre ++ [((j : Int), y)]).length
    rw [HP1.out]
    exact ⟨HZd.out.c4.but hbut (fun e => HZd.out.n8.2.1 e.symm), HZd.out.c6.but hbut (fun e => HZd.out.n8.2.2 e.symm), HZd.out.c8.set 0 _, HZd.out.n8, HZd.out.bel.trans (hbut.below HZd.out.n8.1)⟩
  case done =>
    rintro Dk ys V hD hS ⟨hz, hdk, hpt⟩ hK2
    subst hS
    rw [als_len] at hz
    have HZ := hide hz
    have HDK := hide hK2
    have hDk : w.heap.size ≤ Dk := by omega
    clear hz hK2 hD
    have d8 : V.cell? ⟨b8, 0, none⟩ = some (.int .i64 (n : Int)) := by rw [HZ.out.c8.cell]; rfl
    have d4 : V.cell? ⟨b4, 0, none⟩ = some (.slice a n c) := by rw [HZ.out.c4.cell]; rfl
    have f6 := HZ.out.c6.free 0
    have d6 : V.cell? ⟨b6, 0, none⟩ = some (.bool false) := by rw [HZ.out.c6.cell]; rfl
    go_wp2
    have hbut := But.setCell V b6 0 (.bool true)
    have hdk2 : (V.setCell ⟨b6, 0, none⟩ (.bool true)).heap[Dk]? = some (.deferred (some [])) := (hbut.block Dk (fun e => by
      have h1 := HDK.out
      rw [e] at h1
      have h2 := HZ.out.c6
      unfold Blk at h2
      rw [h1] at h2
      cases h2)).trans HDK.out
    refine ⟨by simp, .inl ⟨_, _, rfl, run_takeDeferred hdk2, ?_⟩⟩
    have hc6 : ((V.setCell ⟨b6, 0, none⟩ (.bool true)).putObj Dk (.deferred none)).cell? ⟨b6, 0, none⟩ = some (.bool true) := by
      rw [(((HZ.out.c6.set 0 (.bool true))).ck (CK.put (.deferred none) hdk2 rfl)).cell]
      rfl
    refine ⟨.bool true, by simp [results, Tryz.f15, go_sem, hc6], rfl, ?_⟩
    exact ((HB3.out.trans (HZ.out.bel.mono HB3.out.size)).trans (hbut.below HL6.out)).trans (belowK_b (w := w) (Nat.le_refl _) _ Dk _ (.deferred none) hDk hdk2 rfl rfl)
set_option maxHeartbeats 4000000 in
theorem counts_bad (d r s : Nat) (rs : List Rw) (D : Dm) (R : Rm) (h l : Int) (w : World) (hl : l ≤ 9223372036854775807) (he : ¬ smE h l 0 = 0) (hd : DkAt w d s rs D) (hr : RkAt w r s rs R) (hwt : wt rs ≤ 1099511000000) (ht : PT w) :
    Calls Tryz.prog 15 #[.pointer (some ⟨d, 0, none⟩), .pointer (some ⟨r, 0, none⟩), .int .i64 h, .int .i64 l] w fun e w' => e = .returned (.bool true) ∧ Below w.heap.size w w' := by
  obtain ⟨hb, e2⟩ := lvl_bad he
  have HD := hide hd
  have HR := hide hr
  have HT := hide ht
  have HLB := hide hl
  have HNE := hide he
  have HCU := hide (fun (W : World) (h1 : DkAt W d s rs D) (h2 : PT W) => scount_any d s rs D W h1 h l 0 hl h2 (fun e => absurd e he) hwt)
  have HCL := hide (fun (W : World) (h1 : RkAt W r s rs R) => countL_any r s rs R W h1 h l 0 (fun e => absurd e he) hwt)
  rw [if_neg he, e2] at HCU HCL
  have HAL := hide (fun (W : World) (h1 : RkAt W r s rs R) => allL_bad r s rs R W h1 h l he)
  clear hd hr ht hwt he hb e2 hl
  refine (callsIn_wide (n := 5)).1 ?_
  refine callsIn_of_wp_marks Tryz.func15 rfl trivial ?_ rfl
  refine wpIn_wide.2 ?_
  simp only [Tryz.ntmps15, List.size_toArray, List.length_cons, List.length_nil, Nat.reduceAdd, Nat.reduceSub, Array.replicate_succ, Array.replicate_zero, List.push_toArray, List.append_toArray, List.nil_append, List.cons_append]
  go_wp2_with fail
  have B6 : Blk (w.alloc (.cells #[.bool false] 4)) w.heap.size 4 [.bool false] := Blk.made _ _ _
  have hb6 : Below w.heap.size w (w.alloc (.cells #[.bool false] 4)) := (Below.refl _ _).alloc (Nat.le_refl _) _
  obtain ⟨b6, hb6e⟩ : ∃ b, w.heap.size = b := ⟨_, rfl⟩
  have HL6 : Hid (w.heap.size ≤ b6) := hide (by omega)
  have HC6 : Hid (Blk (w.alloc (.cells #[.bool false] 4)) b6 4 [.bool false]) := hide (by rw [← hb6e]; exact B6)
  have HB6 := hide hb6
  rw [hb6e]
  clear B6 hb6 hb6e
  revert HC6 HB6
  generalize w.alloc (.cells #[.bool false] 4) = V6
  intro HC6 HB6
  refine (HCU.out _ (HD.out.below HB6.out) (HT.out.below HB6.out)).mono ?_
  rintro e V1 ⟨rfl, hb1⟩
  have HB1 := hide (on_below HB6.out hb1)
  have HC1 := hide (HC6.out.on hb1)
  clear hb1 HC6 HB6 HCU
  go_wp2_with fail
  refine (HCL.out _ (HR.out.below HB1.out)).mono ?_
  rintro e V2 ⟨rfl, hb2⟩
  have HB2 := hide (on_below HB1.out hb2)
  have HC2 := hide (HC1.out.on hb2)
  clear hb2 HC1 HB1 HCL
  go_wp2_with fail
  refine (HAL.out _ (HR.out.below HB2.out)).mono ?_
  rintro e V3 ⟨rfl, hb3⟩
  obtain ⟨a, ha⟩ : ∃ a : Option Addr, a = none := ⟨_, rfl⟩
  obtain ⟨n, hn⟩ : ∃ n : Nat, n = 0 := ⟨_, rfl⟩
  obtain ⟨c, hc⟩ : ∃ n : Nat, n = 0 := ⟨_, rfl⟩
  have hsl : Value.slice none 0 0 = Value.slice a n c := by rw [ha, hn, hc]
  rw [hsl]
  have HA := hide (And.intro ha (And.intro hn hc))
  clear ha hn hc hsl
  have HB3 := hide (on_below HB2.out hb3)
  have HC3 := hide (HC2.out.on hb3)
  have HL3 : Hid (b6 < V3.heap.size) := hide (HC2.out.on hb3).lt
  have h3s := HB3.out.size
  clear hb3 HC2 HB2 HAL
  go_wp2_with fail
  have B4 : Blk (V3.alloc (.cells #[.slice a n c] 63)) V3.heap.size 63 [.slice a n c] := Blk.made _ _ _
  have hb4 : Below V3.heap.size V3 (V3.alloc (.cells #[.slice a n c] 63)) := (Below.refl _ _).alloc (Nat.le_refl _) _
  have z4 : (V3.alloc (.cells #[.slice a n c] 63)).heap.size = V3.heap.size + 1 := World.size_alloc _ _
  obtain ⟨b4, hb4e⟩ : ∃ b, V3.heap.size = b := ⟨_, rfl⟩
  have G4 : Hid (Blk (V3.alloc (.cells #[.slice a n c] 63)) b4 63 [.slice a n c]) := hide (by rw [← hb4e]; exact B4)
  have HL4 : Hid (V3.heap.size = b4) := hide hb4e
  have BB4 := hide hb4
  rw [hb4e] at z4 ⊢
  rw [← z4]
  clear B4 hb4 hb4e
  revert G4 BB4 z4
  generalize V3.alloc (.cells #[.slice a n c] 63) = V4
  intro z4 G4 BB4
  have B8 : Blk (V4.alloc (.cells #[.int .i64 0] 3)) V4.heap.size 3 [.int .i64 0] := Blk.made _ _ _
  have hb8 : Below V4.heap.size V4 (V4.alloc (.cells #[.int .i64 0] 3)) := (Below.refl _ _).alloc (Nat.le_refl _) _
  have Z8 : Hid (ZCt V3 (V4.alloc (.cells #[.int .i64 0] 3)) b4 b6 V4.heap.size (.slice a n c) 0) := hide ⟨G4.out.on hb8, (HC3.out.on BB4.out).on hb8, B8, ⟨BB4.out.size, by omega, by have := HL3.out; have := HL4.out; omega⟩, on_below BB4.out hb8⟩
  have D8 := hide (((HD.out.below HB3.out).below BB4.out).below hb8)
  have T8 := hide (((HT.out.below HB3.out).below BB4.out).below hb8)
  have HN8 : Hid (∀ k, D.own d k ∨ D.ro k → k ≠ V4.heap.size) := hide (fun k hk => by have := HD.out.lt hk; have := HL4.out; omega)
  have HN9 : Hid (0 ≠ V4.heap.size) := hide (by have := HT.out.lt; have := HL4.out; omega)
  clear B8 hb8 G4 BB4 z4 HC3
  revert Z8 D8 T8 HN8 HN9
  generalize V4.alloc (.cells #[.int .i64 0] 3) = w8
  generalize V4.heap.size = b8
  intro Z8 D8 T8 HN8 HN9
  refine (all_mk _ _ _ _).mono ?_
  rintro r w9 ⟨gd0, gh0, gl0, rfl, _, _, _, _, _, _, hb9⟩
  have Z9 := hide (Z8.out.on hb9)
  have D9 := hide (D8.out.below hb9)
  have T9 := hide (T8.out.below hb9)
  clear hb9 Z8 D8 T8
  have heq : ∀ v : World, (binOp BinOp.eql 60 (.func (.func 53) #[] #[.pointer (some ⟨gd0, 0, none⟩), .pointer (some ⟨gh0, 0, none⟩), .pointer (some ⟨gl0, 0, none⟩)]) .nilFunc).run Tryz.prog v = .ok (.bool false) v := fun v => by kernel_rfl
  go_wp2_with fail
  refine (all_mk _ _ _ _).mono ?_
  rintro r w10 ⟨gd, gh, gl, rfl, BD, BH, BL, _, _, _, hb10⟩
  have Z10 := hide (Z9.out.on hb10)
  have D10 := hide (D9.out.below hb10)
  have T10 := hide (T9.out.below hb10)
  clear hb10 Z9 D9 T9 heq
  have hws : V3.heap.size ≤ w10.heap.size := Z10.out.bel.size
  have hk0 : ∀ k, k = 0 → ZCt V3 w10 b4 b6 b8 (.slice a n c) k := fun k hk => by subst hk; exact Z10.out
  have ZN := hide (hk0 n HA.out.2.1)
  clear hk0
  have HSQ := hide (all_bad_seq d s rs D gd gh gl h l w10 BD BH BL D10.out T10.out HLB.out HNE.out)
  clear BD BH BL
  go_wp2_with fail
  refine (wpIn_wide (n := 5)).1 ?_
  refine rangeB rfl (by decide) (gf := 53) (lb := #[.pointer (some ⟨gd, 0, none⟩), .pointer (some ⟨gh, 0, none⟩), .pointer (some ⟨gl, 0, none⟩)]) rfl trivial (enters_of Tryz.func53 (by kernel_rfl) rfl)
    HSQ.out (fun _ _ => trivial) (fun x V l o o' hl h hc => trivial) (fun x A C h => trivial) (fun _ => rfl) (fun pre x V0 => fun _ W W' row h hg hr => h)
    (fun pre V => ZCt V3 V b4 b6 b8 (.slice a n c) n ∧ DkAt V d s rs D ∧ PT V) (fun _ _ _ => False)
    (fun _ A C row h hg hr => ⟨h.1.ck (CK.of_grown hg (fun r e => (hr r e).2)) (h.1.bel.grown hg h.1.bel.size (fun r e => by have := (hr r e).1; omega)), h.2.1.same (fun k hk => hg.block k (h.2.1.lt hk) (fun e => by have h1 := (hr k e.symm).1; have h2 := D10.out.lt hk; omega)), h.2.2.sameS (hg.block _ h.2.2.lt (fun e => by have h1 := (hr _ e.symm).1; have h2 := T10.out.lt; omega))⟩)
    (fun c _ A C row h hg hr => h) ⟨ZN.out, D10.out, T10.out⟩ ?act (fun x g V => True) (fun x g V l r o' hl hx => trivial) ?assign ?body ?done ?stop
  case act => exact fun _ _ => ⟨#[], []⟩
  case assign =>
    rintro l x V K ⟨pre, V0, h1⟩ hK
    exact h1.elim
  case stop =>
    rintro D0 c pre V hD hSp h hK
    exact h.elim
  case body =>
    rintro l pre x gx V0 V hgx hbx _ hck hsz _ h1
    exact h1.elim
  case done =>
    rintro Dk ys V hD hS ⟨hz, hdk, hpt⟩ hK2
    have HZ := hide hz
    have HDK := hide hK2
    have hDk : w.heap.size ≤ Dk := by omega
    clear hz hK2 hD
    have d8 : V.cell? ⟨b8, 0, none⟩ = some (.int .i64 (n : Int)) := by rw [HZ.out.c8.cell]; rfl
    have d4 : V.cell? ⟨b4, 0, none⟩ = some (.slice a n c) := by rw [HZ.out.c4.cell]; rfl
    have f6 := HZ.out.c6.free 0
    have d6 : V.cell? ⟨b6, 0, none⟩ = some (.bool false) := by rw [HZ.out.c6.cell]; rfl
    go_wp2
    have hbut := But.setCell V b6 0 (.bool true)
    have hdk2 : (V.setCell ⟨b6, 0, none⟩ (.bool true)).heap[Dk]? = some (.deferred (some [])) := (hbut.block Dk (fun e => by
      have h1 := HDK.out
      rw [e] at h1
      have h2 := HZ.out.c6
      unfold Blk at h2
      rw [h1] at h2
      cases h2)).trans HDK.out
    refine ⟨by simp, .inl ⟨_, _, rfl, run_takeDeferred hdk2, ?_⟩⟩
    have hc6 : ((V.setCell ⟨b6, 0, none⟩ (.bool true)).putObj Dk (.deferred none)).cell? ⟨b6, 0, none⟩ = some (.bool true) := by
      rw [(((HZ.out.c6.set 0 (.bool true))).ck (CK.put (.deferred none) hdk2 rfl)).cell]
      rfl
    refine ⟨.bool true, by simp [results, Tryz.f15, go_sem, hc6], rfl, ?_⟩
    exact ((HB3.out.trans (HZ.out.bel.mono HB3.out.size)).trans (hbut.below HL6.out)).trans (belowK_b (w := w) (Nat.le_refl _) _ Dk _ (.deferred none) hDk hdk2 rfl rfl)

end Go.Proofs.YtlgcjdgcgnlcaaaGreatDoor

/-
  What the document's Put and Trim ask, without any program: which node may be; the greatest tile that is still there.
-/
namespace Go.Proofs.YtlgcjdgcgnlcaaaGreatDoor
open Go.RowKit Go.Shelf
set_option linter.unusedVariables false
set_option linter.unusedSimpArgs false
set_option maxRecDepth 100000

/-- A node may be just if its full tile may. -/
theorem tOv_mul {H L : Nat} (k : tFB H L 0 = true) : ∃ m, tOv H L 281474976710656 = 2 ^ H * m := by
  obtain ⟨_, h2, _, _, h5⟩ := tFB_bd k
  have e : (281474976710656 : Nat) = 2 ^ 48 := by decide
  have e1 : tOv H L 281474976710656 = 2 ^ (48 - H * L) := by
    unfold tOv
    rw [e, Nat.pow_div h2 (by decide)]
  rw [e1] at h5 ⊢
  rw [Nat.zero_add, Nat.one_mul] at h5
  have h6 : H ≤ 48 - H * L := (Nat.pow_le_pow_iff_right (by decide)).1 h5
  exact ⟨2 ^ (48 - H * L - H), by rw [← Nat.pow_add]; congr 1; omega⟩
theorem node_iff {H L : Nat} (k : tFB H L 0 = true) (i : Int) : V ((L * H : Nat) : Int) i ↔ smE (H : Int) (L : Int) (i / 2 ^ H) = 0 := by
  obtain ⟨hh, h2, _, _, _⟩ := tFB_bd k
  have hp := Nat.two_pow_pos H
  have ep : ((2 : Int) ^ H) = ((2 ^ H : Nat) : Int) := by simp [Int.natCast_pow]
  rcases Int.lt_or_le i 0 with h0 | h0
  · have hn : i / 2 ^ H < 0 := Int.ediv_neg_of_neg_of_pos h0 (by rw [ep]; omega)
    have hb : smB (H : Int) (L : Int) (i / 2 ^ H) = false := by
      unfold smB
      rw [decide_eq_false (show ¬ (0 : Int) ≤ i / 2 ^ H by omega)]
      simp
    constructor
    · intro h; have := h.2.2.1; omega
    · intro h; unfold smE at h; rw [hb] at h; simp at h
  · obtain ⟨I, rfl⟩ : ∃ I : Nat, i = (I : Int) := ⟨i.toNat, by omega⟩
    have e1 : (I : Int) / 2 ^ H = ((I / 2 ^ H : Nat) : Int) := shr_nat I H
    obtain ⟨m, hm⟩ := tOv_mul k
    have e2 : ((281474976710656 : Int) / 2 ^ (L * H)) = ((tOv H L 281474976710656 : Nat) : Int) := by
      unfold tOv
      rw [Nat.mul_comm H L]
      exact shr_nat 281474976710656 (L * H)
    have e3 : smE (H : Int) (L : Int) ((I / 2 ^ H : Nat) : Int) = 0 ↔ tFB H L (I / 2 ^ H) = true := by
      unfold smE
      rw [smB_nat]
      cases tFB H L (I / 2 ^ H) <;> simp
    rw [e1, e3, tFB_iff hh, hm]
    have e4 : (I / 2 ^ H + 1) * 2 ^ H ≤ 2 ^ H * m ↔ I < 2 ^ H * m := by
      rw [Nat.mul_comm (2 ^ H) m, Nat.mul_le_mul_right_iff hp, Nat.succ_le_iff, Nat.div_lt_iff_lt_mul hp]
    rw [e4]
    unfold V
    simp only [Int.toNat_natCast]
    rw [e2, hm]
    constructor
    · intro h; have := h.2.2.2; omega
    · intro h; exact ⟨by omega, by rw [Nat.mul_comm]; omega, by omega, by omega⟩
/-- What is torn behind the digests. -/
theorem torn_iff {F : ByteArray → Option (List Int)} {H L n : Nat} (k : Cn F H L n) : LTn F H L n = 0 ↔ (fl F (sN H L (n / 2 ^ H))).length % 32 = 0 := by
  have h1 := k.part
  have h2 := k.2
  unfold hasD at h2
  simp only [decide_eq_false_iff_not] at h2
  unfold LTn
  omega
theorem LTn_lt {F : ByteArray → Option (List Int)} {H L n : Nat} (k : Cn F H L n) : LTn F H L n < 32 := by
  have h1 := k.part
  have h2 := k.2
  unfold hasD at h2
  simp only [decide_eq_false_iff_not] at h2
  unfold LTn
  omega

/-! ### the document's Trim -/
/-- Tiles that are behind, and there. -/
def Qf (F : ByteArray → Option (List Int)) (H L n i : Nat) : Prop := tFB H L i = true ∧ (F (sN H L i)).isSome = true ∧ n ≤ i * 2 ^ H
/-- The greatest of them among some names, and where it stands. -/
def Bst (F : ByteArray → Option (List Int)) (H L n : Nat) (ms : List ByteArray) (b p : Int) : Prop :=
  (b = -1 ∧ p = -1 ∧ ∀ i, Qf F H L n i → sN H L i ∉ ms) ∨ ∃ q j : Nat, b = (q : Int) ∧ p = (j : Int) ∧ ms[j]? = some (sN H L q) ∧ Qf F H L n q ∧ ∀ i, Qf F H L n i → sN H L i ∈ ms → i ≤ q
section
variable {F : ByteArray → Option (List Int)} {H L n : Nat} {ms : List ByteArray} {b p : Int} {x : ByteArray}
theorem Bst.nil : Bst F H L n [] (-1) (-1) := .inl ⟨rfl, rfl, fun i _ h => by cases h⟩
theorem Bst.none (h : Bst F H L n ms b p) (hx : ∀ i, Qf F H L n i → sN H L i ≠ x) : Bst F H L n (ms ++ [x]) b p := by
  rcases h with ⟨h1, h2, h3⟩ | ⟨q, j, h1, h2, h3, h4, h5⟩
  · refine .inl ⟨h1, h2, fun i hi hm => ?_⟩
    rcases List.mem_append.1 hm with hm | hm
    · exact h3 i hi hm
    · exact hx i hi (by simpa using hm)
  · refine .inr ⟨q, j, h1, h2, ?_, h4, fun i hi hm => ?_⟩
    · rw [List.getElem?_append_left (List.getElem?_eq_some_iff.1 h3).1]; exact h3
    · rcases List.mem_append.1 hm with hm | hm
      · exact h5 i hi hm
      · exact absurd (by simpa using hm) (hx i hi)
theorem Bst.less {i : Nat} (h : Bst F H L n ms b p) (hq : Qf F H L n i) (hx : x = sN H L i) (hb : ¬ b < (i : Int)) : Bst F H L n (ms ++ [x]) b p := by
  rcases h with ⟨h1, h2, h3⟩ | ⟨q, j, h1, h2, h3, h4, h5⟩
  · omega
  · refine .inr ⟨q, j, h1, h2, ?_, h4, fun k hk hm => ?_⟩
    · rw [List.getElem?_append_left (List.getElem?_eq_some_iff.1 h3).1]; exact h3
    · rcases List.mem_append.1 hm with hm | hm
      · exact h5 k hk hm
      · have e : sN H L k = sN H L i := by rw [← hx]; simpa using hm
        have := (sN_inj hk.1 e).2.2
        omega
theorem Bst.more {i : Nat} (h : Bst F H L n ms b p) (hq : Qf F H L n i) (hx : x = sN H L i) (hb : b < (i : Int)) : Bst F H L n (ms ++ [x]) (i : Int) (ms.length : Int) := by
  refine .inr ⟨i, ms.length, rfl, rfl, by simp [hx], hq, fun k hk hm => ?_⟩
  rcases List.mem_append.1 hm with hm | hm
  · rcases h with ⟨h1, h2, h3⟩ | ⟨q, j, h1, h2, h3, h4, h5⟩
    · exact absurd hm (h3 k hk)
    · have := h5 k hk hm
      omega
  · have e : sN H L k = sN H L i := by rw [← hx]; simpa using hm
    have := (sN_inj hk.1 e).2.2
    omega
/-- One name more: is it a greater one? -/
theorem Bst.step {ss : List UInt8} {h' l' i' w' e : Int} {P : Nat} (hP : 2 ^ H = P) (hh : isH H) (h : Bst F H L n ms b p) (hpr : PrR ss h' l' i' w' e) (hx : x = bA ss) {C : Bool} (hC : C = true ↔ (e = 0 ∧ (F x).isSome = true ∧ h' = (H : Int) ∧ l' = (L : Int) ∧ w' = (P : Int) ∧ (n : Int) ≤ i' * (P : Int) ∧ b < i')) :
    (C = true → Bst F H L n (ms ++ [x]) i' (ms.length : Int)) ∧ (C = false → Bst F H L n (ms ++ [x]) b p) := by
  have key : ∀ i, Qf F H L n i → sN H L i = x → e = 0 ∧ h' = (H : Int) ∧ l' = (L : Int) ∧ i' = (i : Int) ∧ w' = (P : Int) := fun i hi hs => by
    have h1 := prr_of hP hi.1 (hs.trans hx)
    obtain ⟨a1, a2, a3, a4, a5⟩ := hpr.uniq h1
    exact ⟨a5, a1, a2, a3, a4⟩
  have back : C = true → ∃ i : Nat, i' = (i : Int) ∧ Qf F H L n i ∧ x = sN H L i ∧ b < (i : Int) := fun hc => by
    obtain ⟨c1, c2, c3, c4, c5, c6, c7⟩ := hC.1 hc
    rcases hpr with ⟨_, htok, hpath⟩ | ⟨h1, _⟩
    · subst c3 c4 c5
      obtain ⟨H', L', I, N', e1, e2, rfl, e4, hH', hN1, hN2⟩ := htok
      obtain rfl : H = H' := by omega
      obtain rfl : L = L' := by omega
      obtain rfl : P = N' := by omega
      have htf : tFB H L I = true := tFB_of hh (by rw [hP]; exact hN2)
      have hnm : x = sN H L I := by
        rw [hx]
        unfold sN
        rw [sP_ok htf, hP, hpath]
      refine ⟨I, rfl, ⟨htf, by rw [← hnm]; exact c2, ?_⟩, hnm, c7⟩
      rw [hP]
      have : ((I * P : Nat) : Int) = (I : Int) * (P : Int) := Int.natCast_mul I P
      omega
    · omega
  constructor
  · intro hc
    obtain ⟨i, rfl, hq, hx2, hb⟩ := back hc
    exact h.more hq hx2 hb
  · intro hc
    by_cases hex : ∃ i, Qf F H L n i ∧ sN H L i = x
    · obtain ⟨i, hq, hs⟩ := hex
      obtain ⟨k1, k2, k3, k4, k5⟩ := key i hq hs
      refine h.less hq hs.symm (fun hb => ?_)
      have : C = true := hC.2 ⟨k1, by rw [← hs]; exact hq.2.1, k2, k3, k5, by
        have h9 := hq.2.2
        rw [hP] at h9
        rw [k4]
        have : ((i * P : Nat) : Int) = (i : Int) * (P : Int) := Int.natCast_mul i P
        omega, by omega⟩
      rw [this] at hc
      cases hc
    · exact h.none (fun i hi hs => hex ⟨i, hi, hs⟩)
end
theorem TrI.qf {F : ByteArray → Option (List Int)} {H L n : Nat} {is : List Nat} (h : TrI F H L n is) (i : Nat) : i ∈ is ↔ Qf F H L n i := h.mem i
/-- What is left behind the first m removals. -/
theorem TrI.drop {H L n : Nat} {rs : List Rw} {js : List Nat} (h : TrI (play rs) H L n js) (m : Nat) : TrI (play (trR H L rs (js.take m))) H L n (js.drop m) := by
  have hd : (js.take m ++ js.drop m).Pairwise fun a b => b < a := by rw [List.take_append_drop]; exact h.desc
  obtain ⟨d1, d2, d3⟩ := List.pairwise_append.1 hd
  refine ⟨d2, fun i => ?_⟩
  have hsplit : i ∈ js ↔ i ∈ js.take m ∨ i ∈ js.drop m := by
    conv => lhs; rw [← List.take_append_drop m js]
    exact List.mem_append
  obtain ⟨p1, p2⟩ := trR_play H L rs (js.take m) (sN H L i)
  constructor
  · intro hi
    obtain ⟨a, b, c⟩ := (h.mem i).1 (hsplit.2 (.inr hi))
    refine ⟨a, ?_, c⟩
    rw [p2 (fun hm => ?_)]
    · exact b
    · obtain ⟨k, hk, he⟩ := List.mem_map.1 hm
      have e := (sN_inj a he.symm).2.2
      subst e
      have := d3 i hk i hi
      omega
  · rintro ⟨a, b, c⟩
    by_cases hm : sN H L i ∈ (js.take m).map (sN H L)
    · rw [p1 hm] at b; cases b
    · rw [p2 hm] at b
      rcases hsplit.1 ((h.mem i).2 ⟨a, b, c⟩) with h1 | h1
      · exact absurd (List.mem_map_of_mem h1) hm
      · exact h1
/-- At the end of the names: the first that is left. -/
theorem Bst.end {H L n : Nat} {rs : List Rw} {js : List Nat} {ls : List (ByteArray × List Int)} {m : Nat} {b p : Int} (hl : FL (play rs) ls) (hi : TrI (play rs) H L n js) (h : Bst (play (trR H L rs (js.take m))) H L n (ls.map (·.1)) b p) :
    (js.length ≤ m ∧ p = -1) ∨ (∃ q j : Nat, js[m]? = some q ∧ p = (j : Int) ∧ (ls.map (·.1))[j]? = some (sN H L q)) := by
  have hd := hi.drop m
  have hin : ∀ i, Qf (play (trR H L rs (js.take m))) H L n i → sN H L i ∈ ls.map (·.1) := fun i hq => by
    have h1 : i ∈ js := List.mem_of_mem_drop ((hd.qf i).2 hq)
    obtain ⟨_, h2, _⟩ := (hi.mem i).1 h1
    obtain ⟨xs, hxs⟩ := Option.isSome_iff_exists.1 h2
    exact List.mem_map.2 ⟨_, (hl.mem _ _).1 hxs, rfl⟩
  rcases h with ⟨h1, h2, h3⟩ | ⟨q, j, h1, h2, h3, h4, h5⟩
  · refine .inl ⟨?_, h2⟩
    apply Nat.le_of_not_lt
    intro hlt
    have hm : js[m] ∈ js.drop m := by
      rw [List.drop_eq_getElem_cons hlt]
      exact List.mem_cons_self
    have hq := (hd.qf _).1 hm
    exact h3 _ hq (hin _ hq)
  · refine .inr ⟨q, j, ?_, h2, h3⟩
    have hq := (hd.qf q).2 h4
    have hlt : m < js.length := by
      apply Nat.lt_of_not_le
      intro hle
      rw [List.drop_of_length_le hle] at hq
      cases hq
    rw [List.getElem?_eq_getElem hlt]
    congr 1
    have hd2 := hd.desc
    rw [List.drop_eq_getElem_cons hlt] at hd2 hq
    obtain ⟨g1, _⟩ := List.pairwise_cons.1 hd2
    have hm : js[m] ∈ js.drop m := by
      rw [List.drop_eq_getElem_cons hlt]
      exact List.mem_cons_self
    have hqm := (hd.qf _).1 hm
    have h6 := h5 _ hqm (hin _ hqm)
    rcases List.mem_cons.1 hq with e | e
    · exact e.symm
    · have := g1 q e
      omega

end Go.Proofs.YtlgcjdgcgnlcaaaGreatDoor

/-
  The document's Same.
-/
namespace Go.Proofs.YtlgcjdgcgnlcaaaGreatDoor
open Go.RowKit
set_option linter.unusedVariables false

end Go.Proofs.YtlgcjdgcgnlcaaaGreatDoor

/-
  The document's Append: piece by piece.
-/
namespace Go.Proofs.YtlgcjdgcgnlcaaaGreatDoor
open Go.RowKit
set_option linter.unusedVariables false

/-- The next piece is what the document takes. -/
theorem edge_next {s had len k : Nat} (hs : 1 ≤ s) (hl : 0 < len) (hk : k < cntN s had len) : edgeN s had len (k + 1) - edgeN s had len k = min (s - (had + edgeN s had len k) % s) (len - edgeN s had len k) := by
  have h4 : (k + 1) * s = k * s + s := by rw [Nat.add_mul, Nat.one_mul]
  have h3 : had % s < s := Nat.mod_lt _ hs
  by_cases h0 : k = 0
  · subst h0
    rw [edge_zero]
    unfold edgeN
    simp only [Nat.add_zero, Nat.zero_add, Nat.one_mul, Nat.sub_zero]
  · obtain ⟨e1, e2, e3⟩ := edge_mid hs (by omega : 1 ≤ k) hk
    have e5 : had + (k * s - had % s) = (had / s + k) * s := by
      have := Nat.div_add_mod had s
      rw [Nat.add_mul, Nat.mul_comm (had / s) s]
      omega
    rw [e1] at e2 ⊢
    rw [e5, Nat.mul_mod_left]
    unfold edgeN
    omega
theorem edge_lt {s had len k : Nat} (hs : 1 ≤ s) (hl : 0 < len) (hk : k < cntN s had len) : edgeN s had len k < len := by
  have h1 := edge_step hs hl hk
  have h2 : edgeN s had len (k + 1) ≤ len := Nat.min_le_right _ _
  omega
def slen : Value → Nat
  | .slice _ l _ => l
  | _ => 0
/-- What stands at the head of the loop: k pieces are written. -/
structure ApI (w wr : World) (r s : Nat) (rs : List Rw) (R : Rm) (n : ByteArray) (b xs : List Int) (a0 : Option Addr) (k : Nat) (v : Value) : Prop where
  le : k ≤ cntN s xs.length b.length
  sl : ∃ a c, v = .slice a (b.length - edgeN s xs.length b.length k) c ∧ Sl wr a (b.length - edgeN s xs.length b.length k) c (b.drop (edgeN s xs.length b.length k)) ∧ ∀ x, a = some x → ∃ y, a0 = some y ∧ y.block = x.block
  rk : RoP w wr r s R (rs ++ expK s ⟨rAp n b, rs.length, xs.length⟩ k)
theorem RoP.step {w w1 w2 : World} {r s : Nat} {R R1 : Rm} {rs2 : List Rw} {v : Value} (h2 : Chs (R.own r) w w1) (h3 : ∀ k, R1.own r k → R.own r k ∨ w.heap.size ≤ k) (h4 : ∀ k, R1.ro k → R.ro k ∨ w.heap.size ≤ k) (hv : ∀ k, v.ownBlock = some k → w.heap.size ≤ k) (h : RoR w1 w2 r s R1 rs2 v) : RoP w w2 r s R rs2 := by
  obtain ⟨R2, a1, a2, a3, a4⟩ := h
  have hsz := h2.size
  refine ⟨R2, a1, h2.after a2 h3, fun k hk => ?_, fun k hk => ?_⟩
  · rcases a3 k hk with h | h
    · exact h3 k h
    · right; omega
  · rcases a4 k hk with h | h
    · exact h4 k h
    · exact .inr (hv k h)

end Go.Proofs.YtlgcjdgcgnlcaaaGreatDoor

/-
  The document's Append: the walk.
-/
namespace Go.Proofs.YtlgcjdgcgnlcaaaGreatDoor
open Go.RowKit
set_option linter.unusedVariables false

set_option maxRecDepth 100000 in
set_option maxHeartbeats 2000000 in
theorem appendR_any (r s : Nat) (rs : List Rw) (R : Rm) (w : World) (h : RkAt w r s rs R) (n : ByteArray) (a : Option Addr) (l c : Nat) (b : List Int) (hb : Sl w a l c b) (hoff : b ≠ [] → ∀ x, a = some x → ¬ R.own r x.block ∧ x.block < w.heap.size) (hwt : wt rs + 2 * b.length + 2 ≤ 1099511000000) :
    Calls Tryz.prog 29 #[.pointer (some ⟨r, 0, none⟩), .string n, .slice a l c] w fun e w' => e = .returned (.int .i64 (fE rs n)) ∧ RoP w w' r s R (apS s rs n b) := by
  have hl := hb.hlen
  subst hl
  have HW := hide hwt
  have hwr := wrong_t r s rs R w h n (by omega)
  have HWR := hide hwr
  have HH := hide h
  have HB := hide hb
  have HOFF := hide hoff
  clear h hwr hwt hb hoff
  by_cases h0 : fE rs n = 0
  · obtain ⟨hn, xs, hf, hfl⟩ := fE_0 h0
    rw [h0]
    rw [h0] at HWR
    by_cases hb0 : b = []
    · subst hb0
      have e2 : apS s rs n [] = rs := by simp [apS]
      rw [e2]
      clear e2 h0 hn hf hfl
      go_enter Tryz.func29, Tryz.ntmps29
      go_wp2_with (go_at_call 62; refine HWR.out.mono ?_; rintro e w2 ⟨rfl, hb2⟩)
      go_loopw [2] (fun v wr => v = .slice a 0 c ∧ w2 = wr) (fun _ _ => 0)
      case atStart => exact ⟨rfl, rfl⟩
      case round =>
        obtain ⟨rfl, rfl⟩ := hrel
        go_wp2
        go_ret
        exact ⟨rfl, RoP.below HH.out hb2⟩
    · have e2 : apS s rs n b = rs ++ expd s ⟨rAp n b, rs.length, xs.length⟩ := by
        simp only [apS, h0, hfl]
        rw [if_pos ⟨trivial, hb0⟩]
      rw [e2]
      have hs1 := HH.out.s1
      have hs2 := HH.out.s2
      have hbl : 0 < b.length := List.length_pos_iff.2 hb0
      have HAP : Hid (∀ k, k ≤ cntN s xs.length b.length → (expK s ⟨rAp n b, rs.length, xs.length⟩ k).foldl doR (play rs) = upd (play rs) n (some (xs ++ b.take (edgeN s xs.length b.length k))) ∧ Val s (play rs) (expK s ⟨rAp n b, rs.length, xs.length⟩ k)) := hide (fun k hk => expd_ap hs1 hn hf hb0 HB.out.hbyte k hk)
      have hxw := play_wt rs n
      rw [hfl] at hxw
      have HXW : Hid (xs.length ≤ 1099511000000) := hide (by have := HW.out; omega)
      have HCNT : Hid (cntN s xs.length b.length ≤ b.length + 1) := hide (cnt_bd hs1)
      have HBL := hide hbl
      replace HOFF := hide (HOFF.out hb0)
      clear e2 h0 hf hfl hb0 hxw hbl
      go_enter Tryz.func29, Tryz.ntmps29
      go_wp2_with (go_at_call 62; refine HWR.out.mono ?_; rintro e w2 ⟨rfl, hb2⟩)
      have I0 : Hid (ApI w w2 r s rs R n b xs a 0 (.slice a b.length c)) := hide ⟨Nat.zero_le _, ⟨a, c, by rw [edge_zero]; rfl, by rw [edge_zero]; exact HB.out.below hb2, fun x hx => ⟨x, hx, rfl⟩⟩, by simp only [expK, List.range_zero, List.map_nil, List.append_nil]; exact RoP.below HH.out hb2⟩
      clear hb2 HWR
      go_loopw [2] (fun v wr => ∃ k : Nat, Hid (ApI w wr r s rs R n b xs a k v)) (fun v _ => slen v)
      case atStart => exact ⟨0, I0⟩
      case round =>
        obtain ⟨k, HI⟩ := hrel
        obtain ⟨ak, ck, hve, hsk, hak⟩ := HI.out.sl
        obtain ⟨R1, g1, g2, g3, g4⟩ := HI.out.rk
        subst hve
        by_cases hlt : k < cntN s xs.length b.length
        · have hed := edge_lt hs1 HBL.out hlt
          have hnx := edge_next hs1 HBL.out hlt
          have hst := edge_step hs1 HBL.out hlt
          have hle1 : edgeN s xs.length b.length (k + 1) ≤ b.length := Nat.min_le_right _ _
          obtain ⟨hfd, _⟩ := HAP.out k (by omega)
          obtain ⟨_, hval⟩ := HAP.out (k + 1) (by omega)
          rw [expK_succ, Val_app, hfd] at hval
          have hpl : play (rs ++ expK s ⟨rAp n b, rs.length, xs.length⟩ k) = upd (play rs) n (some (xs ++ b.take (edgeN s xs.length b.length k))) := by rw [play_app, hfd]
          have HRK := hide g1
          have G2 := hide g2
          have G3 := hide g3
          have G4 := hide g4
          have HLR : Hid (Lraw s (play (rs ++ expK s ⟨rAp n b, rs.length, xs.length⟩ k)) (pieces s ⟨rAp n b, rs.length, xs.length⟩ k (k + 1))) := hide (by rw [hpl]; exact hval.2.1)
          have HSK := hide hsk
          have HAK := hide hak
          have hw9 : wt (rs ++ expK s ⟨rAp n b, rs.length, xs.length⟩ k) + (edgeN s xs.length b.length (k + 1) - edgeN s xs.length b.length k) + 1 ≤ 1099511000000 := by
            have h1 := expK_wt s ⟨rAp n b, rs.length, xs.length⟩ k
            have h2 : (b.take (edgeN s xs.length b.length k)).length ≤ edgeN s xs.length b.length k := by rw [List.length_take]; omega
            have h3 : wt (expK s ⟨rAp n b, rs.length, xs.length⟩ k) ≤ edgeN s xs.length b.length k + k := Nat.le_trans h1 (by show (b.take (edgeN s xs.length b.length k)).length + k ≤ _; omega)
            rw [wt_app]
            have h4 := HW.out
            have h5 := HCNT.out
            omega
          have HW9 := hide hw9
          have HALL : Hid (∀ W : World, RkAt W r s (rs ++ expK s ⟨rAp n b, rs.length, xs.length⟩ k) R1 → Calls Tryz.prog 37 #[.pointer (some ⟨r, 0, none⟩), .string n] W fun e w' => e = .returned (.tuple #[.string (str (xs ++ b.take (edgeN s xs.length b.length k))), .bool true]) ∧ Below W.heap.size W w') := hide (fun W hW => by
            have := all_any r s _ R1 W hW n (by have := HW9.out; omega)
            rw [hpl] at this
            have e1 : fl (upd (play rs) n (some (xs ++ b.take (edgeN s xs.length b.length k)))) n = xs ++ b.take (edgeN s xs.length b.length k) := by simp [fl, upd_same]
            rw [e1, upd_same] at this
            exact this)
          have hsz : (str (xs ++ b.take (edgeN s xs.length b.length k))).size = xs.length + edgeN s xs.length b.length k := by
            rw [str_size, List.length_append, List.length_take, Nat.min_eq_left (by omega)]
          have hpc : (pieces s ⟨rAp n b, rs.length, xs.length⟩ k (k + 1)) = rAp n ((b.drop (edgeN s xs.length b.length k)).take (edgeN s xs.length b.length (k + 1) - edgeN s xs.length b.length k)) := rfl
          rw [hpc] at HLR
          have HET : Hid (rs ++ expK s ⟨rAp n b, rs.length, xs.length⟩ (k + 1) = (rs ++ expK s ⟨rAp n b, rs.length, xs.length⟩ k) ++ [rAp n ((b.drop (edgeN s xs.length b.length k)).take (edgeN s xs.length b.length (k + 1) - edgeN s xs.length b.length k))]) := hide (by rw [expK_succ, hpc, List.append_assoc])
          have hMb : xs.length + edgeN s xs.length b.length k ≤ 2199022000000 := by have h1 := HXW.out; have h2 := HW.out; omega
          have hPl : ((b.drop (edgeN s xs.length b.length k)).take (edgeN s xs.length b.length (k + 1) - edgeN s xs.length b.length k)).length = edgeN s xs.length b.length (k + 1) - edgeN s xs.length b.length k := by rw [List.length_take, List.length_drop]; omega
          have hdd : (b.drop (edgeN s xs.length b.length k)).drop (edgeN s xs.length b.length (k + 1) - edgeN s xs.length b.length k) = b.drop (edgeN s xs.length b.length (k + 1)) := by rw [List.drop_drop]; congr 1; omega
          have hbl2 : b.length ≤ 1099511000000 := by have h2 := HW.out; omega
          have hisB := HB.out.hbyte
          clear hpl hval hfd hw9 hpc g1 g2 g3 g4 hak HI
          generalize edgeN s xs.length b.length k = EK at *
          generalize hEK1 : edgeN s xs.length b.length (k + 1) = EK1 at *
          generalize rs ++ expK s ⟨rAp n b, rs.length, xs.length⟩ k = rsK at *
          generalize str (xs ++ b.take EK) = X at HALL hsz
          obtain ⟨M, hM⟩ : ∃ M, M = xs.length + EK := ⟨_, rfl⟩
          rw [← hM] at hnx hsz hMb
          obtain ⟨N, hN⟩ : ∃ N, N = EK1 - EK := ⟨_, rfl⟩
          rw [← hN] at hnx HW9 HLR HET hPl hdd
          have hLRb : b.length - EK ≤ 1099511000000 := by omega
          have hLR1 : b.length - EK1 = (b.length - EK) - N := by omega
          have hN0 : 0 < N := by omega
          have hNL : N ≤ b.length - EK := by omega
          obtain ⟨LR, hLR⟩ : ∃ LR, LR = b.length - EK := ⟨_, rfl⟩
          rw [← hLR] at hsk HSK hLRb hLR1 hNL hnx ⊢
          obtain ⟨hto, hts⟩ := hsk.to' hNL
          obtain ⟨a2, hfr, hab, hfs⟩ := hsk.from' hNL
          have hcm : M % s < s := Nat.mod_lt _ hs1
          obtain ⟨H, hH⟩ : ∃ H, H = M % s := ⟨_, rfl⟩
          rw [← hH] at hnx hcm
          obtain ⟨T, hT⟩ : ∃ T, T = s - H := ⟨_, rfl⟩
          rw [← hT] at hnx
          have hcase : ((LR : Int) < (T : Int) ∧ N = LR) ∨ (¬ (LR : Int) < (T : Int) ∧ N = T) := by omega
          have f1 : (M : Int).tmod (s : Int) = (H : Int) := by rw [hH, Int.tmod_eq_emod_of_nonneg (by omega)]; rfl
          have hf2 := wrap_sub (Nat.le_of_lt hcm) (by omega)
          rw [← hT] at hf2
          have HF2 := hide hf2
          clear hf2 hT
          have hs0 : ¬ ((s : Int) = 0) := by omega
          have hl0 : (0 : Int) < (LR : Int) := by omega
          have HHS := hide (And.intro hs1 hs2)
          have HDD := hide hdd
          have HPL := hide hPl
          have HLR1 := hide hLR1
          have HAB := hide hab
          have HTS := hide hts
          have HFS := hide hfs
          have HE1 := hide hEK1
          have HP0 : Hid ((b.drop EK).take N ≠ []) := hide (fun e => by rw [e] at hPl; simp at hPl; omega)
          have HPB : Hid (isB ((b.drop EK).take N)) := hide ((hisB.drop _).take _)
          have HNL : Hid (N ≤ 1099511000000 ∧ N ≤ LR ∧ 0 < N) := hide ⟨by omega, hNL, hN0⟩
          have HPS : Hid (((b.drop EK).take N).length ≤ 140737488355328) := hide (by rw [hPl]; omega)
          have HWX : Hid (wt rsK + (rAp n ((b.drop EK).take N)).b.length + 1 ≤ 1099511000000) := hide (by show wt rsK + ((b.drop EK).take N).length + 1 ≤ _; rw [hPl]; exact HW9.out)
          have HLT : Hid (k + 1 ≤ cntN s xs.length b.length) := hide hlt
          have HSM : Hid (([] : List Int).length + N ≤ 140737488355328) := hide (by show 0 + N ≤ _; omega)
          clear hed hnx hst hle1 hsk hPl hdd hbl2 hisB hM hMb hLR hN hLRb hLR1 hN0 hNL hab hts hfs hcm hH hs1 hs2 hEK1 hlt
          generalize hPP : (b.drop EK).take N = P at *
          clear hPP
          go_wp2_with (go_at_call 37; refine (HALL.out _ HRK.out).mono ?_; rintro e w3 ⟨rfl, hb3⟩; have c0 : w3.cell? ⟨r, 0, none⟩ = some (.int .i64 (s : Int)) := (by rw [(HRK.out.fk.below hb3).blk.cell]; rfl))
          obtain ⟨f2, f3⟩ := HF2.out
          go_quiet (fail)
          have Z3 := hide (hb3.trans ((below_drewN (Below.refl w3.heap.size w3) nq).mono hb3.size))
          revert Z3
          generalize w3.drewN nq = w4
          intro Z3
          clear hb3 c0 f1 f2 f3 hs0
          have hcut : ∀ (v : Value) (W : World), v = .slice ak LR ck → True := fun _ _ _ => trivial
          have ho0 : Own (w4.alloc (.cells #[] 5)) w4.heap.size (.slice (some ⟨w4.heap.size, 0, none⟩) 0 0) [] := Own.of_blk (xs := []) (Blk.made w4 5 []) (Nat.le_refl _) (by simp)
          have hb0 : Below w4.heap.size w4 (w4.alloc (.cells #[] 5)) := (Below.refl _ _).alloc (Nat.le_refl _) _
          have HO0 := hide ho0
          have HB0 := hide hb0
          have Y4 : Hid (Sl (w4.alloc (.cells #[] 5)) ak N ck P) := hide (HTS.out _ ((HSK.out.below Z3.out).below HB0.out))
          clear ho0 hb0 hcut
          rcases hcase with ⟨hc, hNe⟩ | ⟨hc, hNe⟩
          · have hNi : (N : Int) = (LR : Int) := by rw [hNe]
            subst hNe
            clear hNi
            go_wp2_with (first | (refine step_append rfl rfl rfl HO0.out Y4.out HSM.out (by simp) ?_; intro v1 w5 ho1 hg1 hn1; have hb1 : Hid (Below w4.heap.size w4 w5) := hide (HB0.out.trans (Below.of_grown hg1 HB0.out.size HO0.out.lt)); rw [List.nil_append] at ho1; have HO1 := hide ho1; clear ho1 hg1 hn1; obtain ⟨a1, c1, hve1⟩ := HO1.out.slice; subst hve1) | (refine step_bR2 rfl rfl rfl ?_))
            have Z5 := hide (Z3.out.trans (hb1.out.mono Z3.out.size))
            have BV1 := HO1.out.bv HPB.out HPS.out HP0.out
            refine (doR_any r s rsK R1 (rAp n P) _ _ (HRK.out.below Z5.out) HLR.out BV1 HWX.out).mono ?_
            rintro e w6 ⟨rfl, hR⟩
            have HSK6 : Sl w6 ak N ck (b.drop EK) := HSK.out.same (fun x hx => by
              obtain ⟨y, hy, hyb⟩ := HAK.out x hx
              obtain ⟨o1, o2⟩ := HOFF.out y hy
              rw [hyb] at o1 o2
              have hsz := G2.out.size
              obtain ⟨R6, q1, q2, q3, q4⟩ := hR
              have hsz5 := Z5.out.size
              rw [q2.block x.block (by omega) (fun e => by
                rcases G3.out x.block e with e | e
                · exact o1 e
                · omega)]
              exact Z5.out.block x.block (by omega))
            have I6 : Hid (ApI w w6 r s rs R n b xs a (k + 1) (.slice a2 (N - N) (ck - N))) := hide ⟨HLT.out, ⟨a2, ck - N, by rw [HE1.out, HLR1.out], by
                rw [HE1.out, HLR1.out, ← HDD.out]
                exact HFS.out _ HSK6, fun x hx => by
                obtain ⟨y, hy, hyb⟩ := HAB.out x hx
                obtain ⟨y', hy', hyb'⟩ := HAK.out y hy
                exact ⟨y', hy', by rw [hyb', hyb]⟩⟩, by
                rw [HET.out]
                refine RoP.step (G2.out.thenBelow Z5.out) G3.out G4.out (fun q hq => ?_) hR
                have h1 := HO1.out.lt q hq
                have h2 := G2.out.size
                have h3 := Z3.out.size
                omega⟩
            clear HSK6 hR BV1
            go_wp2
            go_roundw
            case rel => first | exact ⟨k + 1, I6⟩ | exact ⟨k + 1, by have h9 := I6; rw [Nat.sub_self] at h9; exact h9⟩
            case measure =>
              have := HNL.out
              first | (show N - N < N; omega) | (show 0 < N; omega)
          · have hNi : (N : Int) = (T : Int) := by rw [hNe]
            subst hNe
            clear hNi
            go_wp2_with (first | (refine step_append rfl rfl rfl HO0.out Y4.out HSM.out (by simp) ?_; intro v1 w5 ho1 hg1 hn1; have hb1 : Hid (Below w4.heap.size w4 w5) := hide (HB0.out.trans (Below.of_grown hg1 HB0.out.size HO0.out.lt)); rw [List.nil_append] at ho1; have HO1 := hide ho1; clear ho1 hg1 hn1; obtain ⟨a1, c1, hve1⟩ := HO1.out.slice; subst hve1) | (refine step_bR2 rfl rfl rfl ?_))
            have Z5 := hide (Z3.out.trans (hb1.out.mono Z3.out.size))
            have BV1 := HO1.out.bv HPB.out HPS.out HP0.out
            refine (doR_any r s rsK R1 (rAp n P) _ _ (HRK.out.below Z5.out) HLR.out BV1 HWX.out).mono ?_
            rintro e w6 ⟨rfl, hR⟩
            have HSK6 : Sl w6 ak LR ck (b.drop EK) := HSK.out.same (fun x hx => by
              obtain ⟨y, hy, hyb⟩ := HAK.out x hx
              obtain ⟨o1, o2⟩ := HOFF.out y hy
              rw [hyb] at o1 o2
              have hsz := G2.out.size
              obtain ⟨R6, q1, q2, q3, q4⟩ := hR
              have hsz5 := Z5.out.size
              rw [q2.block x.block (by omega) (fun e => by
                rcases G3.out x.block e with e | e
                · exact o1 e
                · omega)]
              exact Z5.out.block x.block (by omega))
            have I6 : Hid (ApI w w6 r s rs R n b xs a (k + 1) (.slice a2 (LR - N) (ck - N))) := hide ⟨HLT.out, ⟨a2, ck - N, by rw [HE1.out, HLR1.out], by
                rw [HE1.out, HLR1.out, ← HDD.out]
                exact HFS.out _ HSK6, fun x hx => by
                obtain ⟨y, hy, hyb⟩ := HAB.out x hx
                obtain ⟨y', hy', hyb'⟩ := HAK.out y hy
                exact ⟨y', hy', by rw [hyb', hyb]⟩⟩, by
                rw [HET.out]
                refine RoP.step (G2.out.thenBelow Z5.out) G3.out G4.out (fun q hq => ?_) hR
                have h1 := HO1.out.lt q hq
                have h2 := G2.out.size
                have h3 := Z3.out.size
                omega⟩
            clear HSK6 hR BV1
            go_wp2
            go_roundw
            case rel => first | exact ⟨k + 1, I6⟩ | exact ⟨k + 1, by have h9 := I6; rw [Nat.sub_self] at h9; exact h9⟩
            case measure =>
              have := HNL.out
              first | (show LR - N < LR; omega) | (show 0 < N; omega)
        · have hkc : k = cntN s xs.length b.length := by have := HI.out.le; omega
          have hed : edgeN s xs.length b.length k = b.length := edge_cnt hs1 (by omega)
          rw [hed, Nat.sub_self]
          have hex : expd s ⟨rAp n b, rs.length, xs.length⟩ = expK s ⟨rAp n b, rs.length, xs.length⟩ k := by rw [hkc]; rfl
          have HRK := hide HI.out.rk
          rw [← hex] at HRK
          clear hsk hak g1 g2 g3 g4 hed hex hkc hlt
          go_wp2
          go_ret
          exact ⟨rfl, HRK.out⟩
  · have e2 : apS s rs n b = rs := by simp [apS, h0]
    rw [e2]
    generalize fE rs n = E at HWR h0
    clear e2
    go_enter Tryz.func29, Tryz.ntmps29
    go_wp2_with (go_at_call 62; refine HWR.out.mono ?_; rintro e w2 ⟨rfl, hb2⟩)
    go_ret
    exact ⟨rfl, RoP.below HH.out hb2⟩

end Go.Proofs.YtlgcjdgcgnlcaaaGreatDoor

/-
  The document's Put.
-/
namespace Go.Proofs.YtlgcjdgcgnlcaaaGreatDoor
open Go.RowKit Go.Shelf
set_option linter.unusedVariables false
set_option linter.unusedSimpArgs false
set_option maxRecDepth 100000

theorem RoP.pre {w w0 w1 : World} {r s : Nat} {R : Rm} {rs : List Rw} (hb : Below w.heap.size w w0) (h : RoP w0 w1 r s R rs) : RoP w w1 r s R rs := by
  obtain ⟨R', h1, h2, h3, h4⟩ := h
  have hs := hb.size
  exact ⟨R', h1, (Chs.of_below _ hb).after h2 (fun k hk => .inl hk), fun k hk => (h3 k hk).imp id (fun h => Nat.le_trans hs h), fun k hk => (h4 k hk).imp id (fun h => Nat.le_trans hs h)⟩
theorem RoP.comp {w w1 w2 : World} {r s : Nat} {R R1 : Rm} {rs2 : List Rw} (a2 : Chs (R.own r) w w1) (a3 : ∀ k, R1.own r k → R.own r k ∨ w.heap.size ≤ k) (a4 : ∀ k, R1.ro k → R.ro k ∨ w.heap.size ≤ k) (h : RoP w1 w2 r s R1 rs2) : RoP w w2 r s R rs2 := by
  obtain ⟨R', h1, h2, h3, h4⟩ := h
  have hs := a2.size
  refine ⟨R', h1, a2.after h2 a3, fun k hk => ?_, fun k hk => ?_⟩
  · rcases h3 k hk with h | h
    · exact a3 k h
    · exact .inr (Nat.le_trans hs h)
  · rcases h4 k hk with h | h
    · exact a4 k h
    · exact .inr (Nat.le_trans hs h)
theorem RoP.post {w w1 w2 : World} {r s : Nat} {R : Rm} {rs : List Rw} (h : RoP w w1 r s R rs) (hb : Below w1.heap.size w1 w2) : RoP w w2 r s R rs := by
  obtain ⟨R', h1, h2, h3, h4⟩ := h
  exact ⟨R', h1.below hb, h2.after (Chs.of_below (fun _ => False) hb) (fun k hk => hk.elim), h3, h4⟩
/-- What the document's Put asks of a node. -/
theorem vnode_any {H L : Nat} (hv : tFB H L 0 = true) (i : Int) : ∃ q : Bool, (q = true ↔ smE (H : Int) (L : Int) (i / 2 ^ H) = 0) ∧ ∀ W : World, Calls Tryz.prog 34 #[.agg #[.int .i64 ((L : Int) * (H : Int)), .int .i64 i]] W fun e w' => e = .returned (.bool q) ∧ Below W.heap.size W w' := by
  have e : ((L : Int) * (H : Int)) = ((L * H : Nat) : Int) := (Int.natCast_mul L H).symm
  have hi := node_iff hv i
  rw [e]
  by_cases hV : V ((L * H : Nat) : Int) i
  · obtain ⟨L', I, e1, rfl, h1, h2⟩ := hV.nats
    obtain rfl : L * H = L' := by omega
    exact ⟨true, ⟨fun _ => hi.1 hV, fun _ => rfl⟩, fun W => validR_yes _ I W (by omega) h2⟩
  · exact ⟨false, ⟨(fun h => by cases h), fun h => absurd (hi.2 h) hV⟩, fun W => validR_no _ i W hV⟩
section
variable (r s : Nat) (rs : List Rw) (R : Rm) (w : World) (hr : RkAt w r s rs R)
include hr
set_option maxHeartbeats 2000000 in
theorem putL_any (h l i : Int) (n : Nat) (x : List Int) (hx : x.length = 32) (hxb : isB x) (hn : smE h l 0 = 0 → Cn (play rs) h.toNat l.toNat n) (hwt : wt rs + 80 ≤ 1099511000000) :
    Calls Tryz.prog 10 #[.pointer (some ⟨r, 0, none⟩), .int .i64 h, .int .i64 l, .int .i64 i, .agg (u8s x).toArray] w fun e w' => e = .returned (.int .i64 (puE rs h l i n)) ∧ RoP w w' r s R (puS s rs h l i n x) := by
  have HL := hide (fun W : World => levelR_any h l W)
  have HR := hide hr
  have HW := hide hwt
  have HX := hide hx
  have HXB := hide hxb
  by_cases he : smE h l 0 = 0
  · obtain ⟨H, L, rfl, rfl, hh, hL, hv, hb⟩ := lvl_nat he
    have hcn := hn he
    simp only [Int.toNat_natCast] at hcn
    rw [hb] at HL
    obtain ⟨q, hq, hvc⟩ := vnode_any hv i
    have HV := hide hvc
    have hLH : wrap64 ((L : Int) * (H : Int)) = (L : Int) * (H : Int) := by
      have h1 := (tFB_bd hv).2.1
      have h2 : ((L * H : Nat) : Int) = (L : Int) * (H : Int) := Int.natCast_mul L H
      rw [Nat.mul_comm] at h1
      unfold wrap64
      omega
    obtain ⟨lh, HLH⟩ : ∃ z, Hid ((L : Int) * (H : Int) = z) := ⟨_, hide rfl⟩
    rw [HLH.out] at hLH HV
    have hwm := HLH.out
    by_cases he2 : smE (H : Int) (L : Int) (i / 2 ^ H) = 0
    · obtain rfl : q = true := hq.2 he2
      have HD := hide (fun (W : World) (hW : RkAt W r s rs R) => digestsL_any r s rs R W hW H L n hh hL hcn (by omega))
      have HLEN := hide (LT_len hcn)
      have e1 : puE rs (H : Int) (L : Int) i n = if i = (n : Int) then reE rs (bA (smP (H : Int) (L : Int) (i / 2 ^ H))) else 40 := by
        unfold puE
        simp only [Int.toNat_natCast]
        rw [if_pos he, if_pos he2]
      have hnw := hcn.wt hr.val
      have hdv : ((32 * n : Nat) : Int).tdiv 32 = (n : Int) := by rw [Int.tdiv_eq_ediv_of_nonneg (by omega)]; omega
      have hdv2 : ((32 * n : Nat) : Int) / 32 = (n : Int) := by omega
      have hnb : 32 * n ≤ 1099511000000 := by omega
      unfold puS
      simp only [Int.toNat_natCast]
      rw [e1]
      by_cases hin : i = (n : Int)
      · rw [if_pos hin]
        subst hin
        have hqn : (n : Int) / 2 ^ H = ((n / 2 ^ H : Nat) : Int) := shr_nat n H
        have hnm := smE_nm he2
        have htn := torn_iff hcn
        have htl := LTn_lt hcn
        rw [hqn] at he2 hnm ⊢
        rw [smP_nat] at hnm ⊢
        have hre : reE rs (sN H L (n / 2 ^ H)) = if LTn (play rs) H L n = 0 then 0 else 130 := by
          unfold reE
          by_cases h0 : (fl (play rs) (sN H L (n / 2 ^ H))).length % 32 = 0
          · rw [if_pos h0, if_pos (htn.2 h0)]
          · rw [if_neg h0, if_neg (fun h => h0 (htn.1 h))]
        by_cases h0 : LTn (play rs) H L n = 0
        · rw [if_pos h0] at hre
          rw [h0] at HD
          rw [hre, if_pos rfl]
          have hfu : ∀ W : World, Calls Tryz.prog 36 #[.int .i64 (H : Int)] W fun r w' => r = .returned (.int .i64 ((2 ^ H : Nat) : Int)) ∧ w' = W := fun W => full_any H (2 ^ H) W hh rfl
          have hnmc : ∀ W : World, Calls Tryz.prog 35 #[.int .i64 (H : Int), .int .i64 (L : Int), .int .i64 ((n / 2 ^ H : Nat) : Int)] W fun r w' => r = .returned (.tuple #[.string (sN H L (n / 2 ^ H)), .int .i64 0]) ∧ Below W.heap.size W w' := fun W => by
            have := snameR_any (H : Int) (L : Int) ((n / 2 ^ H : Nat) : Int) W
            rw [he2, smP_nat] at this
            exact this
          have hdq : (n : Int).tdiv ((2 ^ H : Nat) : Int) = ((n / 2 ^ H : Nat) : Int) := (Int.ofNat_tdiv n (2 ^ H)).symm
          have hP := hh.pow
          obtain ⟨P, HP⟩ : ∃ P, Hid (2 ^ H = P) := ⟨_, hide rfl⟩
          rw [HP.out] at hfu hnmc hdq hP hnm ⊢
          obtain ⟨Q, HQ⟩ : ∃ Q, Hid (n / P = Q) := ⟨_, hide rfl⟩
          rw [HQ.out] at hnmc hdq hnm ⊢
          have hQb : Q ≤ 1099511000000 := by rw [← HQ.out]; have := Nat.div_le_self n P; omega
          have hP1 := hP.1
          have hP2 := hP.2
          have hpne : ¬ (P : Int) = 0 := by omega
          obtain ⟨nm, HNN⟩ : ∃ nm, Hid (sN H L Q = nm) := ⟨_, hide rfl⟩
          rw [HNN.out] at hnmc hnm ⊢
          have HFU := hide hfu
          have HNM := hide hnmc
          have HAL : Hid (∀ W : World, RkAt W r s rs R → Calls Tryz.prog 37 #[.pointer (some ⟨r, 0, none⟩), .string nm] W fun e w' => e = .returned (.tuple #[.string (str (fl (play rs) nm)), .bool (play rs nm).isSome]) ∧ Below W.heap.size W w') := hide (fun W hW => all_any r s rs R W hW nm (by omega))
          have hfe : fE (crS rs nm) nm = 0 := by
            rw [crS_is hnm]
            split
            · have e3 : play (rs ++ [rCr nm]) = upd (play rs) nm (some []) := by rw [play_snoc, do_cr]
              simp [fE, hnm, e3, upd_same]
            · rename_i h0
              cases hp : play rs nm with
              | none => exact absurd hp h0
              | some ys => simp [fE, hnm, hp]
          have hwc : wt (crS rs nm) ≤ wt rs + 1 := by
            rw [crS_is hnm]
            split
            · rw [wt_app]; simp [wt, rCr]
            · omega
          have HAP : Hid (∀ (W : World) (R1 : Rm) (a : Option Addr), RkAt W r s (crS rs nm) R1 → Sl W a 32 32 x → (∀ y : Addr, a = some y → ¬ R1.own r y.block ∧ y.block < W.heap.size) → Calls Tryz.prog 29 #[.pointer (some ⟨r, 0, none⟩), .string nm, .slice a 32 32] W fun e w' => e = .returned (.int .i64 0) ∧ RoP W w' r s R1 (puW s rs nm x)) := hide (fun W R1 a hW hS hF => by
            have := appendR_any r s (crS rs nm) R1 W hW nm a 32 32 x hS (fun _ => hF) (by have := HW.out; omega)
            rw [hfe] at this
            exact this)
          have hsa := slice_Ds
          obtain ⟨Z, HZ⟩ : ∃ Z, Hid (32 * n = Z) := ⟨_, hide rfl⟩
          rw [HZ.out] at HLEN hdv hdv2 hnb
          cases hp : play rs nm with
          | none =>
            rw [hp] at HAL
            simp only [Option.isSome_none] at HAL
            have hcr : crE rs nm = 0 := by simp [crE, hnm, hp]
            have HCR : Hid (∀ W : World, RkAt W r s rs R → Calls Tryz.prog 27 #[.pointer (some ⟨r, 0, none⟩), .string nm] W fun e w' => e = .returned (.int .i64 0) ∧ RoP W w' r s R (crS rs nm)) := hide (fun W hW => by
              have := createR_any r s rs R W hW nm (by omega)
              rw [hcr] at this
              exact this)
            generalize str (fl (play rs) nm) = S at HAL
            clear he hn hcn hv hb hr he2 hq hvc e1 hnw hqn htn htl hre h0 hfu hnmc hfe hwc hp hcr hx hxb hwt hnm hh hL hP
            go_enter Tryz.func10, Tryz.ntmps10
            go_wp2_with (refine step_box (cs := u8s x) rfl rfl ?_; intro w1 g1 hg1 hle1 hb1; have HG1 := hide (And.intro hg1 hle1); have HB1 := hide hb1; clear hg1 hle1 hb1)
            refine (HL.out _).mono ?_
            rintro e w2 ⟨rfl, hb2⟩
            have HB2 := hide (on_below HB1.out hb2)
            have HG2 := hide (HG1.out.1.on hb2)
            clear hb2
            go_wp2_with fail
            refine (HV.out _).mono ?_
            rintro e w3 ⟨rfl, hb3⟩
            have HB3 := hide (on_below HB2.out hb3)
            have HG3 := hide (HG2.out.on hb3)
            clear hb3
            go_wp2_with fail
            refine (HD.out _ (HR.out.below HB3.out)).mono ?_
            rintro e w4 ⟨v, rfl, ho4, hb4⟩
            obtain ⟨a, c, rfl⟩ := row_slice ho4
            rw [HLEN.out]
            have HB4 := hide (on_below HB3.out hb4)
            have HG4 := hide (HG3.out.on hb4)
            clear hb4 ho4
            go_wp2_with fail
            refine (HFU.out _).mono ?_
            rintro e w4 ⟨rfl, rfl⟩
            go_wp2_with fail
            refine (HNM.out _).mono ?_
            rintro e w5 ⟨rfl, hb5⟩
            have HB5 := hide (on_below HB4.out hb5)
            have HG5 := hide (HG4.out.on hb5)
            clear hb5
            go_wp2_with fail
            refine (HAL.out _ (HR.out.below HB5.out)).mono ?_
            rintro e w6 ⟨rfl, hb6⟩
            have HB6 := hide (on_below HB5.out hb6)
            have HG6 := hide (HG5.out.on hb6)
            clear hb6
            go_wp2_with fail
            refine (HCR.out _ (HR.out.below HB6.out)).mono ?_
            rintro e w7 ⟨rfl, ho⟩
            have hsa := hsa g1
            obtain ⟨R1, a1, a2, a3, a4⟩ := ho
            have hown : ¬ R.own r g1 := fun hk => by
              have h1 := HR.out.lt (.inl hk)
              have h2 := HG1.out.2
              omega
            have hg7 := HG6.out.chs a2 (fun hk => hown hk)
            have hsl := hg7.sl0 HXB.out (by rw [HX.out]; decide)
            rw [HX.out] at hsl
            have HSL := hide hsl
            have HA1 := hide a1
            have HOF : Hid (∀ y : Addr, some (⟨g1, 0, none⟩ : Addr) = some y → ¬ R1.own r y.block ∧ y.block < w7.heap.size) := hide (fun y hy => by
              injection hy with hy
              subst hy
              refine ⟨fun hk => ?_, hg7.lt⟩
              rcases a3 g1 hk with h1 | h1
              · exact hown h1
              · have := HG6.out.lt; omega)
            have HOC : Hid (∀ w8 : World, RoP w7 w8 r s R1 (puW s rs nm x) → RoP w w8 r s R (puW s rs nm x)) := hide (fun w8 h8 => RoP.pre HB6.out (RoP.comp a2 a3 a4 h8))
            clear a1 a2 a3 a4 hown hg7 hsl
            go_wp2_with fail
            refine (HAP.out _ _ _ HA1.out HSL.out HOF.out).mono ?_
            rintro e w8 ⟨rfl, ho8⟩
            go_wp2
            go_ret
            exact ⟨rfl, HOC.out _ ho8⟩
          | some ys =>
            rw [hp] at HAL
            simp only [Option.isSome_some] at HAL
            have hcs := crS_some hnm hp
            rw [hcs] at HAP
            generalize str (fl (play rs) nm) = S at HAL
            clear he hn hcn hv hb hr he2 hq hvc e1 hnw hqn htn htl hre h0 hfu hnmc hfe hwc hp hcs hx hxb hwt hnm hh hL hP
            go_enter Tryz.func10, Tryz.ntmps10
            go_wp2_with (refine step_box (cs := u8s x) rfl rfl ?_; intro w1 g1 hg1 hle1 hb1; have HG1 := hide (And.intro hg1 hle1); have HB1 := hide hb1; clear hg1 hle1 hb1)
            refine (HL.out _).mono ?_
            rintro e w2 ⟨rfl, hb2⟩
            have HB2 := hide (on_below HB1.out hb2)
            have HG2 := hide (HG1.out.1.on hb2)
            clear hb2
            go_wp2_with fail
            refine (HV.out _).mono ?_
            rintro e w3 ⟨rfl, hb3⟩
            have HB3 := hide (on_below HB2.out hb3)
            have HG3 := hide (HG2.out.on hb3)
            clear hb3
            go_wp2_with fail
            refine (HD.out _ (HR.out.below HB3.out)).mono ?_
            rintro e w4 ⟨v, rfl, ho4, hb4⟩
            obtain ⟨a, c, rfl⟩ := row_slice ho4
            rw [HLEN.out]
            have HB4 := hide (on_below HB3.out hb4)
            have HG4 := hide (HG3.out.on hb4)
            clear hb4 ho4
            go_wp2_with fail
            refine (HFU.out _).mono ?_
            rintro e w4 ⟨rfl, rfl⟩
            go_wp2_with fail
            refine (HNM.out _).mono ?_
            rintro e w5 ⟨rfl, hb5⟩
            have HB5 := hide (on_below HB4.out hb5)
            have HG5 := hide (HG4.out.on hb5)
            clear hb5
            go_wp2_with fail
            refine (HAL.out _ (HR.out.below HB5.out)).mono ?_
            rintro e w6 ⟨rfl, hb6⟩
            have HB6 := hide (on_below HB5.out hb6)
            have HG6 := hide (HG5.out.on hb6)
            clear hb6
            have ho : RoP w6 w6 r s R rs := RoP.below (HR.out.below HB6.out) (Below.refl _ _)
            obtain ⟨w7, hw7⟩ : ∃ w7, w6 = w7 := ⟨_, rfl⟩
            have hsa := hsa g1
            have hown : ¬ R.own r g1 := fun hk => by
              have h1 := HR.out.lt (.inl hk)
              have h2 := HG1.out.2
              omega
            have hsl := HG6.out.sl0 HXB.out (by rw [HX.out]; decide)
            rw [HX.out] at hsl
            have HSL := hide hsl
            have HOF : Hid (∀ y : Addr, some (⟨g1, 0, none⟩ : Addr) = some y → ¬ R.own r y.block ∧ y.block < w6.heap.size) := hide (fun y hy => by
              injection hy with hy
              subst hy
              exact ⟨hown, HG6.out.lt⟩)
            clear ho hw7 hown hsl
            go_wp2_with fail
            refine (HAP.out _ _ _ (HR.out.below HB6.out) HSL.out HOF.out).mono ?_
            rintro e w8 ⟨rfl, ho8⟩
            go_wp2
            go_ret
            exact ⟨rfl, RoP.pre HB6.out ho8⟩
        · rw [if_neg h0] at hre
          rw [hre, if_neg (by decide)]
          obtain ⟨tn, HTN⟩ : ∃ tn, Hid (LTn (play rs) H L n = tn) := ⟨_, hide rfl⟩
          rw [HTN.out] at HD h0
          have htp : (0 : Int) < (tn : Int) := by omega
          obtain ⟨Z, HZ⟩ : ∃ Z, Hid (32 * n = Z) := ⟨_, hide rfl⟩
          rw [HZ.out] at HLEN hdv hdv2 hnb
          clear he hn hcn hv hb hr he2 hq hvc e1 hnw hqn htn htl hre h0 hx hxb hwt hnm hh hL
          go_enter Tryz.func10, Tryz.ntmps10
          go_wp2_with (refine step_box (cs := u8s x) rfl rfl ?_; intro w1 g1 hg1 hle1 hb1; have HG1 := hide (And.intro hg1 hle1); have HB1 := hide hb1; clear hg1 hle1 hb1)
          refine (HL.out _).mono ?_
          rintro e w2 ⟨rfl, hb2⟩
          have HB2 := hide (on_below HB1.out hb2)
          have HG2 := hide (HG1.out.1.on hb2)
          clear hb2
          go_wp2_with fail
          refine (HV.out _).mono ?_
          rintro e w3 ⟨rfl, hb3⟩
          have HB3 := hide (on_below HB2.out hb3)
          have HG3 := hide (HG2.out.on hb3)
          clear hb3
          go_wp2_with fail
          refine (HD.out _ (HR.out.below HB3.out)).mono ?_
          rintro e w4 ⟨v, rfl, ho4, hb4⟩
          obtain ⟨a, c, rfl⟩ := row_slice ho4
          rw [HLEN.out]
          have HB4 := hide (on_below HB3.out hb4)
          have HG4 := hide (HG3.out.on hb4)
          clear hb4 ho4
          go_wp2
          go_ret
          exact ⟨rfl, RoP.below HR.out HB4.out⟩
      · rw [if_neg hin, if_neg (by decide)]
        obtain ⟨Z, HZ⟩ : ∃ Z, Hid (32 * n = Z) := ⟨_, hide rfl⟩
        rw [HZ.out] at HLEN hdv hdv2 hnb
        generalize LTn (play rs) H L n = tn at HD
        clear he hn hcn hv hb hr he2 hq hvc e1 hnw hx hxb hwt hh hL
        go_enter Tryz.func10, Tryz.ntmps10
        go_wp2_with (refine step_box (cs := u8s x) rfl rfl ?_; intro w1 g1 hg1 hle1 hb1; have HG1 := hide (And.intro hg1 hle1); have HB1 := hide hb1; clear hg1 hle1 hb1)
        refine (HL.out _).mono ?_
        rintro e w2 ⟨rfl, hb2⟩
        have HB2 := hide (on_below HB1.out hb2)
        have HG2 := hide (HG1.out.1.on hb2)
        clear hb2
        go_wp2_with fail
        refine (HV.out _).mono ?_
        rintro e w3 ⟨rfl, hb3⟩
        have HB3 := hide (on_below HB2.out hb3)
        have HG3 := hide (HG2.out.on hb3)
        clear hb3
        go_wp2_with fail
        refine (HD.out _ (HR.out.below HB3.out)).mono ?_
        rintro e w4 ⟨v, rfl, ho4, hb4⟩
        obtain ⟨a, c, rfl⟩ := row_slice ho4
        rw [HLEN.out]
        have HB4 := hide (on_below HB3.out hb4)
        have HG4 := hide (HG3.out.on hb4)
        clear hb4 ho4
        go_wp2
        go_ret
        exact ⟨rfl, RoP.below HR.out HB4.out⟩
    · obtain rfl : q = false := by
        cases q with
        | false => rfl
        | true => exact absurd (hq.1 rfl) he2
      have e1 : puE rs (H : Int) (L : Int) i n = 2 := by
        unfold puE
        simp only [Int.toNat_natCast]
        rw [if_pos he, if_neg he2]
      unfold puS
      rw [e1, if_neg (by decide)]
      clear he hn hcn hv hb hr he2 hq hvc e1 hx hxb hwt hh hL
      go_enter Tryz.func10, Tryz.ntmps10
      go_wp2_with (refine step_box (cs := u8s x) rfl rfl ?_; intro w1 g1 hg1 hle1 hb1; have HG1 := hide (And.intro hg1 hle1); have HB1 := hide hb1; clear hg1 hle1 hb1)
      refine (HL.out _).mono ?_
      rintro e w2 ⟨rfl, hb2⟩
      have HB2 := hide (on_below HB1.out hb2)
      have HG2 := hide (HG1.out.1.on hb2)
      clear hb2
      go_wp2_with fail
      refine (HV.out _).mono ?_
      rintro e w3 ⟨rfl, hb3⟩
      have HB3 := hide (on_below HB2.out hb3)
      have HG3 := hide (HG2.out.on hb3)
      clear hb3
      go_wp2
      go_ret
      exact ⟨rfl, RoP.below HR.out HB3.out⟩
  · obtain ⟨hb, e2⟩ := lvl_bad he
    have e1 : puE rs h l i n = 2 := by unfold puE; rw [if_neg he]
    unfold puS
    rw [e1, if_neg (by decide)]
    rw [hb] at HL
    clear he hn e2 hb hr e1 hx hxb hwt
    go_enter Tryz.func10, Tryz.ntmps10
    go_wp2_with (refine step_box (cs := u8s x) rfl rfl ?_; intro w1 g1 hg1 hle1 hb1; have HG1 := hide (And.intro hg1 hle1); have HB1 := hide hb1; clear hg1 hle1 hb1)
    refine (HL.out _).mono ?_
    rintro e w2 ⟨rfl, hb2⟩
    have HB2 := hide (on_below HB1.out hb2)
    have HG2 := hide (HG1.out.1.on hb2)
    clear hb2
    go_wp2
    go_ret
    exact ⟨rfl, RoP.below HR.out HB2.out⟩
end

end Go.Proofs.YtlgcjdgcgnlcaaaGreatDoor

/-
  Read: a tile's bytes.
-/
namespace Go.Proofs.YtlgcjdgcgnlcaaaGreatDoor
open Go.RowKit Go.Shelf
set_option linter.unusedVariables false
set_option linter.unusedSimpArgs false
set_option maxRecDepth 100000

theorem Own.downS {w : World} {B B' : Nat} {v : Value} {xs : List Int} (h : Own w B v xs) (hB : B' ≤ B) : Own w B' v xs := by
  obtain ⟨h1, h2⟩ := h
  refine ⟨h1, ?_⟩
  rcases h2 with h2 | ⟨g, cap, cur, e, hg, r⟩
  · exact .inl h2
  · exact .inr ⟨g, cap, cur, e, Nat.le_trans hB hg, r⟩
/-- Is a tile's file there, with bytes enough? -/
def fitT (rs : List Rw) (h l i n : Int) : Prop := smE h l i = 0 ∧ fE rs (bA (smP h l i)) = 0 ∧ n * 32 ≤ ((fl (play rs) (bA (smP h l i))).length : Int)
/-- What Read tells of a tile. -/
def RdR (rs : List Rw) (h l i n e : Int) (bs : List Int) : Prop :=
  (e = 2 ∧ ¬ tOK h l i n ∧ bs = []) ∨ (e = 121 ∧ tOK h l i n ∧ ¬ fitT rs h l i n ∧ bs = []) ∨ (e = 0 ∧ tOK h l i n ∧ fitT rs h l i n ∧ bs = (fl (play rs) (bA (smP h l i))).take (n * 32).toNat)
theorem RdR.uniq {rs : List Rw} {h l i n e e' : Int} {bs bs' : List Int} (a : RdR rs h l i n e bs) (b : RdR rs h l i n e' bs') : e = e' ∧ bs = bs' := by
  rcases a with ⟨rfl, a1, rfl⟩ | ⟨rfl, a1, a2, rfl⟩ | ⟨rfl, a1, a2, rfl⟩ <;> rcases b with ⟨rfl, b1, rfl⟩ | ⟨rfl, b1, b2, rfl⟩ | ⟨rfl, b1, b2, rfl⟩ <;> first | exact ⟨rfl, rfl⟩ | (exfalso; contradiction)
set_option maxHeartbeats 2000000 in
theorem readT_any (rs : List Rw) (h l i n : Int) (hl : l ≤ 9223372036854775807) (hi : i ≤ 9223372036854775807) (hwt : wt rs ≤ 1099511000000) : ∃ (e : Int) (bs : List Int), RdR rs h l i n e bs ∧ ∀ (d s : Nat) (D : Dm) (w : World), DkAt w d s rs D → PT w →
    Calls Tryz.prog 13 #[.pointer (some ⟨d, 0, none⟩), .agg (c4 h l i n).toArray] w fun r w' => ∃ v, r = .returned (.tuple #[v, .int .i64 e]) ∧ Own w' w.heap.size v bs ∧ Below w.heap.size w w' := by
  obtain ⟨q, hq, hv⟩ := validT_any h l i n hl hi
  have HV := hide hv
  clear hv
  cases q with
  | false =>
    have hk : ¬ tOK h l i n := fun k => by simpa using hq.2 k
    refine ⟨2, [], .inl ⟨rfl, hk, rfl⟩, fun d s D w hd ht => ?_⟩
    have HD := hide hd
    have HMD := hide (fun W hW => madeS_any d s rs D W hW)
    clear hd ht hq hk
    go_enter Tryz.func13, Tryz.ntmps13
    go_wp2_with (first | (refine step_box (cs := c4 h l i n) rfl rfl ?_; intro w1 g1 hg1 hle1 hb1; have HG1 := hide hg1; have HB1 := hide hb1; clear hg1 hle1 hb1) | (go_at_call 45; refine (HMD.out _ (HD.out.below HB1.out)).mono ?_; rintro r w2 ⟨rfl, rfl⟩) | (refine step_loadA wT rfl rfl HG1.out rfl ?_))
    refine (HV.out _).mono ?_
    rintro r w3 ⟨rfl, hb3⟩
    have HB3 := hide (on_below HB1.out hb3)
    have HG3 := hide (HG1.out.on hb3)
    obtain ⟨c0, c1, c2, c3⟩ := HG3.out.four
    clear hb3
    go_wp2
    go_ret2
    exact ⟨_, rfl, Own.nil _ _, HB3.out⟩
  | true =>
    have hk : tOK h l i n := hq.1 rfl
    obtain ⟨hn1, hn2⟩ := hk.n_bd
    have hw32 : wrap64 (n * 32) = n * 32 := by unfold wrap64; omega
    have hNM := fun (W : World) (hW : PT W) => sname_any h l i W hl hi hW
    by_cases h1 : smE h l i = 0
    · rw [h1] at hNM
      have hnm := smE_nm h1
      by_cases h2 : fE rs (bA (smP h l i)) = 0
      · have hxl := play_wt rs (bA (smP h l i))
        have hRD : ∀ (d s : Nat) (D : Dm) (W : World), DkAt W d s rs D → Calls Tryz.prog 47 #[.pointer (some ⟨d, 0, none⟩), .string (bA (smP h l i)), .int .i64 0, .int .i64 (n * 32)] W fun e w' => ∃ v, e = .returned (.tuple #[v, .int .i64 0]) ∧ Own w' W.heap.size v ((fl (play rs) (bA (smP h l i))).take (n * 32).toNat) ∧ Below W.heap.size W w' := fun d s D W hW => by
          have e1 : rqE rs (bA (smP h l i)) 0 (n * 32) = 0 := by unfold rqE; rw [if_pos h2, if_neg (by omega)]
          have e2 : rqB rs (bA (smP h l i)) 0 (n * 32) = (fl (play rs) (bA (smP h l i))).take (n * 32).toNat := by
            unfold rqB
            rw [if_pos e1]
            simp only [Int.toNat_zero, List.drop_zero, Nat.sub_zero]
            rw [← List.take_take, List.take_of_length_le (Nat.le_refl _)]
          have := read_any d s rs D W hW (bA (smP h l i)) 0 (n * 32) hwt
          rw [e1, e2] at this
          exact this
        by_cases h3 : n * 32 ≤ ((fl (play rs) (bA (smP h l i))).length : Int)
        · refine ⟨0, _, .inr (.inr ⟨rfl, hk, ⟨h1, h2, h3⟩, rfl⟩), fun d s D w hd ht => ?_⟩
          have hlen : ((fl (play rs) (bA (smP h l i))).take (n * 32).toNat).length = (n * 32).toNat := by rw [List.length_take]; omega
          have HLE := hide hlen
          have HRD := hide (hRD d s D)
          have HNM := hide hNM
          have HD := hide hd
          have HT := hide ht
          have HMD := hide (fun W hW => madeS_any d s rs D W hW)
          generalize (fl (play rs) (bA (smP h l i))).take (n * 32).toNat = bs at *
          generalize bA (smP h l i) = nm at *
          have hge : ¬ (((n * 32).toNat : Nat) : Int) < n * 32 := by omega
          clear hd ht hq hk h1 h2 h3 hlen hRD hNM hnm hwt hxl
          go_enter Tryz.func13, Tryz.ntmps13
          go_wp2_with (first | (refine step_box (cs := c4 h l i n) rfl rfl ?_; intro w1 g1 hg1 hle1 hb1; have HG1 := hide hg1; have HB1 := hide hb1; clear hg1 hle1 hb1) | (go_at_call 45; refine (HMD.out _ (HD.out.below HB1.out)).mono ?_; rintro r w2 ⟨rfl, rfl⟩) | (refine step_loadA wT rfl rfl HG1.out rfl ?_))
          refine (HV.out _).mono ?_
          rintro r w3 ⟨rfl, hb3⟩
          have HB3 := hide (on_below HB1.out hb3)
          have HG3 := hide (HG1.out.on hb3)
          obtain ⟨c0, c1, c2, c3⟩ := HG3.out.four
          clear hb3
          go_wp2_with fail
          refine (HNM.out _ (HT.out.below HB3.out)).mono ?_
          rintro r w4 ⟨rfl, hb4⟩
          have HB4 := hide (on_below HB3.out hb4)
          have HG4 := hide (HG3.out.on hb4)
          clear c0 c1 c2 c3
          obtain ⟨c0, c1, c2, c3⟩ := HG4.out.four
          clear hb4
          go_wp2_with fail
          refine (HRD.out _ (HD.out.below HB4.out)).mono ?_
          rintro r w5 ⟨v, rfl, ho5, hb5⟩
          have HB5 := hide (on_below HB4.out hb5)
          have HO5 := hide (ho5.downS HB4.out.size)
          clear c0 c1 c2 c3
          obtain ⟨c0, c1, c2, c3⟩ := (HG4.out.on hb5).four
          clear ho5 hb5
          obtain ⟨va, vc, rfl⟩ := HO5.out.slice
          rw [HLE.out]
          go_wp2
          go_ret2
          refine ⟨_, rfl, ?_, HB5.out⟩
          have := HO5.out
          rw [HLE.out] at this
          exact this
        · refine ⟨121, [], .inr (.inl ⟨rfl, hk, fun hf => h3 hf.2.2, rfl⟩), fun d s D w hd ht => ?_⟩
          have hlen : (((fl (play rs) (bA (smP h l i))).take (n * 32).toNat).length : Int) < n * 32 := by rw [List.length_take]; omega
          have hlb : ((fl (play rs) (bA (smP h l i))).take (n * 32).toNat).length ≤ 1099511000000 := by rw [List.length_take]; omega
          have HRD := hide (hRD d s D)
          have HNM := hide hNM
          have HD := hide hd
          have HT := hide ht
          have HMD := hide (fun W hW => madeS_any d s rs D W hW)
          generalize (fl (play rs) (bA (smP h l i))).take (n * 32).toNat = bs at *
          generalize bA (smP h l i) = nm at *
          clear hd ht hq hk h1 h2 h3 hRD hNM hnm hwt hxl
          go_enter Tryz.func13, Tryz.ntmps13
          go_wp2_with (first | (refine step_box (cs := c4 h l i n) rfl rfl ?_; intro w1 g1 hg1 hle1 hb1; have HG1 := hide hg1; have HB1 := hide hb1; clear hg1 hle1 hb1) | (go_at_call 45; refine (HMD.out _ (HD.out.below HB1.out)).mono ?_; rintro r w2 ⟨rfl, rfl⟩) | (refine step_loadA wT rfl rfl HG1.out rfl ?_))
          refine (HV.out _).mono ?_
          rintro r w3 ⟨rfl, hb3⟩
          have HB3 := hide (on_below HB1.out hb3)
          have HG3 := hide (HG1.out.on hb3)
          obtain ⟨c0, c1, c2, c3⟩ := HG3.out.four
          clear hb3
          go_wp2_with fail
          refine (HNM.out _ (HT.out.below HB3.out)).mono ?_
          rintro r w4 ⟨rfl, hb4⟩
          have HB4 := hide (on_below HB3.out hb4)
          have HG4 := hide (HG3.out.on hb4)
          clear c0 c1 c2 c3
          obtain ⟨c0, c1, c2, c3⟩ := HG4.out.four
          clear hb4
          go_wp2_with fail
          refine (HRD.out _ (HD.out.below HB4.out)).mono ?_
          rintro r w5 ⟨v, rfl, ho5, hb5⟩
          have HB5 := hide (on_below HB4.out hb5)
          have HO5 := hide (ho5.downS HB4.out.size)
          clear c0 c1 c2 c3
          obtain ⟨c0, c1, c2, c3⟩ := (HG4.out.on hb5).four
          clear ho5 hb5
          obtain ⟨va, vc, rfl⟩ := HO5.out.slice
          generalize bs.length = bl at *
          go_wp2
          go_ret2
          exact ⟨_, rfl, Own.nil _ _, HB5.out⟩
      · have hbad : fE rs (bA (smP h l i)) = 121 := by
          unfold fE at h2 ⊢
          rw [if_pos hnm] at h2 ⊢
          split
          · rename_i hp; rw [if_pos hp] at h2; exact absurd rfl h2
          · rfl
        refine ⟨121, [], .inr (.inl ⟨rfl, hk, fun hf => h2 hf.2.1, rfl⟩), fun d s D w hd ht => ?_⟩
        have hRD : ∀ (W : World), DkAt W d s rs D → Calls Tryz.prog 47 #[.pointer (some ⟨d, 0, none⟩), .string (bA (smP h l i)), .int .i64 0, .int .i64 (n * 32)] W fun e w' => ∃ v, e = .returned (.tuple #[v, .int .i64 121]) ∧ Own w' W.heap.size v [] ∧ Below W.heap.size W w' := fun W hW => by
          have e1 : rqE rs (bA (smP h l i)) 0 (n * 32) = 121 := by unfold rqE; rw [if_neg (by rw [hbad]; decide), hbad]
          have e2 : rqB rs (bA (smP h l i)) 0 (n * 32) = [] := by unfold rqB; rw [if_neg (by rw [e1]; decide)]
          have := read_any d s rs D W hW (bA (smP h l i)) 0 (n * 32) hwt
          rw [e1, e2] at this
          exact this
        have HRD := hide hRD
        have HNM := hide hNM
        have HD := hide hd
        have HT := hide ht
        have HMD := hide (fun W hW => madeS_any d s rs D W hW)
        generalize bA (smP h l i) = nm at *
        clear hd ht hq hk h1 h2 hRD hNM hnm hwt hbad
        go_enter Tryz.func13, Tryz.ntmps13
        go_wp2_with (first | (refine step_box (cs := c4 h l i n) rfl rfl ?_; intro w1 g1 hg1 hle1 hb1; have HG1 := hide hg1; have HB1 := hide hb1; clear hg1 hle1 hb1) | (go_at_call 45; refine (HMD.out _ (HD.out.below HB1.out)).mono ?_; rintro r w2 ⟨rfl, rfl⟩) | (refine step_loadA wT rfl rfl HG1.out rfl ?_))
        refine (HV.out _).mono ?_
        rintro r w3 ⟨rfl, hb3⟩
        have HB3 := hide (on_below HB1.out hb3)
        have HG3 := hide (HG1.out.on hb3)
        obtain ⟨c0, c1, c2, c3⟩ := HG3.out.four
        clear hb3
        go_wp2_with fail
        refine (HNM.out _ (HT.out.below HB3.out)).mono ?_
        rintro r w4 ⟨rfl, hb4⟩
        have HB4 := hide (on_below HB3.out hb4)
        have HG4 := hide (HG3.out.on hb4)
        clear c0 c1 c2 c3
        obtain ⟨c0, c1, c2, c3⟩ := HG4.out.four
        clear hb4
        go_wp2_with fail
        refine (HRD.out _ (HD.out.below HB4.out)).mono ?_
        rintro r w5 ⟨v, rfl, ho5, hb5⟩
        have HB5 := hide (on_below HB4.out hb5)
        have HO5 := hide (ho5.downS HB4.out.size)
        clear c0 c1 c2 c3
        obtain ⟨c0, c1, c2, c3⟩ := (HG4.out.on hb5).four
        clear ho5 hb5
        go_wp2
        go_ret2
        exact ⟨_, rfl, Own.nil _ _, HB5.out⟩
    · have h1' : smE h l i = 2 := by rcases smE_bin h l i with h | h; exact absurd h h1; exact h
      refine ⟨121, [], .inr (.inl ⟨rfl, hk, fun hf => h1 hf.1, rfl⟩), fun d s D w hd ht => ?_⟩
      rw [h1'] at hNM
      have HNM := hide hNM
      have HD := hide hd
      have HT := hide ht
      have HMD := hide (fun W hW => madeS_any d s rs D W hW)
      generalize bA (smP h l i) = nm at *
      clear hd ht hq hk h1 h1' hNM hwt
      go_enter Tryz.func13, Tryz.ntmps13
      go_wp2_with (first | (refine step_box (cs := c4 h l i n) rfl rfl ?_; intro w1 g1 hg1 hle1 hb1; have HG1 := hide hg1; have HB1 := hide hb1; clear hg1 hle1 hb1) | (go_at_call 45; refine (HMD.out _ (HD.out.below HB1.out)).mono ?_; rintro r w2 ⟨rfl, rfl⟩) | (refine step_loadA wT rfl rfl HG1.out rfl ?_))
      refine (HV.out _).mono ?_
      rintro r w3 ⟨rfl, hb3⟩
      have HB3 := hide (on_below HB1.out hb3)
      have HG3 := hide (HG1.out.on hb3)
      obtain ⟨c0, c1, c2, c3⟩ := HG3.out.four
      clear hb3
      go_wp2_with fail
      refine (HNM.out _ (HT.out.below HB3.out)).mono ?_
      rintro r w4 ⟨rfl, hb4⟩
      have HB4 := hide (on_below HB3.out hb4)
      have HG4 := hide (HG3.out.on hb4)
      clear c0 c1 c2 c3
      obtain ⟨c0, c1, c2, c3⟩ := HG4.out.four
      clear hb4
      go_wp2
      go_ret2
      exact ⟨_, rfl, Own.nil _ _, HB4.out⟩

end Go.Proofs.YtlgcjdgcgnlcaaaGreatDoor

/-
  The document's Read of a tile.
-/
namespace Go.Proofs.YtlgcjdgcgnlcaaaGreatDoor
open Go.RowKit Go.Shelf
set_option linter.unusedVariables false
set_option linter.unusedSimpArgs false
set_option maxRecDepth 100000

section
variable (r s : Nat) (rs : List Rw) (R : Rm) (w : World) (hr : RkAt w r s rs R)
include hr
set_option maxHeartbeats 2000000 in
theorem readL_any (h l i n : Int) (hwt : wt rs ≤ 1099511000000) : ∃ (e : Int) (bs : List Int), RdR rs h l i n e bs ∧ Calls Tryz.prog 14 #[.pointer (some ⟨r, 0, none⟩), .agg (c4 h l i n).toArray] w fun x w' => x = .returned (.tuple #[.string (str bs), .int .i64 e]) ∧ Below w.heap.size w w' := by
  obtain ⟨q, hq, hv⟩ := validTR_any h l i n
  have HV := hide hv
  have HR := hide hr
  have hval := hr.val
  clear hv hr
  cases q with
  | false =>
    have hk : ¬ tOK h l i n := fun k => by simpa using hq.2 k
    refine ⟨2, [], .inl ⟨rfl, hk, rfl⟩, ?_⟩
    clear hq hk
    go_enter Tryz.func14, Tryz.ntmps14
    go_wp2_with (first | (refine step_box (cs := c4 h l i n) rfl rfl ?_; intro w1 g1 hg1 hle1 hb1; have HG1 := hide hg1; have HB1 := hide hb1; clear hg1 hle1 hb1) | (refine step_loadA wT rfl rfl HG1.out rfl ?_))
    refine (HV.out _).mono ?_
    rintro e w3 ⟨rfl, hb3⟩
    have HB3 := hide (on_below HB1.out hb3)
    have HG3 := hide (HG1.out.on hb3)
    obtain ⟨c0, c1, c2, c3⟩ := HG3.out.four
    clear hb3
    go_wp2
    go_ret2
    exact ⟨rfl, HB3.out⟩
  | true =>
    have hk : tOK h l i n := hq.1 rfl
    obtain ⟨hn1, hn2⟩ := hk.n_bd
    have hw32 : wrap64 (32 * n) = 32 * n := by unfold wrap64; omega
    have HNM := hide (fun (W : World) => snameR_any h l i W)
    have HAL : Hid (∀ W : World, RkAt W r s rs R → Calls Tryz.prog 37 #[.pointer (some ⟨r, 0, none⟩), .string (bA (smP h l i))] W fun e w' => e = .returned (.tuple #[.string (str (fl (play rs) (bA (smP h l i)))), .bool (play rs (bA (smP h l i))).isSome]) ∧ Below W.heap.size W w') := hide (fun W hW => all_any r s rs R W hW (bA (smP h l i)) hwt)
    have hxl := play_wt rs (bA (smP h l i))
    have hfe : smE h l i = 0 → (fE rs (bA (smP h l i)) = 0 ↔ (play rs (bA (smP h l i))).isSome = true) := fun h1 => by
      unfold fE
      rw [if_pos (smE_nm h1)]
      split
      · rename_i hp; simp [hp]
      · rename_i hp; simp [hp]
    by_cases h1 : smE h l i = 0
    · rw [h1] at HNM
      have hfe := hfe h1
      cases hp : (play rs (bA (smP h l i))).isSome with
      | true =>
        rw [hp] at HAL
        have h2 := hfe.2 hp
        by_cases h3 : n * 32 ≤ ((fl (play rs) (bA (smP h l i))).length : Int)
        · refine ⟨0, _, .inr (.inr ⟨rfl, hk, ⟨h1, h2, h3⟩, rfl⟩), ?_⟩
          have HCUT := hide (fun W => cut_str (fl (play rs) (bA (smP h l i))) (32 * n) (by omega) (by omega) W)
          have e3 : (n * 32).toNat = (32 * n).toNat := by omega
          rw [e3]
          have hsz := str_size (fl (play rs) (bA (smP h l i)))
          obtain ⟨m, hm⟩ : ∃ m, (fl (play rs) (bA (smP h l i))).length = m := ⟨_, rfl⟩
          rw [hm] at hsz h3 hxl
          have hge : ¬ (m : Int) < 32 * n := by omega
          obtain ⟨Y, HY⟩ : ∃ Y, Hid (str ((fl (play rs) (bA (smP h l i))).take (32 * n).toNat) = Y) := ⟨_, hide rfl⟩
          rw [HY.out] at HCUT ⊢
          have hcut := HCUT.out
          obtain ⟨X, HX⟩ : ∃ X, Hid (str (fl (play rs) (bA (smP h l i))) = X) := ⟨_, hide rfl⟩
          rw [HX.out] at hcut HAL hsz
          generalize bA (smP h l i) = nm at *
          clear hq hk h1 h2 h3 hfe hp e3 hm hval HCUT
          obtain ⟨z, HZ⟩ : ∃ z, Hid (32 * n = z) := ⟨_, hide rfl⟩
          go_enter Tryz.func14, Tryz.ntmps14
          go_wp2_with (first | (refine step_box (cs := c4 h l i n) rfl rfl ?_; intro w1 g1 hg1 hle1 hb1; have HG1 := hide hg1; have HB1 := hide hb1; clear hg1 hle1 hb1) | (refine step_loadA wT rfl rfl HG1.out rfl ?_))
          refine (HV.out _).mono ?_
          rintro e w3 ⟨rfl, hb3⟩
          have HB3 := hide (on_below HB1.out hb3)
          have HG3 := hide (HG1.out.on hb3)
          obtain ⟨c0, c1, c2, c3⟩ := HG3.out.four
          clear hb3
          go_wp2_with fail
          refine (HNM.out _).mono ?_
          rintro e w4 ⟨rfl, hb4⟩
          have HB4 := hide (on_below HB3.out hb4)
          have HG4 := hide (HG3.out.on hb4)
          clear c0 c1 c2 c3 hb4
          go_wp2_with fail
          refine (HAL.out _ (HR.out.below HB4.out)).mono ?_
          rintro e w5 ⟨rfl, hb5⟩
          have HB5 := hide (on_below HB4.out hb5)
          obtain ⟨c0, c1, c2, c3⟩ := (HG4.out.on hb5).four
          clear hb5
          go_wp2
          go_ret2
          exact ⟨rfl, HB5.out⟩
        · refine ⟨121, [], .inr (.inl ⟨rfl, hk, fun hf => h3 hf.2.2, rfl⟩), ?_⟩
          have hsz := str_size (fl (play rs) (bA (smP h l i)))
          obtain ⟨m, hm⟩ : ∃ m, (fl (play rs) (bA (smP h l i))).length = m := ⟨_, rfl⟩
          rw [hm] at hsz h3 hxl
          have hge : (m : Int) < 32 * n := by omega
          obtain ⟨X, HX⟩ : ∃ X, Hid (str (fl (play rs) (bA (smP h l i))) = X) := ⟨_, hide rfl⟩
          rw [HX.out] at HAL hsz
          generalize bA (smP h l i) = nm at *
          clear hq hk h1 h2 h3 hfe hp hm hval
          go_enter Tryz.func14, Tryz.ntmps14
          go_wp2_with (first | (refine step_box (cs := c4 h l i n) rfl rfl ?_; intro w1 g1 hg1 hle1 hb1; have HG1 := hide hg1; have HB1 := hide hb1; clear hg1 hle1 hb1) | (refine step_loadA wT rfl rfl HG1.out rfl ?_))
          refine (HV.out _).mono ?_
          rintro e w3 ⟨rfl, hb3⟩
          have HB3 := hide (on_below HB1.out hb3)
          have HG3 := hide (HG1.out.on hb3)
          obtain ⟨c0, c1, c2, c3⟩ := HG3.out.four
          clear hb3
          go_wp2_with fail
          refine (HNM.out _).mono ?_
          rintro e w4 ⟨rfl, hb4⟩
          have HB4 := hide (on_below HB3.out hb4)
          have HG4 := hide (HG3.out.on hb4)
          clear c0 c1 c2 c3 hb4
          go_wp2_with fail
          refine (HAL.out _ (HR.out.below HB4.out)).mono ?_
          rintro e w5 ⟨rfl, hb5⟩
          have HB5 := hide (on_below HB4.out hb5)
          obtain ⟨c0, c1, c2, c3⟩ := (HG4.out.on hb5).four
          clear hb5
          go_wp2
          go_ret2
          exact ⟨rfl, HB5.out⟩
      | false =>
        rw [hp] at HAL
        refine ⟨121, [], .inr (.inl ⟨rfl, hk, (fun hf => by have := hfe.1 hf.2.1; rw [hp] at this; cases this), rfl⟩), ?_⟩
        generalize str (fl (play rs) (bA (smP h l i))) = X at *
        generalize bA (smP h l i) = nm at *
        clear hq hk h1 hfe hp hval hxl
        go_enter Tryz.func14, Tryz.ntmps14
        go_wp2_with (first | (refine step_box (cs := c4 h l i n) rfl rfl ?_; intro w1 g1 hg1 hle1 hb1; have HG1 := hide hg1; have HB1 := hide hb1; clear hg1 hle1 hb1) | (refine step_loadA wT rfl rfl HG1.out rfl ?_))
        refine (HV.out _).mono ?_
        rintro e w3 ⟨rfl, hb3⟩
        have HB3 := hide (on_below HB1.out hb3)
        have HG3 := hide (HG1.out.on hb3)
        obtain ⟨c0, c1, c2, c3⟩ := HG3.out.four
        clear hb3
        go_wp2_with fail
        refine (HNM.out _).mono ?_
        rintro e w4 ⟨rfl, hb4⟩
        have HB4 := hide (on_below HB3.out hb4)
        have HG4 := hide (HG3.out.on hb4)
        clear c0 c1 c2 c3 hb4
        go_wp2_with fail
        refine (HAL.out _ (HR.out.below HB4.out)).mono ?_
        rintro e w5 ⟨rfl, hb5⟩
        have HB5 := hide (on_below HB4.out hb5)
        obtain ⟨c0, c1, c2, c3⟩ := (HG4.out.on hb5).four
        clear hb5
        go_wp2
        go_ret2
        exact ⟨rfl, HB5.out⟩
    · have h2 : smE h l i = 2 := by rcases smE_bin h l i with h | h; exact absurd h h1; exact h
      rw [h2] at HNM
      refine ⟨121, [], .inr (.inl ⟨rfl, hk, fun hf => h1 hf.1, rfl⟩), ?_⟩
      generalize (play rs (bA (smP h l i))).isSome = q at *
      generalize str (fl (play rs) (bA (smP h l i))) = X at *
      generalize bA (smP h l i) = nm at *
      clear hq hk h1 h2 hfe hval hxl
      go_enter Tryz.func14, Tryz.ntmps14
      go_wp2_with (first | (refine step_box (cs := c4 h l i n) rfl rfl ?_; intro w1 g1 hg1 hle1 hb1; have HG1 := hide hg1; have HB1 := hide hb1; clear hg1 hle1 hb1) | (refine step_loadA wT rfl rfl HG1.out rfl ?_))
      refine (HV.out _).mono ?_
      rintro e w3 ⟨rfl, hb3⟩
      have HB3 := hide (on_below HB1.out hb3)
      have HG3 := hide (HG1.out.on hb3)
      obtain ⟨c0, c1, c2, c3⟩ := HG3.out.four
      clear hb3
      go_wp2_with fail
      refine (HNM.out _).mono ?_
      rintro e w4 ⟨rfl, hb4⟩
      have HB4 := hide (on_below HB3.out hb4)
      have HG4 := hide (HG3.out.on hb4)
      clear c0 c1 c2 c3 hb4
      go_wp2_with fail
      refine (HAL.out _ (HR.out.below HB4.out)).mono ?_
      rintro e w5 ⟨rfl, hb5⟩
      have HB5 := hide (on_below HB4.out hb5)
      obtain ⟨c0, c1, c2, c3⟩ := (HG4.out.on hb5).four
      clear hb5
      go_wp2
      go_ret2
      exact ⟨rfl, HB5.out⟩
end

end Go.Proofs.YtlgcjdgcgnlcaaaGreatDoor

/-
  Trim: the files behind are removed, the one that the digest lies in is cut.
-/
namespace Go.Proofs.YtlgcjdgcgnlcaaaGreatDoor
open Go.RowKit Go.Shelf
set_option linter.unusedVariables false
set_option linter.unusedSimpArgs false
set_option maxRecDepth 100000

/-- What Trim tells where the digest is there. -/
def tmE (H L n : Nat) (rs : List Rw) (is : List Nat) : Int := if n % 2 ^ H = 0 then 0 else cuE (trR H L rs is) (sN H L (n / 2 ^ H)) (((n % 2 ^ H) * 32 : Nat) : Int)
theorem Cn.cutAt {F : ByteArray → Option (List Int)} (hF : Nmd F) {h l c n : Nat} (k : Cn F h l c) (hn : n ≤ c) (h0 : n % 2 ^ h ≠ 0) : tFB h l (n / 2 ^ h) = true ∧ 32 * (n % 2 ^ h) ≤ (fl F (sN h l (n / 2 ^ h))).length := by
  have hp := Nat.two_pow_pos h
  have e := Nat.div_add_mod n (2 ^ h)
  have hm := Nat.mod_lt n hp
  have hj := k.1 (2 ^ h * (n / 2 ^ h) + (n % 2 ^ h - 1)) (by omega)
  unfold hasD at hj
  rw [Nat.mul_add_mod, Nat.mul_add_div hp, Nat.mod_eq_of_lt (show n % 2 ^ h - 1 < 2 ^ h by omega), Nat.div_eq_of_lt (show n % 2 ^ h - 1 < 2 ^ h by omega)] at hj
  simp only [decide_eq_true_eq, Nat.add_zero] at hj
  rw [show n % 2 ^ h - 1 + 1 = n % 2 ^ h by omega] at hj
  refine ⟨?_, by omega⟩
  cases hb : tFB h l (n / 2 ^ h) with
  | true => rfl
  | false =>
    rw [fl_none (hF _ (sN_no hb))] at hj
    simp at hj
    omega
theorem trR_fE {H L n k q : Nat} {js : List Nat} {rs : List Rw} (hi : TrI (play rs) H L n js) (hq : js[k]? = some q) : fE (trR H L rs (js.take k)) (sN H L q) = 0 := by
  obtain ⟨h1, h2, _⟩ := (hi.mem q).1 (List.mem_of_getElem? hq)
  have hnot : sN H L q ∉ (js.take k).map (sN H L) := by
    intro hm
    obtain ⟨i, hi2, he⟩ := List.mem_map.1 hm
    have e3 := (sN_inj h1 he.symm).2.2
    obtain ⟨j, hj, e⟩ := List.mem_iff_getElem.1 hi2
    rw [List.getElem_take] at e
    rw [List.length_take] at hj
    obtain ⟨hk, e2⟩ := List.getElem?_eq_some_iff.1 hq
    have := List.pairwise_iff_getElem.1 hi.desc j k (by omega) hk (by omega)
    omega
  obtain ⟨ys, hy⟩ := Option.isSome_iff_exists.1 h2
  have hp := (trR_play H L rs (js.take k) (sN H L q)).2 hnot
  rw [hy] at hp
  simp [fE, sN_nm h1, hp]
theorem wt_rm (H L : Nat) : ∀ is : List Nat, wt (is.map fun i => rRm (sN H L i)) ≤ is.length
  | [] => by simp [wt]
  | i :: t => by
    have := wt_rm H L t
    rw [List.map_cons, ← List.singleton_append, wt_app, List.length_cons]
    have e : wt [rRm (sN H L i)] ≤ 1 := by simp [wt, rRm]
    omega
theorem trR_wt (H L : Nat) (rs : List Rw) (is : List Nat) : wt (trR H L rs is) ≤ wt rs + is.length := by
  unfold trR
  rw [wt_app]
  have := wt_rm H L is
  omega
set_option maxHeartbeats 2000000 in
theorem trim_ok (d s : Nat) (rs : List Rw) (D : Dm) (ls : List (ByteArray × List Int)) (H L c n : Nat) (w0 w : World) (he0 : EV w0) (hb0 : Below w0.heap.size w0 w) (hown : ∀ k, D.own d k → w0.heap.size ≤ k) (hd : DkAt w d s rs D) (hl : FL (play rs) ls) (hv : tFB H L 0 = true) (hc : Cn (play rs) H L c) (hn : n ≤ c) (hn2 : n ≤ 1099511627776) (hls : ls.length ≤ 1000000) (hwt : wt rs + 1000002 ≤ 1099511000000) :
    Calls Tryz.prog 11 #[.pointer (some ⟨d, 0, none⟩), .int .i64 (H : Int), .int .i64 (L : Int), .int .i64 (n : Int)] w fun r w' => ∃ is, TrI (play rs) H L n is ∧ r = .returned (.int .i64 (tmE H L n rs is)) ∧ OpR w w' d s D (trS H L n rs is) := by
  have hh := (tFB_is hv).1
  have hLb := (tFB_bd hv).2.2.1
  have e0 : smE (H : Int) (L : Int) 0 = 0 := by
    have h : smB (H : Int) (L : Int) 0 = true := (smB_nat H L 0).trans hv
    unfold smE
    rw [if_pos h]
  have HCU : Hid (∀ W : World, DkAt W d s rs D → PT W → Calls Tryz.prog 17 #[.pointer (some ⟨d, 0, none⟩), .int .i64 (H : Int), .int .i64 (L : Int)] W fun r w' => r = .returned (.tuple #[.int .i64 (c : Int), .int .i64 0]) ∧ Below W.heap.size W w') := hide (fun W h1 h2 => by
    have := scount_any d s rs D W h1 (H : Int) (L : Int) c (by omega) h2 (fun _ => hc) (by omega)
    rw [e0] at this
    exact this)
  have HBH : Hid (∀ W : World, DkAt W d s rs D → EV W → Calls Tryz.prog 38 #[.pointer (some ⟨d, 0, none⟩), .int .i64 (H : Int), .int .i64 (L : Int), .int .i64 (n : Int)] W fun e w' => ∃ v js, e = .returned v ∧ TrI (play rs) H L n js ∧ w'.ownsRow W.heap.size 9 1 v js.length (js.map fun i => .string (sN H L i)) ∧ Below W.heap.size W w' ∧ js.length ≤ 1000000) := hide (fun W h1 h2 => behind_any d s rs D ls H L n W h1 hl hv hn2 h2 (by omega) hls)
  have HCT : Hid (n % 2 ^ H ≠ 0 → tFB H L (n / 2 ^ H) = true ∧ 32 * (n % 2 ^ H) ≤ (fl (play rs) (sN H L (n / 2 ^ H))).length) := hide (fun h0 => hc.cutAt (Nmd.play hd.valS) hn h0)
  have HD := hide hd
  have HE := hide (he0.below hb0)
  have HPT : Hid (∀ (W : World) (rs' : List Rw), OpR w W d s D rs' → PT W) := hide (fun W rs' h => by
    obtain ⟨D', _, h2, _, _⟩ := h
    exact he0.pt.below (hb0.trans (h2.below (fun q hq hq2 => by have := hown q hq2; omega) hb0.size)))
  have HW := hide hwt
  have hnc : ¬ (c : Int) < (n : Int) := by omega
  have hn0 : ¬ (n : Int) < 0 := by omega
  have HNM : Hid (∀ (W : World) (q : Nat), q ≤ n → tFB H L q = true → PT W → Calls Tryz.prog 32 #[.int .i64 (H : Int), .int .i64 (L : Int), .int .i64 (q : Int)] W fun r w' => r = .returned (.tuple #[.string (sN H L q), .int .i64 0]) ∧ Below W.heap.size W w') := hide (fun W q hq hb hp => by
    have e1 : smE (H : Int) (L : Int) (q : Int) = 0 := by
      have h : smB (H : Int) (L : Int) (q : Int) = true := (smB_nat H L q).trans hb
      unfold smE
      rw [if_pos h]
    have e2 := smP_nat H L q
    have := sname_any (H : Int) (L : Int) (q : Int) W (by omega) (by omega) hp
    rw [e1, e2] at this
    exact this)
  clear hd he0 hb0 hown hwt hl hls hc e0
  go_enter Tryz.func11, Tryz.ntmps11
  go_wp2_with fail
  refine (HCU.out _ HD.out HE.out.pt).mono ?_
  rintro r w2 ⟨rfl, hb2⟩
  have HB2 := hide hb2
  clear hb2
  go_wp2_with fail
  refine (HBH.out _ (HD.out.below HB2.out) (HE.out.below HB2.out)).mono ?_
  rintro r w3 ⟨v, js, rfl, htr, hrow, hb3, hjs⟩
  have HB3 := hide (on_below HB2.out hb3)
  have HTR := hide htr
  have HRW := hide hrow
  have HJS := hide hjs
  obtain ⟨a, cp, hv2⟩ := row_slice hrow
  subst hv2
  clear htr hrow hjs hb3
  generalize hm : js.length = m at *
  have HM := hide hm
  have hm1 : m ≤ 1000000 := by have h1 := HJS.out; first | exact h1 | (rw [hm] at h1; exact h1)
  clear hm
  go_wp2
  go_loopw [39] (fun p wr => ∃ i : Nat, i ≤ m ∧ p = .int .i64 (i : Int) ∧ Hid (OpR w3 wr d s D (trR H L rs (js.take i)))) (fun p _ => m - (intOf p).toNat)
  case atStart => exact ⟨0, Nat.zero_le _, rfl, hide (by rw [List.take_zero, trR_nil]; exact OpR.refl (HD.out.below HB3.out))⟩
  case round =>
    obtain ⟨k, hk, rfl, HOP⟩ := hrel
    by_cases hlt : k < m
    · have hlti : (k : Int) < (m : Int) := by omega
      have hkj : k < js.length := by rw [HM.out]; exact hlt
      obtain ⟨D1, o1, o2, o3, o4⟩ := HOP.out
      obtain ⟨g, cap, cs, e1, hg, hcs, hcl⟩ := row_at HRW.out (by omega)
      injection e1 with e1 e2 e3
      subst e1 e3
      have hix := vw_at rSt g m cp k hlt
      obtain ⟨q, hq⟩ : ∃ q, js[k]? = some q := ⟨_, List.getElem?_eq_getElem hkj⟩
      have hnown : ¬ D.own d g := fun h => by
        have h1 := HD.out.lt (.inl h)
        have h2 := row_ge HRW.out (k := g) rfl
        have h3 := HB2.out.size
        omega
      have hc : wr.cell? ⟨g, k, none⟩ = some (.string (sN H L q)) := by
        rw [(hg.same (o2.block g hg.lt hnown)).cell]
        have h1 : (cs.take (m * 1))[k]? = some (.string (sN H L q)) := by
          rw [hcs, List.getElem?_map, hq]
          rfl
        rw [List.getElem?_take, if_pos (by omega)] at h1
        exact h1
      have HRMV := hide (remove_any d s (trR H L rs (js.take k)) D1 wr o1 (sN H L q) (by
        have h1 := trR_wt H L rs (js.take k)
        rw [List.length_take] at h1
        have h2 := HW.out
        have h3 := HJS.out
        omega))
      have hfe := trR_fE HTR.out hq
      have hrs : rmS (trR H L rs (js.take k)) (sN H L q) = trR H L rs (js.take (k + 1)) := by
        rw [takeQ hq, trR_snoc]
        unfold rmS
        rw [if_pos hfe]
      rw [hfe, hrs] at HRMV
      have HO := hide (And.intro o2 (And.intro o3 o4))
      clear hcs hcl hq hg hfe hrs o1 o2 o3 o4 hnown
      go_wp2_with fail
      refine HRMV.out.mono ?_
      rintro r w4 ⟨rfl, ho⟩
      have HO4 := hide (OpR.comp HO.out.1 HO.out.2.1 HO.out.2.2 ho)
      clear ho HRMV
      go_wp2
      go_roundw
      case rel => exact ⟨k + 1, by omega, by go_num, HO4⟩
      case measure => simp only [intOf]; omega
    · have hlti : ¬ (k : Int) < (m : Int) := by omega
      have hkm : k = m := by omega
      subst hkm
      have hfin := HOP.out
      rw [List.take_of_length_le (by rw [HM.out]; exact Nat.le_refl _)] at hfin
      have HFIN := hide (OpR.pre HB3.out hfin)
      clear hfin
      obtain ⟨P, HP⟩ : ∃ P, Hid (2 ^ H = P) := ⟨_, hide rfl⟩
      have hP := hh.pow
      have HWP := hide (wrap_pow hh HP.out)
      rw [HP.out] at hP HCT
      obtain ⟨r, HR⟩ : ∃ r, Hid (n % P = r) := ⟨_, hide rfl⟩
      obtain ⟨q, HQ⟩ : ∃ q, Hid (n / P = q) := ⟨_, hide rfl⟩
      rw [HR.out, HQ.out] at HCT
      have hH8 : (H : Int) ≤ 8 := by have := hh.2; omega
      have hrem : (n : Int).tmod (P : Int) = (r : Int) := by rw [← HR.out]; exact (Int.ofNat_tmod n P).symm
      have hshr : (n : Int) / 2 ^ H = (q : Int) := by rw [← HQ.out, ← HP.out, Int.natCast_ediv, Int.natCast_pow]; rfl
      obtain ⟨hP1, hP2⟩ := hP
      have hr9 : r ≤ 256 := by rw [← HR.out]; have := Nat.mod_lt n (show 0 < P by omega); omega
      have hqn : q ≤ n := by rw [← HQ.out]; exact Nat.div_le_self n P
      by_cases h0 : r = 0
      · have hr0 : (r : Int) = 0 := by omega
        have e1 : tmE H L n rs js = 0 := by unfold tmE; rw [HP.out, HR.out, if_pos h0]
        have e2 : trS H L n rs js = trR H L rs js := by unfold trS; rw [HP.out, HR.out, if_pos h0]
        have HFIN2 := HFIN.out
        rw [← e2] at HFIN2
        have HFI := hide HFIN2
        have HE1 := hide e1
        clear HFIN2 e1 e2 HFIN HCT HNM HOP HRW HM
        go_wp2_with (rw [HWP.out])
        go_ret
        exact ⟨js, HTR.out, by rw [HE1.out]; rfl, HFI.out⟩
      · have hr0 : ¬ (r : Int) = 0 := by omega
        obtain ⟨M, HMM⟩ : ∃ M, Hid (r * 32 = M) := ⟨_, hide rfl⟩
        have e1 : tmE H L n rs js = cuE (trR H L rs js) (sN H L q) (M : Int) := by unfold tmE; rw [HP.out, HR.out, HQ.out, if_neg h0, HMM.out]
        have e2 : trS H L n rs js = cuS (trR H L rs js) (sN H L q) (M : Int) := by unfold trS; rw [HP.out, HR.out, HQ.out, if_neg h0, HMM.out]
        obtain ⟨hq1, hq2⟩ := HCT.out h0
        have HNQ := hide (fun (W : World) (hW : PT W) => HNM.out W q hqn hq1 hW)
        have hmj := HM.out
        clear hq1 hq2 HCT HNM HOP HRW HM
        have HMJ := hide hmj
        clear hmj
        go_wp2_with (rw [HWP.out])
        have hmj := HMJ.out
        refine (HNQ.out _ (HPT.out _ _ HFIN.out)).mono ?_
        rintro e w8 ⟨rfl, hb8⟩
        have HF8 := hide (OpR.post HFIN.out hb8)
        clear hb8 HFIN HNQ
        obtain ⟨D8, d1, d2, d3, d4⟩ := HF8.out
        have HCUT := hide (cut_any d s (trR H L rs js) D8 w8 d1 (sN H L q) (M : Int) (by
          have h1 := trR_wt H L rs js
          have h2 := HW.out
          rw [hmj] at h1
          omega))
        rw [← e1, ← e2] at HCUT
        have HE1 := hide (And.intro d2 (And.intro d3 d4))
        have hrm : (r : Int) * 32 = (M : Int) := by rw [← HMM.out]; omega
        have hM9 : M ≤ 8192 := by rw [← HMM.out]; omega
        clear d1 d2 d3 d4 e1 e2 hmj
        go_wp2_with fail
        refine HCUT.out.mono ?_
        rintro e w9 ⟨rfl, ho9⟩
        have HO9 := hide (OpR.comp HE1.out.1 HE1.out.2.1 HE1.out.2.2 ho9)
        clear ho9
        go_wp2
        go_ret
        exact ⟨js, HTR.out, rfl, HO9.out⟩

end Go.Proofs.YtlgcjdgcgnlcaaaGreatDoor

/-
  The law's filled: a level that was filled from nothing.
-/
namespace Go.Proofs.YtlgcjdgcgnlcaaaGreatDoor
open Go.RowKit Go.Shelf
set_option linter.unusedVariables false
set_option linter.unusedSimpArgs false
set_option maxRecDepth 100000

/-- Digests out of their bytes. -/
def dl (xs : List Int) (n : Nat) : List (List Int) := (List.range n).map (dat xs)
end Go.Proofs.YtlgcjdgcgnlcaaaGreatDoor

/-
  What Put's raw writes are; the law's height.
-/
namespace Go.Proofs.YtlgcjdgcgnlcaaaGreatDoor
open Go.RowKit Go.Shelf
set_option linter.unusedVariables false
set_option linter.unusedSimpArgs false
set_option maxRecDepth 100000

theorem mod_cutS (q : Int) (N : Nat) (hN : N ≤ 1099511000000) : ∃ c : Nat, (wrap64 (q.tmod ((N + 1 : Nat) : Int) + ((N + 1 : Nat) : Int))).tmod ((N + 1 : Nat) : Int) = (c : Int) ∧ c ≤ N := by
  have hp : (0 : Int) < ((N + 1 : Nat) : Int) := by omega
  have h1 := Int.tmod_lt_of_pos q hp
  have h2 := Int.lt_tmod_of_pos q hp
  generalize q.tmod ((N + 1 : Nat) : Int) = r at *
  have hw : wrap64 (r + ((N + 1 : Nat) : Int)) = r + ((N + 1 : Nat) : Int) := by unfold wrap64; omega
  rw [hw]
  have h4 : 0 ≤ (r + ((N + 1 : Nat) : Int)).tmod ((N + 1 : Nat) : Int) := Int.tmod_nonneg _ (by omega)
  have h5 := Int.tmod_lt_of_pos (r + ((N + 1 : Nat) : Int)) hp
  exact ⟨((r + ((N + 1 : Nat) : Int)).tmod ((N + 1 : Nat) : Int)).toNat, by omega, by omega⟩
end Go.Proofs.YtlgcjdgcgnlcaaaGreatDoor
