/-
  Texts one behind the other: SnbLaw FrSa.
-/
import Derived.Test.YtlgcjdgcgnlcaaaGreatDoorPkA
import Derived.Test.YtlgcjdgcgnlcaaaGreatDoorSfrD
import Derived.Deep.Slices

/-
  The walk of ShelfNobody.
-/
namespace Go.Proofs.YtlgcjdgcgnlcaaaGreatDoor
open Go.RowKit Go.Shelf
set_option linter.unusedVariables false
set_option linter.unusedSimpArgs false
set_option maxRecDepth 100000

/-- An act's cells. -/
def asC (k h l i : Int) (b : Bool) (x : List Int) (wd : Int) : List Value := [.int .i64 k, .int .i64 h, .int .i64 l, .int .i64 i, .bool b] ++ u8s x ++ [.int .i64 wd]
theorem asC_wd (k h l i : Int) (b : Bool) (x : List Int) (wd : Int) (hx : x.length = 32) : (asC k h l i b x wd)[37]? = some (.int .i64 wd) := by
  unfold asC
  rw [List.getElem?_append_right (by simp [u8s_length, hx])]
  simp [u8s_length, hx]
theorem asC_dg (k h l i : Int) (b : Bool) (x : List Int) (wd : Int) (hx : x.length = 32) : ((asC k h l i b x wd).drop 5).take (u8s x).length = u8s x := by
  unfold asC
  rw [List.append_assoc]
  show List.take (u8s x).length (u8s x ++ [Value.int .i64 wd]) = u8s x
  exact List.take_left' rfl
/-- What stands through a round of the law's loop. -/
structure NS14 (w W : World) (ga gr b : Nat) (A : List Value) (M : List Nat) : Prop where
  ca : Blk W ga 34 A
  cr : Blk W gr 55 (dkC 0 none (.slice none 0 0) 0)
  cb : Blk W b 26 [.pointer none, .pointer (some ⟨gr, 0, none⟩)]
  bel : Below w.heap.size w W
  marks : ∀ D ∈ M, W.heap[D]? = some (.deferred (some []))
section
variable {w W W' : World} {ga gr b : Nat} {A : List Value} {M : List Nat}
theorem NS14.on (h : NS14 w W ga gr b A M) (hb : Below W.heap.size W W') : NS14 w W' ga gr b A M := ⟨h.ca.on hb, h.cr.on hb, h.cb.on hb, on_below h.bel hb, fun D hD => (hb.block D (Array.getElem?_eq_some_iff.1 (h.marks D hD)).1).trans (h.marks D hD)⟩
theorem NS14.nil (h : NS14 w W ga gr b A M) : Nob W none := .inl rfl
theorem NS14.bare (h : NS14 w W ga gr b A M) : Nob W (some ⟨gr, 0, none⟩) := .inr ⟨gr, rfl, by rw [h.cr.cell]; rfl⟩
end
set_option maxHeartbeats 4000000 in
theorem nobody_walk (k h l i : Int) (bb : Bool) (x : List Int) (wd : Int) (w : World) (hx : x.length = 32) :
    Calls Tryz.prog 4 #[.agg (asC k h l i bb x wd).toArray] w fun e w' => e = .returned (.bool true) ∧ Below w.heap.size w w' := by
  have HWD := hide (asC_wd k h l i bb x wd hx)
  have HDX := hide (asC_dg k h l i bb x wd hx)
  have HA : Hid ((asC k h l i bb x wd)[1]? = some (.int .i64 h) ∧ (asC k h l i bb x wd)[2]? = some (.int .i64 l) ∧ (asC k h l i bb x wd)[3]? = some (.int .i64 i)) := hide ⟨rfl, rfl, rfl⟩
  have HXL : Hid ((u8s x).length = 32) := hide (by rw [u8s_length, hx])
  have HX := hide hx
  clear hx
  refine (callsIn_wide (n := 5)).1 ?_
  refine callsIn_of_wp_marks Tryz.func4 rfl trivial ?_ rfl
  refine wpIn_wide.2 ?_
  simp only [Tryz.ntmps4, List.size_toArray, List.length_cons, List.length_nil, Nat.reduceAdd, Nat.reduceSub, Array.replicate_succ, Array.replicate_zero, List.push_toArray, List.append_toArray, List.nil_append, List.cons_append]
  go_wp2_with (first | (refine step_buildDk0 rfl ?_) | (refine step_box (cs := dkC 0 none (.slice none 0 0) 0) rfl rfl ?_; intro w3 gr hgr hler hb3; have GR := hide hgr; have HB3 := hide hb3; clear hgr hb3) | (refine step_box (cs := asC k h l i bb x wd) rfl rfl ?_; intro w2 ga hga hlea hb2; have GA := hide hga; have HB2 := hide hb2; clear hga hb2))
  have N0 : Hid (NS14 w (w3.alloc (Obj.cells #[Value.pointer none, Value.pointer (some { block := gr, off := 0 })] 26)) ga gr w3.heap.size (asC k h l i bb x wd) []) := hide (by
    have h0 : Below w3.heap.size w3 (w3.alloc (Obj.cells #[Value.pointer none, Value.pointer (some { block := gr, off := 0 })] 26)) := (Below.refl _ _).alloc (Nat.le_refl _) _
    exact ⟨(GA.out.on HB3.out).on h0, GR.out.on h0, Blk.made w3 _ _, on_below (on_below HB2.out HB3.out) h0, fun D hD => by cases hD⟩)
  revert N0
  generalize w3.alloc (Obj.cells #[Value.pointer none, Value.pointer (some { block := gr, off := 0 })] 26) = w4
  generalize w3.heap.size = b
  intro N0
  clear GA GR HB2 HB3 hler hlea
  generalize asC k h l i bb x wd = A at *
  refine wp_loop_rounds 3 ?_
  rw [rounds_succ]
  have d0 : w4.cell? ⟨b, 0, none⟩ = some (.pointer none) := by rw [N0.out.cb.cell]; rfl
  have e1 : w4.cell? ⟨ga, 1, none⟩ = some (.int .i64 h) := by rw [(N0.out).ca.cell]; exact HA.out.1
  have e2 : w4.cell? ⟨ga, 2, none⟩ = some (.int .i64 l) := by rw [(N0.out).ca.cell]; exact HA.out.2.1
  have e3 : w4.cell? ⟨ga, 3, none⟩ = some (.int .i64 i) := by rw [(N0.out).ca.cell]; exact HA.out.2.2
  have e6 : w4.cell? ⟨ga, 37, none⟩ = some (.int .i64 wd) := by rw [(N0.out).ca.cell]; exact HWD.out
  have HRX : Hid (w4.rangeAt ga 5 (u8s x)) := hide ((N0.out).ca.range 5 _ HDX.out)
  go_wp2_with (refine step_buildT4 rfl rfl rfl rfl rfl ?_)
  refine (sread_nob none _ (N0.out.nil) (c4 h l i wd) (One.c4 _ _ _ _) rfl).mono ?_
  rintro r Wr1 ⟨rfl, hbr⟩
  have Nr1 := hide (N0.out.on hbr)
  clear hbr d0 e1 e2 e3 e6 HRX
  have e1 : Wr1.cell? ⟨ga, 1, none⟩ = some (.int .i64 h) := by rw [(Nr1.out).ca.cell]; exact HA.out.1
  have e2 : Wr1.cell? ⟨ga, 2, none⟩ = some (.int .i64 l) := by rw [(Nr1.out).ca.cell]; exact HA.out.2.1
  have e3 : Wr1.cell? ⟨ga, 3, none⟩ = some (.int .i64 i) := by rw [(Nr1.out).ca.cell]; exact HA.out.2.2
  have e6 : Wr1.cell? ⟨ga, 37, none⟩ = some (.int .i64 wd) := by rw [(Nr1.out).ca.cell]; exact HWD.out
  have HRX : Hid (Wr1.rangeAt ga 5 (u8s x)) := hide ((Nr1.out).ca.range 5 _ HDX.out)
  have N9z := Nr1.out.on ((Below.refl Wr1.heap.size Wr1).alloc (Nat.le_refl _) (.cells #[.int .i64 0] 3))
  have z1 : (Wr1.alloc (.cells #[.int .i64 0] 3)).cell? ⟨ga, 1, none⟩ = some (.int .i64 h) := by rw [N9z.ca.cell]; exact HA.out.1
  have z2 : (Wr1.alloc (.cells #[.int .i64 0] 3)).cell? ⟨ga, 2, none⟩ = some (.int .i64 l) := by rw [N9z.ca.cell]; exact HA.out.2.1
  clear N9z
  go_wp2_with (go_at_call 17; refine (count_nob none _ (Nr1.out.nil) h l).mono ?_; rintro r Wc1 ⟨rfl, rfl⟩)
  have C9 : Blk (Wc1.alloc (.cells #[.int .i64 0] 3)) Wc1.heap.size 3 [.int .i64 0] := Blk.made _ _ _
  have hb9 : Below Wc1.heap.size Wc1 (Wc1.alloc (.cells #[.int .i64 0] 3)) := (Below.refl _ _).alloc (Nat.le_refl _) _
  have N91 := hide (Nr1.out.on hb9)
  clear e1 e2 e3 e6 HRX hb9 Nr1 z1 z2
  revert C9 N91
  generalize Wc1.alloc (.cells #[.int .i64 0] 3) = W91
  generalize Wc1.heap.size = b91
  intro C9 N91
  have HC9 := hide C9
  clear C9
  refine (all_mk none _ _ _).mono ?_
  rintro r Wa1 ⟨gd0, gh0, gl0, rfl, _, _, _, _, _, _, hba⟩
  have Na1 := hide (N91.out.on hba)
  have HC9a := hide (HC9.out.on hba)
  clear hba N91 HC9
  have heq : ∀ v : World, (binOp BinOp.eql 60 (.func (.func 53) #[] #[.pointer (some ⟨gd0, 0, none⟩), .pointer (some ⟨gh0, 0, none⟩), .pointer (some ⟨gl0, 0, none⟩)]) .nilFunc).run Tryz.prog v = .ok (.bool false) v := fun v => by kernel_rfl
  have e1 : Wa1.cell? ⟨ga, 1, none⟩ = some (.int .i64 h) := by rw [(Na1.out).ca.cell]; exact HA.out.1
  have e2 : Wa1.cell? ⟨ga, 2, none⟩ = some (.int .i64 l) := by rw [(Na1.out).ca.cell]; exact HA.out.2.1
  have e3 : Wa1.cell? ⟨ga, 3, none⟩ = some (.int .i64 i) := by rw [(Na1.out).ca.cell]; exact HA.out.2.2
  have e6 : Wa1.cell? ⟨ga, 37, none⟩ = some (.int .i64 wd) := by rw [(Na1.out).ca.cell]; exact HWD.out
  have HRX : Hid (Wa1.rangeAt ga 5 (u8s x)) := hide ((Na1.out).ca.range 5 _ HDX.out)
  go_wp2_with fail
  refine (all_mk none _ _ _).mono ?_
  rintro r Wd1 ⟨gd, gh, gl, rfl, BD, BH, BL, _, _, _, hbd⟩
  have Nd1 := hide (Na1.out.on hbd)
  have HC9d := hide (HC9a.out.on hbd)
  clear hbd Na1 HC9a heq e1 e2 e3 e6 HRX
  have hws1 : w.heap.size ≤ Wd1.heap.size := Nd1.out.bel.size
  have hmk1 : ∀ D ∈ [], D < Wd1.heap.size := fun D hD => (Array.getElem?_eq_some_iff.1 (Nd1.out.marks D hD)).1
  go_wp2_with fail
  refine (wpIn_wide (n := 5)).1 ?_
  refine rangeL rfl (by decide) (gf := 53) (lb := #[.pointer (some ⟨gd, 0, none⟩), .pointer (some ⟨gh, 0, none⟩), .pointer (some ⟨gl, 0, none⟩)]) rfl trivial (enters_of Tryz.func53 (by kernel_rfl) rfl)
    (all_nob_seq none gd gh gl h l Wd1 BD BH BL (Nd1.out.nil)) (fun _ _ => trivial) (fun _ _ _ _ _ _ _ _ => trivial) (fun _ => rfl) (fun pre x V0 => fun _ _ _ _ h _ _ => h)
    (fun pre V => NS14 w V ga gr b A [] ∧ Blk V b91 3 [.int .i64 0]) (fun _ _ _ => False)
    (fun _ A' C row h hg hr => ⟨⟨h.1.ca.ck (CK.of_grown hg (fun r e => (hr r e).2)), h.1.cr.ck (CK.of_grown hg (fun r e => (hr r e).2)), h.1.cb.ck (CK.of_grown hg (fun r e => (hr r e).2)), h.1.bel.grown hg h.1.bel.size (fun r e => by have := (hr r e).1; omega), fun D hD => (hg.block D (Array.getElem?_eq_some_iff.1 (h.1.marks D hD)).1 (fun e => by have h1 := (hr D e.symm).1; have h2 := hmk1 D hD; omega)).trans (h.1.marks D hD)⟩, h.2.ck (CK.of_grown hg (fun r e => (hr r e).2))⟩)
    (fun c _ A' C row h hg hr => h) ⟨Nd1.out, HC9d.out⟩ ?act1 ?assign1 ?body1 ?done1 ?stop1
  case assign1 =>
    intro l x W K hK
    have hsem := Oper.semAt_some
    gi_wp2
    exact hK
  case body1 =>
    rintro l pre x V0 V hI _ _ _ hR
    exact hR.elim
  case stop1 =>
    rintro D c pre V hD hSp h hK
    exact h.elim
  rintro D1 ys W1 hD1 rfl ⟨hN, hC⟩ hK1
  have HN1 := hide hN
  have HK1 := hide hK1
  have hDw1 : w.heap.size ≤ D1 := by omega
  have e1 : W1.cell? ⟨ga, 1, none⟩ = some (.int .i64 h) := by rw [(hN).ca.cell]; exact HA.out.1
  have e2 : W1.cell? ⟨ga, 2, none⟩ = some (.int .i64 l) := by rw [(hN).ca.cell]; exact HA.out.2.1
  have e3 : W1.cell? ⟨ga, 3, none⟩ = some (.int .i64 i) := by rw [(hN).ca.cell]; exact HA.out.2.2
  have e6 : W1.cell? ⟨ga, 37, none⟩ = some (.int .i64 wd) := by rw [(hN).ca.cell]; exact HWD.out
  have HRX : Hid (W1.rangeAt ga 5 (u8s x)) := hide ((hN).ca.range 5 _ HDX.out)
  have c9 : W1.cell? ⟨b91, 0, none⟩ = some (.int .i64 0) := by rw [hC.cell]; rfl
  clear hN hC hK1 HC9d Nd1
  go_wp2_with (refine step_loadR wDs rfl rfl _ HRX.out HXL.out ?_)
  refine (put_nob none _ (HN1.out.nil) h l i x HX.out).mono ?_
  rintro r Wp1 ⟨rfl, hbp⟩
  have NP1 := hide (HN1.out.on hbp)
  have KP1 : Hid (Wp1.heap[D1]? = some (.deferred (some []))) := hide ((hbp.block D1 (Array.getElem?_eq_some_iff.1 HK1.out).1).trans HK1.out)
  have c9' : Wp1.cell? ⟨b91, 0, none⟩ = some (.int .i64 0) := cell_kept c9 hbp
  clear hbp e1 e2 e3 e6 c9 HRX HN1 HK1
  have e1 : Wp1.cell? ⟨ga, 1, none⟩ = some (.int .i64 h) := by rw [(NP1.out).ca.cell]; exact HA.out.1
  have e2 : Wp1.cell? ⟨ga, 2, none⟩ = some (.int .i64 l) := by rw [(NP1.out).ca.cell]; exact HA.out.2.1
  have e3 : Wp1.cell? ⟨ga, 3, none⟩ = some (.int .i64 i) := by rw [(NP1.out).ca.cell]; exact HA.out.2.2
  have e6 : Wp1.cell? ⟨ga, 37, none⟩ = some (.int .i64 wd) := by rw [(NP1.out).ca.cell]; exact HWD.out
  have HRX : Hid (Wp1.rangeAt ga 5 (u8s x)) := hide ((NP1.out).ca.range 5 _ HDX.out)
  go_wp2_with (go_at_call 11; refine (trim_nob none _ (NP1.out.nil) h l i).mono ?_; rintro r Wt1 ⟨rfl, rfl⟩)
  clear e1 e2 e3 e6 HRX c9'
  have N1 : Hid (NS14 w Wt1 ga gr b A [D1]) := hide ⟨NP1.out.ca, NP1.out.cr, NP1.out.cb, NP1.out.bel, fun D hD => by
    obtain rfl : D = D1 := by simpa using hD
    exact KP1.out⟩
  clear NP1 KP1
  rw [rounds_succ]
  have d0 : Wt1.cell? ⟨b, 1, none⟩ = some (.pointer (some ⟨gr, 0, none⟩)) := by rw [N1.out.cb.cell]; rfl
  have e1 : Wt1.cell? ⟨ga, 1, none⟩ = some (.int .i64 h) := by rw [(N1.out).ca.cell]; exact HA.out.1
  have e2 : Wt1.cell? ⟨ga, 2, none⟩ = some (.int .i64 l) := by rw [(N1.out).ca.cell]; exact HA.out.2.1
  have e3 : Wt1.cell? ⟨ga, 3, none⟩ = some (.int .i64 i) := by rw [(N1.out).ca.cell]; exact HA.out.2.2
  have e6 : Wt1.cell? ⟨ga, 37, none⟩ = some (.int .i64 wd) := by rw [(N1.out).ca.cell]; exact HWD.out
  have HRX : Hid (Wt1.rangeAt ga 5 (u8s x)) := hide ((N1.out).ca.range 5 _ HDX.out)
  go_wp2_with (refine step_buildT4 rfl rfl rfl rfl rfl ?_)
  refine (sread_nob (some ⟨gr, 0, none⟩) _ (N1.out.bare) (c4 h l i wd) (One.c4 _ _ _ _) rfl).mono ?_
  rintro r Wr2 ⟨rfl, hbr⟩
  have Nr2 := hide (N1.out.on hbr)
  clear hbr d0 e1 e2 e3 e6 HRX
  have e1 : Wr2.cell? ⟨ga, 1, none⟩ = some (.int .i64 h) := by rw [(Nr2.out).ca.cell]; exact HA.out.1
  have e2 : Wr2.cell? ⟨ga, 2, none⟩ = some (.int .i64 l) := by rw [(Nr2.out).ca.cell]; exact HA.out.2.1
  have e3 : Wr2.cell? ⟨ga, 3, none⟩ = some (.int .i64 i) := by rw [(Nr2.out).ca.cell]; exact HA.out.2.2
  have e6 : Wr2.cell? ⟨ga, 37, none⟩ = some (.int .i64 wd) := by rw [(Nr2.out).ca.cell]; exact HWD.out
  have HRX : Hid (Wr2.rangeAt ga 5 (u8s x)) := hide ((Nr2.out).ca.range 5 _ HDX.out)
  have N9z := Nr2.out.on ((Below.refl Wr2.heap.size Wr2).alloc (Nat.le_refl _) (.cells #[.int .i64 0] 3))
  have z1 : (Wr2.alloc (.cells #[.int .i64 0] 3)).cell? ⟨ga, 1, none⟩ = some (.int .i64 h) := by rw [N9z.ca.cell]; exact HA.out.1
  have z2 : (Wr2.alloc (.cells #[.int .i64 0] 3)).cell? ⟨ga, 2, none⟩ = some (.int .i64 l) := by rw [N9z.ca.cell]; exact HA.out.2.1
  clear N9z
  go_wp2_with (go_at_call 17; refine (count_nob (some ⟨gr, 0, none⟩) _ (Nr2.out.bare) h l).mono ?_; rintro r Wc2 ⟨rfl, rfl⟩)
  have C9 : Blk (Wc2.alloc (.cells #[.int .i64 0] 3)) Wc2.heap.size 3 [.int .i64 0] := Blk.made _ _ _
  have hb9 : Below Wc2.heap.size Wc2 (Wc2.alloc (.cells #[.int .i64 0] 3)) := (Below.refl _ _).alloc (Nat.le_refl _) _
  have N92 := hide (Nr2.out.on hb9)
  clear e1 e2 e3 e6 HRX hb9 Nr2 z1 z2
  revert C9 N92
  generalize Wc2.alloc (.cells #[.int .i64 0] 3) = W92
  generalize Wc2.heap.size = b92
  intro C9 N92
  have HC9 := hide C9
  clear C9
  refine (all_mk (some ⟨gr, 0, none⟩) _ _ _).mono ?_
  rintro r Wa2 ⟨gd0, gh0, gl0, rfl, _, _, _, _, _, _, hba⟩
  have Na2 := hide (N92.out.on hba)
  have HC9a := hide (HC9.out.on hba)
  clear hba N92 HC9
  have heq : ∀ v : World, (binOp BinOp.eql 60 (.func (.func 53) #[] #[.pointer (some ⟨gd0, 0, none⟩), .pointer (some ⟨gh0, 0, none⟩), .pointer (some ⟨gl0, 0, none⟩)]) .nilFunc).run Tryz.prog v = .ok (.bool false) v := fun v => by kernel_rfl
  have e1 : Wa2.cell? ⟨ga, 1, none⟩ = some (.int .i64 h) := by rw [(Na2.out).ca.cell]; exact HA.out.1
  have e2 : Wa2.cell? ⟨ga, 2, none⟩ = some (.int .i64 l) := by rw [(Na2.out).ca.cell]; exact HA.out.2.1
  have e3 : Wa2.cell? ⟨ga, 3, none⟩ = some (.int .i64 i) := by rw [(Na2.out).ca.cell]; exact HA.out.2.2
  have e6 : Wa2.cell? ⟨ga, 37, none⟩ = some (.int .i64 wd) := by rw [(Na2.out).ca.cell]; exact HWD.out
  have HRX : Hid (Wa2.rangeAt ga 5 (u8s x)) := hide ((Na2.out).ca.range 5 _ HDX.out)
  go_wp2_with fail
  refine (all_mk (some ⟨gr, 0, none⟩) _ _ _).mono ?_
  rintro r Wd2 ⟨gd, gh, gl, rfl, BD, BH, BL, _, _, _, hbd⟩
  have Nd2 := hide (Na2.out.on hbd)
  have HC9d := hide (HC9a.out.on hbd)
  clear hbd Na2 HC9a heq e1 e2 e3 e6 HRX
  have hws2 : w.heap.size ≤ Wd2.heap.size := Nd2.out.bel.size
  have hmk2 : ∀ D ∈ [D1], D < Wd2.heap.size := fun D hD => (Array.getElem?_eq_some_iff.1 (Nd2.out.marks D hD)).1
  go_wp2_with fail
  refine (wpIn_wide (n := 5)).1 ?_
  refine rangeL rfl (by decide) (gf := 53) (lb := #[.pointer (some ⟨gd, 0, none⟩), .pointer (some ⟨gh, 0, none⟩), .pointer (some ⟨gl, 0, none⟩)]) rfl trivial (enters_of Tryz.func53 (by kernel_rfl) rfl)
    (all_nob_seq (some ⟨gr, 0, none⟩) gd gh gl h l Wd2 BD BH BL (Nd2.out.bare)) (fun _ _ => trivial) (fun _ _ _ _ _ _ _ _ => trivial) (fun _ => rfl) (fun pre x V0 => fun _ _ _ _ h _ _ => h)
    (fun pre V => NS14 w V ga gr b A [D1] ∧ Blk V b92 3 [.int .i64 0]) (fun _ _ _ => False)
    (fun _ A' C row h hg hr => ⟨⟨h.1.ca.ck (CK.of_grown hg (fun r e => (hr r e).2)), h.1.cr.ck (CK.of_grown hg (fun r e => (hr r e).2)), h.1.cb.ck (CK.of_grown hg (fun r e => (hr r e).2)), h.1.bel.grown hg h.1.bel.size (fun r e => by have := (hr r e).1; omega), fun D hD => (hg.block D (Array.getElem?_eq_some_iff.1 (h.1.marks D hD)).1 (fun e => by have h1 := (hr D e.symm).1; have h2 := hmk2 D hD; omega)).trans (h.1.marks D hD)⟩, h.2.ck (CK.of_grown hg (fun r e => (hr r e).2))⟩)
    (fun c _ A' C row h hg hr => h) ⟨Nd2.out, HC9d.out⟩ ?act2 ?assign2 ?body2 ?done2 ?stop2
  case assign2 =>
    intro l x W K hK
    have hsem := Oper.semAt_some
    gi_wp2
    exact hK
  case body2 =>
    rintro l pre x V0 V hI _ _ _ hR
    exact hR.elim
  case stop2 =>
    rintro D c pre V hD hSp h hK
    exact h.elim
  rintro D2 ys W2 hD2 rfl ⟨hN, hC⟩ hK2
  have HN2 := hide hN
  have HK2 := hide hK2
  have hDw2 : w.heap.size ≤ D2 := by omega
  have e1 : W2.cell? ⟨ga, 1, none⟩ = some (.int .i64 h) := by rw [(hN).ca.cell]; exact HA.out.1
  have e2 : W2.cell? ⟨ga, 2, none⟩ = some (.int .i64 l) := by rw [(hN).ca.cell]; exact HA.out.2.1
  have e3 : W2.cell? ⟨ga, 3, none⟩ = some (.int .i64 i) := by rw [(hN).ca.cell]; exact HA.out.2.2
  have e6 : W2.cell? ⟨ga, 37, none⟩ = some (.int .i64 wd) := by rw [(hN).ca.cell]; exact HWD.out
  have HRX : Hid (W2.rangeAt ga 5 (u8s x)) := hide ((hN).ca.range 5 _ HDX.out)
  have c9 : W2.cell? ⟨b92, 0, none⟩ = some (.int .i64 0) := by rw [hC.cell]; rfl
  clear hN hC hK2 HC9d Nd2
  go_wp2_with (refine step_loadR wDs rfl rfl _ HRX.out HXL.out ?_)
  refine (put_nob (some ⟨gr, 0, none⟩) _ (HN2.out.bare) h l i x HX.out).mono ?_
  rintro r Wp2 ⟨rfl, hbp⟩
  have NP2 := hide (HN2.out.on hbp)
  have KP2 : Hid (Wp2.heap[D2]? = some (.deferred (some []))) := hide ((hbp.block D2 (Array.getElem?_eq_some_iff.1 HK2.out).1).trans HK2.out)
  have c9' : Wp2.cell? ⟨b92, 0, none⟩ = some (.int .i64 0) := cell_kept c9 hbp
  clear hbp e1 e2 e3 e6 c9 HRX HN2 HK2
  have e1 : Wp2.cell? ⟨ga, 1, none⟩ = some (.int .i64 h) := by rw [(NP2.out).ca.cell]; exact HA.out.1
  have e2 : Wp2.cell? ⟨ga, 2, none⟩ = some (.int .i64 l) := by rw [(NP2.out).ca.cell]; exact HA.out.2.1
  have e3 : Wp2.cell? ⟨ga, 3, none⟩ = some (.int .i64 i) := by rw [(NP2.out).ca.cell]; exact HA.out.2.2
  have e6 : Wp2.cell? ⟨ga, 37, none⟩ = some (.int .i64 wd) := by rw [(NP2.out).ca.cell]; exact HWD.out
  have HRX : Hid (Wp2.rangeAt ga 5 (u8s x)) := hide ((NP2.out).ca.range 5 _ HDX.out)
  go_wp2_with (go_at_call 11; refine (trim_nob (some ⟨gr, 0, none⟩) _ (NP2.out.bare) h l i).mono ?_; rintro r Wt2 ⟨rfl, rfl⟩)
  clear e1 e2 e3 e6 HRX c9'
  rw [rounds_succ]
  go_wp2
  have hlt1 : D1 < Wd2.heap.size := hmk2 D1 (by simp)
  have hDD : D1 ≠ D2 := by omega
  have k1 := NP2.out.marks D1 (by simp)
  have k2 := KP2.out
  have k1' : (Wt2.putObj D2 (.deferred none)).heap[D1]? = some (.deferred (some [])) := by
    rw [World.putObj_heap_other hDD]
    exact k1
  have BA := NP2.out.bel.trans (belowK_b (w := w) (Nat.le_refl _) _ D2 _ (.deferred none) hDw2 k2 rfl rfl)
  have BC := BA.trans (belowK_b (w := w) (Nat.le_refl _) _ D1 _ (.deferred none) hDw1 k1' rfl rfl)
  refine ⟨by simp, .inl ⟨_, _, rfl, run_takeDeferred k2, ?_⟩⟩
  refine ⟨by simp, .inl ⟨_, _, rfl, run_takeDeferred k1', ?_⟩⟩
  exact ⟨.bool true, by simp [results, Tryz.f4, go_sem], rfl, BC⟩

end Go.Proofs.YtlgcjdgcgnlcaaaGreatDoor

/-
  From how an argument is read as data to what the walks are told of it: an act of the statements of shelf.
-/
namespace Go.Proofs.YtlgcjdgcgnlcaaaGreatDoor
open Go.ChangeShapes Go.WideShapes Go.ChangeAt Go.RowKit
set_option linter.unusedVariables false

/-- An act. -/
structure As where
  k : Int
  h : Int
  l : Int
  i : Int
  b : Bool
  x : List Int
  wd : Int
def As.cells (z : As) : List Value := asC z.k z.h z.l z.i z.b z.x z.wd
def rngI (z : Int) : Prop := -9223372036854775808 ≤ z ∧ z ≤ 9223372036854775807
structure As.In (z : As) : Prop where
  len : z.x.length = 32
  byt : isB z.x
  rk : rngI z.k
  rh : rngI z.h
  rl : rngI z.l
  ri : rngI z.i
  rw : rngI z.wd
theorem as_digit {H : Type} {enc : TypeId × Value → H} {W : World} {fuel : Nat} {cs : List Value} {x : DataW H × List MemPlace}
    (hf : DataW.trod enc Tryz.prog W 0 (fun _ => true) true fuel 32 cs = some x) (hl : cs.length = 32) : ∃ xs : List Int, cs = u8s xs ∧ xs.length = 32 ∧ isB xs := by
  obtain ⟨ys, q, _, _, _, hyl, hy⟩ := DataW.trod_array aD.und hf
  rw [aD.cells] at hy
  have cell : ∀ j, j < 32 → ∃ z : Int, cs[j]? = some (.int .u8 z) ∧ 0 ≤ z ∧ z ≤ 255 := by
    intro j hj
    have e := hy j hj
    have hys : ys[j]? = some ys[j] := List.getElem?_eq_getElem (by omega)
    rw [hys, Nat.mul_one, List.drop_eq_getElem_cons (by omega)] at e
    simp only [List.take_succ_cons, List.take_zero] at e
    obtain ⟨z, hz, _, hwf⟩ := DataW.trod_int aD.elem e
    simp only [List.cons.injEq, and_true] at hz
    exact ⟨z, by rw [List.getElem?_eq_getElem (by omega), hz], bounds_u8 hwf⟩
  refine ⟨(List.range 32).map (fun i => intOf (cs[i]?.getD undef)), ?_, by simp, ?_⟩
  · refine List.ext_getElem? fun i => ?_
    by_cases hi : i < 32
    · obtain ⟨z, hz, _⟩ := cell i hi
      rw [hz]
      simp [u8s, hi, hz, intOf]
    · rw [List.getElem?_eq_none (by omega), List.getElem?_eq_none (by rw [u8s_length, List.length_map, List.length_range]; omega)]
  · intro y hy
    simp only [List.mem_map, List.mem_range] at hy
    obtain ⟨j, hj, rfl⟩ := hy
    obtain ⟨z, hz, hb⟩ := cell j hj
    rw [hz]
    exact hb
theorem ciS : Tryz.prog.cellsOf 3 = 1 := by kernel_rfl
theorem cboS : Tryz.prog.cellsOf 4 = 1 := by kernel_rfl
theorem cdS : Tryz.prog.cellsOf 32 = 32 := by kernel_rfl
theorem caS : Tryz.prog.cellsOf 34 = 38 := by kernel_rfl
theorem uboS : Tryz.prog.underlying 4 = some .bool := by kernel_rfl
theorem uiS : Tryz.prog.underlying 3 = some (.int .i64) := by kernel_rfl
theorem cutS14 {L x : List Value} {k n : Nat} (h : (L.drop k).take n = x) : L.drop k = x ++ L.drop (k + n) := by
  rw [← h, ← List.drop_drop, List.take_append_drop]
set_option maxRecDepth 100000 in
set_option maxHeartbeats 1000000 in
theorem as_trod {H : Type} {enc : TypeId × Value → H} {W : World} {fuel : Nat} {L : List Value} {x : DataW H × List MemPlace} (hL : L.length = 38)
    (hf : DataW.trod enc Tryz.prog W 0 (fun _ => true) true fuel 34 L = some x) : ∃ z : As, L = z.cells ∧ z.In ∧ 40 ≤ Rows.uptoBulk x.1 + 40 := by
  have hu := Tryz.underlying34
  obtain ⟨xs, n, _, hx, _, hxl, hfs⟩ := DataW.trod_struct hu hf
  match xs, hxl with
  | [y0, y1, y2, y3, y4, y5, y6], _ =>
    have h0 : DataW.trod enc Tryz.prog W 0 (fun _ => true) true n 3 ((L.drop 0).take (Tryz.prog.cellsOf 3)) = some y0 := hfs 0 _ rfl
    have h1 : DataW.trod enc Tryz.prog W 0 (fun _ => true) true n 3 ((L.drop 1).take (Tryz.prog.cellsOf 3)) = some y1 := hfs 1 _ rfl
    have h2 : DataW.trod enc Tryz.prog W 0 (fun _ => true) true n 3 ((L.drop 2).take (Tryz.prog.cellsOf 3)) = some y2 := hfs 2 _ rfl
    have h3 : DataW.trod enc Tryz.prog W 0 (fun _ => true) true n 3 ((L.drop 3).take (Tryz.prog.cellsOf 3)) = some y3 := hfs 3 _ rfl
    have h4 : DataW.trod enc Tryz.prog W 0 (fun _ => true) true n 4 ((L.drop 4).take (Tryz.prog.cellsOf 4)) = some y4 := hfs 4 _ rfl
    have h5 : DataW.trod enc Tryz.prog W 0 (fun _ => true) true n 32 ((L.drop 5).take (Tryz.prog.cellsOf 32)) = some y5 := hfs 5 _ rfl
    have h6 : DataW.trod enc Tryz.prog W 0 (fun _ => true) true n 3 ((L.drop 37).take (Tryz.prog.cellsOf 3)) = some y6 := hfs 6 _ rfl
    rw [ciS] at h0 h1 h2 h3 h6
    rw [cboS] at h4
    rw [cdS] at h5
    obtain ⟨a0, e0, x0, w0⟩ := DataW.trod_int uiS h0
    obtain ⟨a1, e1, x1, w1⟩ := DataW.trod_int uiS h1
    obtain ⟨a2, e2, x2, w2⟩ := DataW.trod_int uiS h2
    obtain ⟨a3, e3, x3, w3⟩ := DataW.trod_int uiS h3
    obtain ⟨b, e4, x4⟩ := DataW.trod_bool uboS h4
    obtain ⟨ds, e5, hdl, hdb⟩ := as_digit h5 (by rw [List.length_take, List.length_drop]; omega)
    obtain ⟨a6, e6, x6, w6⟩ := DataW.trod_int uiS h6
    refine ⟨⟨a0, a1, a2, a3, b, ds, a6⟩, ?_, ⟨hdl, hdb, bounds_i64 w0, bounds_i64 w1, bounds_i64 w2, bounds_i64 w3, bounds_i64 w6⟩, by omega⟩
    have d0 := cutS14 e0
    have d1 := cutS14 e1
    have d2 := cutS14 e2
    have d3 := cutS14 e3
    have d4 := cutS14 e4
    have d5 := cutS14 e5
    have d6 := cutS14 e6
    have dd : L.drop 38 = [] := List.drop_of_length_le (by omega)
    simp only [Nat.reduceAdd] at d0 d1 d2 d3 d4 d5 d6
    rw [← List.drop_zero (l := L), d0, d1, d2, d3, d4, d5, d6, dd]
    simp [As.cells, asC]
set_option maxRecDepth 100000 in
theorem as_open {H : Type} {enc : TypeId × Value → H} {W : World} {base : Nat} {v : Value} {d : DataW H} {p : List MemPlace}
    (hv : Value.okWide Tryz.prog W .any base 34 v) (h : DataW.Trod enc Tryz.prog W 0 (fun _ => true) true 34 v d p) : ∃ z : As, v = .agg z.cells.toArray ∧ z.In := by
  obtain ⟨cs, rfl, hsz⟩ := okWide_struct Tryz.underlying34 hv
  rw [caS] at hsz
  obtain ⟨fuel, hf⟩ := h
  obtain ⟨l⟩ := cs
  obtain ⟨z, hz, hi, _⟩ := as_trod (L := l) (by simpa using hsz) hf
  exact ⟨z, by rw [hz], hi⟩
theorem nobody_law (z : As) (w : World) (hz : z.In) (he : EV w) :
    Calls Tryz.prog 4 #[.agg z.cells.toArray] w fun e w' => e = .returned (.bool true) ∧ Below w.heap.size w w' := nobody_walk z.k z.h z.l z.i z.b z.x z.wd w hz.len

end Go.Proofs.YtlgcjdgcgnlcaaaGreatDoor
