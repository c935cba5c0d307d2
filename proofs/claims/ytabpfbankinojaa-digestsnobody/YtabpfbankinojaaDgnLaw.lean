/-
  The walk of DigestsNobody.
-/
import Derived.Test.YtabpfbankinojaaDgn
import Derived.Test.YtabpfbankinojaaDac
namespace Go.Proofs.Ytabpfbankinojaa
open Go.RowKit Go.Shelf
set_option linter.unusedVariables false
set_option linter.unusedSimpArgs false
set_option maxRecDepth 100000

/-- What stands through a round of the law's loop. -/
structure NS16 (w W : World) (ga gi b : Nat) (A : List Value) (M : List Nat) : Prop where
  ca : Blk W ga 33 A
  ci : PI W gi false (.slice none 0 0)
  cb : Blk W b 25 [.pointer none, .pointer (some ⟨gi, 0, none⟩)]
  bel : Below w.heap.size w W
  marks : MK M W
section
variable {w W W' : World} {ga gi b : Nat} {A : List Value} {M : List Nat}
theorem NS16.on (h : NS16 w W ga gi b A M) (hb : Below W.heap.size W W') : NS16 w W' ga gi b A M := ⟨h.ca.on hb, Blk.on h.ci hb, h.cb.on hb, on_below h.bel hb, h.marks.on hb⟩
theorem NS16.nil (h : NS16 w W ga gi b A M) : NoI W none := .inl rfl
theorem NS16.bare (h : NS16 w W ga gi b A M) : NoI W (some ⟨gi, 0, none⟩) := .inr ⟨gi, _, rfl, h.ci⟩
end
set_option maxHeartbeats 4000000 in
theorem dnobody_walk (d : List Int) (q : Int) (bb : Bool) (w : World) (hd : d.length = 32) (hb : isB d) (hq : (Lit.int .i64 q).wf = true) :
    Calls Try.prog 4 #[.agg (acC d q bb).toArray] w fun e w' => e = .returned (.bool true) ∧ Below w.heap.size w w' := by
  have HA : Hid ((acC d q bb).take 32 = u8s d ∧ (acC d q bb)[32]? = some (.int .i64 q)) := hide ⟨acC_d d q bb hd, acC_q d q bb hd⟩
  have HD := hide hd
  clear hd hb hq
  refine (callsIn_wide (n := 6)).1 ?_
  refine callsIn_of_wp_marks Try.func4 rfl trivial ?_ rfl
  refine wpIn_wide.2 ?_
  simp only [Try.ntmps4, List.size_toArray, List.length_cons, List.length_nil, Nat.reduceAdd, Nat.reduceSub, Array.replicate_succ, Array.replicate_zero, List.push_toArray, List.append_toArray, List.nil_append, List.cons_append]
  go_wp2_with (refine step_box (cs := acC d q bb) rfl rfl ?_)
  intro w2 ga hga hlea hb2
  have GA := hide hga
  have HB2 := hide hb2
  clear hga hb2
  go_wp2_with fail
  have N0 : Hid (NS16 w ((w2.alloc (Obj.cells #[Value.bool false, Value.slice none 0 0] 42)).alloc (Obj.cells #[Value.pointer none, Value.pointer (some { block := w2.heap.size, off := 0 })] 25)) ga w2.heap.size (w2.heap.size + 1) (acC d q bb) []) := hide (by
    have h0 : Below w2.heap.size w2 (w2.alloc (Obj.cells #[Value.bool false, Value.slice none 0 0] 42)) := (Below.refl _ _).alloc (Nat.le_refl _) _
    have H0 : Blk (w2.alloc (Obj.cells #[Value.bool false, Value.slice none 0 0] 42)) w2.heap.size 42 [.bool false, .slice none 0 0] := Blk.made w2 _ _
    have z1 : (w2.alloc (Obj.cells #[Value.bool false, Value.slice none 0 0] 42)).heap.size = w2.heap.size + 1 := World.size_alloc _ _
    generalize w2.alloc (Obj.cells #[Value.bool false, Value.slice none 0 0] 42) = W3 at *
    rw [← z1]
    have h1 : Below W3.heap.size W3 (W3.alloc (Obj.cells #[Value.pointer none, Value.pointer (some { block := w2.heap.size, off := 0 })] 25)) := (Below.refl _ _).alloc (Nat.le_refl _) _
    exact ⟨(GA.out.on h0).on h1, Blk.on H0 h1, Blk.made W3 _ _, on_below (on_below HB2.out h0) h1, fun D hD => by cases hD⟩)
  revert N0
  generalize (w2.alloc (Obj.cells #[Value.bool false, Value.slice none 0 0] 42)).alloc (Obj.cells #[Value.pointer none, Value.pointer (some { block := w2.heap.size, off := 0 })] 25) = w4
  generalize w2.heap.size + 1 = b
  generalize w2.heap.size = gi
  intro N0
  clear GA HB2 hlea
  generalize acC d q bb = A at *
  refine wp_loop_rounds 3 ?_
  rw [rounds_succ]
  have d0 : w4.cell? ⟨b, 0, none⟩ = some (.pointer none) := by rw [N0.out.cb.cell]; rfl
  go_wp2_with fail
  have C9 : Blk (w4.alloc (.cells #[.int .i64 0] 3)) w4.heap.size 3 [.int .i64 0] := Blk.made _ _ _
  have N91 := hide (N0.out.on ((Below.refl w4.heap.size w4).alloc (Nat.le_refl _) (.cells #[.int .i64 0] 3)))
  clear d0
  revert C9 N91
  generalize w4.alloc (.cells #[.int .i64 0] 3) = W91
  generalize w4.heap.size = b91
  intro C9 N91
  have HC9 := hide C9
  clear C9
  refine (all_mk none _).mono ?_
  rintro r Wa1 ⟨x1, rfl, _, _, hba⟩
  have Na1 := hide (N91.out.on hba)
  have HC9a := hide (HC9.out.on hba)
  clear hba N91 HC9
  have heq : ∀ v : World, (binOp BinOp.eql 45 (.func (.func 23) #[] #[.pointer (some ⟨x1, 0, none⟩)]) .nilFunc).run Try.prog v = .ok (.bool false) v := fun v => by kernel_rfl
  go_wp2_with fail
  refine (all_mk none _).mono ?_
  rintro r Wd1 ⟨x2, rfl, BX, _, hbd⟩
  have Nd1 := hide (Na1.out.on hbd)
  have HC9d := hide (HC9a.out.on hbd)
  clear hbd Na1 HC9a heq
  have hws1 : w.heap.size ≤ Wd1.heap.size := Nd1.out.bel.size
  have hmk1 : ∀ D ∈ [], D < Wd1.heap.size := fun D hD => (Array.getElem?_eq_some_iff.1 (Nd1.out.marks D hD)).1
  have HEM := hide (all_nob (α := Unit) none x2 5 Wd1 (Nd1.out.nil) BX (fun _ => #[.bool true, .bool true]) 0 (fun _ _ => True))
  clear BX
  go_wp2_with fail
  refine (wpIn_wide (n := 6)).1 ?_
  refine rangeD (t := 0) (Kp := fun _ _ => True) (L := ([] : List Unit)) (encs := fun _ => #[.bool true, .bool true]) rfl (by decide) (gf := 23) (lb := #[.pointer (some ⟨x2, 0, none⟩)]) rfl trivial (enters_of Try.func23 (by kernel_rfl) rfl) HEM.out (fun _ _ => trivial) (fun _ _ _ _ _ _ => trivial) (fun _ _ _ => trivial) (fun _ => rfl)
    (fun _ V => Below Wd1.heap.size Wd1 V) (fun _ _ _ => False) (fun _ A C row h hg hr => h.grown hg h.size (fun r e => (hr r e).1)) (fun _ _ _ _ _ h _ _ => h) (Below.refl _ _) (fun _ _ => ⟨#[], []⟩) (fun _ _ _ => True) (fun _ _ _ _ _ _ _ h => h) (fun _ _ _ _ h => absurd h (by simp)) (fun _ _ _ _ _ h => absurd h (by simp)) ?done1 ?stop1
  case stop1 =>
    rintro D c i W _ _ h
    exact h.elim
  case done1 =>
    rintro D1 W1 hD1 hb hk
    have hDw1 : w.heap.size ≤ D1 := by omega
    have HN1 := hide (Nd1.out.on hb)
    have HM1 : Hid (MK (D1 :: []) W1) := hide (mk_cons hk HN1.out.marks)
    have hc9 : Blk W1 b91 3 [.int .i64 0] := HC9d.out.on hb
    have HC9 := hide hc9
    clear hb hk HC9d Nd1 HEM hc9
    go_wp2_with (refine step_load wideD rfl rfl HN1.out.ca (u8s d) (by rw [u8s_length, HD.out]) (by rw [List.drop_zero]; exact HA.out.1) ?_)
    refine (find_nob none _ (HN1.out.nil) d).mono ?_
    rintro r Wf1 ⟨rfl, hbf⟩
    have Nf1 := hide (HN1.out.on hbf)
    have HMf1 := hide (HM1.out.on hbf)
    have HC9f := hide (HC9.out.on hbf)
    clear hbf HN1 HM1 HC9
    have e32 : Wf1.cell? ⟨ga, 32, none⟩ = some (.int .i64 q) := by rw [Nf1.out.ca.cell]; exact HA.out.2
    go_wp2_with (refine step_load wideD rfl rfl Nf1.out.ca (u8s d) (by rw [u8s_length, HD.out]) (by rw [List.drop_zero]; exact HA.out.1) ?_)
    refine (add_nob none _ (Nf1.out.nil) d q).mono ?_
    rintro r Wg1 ⟨rfl, hbg⟩
    have Ng1 := hide (Nf1.out.on hbg)
    have HMg1 := hide (HMf1.out.on hbg)
    have c9 : Wg1.cell? ⟨b91, 0, none⟩ = some (.int .i64 0) := by rw [(HC9f.out.on hbg).cell]; rfl
    clear hbg Nf1 HMf1 HC9f e32
    go_wp2_with (first | (go_at_call 15; refine (len_nob none _ (Ng1.out.nil)).mono ?_; rintro r w' ⟨rfl, hw'⟩; subst w') | (go_at_call 16; refine (runs_nob none _ (Ng1.out.nil)).mono ?_; rintro r w' ⟨rfl, hw'⟩; subst w') | (go_at_call 9; refine (clone_nob none _ (Ng1.out.nil)).mono ?_; rintro r w' ⟨rfl, hw'⟩; subst w'))
    clear c9
    have N1 : Hid (NS16 w Wg1 ga gi b A [D1]) := hide ⟨Ng1.out.ca, Ng1.out.ci, Ng1.out.cb, Ng1.out.bel, HMg1.out⟩
    clear Ng1 HMg1
    rw [rounds_succ]
    have d0 : Wg1.cell? ⟨b, 1, none⟩ = some (.pointer (some ⟨gi, 0, none⟩)) := by rw [N1.out.cb.cell]; rfl
    go_wp2_with fail
    have C9 : Blk (Wg1.alloc (.cells #[.int .i64 0] 3)) Wg1.heap.size 3 [.int .i64 0] := Blk.made _ _ _
    have N92 := hide (N1.out.on ((Below.refl Wg1.heap.size Wg1).alloc (Nat.le_refl _) (.cells #[.int .i64 0] 3)))
    clear d0
    revert C9 N92
    generalize Wg1.alloc (.cells #[.int .i64 0] 3) = W92
    generalize Wg1.heap.size = b92
    intro C9 N92
    have HC9 := hide C9
    clear C9
    refine (all_mk (some ⟨gi, 0, none⟩) _).mono ?_
    rintro r Wa2 ⟨x1, rfl, _, _, hba⟩
    have Na2 := hide (N92.out.on hba)
    have HC9a := hide (HC9.out.on hba)
    clear hba N92 HC9
    have heq : ∀ v : World, (binOp BinOp.eql 45 (.func (.func 23) #[] #[.pointer (some ⟨x1, 0, none⟩)]) .nilFunc).run Try.prog v = .ok (.bool false) v := fun v => by kernel_rfl
    go_wp2_with fail
    refine (all_mk (some ⟨gi, 0, none⟩) _).mono ?_
    rintro r Wd2 ⟨x2, rfl, BX, _, hbd⟩
    have Nd2 := hide (Na2.out.on hbd)
    have HC9d := hide (HC9a.out.on hbd)
    clear hbd Na2 HC9a heq
    have hws2 : w.heap.size ≤ Wd2.heap.size := Nd2.out.bel.size
    have hmk2 : ∀ D ∈ [D1], D < Wd2.heap.size := fun D hD => (Array.getElem?_eq_some_iff.1 (Nd2.out.marks D hD)).1
    have HEM := hide (all_nob (α := Unit) (some ⟨gi, 0, none⟩) x2 5 Wd2 (Nd2.out.bare) BX (fun _ => #[.bool true, .bool true]) 0 (fun _ _ => True))
    clear BX
    go_wp2_with fail
    refine (wpIn_wide (n := 6)).1 ?_
    refine rangeD (t := 0) (Kp := fun _ _ => True) (L := ([] : List Unit)) (encs := fun _ => #[.bool true, .bool true]) rfl (by decide) (gf := 23) (lb := #[.pointer (some ⟨x2, 0, none⟩)]) rfl trivial (enters_of Try.func23 (by kernel_rfl) rfl) HEM.out (fun _ _ => trivial) (fun _ _ _ _ _ _ => trivial) (fun _ _ _ => trivial) (fun _ => rfl)
      (fun _ V => Below Wd2.heap.size Wd2 V) (fun _ _ _ => False) (fun _ A C row h hg hr => h.grown hg h.size (fun r e => (hr r e).1)) (fun _ _ _ _ _ h _ _ => h) (Below.refl _ _) (fun _ _ => ⟨#[], []⟩) (fun _ _ _ => True) (fun _ _ _ _ _ _ _ h => h) (fun _ _ _ _ h => absurd h (by simp)) (fun _ _ _ _ _ h => absurd h (by simp)) ?done2 ?stop2
    case stop2 =>
      rintro D c i W _ _ h
      exact h.elim
    case done2 =>
      rintro D2 W2 hD2 hb hk
      have hDw2 : w.heap.size ≤ D2 := by omega
      have HN2 := hide (Nd2.out.on hb)
      have HM2 : Hid (MK (D2 :: [D1]) W2) := hide (mk_cons hk HN2.out.marks)
      have hc9 : Blk W2 b92 3 [.int .i64 0] := HC9d.out.on hb
      have HC9 := hide hc9
      clear hb hk HC9d Nd2 HEM hc9
      go_wp2_with (refine step_load wideD rfl rfl HN2.out.ca (u8s d) (by rw [u8s_length, HD.out]) (by rw [List.drop_zero]; exact HA.out.1) ?_)
      refine (find_nob (some ⟨gi, 0, none⟩) _ (HN2.out.bare) d).mono ?_
      rintro r Wf2 ⟨rfl, hbf⟩
      have Nf2 := hide (HN2.out.on hbf)
      have HMf2 := hide (HM2.out.on hbf)
      have HC9f := hide (HC9.out.on hbf)
      clear hbf HN2 HM2 HC9
      have e32 : Wf2.cell? ⟨ga, 32, none⟩ = some (.int .i64 q) := by rw [Nf2.out.ca.cell]; exact HA.out.2
      go_wp2_with (refine step_load wideD rfl rfl Nf2.out.ca (u8s d) (by rw [u8s_length, HD.out]) (by rw [List.drop_zero]; exact HA.out.1) ?_)
      refine (add_nob (some ⟨gi, 0, none⟩) _ (Nf2.out.bare) d q).mono ?_
      rintro r Wg2 ⟨rfl, hbg⟩
      have Ng2 := hide (Nf2.out.on hbg)
      have HMg2 := hide (HMf2.out.on hbg)
      have c9 : Wg2.cell? ⟨b92, 0, none⟩ = some (.int .i64 0) := by rw [(HC9f.out.on hbg).cell]; rfl
      clear hbg Nf2 HMf2 HC9f e32
      go_wp2_with (first | (go_at_call 15; refine (len_nob (some ⟨gi, 0, none⟩) _ (Ng2.out.bare)).mono ?_; rintro r w' ⟨rfl, hw'⟩; subst w') | (go_at_call 16; refine (runs_nob (some ⟨gi, 0, none⟩) _ (Ng2.out.bare)).mono ?_; rintro r w' ⟨rfl, hw'⟩; subst w') | (go_at_call 9; refine (clone_nob (some ⟨gi, 0, none⟩) _ (Ng2.out.bare)).mono ?_; rintro r w' ⟨rfl, hw'⟩; subst w'))
      clear c9
      rw [rounds_succ]
      go_wp2
      have hlt1 : D1 < Wd2.heap.size := hmk2 D1 (by simp)
      have hDD : D2 ≠ D1 := by omega
      exact (leaves_marks (B := w.heap.size) (J := fun V => Below w.heap.size w V) (fun V D h hB hD => h.trans (belowK_b (w := w) (Nat.le_refl _) _ D _ (.deferred none) hB hD rfl rfl)) (fun V h => ⟨.bool true, by simp [results, Try.f4, go_sem], rfl, h⟩) [D2, D1] Wg2 (by simp [hDD]) (fun E hE => by simp at hE; omega) HMg2.out Ng2.out.bel)

end Go.Proofs.Ytabpfbankinojaa
