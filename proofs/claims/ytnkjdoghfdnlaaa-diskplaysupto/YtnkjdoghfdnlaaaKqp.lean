/-
  The document's Same.
-/
import Derived.Test.YtnkjdoghfdnlaaaKqo
import Derived.Test.YtnkjdoghfdnlaaaKmj
namespace Go.Proofs.Ytnkjdoghfdnlaaa
open Go.RowKit
set_option linter.unusedVariables false

theorem neqF (a b c d : ByteArray) (e : Bool) (h : (!(a.toList == c.toList && b.toList == d.toList)) = e) (W : World) : (binOp .neq 90 (.agg #[.string a, .string b]) (.agg #[.string c, .string d])).run Try.prog W = .ok (.bool e) W := by
  subst h
  cases h1 : (a.toList == c.toList) <;> cases h2 : (b.toList == d.toList) <;> go_simp
theorem run_neqF {dst : Option Tmp} {ty : TypeId} {pos : String} {aft : Array Edge} {gd : Option (Nat × Bool)} {ac : Act} {w : World} {x y : Operand} {p q : Array Value} {E : Bool} (hx : ac.eval x = .agg p) (hy : ac.eval y = .agg q) (h : (binOp .neq 90 (.agg p) (.agg q)).run Try.prog w = .ok (.bool E) w) :
    (execOp ac.eval ⟨dst, .binOp .neq 90 x y 90, ty, pos, aft, gd⟩).run Try.prog w = .ok (.value (.bool E)) w := by
  unfold execOp
  simp only [hx, hy, Sem.run_bind]
  rw [show (eqGuard .neq 90 x y (.agg p) (.agg q)).run Try.prog w = .ok () w from by kernel_rfl]
  simp only [Result.andThen_ok, h, Sem.run_pure]
theorem file_eqv {xs ys : List Int} {n m : ByteArray} (hx : isB xs) (hy : isB ys) : (n.toList == m.toList && (str xs).toList == (str ys).toList) = true ↔ (n, xs) = (m, ys) := by
  rw [Bool.and_eq_true, str_beq hx hy, decide_eq_true_eq, beq_iff_eq]
  constructor
  · rintro ⟨h1, h2⟩
    rw [bytes_inj h1, h2]
  · intro h
    injection h with h1 h2
    exact ⟨by rw [h1], h2⟩
set_option maxRecDepth 100000 in
set_option maxHeartbeats 1000000 in
theorem sameR_any (r r' s s' : Nat) (rs rs' : List Rw) (R R' : Rm) (b : Bool) (w : World) (h : RkAt w r s rs R) (h' : RkAt w r' s' rs' R') (hw : wt rs ≤ 16777216) (hw' : wt rs' ≤ 16777216) (hb : b = true ↔ play rs = play rs') :
    Calls Try.prog 26 #[.pointer (some ⟨r, 0, none⟩), .pointer (some ⟨r', 0, none⟩)] w fun e w' => e = .returned (.bool b) ∧ Below w.heap.size w w' := by
  have hbl : b = true ↔ R.l = R'.l := by rw [hb]; exact (FL.ext h.fls h'.fls).symm
  have hf1 := h.few2 r s rs R w hw
  have hf2 := h'.few2 r' s' rs' R' w hw'
  have HI1 : Hid (∀ x ∈ R.l, isB x.2) := hide (fun x hx => h.isb ((h.fls.mem x.1 x.2).2 hx))
  have HI2 : Hid (∀ x ∈ R'.l, isB x.2) := hide (fun x hx => h'.isb ((h'.fls.mem x.1 x.2).2 hx))
  obtain ⟨fa, fc, hfv⟩ := row_slice h.fk.row
  obtain ⟨fa', fc', hfv'⟩ := row_slice h'.fk.row
  have HFV := hide hfv
  have HFV' := hide hfv'
  have HK := hide h.fk
  have HK' := hide h'.fk
  have HBL := hide hbl
  clear h h' hw hw' hb hfv hfv' hbl
  generalize hL : R.l.length = L at *
  generalize hL' : R'.l.length = L' at *
  have HL := hide hL
  have HL' := hide hL'
  clear hL hL'
  have HC : Hid (∀ z : World, Below w.heap.size w z → z.cell? ⟨r, 1, none⟩ = some (.slice fa L fc)) := hide (fun z hz => by rw [(HK.out.below hz).blk.cell, ← HFV.out]; rfl)
  have HC' : Hid (∀ z : World, Below w.heap.size w z → z.cell? ⟨r', 1, none⟩ = some (.slice fa' L' fc')) := hide (fun z hz => by rw [(HK'.out.below hz).blk.cell, ← HFV'.out]; rfl)
  have c1 := HC.out _ (Below.refl _ _)
  have c2 := HC'.out _ (Below.refl _ _)
  by_cases hll : L = L'
  · subst hll
    go_enter Try.func26, Try.ntmps26
    go_wp2_with fail
    go_quiet (fail)
    have B0 := hide (below_drewN (Below.refl w.heap.size w) nq)
    revert B0
    generalize w.drewN nq = w1
    intro B0
    clear c1 c2
    go_wp2
    go_loopw [5] (fun i wr => ∃ k : Nat, i = .int .i64 (k : Int) ∧ k ≤ L ∧ Hid (R.l.take k = R'.l.take k) ∧ Hid (Below w.heap.size w wr)) (fun i _ => L - (intOf i).toNat)
    case atStart => exact ⟨0, rfl, Nat.zero_le _, hide rfl, B0⟩
    case round =>
      obtain ⟨k, rfl, hk, HT, HB⟩ := hrel
      have c1 := HC.out _ HB.out
      by_cases hlt : k < L
      · have hlti : (k : Int) < (L : Int) := by omega
        go_wp2_with fail
        obtain ⟨x, hx⟩ : ∃ x, R.l[k]? = some x := ⟨_, List.getElem?_eq_getElem (by rw [HL.out]; exact hlt)⟩
        obtain ⟨y, hy⟩ : ∃ y, R'.l[k]? = some y := ⟨_, List.getElem?_eq_getElem (by rw [HL'.out]; exact hlt)⟩
        obtain ⟨g, cap, cs, e1, hg, _, _, hd1, _, _⟩ := HK.out.file hx
        obtain ⟨g', cap', cs', e1', hg', _, _, hd2, _, _⟩ := HK'.out.file hy
        rw [HFV.out] at e1
        rw [HFV'.out] at e1'
        injection e1 with e1 e2 e3
        injection e1' with e1' e2' e3'
        clear e2 e2'
        subst e1 e3 e1' e3'
        have HIX : Hid (∀ z : World, (Instr.indexAt 73 (.slice (some ⟨g, 0, none⟩) L fc) (.int .i64 (k : Int))).run Try.prog z = .ok (.pointer (some ⟨g, k * 2, none⟩)) z) := hide (fun z => vw_at rFi g L fc k hlt z)
        have HIX' : Hid (∀ z : World, (Instr.indexAt 73 (.slice (some ⟨g', 0, none⟩) L fc') (.int .i64 (k : Int))).run Try.prog z = .ok (.pointer (some ⟨g', k * 2, none⟩)) z) := hide (fun z => vw_at rFi g' L fc' k hlt z)
        have HR1 : Hid (∀ z : World, Below w.heap.size w z → z.rangeAt g (k * 2) [.string x.1, .string (str x.2)]) := hide (fun z hz => (hg.on hz).range _ _ (by simpa using hd1))
        have HR2 : Hid (∀ z : World, Below w.heap.size w z → z.rangeAt g' (k * 2) [.string y.1, .string (str y.2)]) := hide (fun z hz => (hg'.on hz).range _ _ (by simpa using hd2))
        have HIF : Hid ((Try.prog.info? 90).map (·.size) = some 2) := hide wFi.size
        obtain ⟨E, hE⟩ : ∃ E, (!(x.1.toList == y.1.toList && (str x.2).toList == (str y.2).toList)) = E := ⟨_, rfl⟩
        have HNE := hide (neqF x.1 (str x.2) y.1 (str y.2) E hE)
        have heq : E = false ↔ x = y := by
          rw [← hE, Bool.not_eq_false']
          exact file_eqv (HI1.out x (List.mem_of_getElem? hx)) (HI2.out y (List.mem_of_getElem? hy))
        have HEQ := hide heq
        have HX := hide hx
        have HY := hide hy
        clear hg hg' hd1 hd2 hx hy hE heq c1
        refine wp_region_noPanic ?_
        have Z0 := hide (HB.out.drew)
        refine wp_region_held_drew (S := fun z : World => Below w.heap.size w z) (by kernel_rfl) Z0.out (fun hHeld => ?_)
        refine takeH 0 38 (.pointer (some ⟨r, 0, none⟩)) hHeld rfl rfl (by kernel_rfl) (by kernel_rfl) (by kernel_rfl) (fun _ _ _ h => h) (Or.inl ⟨by rfl, fun w _ => by go_simp⟩) ?_
        simp only [Act.put, List.setIfInBounds_toArray, List.set_cons_zero, List.set_cons_succ]
        refine takeH 1 39 (.pointer (some ⟨r, 0, none⟩)) hHeld rfl rfl (by kernel_rfl) (by kernel_rfl) (by kernel_rfl) (fun _ _ _ h => h) (Or.inl ⟨by rfl, fun w _ => by go_simp⟩) ?_
        simp only [Act.put, List.setIfInBounds_toArray, List.set_cons_zero, List.set_cons_succ]
        refine takeH 2 40 (.pointer (some ⟨r, 1, none⟩)) hHeld rfl rfl (by kernel_rfl) (by kernel_rfl) (by kernel_rfl) (fun _ _ _ h => h) (Or.inl ⟨by rfl, fun w _ => by go_simp⟩) ?_
        simp only [Act.put, List.setIfInBounds_toArray, List.set_cons_zero, List.set_cons_succ]
        refine takeH 3 41 (.slice (some ⟨g, 0, none⟩) L fc) hHeld rfl rfl (by kernel_rfl) (by kernel_rfl) (by kernel_rfl) (fun _ _ _ h => h) (Or.inl ⟨by rfl, fun w hw => by have hw' : w.cell? ⟨r, 1, none⟩ = some (.slice (some ⟨g, 0, none⟩) L fc) := (fun hw => HC.out _ hw) hw; go_simp⟩) ?_
        simp only [Act.put, List.setIfInBounds_toArray, List.set_cons_zero, List.set_cons_succ]
        refine takeH 4 42 (.int .i64 (k : Int)) hHeld rfl rfl (by kernel_rfl) (by kernel_rfl) (by kernel_rfl) (fun _ _ _ h => h) (Or.inl ⟨by rfl, fun w _ => by go_simp⟩) ?_
        simp only [Act.put, List.setIfInBounds_toArray, List.set_cons_zero, List.set_cons_succ]
        refine takeH 5 43 (.pointer (some ⟨g, k * 2, none⟩)) hHeld rfl rfl (by kernel_rfl) (by kernel_rfl) (by kernel_rfl) (fun _ _ _ h => h) (Or.inl ⟨by rfl, fun w h => run_op rfl (HIX.out w)⟩) ?_
        simp only [Act.put, List.setIfInBounds_toArray, List.set_cons_zero, List.set_cons_succ]
        refine takeH 6 44 (.agg #[.string x.1, .string (str x.2)]) hHeld rfl rfl (by kernel_rfl) (by kernel_rfl) (by kernel_rfl) (fun _ _ _ h => h) (yieldsIf_load_mid (by rfl) _ _ rfl g (k * 2) rfl _ _ (fun w h => HR1.out w h) Try.underlying90 rfl HIF.out) ?_
        simp only [Act.put, List.setIfInBounds_toArray, List.set_cons_zero, List.set_cons_succ]
        refine takeH 7 45 (.pointer (some ⟨r', 0, none⟩)) hHeld rfl rfl (by kernel_rfl) (by kernel_rfl) (by kernel_rfl) (fun _ _ _ h => h) (Or.inl ⟨by rfl, fun w _ => by go_simp⟩) ?_
        simp only [Act.put, List.setIfInBounds_toArray, List.set_cons_zero, List.set_cons_succ]
        refine takeH 8 46 (.pointer (some ⟨r', 0, none⟩)) hHeld rfl rfl (by kernel_rfl) (by kernel_rfl) (by kernel_rfl) (fun _ _ _ h => h) (Or.inl ⟨by rfl, fun w _ => by go_simp⟩) ?_
        simp only [Act.put, List.setIfInBounds_toArray, List.set_cons_zero, List.set_cons_succ]
        refine takeH 9 47 (.pointer (some ⟨r', 1, none⟩)) hHeld rfl rfl (by kernel_rfl) (by kernel_rfl) (by kernel_rfl) (fun _ _ _ h => h) (Or.inl ⟨by rfl, fun w _ => by go_simp⟩) ?_
        simp only [Act.put, List.setIfInBounds_toArray, List.set_cons_zero, List.set_cons_succ]
        refine takeH 10 48 (.slice (some ⟨g', 0, none⟩) L fc') hHeld rfl rfl (by kernel_rfl) (by kernel_rfl) (by kernel_rfl) (fun _ _ _ h => h) (Or.inl ⟨by rfl, fun w hw => by have hw' : w.cell? ⟨r', 1, none⟩ = some (.slice (some ⟨g', 0, none⟩) L fc') := (fun hw => HC'.out _ hw) hw; go_simp⟩) ?_
        simp only [Act.put, List.setIfInBounds_toArray, List.set_cons_zero, List.set_cons_succ]
        refine takeH 11 49 (.int .i64 (k : Int)) hHeld rfl rfl (by kernel_rfl) (by kernel_rfl) (by kernel_rfl) (fun _ _ _ h => h) (Or.inl ⟨by rfl, fun w _ => by go_simp⟩) ?_
        simp only [Act.put, List.setIfInBounds_toArray, List.set_cons_zero, List.set_cons_succ]
        refine takeH 12 50 (.pointer (some ⟨g', k * 2, none⟩)) hHeld rfl rfl (by kernel_rfl) (by kernel_rfl) (by kernel_rfl) (fun _ _ _ h => h) (Or.inl ⟨by rfl, fun w h => run_op rfl (HIX'.out w)⟩) ?_
        simp only [Act.put, List.setIfInBounds_toArray, List.set_cons_zero, List.set_cons_succ]
        refine takeH 13 51 (.agg #[.string y.1, .string (str y.2)]) hHeld rfl rfl (by kernel_rfl) (by kernel_rfl) (by kernel_rfl) (fun _ _ _ h => h) (yieldsIf_load_mid (by rfl) _ _ rfl g' (k * 2) rfl _ _ (fun w h => HR2.out w h) Try.underlying90 rfl HIF.out) ?_
        simp only [Act.put, List.setIfInBounds_toArray, List.set_cons_zero, List.set_cons_succ]
        refine takeH 14 52 (.bool E) hHeld rfl rfl (by kernel_rfl) (by kernel_rfl) (by kernel_rfl) (fun _ _ _ h => h) (Or.inl ⟨by rfl, fun w h => run_neqF rfl rfl (HNE.out w)⟩) ?_
        simp only [Act.put, List.setIfInBounds_toArray, List.set_cons_zero, List.set_cons_succ]
        refine wpAnyH_done (by kernel_rfl) ?_ _
        refine NoPanic.normal ?_
        clear hHeld
        revert Z0
        generalize wr.drew = w2
        intro Z0
        cases E with
        | true =>
          have hbf : b = false := by
            cases b with
            | false => rfl
            | true =>
              have h1 := HBL.out.1 rfl
              have h2 := HX.out
              rw [h1, HY.out] at h2
              injection h2 with h2
              have := HEQ.out.2 h2.symm
              cases this
          subst hbf
          go_wp2
          go_ret
          exact ⟨rfl, Z0.out⟩
        | false =>
          have HT2 : Hid (R.l.take (k + 1) = R'.l.take (k + 1)) := hide (by
            have hxy := HEQ.out.1 rfl
            have h1 := HX.out
            have h2 := HY.out
            obtain ⟨i1, e1⟩ := List.getElem?_eq_some_iff.1 h1
            obtain ⟨i2, e2⟩ := List.getElem?_eq_some_iff.1 h2
            rw [List.take_succ_eq_append_getElem i1, List.take_succ_eq_append_getElem i2, HT.out, e1, e2, hxy])
          go_wp2
          go_roundw
          case rel => exact ⟨k + 1, by go_num, by omega, HT2, Z0⟩
          case measure => simp [intOf]; omega
      · have hlti : ¬ (k : Int) < (L : Int) := by omega
        have hbt : b = true := HBL.out.2 (by
          have := HT.out
          rw [List.take_of_length_le (by rw [HL.out]; omega), List.take_of_length_le (by rw [HL'.out]; omega)] at this
          exact this)
        subst hbt
        go_wp2
        go_ret
        exact ⟨rfl, HB.out⟩
  · have hlli : ¬ (L : Int) = (L' : Int) := by omega
    have hbf : b = false := by
      cases b with
      | false => rfl
      | true => exact absurd (by rw [← HL.out, ← HL'.out, HBL.out.1 rfl]) hll
    subst hbf
    go_enter Try.func26, Try.ntmps26
    go_wp2_with fail
    go_quiet (fail)
    go_wp2
    go_ret
    exact ⟨rfl, below_drewN (Below.refl _ _) _⟩

end Go.Proofs.Ytnkjdoghfdnlaaa
