/-
  The walk of NodeSpans.
-/
import Derived.Test.YtlniffmhihhkcaaSr
namespace Go.Proofs.Ytlniffmhihhkcaa
open Go.RowKit
set_option linter.unusedVariables false

theorem namesS_any (w : World) : Calls Try.prog 14 #[] w fun e w' => e = .returned (.bool true) ∧ w' = w := by
  go_enter Try.func14, Try.ntmps14
  go_wp2
  go_ret
  exact ⟨rfl, rfl⟩

/-- Only one row may have turned. -/
structure ButO (o : Option Nat) (w w' : World) : Prop where
  os : w'.os = w.os
  tape : w'.tape = w.tape
  output : w'.output = w.output
  size : w'.heap.size = w.heap.size
  block : ∀ k, o ≠ some k → w'.heap[k]? = w.heap[k]?
theorem ButO.refl (o : Option Nat) (w : World) : ButO o w w := ⟨rfl, rfl, rfl, rfl, fun _ _ => rfl⟩
theorem ButO.but {g : Nat} {a b c : World} (h : ButO (some g) a b) (k : But g b c) : ButO (some g) a c := ⟨k.os.trans h.os, k.tape.trans h.tape, k.output.trans h.output, k.size.trans h.size, fun i hi => (k.block i (fun e => hi (by rw [e]))).trans (h.block i hi)⟩
theorem ButO.below {o : Option Nat} {B : Nat} {w w' : World} (h : ButO o w w') (hB : ∀ k, o = some k → B ≤ k) : Below B w w' :=
  ⟨h.os, h.tape, h.output, Nat.le_of_eq h.size.symm, fun k hk => h.block k (fun e => by have := hB k e; omega)⟩
theorem OwnS.butO {w w' : World} {B : Nat} {v : Value} {ns : List (Nat × Nat)} {o : Option Nat} (h : OwnS w B v ns) (hb : ButO o w w') (ho : ∀ k, v.ownBlock = some k → o ≠ some k) : OwnS w' B v ns := by
  obtain ⟨h1, h2⟩ := h
  refine ⟨h1, ?_⟩
  rcases h2 with h2 | ⟨k, cap, cur, rfl, hk, hh, r⟩
  · exact .inl h2
  · exact .inr ⟨k, cap, cur, rfl, hk, by rw [hb.block k (ho k rfl)]; exact hh, r⟩
/-- What is being spoiled. -/
structure Spo (W wr : World) (v : Value) (n : Nat) : Prop where
  but : ButO v.ownBlock W wr
  row : ∀ j, j < n → ∃ g cap cs, v = .slice (some ⟨g, 0, none⟩) n cap ∧ Blk wr g 25 cs ∧ n * 2 ≤ cs.length
theorem OwnS.spo {w : World} {B : Nat} {v : Value} {ns : List (Nat × Nat)} (h : OwnS w B v ns) : Spo w w v ns.length := by
  refine ⟨ButO.refl _ _, fun j hj => ?_⟩
  rcases h.lies with ⟨_, rfl⟩ | ⟨g, cap, cs, e, _, hb, h1, _, h3, _⟩
  · exact absurd hj (by simp)
  · exact ⟨g, cap, cs, e, hb, by omega⟩

/-- Two slices of the same spans are the same. -/
theorem same_ok (B B' : Nat) (v v' : Value) (ns : List (Nat × Nat)) (w : World) (hn : ns.length ≤ 1048576) (h : OwnS w B v ns) (h' : OwnS w B' v' ns) :
    Calls Try.prog 20 #[v, v'] w fun r w' => r = .returned (.bool true) ∧ Below w.heap.size w w' := by
  obtain ⟨n, hnn⟩ : ∃ n, ns.length = n := ⟨_, rfl⟩
  obtain ⟨a, c, rfl, _⟩ := h.len
  obtain ⟨a', c', rfl, _⟩ := h'.len
  rw [hnn] at h h' hn ⊢
  have H := hide h
  have H' := hide h'
  have HN := hide hnn
  clear h h' hnn
  have hn1 : (n : Int) ≤ 1048576 := by omega
  go_enter Try.func20, Try.ntmps20
  go_wp2_with fail
  go_loopw [5] (fun s wr => ∃ j q : Nat, s = .int .i64 (j : Int) ∧ j ≤ n ∧ wr = w.drewN q) (fun s _ => n - (intOf s).toNat)
  case atStart => exact ⟨0, 0, rfl, Nat.zero_le _, rfl⟩
  case round =>
    obtain ⟨j, q, rfl, hj, rfl⟩ := hrel
    by_cases hlt : j < n
    · have hlt' : (j : Int) < (n : Int) := by omega
      obtain ⟨p, hp⟩ : ∃ p, ns[j]? = some p := ⟨_, List.getElem?_eq_getElem (by rw [HN.out]; exact hlt)⟩
      obtain ⟨g, rfl⟩ : ∃ g, a = some ⟨g, 0, none⟩ := by
        rcases H.out.lies with ⟨e, e2⟩ | ⟨g, cap, cs, e, _⟩
        · rw [e2] at hp; simp at hp
        · injection e with e _ _; exact ⟨g, e⟩
      obtain ⟨g', rfl⟩ : ∃ g, a' = some ⟨g, 0, none⟩ := by
        rcases H'.out.lies with ⟨e, e2⟩ | ⟨g, cap, cs, e, _⟩
        · rw [e2] at hp; simp at hp
        · injection e with e _ _; exact ⟨g, e⟩
      obtain ⟨c0, c1⟩ := H.out.cells j p hp
      obtain ⟨d0, d1⟩ := H'.out.cells j p hp
      have x1 := atS g n c j (j : Int) rfl hlt
      have x2 := atS g' n c' j (j : Int) rfl hlt
      obtain ⟨p1, p2⟩ := p
      simp only at c0 c1 d0 d1
      have HP := hide hp
      clear hp
      go_wp2_with fail
      go_quiet (fail)
      go_wp2
      go_roundw
      case rel => exact ⟨j + 1, _, by simp, hlt, rfl⟩
      case measure => simp only [intOf]; omega
    · obtain rfl : j = n := by omega
      go_wp2
      go_ret
      exact ⟨rfl, (Below.refl _ _).trans ⟨rfl, rfl, rfl, Nat.le_refl _, fun _ _ => rfl⟩⟩

/-- Both tell the same of any numbers. -/
theorem spans_same (a n : Int) : ∃ (L : List (Nat × Nat)) (e : Int), L.length ≤ 1048576 ∧ (∀ w : World, Calls Try.prog 16 #[.int .i64 a, .int .i64 n] w fun r w' => ∃ v, r = .returned (.tuple #[v, .int .i64 e]) ∧ OwnS w' w.heap.size v L ∧ Below w.heap.size w w') ∧
    (∀ w : World, Calls Try.prog 18 #[.int .i64 a, .int .i64 n] w fun r w' => ∃ v, r = .returned (.tuple #[v, .int .i64 e]) ∧ OwnS w' w.heap.size v L ∧ Below w.heap.size w w') := by
  by_cases h : a < 0 ∨ n ≤ a ∨ 281474976710656 < n
  · exact ⟨[], 40, by simp, fun w => (spans_bad a n w h).mono fun r w' ⟨hr, hb⟩ => ⟨_, hr, OwnS.nil _ _, hb⟩, fun w => (spansR_bad a n w h).mono fun r w' ⟨hr, hb⟩ => ⟨_, hr, OwnS.nil _ _, hb⟩⟩
  · obtain ⟨i, rfl⟩ : ∃ i : Nat, a = (i : Int) := ⟨a.toNat, by omega⟩
    obtain ⟨m, rfl⟩ : ∃ m : Nat, n = (m : Int) := ⟨n.toNat, by omega⟩
    refine ⟨spL i 0 m, 0, ?_, fun w => spans_ok i m w (by omega) (by omega), fun w => spansR_ok i m w (by omega) (by omega)⟩
    unfold spL
    rw [List.length_reverse]
    exact Nat.le_trans (dw_few (endsI i) (Nat.zero_le _) (by omega) (by omega)) (by decide)
theorem steps_same (a n : Int) : ∃ (L : List (Nat × Nat)) (e : Int), L.length ≤ 1048576 ∧ (∀ w : World, Calls Try.prog 17 #[.int .i64 a, .int .i64 n] w fun r w' => ∃ v, r = .returned (.tuple #[v, .int .i64 e]) ∧ OwnS w' w.heap.size v L ∧ Below w.heap.size w w') ∧
    (∀ w : World, Calls Try.prog 19 #[.int .i64 a, .int .i64 n] w fun r w' => ∃ v, r = .returned (.tuple #[v, .int .i64 e]) ∧ OwnS w' w.heap.size v L ∧ Below w.heap.size w w') := by
  by_cases h : a < 1 ∨ n < a ∨ 281474976710656 < n
  · exact ⟨[], 40, by simp, fun w => (steps_bad a n w h).mono fun r w' ⟨hr, hb⟩ => ⟨_, hr, OwnS.nil _ _, hb⟩, fun w => (stepsR_bad a n w h).mono fun r w' ⟨hr, hb⟩ => ⟨_, hr, OwnS.nil _ _, hb⟩⟩
  · obtain ⟨i, rfl⟩ : ∃ i : Nat, a = (i : Int) := ⟨a.toNat, by omega⟩
    obtain ⟨m, rfl⟩ : ∃ m : Nat, n = (m : Int) := ⟨n.toNat, by omega⟩
    refine ⟨stL i 0 m, 0, ?_, fun w => steps_ok i m w (by omega) (by omega) (by omega), fun w => stepsR_ok i m w (by omega) (by omega) (by omega)⟩
    unfold stL
    rw [List.length_reverse, List.length_append]
    have h5 := dw_few (stop := stopM i) (b := 0) (n := m) (endsM i (by omega)) (Nat.zero_le _) (by omega) (by omega)
    have h6 : (tlast (dw (stopM i) (i - 1) 0 m).2).length ≤ 1 := by unfold tlast; split <;> simp
    omega

/-- Slices of the call's own, each made behind the ones ahead of it. -/
structure Ow (w0 w : World) (l : List (Nat × Value × List (Nat × Nat))) : Prop where
  bel : Below w0.heap.size w0 w
  own : ∀ x ∈ l, OwnS w x.1 x.2.1 x.2.2 ∧ w0.heap.size ≤ x.1
theorem Ow.nil (w : World) : Ow w w [] := ⟨Below.refl _ _, fun _ h => by cases h⟩
theorem Ow.push {w0 w w' : World} {l : List (Nat × Value × List (Nat × Nat))} {v : Value} {ns : List (Nat × Nat)} (h : Ow w0 w l) (ho : OwnS w' w.heap.size v ns) (hb : Below w.heap.size w w') : Ow w0 w' ((w.heap.size, v, ns) :: l) :=
  ⟨on_below h.bel hb, fun x hx => by
    rcases List.mem_cons.1 hx with rfl | hx
    · exact ⟨ho, h.bel.size⟩
    · exact ⟨(h.own x hx).1.below hb, (h.own x hx).2⟩⟩
theorem Ow.on {w0 w w' : World} {l : List (Nat × Value × List (Nat × Nat))} (h : Ow w0 w l) (hb : Below w.heap.size w w') : Ow w0 w' l := ⟨on_below h.bel hb, fun x hx => ⟨(h.own x hx).1.below hb, (h.own x hx).2⟩⟩
theorem Ow.at {w0 w : World} {l : List (Nat × Value × List (Nat × Nat))} (h : Ow w0 w l) (i : Nat) {x : Nat × Value × List (Nat × Nat)} (hx : l[i]? = some x) : OwnS w x.1 x.2.1 x.2.2 := (h.own x (List.mem_of_getElem? hx)).1

/-- The first of them is spoiled. -/
theorem Ow.spoil {w0 w w' : World} {l : List (Nat × Value × List (Nat × Nat))} {x : Nat × Value × List (Nat × Nat)} (h : Ow w0 w (l ++ [x])) (hb : ButO x.2.1.ownBlock w w') (hk : ∀ k, x.2.1.ownBlock = some k → w0.heap.size ≤ k ∧ ∀ y ∈ l, k < y.1) : Ow w0 w' l :=
  ⟨h.bel.trans (hb.below fun k e => (hk k e).1), fun y hy => by
    obtain ⟨h1, h2⟩ := h.own y (List.mem_append_left _ hy)
    exact ⟨h1.butO hb (fun k e1 e2 => by have := (hk k e2).2 y hy; have := (h1.lt k e1).1; omega), h2⟩⟩
set_option maxRecDepth 100000 in
set_option maxHeartbeats 4000000 in
theorem nodeSpans_walk (a n : Int) (w : World) (ha : -9223372036854775808 ≤ a) (ha' : a ≤ 9223372036854775807) (hn : -9223372036854775808 ≤ n) (hn' : n ≤ 9223372036854775807) :
    Calls Try.prog 4 #[.int .i64 a, .int .i64 n] w fun r w' => r = .returned (.bool true) ∧ Below w.heap.size w w' := by
  obtain ⟨L, e1, hL, hp1, hr1⟩ := spans_same a n
  obtain ⟨M, e2, hM, hp2, hr2⟩ := steps_same a n
  obtain ⟨lL, HL⟩ : ∃ l, Hid (L.length = l) := ⟨_, hide rfl⟩
  obtain ⟨lM, HM⟩ : ∃ l, Hid (M.length = l) := ⟨_, hide rfl⟩
  have hlL : (lL : Int) ≤ 1048576 := by have := HL.out; omega
  have hlM : (lM : Int) ≤ 1048576 := by have := HM.out; omega
  have P1 := hide hp1
  have R1 := hide hr1
  have P2 := hide hp2
  have R2 := hide hr2
  have A0 := hide (Ow.nil w)
  clear hp1 hr1 hp2 hr2
  go_enter Try.func4, Try.ntmps4
  go_wp2_with fail
  refine (P1.out _).mono ?_
  rintro r w1 ⟨v1, rfl, ho, hb⟩
  obtain ⟨av1, cv1, ev1, _⟩ := ho.len
  rw [HL.out] at ev1
  have A1 := hide (A0.out.push ho hb)
  have s1 := hb.size
  have dv1 := ho.lt
  rw [ev1] at A1
  subst ev1
  have Dv1 := hide dv1
  clear ho hb dv1 A0
  go_wp2_with fail
  refine (P2.out _).mono ?_
  rintro r w2 ⟨v2, rfl, ho, hb⟩
  obtain ⟨av2, cv2, ev2, _⟩ := ho.len
  rw [HM.out] at ev2
  have A2 := hide (A1.out.push ho hb)
  have s2 := hb.size
  have dv2 := ho.lt
  rw [ev2] at A2
  subst ev2
  have Dv2 := hide dv2
  clear ho hb dv2 A1
  go_wp2_with fail
  refine (P1.out _).mono ?_
  rintro r w3 ⟨v3, rfl, ho, hb⟩
  obtain ⟨av3, cv3, ev3, _⟩ := ho.len
  rw [HL.out] at ev3
  have A3 := hide (A2.out.push ho hb)
  have s3 := hb.size
  have dv3 := ho.lt
  rw [ev3] at A3
  subst ev3
  have Dv3 := hide dv3
  clear ho hb dv3 A2
  go_wp2_with fail
  refine (P2.out _).mono ?_
  rintro r w4 ⟨v4, rfl, ho, hb⟩
  obtain ⟨av4, cv4, ev4, _⟩ := ho.len
  rw [HM.out] at ev4
  have A4 := hide (A3.out.push ho hb)
  have s4 := hb.size
  have dv4 := ho.lt
  rw [ev4] at A4
  subst ev4
  have Dv4 := hide dv4
  clear ho hb dv4 A3
  go_wp2_with fail
  refine (R1.out _).mono ?_
  rintro r w5 ⟨v5, rfl, ho, hb⟩
  obtain ⟨av5, cv5, ev5, _⟩ := ho.len
  rw [HL.out] at ev5
  have A5 := hide (A4.out.push ho hb)
  have s5 := hb.size
  have dv5 := ho.lt
  rw [ev5] at A5
  subst ev5
  have Dv5 := hide dv5
  clear ho hb dv5 A4
  go_wp2_with fail
  refine (R2.out _).mono ?_
  rintro r w6 ⟨v6, rfl, ho, hb⟩
  obtain ⟨av6, cv6, ev6, _⟩ := ho.len
  rw [HM.out] at ev6
  have A6 := hide (A5.out.push ho hb)
  have s6 := hb.size
  have dv6 := ho.lt
  rw [ev6] at A6
  subst ev6
  have Dv6 := hide dv6
  clear ho hb dv6 A5
  go_wp2_with fail
  refine (same_ok _ _ _ _ L _ hL (A6.out.at 5 rfl) (A6.out.at 1 rfl)).mono ?_
  rintro r w7 ⟨rfl, hb7⟩
  have A7 := hide (A6.out.on hb7)
  have s7 := hb7.size
  clear hb7 A6
  go_wp2_with fail
  refine (same_ok _ _ _ _ M _ hM (A7.out.at 4 rfl) (A7.out.at 0 rfl)).mono ?_
  rintro r w8 ⟨rfl, hb8⟩
  have A8 := hide (A7.out.on hb8)
  have s8 := hb8.size
  clear hb8 A7
  go_wp2_with fail
  go_loopw [17] (fun s wr => ∃ j : Nat, s = .int .i64 (j : Int) ∧ j ≤ lL ∧ Hid (Spo w8 wr (.slice av1 lL cv1) lL)) (fun s _ => lL - (intOf s).toNat)
  case atStart => exact ⟨0, rfl, Nat.zero_le _, hide (by have := (A8.out.at 5 rfl).spo; rwa [HL.out] at this)⟩
  case round =>
    obtain ⟨j, rfl, hj, SP⟩ := hrel
    by_cases hlt : j < lL
    · have hlt' : (j : Int) < (lL : Int) := by omega
      obtain ⟨g, cap, cs, e, hbk, hle⟩ := SP.out.row j hlt
      injection e with e1 e2 e3
      have x1 := atS g lL cv1 j (j : Int) rfl hlt
      have BK := hide hbk
      have c1 : wr.cell? ⟨g, j * 2 + 1, none⟩ = some (cs[j * 2 + 1]'(by omega)) := by rw [hbk.cell, List.getElem?_eq_getElem (by omega)]
      have f1 := hbk.free (j * 2 + 1)
      rw [e1] at SP ⊢
      generalize cs[j * 2 + 1]'(by omega) = u at c1
      clear hbk e1 e2 e3
      go_wp2
      go_roundw
      case rel =>
        refine ⟨j + 1, by simp, hlt, hide ⟨SP.out.but.but (But.setCell _ _ _ _), fun i0 hi0 => ⟨g, _, _, rfl, BK.out.set _ _, ?_⟩⟩⟩
        rw [List.length_set]
        exact hle
      case measure => simp only [intOf]; omega
    · obtain rfl : j = lL := by omega
      have A9 : Hid (Ow w wr [(w5.heap.size, .slice av6 lM cv6, M), (w4.heap.size, .slice av5 j cv5, L), (w3.heap.size, .slice av4 lM cv4, M), (w2.heap.size, .slice av3 j cv3, L), (w1.heap.size, .slice av2 lM cv2, M)]) :=
        hide (Ow.spoil (x := (w.heap.size, .slice av1 j cv1, L)) A8.out SP.out.but (fun k hk => ⟨(Dv1.out k hk).1, fun y hy => by
          have := (Dv1.out k hk).2
          simp at hy
          rcases hy with rfl | rfl | rfl | rfl | rfl <;> simp only <;> omega⟩))
      clear A8 SP
      go_wp2_with fail
      go_loopw [18] (fun s wx => ∃ i : Nat, s = .int .i64 (i : Int) ∧ i ≤ lM ∧ Hid (Spo wr wx (.slice av2 lM cv2) lM)) (fun s _ => lM - (intOf s).toNat)
      case atStart => exact ⟨0, rfl, Nat.zero_le _, hide (by have := (A9.out.at 4 rfl).spo; rwa [HM.out] at this)⟩
      case round =>
        obtain ⟨i, rfl, hi, SP⟩ := hrel
        by_cases hlt : i < lM
        · have hlt' : (i : Int) < (lM : Int) := by omega
          obtain ⟨g, cap, cs, e, hbk, hle⟩ := SP.out.row i hlt
          injection e with e1 e2 e3
          have x1 := atS g lM cv2 i (i : Int) rfl hlt
          have BK := hide hbk
          have c1 : wr.cell? ⟨g, i * 2 + 1, none⟩ = some (cs[i * 2 + 1]'(by omega)) := by rw [hbk.cell, List.getElem?_eq_getElem (by omega)]
          have f1 := hbk.free (i * 2 + 1)
          rw [e1] at SP ⊢
          generalize cs[i * 2 + 1]'(by omega) = u at c1
          clear hbk e1 e2 e3
          go_wp2
          go_roundw
          case rel =>
            refine ⟨i + 1, by simp, hlt, hide ⟨SP.out.but.but (But.setCell _ _ _ _), fun i0 hi0 => ⟨g, _, _, rfl, BK.out.set _ _, ?_⟩⟩⟩
            rw [List.length_set]
            exact hle
          case measure => simp only [intOf]; omega
        · obtain rfl : i = lM := by omega
          have Aa : Hid (Ow w wr [(w5.heap.size, .slice av6 i cv6, M), (w4.heap.size, .slice av5 j cv5, L), (w3.heap.size, .slice av4 i cv4, M), (w2.heap.size, .slice av3 j cv3, L)]) :=
            hide (Ow.spoil (x := (w1.heap.size, .slice av2 i cv2, M)) A9.out SP.out.but (fun k hk => ⟨Nat.le_trans s1 (Dv2.out k hk).1, fun y hy => by
              have := (Dv2.out k hk).2
              simp at hy
              rcases hy with rfl | rfl | rfl | rfl <;> simp only <;> omega⟩))
          clear A9 SP
          go_wp2_with fail
          refine (same_ok _ _ _ _ L _ hL (Aa.out.at 3 rfl) (Aa.out.at 1 rfl)).mono ?_
          rintro r wb ⟨rfl, hbb⟩
          have Ab := hide (Aa.out.on hbb)
          clear hbb Aa
          go_wp2_with fail
          refine (same_ok _ _ _ _ M _ hM (Ab.out.at 2 rfl) (Ab.out.at 0 rfl)).mono ?_
          rintro r wc ⟨rfl, hbc⟩
          have Ac := hide (Ab.out.on hbc)
          clear hbc Ab
          go_wp2_with (go_at_call 14; refine (namesS_any _).mono ?_; rintro r w' ⟨rfl, rfl⟩)
          go_ret
          exact ⟨rfl, Ac.out.bel⟩

end Go.Proofs.Ytlniffmhihhkcaa
