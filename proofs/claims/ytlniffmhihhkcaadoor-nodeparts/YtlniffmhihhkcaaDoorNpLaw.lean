/-
  The walk of NodeParts.
-/
import Derived.Test.YtlniffmhihhkcaaDoorPv
namespace Go.Proofs.YtlniffmhihhkcaaDoor
open Go.RowKit
set_option linter.unusedVariables false

theorem namesP_any (w : World) : Calls Tryd.prog 8 #[] w fun e w' => e = .returned (.bool true) ∧ w' = w := by
  go_enter Tryd.func8, Tryd.ntmps8
  go_wp2
  go_ret
  exact ⟨rfl, rfl⟩
/-- Only one row may have turned. -/
structure ButO (o : Option Nat) (w w' : World) : Prop where
  os : w'.os = w.os
  tape : w'.tape = w.tape
  output : w'.output = w.output
  size : w'.heap.size = w.heap.size
  block : ∀ k, o ≠ some k → w'.heap[k]? = w.heap[k]?
theorem ButO.refl (o : Option Nat) (w : World) : ButO o w w := ⟨rfl, rfl, rfl, rfl, fun _ _ => rfl⟩
theorem ButO.but {g : Nat} {a b c : World} (h : ButO (some g) a b) (k : But g b c) : ButO (some g) a c := ⟨k.os.trans h.os, k.tape.trans h.tape, k.output.trans h.output, k.size.trans h.size, fun i hi => (k.block i (fun e => hi (by rw [e]))).trans (h.block i hi)⟩
theorem ButO.below {o : Option Nat} {B : Nat} {w w' : World} (h : ButO o w w') (hB : ∀ k, o = some k → B ≤ k) : Below B w w' :=
  ⟨h.os, h.tape, h.output, Nat.le_of_eq h.size.symm, fun k hk => h.block k (fun e => by have := hB k e; omega)⟩
theorem OwnM.butO {w w' : World} {B : Nat} {v : Value} {ns : List (Nat × Nat)} {o : Option Nat} (h : OwnM w B v ns) (hb : ButO o w w') (ho : ∀ k, v.ownBlock = some k → o ≠ some k) : OwnM w' B v ns := by
  obtain ⟨h1, h2⟩ := h
  refine ⟨h1, ?_⟩
  rcases h2 with h2 | ⟨k, cap, cur, rfl, hk, hh, r⟩
  · exact .inl h2
  · exact .inr ⟨k, cap, cur, rfl, hk, by rw [hb.block k (ho k rfl)]; exact hh, r⟩
/-- What is being spoiled. -/
structure Spo (W wr : World) (v : Value) (n : Nat) : Prop where
  but : ButO v.ownBlock W wr
  row : ∀ j, j < n → ∃ g cap cs, v = .slice (some ⟨g, 0, none⟩) n cap ∧ Blk wr g 32 cs ∧ n * 2 ≤ cs.length
theorem OwnM.spo {w : World} {B : Nat} {v : Value} {ns : List (Nat × Nat)} (h : OwnM w B v ns) : Spo w w v ns.length := by
  refine ⟨ButO.refl _ _, fun j hj => ?_⟩
  rcases h.lies with ⟨_, rfl⟩ | ⟨g, cap, cs, e, _, hb, h1, _, h3, _⟩
  · exact absurd hj (by simp)
  · exact ⟨g, cap, cs, e, hb, by omega⟩

/-- Two slices of the same spans are the same. -/
theorem same_ok (B B' : Nat) (v v' : Value) (ns : List (Nat × Nat)) (w : World) (hn : ns.length ≤ 1048576) (h : OwnM w B v ns) (h' : OwnM w B' v' ns) :
    Calls Tryd.prog 7 #[v, v'] w fun r w' => r = .returned (.bool true) ∧ Below w.heap.size w w' := by
  obtain ⟨n, hnn⟩ : ∃ n, ns.length = n := ⟨_, rfl⟩
  obtain ⟨a, c, rfl, _⟩ := h.len
  obtain ⟨a', c', rfl, _⟩ := h'.len
  rw [hnn] at h h' hn ⊢
  have H := hide h
  have H' := hide h'
  have HN := hide hnn
  clear h h' hnn
  have hn1 : (n : Int) ≤ 1048576 := by omega
  go_enter Tryd.func7, Tryd.ntmps7
  go_wp2_with fail
  go_loopw [5] (fun s wr => ∃ j q : Nat, s = .int .i64 (j : Int) ∧ j ≤ n ∧ wr = w.drewN q) (fun s _ => n - (intOf s).toNat)
  case atStart => exact ⟨0, 0, rfl, Nat.zero_le _, rfl⟩
  case round =>
    obtain ⟨j, q, rfl, hj, rfl⟩ := hrel
    by_cases hlt : j < n
    · have hlt' : (j : Int) < (n : Int) := by omega
      obtain ⟨p, hp⟩ : ∃ p, ns[j]? = some p := ⟨_, List.getElem?_eq_getElem (by rw [HN.out]; exact hlt)⟩
      obtain ⟨g, rfl⟩ : ∃ g, a = some ⟨g, 0, none⟩ := by
        rcases H.out.lies with ⟨e, e2⟩ | ⟨g, cap, cs, e, _⟩
        · rw [e2] at hp; simp at hp
        · injection e with e _ _; exact ⟨g, e⟩
      obtain ⟨g', rfl⟩ : ∃ g, a' = some ⟨g, 0, none⟩ := by
        rcases H'.out.lies with ⟨e, e2⟩ | ⟨g, cap, cs, e, _⟩
        · rw [e2] at hp; simp at hp
        · injection e with e _ _; exact ⟨g, e⟩
      obtain ⟨c0, c1⟩ := H.out.cells j p hp
      obtain ⟨d0, d1⟩ := H'.out.cells j p hp
      have x1 := atM g n c j (j : Int) rfl hlt
      have x2 := atM g' n c' j (j : Int) rfl hlt
      obtain ⟨p1, p2⟩ := p
      simp only at c0 c1 d0 d1
      have HP := hide hp
      clear hp
      go_wp2_with fail
      go_quiet (fail)
      go_wp2
      go_roundw
      case rel => exact ⟨j + 1, _, by simp, hlt, rfl⟩
      case measure => simp only [intOf]; omega
    · obtain rfl : j = n := by omega
      go_wp2
      go_ret
      exact ⟨rfl, (Below.refl _ _).trans ⟨rfl, rfl, rfl, Nat.le_refl _, fun _ _ => rfl⟩⟩

/-- Slices of the call's own, each made behind the ones ahead of it. -/
structure Ow (w0 w : World) (l : List (Nat × Value × List (Nat × Nat))) : Prop where
  bel : Below w0.heap.size w0 w
  own : ∀ x ∈ l, OwnM w x.1 x.2.1 x.2.2 ∧ w0.heap.size ≤ x.1
theorem Ow.nil (w : World) : Ow w w [] := ⟨Below.refl _ _, fun _ h => by cases h⟩
theorem Ow.push {w0 w w' : World} {l : List (Nat × Value × List (Nat × Nat))} {v : Value} {ns : List (Nat × Nat)} (h : Ow w0 w l) (ho : OwnM w' w.heap.size v ns) (hb : Below w.heap.size w w') : Ow w0 w' ((w.heap.size, v, ns) :: l) :=
  ⟨on_below h.bel hb, fun x hx => by
    rcases List.mem_cons.1 hx with rfl | hx
    · exact ⟨ho, h.bel.size⟩
    · exact ⟨(h.own x hx).1.below hb, (h.own x hx).2⟩⟩
theorem Ow.on {w0 w w' : World} {l : List (Nat × Value × List (Nat × Nat))} (h : Ow w0 w l) (hb : Below w.heap.size w w') : Ow w0 w' l := ⟨on_below h.bel hb, fun x hx => ⟨(h.own x hx).1.below hb, (h.own x hx).2⟩⟩
theorem Ow.at {w0 w : World} {l : List (Nat × Value × List (Nat × Nat))} (h : Ow w0 w l) (i : Nat) {x : Nat × Value × List (Nat × Nat)} (hx : l[i]? = some x) : OwnM w x.1 x.2.1 x.2.2 := (h.own x (List.mem_of_getElem? hx)).1

/-- The first of them is spoiled. -/
theorem Ow.spoil {w0 w w' : World} {l : List (Nat × Value × List (Nat × Nat))} {x : Nat × Value × List (Nat × Nat)} (h : Ow w0 w (l ++ [x])) (hb : ButO x.2.1.ownBlock w w') (hk : ∀ k, x.2.1.ownBlock = some k → w0.heap.size ≤ k ∧ ∀ y ∈ l, k < y.1) : Ow w0 w' l :=
  ⟨h.bel.trans (hb.below fun k e => (hk k e).1), fun y hy => by
    obtain ⟨h1, h2⟩ := h.own y (List.mem_append_left _ hy)
    exact ⟨h1.butO hb (fun k e1 e2 => by have := (hk k e2).2 y hy; have := (h1.lt k e1).1; omega), h2⟩⟩

/-- Both tell the same of any span. -/
theorem parts_same (b e : Int) : ∃ (L : List (Nat × Nat)) (x : Int), L.length ≤ 1048576 ∧ (∀ w : World, TT w → Calls Tryd.prog 5 #[.agg #[.int .i64 b, .int .i64 e]] w fun r w' => ∃ v, r = .returned (.tuple #[v, .int .i64 x]) ∧ OwnM w' w.heap.size v L ∧ Below w.heap.size w w') ∧
    (∀ w : World, TT w → Calls Tryd.prog 6 #[.agg #[.int .i64 b, .int .i64 e]] w fun r w' => ∃ v, r = .returned (.tuple #[v, .int .i64 x]) ∧ OwnM w' w.heap.size v L ∧ Below w.heap.size w w') := by
  by_cases h : b < 0 ∨ e < b ∨ 281474976710656 < e
  · exact ⟨[], 40, by simp, fun w _ => (parts_bad b e w h).mono fun r w' ⟨hr, hb⟩ => ⟨_, hr, OwnM.nil _ _, hb⟩, fun w _ => (partsR_bad b e w h).mono fun r w' ⟨hr, hb⟩ => ⟨_, hr, OwnM.nil _ _, hb⟩⟩
  · obtain ⟨i, rfl⟩ : ∃ i : Nat, b = (i : Int) := ⟨b.toNat, by omega⟩
    obtain ⟨m, rfl⟩ : ∃ m : Nat, e = (m : Int) := ⟨e.toNat, by omega⟩
    exact ⟨parts i m, 0, Nat.le_trans (parts_98 i m (by omega)) (by decide), fun w ht => parts_ok i m w (by omega) (by omega) ht, fun w ht => partsR_ok i m w (by omega) (by omega) ht⟩

set_option maxRecDepth 100000 in
set_option maxHeartbeats 4000000 in
theorem nodeParts_walk (b e : Int) (w : World) (hb : (Lit.int .i64 b).wf = true) (he : (Lit.int .i64 e).wf = true) (ht : TT w) :
    Calls Tryd.prog 3 #[.agg #[.int .i64 b, .int .i64 e]] w fun r w' => r = .returned (.bool true) ∧ Below w.heap.size w w' := by
  obtain ⟨L, x, hL, hp1, hr1⟩ := parts_same b e
  obtain ⟨lL, HL⟩ : ∃ l, Hid (L.length = l) := ⟨_, hide rfl⟩
  have hlL : (lL : Int) ≤ 1048576 := by have := HL.out; omega
  have P1 := hide hp1
  have R1 := hide hr1
  have TW := hide ht
  clear hp1 hr1 ht
  go_enter Tryd.func3, Tryd.ntmps3
  go_wp2_with (refine step_box (cs := c2 b e) rfl rfl ?_)
  intro w0 g0 hg0 hle0 hb0
  obtain ⟨c0, c1⟩ := hg0.two
  have A0 := hide (Ow.nil w0)
  have T0 := hide (TW.out.on hb0)
  have BB := hide hb0
  clear hg0 hb0 TW
  go_wp2_with fail
  refine (P1.out _ T0.out).mono ?_
  rintro r w1 ⟨v1, rfl, ho, hb⟩
  obtain ⟨av1, cv1, ev1, _⟩ := ho.len
  rw [HL.out] at ev1
  have A1 := hide (A0.out.push ho hb)
  have T1 := hide (T0.out.on hb)
  have s1 := hb.size
  have dv1 := ho.lt
  replace c0 := cell_kept c0 hb
  replace c1 := cell_kept c1 hb
  rw [ev1] at A1
  subst ev1
  have Dv1 := hide dv1
  clear ho hb dv1 A0 T0
  go_wp2_with fail
  refine (P1.out _ T1.out).mono ?_
  rintro r w2 ⟨v2, rfl, ho, hb⟩
  obtain ⟨av2, cv2, ev2, _⟩ := ho.len
  rw [HL.out] at ev2
  have A2 := hide (A1.out.push ho hb)
  have T2 := hide (T1.out.on hb)
  have s2 := hb.size
  have dv2 := ho.lt
  replace c0 := cell_kept c0 hb
  replace c1 := cell_kept c1 hb
  rw [ev2] at A2
  subst ev2
  have Dv2 := hide dv2
  clear ho hb dv2 A1 T1
  go_wp2_with fail
  refine (R1.out _ T2.out).mono ?_
  rintro r w3 ⟨v3, rfl, ho, hb⟩
  obtain ⟨av3, cv3, ev3, _⟩ := ho.len
  rw [HL.out] at ev3
  have A3 := hide (A2.out.push ho hb)
  have T3 := hide (T2.out.on hb)
  have s3 := hb.size
  have dv3 := ho.lt
  replace c0 := cell_kept c0 hb
  replace c1 := cell_kept c1 hb
  rw [ev3] at A3
  subst ev3
  have Dv3 := hide dv3
  clear ho hb dv3 A2 T2
  go_wp2_with fail
  refine (same_ok _ _ _ _ L _ hL (A3.out.at 2 rfl) (A3.out.at 0 rfl)).mono ?_
  rintro r w7 ⟨rfl, hb7⟩
  have A7 := hide (A3.out.on hb7)
  have s7 := hb7.size
  clear hb7 A3 c0 c1
  go_wp2_with fail
  go_loopw [9] (fun s wr => ∃ j : Nat, s = .int .i64 (j : Int) ∧ j ≤ lL ∧ Hid (Spo w7 wr (.slice av1 lL cv1) lL)) (fun s _ => lL - (intOf s).toNat)
  case atStart => exact ⟨0, rfl, Nat.zero_le _, hide (by have := (A7.out.at 2 rfl).spo; rwa [HL.out] at this)⟩
  case round =>
    obtain ⟨j, rfl, hj, SP⟩ := hrel
    by_cases hlt : j < lL
    · have hlt' : (j : Int) < (lL : Int) := by omega
      obtain ⟨g, cap, cs, e, hbk, hle⟩ := SP.out.row j hlt
      injection e with e1 e2 e3
      have x1 := atM g lL cv1 j (j : Int) rfl hlt
      have BK := hide hbk
      have c1 : wr.cell? ⟨g, j * 2, none⟩ = some (cs[j * 2]'(by omega)) := by rw [hbk.cell, List.getElem?_eq_getElem (by omega)]
      have f1 := hbk.free (j * 2)
      rw [e1] at SP ⊢
      generalize cs[j * 2]'(by omega) = u at c1
      clear hbk e1 e2 e3
      go_wp2
      go_roundw
      case rel =>
        refine ⟨j + 1, by simp, hlt, hide ⟨SP.out.but.but (But.setCell _ _ _ _), fun i0 hi0 => ⟨g, _, _, rfl, BK.out.set _ _, ?_⟩⟩⟩
        rw [List.length_set]
        exact hle
      case measure => simp only [intOf]; omega
    · obtain rfl : j = lL := by omega
      have A9 : Hid (Ow w0 wr [(w2.heap.size, .slice av3 j cv3, L), (w1.heap.size, .slice av2 j cv2, L)]) :=
        hide (Ow.spoil (x := (w0.heap.size, .slice av1 j cv1, L)) A7.out SP.out.but (fun k hk => ⟨(Dv1.out k hk).1, fun y hy => by
          have := (Dv1.out k hk).2
          simp at hy
          rcases hy with rfl | rfl <;> simp only <;> omega⟩))
      clear A7 SP
      go_wp2_with fail
      refine (same_ok _ _ _ _ L _ hL (A9.out.at 1 rfl) (A9.out.at 0 rfl)).mono ?_
      rintro r wb ⟨rfl, hbb⟩
      have Ab := hide (A9.out.on hbb)
      clear hbb A9
      go_wp2_with (go_at_call 8; refine (namesP_any _).mono ?_; rintro r w' ⟨rfl, rfl⟩)
      go_ret
      exact ⟨rfl, on_below BB.out Ab.out.bel⟩

end Go.Proofs.YtlniffmhihhkcaaDoor
