/-
  The walk of NodeBeside.
-/
import Derived.Test.YtlniffmhihhkcaaDoorPb2
import Derived.Test.YtlniffmhihhkcaaDoorNd
namespace Go.Proofs.YtlniffmhihhkcaaDoor
open Go.RowKit
set_option linter.unusedVariables false

set_option maxRecDepth 100000 in
theorem beside_bad (b e : Int) (w : World) (h : b < 0 ∨ e < b ∨ 281474976710656 < e) : Calls Tryd.prog 4 #[.agg #[.int .i64 b, .int .i64 e]] w fun r w' => r = .returned (.bool true) ∧ Below w.heap.size w w' := by
  have HBAD := hide (fun v => parts_bad b e v h)
  by_cases h1 : b < 0
  · clear h
    go_enter Tryd.func4, Tryd.ntmps4
    go_wp2_with (refine step_box (cs := c2 b e) rfl rfl ?_; intro w0 g0 hg0 hle0 hb0; obtain ⟨c0, c1⟩ := hg0.two; clear hg0)
    refine (HBAD.out _).mono ?_
    rintro r w1 ⟨rfl, hb1⟩
    replace c0 := cell_kept c0 hb1
    replace c1 := cell_kept c1 hb1
    go_wp2
    go_ret
    exact ⟨rfl, on_below hb0 hb1⟩
  · by_cases h2 : b > e
    · clear h
      go_enter Tryd.func4, Tryd.ntmps4
      go_wp2_with (refine step_box (cs := c2 b e) rfl rfl ?_; intro w0 g0 hg0 hle0 hb0; obtain ⟨c0, c1⟩ := hg0.two; clear hg0)
      refine (HBAD.out _).mono ?_
      rintro r w1 ⟨rfl, hb1⟩
      replace c0 := cell_kept c0 hb1
      replace c1 := cell_kept c1 hb1
      go_wp2
      go_ret
      exact ⟨rfl, on_below hb0 hb1⟩
    · have h3 : e > 281474976710656 := by omega
      clear h
      go_enter Tryd.func4, Tryd.ntmps4
      go_wp2_with (refine step_box (cs := c2 b e) rfl rfl ?_; intro w0 g0 hg0 hle0 hb0; obtain ⟨c0, c1⟩ := hg0.two; clear hg0)
      refine (HBAD.out _).mono ?_
      rintro r w1 ⟨rfl, hb1⟩
      replace c0 := cell_kept c0 hb1
      replace c1 := cell_kept c1 hb1
      go_wp2
      go_ret
      exact ⟨rfl, on_below hb0 hb1⟩

/-- What is kept. -/
structure BI (w0 : World) (b e : Nat) (v : Value) (g : Nat) (w : World) : Prop where
  own : OwnM w w0.heap.size v (parts b e)
  blk : Blk w g 23 (c2 (b : Int) (e : Int))
  bel : Below w0.heap.size w0 w
theorem BI.on {w0 : World} {b e : Nat} {v : Value} {g : Nat} {w w' : World} (h : BI w0 b e v g w) (hb : Below w.heap.size w w') : BI w0 b e v g w' := ⟨h.own.below hb, h.blk.on hb, on_below h.bel hb⟩
theorem BI.new {w0 : World} {b e : Nat} {v : Value} {g g8 : Nat} {w w1 w2 : World} (h : BI w0 b e v g w) (hb : Below w.heap.size w w1) (hle : w.heap.size ≤ g8) (hbut : But g8 w1 w2) : BI w0 b e v g w2 :=
  ⟨(h.own.below hb).but hbut (fun hk => by have := (h.own.lt _ hk).2; omega), (h.blk.on hb).but hbut (by have := h.blk.lt; omega), new_below h.bel hb hle hbut⟩

set_option maxRecDepth 100000 in
set_option maxHeartbeats 2000000 in
theorem beside_ok (b e : Nat) (w : World) (hbe : b ≤ e) (he : e ≤ 281474976710656) (ht : TT w) : Calls Tryd.prog 4 #[.agg #[.int .i64 (b : Int), .int .i64 (e : Int)]] w fun r w' => r = .returned (.bool true) ∧ Below w.heap.size w w' := by
  have HT := hide ht
  obtain ⟨lL, HL⟩ : ∃ l, Hid ((parts b e).length = l) := ⟨_, hide rfl⟩
  have h96 : (lL : Int) ≤ 96 := by have := parts_96 b e he; rw [HL.out] at this; omega
  clear ht
  go_enter Tryd.func4, Tryd.ntmps4
  go_wp2_with (refine step_box (cs := c2 (b : Int) (e : Int)) rfl rfl ?_; intro w0 g1 hg0 hle0 hb0; obtain ⟨c0, c1⟩ := hg0.two; have HG0 := hide hg0; clear hg0)
  refine (parts_ok b e _ hbe he (HT.out.on hb0)).mono ?_
  rintro r w1 ⟨v1, rfl, ho1, hb1⟩
  obtain ⟨av, cv, rfl, _⟩ := ho1.len
  rw [HL.out] at ho1 ⊢
  have C1 : Hid (BI w b e (.slice av lL cv) g1 w1) := hide ⟨ho1.lower hb0.size, HG0.out.on hb1, on_below hb0 hb1⟩
  replace c0 := cell_kept c0 hb1
  replace c1 := cell_kept c1 hb1
  clear ho1 hb1 hb0 HG0
  go_wp2_with fail
  go_loopw [5, 6, 7] (fun s5 s6 s7 wr => ∃ (k : Nat) (f : Bool), s5 = .int .i64 (pbeg b e k : Int) ∧ s6 = .bool f ∧ s7 = .int .i64 (k : Int) ∧ k ≤ lL ∧ Hid (BI w b e (.slice av lL cv) g1 wr) ∧ Hid (f = true → ∃ k', k = k' + 1 ∧ HSp b e k')) (fun _ _ s7 _ => lL - (intOf s7).toNat)
  case atStart => exact ⟨0, false, by rw [pbeg_zero], rfl, rfl, Nat.zero_le _, C1, hide (fun h => by cases h)⟩
  case round =>
    obtain ⟨k, f, rfl, rfl, rfl, hk, CC, HF⟩ := hrel
    clear C1 c0 c1
    obtain ⟨c0, c1⟩ := CC.out.blk.two
    by_cases hlt : k < lL
    · have hlt' : (k : Int) < (lL : Int) := by omega
      have hltp : k < (parts b e).length := by rw [HL.out]; exact hlt
      obtain ⟨g, rfl⟩ : ∃ g, av = some ⟨g, 0, none⟩ := by
        rcases CC.out.own.lies with ⟨e1, e2⟩ | ⟨g, cap, cs, e1, _⟩
        · rw [e2] at hltp; simp at hltp
        · injection e1 with e1 _ _; exact ⟨g, e1⟩
      obtain ⟨hj48, hi48, hsj, huj, hue⟩ := part_node hbe he hltp
      have HNG := hide (nG_get hltp)
      obtain ⟨p0, p1⟩ := CC.out.own.cells k _ HNG.out
      have HLV := hide (fun v => leaves_yes _ _ v (show ((nG b e k).1 : Int) ≤ 48 by omega) hi48)
      rw [hsj, huj] at HLV
      obtain ⟨s, hs⟩ : ∃ s, pbeg b e k = s := ⟨_, rfl⟩
      obtain ⟨u, hu⟩ : ∃ u, pbeg b e (k + 1) = u := ⟨_, rfl⟩
      obtain ⟨j, hj⟩ : ∃ j, (nG b e k).1 = j := ⟨_, rfl⟩
      obtain ⟨i, hi⟩ : ∃ i, (nG b e k).2 = i := ⟨_, rfl⟩
      rw [hs, hu, hj, hi] at HLV
      rw [hj] at p0 hj48
      rw [hi] at p1
      rw [hu] at hue
      rw [hs]
      have HU := hide hu
      have HJ := hide hj
      have HI := hide hi
      clear hsj huj hi48 hs hu hj hi
      have xa := atM g lL cv k (k : Int) rfl hlt
      have hue' : ¬ (u : Int) > (e : Int) := by omega
      go_wp2_with fail
      refine (HLV.out _).mono ?_
      rintro r w3 ⟨rfl, hb3⟩
      have C3 := hide (CC.out.on hb3)
      clear hb3 CC p0 p1 c0 c1
      go_wp2_with (first | (refine step_alloc zS rfl ?_; intro w4 g8 hg4 hle4 hb4; have HG4 := hide hg4; clear hg4) | (refine step_storeA wS rfl rfl rfl HG4.out rfl (One.c2 (s : Int) (u : Int)) rfl ?_))
      intro w5 hg5 hbut5
      have C5 := hide (C3.out.new hb4 hle4 hbut5)
      obtain ⟨d0, d1⟩ := Blk.two (a := (s : Int)) (b := (u : Int)) hg5
      obtain ⟨c0, c1⟩ := C5.out.blk.two
      have pp := C5.out.own.cells k _ HNG.out
      rw [HJ.out, HI.out] at pp
      obtain ⟨p0, p1⟩ := pp
      clear hg5 hbut5 hb4 hle4 HG4 C3
      go_wp2_with fail
      clear c0 c1 d0 d1 p0 p1 hue hue' HLV
      by_cases hk0 : k = 0
      · obtain rfl : f = false := by
          cases f with
          | false => rfl
          | true => obtain ⟨k', h1, _⟩ := HF.out rfl; omega
        have hk0' : ¬ (k : Int) > 0 := by omega
        have hk0'' : decide (0 < k) = false := by simp; omega
        have hk0d : decide ((k : Int) > 0) = false := by simp; omega
        have pp := C5.out.own.cells k _ HNG.out
        rw [HJ.out, HI.out] at pp
        obtain ⟨p0, p1⟩ := pp
        skip
        go_quiet (fail)
        have C4 : Hid (BI w b e (.slice (some ⟨g, 0, none⟩) lL cv) g1 (w5.drewN nq)) := hide (C5.out.on (below_drews (Below.refl _ _) nq))
        clear C5 p0 p1 
        revert C4
        generalize w5.drewN nq = W6
        intro C6
        have pp := C6.out.own.cells k _ HNG.out
        rw [HJ.out, HI.out] at pp
        obtain ⟨p0, p1⟩ := pp
        go_wp2_with fail
        go_quiet (fail)
        have C4 : Hid (BI w b e (.slice (some ⟨g, 0, none⟩) lL cv) g1 (W6.drewN nq)) := hide (C6.out.on (below_drews (Below.refl _ _) nq))
        clear C6 p0 p1 
        revert C4
        generalize W6.drewN nq = W7
        intro C7
        have pp := C7.out.own.cells k _ HNG.out
        rw [HJ.out, HI.out] at pp
        obtain ⟨p0, p1⟩ := pp
        go_wp2_with fail
        go_quiet (fail)
        have C4 : Hid (BI w b e (.slice (some ⟨g, 0, none⟩) lL cv) g1 (W7.drewN nq)) := hide (C7.out.on (below_drews (Below.refl _ _) nq))
        clear C7 p0 p1 
        revert C4
        generalize W7.drewN nq = W8
        intro C8
        go_wp2
        go_roundw
        case rel => exact ⟨k + 1, false, by rw [HU.out], rfl, by first | (simp; done) | (simp; omega), hlt, C8, hide (fun h => by cases h)⟩
        case measure => simp only [intOf]; omega
      · obtain ⟨K1, hK1⟩ : ∃ K1, k = K1 + 1 := ⟨k - 1, by omega⟩
        have hltp1 : K1 < (parts b e).length := by omega
        have hltp2 : K1 + 1 < (parts b e).length := by omega
        have HNG1 := hide (nG_get hltp1)
        obtain ⟨j1, hj1⟩ : ∃ j, (nG b e K1).1 = j := ⟨_, rfl⟩
        obtain ⟨i1, hi1⟩ : ∃ i, (nG b e K1).2 = i := ⟨_, rfl⟩
        have HJ1 := hide hj1
        have HI1 := hide hi1
        have hpos : (k : Int) > 0 := by omega
        have hposd : decide ((k : Int) > 0) = true := by simp; omega
        have hposd2 : decide (0 < k) = true := by simp; omega
        have hk1a : IntKind.i64.wrap ((k : Int) - 1) = (K1 : Int) := by rw [IntKind.wrap_i64]; omega
        have hk1n : K1 < lL := by omega
        have xb := atM g lL cv K1 (K1 : Int) rfl hk1n
        have HK1 := hide hK1
        have HS1 : Hid (j ≤ j1 → HSp b e k) := hide (fun h => by rw [hK1]; exact le_hs hbe he hltp2 (by rw [← hK1, HJ.out, hj1]; exact h))
        have HE1 : Hid (j = j1 → i % 2 = 0) := hide (fun h => by rw [← HI.out, hK1]; exact eq_even hbe he hltp2 (by rw [← hK1, HJ.out, hj1]; exact h))
        have HF1 : Hid (f = true → j < j1) := hide (fun h => by
          obtain ⟨k', h1, h2⟩ := HF.out h
          obtain rfl : k' = K1 := by omega
          have := (hs_next hbe he hltp2 h2).1
          rw [← hK1, HJ.out, hj1] at this
          exact this)
        clear hj1 hi1 hltp1 hltp2 hK1 HF hk0 hk1n
        rcases Nat.lt_trichotomy j j1 with hc | hc | hc
        · have g1a : decide ((j : Int) > (j1 : Int)) = false := by simp; omega
          have g1b : decide (j1 < j) = false := by simp; omega
          have g1c : decide ((j1 : Int) < (j : Int)) = false := by simp; omega
          have g2a : ((j : Int) == (j1 : Int)) = false := by simp; omega
          have g2b : ¬ (j : Int) = (j1 : Int) := by omega
          have g3a : (j : Int) ≤ (j1 : Int) := by omega
          have g3b : j ≤ j1 := by omega
          cases f with
          | true =>
            clear HF1
            have pp := C5.out.own.cells k _ HNG.out
            rw [HJ.out, HI.out] at pp
            obtain ⟨p0, p1⟩ := pp
            have qq := C5.out.own.cells K1 _ HNG1.out
            rw [HJ1.out, HI1.out] at qq
            obtain ⟨q0, q1⟩ := qq
            skip
            go_quiet (fail)
            have C4 : Hid (BI w b e (.slice (some ⟨g, 0, none⟩) lL cv) g1 (w5.drewN nq)) := hide (C5.out.on (below_drews (Below.refl _ _) nq))
            clear C5 p0 p1 q0 q1
            revert C4
            generalize w5.drewN nq = W6
            intro C6
            have pp := C6.out.own.cells k _ HNG.out
            rw [HJ.out, HI.out] at pp
            obtain ⟨p0, p1⟩ := pp
            have qq := C6.out.own.cells K1 _ HNG1.out
            rw [HJ1.out, HI1.out] at qq
            obtain ⟨q0, q1⟩ := qq
            go_wp2_with fail
            go_quiet (fail)
            have C4 : Hid (BI w b e (.slice (some ⟨g, 0, none⟩) lL cv) g1 (W6.drewN nq)) := hide (C6.out.on (below_drews (Below.refl _ _) nq))
            clear C6 p0 p1 q0 q1
            revert C4
            generalize W6.drewN nq = W7
            intro C7
            have pp := C7.out.own.cells k _ HNG.out
            rw [HJ.out, HI.out] at pp
            obtain ⟨p0, p1⟩ := pp
            have qq := C7.out.own.cells K1 _ HNG1.out
            rw [HJ1.out, HI1.out] at qq
            obtain ⟨q0, q1⟩ := qq
            go_wp2_with fail
            go_quiet (fail)
            have C4 : Hid (BI w b e (.slice (some ⟨g, 0, none⟩) lL cv) g1 (W7.drewN nq)) := hide (C7.out.on (below_drews (Below.refl _ _) nq))
            clear C7 p0 p1 q0 q1
            revert C4
            generalize W7.drewN nq = W8
            intro C8
            go_wp2
            go_roundw
            case rel => exact ⟨k + 1, true, by rw [HU.out], rfl, by first | (simp; done) | (simp; omega), hlt, C8, hide (fun _ => ⟨k, rfl, HS1.out g3b⟩)⟩
            case measure => simp only [intOf]; omega
          | false =>
            clear HF1
            have pp := C5.out.own.cells k _ HNG.out
            rw [HJ.out, HI.out] at pp
            obtain ⟨p0, p1⟩ := pp
            have qq := C5.out.own.cells K1 _ HNG1.out
            rw [HJ1.out, HI1.out] at qq
            obtain ⟨q0, q1⟩ := qq
            skip
            go_quiet (fail)
            have C4 : Hid (BI w b e (.slice (some ⟨g, 0, none⟩) lL cv) g1 (w5.drewN nq)) := hide (C5.out.on (below_drews (Below.refl _ _) nq))
            clear C5 p0 p1 q0 q1
            revert C4
            generalize w5.drewN nq = W6
            intro C6
            have pp := C6.out.own.cells k _ HNG.out
            rw [HJ.out, HI.out] at pp
            obtain ⟨p0, p1⟩ := pp
            have qq := C6.out.own.cells K1 _ HNG1.out
            rw [HJ1.out, HI1.out] at qq
            obtain ⟨q0, q1⟩ := qq
            go_wp2_with fail
            go_quiet (fail)
            have C4 : Hid (BI w b e (.slice (some ⟨g, 0, none⟩) lL cv) g1 (W6.drewN nq)) := hide (C6.out.on (below_drews (Below.refl _ _) nq))
            clear C6 p0 p1 q0 q1
            revert C4
            generalize W6.drewN nq = W7
            intro C7
            have pp := C7.out.own.cells k _ HNG.out
            rw [HJ.out, HI.out] at pp
            obtain ⟨p0, p1⟩ := pp
            have qq := C7.out.own.cells K1 _ HNG1.out
            rw [HJ1.out, HI1.out] at qq
            obtain ⟨q0, q1⟩ := qq
            go_wp2_with fail
            go_quiet (fail)
            have C4 : Hid (BI w b e (.slice (some ⟨g, 0, none⟩) lL cv) g1 (W7.drewN nq)) := hide (C7.out.on (below_drews (Below.refl _ _) nq))
            clear C7 p0 p1 q0 q1
            revert C4
            generalize W7.drewN nq = W8
            intro C8
            go_wp2
            go_roundw
            case rel => exact ⟨k + 1, true, by rw [HU.out], rfl, by first | (simp; done) | (simp; omega), hlt, C8, hide (fun _ => ⟨k, rfl, HS1.out g3b⟩)⟩
            case measure => simp only [intOf]; omega
        · subst hc
          have he2 := HE1.out rfl
          have hr : ((i : Int)).tmod 2 = 0 := by rw [Int.tmod_eq_emod_of_nonneg (by omega)]; omega
          have g3b := HS1.out (Nat.le_refl _)
          have G3 := hide g3b
          clear g3b he2
          cases f with
          | true => exact absurd (HF1.out rfl) (Nat.lt_irrefl _)
          | false =>
            clear HF1
            have pp := C5.out.own.cells k _ HNG.out
            rw [HJ.out, HI.out] at pp
            obtain ⟨p0, p1⟩ := pp
            have qq := C5.out.own.cells K1 _ HNG1.out
            rw [HJ1.out, HI1.out] at qq
            obtain ⟨q0, q1⟩ := qq
            skip
            go_quiet (fail)
            have C4 : Hid (BI w b e (.slice (some ⟨g, 0, none⟩) lL cv) g1 (w5.drewN nq)) := hide (C5.out.on (below_drews (Below.refl _ _) nq))
            clear C5 p0 p1 q0 q1
            revert C4
            generalize w5.drewN nq = W6
            intro C6
            have pp := C6.out.own.cells k _ HNG.out
            rw [HJ.out, HI.out] at pp
            obtain ⟨p0, p1⟩ := pp
            have qq := C6.out.own.cells K1 _ HNG1.out
            rw [HJ1.out, HI1.out] at qq
            obtain ⟨q0, q1⟩ := qq
            go_wp2_with fail
            go_quiet (fail)
            have C4 : Hid (BI w b e (.slice (some ⟨g, 0, none⟩) lL cv) g1 (W6.drewN nq)) := hide (C6.out.on (below_drews (Below.refl _ _) nq))
            clear C6 p0 p1 q0 q1
            revert C4
            generalize W6.drewN nq = W7
            intro C7
            have pp := C7.out.own.cells k _ HNG.out
            rw [HJ.out, HI.out] at pp
            obtain ⟨p0, p1⟩ := pp
            have qq := C7.out.own.cells K1 _ HNG1.out
            rw [HJ1.out, HI1.out] at qq
            obtain ⟨q0, q1⟩ := qq
            go_wp2_with fail
            go_quiet (fail)
            have C4 : Hid (BI w b e (.slice (some ⟨g, 0, none⟩) lL cv) g1 (W7.drewN nq)) := hide (C7.out.on (below_drews (Below.refl _ _) nq))
            clear C7 p0 p1 q0 q1
            revert C4
            generalize W7.drewN nq = W8
            intro C8
            go_wp2
            go_roundw
            case rel => exact ⟨k + 1, true, by rw [HU.out], rfl, by first | (simp; done) | (simp; omega), hlt, C8, hide (fun _ => ⟨k, rfl, G3.out⟩)⟩
            case measure => simp only [intOf]; omega
        · have g1a : (j : Int) > (j1 : Int) := by omega
          have g1b : decide (j1 < j) = true := by simp; omega
          have g1c : decide ((j1 : Int) < (j : Int)) = true := by simp; omega
          have g2a : ((j : Int) == (j1 : Int)) = false := by simp; omega
          have g2b : ¬ (j : Int) = (j1 : Int) := by omega
          have g3a : decide ((j : Int) ≤ (j1 : Int)) = false := by simp; omega
          have g3b : decide (j ≤ j1) = false := by simp; omega
          cases f with
          | true => exact absurd (HF1.out rfl) (by omega)
          | false =>
            clear HF1
            have pp := C5.out.own.cells k _ HNG.out
            rw [HJ.out, HI.out] at pp
            obtain ⟨p0, p1⟩ := pp
            have qq := C5.out.own.cells K1 _ HNG1.out
            rw [HJ1.out, HI1.out] at qq
            obtain ⟨q0, q1⟩ := qq
            skip
            go_quiet (fail)
            have C4 : Hid (BI w b e (.slice (some ⟨g, 0, none⟩) lL cv) g1 (w5.drewN nq)) := hide (C5.out.on (below_drews (Below.refl _ _) nq))
            clear C5 p0 p1 q0 q1
            revert C4
            generalize w5.drewN nq = W6
            intro C6
            have pp := C6.out.own.cells k _ HNG.out
            rw [HJ.out, HI.out] at pp
            obtain ⟨p0, p1⟩ := pp
            have qq := C6.out.own.cells K1 _ HNG1.out
            rw [HJ1.out, HI1.out] at qq
            obtain ⟨q0, q1⟩ := qq
            go_wp2_with fail
            go_quiet (fail)
            have C4 : Hid (BI w b e (.slice (some ⟨g, 0, none⟩) lL cv) g1 (W6.drewN nq)) := hide (C6.out.on (below_drews (Below.refl _ _) nq))
            clear C6 p0 p1 q0 q1
            revert C4
            generalize W6.drewN nq = W7
            intro C7
            have pp := C7.out.own.cells k _ HNG.out
            rw [HJ.out, HI.out] at pp
            obtain ⟨p0, p1⟩ := pp
            have qq := C7.out.own.cells K1 _ HNG1.out
            rw [HJ1.out, HI1.out] at qq
            obtain ⟨q0, q1⟩ := qq
            go_wp2_with fail
            go_quiet (fail)
            have C4 : Hid (BI w b e (.slice (some ⟨g, 0, none⟩) lL cv) g1 (W7.drewN nq)) := hide (C7.out.on (below_drews (Below.refl _ _) nq))
            clear C7 p0 p1 q0 q1
            revert C4
            generalize W7.drewN nq = W8
            intro C8
            go_wp2
            go_roundw
            case rel => exact ⟨k + 1, false, by rw [HU.out], rfl, by first | (simp; done) | (simp; omega), hlt, C8, hide (fun h => by cases h)⟩
            case measure => simp only [intOf]; omega
    · obtain rfl : k = lL := by omega
      have hend : pbeg b e k = e := by rw [← HL.out]; exact pbeg_end hbe he
      rw [hend]
      have hB := CC.out.bel
      go_wp2
      go_ret
      exact ⟨rfl, hB⟩

theorem beside_walk (b e : Int) (w : World) (hb : (Lit.int .i64 b).wf = true) (he : (Lit.int .i64 e).wf = true) (ht : TT w) : Calls Tryd.prog 4 #[.agg #[.int .i64 b, .int .i64 e]] w fun r w' => r = .returned (.bool true) ∧ Below w.heap.size w w' := by
  by_cases h : b < 0 ∨ e < b ∨ 281474976710656 < e
  · exact beside_bad b e w h
  · obtain ⟨i, rfl⟩ : ∃ i : Nat, b = (i : Int) := ⟨b.toNat, by omega⟩
    obtain ⟨m, rfl⟩ : ∃ m : Nat, e = (m : Int) := ⟨e.toNat, by omega⟩
    exact beside_ok i m w (by omega) (by omega) ht

end Go.Proofs.YtlniffmhihhkcaaDoor
