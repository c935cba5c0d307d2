/-
  The walk of NodeCovers: the spans of an inclusion proof, joined one by one to the leaf.
-/
import Derived.Test.YtlniffmhihhkcaaSn
namespace Go.Proofs.Ytlniffmhihhkcaa
open Go.RowKit
set_option linter.unusedVariables false

/-- A span is joined to what is there, if it stands beside it. -/
def jn (o s : Nat × Nat) : Option (Nat × Nat) := if s.1 < s.2 ∧ (s.2 = o.1 ∨ s.1 = o.2) then some (min o.1 s.1, max o.2 s.2) else none
def jns (o : Nat × Nat) : List (Nat × Nat) → Option (Nat × Nat)
  | [] => some o
  | s :: l => (jn o s).bind fun o' => jns o' l
theorem jns_snoc : ∀ (l : List (Nat × Nat)) (o s : Nat × Nat), jns o (l ++ [s]) = (jns o l).bind fun o' => jn o' s
  | [], o, s => by simp [jns]
  | x :: l, o, s => by
    simp only [List.cons_append, jns]
    cases jn o x with
    | none => rfl
    | some o' => simp [jns_snoc l o' s]
/-- From the part that is met, up to all. -/
theorem jns_dw {stop : Nat → Nat → Bool} {i : Nat} (hE : Ends stop i) : ∀ (f b n : Nat), n ≤ f → b ≤ i → i < b + n → n ≤ 281474976710656 → jns (dw stop i b n).2 (dw stop i b n).1.reverse = some (b, b + n)
  | 0, b, n, h, _, _, _ => by omega
  | f + 1, b, n, h, h1, h2, h3 => by
    by_cases hs : stop b n = true
    · rw [dw_stop hs]; rfl
    · have hs' : stop b n = false := by simpa using hs
      have hn : 2 ≤ n := by
        rcases Nat.lt_or_ge n 2 with hlt | hge
        · exact absurd (hE b n (by omega) h1 h2) hs
        · exact hge
      have hh := hf_bd n hn (by omega)
      by_cases hc : i < b + hf n
      · rw [dw_lo hE hs' hn h3 h1 rfl hc]
        simp only [List.reverse_cons]
        rw [jns_snoc, jns_dw hE f b (hf n) (by omega) h1 hc (by omega)]
        simp only [Option.bind_some, jn]
        rw [if_pos ⟨by show b + hf n < b + n; omega, .inr trivial⟩]
        rw [show min b (b + hf n) = b by omega, show max (b + hf n) (b + n) = b + n by omega]
      · rw [dw_hi hE hs' hn h3 h2 rfl hc]
        simp only [List.reverse_cons]
        rw [jns_snoc, jns_dw hE f (b + hf n) (n - hf n) (by omega) (by omega) (by omega) (by omega)]
        simp only [Option.bind_some, jn]
        rw [if_pos ⟨by show b < b + hf n; omega, .inl trivial⟩]
        rw [show min (b + hf n) b = b by omega, show max (b + hf n + (n - hf n)) (b + hf n) = b + n by omega]
/-- .. up to the k-th. -/
theorem jns_take {l : List (Nat × Nat)} {o e : Nat × Nat} (h : jns o l = some e) : ∀ k, ∃ x, jns o (l.take k) = some x := by
  intro k
  induction l generalizing o k with
  | nil => exact ⟨o, by simp [jns]⟩
  | cons s l ih =>
    cases k with
    | zero => exact ⟨o, rfl⟩
    | succ k =>
      simp only [jns, List.take_succ_cons] at h ⊢
      cases hj : jn o s with
      | none => rw [hj] at h; cases h
      | some o' =>
        rw [hj] at h
        exact ih h k
theorem take_snoc' {α : Type} {l : List α} {k : Nat} {x : α} (h : l[k]? = some x) : l.take (k + 1) = l.take k ++ [x] := by
  obtain ⟨h1, h2⟩ := List.getElem?_eq_some_iff.1 h
  rw [List.take_succ_eq_append_getElem h1, h2]
theorem jns_next {l : List (Nat × Nat)} {o e x s : Nat × Nat} {k : Nat} (h : jns o l = some e) (hx : jns o (l.take k) = some x) (hs : l[k]? = some s) : (s.1 < s.2 ∧ (s.2 = x.1 ∨ s.1 = x.2)) ∧ jns o (l.take (k + 1)) = some (min x.1 s.1, max x.2 s.2) := by
  obtain ⟨y, hy⟩ := jns_take h (k + 1)
  rw [take_snoc' hs, jns_snoc, hx] at hy ⊢
  simp only [Option.bind_some, jn] at hy ⊢
  by_cases hc : s.1 < s.2 ∧ (s.2 = x.1 ∨ s.1 = x.2)
  · rw [if_pos hc]; exact ⟨hc, rfl⟩
  · rw [if_neg hc] at hy; cases hy
theorem jns_whole {l : List (Nat × Nat)} {o e x : Nat × Nat} (h : jns o l = some e) (hx : jns o (l.take l.length) = some x) : x = e := by
  rw [List.take_length, h] at hx
  exact (Option.some.inj hx).symm
/-- The part that is met is the leaf. -/
theorem dwI_last (i : Nat) : ∀ (f b n : Nat), n ≤ f → b ≤ i → i < b + n → n ≤ 281474976710656 → (dw (stopI i) i b n).2 = (i, i + 1)
  | 0, b, n, h, _, _, _ => by omega
  | f + 1, b, n, h, h1, h2, h3 => by
    by_cases hs : stopI i b n = true
    · rw [dw_stop hs]
      simp [stopI] at hs
      obtain ⟨rfl, rfl⟩ := hs
      rfl
    · have hs' : stopI i b n = false := by simpa using hs
      have hn : 2 ≤ n := by
        rcases Nat.lt_or_ge n 2 with hlt | hge
        · exact absurd (endsI i b n (by omega) h1 h2) hs
        · exact hge
      have hh := hf_bd n hn (by omega)
      by_cases hc : i < b + hf n
      · rw [dw_lo (endsI i) hs' hn h3 h1 rfl hc]
        exact dwI_last i f b (hf n) (by omega) h1 hc (by omega)
      · rw [dw_hi (endsI i) hs' hn h3 h2 rfl hc]
        exact dwI_last i f (b + hf n) (n - hf n) (by omega) (by omega) (by omega) (by omega)
theorem jns_spL (i n : Nat) (h1 : i < n) (h2 : n ≤ 281474976710656) : jns (i, i + 1) (spL i 0 n) = some (0, n) := by
  have h := jns_dw (endsI i) n 0 n (Nat.le_refl _) (Nat.zero_le _) (by omega) h2
  rw [dwI_last i n 0 n (Nat.le_refl _) (Nat.zero_le _) (by omega) h2, Nat.zero_add] at h
  exact h

theorem covers_bad (i n : Int) (w : World) (h : i < 0 ∨ n ≤ i ∨ 281474976710656 < n) : Calls Try.prog 6 #[.int .i64 i, .int .i64 n] w fun r w' => r = .returned (.bool true) ∧ Below w.heap.size w w' := by
  have HB := hide (fun v => spans_bad i n v h)
  by_cases h1 : i < 0
  · clear h
    go_enter Try.func6, Try.ntmps6
    go_wp2_with fail
    refine (HB.out _).mono ?_
    rintro r w1 ⟨rfl, hb1⟩
    go_wp2
    go_ret
    exact ⟨rfl, hb1⟩
  · by_cases h2 : i ≥ n
    · clear h
      go_enter Try.func6, Try.ntmps6
      go_wp2_with fail
      refine (HB.out _).mono ?_
      rintro r w1 ⟨rfl, hb1⟩
      go_wp2
      go_ret
      exact ⟨rfl, hb1⟩
    · have h3 : n > 281474976710656 := by omega
      clear h
      go_enter Try.func6, Try.ntmps6
      go_wp2_with fail
      refine (HB.out _).mono ?_
      rintro r w1 ⟨rfl, hb1⟩
      go_wp2
      go_ret
      exact ⟨rfl, hb1⟩

/-- What is kept: the spans, and what they have been joined to. -/
structure CI (w0 : World) (L : List (Nat × Nat)) (v : Value) (g : Nat) (o : Nat × Nat) (k : Nat) (w : World) : Prop where
  own : OwnS w w0.heap.size v L
  blk : ∃ x, jns o (L.take k) = some x ∧ Blk w g 25 (qC x)
  ne : v.ownBlock ≠ some g
  bel : Below w0.heap.size w0 w
theorem far_cell {g1 g2 : Nat} (h : g2 ≠ g1) (v : World) (i j : Nat) (x : Value) : (v.setCell ⟨g2, i, none⟩ x).cell? ⟨g1, j, none⟩ = v.cell? ⟨g1, j, none⟩ := World.cell?_setCell_far v _ _ x h
set_option maxRecDepth 100000 in
set_option maxHeartbeats 1000000 in
theorem covers_ok (i n : Nat) (w : World) (h1 : i < n) (h2 : n ≤ 281474976710656) : Calls Try.prog 6 #[.int .i64 (i : Int), .int .i64 (n : Int)] w fun r w' => r = .returned (.bool true) ∧ Below w.heap.size w w' := by
  have HS := hide (fun v => spans_ok i n v h1 h2)
  have hlen : (spL i 0 n).length ≤ 48 := by unfold spL; rw [List.length_reverse]; exact dw_few (endsI i) (Nat.zero_le _) (by omega) h2
  have HJ := hide (jns_spL i n h1 h2)
  obtain ⟨L, HLL⟩ : ∃ L, Hid (spL i 0 n = L) := ⟨_, hide rfl⟩
  rw [HLL.out] at HS hlen HJ
  obtain ⟨lL, HL⟩ : ∃ l, Hid (L.length = l) := ⟨_, hide rfl⟩
  rw [HL.out] at hlen
  have hi' : (i : Int) ≤ 281474976710656 := by omega
  go_enter Try.func6, Try.ntmps6
  go_wp2_with fail
  refine (HS.out _).mono ?_
  rintro r w1 ⟨v1, rfl, ho1, hb1⟩
  obtain ⟨av, cv, rfl, _⟩ := ho1.len
  rw [HL.out] at ho1 ⊢
  have O1 := hide ho1
  have B1 := hide hb1
  clear ho1 hb1
  go_wp2_with (first | (refine step_alloc zS rfl ?_; intro w2 go hg2 hle2 hb2; have HG2 := hide hg2; clear hg2) | (refine step_storeA wS rfl rfl rfl HG2.out rfl (One.c2 (i : Int) ((i : Int) + 1)) rfl ?_))
  intro w3 hg3 hbut3
  have hne : (Value.slice av lL cv).ownBlock ≠ some go := fun hk => by have := (O1.out.lt _ hk).2; omega
  have C3 : Hid (CI w L (.slice av lL cv) go (i, i + 1) 0 w3) := hide ⟨(O1.out.below hb2).but hbut3 hne, ⟨(i, i + 1), rfl, hg3⟩, hne, new_below B1.out hb2 hle2 hbut3⟩
  have hgo := B1.out.size
  have GOL := hide (show w.heap.size ≤ go by omega)
  clear hg3 hbut3 hb2 HG2 O1 B1 hne
  go_wp2_with fail
  go_loopw [8] (fun s wr => ∃ k : Nat, s = .int .i64 (k : Int) ∧ k ≤ lL ∧ Hid (CI w L (.slice av lL cv) go (i, i + 1) k wr)) (fun s _ => lL - (intOf s).toNat)
  case atStart => exact ⟨0, rfl, Nat.zero_le _, C3⟩
  case round =>
    obtain ⟨k, rfl, hk, CC⟩ := hrel
    by_cases hlt : k < lL
    · have hlt' : (k : Int) < (lL : Int) := by omega
      obtain ⟨s, hs⟩ : ∃ s, L[k]? = some s := ⟨_, List.getElem?_eq_getElem (by rw [HL.out]; exact hlt)⟩
      obtain ⟨x, hx, hbk⟩ := CC.out.blk
      obtain ⟨⟨s0, s1⟩, hnx⟩ := jns_next HJ.out hx hs
      obtain ⟨g, rfl⟩ : ∃ g, av = some ⟨g, 0, none⟩ := by
        rcases CC.out.own.lies with ⟨e, e2⟩ | ⟨g, cap, cs, e, _⟩
        · rw [e2] at hs; simp at hs
        · injection e with e _ _; exact ⟨g, e⟩
      obtain ⟨c0, c1⟩ := CC.out.own.cells k s hs
      obtain ⟨x0, x1⟩ := x
      obtain ⟨b, e⟩ := s
      simp only at c0 c1 s0 s1 hnx
      obtain ⟨d0, d1⟩ := Blk.two (a := (x0 : Int)) (b := (x1 : Int)) hbk
      have xa := atS g lL cv k (k : Int) rfl hlt
      have f0 := hbk.free 0
      have f1 := hbk.free 1
      have NX := hide hnx
      have BK : Hid (Blk wr go 25 (qC (x0, x1))) := hide hbk
      have hgo : go ≠ g := fun e => CC.out.ne (by rw [e]; rfl)
      clear hnx hx hbk hs
      have t0 : decide ((e : Int) ≤ (b : Int)) = false := by simp; omega
      have t0' : decide (e ≤ b) = false := by simp; omega
      have t0'' : decide ((b : Int) ≥ (e : Int)) = false := by simp; omega
      obtain ⟨y0, hy0⟩ : ∃ y, min x0 b = y := ⟨_, rfl⟩
      obtain ⟨y1, hy1⟩ : ∃ y, max x1 e = y := ⟨_, rfl⟩
      rw [hy0, hy1] at NX
      have M0 := hide (show min (x0 : Int) (b : Int) = (y0 : Int) by omega)
      have M1 := hide (show max (x1 : Int) (e : Int) = (y1 : Int) by omega)
      have S1 := hide s1
      clear hy0 hy1 s1 s0
      by_cases hc : e = x0
      · subst hc
        go_wp2_with fail
        go_quiet (fail)
        go_wp2_with fail
        have m0 := M0.out
        have m1 := M1.out
        have CW : Hid (CI w L (.slice (some ⟨g, 0, none⟩) lL cv) go (i, i + 1) k (wr.drewN nq)) := hide ⟨CC.out.own.below (below_drews (Below.refl _ _) nq), CC.out.blk, CC.out.ne, below_drews CC.out.bel nq⟩
        have BW : Hid (Blk (wr.drewN nq) go 25 (qC (e, x1))) := BK
        have p0 : (wr.drewN nq).cell? ⟨g, k * 2, none⟩ = some (.int .i64 (b : Int)) := c0
        have p1 : (wr.drewN nq).cell? ⟨g, k * 2 + 1, none⟩ = some (.int .i64 (e : Int)) := c1
        have q0 := (Blk.two BW.out).1
        have q1 := (Blk.two BW.out).2
        have fr0 := BW.out.free 0
        have fr1 := BW.out.free 1
        have far := far_cell hgo
        simp only at q0 q1
        clear c0 c1 d0 d1 f0 f1 CC BK M0 M1
        generalize wr.drewN nq = W at *
        have hS : W.drew.cell? ⟨g, k * 2, none⟩ = some (.int .i64 (b : Int)) ∧ W.drew.cell? ⟨g, k * 2 + 1, none⟩ = some (.int .i64 (e : Int)) := ⟨p0, p1⟩
        refine wp_region_held_drew (S := fun v : World => v.cell? ⟨g, k * 2, none⟩ = some (.int .i64 (b : Int)) ∧ v.cell? ⟨g, k * 2 + 1, none⟩ = some (.int .i64 (e : Int))) (by kernel_rfl) hS (fun hHeld => ?_)
        refine takeH 0 69 (.pointer (some ⟨go, 0, none⟩)) hHeld rfl rfl (by kernel_rfl) (by kernel_rfl) (by kernel_rfl) (fun _ _ _ h => h) (Or.inl ⟨by rfl, fun w _ => by go_simp⟩) ?_
        simp only [Act.put, List.setIfInBounds_toArray, List.set_cons_zero, List.set_cons_succ]
        refine takeH 2 71 (.slice (some ⟨g, 0, none⟩) lL cv) hHeld rfl rfl (by kernel_rfl) (by kernel_rfl) (by kernel_rfl) (fun _ _ _ h => h) (Or.inl ⟨by rfl, fun w _ => by go_simp⟩) ?_
        simp only [Act.put, List.setIfInBounds_toArray, List.set_cons_zero, List.set_cons_succ]
        refine takeH 3 72 (.int .i64 (k : Int)) hHeld rfl rfl (by kernel_rfl) (by kernel_rfl) (by kernel_rfl) (fun _ _ _ h => h) (Or.inl ⟨by rfl, fun w _ => by go_simp⟩) ?_
        simp only [Act.put, List.setIfInBounds_toArray, List.set_cons_zero, List.set_cons_succ]
        refine takeH 4 73 (.pointer (some ⟨g, k * 2, none⟩)) hHeld rfl rfl (by kernel_rfl) (by kernel_rfl) (by kernel_rfl) (fun _ _ _ h => h) (Or.inl ⟨by rfl, fun w _ => run_op rfl ((atS g lL cv k _ rfl hlt) w)⟩) ?_
        simp only [Act.put, List.setIfInBounds_toArray, List.set_cons_zero, List.set_cons_succ]
        refine takeH 5 74 (.pointer (some ⟨g, k * 2, none⟩)) hHeld rfl rfl (by kernel_rfl) (by kernel_rfl) (by kernel_rfl) (fun _ _ _ h => h) (Or.inl ⟨by rfl, fun w _ => by go_simp⟩) ?_
        simp only [Act.put, List.setIfInBounds_toArray, List.set_cons_zero, List.set_cons_succ]
        refine takeH 6 75 (.int .i64 (b : Int)) hHeld rfl rfl (by kernel_rfl) (by kernel_rfl) (by kernel_rfl) (fun _ _ _ h => h) (Or.inl ⟨by rfl, fun w hw => by have hw' : w.cell? ⟨g, (k * 2), none⟩ = some (.int .i64 (b : Int)) := (fun h => h.1) hw; go_simp⟩) ?_
        simp only [Act.put, List.setIfInBounds_toArray, List.set_cons_zero, List.set_cons_succ]
        refine takeH 8 77 (.pointer (some ⟨go, 1, none⟩)) hHeld rfl rfl (by kernel_rfl) (by kernel_rfl) (by kernel_rfl) (fun _ _ _ h => h) (Or.inl ⟨by rfl, fun w _ => by go_simp⟩) ?_
        simp only [Act.put, List.setIfInBounds_toArray, List.set_cons_zero, List.set_cons_succ]
        refine takeH 10 79 (.slice (some ⟨g, 0, none⟩) lL cv) hHeld rfl rfl (by kernel_rfl) (by kernel_rfl) (by kernel_rfl) (fun _ _ _ h => h) (Or.inl ⟨by rfl, fun w _ => by go_simp⟩) ?_
        simp only [Act.put, List.setIfInBounds_toArray, List.set_cons_zero, List.set_cons_succ]
        refine takeH 11 80 (.int .i64 (k : Int)) hHeld rfl rfl (by kernel_rfl) (by kernel_rfl) (by kernel_rfl) (fun _ _ _ h => h) (Or.inl ⟨by rfl, fun w _ => by go_simp⟩) ?_
        simp only [Act.put, List.setIfInBounds_toArray, List.set_cons_zero, List.set_cons_succ]
        refine takeH 12 81 (.pointer (some ⟨g, k * 2, none⟩)) hHeld rfl rfl (by kernel_rfl) (by kernel_rfl) (by kernel_rfl) (fun _ _ _ h => h) (Or.inl ⟨by rfl, fun w _ => run_op rfl ((atS g lL cv k _ rfl hlt) w)⟩) ?_
        simp only [Act.put, List.setIfInBounds_toArray, List.set_cons_zero, List.set_cons_succ]
        refine takeH 13 82 (.pointer (some ⟨g, k * 2 + 1, none⟩)) hHeld rfl rfl (by kernel_rfl) (by kernel_rfl) (by kernel_rfl) (fun _ _ _ h => h) (Or.inl ⟨by rfl, fun w _ => by go_simp⟩) ?_
        simp only [Act.put, List.setIfInBounds_toArray, List.set_cons_zero, List.set_cons_succ]
        refine takeH 14 83 (.int .i64 (e : Int)) hHeld rfl rfl (by kernel_rfl) (by kernel_rfl) (by kernel_rfl) (fun _ _ _ h => h) (Or.inl ⟨by rfl, fun w hw => by have hw' : w.cell? ⟨g, (k * 2 + 1), none⟩ = some (.int .i64 (e : Int)) := (fun h => h.2) hw; go_simp⟩) ?_
        simp only [Act.put, List.setIfInBounds_toArray, List.set_cons_zero, List.set_cons_succ]
        refine wpAnyH_ready (rs := [1, 9]) (by kernel_rfl) (by simp) (AllReadyH.cons rfl (fun K hK => ?_) (AllReadyH.cons rfl (fun K hK => ?_) AllReadyH.nil))
        · rw [if_pos (by rfl)]
          go_simp
          refine hK.out _ _ (hS) (fun hHeld => ?_)
          clear hK K
          refine takeH 7 76 (.int .i64 (y0 : Int)) hHeld rfl rfl (by kernel_rfl) (by kernel_rfl) (by kernel_rfl) (fun _ _ _ h => h) (Or.inl ⟨by rfl, fun w _ => by go_simp⟩) ?_
          simp only [Act.put, List.setIfInBounds_toArray, List.set_cons_zero, List.set_cons_succ]
          refine wpAnyH_ready (rs := [9]) (by kernel_rfl) (by simp) (AllReadyH.cons rfl (fun K hK => ?_) AllReadyH.nil)
          rw [if_pos (by rfl)]
          go_simp
          refine hK.out _ _ (hS) (fun hHeld => ?_)
          clear hK K
          refine takeH 15 84 (.int .i64 (y1 : Int)) hHeld rfl rfl (by kernel_rfl) (by kernel_rfl) (by kernel_rfl) (fun _ _ _ h => h) (Or.inl ⟨by rfl, fun w _ => by go_simp⟩) ?_
          simp only [Act.put, List.setIfInBounds_toArray, List.set_cons_zero, List.set_cons_succ]
          refine takeH 16 85 (.agg #[.int .i64 (y0 : Int), .int .i64 (y1 : Int)]) hHeld rfl rfl (by kernel_rfl) (by kernel_rfl) (by kernel_rfl) (fun _ _ _ h => h) (Or.inl ⟨by rfl, fun w _ => by go_simp⟩) ?_
          simp only [Act.put, List.setIfInBounds_toArray, List.set_cons_zero, List.set_cons_succ]
          refine wpAnyH_ready (rs := [17]) (by kernel_rfl) (by simp) (AllReadyH.cons rfl (fun K hK => ?_) AllReadyH.nil)
          rw [if_pos (by rfl)]
          refine wp_storeW wS rfl rfl rfl (BW.out.drewN 1) rfl (One.qC (y0, y1)) (Nat.le_refl 2) ?_
          intro w5 hb5 hbut5
          have C5 : Hid (CI w L (.slice (some ⟨g, 0, none⟩) lL cv) go (i, i + 1) (k + 1) w5) := hide ⟨(CW.out.own.below (below_drew (Below.refl _ _))).but hbut5 CW.out.ne, ⟨(y0, y1), NX.out, hb5⟩, CW.out.ne, (below_drew CW.out.bel).trans (hbut5.below GOL.out)⟩
          have hS5 : w5.cell? ⟨g, k * 2, none⟩ = some (.int .i64 (b : Int)) ∧ w5.cell? ⟨g, k * 2 + 1, none⟩ = some (.int .i64 (e : Int)) := ⟨by rw [World.cell?_of_block (w := W.drew) (hbut5.block g hgo.symm)]; exact hS.1, by rw [World.cell?_of_block (w := W.drew) (hbut5.block g hgo.symm)]; exact hS.2⟩
          refine hK.out _ _ (hS5) (fun hHeld => ?_)
          clear hK K
          clear hb5 hbut5 hS5 hS CW BW
          refine wpAnyH_done (by kernel_rfl) ?_ _
          go_wp2
          go_roundw
          case rel => exact ⟨k + 1, by simp, hlt, C5⟩
          case measure => simp only [intOf]; omega
        · rw [if_pos (by rfl)]
          go_simp
          refine hK.out _ _ (hS) (fun hHeld => ?_)
          clear hK K
          refine takeH 15 84 (.int .i64 (y1 : Int)) hHeld rfl rfl (by kernel_rfl) (by kernel_rfl) (by kernel_rfl) (fun _ _ _ h => h) (Or.inl ⟨by rfl, fun w _ => by go_simp⟩) ?_
          simp only [Act.put, List.setIfInBounds_toArray, List.set_cons_zero, List.set_cons_succ]
          refine wpAnyH_ready (rs := [1]) (by kernel_rfl) (by simp) (AllReadyH.cons rfl (fun K hK => ?_) AllReadyH.nil)
          rw [if_pos (by rfl)]
          go_simp
          refine hK.out _ _ (hS) (fun hHeld => ?_)
          clear hK K
          refine takeH 7 76 (.int .i64 (y0 : Int)) hHeld rfl rfl (by kernel_rfl) (by kernel_rfl) (by kernel_rfl) (fun _ _ _ h => h) (Or.inl ⟨by rfl, fun w _ => by go_simp⟩) ?_
          simp only [Act.put, List.setIfInBounds_toArray, List.set_cons_zero, List.set_cons_succ]
          refine takeH 16 85 (.agg #[.int .i64 (y0 : Int), .int .i64 (y1 : Int)]) hHeld rfl rfl (by kernel_rfl) (by kernel_rfl) (by kernel_rfl) (fun _ _ _ h => h) (Or.inl ⟨by rfl, fun w _ => by go_simp⟩) ?_
          simp only [Act.put, List.setIfInBounds_toArray, List.set_cons_zero, List.set_cons_succ]
          refine wpAnyH_ready (rs := [17]) (by kernel_rfl) (by simp) (AllReadyH.cons rfl (fun K hK => ?_) AllReadyH.nil)
          rw [if_pos (by rfl)]
          refine wp_storeW wS rfl rfl rfl (BW.out.drewN 1) rfl (One.qC (y0, y1)) (Nat.le_refl 2) ?_
          intro w5 hb5 hbut5
          have C5 : Hid (CI w L (.slice (some ⟨g, 0, none⟩) lL cv) go (i, i + 1) (k + 1) w5) := hide ⟨(CW.out.own.below (below_drew (Below.refl _ _))).but hbut5 CW.out.ne, ⟨(y0, y1), NX.out, hb5⟩, CW.out.ne, (below_drew CW.out.bel).trans (hbut5.below GOL.out)⟩
          have hS5 : w5.cell? ⟨g, k * 2, none⟩ = some (.int .i64 (b : Int)) ∧ w5.cell? ⟨g, k * 2 + 1, none⟩ = some (.int .i64 (e : Int)) := ⟨by rw [World.cell?_of_block (w := W.drew) (hbut5.block g hgo.symm)]; exact hS.1, by rw [World.cell?_of_block (w := W.drew) (hbut5.block g hgo.symm)]; exact hS.2⟩
          refine hK.out _ _ (hS5) (fun hHeld => ?_)
          clear hK K
          clear hb5 hbut5 hS5 hS CW BW
          refine wpAnyH_done (by kernel_rfl) ?_ _
          go_wp2
          go_roundw
          case rel => exact ⟨k + 1, by simp, hlt, C5⟩
          case measure => simp only [intOf]; omega
      · have hc' : ((e : Int) != (x0 : Int)) = true := by simp; omega
        have hc2 : b = x1 := by have := S1.out; omega
        subst hc2
        go_wp2_with fail
        go_quiet (fail)
        go_wp2_with fail
        have m0 := M0.out
        have m1 := M1.out
        have CW : Hid (CI w L (.slice (some ⟨g, 0, none⟩) lL cv) go (i, i + 1) k (wr.drewN nq)) := hide ⟨CC.out.own.below (below_drews (Below.refl _ _) nq), CC.out.blk, CC.out.ne, below_drews CC.out.bel nq⟩
        have BW : Hid (Blk (wr.drewN nq) go 25 (qC (x0, b))) := BK
        have p0 : (wr.drewN nq).cell? ⟨g, k * 2, none⟩ = some (.int .i64 (b : Int)) := c0
        have p1 : (wr.drewN nq).cell? ⟨g, k * 2 + 1, none⟩ = some (.int .i64 (e : Int)) := c1
        have q0 := (Blk.two BW.out).1
        have q1 := (Blk.two BW.out).2
        have fr0 := BW.out.free 0
        have fr1 := BW.out.free 1
        have far := far_cell hgo
        simp only at q0 q1
        clear c0 c1 d0 d1 f0 f1 CC BK M0 M1
        generalize wr.drewN nq = W at *
        have hS : W.drew.cell? ⟨g, k * 2, none⟩ = some (.int .i64 (b : Int)) ∧ W.drew.cell? ⟨g, k * 2 + 1, none⟩ = some (.int .i64 (e : Int)) := ⟨p0, p1⟩
        refine wp_region_held_drew (S := fun v : World => v.cell? ⟨g, k * 2, none⟩ = some (.int .i64 (b : Int)) ∧ v.cell? ⟨g, k * 2 + 1, none⟩ = some (.int .i64 (e : Int))) (by kernel_rfl) hS (fun hHeld => ?_)
        refine takeH 0 69 (.pointer (some ⟨go, 0, none⟩)) hHeld rfl rfl (by kernel_rfl) (by kernel_rfl) (by kernel_rfl) (fun _ _ _ h => h) (Or.inl ⟨by rfl, fun w _ => by go_simp⟩) ?_
        simp only [Act.put, List.setIfInBounds_toArray, List.set_cons_zero, List.set_cons_succ]
        refine takeH 2 71 (.slice (some ⟨g, 0, none⟩) lL cv) hHeld rfl rfl (by kernel_rfl) (by kernel_rfl) (by kernel_rfl) (fun _ _ _ h => h) (Or.inl ⟨by rfl, fun w _ => by go_simp⟩) ?_
        simp only [Act.put, List.setIfInBounds_toArray, List.set_cons_zero, List.set_cons_succ]
        refine takeH 3 72 (.int .i64 (k : Int)) hHeld rfl rfl (by kernel_rfl) (by kernel_rfl) (by kernel_rfl) (fun _ _ _ h => h) (Or.inl ⟨by rfl, fun w _ => by go_simp⟩) ?_
        simp only [Act.put, List.setIfInBounds_toArray, List.set_cons_zero, List.set_cons_succ]
        refine takeH 4 73 (.pointer (some ⟨g, k * 2, none⟩)) hHeld rfl rfl (by kernel_rfl) (by kernel_rfl) (by kernel_rfl) (fun _ _ _ h => h) (Or.inl ⟨by rfl, fun w _ => run_op rfl ((atS g lL cv k _ rfl hlt) w)⟩) ?_
        simp only [Act.put, List.setIfInBounds_toArray, List.set_cons_zero, List.set_cons_succ]
        refine takeH 5 74 (.pointer (some ⟨g, k * 2, none⟩)) hHeld rfl rfl (by kernel_rfl) (by kernel_rfl) (by kernel_rfl) (fun _ _ _ h => h) (Or.inl ⟨by rfl, fun w _ => by go_simp⟩) ?_
        simp only [Act.put, List.setIfInBounds_toArray, List.set_cons_zero, List.set_cons_succ]
        refine takeH 6 75 (.int .i64 (b : Int)) hHeld rfl rfl (by kernel_rfl) (by kernel_rfl) (by kernel_rfl) (fun _ _ _ h => h) (Or.inl ⟨by rfl, fun w hw => by have hw' : w.cell? ⟨g, (k * 2), none⟩ = some (.int .i64 (b : Int)) := (fun h => h.1) hw; go_simp⟩) ?_
        simp only [Act.put, List.setIfInBounds_toArray, List.set_cons_zero, List.set_cons_succ]
        refine takeH 8 77 (.pointer (some ⟨go, 1, none⟩)) hHeld rfl rfl (by kernel_rfl) (by kernel_rfl) (by kernel_rfl) (fun _ _ _ h => h) (Or.inl ⟨by rfl, fun w _ => by go_simp⟩) ?_
        simp only [Act.put, List.setIfInBounds_toArray, List.set_cons_zero, List.set_cons_succ]
        refine takeH 10 79 (.slice (some ⟨g, 0, none⟩) lL cv) hHeld rfl rfl (by kernel_rfl) (by kernel_rfl) (by kernel_rfl) (fun _ _ _ h => h) (Or.inl ⟨by rfl, fun w _ => by go_simp⟩) ?_
        simp only [Act.put, List.setIfInBounds_toArray, List.set_cons_zero, List.set_cons_succ]
        refine takeH 11 80 (.int .i64 (k : Int)) hHeld rfl rfl (by kernel_rfl) (by kernel_rfl) (by kernel_rfl) (fun _ _ _ h => h) (Or.inl ⟨by rfl, fun w _ => by go_simp⟩) ?_
        simp only [Act.put, List.setIfInBounds_toArray, List.set_cons_zero, List.set_cons_succ]
        refine takeH 12 81 (.pointer (some ⟨g, k * 2, none⟩)) hHeld rfl rfl (by kernel_rfl) (by kernel_rfl) (by kernel_rfl) (fun _ _ _ h => h) (Or.inl ⟨by rfl, fun w _ => run_op rfl ((atS g lL cv k _ rfl hlt) w)⟩) ?_
        simp only [Act.put, List.setIfInBounds_toArray, List.set_cons_zero, List.set_cons_succ]
        refine takeH 13 82 (.pointer (some ⟨g, k * 2 + 1, none⟩)) hHeld rfl rfl (by kernel_rfl) (by kernel_rfl) (by kernel_rfl) (fun _ _ _ h => h) (Or.inl ⟨by rfl, fun w _ => by go_simp⟩) ?_
        simp only [Act.put, List.setIfInBounds_toArray, List.set_cons_zero, List.set_cons_succ]
        refine takeH 14 83 (.int .i64 (e : Int)) hHeld rfl rfl (by kernel_rfl) (by kernel_rfl) (by kernel_rfl) (fun _ _ _ h => h) (Or.inl ⟨by rfl, fun w hw => by have hw' : w.cell? ⟨g, (k * 2 + 1), none⟩ = some (.int .i64 (e : Int)) := (fun h => h.2) hw; go_simp⟩) ?_
        simp only [Act.put, List.setIfInBounds_toArray, List.set_cons_zero, List.set_cons_succ]
        refine wpAnyH_ready (rs := [1, 9]) (by kernel_rfl) (by simp) (AllReadyH.cons rfl (fun K hK => ?_) (AllReadyH.cons rfl (fun K hK => ?_) AllReadyH.nil))
        · rw [if_pos (by rfl)]
          go_simp
          refine hK.out _ _ (hS) (fun hHeld => ?_)
          clear hK K
          refine takeH 7 76 (.int .i64 (y0 : Int)) hHeld rfl rfl (by kernel_rfl) (by kernel_rfl) (by kernel_rfl) (fun _ _ _ h => h) (Or.inl ⟨by rfl, fun w _ => by go_simp⟩) ?_
          simp only [Act.put, List.setIfInBounds_toArray, List.set_cons_zero, List.set_cons_succ]
          refine wpAnyH_ready (rs := [9]) (by kernel_rfl) (by simp) (AllReadyH.cons rfl (fun K hK => ?_) AllReadyH.nil)
          rw [if_pos (by rfl)]
          go_simp
          refine hK.out _ _ (hS) (fun hHeld => ?_)
          clear hK K
          refine takeH 15 84 (.int .i64 (y1 : Int)) hHeld rfl rfl (by kernel_rfl) (by kernel_rfl) (by kernel_rfl) (fun _ _ _ h => h) (Or.inl ⟨by rfl, fun w _ => by go_simp⟩) ?_
          simp only [Act.put, List.setIfInBounds_toArray, List.set_cons_zero, List.set_cons_succ]
          refine takeH 16 85 (.agg #[.int .i64 (y0 : Int), .int .i64 (y1 : Int)]) hHeld rfl rfl (by kernel_rfl) (by kernel_rfl) (by kernel_rfl) (fun _ _ _ h => h) (Or.inl ⟨by rfl, fun w _ => by go_simp⟩) ?_
          simp only [Act.put, List.setIfInBounds_toArray, List.set_cons_zero, List.set_cons_succ]
          refine wpAnyH_ready (rs := [17]) (by kernel_rfl) (by simp) (AllReadyH.cons rfl (fun K hK => ?_) AllReadyH.nil)
          rw [if_pos (by rfl)]
          refine wp_storeW wS rfl rfl rfl (BW.out.drewN 1) rfl (One.qC (y0, y1)) (Nat.le_refl 2) ?_
          intro w5 hb5 hbut5
          have C5 : Hid (CI w L (.slice (some ⟨g, 0, none⟩) lL cv) go (i, i + 1) (k + 1) w5) := hide ⟨(CW.out.own.below (below_drew (Below.refl _ _))).but hbut5 CW.out.ne, ⟨(y0, y1), NX.out, hb5⟩, CW.out.ne, (below_drew CW.out.bel).trans (hbut5.below GOL.out)⟩
          have hS5 : w5.cell? ⟨g, k * 2, none⟩ = some (.int .i64 (b : Int)) ∧ w5.cell? ⟨g, k * 2 + 1, none⟩ = some (.int .i64 (e : Int)) := ⟨by rw [World.cell?_of_block (w := W.drew) (hbut5.block g hgo.symm)]; exact hS.1, by rw [World.cell?_of_block (w := W.drew) (hbut5.block g hgo.symm)]; exact hS.2⟩
          refine hK.out _ _ (hS5) (fun hHeld => ?_)
          clear hK K
          clear hb5 hbut5 hS5 hS CW BW
          refine wpAnyH_done (by kernel_rfl) ?_ _
          go_wp2
          go_roundw
          case rel => exact ⟨k + 1, by simp, hlt, C5⟩
          case measure => simp only [intOf]; omega
        · rw [if_pos (by rfl)]
          go_simp
          refine hK.out _ _ (hS) (fun hHeld => ?_)
          clear hK K
          refine takeH 15 84 (.int .i64 (y1 : Int)) hHeld rfl rfl (by kernel_rfl) (by kernel_rfl) (by kernel_rfl) (fun _ _ _ h => h) (Or.inl ⟨by rfl, fun w _ => by go_simp⟩) ?_
          simp only [Act.put, List.setIfInBounds_toArray, List.set_cons_zero, List.set_cons_succ]
          refine wpAnyH_ready (rs := [1]) (by kernel_rfl) (by simp) (AllReadyH.cons rfl (fun K hK => ?_) AllReadyH.nil)
          rw [if_pos (by rfl)]
          go_simp
          refine hK.out _ _ (hS) (fun hHeld => ?_)
          clear hK K
          refine takeH 7 76 (.int .i64 (y0 : Int)) hHeld rfl rfl (by kernel_rfl) (by kernel_rfl) (by kernel_rfl) (fun _ _ _ h => h) (Or.inl ⟨by rfl, fun w _ => by go_simp⟩) ?_
          simp only [Act.put, List.setIfInBounds_toArray, List.set_cons_zero, List.set_cons_succ]
          refine takeH 16 85 (.agg #[.int .i64 (y0 : Int), .int .i64 (y1 : Int)]) hHeld rfl rfl (by kernel_rfl) (by kernel_rfl) (by kernel_rfl) (fun _ _ _ h => h) (Or.inl ⟨by rfl, fun w _ => by go_simp⟩) ?_
          simp only [Act.put, List.setIfInBounds_toArray, List.set_cons_zero, List.set_cons_succ]
          refine wpAnyH_ready (rs := [17]) (by kernel_rfl) (by simp) (AllReadyH.cons rfl (fun K hK => ?_) AllReadyH.nil)
          rw [if_pos (by rfl)]
          refine wp_storeW wS rfl rfl rfl (BW.out.drewN 1) rfl (One.qC (y0, y1)) (Nat.le_refl 2) ?_
          intro w5 hb5 hbut5
          have C5 : Hid (CI w L (.slice (some ⟨g, 0, none⟩) lL cv) go (i, i + 1) (k + 1) w5) := hide ⟨(CW.out.own.below (below_drew (Below.refl _ _))).but hbut5 CW.out.ne, ⟨(y0, y1), NX.out, hb5⟩, CW.out.ne, (below_drew CW.out.bel).trans (hbut5.below GOL.out)⟩
          have hS5 : w5.cell? ⟨g, k * 2, none⟩ = some (.int .i64 (b : Int)) ∧ w5.cell? ⟨g, k * 2 + 1, none⟩ = some (.int .i64 (e : Int)) := ⟨by rw [World.cell?_of_block (w := W.drew) (hbut5.block g hgo.symm)]; exact hS.1, by rw [World.cell?_of_block (w := W.drew) (hbut5.block g hgo.symm)]; exact hS.2⟩
          refine hK.out _ _ (hS5) (fun hHeld => ?_)
          clear hK K
          clear hb5 hbut5 hS5 hS CW BW
          refine wpAnyH_done (by kernel_rfl) ?_ _
          go_wp2
          go_roundw
          case rel => exact ⟨k + 1, by simp, hlt, C5⟩
          case measure => simp only [intOf]; omega
    · obtain rfl : k = lL := by omega
      obtain ⟨x, hx, hbk⟩ := CC.out.blk
      rw [← HL.out] at hx
      obtain rfl := jns_whole HJ.out hx
      obtain ⟨d0, d1⟩ := Blk.two (a := 0) (b := (n : Int)) hbk
      go_wp2
      go_ret
      exact ⟨rfl, CC.out.bel⟩

theorem covers_walk (i n : Int) (w : World) (ha : -9223372036854775808 ≤ i) (ha' : i ≤ 9223372036854775807) (hn : -9223372036854775808 ≤ n) (hn' : n ≤ 9223372036854775807) : Calls Try.prog 6 #[.int .i64 i, .int .i64 n] w fun r w' => r = .returned (.bool true) ∧ Below w.heap.size w w' := by
  by_cases h : i < 0 ∨ n ≤ i ∨ 281474976710656 < n
  · exact covers_bad i n w h
  · obtain ⟨a, rfl⟩ : ∃ a : Nat, i = (a : Int) := ⟨i.toNat, by omega⟩
    obtain ⟨m, rfl⟩ : ∃ m : Nat, n = (m : Int) := ⟨n.toNat, by omega⟩
    exact covers_ok a m w (by omega) (by omega)

end Go.Proofs.Ytlniffmhihhkcaa
