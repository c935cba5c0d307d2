/-
  The walk of NodeJoins: the spans of a consistency proof, joined one by one.
-/
import Derived.Test.YtlniffmhihhkcabJn
namespace Go.Proofs.Ytlniffmhihhkcab
open Go.RowKit
set_option linter.unusedVariables false

theorem and_pow : ∀ a : Fin 63, bits BinOp.and IntKind.i64 (2 ^ a.val) (2 ^ a.val - 1) = 0 := by decide +kernel
theorem and_nat63 (a b : Nat) (ha : a < 2 ^ 62) (hb : b < 2 ^ 62) : bits BinOp.and IntKind.i64 (a : Int) (b : Int) = ((a &&& b : Nat) : Int) := by
  have hx : a &&& b < 2 ^ 62 := Nat.and_lt_two_pow _ hb
  have h1 : (BitVec.ofInt 64 (a : Int)).toNat = a := by rw [BitVec.ofInt_natCast, BitVec.toNat_ofNat]; omega
  have h2 : (BitVec.ofInt 64 (b : Int)).toNat = b := by rw [BitVec.ofInt_natCast, BitVec.toNat_ofNat]; omega
  show IntKind.i64.wrap ((BitVec.ofInt 64 (a : Int) &&& BitVec.ofInt 64 (b : Int)).toNat : Int) = _
  rw [BitVec.toNat_and, h1, h2, IntKind.wrap_i64]
  omega
theorem bit_on (x j : Nat) (h1 : 2 ^ j ≤ x) (h2 : x < 2 ^ (j + 1)) : x.testBit j = true := by
  rw [Nat.testBit_eq_decide_div_mod_eq]
  have hp := Nat.two_pow_pos j
  have : x / 2 ^ j = 1 := by
    rw [Nat.div_eq_iff hp]
    rw [Nat.pow_succ] at h2
    omega
  simp [this]
theorem and_ne (m j : Nat) (h1 : 2 ^ j < m) (h2 : m < 2 ^ (j + 1)) : m &&& (m - 1) ≠ 0 := by
  intro h
  have h3 : (m &&& (m - 1)).testBit j = true := by
    rw [Nat.testBit_and, bit_on m j (by omega) h2, bit_on (m - 1) j (by omega) (by omega)]
    rfl
  rw [h, Nat.zero_testBit] at h3
  cases h3
/-- What is met ends at m, and begins no earlier. -/
theorem dwM_last (m : Nat) (hm : 1 ≤ m) : ∀ (f b n : Nat), n ≤ f → b ≤ m - 1 → m - 1 < b + n → n ≤ 281474976710656 → (dw (stopM m) (m - 1) b n).2.2 = m ∧ b ≤ (dw (stopM m) (m - 1) b n).2.1 ∧ (dw (stopM m) (m - 1) b n).2.1 < m
  | 0, b, n, h, _, _, _ => by omega
  | f + 1, b, n, h, h1, h2, h3 => by
    by_cases hs : stopM m b n = true
    · rw [dw_stop hs]
      simp [stopM] at hs
      exact ⟨hs, Nat.le_refl _, by show b < m; omega⟩
    · have hs' : stopM m b n = false := by simpa using hs
      have hn : 2 ≤ n := by
        rcases Nat.lt_or_ge n 2 with hlt | hge
        · exact absurd (endsM m hm b n (by omega) h1 h2) hs
        · exact hge
      have hh := hf_bd n hn (by omega)
      by_cases hc : m - 1 < b + hf n
      · rw [dw_lo (endsM m hm) hs' hn h3 h1 rfl hc]
        exact dwM_last m hm f b (hf n) (by omega) h1 hc (by omega)
      · rw [dw_hi (endsM m hm) hs' hn h3 h2 rfl hc]
        obtain ⟨i1, i2, i3⟩ := dwM_last m hm f (b + hf n) (n - hf n) (by omega) (by omega) (by omega) (by omega)
        exact ⟨i1, Nat.le_trans (Nat.le_add_right _ _) i2, i3⟩
/-- It begins at the leaf 0 just if m is a power of two. -/
theorem dwM_pow (m : Nat) (hm : 1 ≤ m) : ∀ (f n : Nat), n ≤ f → m < n → n ≤ 281474976710656 → ((dw (stopM m) (m - 1) 0 n).2.1 = 0 → ∃ j, m = 2 ^ j) ∧ ((dw (stopM m) (m - 1) 0 n).2.1 ≠ 0 → ∃ j, 2 ^ j < m ∧ m < 2 ^ (j + 1))
  | 0, n, h, h1, _ => by omega
  | f + 1, n, h, h1, h3 => by
    have hs' : stopM m 0 n = false := by simp [stopM]; omega
    have hn : 2 ≤ n := by omega
    have hh := hf_bd n hn (by omega)
    obtain ⟨j, hj⟩ : ∃ j, hf n = 2 ^ j := ⟨_, rfl⟩
    by_cases hc : m - 1 < 0 + hf n
    · rw [dw_lo (endsM m hm) hs' hn h3 (Nat.zero_le _) rfl hc]
      by_cases he : m = hf n
      · have hst : stopM m 0 (hf n) = true := by simp [stopM, he]
        rw [dw_stop hst]
        exact ⟨fun _ => ⟨j, by rw [he, hj]⟩, fun h0 => absurd rfl h0⟩
      · exact dwM_pow m hm f (hf n) (by omega) (by omega) (by omega)
    · rw [dw_hi (endsM m hm) hs' hn h3 (by omega) rfl hc]
      have hl := dwM_last m hm n (0 + hf n) (n - hf n) (by omega) (by omega) (by omega) (by omega)
      refine ⟨fun h0 => ?_, fun _ => ⟨j, by rw [← hj]; omega, by rw [Nat.pow_succ, ← hj]; omega⟩⟩
      have h5 := hl.2.1
      have h6 : (dw (stopM m) (m - 1) (0 + hf n) (n - hf n)).2.1 = 0 := h0
      omega
theorem and_of_pow (m j : Nat) (hm : m ≤ 281474976710656) (h : m = 2 ^ j) : bits BinOp.and IntKind.i64 (m : Int) ((m : Int) - 1) = 0 := by
  have hj : j < 63 := by
    apply Nat.lt_of_not_le
    intro hl
    have := Nat.pow_le_pow_right (n := 2) (by decide) hl
    omega
  have := and_pow ⟨j, hj⟩
  subst h
  simpa [Int.natCast_pow] using this
theorem and_of_not (m j : Nat) (hm : m ≤ 281474976710656) (h0 : 1 ≤ m) (h1 : 2 ^ j < m) (h2 : m < 2 ^ (j + 1)) : ∃ x : Nat, bits BinOp.and IntKind.i64 (m : Int) ((m : Int) - 1) = (x : Int) ∧ x ≠ 0 := by
  refine ⟨m &&& (m - 1), ?_, and_ne m j h1 h2⟩
  rw [show (m : Int) - 1 = ((m - 1 : Nat) : Int) by omega]
  exact and_nat63 m (m - 1) (by omega) (by omega)
/-- What the walk needs to know. -/
theorem joins_facts (m n : Nat) (h0 : 1 ≤ m) (h1 : m < n) (h2 : n ≤ 281474976710656) :
    (stL m 0 n).length ≤ 49 ∧ ((bits BinOp.and IntKind.i64 (m : Int) ((m : Int) - 1) = 0 ∧ jns (0, m) (stL m 0 n) = some (0, n)) ∨
    (∃ x p : Nat, bits BinOp.and IntKind.i64 (m : Int) ((m : Int) - 1) = (x : Int) ∧ x ≠ 0 ∧ (stL m 0 n)[0]? = some (p, m) ∧ jns (p, p) (stL m 0 n) = some (0, n) ∧ jns (p, p) ((stL m 0 n).take 1) = some (p, m))) := by
  have hl := dwM_last m h0 n 0 n (Nat.le_refl _) (Nat.zero_le _) (by omega) h2
  have hp := dwM_pow m h0 n n (Nat.le_refl _) h1 h2
  have hj := jns_dw (endsM m h0) n 0 n (Nat.le_refl _) (Nat.zero_le _) (by omega) h2
  have hf := dw_few (stop := stopM m) (b := 0) (n := n) (endsM m h0) (Nat.zero_le _) (by omega) h2
  unfold stL
  generalize dw (stopM m) (m - 1) 0 n = D at *
  obtain ⟨P, p, q⟩ := D
  simp only at hl hp hj hf ⊢
  obtain ⟨rfl, _, hpm⟩ := hl
  rw [Nat.zero_add] at hj
  by_cases hz : p = 0
  · subst hz
    obtain ⟨j, hj2⟩ := hp.1 rfl
    simp only [tlast, if_true, List.append_nil]
    exact ⟨by rw [List.length_reverse]; omega, .inl ⟨and_of_pow q j (by omega) hj2, hj⟩⟩
  · obtain ⟨j, hj1, hj2⟩ := hp.2 hz
    obtain ⟨x, hx, hx0⟩ := and_of_not q j (by omega) h0 hj1 hj2
    have ht : tlast (p, q) = [(p, q)] := by unfold tlast; rw [if_neg hz]
    rw [ht]
    simp only [List.reverse_append, List.reverse_cons, List.reverse_nil, List.nil_append, List.singleton_append]
    have hjn : jn (p, p) (p, q) = some (p, q) := by
      simp only [jn]
      rw [if_pos ⟨hpm, .inr trivial⟩, Nat.min_self, Nat.max_eq_right (by omega)]
    refine ⟨by simp; omega, .inr ⟨x, p, hx, hx0, rfl, ?_, ?_⟩⟩
    · simp only [jns, hjn, Option.bind_some]; exact hj
    · simp [jns, hjn]

theorem joins_bad (m n : Int) (w : World) (h : m < 1 ∨ n < m ∨ 281474976710656 < n) : Calls Try.prog 3 #[.int .i64 m, .int .i64 n] w fun r w' => r = .returned (.bool true) ∧ Below w.heap.size w w' := by
  have HB := hide (fun v => steps_bad m n v h)
  by_cases h1 : m < 1
  · clear h
    go_enter Try.func3, Try.ntmps3
    go_wp2_with fail
    refine (HB.out _).mono ?_
    rintro r w1 ⟨rfl, hb1⟩
    go_wp2
    go_ret
    exact ⟨rfl, hb1⟩
  · by_cases h2 : m > n
    · clear h
      go_enter Try.func3, Try.ntmps3
      go_wp2_with fail
      refine (HB.out _).mono ?_
      rintro r w1 ⟨rfl, hb1⟩
      go_wp2
      go_ret
      exact ⟨rfl, hb1⟩
    · have h3 : n > 281474976710656 := by omega
      clear h
      go_enter Try.func3, Try.ntmps3
      go_wp2_with fail
      refine (HB.out _).mono ?_
      rintro r w1 ⟨rfl, hb1⟩
      go_wp2
      go_ret
      exact ⟨rfl, hb1⟩
theorem stL_nil (m : Nat) (h0 : 1 ≤ m) : stL m 0 m = [] := by
  unfold stL
  rw [dw_stop (by simp [stopM])]
  rfl
theorem joins_all (m : Nat) (w : World) (h0 : 1 ≤ m) (h2 : m ≤ 281474976710656) : Calls Try.prog 3 #[.int .i64 (m : Int), .int .i64 (m : Int)] w fun r w' => r = .returned (.bool true) ∧ Below w.heap.size w w' := by
  have HS := hide (fun v => steps_ok m m v h0 (Nat.le_refl _) h2)
  rw [stL_nil m h0] at HS
  go_enter Try.func3, Try.ntmps3
  go_wp2_with fail
  refine (HS.out _).mono ?_
  rintro r w1 ⟨v1, rfl, ho1, hb1⟩
  obtain ⟨av, cv, rfl, _⟩ := ho1.len
  go_wp2
  go_ret
  exact ⟨rfl, hb1⟩


set_option maxRecDepth 100000 in
set_option maxHeartbeats 2000000 in
theorem joins_pow (m n : Nat) (L : List (Nat × Nat)) (w : World) (h0 : 1 ≤ m) (h1 : m < n) (h2 : n ≤ 281474976710656) (hL : stL m 0 n = L) (hlen : L.length ≤ 49) (hbit : bits BinOp.and IntKind.i64 (m : Int) ((m : Int) - 1) = 0) (hj : jns (0, m) L = some (0, n)) : Calls Try.prog 3 #[.int .i64 (m : Int), .int .i64 (n : Int)] w fun r w' => r = .returned (.bool true) ∧ Below w.heap.size w w' := by
  have HS := hide (fun v => steps_ok m n v h0 (Nat.le_of_lt h1) h2)
  rw [hL] at HS
  have HJ := hide hj
  obtain ⟨lL, HL⟩ : ∃ l, Hid (L.length = l) := ⟨_, hide rfl⟩
  rw [HL.out] at hlen
  have hne : ¬ (m : Int) = (n : Int) := by omega
  have hm' : (m : Int) ≤ 281474976710656 := by omega
  obtain ⟨oo, ho⟩ : ∃ oo, oo = (0, m) := ⟨_, rfl⟩
  rw [← ho] at HJ
  clear hL hj
  go_enter Try.func3, Try.ntmps3
  go_wp2_with fail
  refine (HS.out _).mono ?_
  rintro r w1 ⟨v1, rfl, ho1, hb1⟩
  obtain ⟨av, cv, rfl, _⟩ := ho1.len
  rw [HL.out] at ho1 ⊢
  have O1 := hide ho1
  have B1 := hide hb1
  clear ho1 hb1
  go_wp2_with (first | (refine step_alloc zS rfl ?_; intro w2 go hg2 hle2 hb2; have HG2 := hide hg2; clear hg2) | (refine step_storeA wS rfl rfl rfl HG2.out rfl (One.c2 0 (m : Int)) rfl ?_))
  intro w3 hg3 hbut3
  have hne2 : (Value.slice av lL cv).ownBlock ≠ some go := fun hk => by have := (O1.out.lt _ hk).2; omega
  have C3 : Hid (CI w L (.slice av lL cv) go oo 0 w3) := hide ⟨(O1.out.below hb2).but hbut3 hne2, ⟨(0, m), by rw [ho]; rfl, hg3⟩, hne2, new_below B1.out hb2 hle2 hbut3⟩
  have hgo1 := B1.out.size
  have GOL := hide (show w.heap.size ≤ go by omega)
  clear hg3 hbut3 hb2 HG2 O1 B1 hne2 ho hgo1
  go_wp2_with fail
  go_loopw [7] (fun s wr => ∃ k : Nat, s = .int .i64 (k : Int) ∧ k ≤ lL ∧ Hid (CI w L (.slice av lL cv) go oo k wr)) (fun s _ => lL - (intOf s).toNat)
  case atStart => exact ⟨0, rfl, Nat.zero_le _, C3⟩
  case round =>
    obtain ⟨k, rfl, hk, CC⟩ := hrel
    by_cases hlt : k < lL
    · have hlt' : (k : Int) < (lL : Int) := by omega
      obtain ⟨s, hs⟩ : ∃ s, L[k]? = some s := ⟨_, List.getElem?_eq_getElem (by rw [HL.out]; exact hlt)⟩
      obtain ⟨x, hx, hbk⟩ := CC.out.blk
      obtain ⟨⟨s0, s1⟩, hnx⟩ := jns_next HJ.out hx hs
      obtain ⟨g, rfl⟩ : ∃ g, av = some ⟨g, 0, none⟩ := by
        rcases CC.out.own.lies with ⟨e, e2⟩ | ⟨g, cap, cs, e, _⟩
        · rw [e2] at hs; simp at hs
        · injection e with e _ _; exact ⟨g, e⟩
      obtain ⟨c0, c1⟩ := CC.out.own.cells k s hs
      obtain ⟨x0, x1⟩ := x
      obtain ⟨b, e⟩ := s
      simp only at c0 c1 s0 s1 hnx
      obtain ⟨d0, d1⟩ := Blk.two (a := (x0 : Int)) (b := (x1 : Int)) hbk
      have xa := atS g lL cv k (k : Int) rfl hlt
      have f0 := hbk.free 0
      have f1 := hbk.free 1
      have NX := hide hnx
      have BK : Hid (Blk wr go 27 (qC (x0, x1))) := hide hbk
      have hgo : go ≠ g := fun e => CC.out.ne (by rw [e]; rfl)
      clear hnx hx hbk hs
      have t0 : decide ((e : Int) ≤ (b : Int)) = false := by simp; omega
      have t0' : decide (e ≤ b) = false := by simp; omega
      have t0'' : decide ((b : Int) ≥ (e : Int)) = false := by simp; omega
      obtain ⟨y0, hy0⟩ : ∃ y, min x0 b = y := ⟨_, rfl⟩
      obtain ⟨y1, hy1⟩ : ∃ y, max x1 e = y := ⟨_, rfl⟩
      rw [hy0, hy1] at NX
      have M0 := hide (show min (x0 : Int) (b : Int) = (y0 : Int) by omega)
      have M1 := hide (show max (x1 : Int) (e : Int) = (y1 : Int) by omega)
      have S1 := hide s1
      clear hy0 hy1 s1 s0
      by_cases hc : e = x0
      · subst hc
        go_wp2_with fail
        go_quiet (fail)
        go_wp2_with fail
        have m0 := M0.out
        have m1 := M1.out
        have CW : Hid (CI w L (.slice (some ⟨g, 0, none⟩) lL cv) go oo k (wr.drewN nq)) := hide ⟨CC.out.own.below (below_drews (Below.refl _ _) nq), CC.out.blk, CC.out.ne, below_drews CC.out.bel nq⟩
        have BW : Hid (Blk (wr.drewN nq) go 27 (qC (e, x1))) := BK
        have p0 : (wr.drewN nq).cell? ⟨g, k * 2, none⟩ = some (.int .i64 (b : Int)) := c0
        have p1 : (wr.drewN nq).cell? ⟨g, k * 2 + 1, none⟩ = some (.int .i64 (e : Int)) := c1
        have q0 := (Blk.two BW.out).1
        have q1 := (Blk.two BW.out).2
        have fr0 := BW.out.free 0
        have fr1 := BW.out.free 1
        have far := far_cell hgo
        simp only at q0 q1
        clear c0 c1 d0 d1 f0 f1 CC BK M0 M1
        generalize wr.drewN nq = W at *
        have hS : W.drew.cell? ⟨g, k * 2, none⟩ = some (.int .i64 (b : Int)) ∧ W.drew.cell? ⟨g, k * 2 + 1, none⟩ = some (.int .i64 (e : Int)) := ⟨p0, p1⟩
        refine wp_region_held_drew (S := fun v : World => v.cell? ⟨g, k * 2, none⟩ = some (.int .i64 (b : Int)) ∧ v.cell? ⟨g, k * 2 + 1, none⟩ = some (.int .i64 (e : Int))) (by kernel_rfl) hS (fun hHeld => ?_)
        refine takeH 0 92 (.pointer (some ⟨go, 0, none⟩)) hHeld rfl rfl (by kernel_rfl) (by kernel_rfl) (by kernel_rfl) (fun _ _ _ h => h) (Or.inl ⟨by rfl, fun w _ => by go_simp⟩) ?_
        simp only [Act.put, List.setIfInBounds_toArray, List.set_cons_zero, List.set_cons_succ]
        refine takeH 2 94 (.slice (some ⟨g, 0, none⟩) lL cv) hHeld rfl rfl (by kernel_rfl) (by kernel_rfl) (by kernel_rfl) (fun _ _ _ h => h) (Or.inl ⟨by rfl, fun w _ => by go_simp⟩) ?_
        simp only [Act.put, List.setIfInBounds_toArray, List.set_cons_zero, List.set_cons_succ]
        refine takeH 3 95 (.int .i64 (k : Int)) hHeld rfl rfl (by kernel_rfl) (by kernel_rfl) (by kernel_rfl) (fun _ _ _ h => h) (Or.inl ⟨by rfl, fun w _ => by go_simp⟩) ?_
        simp only [Act.put, List.setIfInBounds_toArray, List.set_cons_zero, List.set_cons_succ]
        refine takeH 4 96 (.pointer (some ⟨g, k * 2, none⟩)) hHeld rfl rfl (by kernel_rfl) (by kernel_rfl) (by kernel_rfl) (fun _ _ _ h => h) (Or.inl ⟨by rfl, fun w _ => run_op rfl ((atS g lL cv k _ rfl hlt) w)⟩) ?_
        simp only [Act.put, List.setIfInBounds_toArray, List.set_cons_zero, List.set_cons_succ]
        refine takeH 5 97 (.pointer (some ⟨g, k * 2, none⟩)) hHeld rfl rfl (by kernel_rfl) (by kernel_rfl) (by kernel_rfl) (fun _ _ _ h => h) (Or.inl ⟨by rfl, fun w _ => by go_simp⟩) ?_
        simp only [Act.put, List.setIfInBounds_toArray, List.set_cons_zero, List.set_cons_succ]
        refine takeH 6 98 (.int .i64 (b : Int)) hHeld rfl rfl (by kernel_rfl) (by kernel_rfl) (by kernel_rfl) (fun _ _ _ h => h) (Or.inl ⟨by rfl, fun w hw => by have hw' : w.cell? ⟨g, (k * 2), none⟩ = some (.int .i64 (b : Int)) := (fun h => h.1) hw; go_simp⟩) ?_
        simp only [Act.put, List.setIfInBounds_toArray, List.set_cons_zero, List.set_cons_succ]
        refine takeH 8 100 (.pointer (some ⟨go, 1, none⟩)) hHeld rfl rfl (by kernel_rfl) (by kernel_rfl) (by kernel_rfl) (fun _ _ _ h => h) (Or.inl ⟨by rfl, fun w _ => by go_simp⟩) ?_
        simp only [Act.put, List.setIfInBounds_toArray, List.set_cons_zero, List.set_cons_succ]
        refine takeH 10 102 (.slice (some ⟨g, 0, none⟩) lL cv) hHeld rfl rfl (by kernel_rfl) (by kernel_rfl) (by kernel_rfl) (fun _ _ _ h => h) (Or.inl ⟨by rfl, fun w _ => by go_simp⟩) ?_
        simp only [Act.put, List.setIfInBounds_toArray, List.set_cons_zero, List.set_cons_succ]
        refine takeH 11 103 (.int .i64 (k : Int)) hHeld rfl rfl (by kernel_rfl) (by kernel_rfl) (by kernel_rfl) (fun _ _ _ h => h) (Or.inl ⟨by rfl, fun w _ => by go_simp⟩) ?_
        simp only [Act.put, List.setIfInBounds_toArray, List.set_cons_zero, List.set_cons_succ]
        refine takeH 12 104 (.pointer (some ⟨g, k * 2, none⟩)) hHeld rfl rfl (by kernel_rfl) (by kernel_rfl) (by kernel_rfl) (fun _ _ _ h => h) (Or.inl ⟨by rfl, fun w _ => run_op rfl ((atS g lL cv k _ rfl hlt) w)⟩) ?_
        simp only [Act.put, List.setIfInBounds_toArray, List.set_cons_zero, List.set_cons_succ]
        refine takeH 13 105 (.pointer (some ⟨g, k * 2 + 1, none⟩)) hHeld rfl rfl (by kernel_rfl) (by kernel_rfl) (by kernel_rfl) (fun _ _ _ h => h) (Or.inl ⟨by rfl, fun w _ => by go_simp⟩) ?_
        simp only [Act.put, List.setIfInBounds_toArray, List.set_cons_zero, List.set_cons_succ]
        refine takeH 14 106 (.int .i64 (e : Int)) hHeld rfl rfl (by kernel_rfl) (by kernel_rfl) (by kernel_rfl) (fun _ _ _ h => h) (Or.inl ⟨by rfl, fun w hw => by have hw' : w.cell? ⟨g, (k * 2 + 1), none⟩ = some (.int .i64 (e : Int)) := (fun h => h.2) hw; go_simp⟩) ?_
        simp only [Act.put, List.setIfInBounds_toArray, List.set_cons_zero, List.set_cons_succ]
        refine wpAnyH_ready (rs := [1, 9]) (by kernel_rfl) (by simp) (AllReadyH.cons rfl (fun K hK => ?_) (AllReadyH.cons rfl (fun K hK => ?_) AllReadyH.nil))
        · rw [if_pos (by rfl)]
          go_simp
          refine hK.out _ _ (hS) (fun hHeld => ?_)
          clear hK K
          refine takeH 7 99 (.int .i64 (y0 : Int)) hHeld rfl rfl (by kernel_rfl) (by kernel_rfl) (by kernel_rfl) (fun _ _ _ h => h) (Or.inl ⟨by rfl, fun w _ => by go_simp⟩) ?_
          simp only [Act.put, List.setIfInBounds_toArray, List.set_cons_zero, List.set_cons_succ]
          refine wpAnyH_ready (rs := [9]) (by kernel_rfl) (by simp) (AllReadyH.cons rfl (fun K hK => ?_) AllReadyH.nil)
          rw [if_pos (by rfl)]
          go_simp
          refine hK.out _ _ (hS) (fun hHeld => ?_)
          clear hK K
          refine takeH 15 107 (.int .i64 (y1 : Int)) hHeld rfl rfl (by kernel_rfl) (by kernel_rfl) (by kernel_rfl) (fun _ _ _ h => h) (Or.inl ⟨by rfl, fun w _ => by go_simp⟩) ?_
          simp only [Act.put, List.setIfInBounds_toArray, List.set_cons_zero, List.set_cons_succ]
          refine takeH 16 108 (.agg #[.int .i64 (y0 : Int), .int .i64 (y1 : Int)]) hHeld rfl rfl (by kernel_rfl) (by kernel_rfl) (by kernel_rfl) (fun _ _ _ h => h) (Or.inl ⟨by rfl, fun w _ => by go_simp⟩) ?_
          simp only [Act.put, List.setIfInBounds_toArray, List.set_cons_zero, List.set_cons_succ]
          refine wpAnyH_ready (rs := [17]) (by kernel_rfl) (by simp) (AllReadyH.cons rfl (fun K hK => ?_) AllReadyH.nil)
          rw [if_pos (by rfl)]
          refine wp_storeW wS rfl rfl rfl (BW.out.drewN 1) rfl (One.qC (y0, y1)) (Nat.le_refl 2) ?_
          intro w5 hb5 hbut5
          have C5 : Hid (CI w L (.slice (some ⟨g, 0, none⟩) lL cv) go oo (k + 1) w5) := hide ⟨(CW.out.own.below (below_drew (Below.refl _ _))).but hbut5 CW.out.ne, ⟨(y0, y1), NX.out, hb5⟩, CW.out.ne, (below_drew CW.out.bel).trans (hbut5.below GOL.out)⟩
          have hS5 : w5.cell? ⟨g, k * 2, none⟩ = some (.int .i64 (b : Int)) ∧ w5.cell? ⟨g, k * 2 + 1, none⟩ = some (.int .i64 (e : Int)) := ⟨by rw [World.cell?_of_block (w := W.drew) (hbut5.block g hgo.symm)]; exact hS.1, by rw [World.cell?_of_block (w := W.drew) (hbut5.block g hgo.symm)]; exact hS.2⟩
          refine hK.out _ _ (hS5) (fun hHeld => ?_)
          clear hK K
          clear hb5 hbut5 hS5 hS CW BW
          refine wpAnyH_done (by kernel_rfl) ?_ _
          go_wp2
          go_roundw
          case rel => exact ⟨k + 1, by simp, hlt, C5⟩
          case measure => simp only [intOf]; omega
        · rw [if_pos (by rfl)]
          go_simp
          refine hK.out _ _ (hS) (fun hHeld => ?_)
          clear hK K
          refine takeH 15 107 (.int .i64 (y1 : Int)) hHeld rfl rfl (by kernel_rfl) (by kernel_rfl) (by kernel_rfl) (fun _ _ _ h => h) (Or.inl ⟨by rfl, fun w _ => by go_simp⟩) ?_
          simp only [Act.put, List.setIfInBounds_toArray, List.set_cons_zero, List.set_cons_succ]
          refine wpAnyH_ready (rs := [1]) (by kernel_rfl) (by simp) (AllReadyH.cons rfl (fun K hK => ?_) AllReadyH.nil)
          rw [if_pos (by rfl)]
          go_simp
          refine hK.out _ _ (hS) (fun hHeld => ?_)
          clear hK K
          refine takeH 7 99 (.int .i64 (y0 : Int)) hHeld rfl rfl (by kernel_rfl) (by kernel_rfl) (by kernel_rfl) (fun _ _ _ h => h) (Or.inl ⟨by rfl, fun w _ => by go_simp⟩) ?_
          simp only [Act.put, List.setIfInBounds_toArray, List.set_cons_zero, List.set_cons_succ]
          refine takeH 16 108 (.agg #[.int .i64 (y0 : Int), .int .i64 (y1 : Int)]) hHeld rfl rfl (by kernel_rfl) (by kernel_rfl) (by kernel_rfl) (fun _ _ _ h => h) (Or.inl ⟨by rfl, fun w _ => by go_simp⟩) ?_
          simp only [Act.put, List.setIfInBounds_toArray, List.set_cons_zero, List.set_cons_succ]
          refine wpAnyH_ready (rs := [17]) (by kernel_rfl) (by simp) (AllReadyH.cons rfl (fun K hK => ?_) AllReadyH.nil)
          rw [if_pos (by rfl)]
          refine wp_storeW wS rfl rfl rfl (BW.out.drewN 1) rfl (One.qC (y0, y1)) (Nat.le_refl 2) ?_
          intro w5 hb5 hbut5
          have C5 : Hid (CI w L (.slice (some ⟨g, 0, none⟩) lL cv) go oo (k + 1) w5) := hide ⟨(CW.out.own.below (below_drew (Below.refl _ _))).but hbut5 CW.out.ne, ⟨(y0, y1), NX.out, hb5⟩, CW.out.ne, (below_drew CW.out.bel).trans (hbut5.below GOL.out)⟩
          have hS5 : w5.cell? ⟨g, k * 2, none⟩ = some (.int .i64 (b : Int)) ∧ w5.cell? ⟨g, k * 2 + 1, none⟩ = some (.int .i64 (e : Int)) := ⟨by rw [World.cell?_of_block (w := W.drew) (hbut5.block g hgo.symm)]; exact hS.1, by rw [World.cell?_of_block (w := W.drew) (hbut5.block g hgo.symm)]; exact hS.2⟩
          refine hK.out _ _ (hS5) (fun hHeld => ?_)
          clear hK K
          clear hb5 hbut5 hS5 hS CW BW
          refine wpAnyH_done (by kernel_rfl) ?_ _
          go_wp2
          go_roundw
          case rel => exact ⟨k + 1, by simp, hlt, C5⟩
          case measure => simp only [intOf]; omega
      · have hc' : ((e : Int) != (x0 : Int)) = true := by simp; omega
        have hc2 : b = x1 := by have := S1.out; omega
        subst hc2
        go_wp2_with fail
        go_quiet (fail)
        go_wp2_with fail
        have m0 := M0.out
        have m1 := M1.out
        have CW : Hid (CI w L (.slice (some ⟨g, 0, none⟩) lL cv) go oo k (wr.drewN nq)) := hide ⟨CC.out.own.below (below_drews (Below.refl _ _) nq), CC.out.blk, CC.out.ne, below_drews CC.out.bel nq⟩
        have BW : Hid (Blk (wr.drewN nq) go 27 (qC (x0, b))) := BK
        have p0 : (wr.drewN nq).cell? ⟨g, k * 2, none⟩ = some (.int .i64 (b : Int)) := c0
        have p1 : (wr.drewN nq).cell? ⟨g, k * 2 + 1, none⟩ = some (.int .i64 (e : Int)) := c1
        have q0 := (Blk.two BW.out).1
        have q1 := (Blk.two BW.out).2
        have fr0 := BW.out.free 0
        have fr1 := BW.out.free 1
        have far := far_cell hgo
        simp only at q0 q1
        clear c0 c1 d0 d1 f0 f1 CC BK M0 M1
        generalize wr.drewN nq = W at *
        have hS : W.drew.cell? ⟨g, k * 2, none⟩ = some (.int .i64 (b : Int)) ∧ W.drew.cell? ⟨g, k * 2 + 1, none⟩ = some (.int .i64 (e : Int)) := ⟨p0, p1⟩
        refine wp_region_held_drew (S := fun v : World => v.cell? ⟨g, k * 2, none⟩ = some (.int .i64 (b : Int)) ∧ v.cell? ⟨g, k * 2 + 1, none⟩ = some (.int .i64 (e : Int))) (by kernel_rfl) hS (fun hHeld => ?_)
        refine takeH 0 92 (.pointer (some ⟨go, 0, none⟩)) hHeld rfl rfl (by kernel_rfl) (by kernel_rfl) (by kernel_rfl) (fun _ _ _ h => h) (Or.inl ⟨by rfl, fun w _ => by go_simp⟩) ?_
        simp only [Act.put, List.setIfInBounds_toArray, List.set_cons_zero, List.set_cons_succ]
        refine takeH 2 94 (.slice (some ⟨g, 0, none⟩) lL cv) hHeld rfl rfl (by kernel_rfl) (by kernel_rfl) (by kernel_rfl) (fun _ _ _ h => h) (Or.inl ⟨by rfl, fun w _ => by go_simp⟩) ?_
        simp only [Act.put, List.setIfInBounds_toArray, List.set_cons_zero, List.set_cons_succ]
        refine takeH 3 95 (.int .i64 (k : Int)) hHeld rfl rfl (by kernel_rfl) (by kernel_rfl) (by kernel_rfl) (fun _ _ _ h => h) (Or.inl ⟨by rfl, fun w _ => by go_simp⟩) ?_
        simp only [Act.put, List.setIfInBounds_toArray, List.set_cons_zero, List.set_cons_succ]
        refine takeH 4 96 (.pointer (some ⟨g, k * 2, none⟩)) hHeld rfl rfl (by kernel_rfl) (by kernel_rfl) (by kernel_rfl) (fun _ _ _ h => h) (Or.inl ⟨by rfl, fun w _ => run_op rfl ((atS g lL cv k _ rfl hlt) w)⟩) ?_
        simp only [Act.put, List.setIfInBounds_toArray, List.set_cons_zero, List.set_cons_succ]
        refine takeH 5 97 (.pointer (some ⟨g, k * 2, none⟩)) hHeld rfl rfl (by kernel_rfl) (by kernel_rfl) (by kernel_rfl) (fun _ _ _ h => h) (Or.inl ⟨by rfl, fun w _ => by go_simp⟩) ?_
        simp only [Act.put, List.setIfInBounds_toArray, List.set_cons_zero, List.set_cons_succ]
        refine takeH 6 98 (.int .i64 (b : Int)) hHeld rfl rfl (by kernel_rfl) (by kernel_rfl) (by kernel_rfl) (fun _ _ _ h => h) (Or.inl ⟨by rfl, fun w hw => by have hw' : w.cell? ⟨g, (k * 2), none⟩ = some (.int .i64 (b : Int)) := (fun h => h.1) hw; go_simp⟩) ?_
        simp only [Act.put, List.setIfInBounds_toArray, List.set_cons_zero, List.set_cons_succ]
        refine takeH 8 100 (.pointer (some ⟨go, 1, none⟩)) hHeld rfl rfl (by kernel_rfl) (by kernel_rfl) (by kernel_rfl) (fun _ _ _ h => h) (Or.inl ⟨by rfl, fun w _ => by go_simp⟩) ?_
        simp only [Act.put, List.setIfInBounds_toArray, List.set_cons_zero, List.set_cons_succ]
        refine takeH 10 102 (.slice (some ⟨g, 0, none⟩) lL cv) hHeld rfl rfl (by kernel_rfl) (by kernel_rfl) (by kernel_rfl) (fun _ _ _ h => h) (Or.inl ⟨by rfl, fun w _ => by go_simp⟩) ?_
        simp only [Act.put, List.setIfInBounds_toArray, List.set_cons_zero, List.set_cons_succ]
        refine takeH 11 103 (.int .i64 (k : Int)) hHeld rfl rfl (by kernel_rfl) (by kernel_rfl) (by kernel_rfl) (fun _ _ _ h => h) (Or.inl ⟨by rfl, fun w _ => by go_simp⟩) ?_
        simp only [Act.put, List.setIfInBounds_toArray, List.set_cons_zero, List.set_cons_succ]
        refine takeH 12 104 (.pointer (some ⟨g, k * 2, none⟩)) hHeld rfl rfl (by kernel_rfl) (by kernel_rfl) (by kernel_rfl) (fun _ _ _ h => h) (Or.inl ⟨by rfl, fun w _ => run_op rfl ((atS g lL cv k _ rfl hlt) w)⟩) ?_
        simp only [Act.put, List.setIfInBounds_toArray, List.set_cons_zero, List.set_cons_succ]
        refine takeH 13 105 (.pointer (some ⟨g, k * 2 + 1, none⟩)) hHeld rfl rfl (by kernel_rfl) (by kernel_rfl) (by kernel_rfl) (fun _ _ _ h => h) (Or.inl ⟨by rfl, fun w _ => by go_simp⟩) ?_
        simp only [Act.put, List.setIfInBounds_toArray, List.set_cons_zero, List.set_cons_succ]
        refine takeH 14 106 (.int .i64 (e : Int)) hHeld rfl rfl (by kernel_rfl) (by kernel_rfl) (by kernel_rfl) (fun _ _ _ h => h) (Or.inl ⟨by rfl, fun w hw => by have hw' : w.cell? ⟨g, (k * 2 + 1), none⟩ = some (.int .i64 (e : Int)) := (fun h => h.2) hw; go_simp⟩) ?_
        simp only [Act.put, List.setIfInBounds_toArray, List.set_cons_zero, List.set_cons_succ]
        refine wpAnyH_ready (rs := [1, 9]) (by kernel_rfl) (by simp) (AllReadyH.cons rfl (fun K hK => ?_) (AllReadyH.cons rfl (fun K hK => ?_) AllReadyH.nil))
        · rw [if_pos (by rfl)]
          go_simp
          refine hK.out _ _ (hS) (fun hHeld => ?_)
          clear hK K
          refine takeH 7 99 (.int .i64 (y0 : Int)) hHeld rfl rfl (by kernel_rfl) (by kernel_rfl) (by kernel_rfl) (fun _ _ _ h => h) (Or.inl ⟨by rfl, fun w _ => by go_simp⟩) ?_
          simp only [Act.put, List.setIfInBounds_toArray, List.set_cons_zero, List.set_cons_succ]
          refine wpAnyH_ready (rs := [9]) (by kernel_rfl) (by simp) (AllReadyH.cons rfl (fun K hK => ?_) AllReadyH.nil)
          rw [if_pos (by rfl)]
          go_simp
          refine hK.out _ _ (hS) (fun hHeld => ?_)
          clear hK K
          refine takeH 15 107 (.int .i64 (y1 : Int)) hHeld rfl rfl (by kernel_rfl) (by kernel_rfl) (by kernel_rfl) (fun _ _ _ h => h) (Or.inl ⟨by rfl, fun w _ => by go_simp⟩) ?_
          simp only [Act.put, List.setIfInBounds_toArray, List.set_cons_zero, List.set_cons_succ]
          refine takeH 16 108 (.agg #[.int .i64 (y0 : Int), .int .i64 (y1 : Int)]) hHeld rfl rfl (by kernel_rfl) (by kernel_rfl) (by kernel_rfl) (fun _ _ _ h => h) (Or.inl ⟨by rfl, fun w _ => by go_simp⟩) ?_
          simp only [Act.put, List.setIfInBounds_toArray, List.set_cons_zero, List.set_cons_succ]
          refine wpAnyH_ready (rs := [17]) (by kernel_rfl) (by simp) (AllReadyH.cons rfl (fun K hK => ?_) AllReadyH.nil)
          rw [if_pos (by rfl)]
          refine wp_storeW wS rfl rfl rfl (BW.out.drewN 1) rfl (One.qC (y0, y1)) (Nat.le_refl 2) ?_
          intro w5 hb5 hbut5
          have C5 : Hid (CI w L (.slice (some ⟨g, 0, none⟩) lL cv) go oo (k + 1) w5) := hide ⟨(CW.out.own.below (below_drew (Below.refl _ _))).but hbut5 CW.out.ne, ⟨(y0, y1), NX.out, hb5⟩, CW.out.ne, (below_drew CW.out.bel).trans (hbut5.below GOL.out)⟩
          have hS5 : w5.cell? ⟨g, k * 2, none⟩ = some (.int .i64 (b : Int)) ∧ w5.cell? ⟨g, k * 2 + 1, none⟩ = some (.int .i64 (e : Int)) := ⟨by rw [World.cell?_of_block (w := W.drew) (hbut5.block g hgo.symm)]; exact hS.1, by rw [World.cell?_of_block (w := W.drew) (hbut5.block g hgo.symm)]; exact hS.2⟩
          refine hK.out _ _ (hS5) (fun hHeld => ?_)
          clear hK K
          clear hb5 hbut5 hS5 hS CW BW
          refine wpAnyH_done (by kernel_rfl) ?_ _
          go_wp2
          go_roundw
          case rel => exact ⟨k + 1, by simp, hlt, C5⟩
          case measure => simp only [intOf]; omega
        · rw [if_pos (by rfl)]
          go_simp
          refine hK.out _ _ (hS) (fun hHeld => ?_)
          clear hK K
          refine takeH 15 107 (.int .i64 (y1 : Int)) hHeld rfl rfl (by kernel_rfl) (by kernel_rfl) (by kernel_rfl) (fun _ _ _ h => h) (Or.inl ⟨by rfl, fun w _ => by go_simp⟩) ?_
          simp only [Act.put, List.setIfInBounds_toArray, List.set_cons_zero, List.set_cons_succ]
          refine wpAnyH_ready (rs := [1]) (by kernel_rfl) (by simp) (AllReadyH.cons rfl (fun K hK => ?_) AllReadyH.nil)
          rw [if_pos (by rfl)]
          go_simp
          refine hK.out _ _ (hS) (fun hHeld => ?_)
          clear hK K
          refine takeH 7 99 (.int .i64 (y0 : Int)) hHeld rfl rfl (by kernel_rfl) (by kernel_rfl) (by kernel_rfl) (fun _ _ _ h => h) (Or.inl ⟨by rfl, fun w _ => by go_simp⟩) ?_
          simp only [Act.put, List.setIfInBounds_toArray, List.set_cons_zero, List.set_cons_succ]
          refine takeH 16 108 (.agg #[.int .i64 (y0 : Int), .int .i64 (y1 : Int)]) hHeld rfl rfl (by kernel_rfl) (by kernel_rfl) (by kernel_rfl) (fun _ _ _ h => h) (Or.inl ⟨by rfl, fun w _ => by go_simp⟩) ?_
          simp only [Act.put, List.setIfInBounds_toArray, List.set_cons_zero, List.set_cons_succ]
          refine wpAnyH_ready (rs := [17]) (by kernel_rfl) (by simp) (AllReadyH.cons rfl (fun K hK => ?_) AllReadyH.nil)
          rw [if_pos (by rfl)]
          refine wp_storeW wS rfl rfl rfl (BW.out.drewN 1) rfl (One.qC (y0, y1)) (Nat.le_refl 2) ?_
          intro w5 hb5 hbut5
          have C5 : Hid (CI w L (.slice (some ⟨g, 0, none⟩) lL cv) go oo (k + 1) w5) := hide ⟨(CW.out.own.below (below_drew (Below.refl _ _))).but hbut5 CW.out.ne, ⟨(y0, y1), NX.out, hb5⟩, CW.out.ne, (below_drew CW.out.bel).trans (hbut5.below GOL.out)⟩
          have hS5 : w5.cell? ⟨g, k * 2, none⟩ = some (.int .i64 (b : Int)) ∧ w5.cell? ⟨g, k * 2 + 1, none⟩ = some (.int .i64 (e : Int)) := ⟨by rw [World.cell?_of_block (w := W.drew) (hbut5.block g hgo.symm)]; exact hS.1, by rw [World.cell?_of_block (w := W.drew) (hbut5.block g hgo.symm)]; exact hS.2⟩
          refine hK.out _ _ (hS5) (fun hHeld => ?_)
          clear hK K
          clear hb5 hbut5 hS5 hS CW BW
          refine wpAnyH_done (by kernel_rfl) ?_ _
          go_wp2
          go_roundw
          case rel => exact ⟨k + 1, by simp, hlt, C5⟩
          case measure => simp only [intOf]; omega
    · obtain rfl : k = lL := by omega
      obtain ⟨x, hx, hbk⟩ := CC.out.blk
      rw [← HL.out] at hx
      obtain rfl := jns_whole HJ.out hx
      obtain ⟨d0, d1⟩ := Blk.two (a := 0) (b := (n : Int)) hbk
      go_wp2
      go_ret
      exact ⟨rfl, CC.out.bel⟩

set_option maxRecDepth 100000 in
set_option maxHeartbeats 2000000 in
theorem joins_not (m n x p : Nat) (L : List (Nat × Nat)) (w : World) (h0 : 1 ≤ m) (h1 : m < n) (h2 : n ≤ 281474976710656) (hL : stL m 0 n = L) (hlen : L.length ≤ 49) (hbit : bits BinOp.and IntKind.i64 (m : Int) ((m : Int) - 1) = (x : Int)) (hx : x ≠ 0) (hp : L[0]? = some (p, m)) (hj : jns (p, p) L = some (0, n)) (hj1 : jns (p, p) (L.take 1) = some (p, m)) : Calls Try.prog 3 #[.int .i64 (m : Int), .int .i64 (n : Int)] w fun r w' => r = .returned (.bool true) ∧ Below w.heap.size w w' := by
  have HS := hide (fun v => steps_ok m n v h0 (Nat.le_of_lt h1) h2)
  rw [hL] at HS
  have HJ := hide hj
  have HJ1 := hide hj1
  have HP := hide hp
  obtain ⟨lL, HL⟩ : ∃ l, Hid (L.length = l) := ⟨_, hide rfl⟩
  rw [HL.out] at hlen
  have hpos : 0 < lL := by rw [← HL.out]; exact (List.getElem?_eq_some_iff.1 hp).1
  have hne : ¬ (m : Int) = (n : Int) := by omega
  have hm' : (m : Int) ≤ 281474976710656 := by omega
  have hx' : ((x : Int) != 0) = true := by simp; omega
  have hl0 : ((lL : Int) == 0) = false := by simp; omega
  obtain ⟨oo, ho⟩ : ∃ oo, oo = (p, p) := ⟨_, rfl⟩
  rw [← ho] at HJ HJ1
  clear hL hj hj1 hp ho
  go_enter Try.func3, Try.ntmps3
  go_wp2_with fail
  refine (HS.out _).mono ?_
  rintro r w1 ⟨v1, rfl, ho1, hb1⟩
  obtain ⟨av, cv, rfl, _⟩ := ho1.len
  rw [HL.out] at ho1 ⊢
  have O1 := hide ho1
  have B1 := hide hb1
  clear ho1 hb1
  go_wp2_with (first | (refine step_alloc zS rfl ?_; intro w2 go hg2 hle2 hb2; have HG2 := hide hg2; clear hg2) | (refine step_storeA wS rfl rfl rfl HG2.out rfl (One.c2 0 (m : Int)) rfl ?_))
  intro w3 hg3 hbut3
  have hne2 : (Value.slice av lL cv).ownBlock ≠ some go := fun hk => by have := (O1.out.lt _ hk).2; omega
  have O3 := hide ((O1.out.below hb2).but hbut3 hne2)
  have B3 := hide (new_below B1.out hb2 hle2 hbut3)
  have G3 := hide hg3
  have NE := hide hne2
  have hgo1 := B1.out.size
  have GOL := hide (show w.heap.size ≤ go by omega)
  clear hg3 hbut3 hb2 HG2 O1 B1 hne2 hgo1
  obtain ⟨g0, rfl⟩ : ∃ g, av = some ⟨g, 0, none⟩ := by
    rcases O3.out.lies with ⟨e, e2⟩ | ⟨g, cap, cs, e, _⟩
    · have := HP.out; rw [e2] at this; simp at this
    · injection e with e _ _; exact ⟨g, e⟩
  obtain ⟨c0, c1⟩ := O3.out.cells 0 (p, m) HP.out
  simp only [Nat.zero_mul, Nat.zero_add] at c0 c1
  have xa := atS g0 lL cv 0 0 rfl hpos
  rw [Nat.zero_mul] at xa
  have fr0 := G3.out.free 0
  have fr1 := G3.out.free 1
  go_wp2_with (refine step_storeA wS rfl rfl rfl G3.out rfl (One.c2 (p : Int) (m : Int)) rfl ?_)
  intro w4 hg4 hbut4
  have C4 : Hid (CI w L (.slice (some ⟨g0, 0, none⟩) lL cv) go oo 1 w4) := hide ⟨O3.out.but hbut4 NE.out, ⟨(p, m), HJ1.out, hg4⟩, NE.out, B3.out.trans (hbut4.below GOL.out)⟩
  clear hg4 hbut4 O3 B3 G3 c0 c1 xa fr0 fr1 hbit hx hx' hl0
  obtain ⟨av, hav⟩ : ∃ av, av = some (⟨g0, 0, none⟩ : Addr) := ⟨_, rfl⟩
  rw [← hav] at C4 ⊢
  clear hav
  go_wp2_with fail
  go_loopw [7] (fun s wr => ∃ k : Nat, s = .int .i64 (k : Int) ∧ k ≤ lL ∧ Hid (CI w L (.slice av lL cv) go oo k wr)) (fun s _ => lL - (intOf s).toNat)
  case atStart => exact ⟨1, rfl, hpos, C4⟩
  case round =>
    obtain ⟨k, rfl, hk, CC⟩ := hrel
    by_cases hlt : k < lL
    · have hlt' : (k : Int) < (lL : Int) := by omega
      obtain ⟨s, hs⟩ : ∃ s, L[k]? = some s := ⟨_, List.getElem?_eq_getElem (by rw [HL.out]; exact hlt)⟩
      obtain ⟨x, hx, hbk⟩ := CC.out.blk
      obtain ⟨⟨s0, s1⟩, hnx⟩ := jns_next HJ.out hx hs
      obtain ⟨g, rfl⟩ : ∃ g, av = some ⟨g, 0, none⟩ := by
        rcases CC.out.own.lies with ⟨e, e2⟩ | ⟨g, cap, cs, e, _⟩
        · rw [e2] at hs; simp at hs
        · injection e with e _ _; exact ⟨g, e⟩
      obtain ⟨c0, c1⟩ := CC.out.own.cells k s hs
      obtain ⟨x0, x1⟩ := x
      obtain ⟨b, e⟩ := s
      simp only at c0 c1 s0 s1 hnx
      obtain ⟨d0, d1⟩ := Blk.two (a := (x0 : Int)) (b := (x1 : Int)) hbk
      have xa := atS g lL cv k (k : Int) rfl hlt
      have f0 := hbk.free 0
      have f1 := hbk.free 1
      have NX := hide hnx
      have BK : Hid (Blk wr go 27 (qC (x0, x1))) := hide hbk
      have hgo : go ≠ g := fun e => CC.out.ne (by rw [e]; rfl)
      clear hnx hx hbk hs
      have t0 : decide ((e : Int) ≤ (b : Int)) = false := by simp; omega
      have t0' : decide (e ≤ b) = false := by simp; omega
      have t0'' : decide ((b : Int) ≥ (e : Int)) = false := by simp; omega
      obtain ⟨y0, hy0⟩ : ∃ y, min x0 b = y := ⟨_, rfl⟩
      obtain ⟨y1, hy1⟩ : ∃ y, max x1 e = y := ⟨_, rfl⟩
      rw [hy0, hy1] at NX
      have M0 := hide (show min (x0 : Int) (b : Int) = (y0 : Int) by omega)
      have M1 := hide (show max (x1 : Int) (e : Int) = (y1 : Int) by omega)
      have S1 := hide s1
      clear hy0 hy1 s1 s0
      by_cases hc : e = x0
      · subst hc
        go_wp2_with fail
        go_quiet (fail)
        go_wp2_with fail
        have m0 := M0.out
        have m1 := M1.out
        have CW : Hid (CI w L (.slice (some ⟨g, 0, none⟩) lL cv) go oo k (wr.drewN nq)) := hide ⟨CC.out.own.below (below_drews (Below.refl _ _) nq), CC.out.blk, CC.out.ne, below_drews CC.out.bel nq⟩
        have BW : Hid (Blk (wr.drewN nq) go 27 (qC (e, x1))) := BK
        have p0 : (wr.drewN nq).cell? ⟨g, k * 2, none⟩ = some (.int .i64 (b : Int)) := c0
        have p1 : (wr.drewN nq).cell? ⟨g, k * 2 + 1, none⟩ = some (.int .i64 (e : Int)) := c1
        have q0 := (Blk.two BW.out).1
        have q1 := (Blk.two BW.out).2
        have fr0 := BW.out.free 0
        have fr1 := BW.out.free 1
        have far := far_cell hgo
        simp only at q0 q1
        clear c0 c1 d0 d1 f0 f1 CC BK M0 M1
        generalize wr.drewN nq = W at *
        have hS : W.drew.cell? ⟨g, k * 2, none⟩ = some (.int .i64 (b : Int)) ∧ W.drew.cell? ⟨g, k * 2 + 1, none⟩ = some (.int .i64 (e : Int)) := ⟨p0, p1⟩
        refine wp_region_held_drew (S := fun v : World => v.cell? ⟨g, k * 2, none⟩ = some (.int .i64 (b : Int)) ∧ v.cell? ⟨g, k * 2 + 1, none⟩ = some (.int .i64 (e : Int))) (by kernel_rfl) hS (fun hHeld => ?_)
        refine takeH 0 92 (.pointer (some ⟨go, 0, none⟩)) hHeld rfl rfl (by kernel_rfl) (by kernel_rfl) (by kernel_rfl) (fun _ _ _ h => h) (Or.inl ⟨by rfl, fun w _ => by go_simp⟩) ?_
        simp only [Act.put, List.setIfInBounds_toArray, List.set_cons_zero, List.set_cons_succ]
        refine takeH 2 94 (.slice (some ⟨g, 0, none⟩) lL cv) hHeld rfl rfl (by kernel_rfl) (by kernel_rfl) (by kernel_rfl) (fun _ _ _ h => h) (Or.inl ⟨by rfl, fun w _ => by go_simp⟩) ?_
        simp only [Act.put, List.setIfInBounds_toArray, List.set_cons_zero, List.set_cons_succ]
        refine takeH 3 95 (.int .i64 (k : Int)) hHeld rfl rfl (by kernel_rfl) (by kernel_rfl) (by kernel_rfl) (fun _ _ _ h => h) (Or.inl ⟨by rfl, fun w _ => by go_simp⟩) ?_
        simp only [Act.put, List.setIfInBounds_toArray, List.set_cons_zero, List.set_cons_succ]
        refine takeH 4 96 (.pointer (some ⟨g, k * 2, none⟩)) hHeld rfl rfl (by kernel_rfl) (by kernel_rfl) (by kernel_rfl) (fun _ _ _ h => h) (Or.inl ⟨by rfl, fun w _ => run_op rfl ((atS g lL cv k _ rfl hlt) w)⟩) ?_
        simp only [Act.put, List.setIfInBounds_toArray, List.set_cons_zero, List.set_cons_succ]
        refine takeH 5 97 (.pointer (some ⟨g, k * 2, none⟩)) hHeld rfl rfl (by kernel_rfl) (by kernel_rfl) (by kernel_rfl) (fun _ _ _ h => h) (Or.inl ⟨by rfl, fun w _ => by go_simp⟩) ?_
        simp only [Act.put, List.setIfInBounds_toArray, List.set_cons_zero, List.set_cons_succ]
        refine takeH 6 98 (.int .i64 (b : Int)) hHeld rfl rfl (by kernel_rfl) (by kernel_rfl) (by kernel_rfl) (fun _ _ _ h => h) (Or.inl ⟨by rfl, fun w hw => by have hw' : w.cell? ⟨g, (k * 2), none⟩ = some (.int .i64 (b : Int)) := (fun h => h.1) hw; go_simp⟩) ?_
        simp only [Act.put, List.setIfInBounds_toArray, List.set_cons_zero, List.set_cons_succ]
        refine takeH 8 100 (.pointer (some ⟨go, 1, none⟩)) hHeld rfl rfl (by kernel_rfl) (by kernel_rfl) (by kernel_rfl) (fun _ _ _ h => h) (Or.inl ⟨by rfl, fun w _ => by go_simp⟩) ?_
        simp only [Act.put, List.setIfInBounds_toArray, List.set_cons_zero, List.set_cons_succ]
        refine takeH 10 102 (.slice (some ⟨g, 0, none⟩) lL cv) hHeld rfl rfl (by kernel_rfl) (by kernel_rfl) (by kernel_rfl) (fun _ _ _ h => h) (Or.inl ⟨by rfl, fun w _ => by go_simp⟩) ?_
        simp only [Act.put, List.setIfInBounds_toArray, List.set_cons_zero, List.set_cons_succ]
        refine takeH 11 103 (.int .i64 (k : Int)) hHeld rfl rfl (by kernel_rfl) (by kernel_rfl) (by kernel_rfl) (fun _ _ _ h => h) (Or.inl ⟨by rfl, fun w _ => by go_simp⟩) ?_
        simp only [Act.put, List.setIfInBounds_toArray, List.set_cons_zero, List.set_cons_succ]
        refine takeH 12 104 (.pointer (some ⟨g, k * 2, none⟩)) hHeld rfl rfl (by kernel_rfl) (by kernel_rfl) (by kernel_rfl) (fun _ _ _ h => h) (Or.inl ⟨by rfl, fun w _ => run_op rfl ((atS g lL cv k _ rfl hlt) w)⟩) ?_
        simp only [Act.put, List.setIfInBounds_toArray, List.set_cons_zero, List.set_cons_succ]
        refine takeH 13 105 (.pointer (some ⟨g, k * 2 + 1, none⟩)) hHeld rfl rfl (by kernel_rfl) (by kernel_rfl) (by kernel_rfl) (fun _ _ _ h => h) (Or.inl ⟨by rfl, fun w _ => by go_simp⟩) ?_
        simp only [Act.put, List.setIfInBounds_toArray, List.set_cons_zero, List.set_cons_succ]
        refine takeH 14 106 (.int .i64 (e : Int)) hHeld rfl rfl (by kernel_rfl) (by kernel_rfl) (by kernel_rfl) (fun _ _ _ h => h) (Or.inl ⟨by rfl, fun w hw => by have hw' : w.cell? ⟨g, (k * 2 + 1), none⟩ = some (.int .i64 (e : Int)) := (fun h => h.2) hw; go_simp⟩) ?_
        simp only [Act.put, List.setIfInBounds_toArray, List.set_cons_zero, List.set_cons_succ]
        refine wpAnyH_ready (rs := [1, 9]) (by kernel_rfl) (by simp) (AllReadyH.cons rfl (fun K hK => ?_) (AllReadyH.cons rfl (fun K hK => ?_) AllReadyH.nil))
        · rw [if_pos (by rfl)]
          go_simp
          refine hK.out _ _ (hS) (fun hHeld => ?_)
          clear hK K
          refine takeH 7 99 (.int .i64 (y0 : Int)) hHeld rfl rfl (by kernel_rfl) (by kernel_rfl) (by kernel_rfl) (fun _ _ _ h => h) (Or.inl ⟨by rfl, fun w _ => by go_simp⟩) ?_
          simp only [Act.put, List.setIfInBounds_toArray, List.set_cons_zero, List.set_cons_succ]
          refine wpAnyH_ready (rs := [9]) (by kernel_rfl) (by simp) (AllReadyH.cons rfl (fun K hK => ?_) AllReadyH.nil)
          rw [if_pos (by rfl)]
          go_simp
          refine hK.out _ _ (hS) (fun hHeld => ?_)
          clear hK K
          refine takeH 15 107 (.int .i64 (y1 : Int)) hHeld rfl rfl (by kernel_rfl) (by kernel_rfl) (by kernel_rfl) (fun _ _ _ h => h) (Or.inl ⟨by rfl, fun w _ => by go_simp⟩) ?_
          simp only [Act.put, List.setIfInBounds_toArray, List.set_cons_zero, List.set_cons_succ]
          refine takeH 16 108 (.agg #[.int .i64 (y0 : Int), .int .i64 (y1 : Int)]) hHeld rfl rfl (by kernel_rfl) (by kernel_rfl) (by kernel_rfl) (fun _ _ _ h => h) (Or.inl ⟨by rfl, fun w _ => by go_simp⟩) ?_
          simp only [Act.put, List.setIfInBounds_toArray, List.set_cons_zero, List.set_cons_succ]
          refine wpAnyH_ready (rs := [17]) (by kernel_rfl) (by simp) (AllReadyH.cons rfl (fun K hK => ?_) AllReadyH.nil)
          rw [if_pos (by rfl)]
          refine wp_storeW wS rfl rfl rfl (BW.out.drewN 1) rfl (One.qC (y0, y1)) (Nat.le_refl 2) ?_
          intro w5 hb5 hbut5
          have C5 : Hid (CI w L (.slice (some ⟨g, 0, none⟩) lL cv) go oo (k + 1) w5) := hide ⟨(CW.out.own.below (below_drew (Below.refl _ _))).but hbut5 CW.out.ne, ⟨(y0, y1), NX.out, hb5⟩, CW.out.ne, (below_drew CW.out.bel).trans (hbut5.below GOL.out)⟩
          have hS5 : w5.cell? ⟨g, k * 2, none⟩ = some (.int .i64 (b : Int)) ∧ w5.cell? ⟨g, k * 2 + 1, none⟩ = some (.int .i64 (e : Int)) := ⟨by rw [World.cell?_of_block (w := W.drew) (hbut5.block g hgo.symm)]; exact hS.1, by rw [World.cell?_of_block (w := W.drew) (hbut5.block g hgo.symm)]; exact hS.2⟩
          refine hK.out _ _ (hS5) (fun hHeld => ?_)
          clear hK K
          clear hb5 hbut5 hS5 hS CW BW
          refine wpAnyH_done (by kernel_rfl) ?_ _
          go_wp2
          go_roundw
          case rel => exact ⟨k + 1, by simp, hlt, C5⟩
          case measure => simp only [intOf]; omega
        · rw [if_pos (by rfl)]
          go_simp
          refine hK.out _ _ (hS) (fun hHeld => ?_)
          clear hK K
          refine takeH 15 107 (.int .i64 (y1 : Int)) hHeld rfl rfl (by kernel_rfl) (by kernel_rfl) (by kernel_rfl) (fun _ _ _ h => h) (Or.inl ⟨by rfl, fun w _ => by go_simp⟩) ?_
          simp only [Act.put, List.setIfInBounds_toArray, List.set_cons_zero, List.set_cons_succ]
          refine wpAnyH_ready (rs := [1]) (by kernel_rfl) (by simp) (AllReadyH.cons rfl (fun K hK => ?_) AllReadyH.nil)
          rw [if_pos (by rfl)]
          go_simp
          refine hK.out _ _ (hS) (fun hHeld => ?_)
          clear hK K
          refine takeH 7 99 (.int .i64 (y0 : Int)) hHeld rfl rfl (by kernel_rfl) (by kernel_rfl) (by kernel_rfl) (fun _ _ _ h => h) (Or.inl ⟨by rfl, fun w _ => by go_simp⟩) ?_
          simp only [Act.put, List.setIfInBounds_toArray, List.set_cons_zero, List.set_cons_succ]
          refine takeH 16 108 (.agg #[.int .i64 (y0 : Int), .int .i64 (y1 : Int)]) hHeld rfl rfl (by kernel_rfl) (by kernel_rfl) (by kernel_rfl) (fun _ _ _ h => h) (Or.inl ⟨by rfl, fun w _ => by go_simp⟩) ?_
          simp only [Act.put, List.setIfInBounds_toArray, List.set_cons_zero, List.set_cons_succ]
          refine wpAnyH_ready (rs := [17]) (by kernel_rfl) (by simp) (AllReadyH.cons rfl (fun K hK => ?_) AllReadyH.nil)
          rw [if_pos (by rfl)]
          refine wp_storeW wS rfl rfl rfl (BW.out.drewN 1) rfl (One.qC (y0, y1)) (Nat.le_refl 2) ?_
          intro w5 hb5 hbut5
          have C5 : Hid (CI w L (.slice (some ⟨g, 0, none⟩) lL cv) go oo (k + 1) w5) := hide ⟨(CW.out.own.below (below_drew (Below.refl _ _))).but hbut5 CW.out.ne, ⟨(y0, y1), NX.out, hb5⟩, CW.out.ne, (below_drew CW.out.bel).trans (hbut5.below GOL.out)⟩
          have hS5 : w5.cell? ⟨g, k * 2, none⟩ = some (.int .i64 (b : Int)) ∧ w5.cell? ⟨g, k * 2 + 1, none⟩ = some (.int .i64 (e : Int)) := ⟨by rw [World.cell?_of_block (w := W.drew) (hbut5.block g hgo.symm)]; exact hS.1, by rw [World.cell?_of_block (w := W.drew) (hbut5.block g hgo.symm)]; exact hS.2⟩
          refine hK.out _ _ (hS5) (fun hHeld => ?_)
          clear hK K
          clear hb5 hbut5 hS5 hS CW BW
          refine wpAnyH_done (by kernel_rfl) ?_ _
          go_wp2
          go_roundw
          case rel => exact ⟨k + 1, by simp, hlt, C5⟩
          case measure => simp only [intOf]; omega
      · have hc' : ((e : Int) != (x0 : Int)) = true := by simp; omega
        have hc2 : b = x1 := by have := S1.out; omega
        subst hc2
        go_wp2_with fail
        go_quiet (fail)
        go_wp2_with fail
        have m0 := M0.out
        have m1 := M1.out
        have CW : Hid (CI w L (.slice (some ⟨g, 0, none⟩) lL cv) go oo k (wr.drewN nq)) := hide ⟨CC.out.own.below (below_drews (Below.refl _ _) nq), CC.out.blk, CC.out.ne, below_drews CC.out.bel nq⟩
        have BW : Hid (Blk (wr.drewN nq) go 27 (qC (x0, b))) := BK
        have p0 : (wr.drewN nq).cell? ⟨g, k * 2, none⟩ = some (.int .i64 (b : Int)) := c0
        have p1 : (wr.drewN nq).cell? ⟨g, k * 2 + 1, none⟩ = some (.int .i64 (e : Int)) := c1
        have q0 := (Blk.two BW.out).1
        have q1 := (Blk.two BW.out).2
        have fr0 := BW.out.free 0
        have fr1 := BW.out.free 1
        have far := far_cell hgo
        simp only at q0 q1
        clear c0 c1 d0 d1 f0 f1 CC BK M0 M1
        generalize wr.drewN nq = W at *
        have hS : W.drew.cell? ⟨g, k * 2, none⟩ = some (.int .i64 (b : Int)) ∧ W.drew.cell? ⟨g, k * 2 + 1, none⟩ = some (.int .i64 (e : Int)) := ⟨p0, p1⟩
        refine wp_region_held_drew (S := fun v : World => v.cell? ⟨g, k * 2, none⟩ = some (.int .i64 (b : Int)) ∧ v.cell? ⟨g, k * 2 + 1, none⟩ = some (.int .i64 (e : Int))) (by kernel_rfl) hS (fun hHeld => ?_)
        refine takeH 0 92 (.pointer (some ⟨go, 0, none⟩)) hHeld rfl rfl (by kernel_rfl) (by kernel_rfl) (by kernel_rfl) (fun _ _ _ h => h) (Or.inl ⟨by rfl, fun w _ => by go_simp⟩) ?_
        simp only [Act.put, List.setIfInBounds_toArray, List.set_cons_zero, List.set_cons_succ]
        refine takeH 2 94 (.slice (some ⟨g, 0, none⟩) lL cv) hHeld rfl rfl (by kernel_rfl) (by kernel_rfl) (by kernel_rfl) (fun _ _ _ h => h) (Or.inl ⟨by rfl, fun w _ => by go_simp⟩) ?_
        simp only [Act.put, List.setIfInBounds_toArray, List.set_cons_zero, List.set_cons_succ]
        refine takeH 3 95 (.int .i64 (k : Int)) hHeld rfl rfl (by kernel_rfl) (by kernel_rfl) (by kernel_rfl) (fun _ _ _ h => h) (Or.inl ⟨by rfl, fun w _ => by go_simp⟩) ?_
        simp only [Act.put, List.setIfInBounds_toArray, List.set_cons_zero, List.set_cons_succ]
        refine takeH 4 96 (.pointer (some ⟨g, k * 2, none⟩)) hHeld rfl rfl (by kernel_rfl) (by kernel_rfl) (by kernel_rfl) (fun _ _ _ h => h) (Or.inl ⟨by rfl, fun w _ => run_op rfl ((atS g lL cv k _ rfl hlt) w)⟩) ?_
        simp only [Act.put, List.setIfInBounds_toArray, List.set_cons_zero, List.set_cons_succ]
        refine takeH 5 97 (.pointer (some ⟨g, k * 2, none⟩)) hHeld rfl rfl (by kernel_rfl) (by kernel_rfl) (by kernel_rfl) (fun _ _ _ h => h) (Or.inl ⟨by rfl, fun w _ => by go_simp⟩) ?_
        simp only [Act.put, List.setIfInBounds_toArray, List.set_cons_zero, List.set_cons_succ]
        refine takeH 6 98 (.int .i64 (b : Int)) hHeld rfl rfl (by kernel_rfl) (by kernel_rfl) (by kernel_rfl) (fun _ _ _ h => h) (Or.inl ⟨by rfl, fun w hw => by have hw' : w.cell? ⟨g, (k * 2), none⟩ = some (.int .i64 (b : Int)) := (fun h => h.1) hw; go_simp⟩) ?_
        simp only [Act.put, List.setIfInBounds_toArray, List.set_cons_zero, List.set_cons_succ]
        refine takeH 8 100 (.pointer (some ⟨go, 1, none⟩)) hHeld rfl rfl (by kernel_rfl) (by kernel_rfl) (by kernel_rfl) (fun _ _ _ h => h) (Or.inl ⟨by rfl, fun w _ => by go_simp⟩) ?_
        simp only [Act.put, List.setIfInBounds_toArray, List.set_cons_zero, List.set_cons_succ]
        refine takeH 10 102 (.slice (some ⟨g, 0, none⟩) lL cv) hHeld rfl rfl (by kernel_rfl) (by kernel_rfl) (by kernel_rfl) (fun _ _ _ h => h) (Or.inl ⟨by rfl, fun w _ => by go_simp⟩) ?_
        simp only [Act.put, List.setIfInBounds_toArray, List.set_cons_zero, List.set_cons_succ]
        refine takeH 11 103 (.int .i64 (k : Int)) hHeld rfl rfl (by kernel_rfl) (by kernel_rfl) (by kernel_rfl) (fun _ _ _ h => h) (Or.inl ⟨by rfl, fun w _ => by go_simp⟩) ?_
        simp only [Act.put, List.setIfInBounds_toArray, List.set_cons_zero, List.set_cons_succ]
        refine takeH 12 104 (.pointer (some ⟨g, k * 2, none⟩)) hHeld rfl rfl (by kernel_rfl) (by kernel_rfl) (by kernel_rfl) (fun _ _ _ h => h) (Or.inl ⟨by rfl, fun w _ => run_op rfl ((atS g lL cv k _ rfl hlt) w)⟩) ?_
        simp only [Act.put, List.setIfInBounds_toArray, List.set_cons_zero, List.set_cons_succ]
        refine takeH 13 105 (.pointer (some ⟨g, k * 2 + 1, none⟩)) hHeld rfl rfl (by kernel_rfl) (by kernel_rfl) (by kernel_rfl) (fun _ _ _ h => h) (Or.inl ⟨by rfl, fun w _ => by go_simp⟩) ?_
        simp only [Act.put, List.setIfInBounds_toArray, List.set_cons_zero, List.set_cons_succ]
        refine takeH 14 106 (.int .i64 (e : Int)) hHeld rfl rfl (by kernel_rfl) (by kernel_rfl) (by kernel_rfl) (fun _ _ _ h => h) (Or.inl ⟨by rfl, fun w hw => by have hw' : w.cell? ⟨g, (k * 2 + 1), none⟩ = some (.int .i64 (e : Int)) := (fun h => h.2) hw; go_simp⟩) ?_
        simp only [Act.put, List.setIfInBounds_toArray, List.set_cons_zero, List.set_cons_succ]
        refine wpAnyH_ready (rs := [1, 9]) (by kernel_rfl) (by simp) (AllReadyH.cons rfl (fun K hK => ?_) (AllReadyH.cons rfl (fun K hK => ?_) AllReadyH.nil))
        · rw [if_pos (by rfl)]
          go_simp
          refine hK.out _ _ (hS) (fun hHeld => ?_)
          clear hK K
          refine takeH 7 99 (.int .i64 (y0 : Int)) hHeld rfl rfl (by kernel_rfl) (by kernel_rfl) (by kernel_rfl) (fun _ _ _ h => h) (Or.inl ⟨by rfl, fun w _ => by go_simp⟩) ?_
          simp only [Act.put, List.setIfInBounds_toArray, List.set_cons_zero, List.set_cons_succ]
          refine wpAnyH_ready (rs := [9]) (by kernel_rfl) (by simp) (AllReadyH.cons rfl (fun K hK => ?_) AllReadyH.nil)
          rw [if_pos (by rfl)]
          go_simp
          refine hK.out _ _ (hS) (fun hHeld => ?_)
          clear hK K
          refine takeH 15 107 (.int .i64 (y1 : Int)) hHeld rfl rfl (by kernel_rfl) (by kernel_rfl) (by kernel_rfl) (fun _ _ _ h => h) (Or.inl ⟨by rfl, fun w _ => by go_simp⟩) ?_
          simp only [Act.put, List.setIfInBounds_toArray, List.set_cons_zero, List.set_cons_succ]
          refine takeH 16 108 (.agg #[.int .i64 (y0 : Int), .int .i64 (y1 : Int)]) hHeld rfl rfl (by kernel_rfl) (by kernel_rfl) (by kernel_rfl) (fun _ _ _ h => h) (Or.inl ⟨by rfl, fun w _ => by go_simp⟩) ?_
          simp only [Act.put, List.setIfInBounds_toArray, List.set_cons_zero, List.set_cons_succ]
          refine wpAnyH_ready (rs := [17]) (by kernel_rfl) (by simp) (AllReadyH.cons rfl (fun K hK => ?_) AllReadyH.nil)
          rw [if_pos (by rfl)]
          refine wp_storeW wS rfl rfl rfl (BW.out.drewN 1) rfl (One.qC (y0, y1)) (Nat.le_refl 2) ?_
          intro w5 hb5 hbut5
          have C5 : Hid (CI w L (.slice (some ⟨g, 0, none⟩) lL cv) go oo (k + 1) w5) := hide ⟨(CW.out.own.below (below_drew (Below.refl _ _))).but hbut5 CW.out.ne, ⟨(y0, y1), NX.out, hb5⟩, CW.out.ne, (below_drew CW.out.bel).trans (hbut5.below GOL.out)⟩
          have hS5 : w5.cell? ⟨g, k * 2, none⟩ = some (.int .i64 (b : Int)) ∧ w5.cell? ⟨g, k * 2 + 1, none⟩ = some (.int .i64 (e : Int)) := ⟨by rw [World.cell?_of_block (w := W.drew) (hbut5.block g hgo.symm)]; exact hS.1, by rw [World.cell?_of_block (w := W.drew) (hbut5.block g hgo.symm)]; exact hS.2⟩
          refine hK.out _ _ (hS5) (fun hHeld => ?_)
          clear hK K
          clear hb5 hbut5 hS5 hS CW BW
          refine wpAnyH_done (by kernel_rfl) ?_ _
          go_wp2
          go_roundw
          case rel => exact ⟨k + 1, by simp, hlt, C5⟩
          case measure => simp only [intOf]; omega
        · rw [if_pos (by rfl)]
          go_simp
          refine hK.out _ _ (hS) (fun hHeld => ?_)
          clear hK K
          refine takeH 15 107 (.int .i64 (y1 : Int)) hHeld rfl rfl (by kernel_rfl) (by kernel_rfl) (by kernel_rfl) (fun _ _ _ h => h) (Or.inl ⟨by rfl, fun w _ => by go_simp⟩) ?_
          simp only [Act.put, List.setIfInBounds_toArray, List.set_cons_zero, List.set_cons_succ]
          refine wpAnyH_ready (rs := [1]) (by kernel_rfl) (by simp) (AllReadyH.cons rfl (fun K hK => ?_) AllReadyH.nil)
          rw [if_pos (by rfl)]
          go_simp
          refine hK.out _ _ (hS) (fun hHeld => ?_)
          clear hK K
          refine takeH 7 99 (.int .i64 (y0 : Int)) hHeld rfl rfl (by kernel_rfl) (by kernel_rfl) (by kernel_rfl) (fun _ _ _ h => h) (Or.inl ⟨by rfl, fun w _ => by go_simp⟩) ?_
          simp only [Act.put, List.setIfInBounds_toArray, List.set_cons_zero, List.set_cons_succ]
          refine takeH 16 108 (.agg #[.int .i64 (y0 : Int), .int .i64 (y1 : Int)]) hHeld rfl rfl (by kernel_rfl) (by kernel_rfl) (by kernel_rfl) (fun _ _ _ h => h) (Or.inl ⟨by rfl, fun w _ => by go_simp⟩) ?_
          simp only [Act.put, List.setIfInBounds_toArray, List.set_cons_zero, List.set_cons_succ]
          refine wpAnyH_ready (rs := [17]) (by kernel_rfl) (by simp) (AllReadyH.cons rfl (fun K hK => ?_) AllReadyH.nil)
          rw [if_pos (by rfl)]
          refine wp_storeW wS rfl rfl rfl (BW.out.drewN 1) rfl (One.qC (y0, y1)) (Nat.le_refl 2) ?_
          intro w5 hb5 hbut5
          have C5 : Hid (CI w L (.slice (some ⟨g, 0, none⟩) lL cv) go oo (k + 1) w5) := hide ⟨(CW.out.own.below (below_drew (Below.refl _ _))).but hbut5 CW.out.ne, ⟨(y0, y1), NX.out, hb5⟩, CW.out.ne, (below_drew CW.out.bel).trans (hbut5.below GOL.out)⟩
          have hS5 : w5.cell? ⟨g, k * 2, none⟩ = some (.int .i64 (b : Int)) ∧ w5.cell? ⟨g, k * 2 + 1, none⟩ = some (.int .i64 (e : Int)) := ⟨by rw [World.cell?_of_block (w := W.drew) (hbut5.block g hgo.symm)]; exact hS.1, by rw [World.cell?_of_block (w := W.drew) (hbut5.block g hgo.symm)]; exact hS.2⟩
          refine hK.out _ _ (hS5) (fun hHeld => ?_)
          clear hK K
          clear hb5 hbut5 hS5 hS CW BW
          refine wpAnyH_done (by kernel_rfl) ?_ _
          go_wp2
          go_roundw
          case rel => exact ⟨k + 1, by simp, hlt, C5⟩
          case measure => simp only [intOf]; omega
    · obtain rfl : k = lL := by omega
      obtain ⟨x, hx, hbk⟩ := CC.out.blk
      rw [← HL.out] at hx
      obtain rfl := jns_whole HJ.out hx
      obtain ⟨d0, d1⟩ := Blk.two (a := 0) (b := (n : Int)) hbk
      go_wp2
      go_ret
      exact ⟨rfl, CC.out.bel⟩

theorem joins_walk (m n : Int) (w : World) (ha : -9223372036854775808 ≤ m) (ha' : m ≤ 9223372036854775807) (hn : -9223372036854775808 ≤ n) (hn' : n ≤ 9223372036854775807) : Calls Try.prog 3 #[.int .i64 m, .int .i64 n] w fun r w' => r = .returned (.bool true) ∧ Below w.heap.size w w' := by
  by_cases h : m < 1 ∨ n < m ∨ 281474976710656 < n
  · exact joins_bad m n w h
  · obtain ⟨a, rfl⟩ : ∃ a : Nat, m = (a : Int) := ⟨m.toNat, by omega⟩
    obtain ⟨b, rfl⟩ : ∃ b : Nat, n = (b : Int) := ⟨n.toNat, by omega⟩
    by_cases he : a = b
    · subst he
      exact joins_all a w (by omega) (by omega)
    · obtain ⟨hl, hc⟩ := joins_facts a b (by omega) (by omega) (by omega)
      rcases hc with ⟨h1, h2⟩ | ⟨x, p, h1, h2, h3, h4, h5⟩
      · exact joins_pow a b _ w (by omega) (by omega) (by omega) rfl hl h1 h2
      · exact joins_not a b x p _ w (by omega) (by omega) (by omega) rfl hl h1 h2 h3 h4 h5

end Go.Proofs.Ytlniffmhihhkcab
