/-
  A tile's path as the program tells it: threeDigits, indexPath, Path.
-/
import Derived.Test.YtlgcjdgcgnlcaaaGreatDoorTpa
import Derived.Test.YtlgcjdgcgnlcaaaGreatDoorLzb
namespace Go.Proofs.YtlgcjdgcgnlcaaaGreatDoor
open Go.RowKit
set_option linter.unusedVariables false
set_option linter.unusedSimpArgs false

section
variable {dst : Option Tmp} {ty : TypeId} {pos : String} {aft : Array Edge} {gd : Option (Nat × Bool)} {ops : Array Oper} {rest : List Oper} {a : Act} {w : World} {Q : Exit → Act → World → Prop}
theorem step_addS {x y : Operand} {p q : List UInt8} (hw : Region.wanted ⟨dst, .binOp .add 9 x y 9, ty, pos, aft, gd⟩ (yielded ops a.tmps) = true) (hx : a.eval x = .string (bA p)) (hy : a.eval y = .string (bA q)) (hs : p.length + q.length ≤ 1048576)
    (h : wpList Tryz.prog ops Q rest (a.put dst (.string (bA (p ++ q)))) w) : wpList Tryz.prog ops Q (⟨dst, .binOp .add 9 x y 9, ty, pos, aft, gd⟩ :: rest) a w := by
  have hr := run_addS (dst := dst) (ty := ty) (pos := pos) (aft := aft) (gd := gd) (w := w) hx hy (by rw [bA_size, bA_size]; omega)
  rw [bA_app] at hr
  exact step_run hw _ w hr h
end
theorem runS {dst : Option Tmp} {ty : TypeId} {pos : String} {aft : Array Edge} {gd : Option (Nat × Bool)} {a : Act} {w : World} {x y : Operand} {p q r : List UInt8} (hx : a.eval x = .string (bA p)) (hy : a.eval y = .string (bA q)) (hs : p ++ q = r ∧ p.length + q.length ≤ 9000) :
    (execOp a.eval ⟨dst, .binOp .add 9 x y 9, ty, pos, aft, gd⟩).run Tryz.prog w = .ok (.value (.string (bA r))) w := by
  obtain ⟨rfl, hs⟩ := hs
  rw [← bA_app]
  exact run_addS hx hy (by rw [bA_size, bA_size]; omega)
theorem step_addR {dst : Option Tmp} {ty : TypeId} {pos : String} {aft : Array Edge} {gd : Option (Nat × Bool)} {ops : Array Oper} {rest : List Oper} {a : Act} {w : World} {Q : Exit → Act → World → Prop} {x y : Operand} {p q r : List UInt8} (hw : Region.wanted ⟨dst, .binOp .add 9 x y 9, ty, pos, aft, gd⟩ (yielded ops a.tmps) = true) (hx : a.eval x = .string (bA p)) (hy : a.eval y = .string (bA q)) (hs : p ++ q = r ∧ p.length + q.length ≤ 9000)
    (h : wpList Tryz.prog ops Q rest (a.put dst (.string (bA r))) w) : wpList Tryz.prog ops Q (⟨dst, .binOp .add 9 x y 9, ty, pos, aft, gd⟩ :: rest) a w := step_run hw _ w (runS hx hy hs) h
theorem joinP {T : Program} {c : Code} {a : Act} {w : World} {Q : Exit → Act → World → Prop} {K : Act → World → Prop} (P : World → Prop) (act : Act) (h1 : ∀ W, P W → K act W) (h2 : (∀ W, P W → K act W) → Code.wp T c (Exit.then K Q) a w) : Code.wp T c (Exit.then K Q) a w := h2 h1
theorem d3_length (n : Nat) : (d3 n).length = 3 := rfl
theorem ixF_len : ∀ (k r : Nat), (ixF k r).length ≤ 5 * k
  | 0, r => by simp [ixF]
  | k + 1, r => by
    unfold ixF
    split
    · simp
    · have := ixF_len k (r / 1000)
      simp only [List.length_append, List.length_cons, List.length_nil, d3_length]
      omega
theorem ixP_len (i : Nat) : (ixP i).length ≤ 28 := by
  have := ixF_len 5 (i / 1000)
  simp only [ixP, List.length_append, d3_length]
  omega
set_option maxRecDepth 100000 in
theorem three_any (n : Nat) (w : World) (hn : n < 1000) (ht : PT w) : Calls Tryz.prog 105 #[.int .i64 (n : Int)] w fun r w' => r = .returned (.string (bA (d3 n))) ∧ Below w.heap.size w w' := by
  obtain ⟨N, hN⟩ : ∃ N, 1000 + n = N := ⟨_, rfl⟩
  have e1 : (1000 : Int) + (n : Int) = (N : Int) := by omega
  have HI := hide (itoa_any N w (by omega) ht)
  rw [← hN, dec_thou hn, hN] at HI
  have hNb : N ≤ 2000 := by omega
  have x1 := slice_str (49 :: d3 n) 1 1 rfl (by simp)
  rw [List.drop_succ_cons, List.drop_zero] at x1
  clear hN ht
  go_enter Tryz.func105, Tryz.ntmps105
  go_wp2_with fail
  refine HI.out.mono ?_
  rintro r w1 ⟨rfl, hb⟩
  have HB := hide hb
  clear hb HI
  go_wp2
  go_ret
  exact ⟨rfl, HB.out⟩
theorem quo1000 (r : Nat) : (r : Int).tdiv 1000 = ((r / 1000 : Nat) : Int) ∧ (r : Int).tmod 1000 = ((r % 1000 : Nat) : Int) ∧ (r : Int) / 1000 = ((r / 1000 : Nat) : Int) ∧ (r : Int) % 1000 = ((r % 1000 : Nat) : Int) := by
  refine ⟨?_, ?_, by omega, by omega⟩
  · rw [Int.tdiv_eq_ediv_of_nonneg (by omega)]; omega
  · rw [Int.tmod_eq_emod_of_nonneg (by omega)]; omega
set_option maxRecDepth 100000 in
theorem index_any (i : Nat) (w : World) (hi : i ≤ 281474976710656) (ht : PT w) : Calls Tryz.prog 90 #[.int .i64 (i : Int)] w fun r w' => r = .returned (.string (bA (ixP i))) ∧ Below w.heap.size w w' := by
  have HT := hide ht
  have HL := hide (ixP_len i)
  obtain ⟨q1, q2, q3, q4⟩ := quo1000 i
  obtain ⟨r0, hr0⟩ : ∃ r, i / 1000 = r := ⟨_, rfl⟩
  obtain ⟨m0, hm0⟩ : ∃ r, i % 1000 = r := ⟨_, rfl⟩
  rw [hr0] at q1 q3
  rw [hm0] at q2 q4
  have hr0b : r0 < 1000000000000 := by omega
  have hm0b : m0 < 1000 := by omega
  have H3 := hide (three_any m0 w hm0b ht)
  have HE : Hid (ixF 5 r0 ++ d3 m0 = ixP i) := hide (by rw [← hr0, ← hm0]; rfl)
  clear hr0 hm0 ht
  go_enter Tryz.func90, Tryz.ntmps90
  go_wp2_with fail
  refine H3.out.mono ?_
  rintro r w1 ⟨rfl, hb1⟩
  have HB1 := hide hb1
  clear hb1 H3
  go_wp2_with fail
  clear q1 q2 q3 q4
  go_loopw [3, 4] (fun s k wr => ∃ (r : Nat) (p : List UInt8), s = .string (bA p) ∧ k = .int .i64 (r : Int) ∧ r < 1000000000000 ∧ Hid (ixF 5 r ++ p = ixP i) ∧ Hid (Below w.heap.size w wr)) (fun _ k _ => (intOf k).toNat)
  case atStart => exact ⟨r0, _, rfl, rfl, hr0b, HE, HB1⟩
  case round =>
    obtain ⟨r, p, rfl, rfl, hr, HP, HB⟩ := hrel
    clear HE HB1
    by_cases h0 : r = 0
    · subst h0
      have e : p = ixP i := by
        have := HP.out
        rw [ixF_zero] at this
        exact this
      subst e
      go_wp2
      go_ret
      exact ⟨rfl, HB.out⟩
    · have h0' : (r : Int) > 0 := by omega
      obtain ⟨q1, q2, q3, q4⟩ := quo1000 r
      have hstep := ixF_step (r := r) (by omega) h0
      obtain ⟨r1, hr1⟩ : ∃ x, r / 1000 = x := ⟨_, rfl⟩
      obtain ⟨m1, hm1⟩ : ∃ x, r % 1000 = x := ⟨_, rfl⟩
      rw [hr1] at q1 q3 hstep
      rw [hm1] at q2 q4 hstep
      have hr1b : r1 < r := by omega
      have hm1b : m1 < 1000 := by omega
      have H3 := hide (three_any m1 wr hm1b (HT.out.below HB.out))
      have hpl : p.length ≤ 28 := by
        have := congrArg List.length HP.out
        rw [List.length_append] at this
        have := HL.out
        omega
      have HN : Hid (ixF 5 r1 ++ ((([120] ++ d3 m1) ++ [47]) ++ p) = ixP i) := hide (by
        have := HP.out
        rw [hstep] at this
        rw [← this]
        simp)
      clear hstep hr1 hm1 HP
      have z1 : ([120] : List UInt8).length + (d3 m1).length ≤ 1048576 := by simp [d3_length]
      have z2 : ([120] ++ d3 m1 : List UInt8).length + ([47] : List UInt8).length ≤ 1048576 := by simp [d3_length]
      have z3 : (([120] ++ d3 m1) ++ [47] : List UInt8).length + p.length ≤ 1048576 := by simp [d3_length]; omega
      have Z1 := hide z1
      have Z2 := hide z2
      have Z3 := hide z3
      clear z1 z2 z3
      go_wp2_with fail
      refine H3.out.mono ?_
      rintro _ w2 ⟨rfl, hb2⟩
      have HB2 := hide (on_below HB.out hb2)
      clear hb2 HB H3
      generalize d3 m1 = t3 at *
      go_wp2_with (first | (refine step_addS (p := [120]) (q := t3) rfl rfl rfl Z1.out ?_) | (refine step_addS (p := [120] ++ t3) (q := [47]) rfl rfl rfl Z2.out ?_) | (refine step_addS (p := ([120] ++ t3) ++ [47]) (q := p) rfl rfl rfl Z3.out ?_))
      go_roundw
      case rel => exact ⟨r1, _, rfl, rfl, by omega, hide (by have := HN.out; simpa using this), HB2⟩
      case measure => simp only [intOf]; omega
set_option maxRecDepth 100000 in
theorem path_no (h l i n : Int) (w : World) (hl : l ≤ 9223372036854775807) (hi : i ≤ 9223372036854775807) (k : ¬ tOK h l i n) : Calls Tryz.prog 66 #[.agg #[.int .i64 h, .int .i64 l, .int .i64 i, .int .i64 n]] w fun r w' => r = .returned (.tuple #[.string (bA []), .int .i64 2]) ∧ Below w.heap.size w w' := by
  obtain ⟨q, hq, hc⟩ := validT_any h l i n hl hi
  obtain rfl : q = false := by
    cases q with
    | false => rfl
    | true => exact absurd (hq.1 rfl) k
  have HVd := hide hc
  clear hc hq k
  go_enter Tryz.func66, Tryz.ntmps66
  go_wp2_with (first | (refine step_box (cs := c4 h l i n) rfl rfl ?_; intro w1 g1 hg1 hle1 hb1; have HG1 := hide hg1; have HB1 := hide hb1; clear hg1 hb1 hle1) | (refine step_loadA wT rfl rfl HG1.out rfl ?_))
  refine (HVd.out _).mono ?_
  rintro r w2 ⟨rfl, hb2⟩
  have HG2 := hide (HG1.out.on hb2)
  have HB2 := hide (on_below HB1.out hb2)
  clear HG1 HB1 hb2 HVd
  go_wp2
  go_ret2
  exact ⟨rfl, HB2.out⟩
set_option maxRecDepth 100000 in
set_option maxHeartbeats 1000000 in
theorem path_ok (h l i n : Nat) (w : World) (hh : isH h) (hl : l ≤ 48) (hi : i < 281474976710656) (hn1 : 1 ≤ n) (hn : n ≤ 2 ^ h) (k : tOK (h : Int) (l : Int) (i : Int) (n : Int)) (ht : PT w) :
    Calls Tryz.prog 66 #[.agg #[.int .i64 (h : Int), .int .i64 (l : Int), .int .i64 (i : Int), .int .i64 (n : Int)]] w fun r w' => r = .returned (.tuple #[.string (bA (pU h l i n)), .int .i64 0]) ∧ Below w.heap.size w w' := by
  obtain ⟨q, hq, hc⟩ := validT_any (h : Int) (l : Int) (i : Int) (n : Int) (by omega) (by omega)
  obtain rfl : q = true := hq.2 k
  have HVd := hide hc
  have HT := hide ht
  have hp := hh.pow
  have h8 := hh.2
  have LH := hide (dec_len h (by omega))
  have LL := hide (dec_len l (by omega))
  have LN := hide (dec_len n (by omega))
  have LI := hide (ixP_len i)
  have HIh := hide (fun v hv => itoa_any h v (by omega) hv)
  have HIl := hide (fun v hv => itoa_any l v (by omega) hv)
  have HIn := hide (fun v hv => itoa_any n v (by omega) hv)
  have HIx := hide (fun v hv => index_any i v (by omega) hv)
  have HPU : Hid (pU h l i n = if n < 2 ^ h then ((((tileB ++ Lib.decDigits h) ++ [47]) ++ Lib.decDigits l) ++ [47]) ++ ixP i ++ (markB ++ Lib.decDigits n) else ((((tileB ++ Lib.decDigits h) ++ [47]) ++ Lib.decDigits l) ++ [47]) ++ ixP i) := hide (by
    unfold pU nmU
    split <;> simp only [List.append_assoc])
  obtain ⟨P, hP⟩ : ∃ P, 2 ^ h = P := ⟨_, rfl⟩
  obtain ⟨p1, p2, p3, p4⟩ := pow_w hP hh
  have HPW := hide p1
  have HPI := hide p2
  rw [hP] at HPU hn hp
  generalize pU h l i n = PU at *
  generalize Lib.decDigits h = dh at *
  generalize Lib.decDigits l = dl at *
  generalize Lib.decDigits n = dn at *
  generalize ixP i = di at *
  clear hc hq k ht p1 p2 hP hh
  go_enter Tryz.func66, Tryz.ntmps66
  go_wp2_with (first | (refine step_box (cs := c4 (h : Int) (l : Int) (i : Int) (n : Int)) rfl rfl ?_; intro w1 g1 hg1 hle1 hb1; have HG1 := hide hg1; have HB1 := hide hb1; clear hg1 hb1 hle1) | (refine step_loadA wT rfl rfl HG1.out rfl ?_))
  refine (HVd.out _).mono ?_
  rintro r w2 ⟨rfl, hb2⟩
  have HG2 := hide (HG1.out.on hb2)
  have HB2 := hide (on_below HB1.out hb2)
  clear HG1 HB1 hb2 HVd
  have Y0 := hide ((Below.refl w2.heap.size w2).drew)
  have A0 : Hid (∀ v : World, Below w2.heap.size w2 v → v.cell? ⟨g1, 0, none⟩ = some (.int .i64 (h : Int))) := hide (fun v hv => (HG2.out.on hv).four.1)
  have A1 : Hid (∀ v : World, Below w2.heap.size w2 v → v.cell? ⟨g1, 1, none⟩ = some (.int .i64 (l : Int))) := hide (fun v hv => (HG2.out.on hv).four.2.1)
  have A2 : Hid (∀ v : World, Below w2.heap.size w2 v → v.cell? ⟨g1, 2, none⟩ = some (.int .i64 (i : Int))) := hide (fun v hv => (HG2.out.on hv).four.2.2.1)
  obtain ⟨s1, hs1⟩ : ∃ s, tileB ++ dh = s := ⟨_, rfl⟩
  obtain ⟨s2, hs2⟩ : ∃ s, s1 ++ [47] = s := ⟨_, rfl⟩
  obtain ⟨s3, hs3⟩ : ∃ s, s2 ++ dl = s := ⟨_, rfl⟩
  obtain ⟨s4, hs4⟩ : ∃ s, s3 ++ [47] = s := ⟨_, rfl⟩
  obtain ⟨s5, hs5⟩ : ∃ s, s4 ++ di = s := ⟨_, rfl⟩
  obtain ⟨s6, hs6⟩ : ∃ s, markB ++ dn = s := ⟨_, rfl⟩
  obtain ⟨s7, hs7⟩ : ∃ s, s5 ++ s6 = s := ⟨_, rfl⟩
  have y1 : s1.length ≤ 25 := by rw [← hs1, List.length_append]; have := LH.out; simp [tileB]; omega
  have y2 : s2.length ≤ 26 := by rw [← hs2, List.length_append]; simp; omega
  have y3 : s3.length ≤ 46 := by rw [← hs3, List.length_append]; have := LL.out; omega
  have y4 : s4.length ≤ 47 := by rw [← hs4, List.length_append]; simp; omega
  have y5 : s5.length ≤ 75 := by rw [← hs5, List.length_append]; have := LI.out; omega
  have y6 : s6.length ≤ 23 := by rw [← hs6, List.length_append]; have := LN.out; simp [markB]; omega
  have Z1 : Hid (tileB ++ dh = s1 ∧ tileB.length + dh.length ≤ 9000) := hide ⟨hs1, by have := LH.out; simp [tileB]; omega⟩
  have Z2 : Hid (s1 ++ [47] = s2 ∧ s1.length + ([47] : List UInt8).length ≤ 9000) := hide ⟨hs2, by simp; omega⟩
  have Z3 : Hid (s2 ++ dl = s3 ∧ s2.length + dl.length ≤ 9000) := hide ⟨hs3, by have := LL.out; omega⟩
  have Z4 : Hid (s3 ++ [47] = s4 ∧ s3.length + ([47] : List UInt8).length ≤ 9000) := hide ⟨hs4, by simp; omega⟩
  have Z5 : Hid (s4 ++ di = s5 ∧ s4.length + di.length ≤ 9000) := hide ⟨hs5, by have := LI.out; omega⟩
  have Z6 : Hid (markB ++ dn = s6 ∧ markB.length + dn.length ≤ 9000) := hide ⟨hs6, by have := LN.out; simp [markB]; omega⟩
  have Z7 : Hid (s5 ++ s6 = s7 ∧ s5.length + s6.length ≤ 9000) := hide ⟨hs7, by omega⟩
  rw [hs1, hs2, hs3, hs4, hs5, hs6, hs7] at HPU
  clear hs1 hs2 hs3 hs4 hs5 hs6 hs7 y1 y2 y3 y4 y5 y6
  go_wp2_with fail
  refine joinP (fun W => Hid (Below w2.heap.size w2 W)) ?act ?tail (fun hjoin => ?_)
  rotate_left
  rotate_left
  · refine wp_region_noPanic ?_
    refine wp_region_held_drew (S := fun v : World => Below w2.heap.size w2 v) (by kernel_rfl) Y0.out (fun hHeld => ?_)
    refine takeH 0 8 (.pointer (some ⟨g1, 0, none⟩)) hHeld rfl rfl (by kernel_rfl) (by kernel_rfl) (by kernel_rfl) (fun _ _ _ h => h) (Or.inl ⟨by rfl, fun w _ => by go_simp⟩) ?_
    simp only [Act.put, List.setIfInBounds_toArray, List.set_cons_zero, List.set_cons_succ]
    refine takeH 1 9 (.int .i64 (h : Int)) hHeld rfl rfl (by kernel_rfl) (by kernel_rfl) (by kernel_rfl) (fun _ _ _ h => h) (Or.inl ⟨by rfl, fun w hw => by have hw' : w.cell? ⟨g1, 0, none⟩ = some (.int .i64 (h : Int)) := A0.out _ hw; go_simp⟩) ?_
    simp only [Act.put, List.setIfInBounds_toArray, List.set_cons_zero, List.set_cons_succ]
    refine takeH 5 13 (.pointer (some ⟨g1, 1, none⟩)) hHeld rfl rfl (by kernel_rfl) (by kernel_rfl) (by kernel_rfl) (fun _ _ _ h => h) (Or.inl ⟨by rfl, fun w _ => by go_simp⟩) ?_
    simp only [Act.put, List.setIfInBounds_toArray, List.set_cons_zero, List.set_cons_succ]
    refine takeH 6 14 (.int .i64 (l : Int)) hHeld rfl rfl (by kernel_rfl) (by kernel_rfl) (by kernel_rfl) (fun _ _ _ h => h) (Or.inl ⟨by rfl, fun w hw => by have hw' : w.cell? ⟨g1, 1, none⟩ = some (.int .i64 (l : Int)) := A1.out _ hw; go_simp⟩) ?_
    simp only [Act.put, List.setIfInBounds_toArray, List.set_cons_zero, List.set_cons_succ]
    refine takeH 10 18 (.pointer (some ⟨g1, 2, none⟩)) hHeld rfl rfl (by kernel_rfl) (by kernel_rfl) (by kernel_rfl) (fun _ _ _ h => h) (Or.inl ⟨by rfl, fun w _ => by go_simp⟩) ?_
    simp only [Act.put, List.setIfInBounds_toArray, List.set_cons_zero, List.set_cons_succ]
    refine takeH 11 19 (.int .i64 (i : Int)) hHeld rfl rfl (by kernel_rfl) (by kernel_rfl) (by kernel_rfl) (fun _ _ _ h => h) (Or.inl ⟨by rfl, fun w hw => by have hw' : w.cell? ⟨g1, 2, none⟩ = some (.int .i64 (i : Int)) := A2.out _ hw; go_simp⟩) ?_
    simp only [Act.put, List.setIfInBounds_toArray, List.set_cons_zero, List.set_cons_succ]
    refine wpAnyH_ready (rs := [2]) (by kernel_rfl) (by simp) (AllReadyH.cons rfl (fun K hK => ?_) AllReadyH.nil)
    rw [if_pos (by rfl)]
    go_simp
    refine (HIh.out _ (HT.out.below (on_below HB2.out Y0.out))).mono ?_
    rintro r va ⟨rfl, hva⟩
    have Y1 := hide (on_below Y0.out hva)
    refine hK.out _ _ Y1.out (fun hHeld => ?_)
    clear hK K
    try simp only [Act.put, List.setIfInBounds_toArray, List.set_cons_zero, List.set_cons_succ]
    refine takeH 3 11 (.string (bA s1)) hHeld rfl rfl (by kernel_rfl) (by kernel_rfl) (by kernel_rfl) (fun _ _ _ h => h) (Or.inl ⟨by rfl, fun w _ => runS (p := tileB) (q := dh) rfl rfl Z1.out⟩) ?_
    simp only [Act.put, List.setIfInBounds_toArray, List.set_cons_zero, List.set_cons_succ]
    refine takeH 4 12 (.string (bA s2)) hHeld rfl rfl (by kernel_rfl) (by kernel_rfl) (by kernel_rfl) (fun _ _ _ h => h) (Or.inl ⟨by rfl, fun w _ => runS (p := s1) (q := [47]) rfl rfl Z2.out⟩) ?_
    simp only [Act.put, List.setIfInBounds_toArray, List.set_cons_zero, List.set_cons_succ]
    refine wpAnyH_ready (rs := [7]) (by kernel_rfl) (by simp) (AllReadyH.cons rfl (fun K hK => ?_) AllReadyH.nil)
    rw [if_pos (by rfl)]
    go_simp
    refine (HIl.out _ (HT.out.below (on_below HB2.out Y1.out))).mono ?_
    rintro r vb ⟨rfl, hvb⟩
    have Y2 := hide (on_below Y1.out hvb)
    refine hK.out _ _ Y2.out (fun hHeld => ?_)
    clear hK K
    try simp only [Act.put, List.setIfInBounds_toArray, List.set_cons_zero, List.set_cons_succ]
    refine takeH 8 16 (.string (bA s3)) hHeld rfl rfl (by kernel_rfl) (by kernel_rfl) (by kernel_rfl) (fun _ _ _ h => h) (Or.inl ⟨by rfl, fun w _ => runS (p := s2) (q := dl) rfl rfl Z3.out⟩) ?_
    simp only [Act.put, List.setIfInBounds_toArray, List.set_cons_zero, List.set_cons_succ]
    refine takeH 9 17 (.string (bA s4)) hHeld rfl rfl (by kernel_rfl) (by kernel_rfl) (by kernel_rfl) (fun _ _ _ h => h) (Or.inl ⟨by rfl, fun w _ => runS (p := s3) (q := [47]) rfl rfl Z4.out⟩) ?_
    simp only [Act.put, List.setIfInBounds_toArray, List.set_cons_zero, List.set_cons_succ]
    refine wpAnyH_ready (rs := [12]) (by kernel_rfl) (by simp) (AllReadyH.cons rfl (fun K hK => ?_) AllReadyH.nil)
    rw [if_pos (by rfl)]
    go_simp
    refine (HIx.out _ (HT.out.below (on_below HB2.out Y2.out))).mono ?_
    rintro r vc ⟨rfl, hvc⟩
    have Y3 := hide (on_below Y2.out hvc)
    refine hK.out _ _ Y3.out (fun hHeld => ?_)
    clear hK K
    try simp only [Act.put, List.setIfInBounds_toArray, List.set_cons_zero, List.set_cons_succ]
    refine takeH 13 21 (.string (bA s5)) hHeld rfl rfl (by kernel_rfl) (by kernel_rfl) (by kernel_rfl) (fun _ _ _ h => h) (Or.inl ⟨by rfl, fun w _ => runS (p := s4) (q := di) rfl rfl Z5.out⟩) ?_
    simp only [Act.put, List.setIfInBounds_toArray, List.set_cons_zero, List.set_cons_succ]
    refine takeH 14 4 (.string (bA s5)) hHeld rfl rfl (by kernel_rfl) (by kernel_rfl) (by kernel_rfl) (fun _ _ _ h => h) (Or.inl ⟨by rfl, fun w _ => by go_simp⟩) ?_
    simp only [Act.put, List.setIfInBounds_toArray, List.set_cons_zero, List.set_cons_succ]
    refine wpAnyH_done (by kernel_rfl) ?_ _
    refine NoPanic.normal ?_
    exact hjoin vc Y3
  · rintro W Y3
    have GW := hide (HG2.out.on Y3.out)
    have BW := hide (on_below HB2.out Y3.out)
    obtain ⟨c0, c1, c2, c3⟩ := GW.out.four
    clear A0 A1 A2 Y0 Y3 HG2 HB2 HIh HIl HIx Z1 Z2 Z3 Z4 Z5
    have e2 := HPI.out
    have e1 := HPW.out
    by_cases hlt : n < P
    · have hlt' : (n : Int) < (P : Int) := by omega
      have E : PU = s7 := by rw [HPU.out, if_pos hlt]
      subst E
      go_wp2_with fail
      go_quiet (fail)
      clear e1 e2
      go_wp2_with fail
      refine (HIn.out _ (HT.out.below (below_drews BW.out _))).mono ?_
      rintro r wn ⟨rfl, hbn⟩
      have BN := hide (on_below (below_drews BW.out nq) hbn)
      clear hbn
      go_wp2_with (first | (refine step_addR (p := markB) (q := dn) rfl rfl rfl Z6.out ?_) | (refine step_addR (p := s5) (q := s6) rfl rfl rfl Z7.out ?_))
      go_ret2
      exact ⟨rfl, BN.out⟩
    · have hlt' : ¬ (n : Int) < (P : Int) := by omega
      have E : PU = s5 := by rw [HPU.out, if_neg hlt]
      subst E
      go_wp2_with fail
      go_quiet (fail)
      clear e1 e2
      go_wp2
      go_ret2
      exact ⟨rfl, below_drews BW.out _⟩
/-- What Path tells of any tile. -/
theorem path_any (h l i n : Int) (hl : l ≤ 9223372036854775807) (hi : i ≤ 9223372036854775807) : ∃ (p : List UInt8) (e : Int), ((e = 0 ∧ tOK h l i n ∧ p = pathI h l i n) ∨ (e = 2 ∧ ¬ tOK h l i n ∧ p = [])) ∧
    ∀ w : World, PT w → Calls Tryz.prog 66 #[.agg (c4 h l i n).toArray] w fun r w' => r = .returned (.tuple #[.string (bA p), .int .i64 e]) ∧ Below w.heap.size w w' := by
  by_cases k : tOK h l i n
  · obtain ⟨H, L, I, N, rfl, rfl, rfl, rfl, hH, h1, h2, h3, h4⟩ := k.nats
    refine ⟨_, 0, .inl ⟨rfl, k, rfl⟩, fun w ht => ?_⟩
    have := path_ok H L I N w hH h1 h2 h3 h4 k ht
    unfold pathI
    simp only [Int.toNat_natCast]
    exact this
  · exact ⟨_, 2, .inr ⟨rfl, k, rfl⟩, fun w ht => path_no h l i n w hl hi k⟩

end Go.Proofs.YtlgcjdgcgnlcaaaGreatDoor
