/-
  The program's Inclusion: the closure that tells the proof of a span.
-/
import Derived.Test.YtdggooanpamoeaaDoorHv
namespace Go.Proofs.YtdggooanpamoeaaDoor
open Go.RowKit
set_option linter.unusedVariables false

/-- What the closure of Inclusion holds: the leaf's span, the leaf's place, itself, the leaves. -/
structure Env (w : World) (gl gi gp gd i bl o n cap : Nat) (xs : List Int) : Prop where
  leaf : Blk w gl 68 (spn i (i + 1))
  at' : Blk w gi 3 [.int .i64 (i : Int)]
  self : Blk w gp 69 [.func (.func 32) #[] #[.pointer (some ⟨gl, 0, none⟩), .pointer (some ⟨gi, 0, none⟩), .pointer (some ⟨gp, 0, none⟩), .pointer (some ⟨gd, 0, none⟩)]]
  var : Blk w gd 22 [.slice (some ⟨bl, o, none⟩) n cap]
  ds : Ds w (some ⟨bl, o, none⟩) n cap xs
  kt : KT w
theorem Env.below {w w' : World} {gl gi gp gd i bl o n cap : Nat} {xs : List Int} (h : Env w gl gi gp gd i bl o n cap xs) (hb : Below w.heap.size w w') : Env w' gl gi gp gd i bl o n cap xs :=
  ⟨h.leaf.below hb h.leaf.lt, h.at'.below hb h.at'.lt, h.self.below hb h.self.lt, h.var.below hb h.var.lt, h.ds.below hb, h.kt.below hb h.kt.lt⟩

theorem sub_lo {xs : List Int} {n b e : Nat} (h : xs.length = 32 * n) (hb : b ≤ e) (he : e ≤ n) (h2 : 2 ≤ e - b) (hn : e < 2 ^ 64) : lo (sub xs b e) = sub xs b (b + hf (e - b)) := by
  have hl := sub_length h hb he
  have hbd := hf_bd (e - b) h2 (by omega)
  rw [lo_eq hl]
  unfold sub
  rw [List.take_take, show b + hf (e - b) - b = hf (e - b) by omega, Nat.min_eq_left (by omega)]
theorem sub_hi {xs : List Int} {n b e : Nat} (h : xs.length = 32 * n) (hb : b ≤ e) (he : e ≤ n) (h2 : 2 ≤ e - b) (hn : e < 2 ^ 64) : hi (sub xs b e) = sub xs (b + hf (e - b)) e := by
  have hl := sub_length h hb he
  have hbd := hf_bd (e - b) h2 (by omega)
  rw [hi_eq hl]
  unfold sub
  rw [List.drop_take, List.drop_drop]
  congr 1
  · omega
  · congr 1
    omega

theorem eqSp (w : World) (a b c d : Int) : (Op.equalIn 10000 68 (.agg #[.int .i64 a, .int .i64 b]) (.agg #[.int .i64 c, .int .i64 d])).run Tryd.prog w = .ok (a == c && b == d) w := by
  by_cases h1 : a = c <;> by_cases h2 : b = d <;> go_simp
theorem guardSp : Tryd.prog.eqGuardType Tryd.prog.depth 68 = false := by kernel_rfl
section
variable {dst : Option Tmp} {ty : TypeId} {pos : String} {aft : Array Edge} {gd : Option (Nat × Bool)} {ops : Array Oper} {rest : List Oper} {a : Act} {w : World} {Q : Exit → Act → World → Prop}
theorem step_eqSp {t' : TypeId} {x y : Operand} {b e b' e' : Nat} (q : Bool) (hq : q = decide (b = b' ∧ e = e')) (hw : Region.wanted ⟨dst, .binOp .eql 68 x y t', ty, pos, aft, gd⟩ (yielded ops a.tmps) = true)
    (hx : a.eval x = .agg (spn b e).toArray) (hy : a.eval y = .agg (spn b' e').toArray) (h : wpList Tryd.prog ops Q rest (a.put dst (.bool q)) w) :
    wpList Tryd.prog ops Q (⟨dst, .binOp .eql 68 x y t', ty, pos, aft, gd⟩ :: rest) a w := by
  refine step_run hw (.bool q) w ?_ h
  have e0 : (((b : Int) == (b' : Int)) && ((e : Int) == (e' : Int))) = q := by
    subst hq
    by_cases h1 : b = b' <;> by_cases h2 : e = e' <;> simp [h1, h2] <;> omega
  have e1 := eqSp w b e b' e'
  rw [e0] at e1
  have e2 : (Op.equalIn 10000 68 (.agg (spn b e).toArray) (.agg (spn b' e').toArray)).run Tryd.prog w = .ok q w := e1
  simp [execOp, hx, hy, run_eqGuard_agg (P := Tryd.prog) w .eql 68 x y _ _ guardSp, run_eql_struct, e2, Result.andThen]
end

set_option maxRecDepth 100000 in
set_option maxHeartbeats 1000000 in
theorem incl1_one (gl gi gp gd i bl o n cap : Nat) (xs : List Int) (w : World) (hE : Env w gl gi gp gd i bl o n cap xs) (hi' : i < n) :
    Calls Tryd.prog 32 #[.agg (spn i (i + 1)).toArray, .pointer (some ⟨gl, 0, none⟩), .pointer (some ⟨gi, 0, none⟩), .pointer (some ⟨gp, 0, none⟩), .pointer (some ⟨gd, 0, none⟩)] w
      fun r w' => ∃ v, r = .returned v ∧ (∃ q, DOwn w' w.heap.size v q (path (sub xs i (i + 1)) 0)) ∧ Below w.heap.size w w' := by
  have EP := hide (path_one (i := 0) (show (sub xs i (i + 1)).length = 32 by rw [sub_length hE.ds.hlen (by omega) (by omega)]; omega))
  rw [EP.out]
  have HE := hide hE
  clear hE
  go_enter Tryd.func32, Tryd.ntmps32
  go_wp2_with (refine step_box (cs := spn i (i + 1)) rfl rfl ?_)
  intro w1 g5 hr1 hl1 hb1
  have G5 := hide hr1
  have GL := hide (HE.out.leaf.below hb1 HE.out.leaf.lt)
  clear hr1
  go_wp2_with (first | (refine step_loadA wSp rfl rfl G5.out rfl ?_) | (refine step_loadA wSp rfl rfl GL.out rfl ?_) | (refine step_eqSp true (by simp) rfl rfl rfl ?_))
  go_ret
  exact ⟨_, rfl, ⟨0, DOwn.nil _ _⟩, hb1⟩

set_option maxRecDepth 100000 in
set_option maxHeartbeats 4000000 in
theorem incl1_any (gl gi gp gd i bl o n cap : Nat) (xs : List Int) (hi' : i < n) : ∀ (m b e : Nat) (w : World), e - b ≤ m → b ≤ i → i < e → e ≤ n → Env w gl gi gp gd i bl o n cap xs →
    Calls Tryd.prog 32 #[.agg (spn b e).toArray, .pointer (some ⟨gl, 0, none⟩), .pointer (some ⟨gi, 0, none⟩), .pointer (some ⟨gp, 0, none⟩), .pointer (some ⟨gd, 0, none⟩)] w
      fun r w' => ∃ v, r = .returned v ∧ (∃ q, DOwn w' w.heap.size v q (path (sub xs b e) (i - b))) ∧ Below w.heap.size w w' := by
  intro m
  induction m with
  | zero => intro b e w hm hb hie hen hE; omega
  | succ m ih =>
    intro b e w hm hb hie hen hE
    by_cases h1 : e - b = 1
    · obtain rfl : b = i := by omega
      obtain rfl : e = b + 1 := by omega
      rw [Nat.sub_self]
      exact incl1_one gl gi gp gd b bl o n cap xs w hE hi'
    have h2 : 2 ≤ e - b := by omega
    have hre := hE.ds.hreach
    have hx := hE.ds.hlen
    have hxb := hE.ds.hbyte
    have hsl := sub_length hx (show b ≤ e by omega) hen
    have hsb := sub_isB hxb b e
    have hbd := hf_bd (e - b) h2 (by omega)
    have ELO := hide (sub_lo hx (by omega) hen h2 (by omega))
    have EHI := hide (sub_hi hx (by omega) hen h2 (by omega))
    obtain ⟨b1, e1, b2, e2, hr, EP0, hb1i, hi1e, he1n, hlt1, hb2, he2⟩ : ∃ b1 e1 b2 e2, ((i < b + hf (e - b) ∧ b1 = b ∧ e1 = b + hf (e - b) ∧ b2 = b + hf (e - b) ∧ e2 = e) ∨ (b + hf (e - b) ≤ i ∧ b1 = b + hf (e - b) ∧ e1 = e ∧ b2 = b ∧ e2 = b + hf (e - b))) ∧
        path (sub xs b e) (i - b) = path (sub xs b1 e1) (i - b1) ++ root (sub xs b2 e2) ∧ b1 ≤ i ∧ i < e1 ∧ e1 ≤ n ∧ e1 - b1 ≤ m ∧ b2 < e2 ∧ e2 ≤ n := by
      by_cases hlt : i < b + hf (e - b)
      · refine ⟨b, b + hf (e - b), b + hf (e - b), e, .inl ⟨hlt, rfl, rfl, rfl, rfl⟩, ?_, by omega, by omega, by omega, by omega, by omega, by omega⟩
        rw [path_lo hsl h2 (by omega) (by omega), ELO.out, EHI.out]
      · refine ⟨b + hf (e - b), e, b, b + hf (e - b), .inr ⟨by omega, rfl, rfl, rfl, rfl⟩, ?_, by omega, by omega, by omega, by omega, by omega, by omega⟩
        rw [path_hi hsl h2 (by omega) (by omega), ELO.out, EHI.out, show i - b - hf (e - b) = i - (b + hf (e - b)) by omega]
    have EP := hide EP0
    have HL2 := hide (root_length (sub_length hx (show b2 ≤ e2 by omega) he2) (sub_isB hxb b2 e2))
    have HB2 := hide (root_isB (sub_length hx (show b2 ≤ e2 by omega) he2) (sub_isB hxb b2 e2))
    have PB : Hid ((path (sub xs b1 e1) (i - b1)).length ≤ 2048) := hide (by
      obtain ⟨⟨q, hq, hl⟩, _⟩ := path_bd _ (e1 - b1) (i - b1) (sub xs b1 e1) (Nat.le_refl _) (by omega) (sub_length hx (by omega) he1n) (by omega) (sub_isB hxb b1 e1) (by omega)
      have := Lib.bitLen_le (e1 - b1 - 1) 64 (Nat.le_refl _) (by omega)
      omega)
    have HR := hide hr
    have HE := hide hE
    clear hE hr EP0 ELO EHI hx hxb hsl hsb
    go_enter Tryd.func32, Tryd.ntmps32
    go_wp2_with (refine step_box (cs := spn b e) rfl rfl ?_)
    intro w1 g5 hr1 hl1 hbw1
    have G5 := hide hr1
    have E1 := hide (HE.out.below hbw1)
    have B1 := hide hbw1
    have GL := hide E1.out.leaf
    have hci : w1.cell? ⟨gi, 0, none⟩ = some (.int .i64 (i : Int)) := by rw [E1.out.at'.cell]; rfl
    clear hr1 hbw1
    go_wp2_with (first | (refine step_loadA wSp rfl rfl G5.out rfl ?_) | (refine step_loadA wSp rfl rfl GL.out rfl ?_) | (refine step_eqSp false (by symm; rw [decide_eq_false_iff_not]; omega) rfl rfl rfl ?_))
    refine (halves_any b e i (hf (e - b)) _ _ rfl h2 (by omega) (by omega) rfl b1 e1 b2 e2 HR.out).mono ?_
    rintro r w2 ⟨rfl, hb2w⟩
    have E2 := hide (E1.out.below hb2w)
    have B2 := hide (B1.out.trans (hb2w.mono B1.out.size))
    clear hb2w E1 G5 GL hci B1 hl1
    go_wp2_with (refine step_alloc zSp rfl ?_)
    intro w3 g7 hr3 hl3 hb3
    have G7 := hide hr3
    clear hr3
    go_wp2_with (refine step_alloc zSp rfl ?_)
    intro w4 g8 hr4 hl4 hb4
    have G8 := hide hr4
    have G74 := hide (G7.out.below hb4 G7.out.lt)
    have n78 : g7 ≠ g8 := by have := G7.out.lt; omega
    have B24 := hide (hb3.trans (hb4.mono hb3.size))
    have h28 : w2.heap.size ≤ g8 := Nat.le_trans hb3.size hl4
    clear hr4 hb3 hb4 G7
    go_wp2_with (refine step_storeA (vs := spn b1 e1) wSp rfl rfl rfl G74.out rfl (spn_one _ _) rfl ?_)
    intro w5 hg5 hbut5
    have G85 := hide (G8.out.but hbut5 n78.symm)
    have G75 := hide hg5
    have B25 := hide (B24.out.trans (hbut5.below hl3))
    clear hg5 hbut5 G8 G74 B24
    go_wp2_with (refine step_storeA (vs := spn b2 e2) wSp rfl rfl rfl G85.out rfl (spn_one _ _) rfl ?_)
    intro w6 hg6 hbut6
    have G86 := hide hg6
    have G76 := hide (G75.out.but hbut6 n78)
    have B26 := hide (B25.out.trans (hbut6.below h28))
    have E6 := hide (E2.out.below B26.out)
    have B6 := hide (B2.out.trans (B26.out.mono B2.out.size))
    clear hg6 hbut6 G85 G75 B25 E2 B26 B2 hl3 hl4
    have hu := Tryd.underlying68
    have hSS : ∀ v : World, Below w6.heap.size w6 v → v.cell? ⟨gp, 0, none⟩ = some (.func (.func 32) #[] #[.pointer (some ⟨gl, 0, none⟩), .pointer (some ⟨gi, 0, none⟩), .pointer (some ⟨gp, 0, none⟩), .pointer (some ⟨gd, 0, none⟩)]) ∧ v.rangeAt g7 0 (spn b1 e1) ∧ v.cell? ⟨gd, 0, none⟩ = some (.slice (some ⟨bl, o, none⟩) n cap) ∧ v.rangeAt g8 0 (spn b2 e2) := fun v hv =>
      ⟨by rw [(E6.out.below hv).self.cell]; rfl, (G76.out.below hv G76.out.lt).range 0 _ (by simp [spn]), by rw [(E6.out.below hv).var.cell]; rfl, (G86.out.below hv G86.out.lt).range 0 _ (by simp [spn])⟩
    go_wp2_with fail
    refine wp_region_noPanic ?_
    have B0 := hide ((Below.refl w6.heap.size w6).drew)
    refine wp_region_held_drew (S := fun v : World => v.cell? ⟨gp, 0, none⟩ = some (.func (.func 32) #[] #[.pointer (some ⟨gl, 0, none⟩), .pointer (some ⟨gi, 0, none⟩), .pointer (some ⟨gp, 0, none⟩), .pointer (some ⟨gd, 0, none⟩)]) ∧ v.rangeAt g7 0 (spn b1 e1) ∧ v.cell? ⟨gd, 0, none⟩ = some (.slice (some ⟨bl, o, none⟩) n cap) ∧ v.rangeAt g8 0 (spn b2 e2)) (by kernel_rfl) (hSS _ B0.out) (fun hHeld => ?_)
    refine takeH 0 18 (.func (.func 32) #[] #[.pointer (some ⟨gl, 0, none⟩), .pointer (some ⟨gi, 0, none⟩), .pointer (some ⟨gp, 0, none⟩), .pointer (some ⟨gd, 0, none⟩)]) hHeld rfl rfl (by kernel_rfl) (by kernel_rfl) (by kernel_rfl) (fun _ _ _ h => h) (Or.inl ⟨by rfl, fun w hw => by have hw' := hw.1; go_simp⟩) ?_
    simp only [Act.put, List.setIfInBounds_toArray, List.set_cons_zero, List.set_cons_succ]
    refine takeH 1 19 (.agg (spn b1 e1).toArray) hHeld rfl rfl (by kernel_rfl) (by kernel_rfl) (by kernel_rfl) (fun _ _ _ h => h) (yieldsIf_load_mid (by rfl) _ _ rfl g7 0 rfl _ _ (fun w h => h.2.1) hu rfl wSp.size) ?_
    simp only [Act.put, List.setIfInBounds_toArray, List.set_cons_zero, List.set_cons_succ]
    refine takeH 3 21 (.slice (some ⟨bl, o, none⟩) n cap) hHeld rfl rfl (by kernel_rfl) (by kernel_rfl) (by kernel_rfl) (fun _ _ _ h => h) (Or.inl ⟨by rfl, fun w hw => by have hw' := hw.2.2.1; go_simp⟩) ?_
    simp only [Act.put, List.setIfInBounds_toArray, List.set_cons_zero, List.set_cons_succ]
    refine takeH 4 22 (.agg (spn b2 e2).toArray) hHeld rfl rfl (by kernel_rfl) (by kernel_rfl) (by kernel_rfl) (fun _ _ _ h => h) (yieldsIf_load_mid (by rfl) _ _ rfl g8 0 rfl _ _ (fun w h => h.2.2.2) hu rfl wSp.size) ?_
    simp only [Act.put, List.setIfInBounds_toArray, List.set_cons_zero, List.set_cons_succ]
    refine wpAnyH_ready (rs := [2]) (by kernel_rfl) (by simp) (AllReadyH.cons rfl (fun K hK => ?_) AllReadyH.nil)
    rw [if_pos (by rfl)]
    go_simp
    refine (ih b1 e1 _ hlt1 hb1i hi1e he1n (E6.out.below B0.out)).mono ?_
    rintro r v1 ⟨u1, rfl, ⟨q1, ho1⟩, hv1⟩
    have B1 := hide (B0.out.trans (hv1.mono B0.out.size))
    refine hK.out _ _ (hSS _ B1.out) (fun hHeld => ?_)
    clear hK K
    refine wpAnyH_ready (rs := [5]) (by kernel_rfl) (by simp) (AllReadyH.cons rfl (fun K hK => ?_) AllReadyH.nil)
    rw [if_pos (by rfl)]
    go_simp
    refine (rootOf_any bl o n cap b2 e2 _ _ xs _ (E6.out.below B1.out).ds rfl rfl hb2 he2 (E6.out.below B1.out).kt).mono ?_
    rintro r v2 ⟨rfl, hv2⟩
    have B2 := hide (B1.out.trans (hv2.mono B1.out.size))
    have ho2 := ho1.below hv2
    refine hK.out _ _ (hSS _ B2.out) (fun hHeld => ?_)
    clear hK K
    refine wpAnyH_ready (rs := [6]) (by kernel_rfl) (by simp) (AllReadyH.cons rfl (fun K hK => ?_) AllReadyH.nil)
    rw [if_pos (by rfl)]
    refine wp_oneD rfl HL2.out HB2.out ?_
    intro v3 gq hsq hv3
    have B3 := hide (B2.out.trans (hv3.mono B2.out.size))
    have ho3 := ho2.below hv3
    refine hK.out _ _ (hSS _ B3.out) (fun hHeld => ?_)
    clear hK K
    simp only [Act.put]
    refine wpAnyH_ready (rs := [7]) (by kernel_rfl) (by simp) (AllReadyH.cons rfl (fun K hK => ?_) AllReadyH.nil)
    rw [if_pos (by rfl)]
    have hq1 : 32 * q1 = (path (sub xs b1 e1) (i - b1)).length := ho3.len.symm
    refine wp_appendDG rfl rfl ho3 hsq (by have := PB.out; omega) (Nat.le_trans hv1.size (Nat.le_trans hv2.size hv3.size)) ?_
    intro u4 v4 ho4 hg4
    have B4 := hide (B3.out.trans (Below.of_grown hg4 B3.out.size (fun k hk => Nat.le_trans B0.out.size (ho3.lt k hk))))
    rw [← EP.out] at ho4
    refine hK.out _ _ (hSS _ B4.out) (fun hHeld => ?_)
    clear hK K
    simp only [Act.put]
    refine takeH 8 6 (u4) hHeld rfl rfl (by kernel_rfl) (by kernel_rfl) (by kernel_rfl) (fun _ _ _ h => h) (Or.inl ⟨by rfl, fun w _ => by go_simp⟩) ?_
    simp only [Act.put, List.setIfInBounds_toArray, List.set_cons_zero, List.set_cons_succ]
    refine wpAnyH_done (by kernel_rfl) ?_ _
    refine NoPanic.normal ?_
    clear hHeld
    go_wp2
    go_ret
    exact ⟨_, rfl, ⟨_, ho4.base (Nat.le_trans B6.out.size B0.out.size)⟩, B6.out.trans (B4.out.mono B6.out.size)⟩

/-- What Inclusion answers: an error, or the proof. -/
def inE (n : Nat) (i m : Int) : Int := if m < 1 ∨ (n : Int) < m ∨ i < 0 ∨ m ≤ i then 40 else 0
def inP (xs : List Int) (n : Nat) (i m : Int) : List Int := if m < 1 ∨ (n : Int) < m ∨ i < 0 ∨ m ≤ i then [] else path (sub xs 0 m.toNat) i.toNat
theorem inP_bd {xs : List Int} {n : Nat} (i m : Int) (h : xs.length = 32 * n) (hb : isB xs) (hn : n < 2 ^ 63) : (∃ q, (inP xs n i m).length = 32 * q ∧ q ≤ 64) ∧ isB (inP xs n i m) := by
  unfold inP
  split
  · exact ⟨⟨0, rfl, by omega⟩, by intro x hx; simp at hx⟩
  · obtain ⟨⟨q, hq, hl⟩, hB⟩ := path_bd _ (m.toNat - 0) i.toNat (sub xs 0 m.toNat) (Nat.le_refl _) (by omega) (sub_length h (by omega) (by omega)) (by omega) (sub_isB hb _ _) (by omega)
    have := Lib.bitLen_le (m.toNat - 0 - 1) 64 (Nat.le_refl _) (by omega)
    exact ⟨⟨q, hq, by omega⟩, hB⟩
section
variable {dst : Option Tmp} {ty : TypeId} {pos : String} {aft : Array Edge} {gd : Option (Nat × Bool)} {ops : Array Oper} {rest : List Oper} {a : Act} {w : World} {Q : Exit → Act → World → Prop}
/-- A value of one cell gets a place of its own. -/
theorem step_box1 {T : TypeId} {x : Operand} {v : Value} (hw : Region.wanted ⟨dst, .box T x, ty, pos, aft, gd⟩ (yielded ops a.tmps) = true) (hx : a.eval x = v) (hv : v.cells = #[v])
    (h : ∀ w1 g, Blk w1 g T [v] → w.heap.size ≤ g → Below w.heap.size w w1 → wpList Tryd.prog ops Q rest (a.put dst (.pointer (some ⟨g, 0, none⟩))) w1) :
    wpList Tryd.prog ops Q (⟨dst, .box T x, ty, pos, aft, gd⟩ :: rest) a w :=
  step_run hw (.pointer (some ⟨w.heap.size, 0, none⟩)) (w.alloc (.cells [v].toArray T))
    (by simp [execOp, hx, Instr.box, newVar, newRow, Result.andThen, hv]) (h _ _ (Blk.made _ _ _) (Nat.le_refl _) ((Below.refl _ _).alloc (Nat.le_refl _) _))
end
theorem zFn : Zeroed 69 [.nilFunc] := fun _ _ _ _ _ _ _ => by kernel_rfl

end Go.Proofs.YtdggooanpamoeaaDoor
