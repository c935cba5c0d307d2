/-
  Texts one behind the other: Rx Ry Rz Is Ra Rr.
-/
import Derived.Test.YthgfbcndoedacaaDoorPkI
import Derived.Test.YthgfbcndoedacaaDoorPkA
import Derived.Test.YthgfbcndoedacaaDoorPkE
import Derived.RangeFuncNested
import Derived.RangeFuncBound
import Derived.RangeFuncCalls
import Derived.RangeFuncLeaves
import Derived.Shelf.Abstract
import Derived.Shelf.RegionOpen
import Derived.WalkKit
import Derived.OwnWalkIn
import Derived.TacticsInMore
import Derived.LoopNIn
import Derived.LoopIn

/-
  A range in memory; AppendNode and Append where they take what they are given.
-/
namespace Go.Proofs.YthgfbcndoedacaaDoor
open Go.RowKit Go.Shelf
set_option linter.unusedVariables false

/-- What belongs to a range. -/
def Foot (g : Nat) (v : Value) : Nat → Prop := fun k => k = g ∨ v.ownBlock = some k
/-- A range in memory: at g, its parts in v. -/
structure Rg (w : World) (B g b e : Nat) (v : Value) (ps : List Pt) : Prop where
  blk : Blk w g 54 (rgC b e v)
  own : POwn w B v ps
  good : GoodL ps
  nodes : ps.map Prod.fst = parts b e
  le : b ≤ e
  max : e ≤ 281474976710656
theorem Rg.below {w w' : World} {B g b e : Nat} {v : Value} {ps : List Pt} (h : Rg w B g b e v ps) (hb : Below w.heap.size w w') : Rg w' B g b e v ps := ⟨h.blk.below hb h.blk.lt, h.own.below hb, h.good, h.nodes, h.le, h.max⟩
theorem Rg.chs {S : Nat → Prop} {w w' : World} {B g b e : Nat} {v : Value} {ps : List Pt} (h : Rg w B g b e v ps) (hc : Chs S w w') (hS : ∀ k, Foot g v k → ¬ S k) : Rg w' B g b e v ps :=
  ⟨h.blk.chs hc (hS g (.inl rfl)), h.own.chs hc (fun k hk => hS k (.inr hk)), h.good, h.nodes, h.le, h.max⟩
theorem Rg.count {w : World} {B g b e : Nat} {v : Value} {ps : List Pt} (h : Rg w B g b e v ps) : ps.length ≤ 98 := by
  have := parts_98 b e h.max
  rw [← h.nodes] at this
  simpa using this

theorem mul_div_pow {e L : Nat} (h : 2 ^ L ∣ e) : e / 2 ^ L * 2 ^ L = e := Nat.div_mul_cancel h
/-- Nodes one behind the other, the last one first. -/
def AbutN : List (Nat × Nat) → Nat → Prop
  | [], _ => True
  | q :: st, s => (q.2 + 1) * 2 ^ q.1 = s ∧ AbutN st (q.2 * 2 ^ q.1)
theorem abut_of : ∀ (ps : List Pt) (s : Nat), AbutN (ps.map Prod.fst) s → Abut ps s
  | [], _, _ => trivial
  | q :: ps, s, h => ⟨h.1, abut_of ps _ h.2⟩
theorem abutN_snoc (n : Nat × Nat) : ∀ (st : List (Nat × Nat)) (s b : Nat), AbutN st s → (st = [] → s = b) → (∀ q, st.getLast? = some q → q.2 * 2 ^ q.1 = b) → (n.2 + 1) * 2 ^ n.1 = b → AbutN (st ++ [n]) s
  | [], s, b, _, h1, _, h3 => by
    have := h1 rfl
    subst this
    exact ⟨h3, trivial⟩
  | q :: st, s, b, h, _, h2, h3 => by
    refine ⟨h.1, abutN_snoc n st _ b h.2 ?_ ?_ h3⟩
    · intro e
      subst e
      exact h2 q rfl
    · intro q' hq'
      apply h2 q'
      cases st with
      | nil => cases hq'
      | cons a st => rw [List.getLast?_cons_cons]; exact hq'
theorem parts_abut (n : Nat) : ∀ (b e : Nat), e - b ≤ n → b ≤ e → e ≤ 2 ^ 48 → AbutN (parts b e).reverse e ∧ (∀ q, (parts b e).reverse.getLast? = some q → q.2 * 2 ^ q.1 = b) ∧ ((parts b e).reverse = [] → e = b) := by
  induction n with
  | zero =>
    intro b e hn hbe hm
    obtain rfl : b = e := by omega
    rw [parts_nil (Nat.le_refl _)]
    exact ⟨trivial, (fun q hq => by cases hq), fun _ => rfl⟩
  | succ n ih =>
    intro b e hn hbe hm
    by_cases hlt : b < e
    · have hk := lv_isLev (b := b) (n := e - b) (by omega) (by omega)
      rw [parts_step hk hm]
      generalize lv b (e - b) = k at *
      have hp := Nat.two_pow_pos k
      have hkl := hk.le
      obtain ⟨h1, h2, h3⟩ := ih (b + 2 ^ k) e (by omega) (by omega) hm
      have e1 := mul_div_pow hk.dvd
      rw [List.reverse_cons]
      refine ⟨abutN_snoc _ _ _ (b + 2 ^ k) h1 (fun e0 => h3 e0) h2 (by simp only [Nat.add_mul, e1]; omega), ?_, ?_⟩
      · intro q hq
        rw [List.getLast?_concat] at hq
        injection hq with hq
        subst hq
        exact e1
      · intro e0
        simp at e0
    · obtain rfl : b = e := by omega
      rw [parts_nil (Nat.le_refl _)]
      exact ⟨trivial, (fun q hq => by cases hq), fun _ => rfl⟩
theorem Rg.abut {w : World} {B g b e : Nat} {v : Value} {ps : List Pt} (h : Rg w B g b e v ps) : Abut ps.reverse e := by
  refine abut_of _ _ ?_
  rw [List.map_reverse, h.nodes]
  exact (parts_abut (e - b) b e (Nat.le_refl _) h.le h.max).1
/-- The nodes behind a put. -/
theorem putL_nodes {ps : List Pt} {b e L : Nat} {d : List Int} (h : ps.map Prod.fst = parts b e) (hbe : b ≤ e) (hd : 2 ^ L ∣ e) (hm : e + 2 ^ L ≤ 281474976710656) : (putL ps ((L, e / 2 ^ L), d)).map Prod.fst = parts b (e + 2 ^ L) := by
  unfold putL
  rw [List.map_reverse, putS_nodes, List.map_reverse, h]
  exact parts_put (e - b) b e L (Nat.le_refl _) hbe hd hm

theorem aux_rem (e P L : Nat) (hdv : 2 ^ L ∣ e) (HP : Hid (2 ^ L = P)) : ((e : Int)).tmod (P : Int) = 0 := by
  rw [← HP.out]
  obtain ⟨c, rfl⟩ := hdv
  rw [Int.natCast_mul, Int.mul_tmod_right]
theorem aux_quo (e P : Nat) : ((e : Int)).tdiv (P : Int) = ((e / P : Nat) : Int) := by
  rw [Int.tdiv_eq_ediv_of_nonneg (by omega), Int.natCast_ediv]
theorem aux_pow (P L : Nat) (HP : Hid (2 ^ L = P)) (h : P ≤ 281474976710656) : wrap64 (2 ^ L) = (P : Int) := by
  have e1 : ((2 : Int) ^ L) = (P : Int) := by rw [← HP.out]; simp [Int.natCast_pow]
  rw [e1]
  unfold wrap64
  omega
theorem aux_sub (e : Nat) (h : e ≤ 281474976710656) : wrap64 (281474976710656 - (e : Int)) = 281474976710656 - (e : Int) := by unfold wrap64; omega
theorem aux_wq (e P : Nat) (h : e ≤ 281474976710656) : IntKind.i64.wrap ((e / P : Nat) : Int) = ((e / P : Nat) : Int) := by
  have hdE : e / P ≤ e := Nat.div_le_self _ _
  generalize e / P = q at *
  rw [IntKind.wrap_i64]; omega
theorem aux_add (e P : Nat) (h : e + P ≤ 281474976710656) : IntKind.i64.wrap ((e : Int) + (P : Int)) = ((e + P : Nat) : Int) := by rw [IntKind.wrap_i64]; omega

set_option maxRecDepth 100000 in
set_option maxHeartbeats 400000 in
theorem appN_ok (B g b e L : Nat) (v : Value) (ps : List Pt) (d : List Int) (w : World) (hr : Rg w B g b e v ps) (hB : B ≤ w.heap.size) (hk : KT w) (hkg : 2 < g) (hkB : 2 < B) (hL : L ≤ 48) (hdv : 2 ^ L ∣ e) (hm : e + 2 ^ L ≤ 281474976710656) (hdl : d.length = 32) (hdb : isB d) :
    Calls Tryd.prog 11 #[.pointer (some ⟨g, 0, none⟩), .int .i64 (L : Int), .agg (u8s d).toArray] w fun r w' => ∃ v', r = .returned (.int .i64 0) ∧ Rg w' B g b (e + 2 ^ L) v' (putL ps ((L, e / 2 ^ L), d)) ∧ Chs (Foot g v) w w' ∧ (∀ k, v'.ownBlock = some k → v.ownBlock = some k ∨ w.heap.size ≤ k) := by
  have HR := hide hr
  have HK := hide hk
  have HDL := hide (show (u8s d).length = 32 by rw [u8s_length, hdl])
  have HDV := hide hdv
  have HB := hide hB
  have hp := Nat.two_pow_pos L
  obtain ⟨P, HP⟩ : ∃ P, Hid (2 ^ L = P) := ⟨_, hide rfl⟩
  rw [HP.out] at hp hm
  have hmax := hr.max
  have hrem := aux_rem e P L hdv HP
  have hquo := aux_quo e P
  have hpw := aux_pow P L HP (Nat.le_trans (Nat.le_add_left _ _) hm)
  have hsub := aux_sub e hmax
  have hwq := aux_wq e P hmax
  have hadd := aux_add e P hm
  clear hr hk hdv hB
  have HD0 := hide hdl
  have HGD : Hid (Good ((L, e / P), d)) := hide ⟨hdl, hdb, by simp; omega, by have : e / P ≤ e := Nat.div_le_self _ _; simp; omega⟩
  have HME : Hid (e / P * 2 ^ L = e) := hide (by rw [← HP.out]; exact mul_div_pow HDV.out)
  have HAB : Hid (Abut ps.reverse (e / P * 2 ^ L)) := hide (by rw [HME.out]; exact HR.out.abut)
  have HBD : Hid ((e / P + 1) * 2 ^ L ≤ 281474976710656) := hide (by rw [Nat.add_mul, HME.out, Nat.one_mul, HP.out]; exact hm)
  clear hdl hdb
  have hP0 : ¬ (P : Int) = 0 := by omega
  have hl0 : ¬ (L : Int) < 0 := by omega
  have hl1 : ¬ (48 : Int) < (L : Int) := by omega
  have hgt : ¬ (281474976710656 - (e : Int)) < (P : Int) := by omega
  go_enter Tryd.func11, Tryd.ntmps11
  go_wp2_with (refine step_box rfl rfl ?_)
  intro w1 g5 hg5 hle5 hb1
  have G5 := hide hg5
  have R1 := hide (HR.out.below hb1)
  have c0 : w1.cell? ⟨g, 0, none⟩ = some (.bool true) := by rw [R1.out.blk.cell]; rfl
  have c2 : w1.cell? ⟨g, 2, none⟩ = some (.int .i64 (e : Int)) := by rw [R1.out.blk.cell]; rfl
  clear hg5
  go_wp2_with (go_at_call 29; refine (made_is _ _ c0).mono ?_; rintro e w' ⟨rfl, rfl⟩)
  have hP0n : ¬ P = 0 := by omega
  have hwq2 : IntKind.i64.wrap ((e : Int) / (P : Int)) = (e : Int) / (P : Int) := by rw [← Int.natCast_ediv]; exact hwq
  obtain ⟨dD, huD, hdD⟩ := wD.und
  have hg5g : g5 ≠ g := (R1.out.blk.apart G5.out (by decide)).symm
  have HS1 : ∀ W : World, Blk W g 54 (rgC b e v) → Blk W g5 34 (u8s d) → W.cell? ⟨g, 2, none⟩ = some (.int .i64 (e : Int)) ∧ W.rangeAt g5 0 (u8s d) := fun W h1 h2 => ⟨by rw [h1.cell]; rfl, h2.range 0 _ (by rw [List.drop_zero, List.take_of_length_le (Nat.le_refl _)])⟩
  refine wp_region_noPanic ?_
  have bd := (Below.refl w1.heap.size w1).drew
  have R2 := hide (R1.out.below bd)
  have G52 := hide (G5.out.below bd G5.out.lt)
  have HB2 := hide (hb1.trans (bd.mono hb1.size))
  refine wp_region_held_drew (S := fun v : World => v.cell? ⟨g, 2, none⟩ = some (.int .i64 (e : Int)) ∧ v.rangeAt g5 0 (u8s d)) (by kernel_rfl) (HS1 _ R2.out.blk G52.out) (fun hHeld => ?_)
  refine takeH 0 35 (.pointer (some ⟨g, 0, none⟩)) hHeld rfl rfl (by kernel_rfl) (by kernel_rfl) (by kernel_rfl) (fun _ _ _ h => h) (Or.inl ⟨by rfl, fun w _ => by go_simp⟩) ?_
  simp only [Act.put, List.setIfInBounds_toArray, List.set_cons_zero, List.set_cons_succ]
  refine takeH 1 36 (.int .i64 (L : Int)) hHeld rfl rfl (by kernel_rfl) (by kernel_rfl) (by kernel_rfl) (fun _ _ _ h => h) (Or.inl ⟨by rfl, fun w _ => by go_simp⟩) ?_
  simp only [Act.put, List.setIfInBounds_toArray, List.set_cons_zero, List.set_cons_succ]
  refine takeH 2 37 (.pointer (some ⟨g, 0, none⟩)) hHeld rfl rfl (by kernel_rfl) (by kernel_rfl) (by kernel_rfl) (fun _ _ _ h => h) (Or.inl ⟨by rfl, fun w _ => by go_simp⟩) ?_
  simp only [Act.put, List.setIfInBounds_toArray, List.set_cons_zero, List.set_cons_succ]
  refine takeH 3 38 (.pointer (some ⟨g, 0, none⟩)) hHeld rfl rfl (by kernel_rfl) (by kernel_rfl) (by kernel_rfl) (fun _ _ _ h => h) (Or.inl ⟨by rfl, fun w _ => by go_simp⟩) ?_
  simp only [Act.put, List.setIfInBounds_toArray, List.set_cons_zero, List.set_cons_succ]
  refine takeH 4 39 (.pointer (some ⟨g, 1, none⟩)) hHeld rfl rfl (by kernel_rfl) (by kernel_rfl) (by kernel_rfl) (fun _ _ _ h => h) (Or.inl ⟨by rfl, fun w _ => by go_simp⟩) ?_
  simp only [Act.put, List.setIfInBounds_toArray, List.set_cons_zero, List.set_cons_succ]
  refine takeH 5 40 (.pointer (some ⟨g, 2, none⟩)) hHeld rfl rfl (by kernel_rfl) (by kernel_rfl) (by kernel_rfl) (fun _ _ _ h => h) (Or.inl ⟨by rfl, fun w _ => by go_simp⟩) ?_
  simp only [Act.put, List.setIfInBounds_toArray, List.set_cons_zero, List.set_cons_succ]
  refine takeH 6 41 (.int .i64 (e : Int)) hHeld rfl rfl (by kernel_rfl) (by kernel_rfl) (by kernel_rfl) (fun _ _ _ h => h) (Or.inl ⟨by rfl, fun w hw => by have hw' : w.cell? ⟨g, 2, none⟩ = some (.int .i64 (e : Int)) := (fun h => h.1) hw; go_simp⟩) ?_
  simp only [Act.put, List.setIfInBounds_toArray, List.set_cons_zero, List.set_cons_succ]
  refine takeH 7 42 (.int .i64 (P : Int)) hHeld rfl rfl (by kernel_rfl) (by kernel_rfl) (by kernel_rfl) (fun _ _ _ h => h) (Or.inl ⟨by rfl, fun w _ => by go_simp⟩) ?_
  simp only [Act.put, List.setIfInBounds_toArray, List.set_cons_zero, List.set_cons_succ]
  refine takeH 8 43 (.int .i64 ((e / P : Nat) : Int)) hHeld rfl rfl (by kernel_rfl) (by kernel_rfl) (by kernel_rfl) (fun _ _ _ h => h) (Or.inl ⟨by rfl, fun w _ => by go_simp⟩) ?_
  simp only [Act.put, List.setIfInBounds_toArray, List.set_cons_zero, List.set_cons_succ]
  refine takeH 9 44 (.agg (nC (L, e / P)).toArray) hHeld rfl rfl (by kernel_rfl) (by kernel_rfl) (by kernel_rfl) (fun _ _ _ h => h) (Or.inl ⟨by rfl, fun w _ => by go_simp; simp [nC]⟩) ?_
  simp only [Act.put, List.setIfInBounds_toArray, List.set_cons_zero, List.set_cons_succ]
  refine takeH 10 45 (.agg (u8s d).toArray) hHeld rfl rfl (by kernel_rfl) (by kernel_rfl) (by kernel_rfl) (fun _ _ _ h => h) (yieldsIf_load_mid (by rfl) _ _ rfl g5 0 rfl _ _ (fun w h => h.2) huD hdD (by rw [wD.size, HDL.out])) ?_
  simp only [Act.put, List.setIfInBounds_toArray, List.set_cons_zero, List.set_cons_succ]
  refine takeH 11 46 (.agg (pc ((L, e / P), d)).toArray) hHeld rfl rfl (by kernel_rfl) (by kernel_rfl) (by kernel_rfl) (fun _ _ _ h => h) (Or.inl ⟨by rfl, fun w _ => run_buildP rfl rfl HD0.out⟩) ?_
  simp only [Act.put, List.setIfInBounds_toArray, List.set_cons_zero, List.set_cons_succ]
  refine wpAnyH_ready (rs := [12]) (by kernel_rfl) (by simp) (AllReadyH.cons rfl (fun K hK => ?_) AllReadyH.nil)
  rw [if_pos (by rfl)]
  go_simp
  refine (put_any g B b e v ps ((L, e / P), d) _ R2.out.blk R2.out.own R2.out.good HGD.out (Nat.le_trans HB.out HB2.out.size) (by have := R2.out.count; omega) (HK.out.below HB2.out HK.out.lt) hkg hkB HAB.out HBD.out).mono ?_
  rintro r W3 ⟨u3, v3, rfl, hg3, ho3, hgl3, hch3, hnb3⟩
  have hG53 := G52.out.chs hch3 (by
    rintro (e1 | e1)
    · exact hg5g e1
    · exact (R2.out.own.apart G52.out (by decide)) e1)
  refine hK.out _ _ ⟨by rw [hg3.cell]; rfl, hG53.range 0 _ (by rw [List.drop_zero, List.take_of_length_le (Nat.le_refl _)])⟩ (fun hHeld => ?_)
  clear hK K
  refine wpAnyH_done (by kernel_rfl) ?_ _
  refine NoPanic.normal ?_
  clear hHeld
  have HG3 := hide hg3
  have HO3 := hide ho3
  have HCH := hide hch3
  have HNB := hide hnb3
  have HGL3 := hide hgl3
  have c23 : W3.cell? ⟨g, 2, none⟩ = some (.int .i64 (e : Int)) := by rw [hg3.cell]; rfl
  have f23 : W3.frozen? ⟨g, 2, none⟩ = false := hg3.free 2
  clear hg3 ho3 hch3 hnb3 hgl3 hG53
  go_wp2
  go_ret
  have hbut := But.setCell W3 g 2 (.int .i64 ((e + P : Nat) : Int))
  refine ⟨v3, rfl, ?_, ?_, fun k hk => (HNB.out k hk).imp id (fun h => Nat.le_trans HB2.out.size h)⟩
  · rw [HP.out]
    refine ⟨HG3.out.set 2 _, HO3.out.but hbut (HO3.out.apart HG3.out (by decide)), HGL3.out, ?_, Nat.le_trans HR.out.le (Nat.le_add_right _ _), hm⟩
    have := putL_nodes (d := d) HR.out.nodes HR.out.le HDV.out (by rw [HP.out]; exact hm)
    rwa [HP.out] at this
  · have h1 : Chs (Foot g v) w w1.drew := (Chs.refl _ _).thenBelow HB2.out
    exact (h1.trans HCH.out).thenBut hbut (.inl (.inl rfl))

end Go.Proofs.YthgfbcndoedacaaDoor

/-
  A range of leaves' digests has for each part the tree's root of it; Append; the law's ranged.
-/
namespace Go.Proofs.YthgfbcndoedacaaDoor
open Go.RowKit Go.Shelf
set_option linter.unusedVariables false

theorem hf_pow (k : Nat) (hk : k < 62) : hf (2 ^ (k + 1)) = 2 ^ k := by
  have hp := Nat.two_pow_pos k
  have hlt : 2 ^ (k + 1) < 2 ^ 64 := Nat.pow_lt_pow_right (by omega) (by omega)
  have e2 : 2 ^ (k + 1) = 2 * 2 ^ k := by rw [Nat.pow_succ]; omega
  obtain ⟨h1, h2, h3⟩ := hf_bd (2 ^ (k + 1)) (by omega) hlt
  obtain ⟨j, hj⟩ : ∃ j, hf (2 ^ (k + 1)) = 2 ^ j := ⟨_, rfl⟩
  rw [hj] at h2 h3 ⊢
  have e3 : 2 * 2 ^ j = 2 ^ (j + 1) := by rw [Nat.pow_succ]; omega
  rw [e3] at h3
  have a1 := (Nat.pow_lt_pow_iff_right (a := 2) (by omega)).1 h2
  have a2 := (Nat.pow_le_pow_iff_right (a := 2) (by omega)).1 h3
  obtain rfl : j = k := by omega
  rfl
theorem sub_halves {xs : List Int} {n s P : Nat} (h : xs.length = 32 * n) (hf' : hf (2 * P) = P) (hP : 1 ≤ P) (hs : s + 2 * P ≤ n) (hn : n < 2 ^ 62) : root (sub xs s (s + 2 * P)) = nd (root (sub xs s (s + P))) (root (sub xs (s + P) (s + 2 * P))) := by
  have hl := sub_length h (show s ≤ s + 2 * P by omega) hs
  have e0 : s + 2 * P - s = 2 * P := by omega
  rw [e0] at hl
  rw [root_node hl (by omega) (by omega), lo_eq hl, hi_eq hl, hf']
  congr 2
  · unfold sub
    rw [List.take_take, show s + P - s = P by omega, Nat.min_eq_left (by omega)]
  · unfold sub
    rw [List.drop_take, List.drop_drop]
    congr 1
    · omega
    · congr 1
      omega
/-- The root of a node's leaves. -/
def rd (xs : List Int) (n : Nat × Nat) : List Int := root (sub xs (n.2 * 2 ^ n.1) ((n.2 + 1) * 2 ^ n.1))
/-- The parts of a range of leaves. -/
def rps (xs : List Int) (b e : Nat) : List Pt := (parts b e).map fun n => (n, rd xs n)
theorem rd_join {xs : List Int} {n : Nat} (h : xs.length = 32 * n) (hn : n < 2 ^ 62) (q p : Nat × Nat) (hb : (p.2 + 1) * 2 ^ p.1 ≤ n) (hs : sib q p = true) : rd xs (p.1 + 1, p.2 / 2) = nd (rd xs q) (rd xs p) := by
  obtain ⟨k, i⟩ := q
  obtain ⟨k', j⟩ := p
  obtain ⟨h1, h2, h3⟩ := sib_iff.1 hs
  simp only at h1 h2 h3 hb
  subst h1
  subst h3
  have hp := Nat.two_pow_pos k
  have hk : k < 62 := by
    apply Nat.lt_of_not_le
    intro hl
    have a1 : 2 ^ 62 ≤ 2 ^ k := Nat.pow_le_pow_right (by omega) hl
    have a2 : 2 ^ k ≤ (i + 1 + 1) * 2 ^ k := Nat.le_mul_of_pos_left _ (by omega)
    omega
  have e1 : (i + 1) / 2 * 2 ^ (k + 1) = i * 2 ^ k := by
    rw [Nat.pow_succ, Nat.mul_comm (2 ^ k) 2, ← Nat.mul_assoc]
    congr 1
    omega
  have e2 : ((i + 1) / 2 + 1) * 2 ^ (k + 1) = i * 2 ^ k + 2 * 2 ^ k := by
    rw [Nat.add_mul, e1, Nat.pow_succ]
    omega
  have e3 : (i + 1) * 2 ^ k = i * 2 ^ k + 2 ^ k := by rw [Nat.add_mul]; omega
  have e4 : (i + 1 + 1) * 2 ^ k = i * 2 ^ k + 2 * 2 ^ k := by rw [Nat.add_mul, Nat.add_mul]; omega
  have hfp : hf (2 * 2 ^ k) = 2 ^ k := by
    have := hf_pow k hk
    rwa [Nat.pow_succ, Nat.mul_comm (2 ^ k) 2] at this
  unfold rd
  simp only
  rw [e1, e2, e3, e4]
  rw [e4] at hb
  exact sub_halves h hfp hp hb hn
theorem abutN_get : ∀ (st : List (Nat × Nat)) (s i : Nat) (q r : Nat × Nat), AbutN st s → st[i]? = some q → st[i + 1]? = some r → (r.2 + 1) * 2 ^ r.1 = q.2 * 2 ^ q.1
  | [], _, _, _, _, _, h, _ => by cases h
  | p :: st, s, 0, q, r, h, h1, h2 => by
    simp at h1 h2
    subst h1
    cases st with
    | nil => simp at h2
    | cons a st => simp at h2; subst h2; exact h.2.1
  | p :: st, s, i + 1, q, r, h, h1, h2 => abutN_get st _ i q r h.2 (by simpa using h1) (by simpa using h2)
theorem abutN_le : ∀ (st : List (Nat × Nat)) (s i : Nat) (q : Nat × Nat), AbutN st s → st[i]? = some q → (q.2 + 1) * 2 ^ q.1 ≤ s
  | [], _, _, _, _, h => by cases h
  | p :: st, s, 0, q, h, h1 => by
    simp at h1
    subst h1
    exact Nat.le_of_eq h.1
  | p :: st, s, i + 1, q, h, h1 => by
    refine Nat.le_trans (abutN_le st _ i q h.2 (by simpa using h1)) ?_
    have := h.1
    rw [Nat.add_mul] at this
    omega
theorem rps_step {xs : List Int} {n b e : Nat} (h : xs.length = 32 * n) (hn : n ≤ 2 ^ 47) (hbe : b ≤ e) (he : e < n) : putL (rps xs b e) ((0, e), dat xs e) = rps xs b (e + 1) := by
  have hm : e + 2 ^ 0 ≤ 2 ^ 48 := by
    rw [Nat.pow_zero]
    have : (2 : Nat) ^ 47 < 2 ^ 48 := by decide
    omega
  have hA := (parts_abut (e - b) b e (Nat.le_refl _) hbe (by omega)).1
  have hn62 : n < 2 ^ 62 := by
    have : (2 : Nat) ^ 47 < 2 ^ 62 := by decide
    omega
  have e0 : dat xs e = rd xs (0, e) := by
    unfold rd dat
    simp only [Nat.pow_zero, Nat.mul_one]
    have hl := sub_length h (show e ≤ e + 1 by omega) (show e + 1 ≤ n by omega)
    rw [root_one (by rw [hl]; omega)]
    unfold sub
    rw [show e + 1 - e = 1 by omega]
  have key := putS_told nd (rd xs) (fun q p => (q.2 + 1) * 2 ^ q.1 = p.2 * 2 ^ p.1 ∧ (p.2 + 1) * 2 ^ p.1 ≤ n)
    (fun q p hS hs => rd_join h hn62 q p hS.2 hs)
    (fun r q p hS hR hs => by
      obtain ⟨s1, s2, s3⟩ := sib_iff.1 hs
      obtain ⟨p1, p2⟩ := p
      obtain ⟨q1, q2⟩ := q
      simp only at s1 s2 s3 hS hR ⊢
      subst s1
      subst s3
      have c1 : (q2 + 1) / 2 * 2 ^ (q1 + 1) = q2 * 2 ^ q1 := by
        rw [Nat.pow_succ, Nat.mul_comm (2 ^ q1) 2, ← Nat.mul_assoc]
        congr 1
        omega
      have c2 : ((q2 + 1) / 2 + 1) * 2 ^ (q1 + 1) = (q2 + 1 + 1) * 2 ^ q1 := by
        rw [Nat.add_mul, c1, Nat.pow_succ, Nat.add_mul, Nat.add_mul]
        omega
      rw [c1, c2]
      exact ⟨hR.1, hS.2⟩)
    (parts b e).reverse (0, e)
    (fun q hq => by
      cases hst : (parts b e).reverse with
      | nil => rw [hst] at hq; cases hq
      | cons a st =>
        rw [hst] at hq hA
        simp at hq
        subst hq
        simp only [Nat.pow_zero, Nat.mul_one]
        exact ⟨hA.1, by omega⟩)
    (fun i q r h1 h2 => ⟨abutN_get _ _ i q r hA h1 h2, Nat.le_trans (abutN_le _ _ i q hA h1) (by omega)⟩)
  have kp := parts_put (e - b) b e 0 (Nat.le_refl _) hbe (by simp) hm
  rw [Nat.pow_zero, Nat.div_one] at kp
  unfold putL rps
  rw [← List.map_reverse, e0, key, ← List.map_reverse, kp]

set_option maxRecDepth 100000 in
set_option maxHeartbeats 400000 in
theorem app_ok (B g b e : Nat) (v : Value) (ps : List Pt) (d : List Int) (w : World) (hr : Rg w B g b e v ps) (hB : B ≤ w.heap.size) (hk : KT w) (hkg : 2 < g) (hkB : 2 < B) (hm : e + 1 ≤ 281474976710656) (hdl : d.length = 32) (hdb : isB d) :
    Calls Tryd.prog 15 #[.pointer (some ⟨g, 0, none⟩), .agg (u8s d).toArray] w fun r w' => ∃ v', r = .returned (.int .i64 0) ∧ Rg w' B g b (e + 1) v' (putL ps ((0, e), d)) ∧ Chs (Foot g v) w w' ∧ (∀ k, v'.ownBlock = some k → v.ownBlock = some k ∨ w.heap.size ≤ k) := by
  have HL := hide (show (u8s d).length = 32 by rw [u8s_length, hdl])
  have HA := hide (fun (w1 : World) (hb : Below w.heap.size w w1) => appN_ok B g b e 0 v ps d w1 (hr.below hb) (Nat.le_trans hB hb.size) (hk.below hb hk.lt) hkg hkB (by omega) (by simp) (by simpa using hm) hdl hdb)
  clear hr hk hB hdl hdb hm
  go_enter Tryd.func15, Tryd.ntmps15
  go_wp2_with (refine step_box rfl rfl ?_)
  intro w1 g1 hg1 hle1 hb1
  have HG := hide hg1
  clear hg1
  go_wp2_with (refine step_loadA wD rfl rfl HG.out HL.out ?_)
  refine (HA.out _ hb1).mono ?_
  rintro r w2 ⟨v', rfl, hr2, hc2, hn2⟩
  rw [Nat.pow_zero, Nat.div_one] at hr2
  have R2 := hide hr2
  clear hr2
  go_wp2
  go_ret
  exact ⟨v', rfl, R2.out, ((Chs.refl _ _).thenBelow hb1).trans hc2, fun k hk => (hn2 k hk).imp id (fun h => Nat.le_trans hb1.size h)⟩

end Go.Proofs.YthgfbcndoedacaaDoor

/-
  The law's ranged: the range of some leaves' digests.
-/
namespace Go.Proofs.YthgfbcndoedacaaDoor
open Go.RowKit Go.Shelf
set_option linter.unusedVariables false

theorem Rg.foot {w : World} {B g b e : Nat} {v : Value} {ps : List Pt} (h : Rg w B g b e v ps) (hg : B ≤ g) : ∀ k, k < B → ¬ Foot g v k := by
  rintro k hk (rfl | e1)
  · omega
  · have := (h.own.lt k e1).1
    omega
theorem Below.thenChs {S : Nat → Prop} {B : Nat} {a b c : World} (h : Below B a b) (k : Chs S b c) (hS : ∀ k, k < B → ¬ S k) (hB : B ≤ b.heap.size) : Below B a c := h.trans (k.below hS hB)

set_option maxRecDepth 100000 in
set_option maxHeartbeats 1000000 in
theorem ranged_any (a : Option Addr) (n cap b e : Nat) (B' E' : Int) (xs : List Int) (w : World) (hs : Ds w a n cap xs) (hB' : B' = (b : Int)) (hE' : E' = (e : Int)) (hbe : b ≤ e) (hen : e ≤ n) (hn : n ≤ 140737488355328) (hk : KT w) :
    Calls Tryd.prog 26 #[.slice a n cap, .agg #[.int .i64 B', .int .i64 E']] w fun r w' => ∃ g v, r = .returned (.pointer (some ⟨g, 0, none⟩)) ∧ Rg w' w.heap.size g b e v (rps xs b e) ∧ w.heap.size ≤ g ∧ Below w.heap.size w w' := by
  subst hB' hE'
  have HS := hide hs
  have HK := hide hk
  have hcap := hs.hcap
  clear hs hk
  go_enter Tryd.func26, Tryd.ntmps26
  go_wp2_with (refine step_box (cs := [.int .i64 (b : Int), .int .i64 (e : Int)]) rfl rfl ?_)
  intro w1 g3 hg3 hle3 hb1
  have G3 := hide hg3
  have c0 : w1.cell? ⟨g3, 0, none⟩ = some (.int .i64 (b : Int)) := by rw [hg3.cell]; rfl
  clear hg3
  go_wp2_with fail
  refine (new_ok (b : Int) _ (by omega) (by omega)).mono ?_
  rintro r w2 ⟨g, rfl, hg, hleg, hb2⟩
  have R2 : Hid (Rg w2 w.heap.size g b b (.slice none 0 0) (rps xs b b)) := hide ⟨hg, by unfold rps; rw [parts_nil (Nat.le_refl _)]; exact POwn.nil _ _, by unfold rps; rw [parts_nil (Nat.le_refl _)]; intro p hp; simp at hp, by unfold rps; simp [Function.comp_def], Nat.le_refl _, by omega⟩
  have G32 := hide (G3.out.below hb2 G3.out.lt)
  have HB2 := hide (hb1.trans (hb2.mono hb1.size))
  have hwg : w.heap.size ≤ g := Nat.le_trans hb1.size hleg
  have c02 : w2.cell? ⟨g3, 0, none⟩ = some (.int .i64 (b : Int)) := by rw [G32.out.cell]; rfl
  clear hg c0 hb1 hb2
  go_wp2_with fail
  go_loopw [7] (fun i wr => ∃ (m : Nat) (v : Value), b ≤ m ∧ m ≤ e ∧ i = .int .i64 (m : Int) ∧ Hid (Rg wr w.heap.size g b m v (rps xs b m)) ∧ Hid (Blk wr g3 51 [.int .i64 (b : Int), .int .i64 (e : Int)]) ∧ Hid (Below w.heap.size w wr)) (fun i _ => e - (intOf i).toNat)
  case atStart => exact ⟨b, .slice none 0 0, Nat.le_refl _, hbe, rfl, R2, G32, HB2⟩
  case round =>
    obtain ⟨m, v, hm1, hm2, rfl, R, G, HB⟩ := hrel
    clear R2 G32 HB2 c02
    have c1 : wr.cell? ⟨g3, 1, none⟩ = some (.int .i64 (e : Int)) := by rw [G.out.cell]; rfl
    by_cases hlt : m < e
    · have hlt' : (m : Int) < (e : Int) := by omega
      obtain ⟨bl, o, rfl⟩ := HS.out.place (by omega)
      have hat := d_at bl o n cap m (m : Int) rfl (by omega)
      have HDL := hide (dat_length HS.out.hlen (show m < n by omega))
      have HDB := hide (show isB (dat xs m) from (HS.out.hbyte.drop _).take _)
      have HRG := hide ((HS.out.below HB.out).range m (by omega))
      have HUL := hide (show (u8s (dat xs m)).length = 32 by rw [u8s_length, HDL.out])
      have hwm : IntKind.i64.wrap ((m : Int) + 1) = ((m + 1 : Nat) : Int) := by rw [IntKind.wrap_i64]; omega
      go_wp2_with (refine step_loadR wD rfl rfl _ HRG.out HUL.out ?_)
      refine (app_ok w.heap.size g b m v (rps xs b m) (dat xs m) _ R.out HB.out.size (HK.out.below HB.out HK.out.lt) (Nat.lt_of_lt_of_le HK.out.lt hwg) HK.out.lt (by omega) HDL.out HDB.out).mono ?_
      rintro r w5 ⟨v5, rfl, hr5, hc5, _⟩
      rw [rps_step HS.out.hlen hn hm1 (by omega)] at hr5
      have R5 := hide hr5
      have G5 := hide (G.out.chs hc5 (by
        rintro (e1 | e1)
        · exact (R.out.blk.apart G.out (by decide)) e1.symm
        · exact (R.out.own.apart G.out (by decide)) e1))
      have HB5 := hide (Below.thenChs HB.out hc5 (R.out.foot hwg) HB.out.size)
      clear hr5 hc5 c1
      go_wp2
      go_roundw
      case rel => exact ⟨m + 1, v5, by omega, by omega, by first | rfl | (rw [hwm]), R5, G5, HB5⟩
      case measure => simp [intOf]; omega
    · obtain rfl : m = e := by omega
      have hlt' : ¬ (m : Int) < (m : Int) := by omega
      go_wp2
      go_ret
      exact ⟨g, rfl, ⟨v, R.out⟩, hwg, HB.out⟩

end Go.Proofs.YthgfbcndoedacaaDoor

/-
  Steps of a walk inside a round of a range over a function.
-/
namespace Go.Proofs.YthgfbcndoedacaaDoor
open Go.RowKit Go.Shelf
set_option linter.unusedVariables false

/-- The fence that shuts nothing out, inside a round or not. -/
def WideF (F : Fence) : Prop := F = Fence.wide ∨ ∃ l, F = Fence.wide.inRound l
theorem WideF.wide : WideF Fence.wide := .inl rfl
theorem WideF.round (l : Nat) : WideF (Fence.wide.inRound l) := .inr ⟨l, rfl⟩
theorem WideF.fn {F : Fence} (h : WideF F) (f : FuncId) : F.fn f := by rcases h with rfl | ⟨l, rfl⟩ <;> trivial
theorem WideF.depth {F : Fence} (h : WideF F) : F.depth = none := by rcases h with rfl | ⟨l, rfl⟩ <;> rfl
theorem calls_round {F : Fence} {n : Nat} {P : Program} {f : FuncId} {args : Array Value} {w : World} {R : Ending → World → Prop} (hF : WideF F) (h : Calls P f args w R) : CallsIn F n P f args w R := by
  rcases hF with rfl | ⟨l, rfl⟩
  · exact (callsIn_wide (n := n)).2 h
  · exact (callsIn_wide (n := n)).2 h

/-- What an operation does inside a round is what it does everywhere. -/
theorem lift_op {F : Fence} {n : Nat} {P : Program} {o : Oper} {a : Act} {w : World} {K : Act → World → Prop} {Q : Exit → Act → World → Prop} (hF : WideF F) (hd : ∀ c, o.op ≠ .defer c) (h : Oper.wp P o a w K Q) : Oper.wpIn F n P o a w K Q := by
  refine ⟨fun f hf => hF.fn f, ?_⟩
  rw [Oper.semAt_plain _ _ _ hd]
  unfold Oper.wp at h
  cases hr : (execOp a.eval o).run P w with
  | ok r w' =>
    rw [hr] at h
    cases r with
    | enter f args => exact ⟨(fun hx => by rw [hF.depth] at hx; cases hx), calls_round hF h⟩
    | round => exact h.elim
    | row row args => 
      refine ⟨(fun hx => by rw [hF.depth] at hx; cases hx), ?_⟩
      rcases hF with rfl | ⟨l, rfl⟩
      · exact fun c cs _ => let ⟨v, w', r, s⟩ := h c cs; ⟨v, w', r, stepsIn_wide.2 s⟩
      · exact fun c cs _ => let ⟨v, w', r, s⟩ := h c cs; ⟨v, w', r, stepsIn_wide.2 s⟩
    | _ => exact h
  | halt x w' =>
    rw [hr] at h
    cases x <;> exact h

section
variable {F : Fence} {n : Nat} {dst : Option Tmp} {ty : TypeId} {pos : String} {aft : Array Edge} {gd : Option (Nat × Bool)} {ops : Array Oper} {rest : List Oper} {a : Act} {w : World} {Q : Exit → Act → World → Prop}
theorem istep {P : Program} {o : Oper} (hF : WideF F) (hd : ∀ c, o.op ≠ .defer c) (hw : Region.wanted o (yielded ops a.tmps) = true)
    (h : ∀ K : Act → World → Prop, (∀ a w, wpListIn F n P ops Q rest a w → K a w) → Oper.wp P o a w K Q) : wpListIn F n P ops Q (o :: rest) a w :=
  BigFrame.wpListIn_want hw fun K hK => lift_op hF hd (h K hK)
theorem istep_run {P : Program} {o : Oper} (hF : WideF F) (hd : ∀ c, o.op ≠ .defer c) (hw : Region.wanted o (yielded ops a.tmps) = true) (v : Value) (w' : World) (hrun : (execOp a.eval o).run P w = .ok (.value v) w')
    (h : wpListIn F n P ops Q rest (a.put o.dst v) w') : wpListIn F n P ops Q (o :: rest) a w :=
  istep hF hd hw fun K hK => by
    unfold Oper.wp
    rw [hrun, Oper.upon_value]
    exact hK _ _ h
theorem istep_alloc (hF : WideF F) {T : TypeId} {cs : List Value} (hz : Zeroed T cs) (hw : Region.wanted ⟨dst, .alloc T, ty, pos, aft, gd⟩ (yielded ops a.tmps) = true)
    (h : ∀ w1 g, Blk w1 g T cs → w.heap.size ≤ g → Below w.heap.size w w1 → wpListIn F n Tryd.prog ops Q rest (a.put dst (.pointer (some ⟨g, 0, none⟩))) w1) :
    wpListIn F n Tryd.prog ops Q (⟨dst, .alloc T, ty, pos, aft, gd⟩ :: rest) a w :=
  istep_run hF (fun c => by simp) hw _ _ (hz a.eval dst ty pos aft gd w) (h _ _ (Blk.made _ _ _) (Nat.le_refl _) ((Below.refl _ _).alloc (Nat.le_refl _) _))
theorem istep_load (hF : WideF F) {T : TypeId} {k : Nat} (hT : Wide T k) {x : Operand} (hw : Region.wanted ⟨dst, .load T x, ty, pos, aft, gd⟩ (yielded ops a.tmps) = true) {g off : Nat} {t : TypeId} {cs : List Value} (hx : a.eval x = .pointer (some ⟨g, off, none⟩)) (hg : Blk w g t cs)
    (vs : List Value) (hn : vs.length = k) (he : (cs.drop off).take k = vs) (h : wpListIn F n Tryd.prog ops Q rest (a.put dst (.agg vs.toArray)) w) :
    wpListIn F n Tryd.prog ops Q (⟨dst, .load T x, ty, pos, aft, gd⟩ :: rest) a w :=
  istep hF (fun c => by simp) hw fun _ hK => wp_loadW hT rfl hx hg vs hn he (hK _ _ h)
theorem istep_loadA (hF : WideF F) {T : TypeId} {k : Nat} (hT : Wide T k) {x : Operand} (hw : Region.wanted ⟨dst, .load T x, ty, pos, aft, gd⟩ (yielded ops a.tmps) = true) {g : Nat} {t : TypeId} {cs : List Value} (hx : a.eval x = .pointer (some ⟨g, 0, none⟩)) (hg : Blk w g t cs)
    (hn : cs.length = k) (h : wpListIn F n Tryd.prog ops Q rest (a.put dst (.agg cs.toArray)) w) :
    wpListIn F n Tryd.prog ops Q (⟨dst, .load T x, ty, pos, aft, gd⟩ :: rest) a w :=
  istep_load hF hT hw hx hg cs hn (by rw [List.drop_zero, List.take_of_length_le (by omega)]) h
theorem istep_storeA (hF : WideF F) {T : TypeId} {k : Nat} (hT : Wide T k) {x y : Operand} (hw : Region.wanted ⟨dst, .store T x y, ty, pos, aft, gd⟩ (yielded ops a.tmps) = true) {g : Nat} {t : TypeId} {cs vs : List Value} (hx : a.eval x = .pointer (some ⟨g, 0, none⟩)) (hy : a.eval y = .agg vs.toArray) (hg : Blk w g t cs)
    (hn : vs.length = k) (h1 : One vs) (hl : cs.length = k) (h : ∀ w1, Blk w1 g t vs → But g w w1 → wpListIn F n Tryd.prog ops Q rest (a.put dst undef) w1) :
    wpListIn F n Tryd.prog ops Q (⟨dst, .store T x y, ty, pos, aft, gd⟩ :: rest) a w :=
  istep hF (fun c => by simp) hw fun _ hK => wp_storeW hT rfl hx hy hg hn h1 (by omega) fun w1 hb hbut => hK _ _ (h w1 (by
    have e : spl cs vs 0 = vs := by
      unfold spl
      rw [List.drop_of_length_le (by omega)]
      simp
    rwa [e] at hb) hbut)
theorem istep_loadR (hF : WideF F) {T : TypeId} {k : Nat} (hT : Wide T k) {x : Operand} (hw : Region.wanted ⟨dst, .load T x, ty, pos, aft, gd⟩ (yielded ops a.tmps) = true) {g off : Nat} (hx : a.eval x = .pointer (some ⟨g, off, none⟩))
    (vs : List Value) (hr : w.rangeAt g off vs) (hn : vs.length = k) (h : wpListIn F n Tryd.prog ops Q rest (a.put dst (.agg vs.toArray)) w) :
    wpListIn F n Tryd.prog ops Q (⟨dst, .load T x, ty, pos, aft, gd⟩ :: rest) a w := by
  refine istep hF (fun c => by simp) hw fun _ hK => ?_
  obtain ⟨d, hu, hd⟩ := hT.und
  subst hn
  exact wp_load_mid T x rfl g off hx vs d hr hu hd hT.size (hK _ _ h)
end

end Go.Proofs.YthgfbcndoedacaaDoor

/-
  slices.Clone of a range's parts; the iterator of a range that is made.
-/
namespace Go.Proofs.YthgfbcndoedacaaDoor
open Go.RowKit Go.Shelf
set_option linter.unusedVariables false

theorem pown_empty (w : World) : POwn (w.alloc (.cells #[] 75)) w.heap.size (.slice (some ⟨w.heap.size, 0, none⟩) 0 0) [] :=
  ⟨by simp [pcs], .inr ⟨w.heap.size, 0, #[], rfl, Nat.le_refl _, Blk.made w 75 [], Nat.le_refl _, by unfold maxLen; omega, by simp, by simp [pcs]⟩⟩
theorem step_appendPs {dst : Option Tmp} {s x : Operand} {ty : TypeId} {pos : String} {aft : Array Edge} {gd : Option (Nat × Bool)} {ops : Array Oper} {rest : List Oper} {a : Act} {w : World} {Q : Exit → Act → World → Prop}
    {B : Nat} {v : Value} {g c : Nat} {ps : List Pt} {cs : List Value}
    (hw : Region.wanted ⟨dst, .call { callee := .builtin .append, args := #[s, x], argTypes := #[52, 52] }, ty, pos, aft, gd⟩ (yielded ops a.tmps) = true)
    (hs : a.eval s = v) (hx : a.eval x = .slice (some ⟨g, 0, none⟩) ps.length c) (hown : POwn w B v []) (hgl : GoodL ps) (hy : Blk w g 75 cs) (ht : cs.take (ps.length * 34) = pcs ps) (hlen : ps.length ≤ 1048576) (hB : B ≤ w.heap.size)
    (h : ∀ v' w', POwn w' B v' ps → w.grownBy w' v.ownBlock → wpList Tryd.prog ops Q rest (a.put dst v') w') :
    wpList Tryd.prog ops Q (⟨dst, .call { callee := .builtin .append, args := #[s, x], argTypes := #[52, 52] }, ty, pos, aft, gd⟩ :: rest) a w := by
  obtain ⟨i0, hi, hz0, hz1, hz2⟩ := info_parts infoP
  refine BigFrame.wpList_want hw fun K hK => ?_
  refine wp_append_own _ s x 52 rfl B 75 i0 (.agg pz.toArray) 34 48 undPl hi hz0 hz1 hz2 rfl (by decide) v _ _ hs hown ⟨g, 0, none⟩ ps.length c (pcs ps) hx (pcs_length hgl) ?_ ?_ (by unfold maxLen; simp; omega) (by simp; omega) hB ?_
  · intro j u hu
    rw [Addr.add_lit, Nat.zero_add, hy.cell]
    rw [← ht, List.getElem?_take] at hu
    split at hu
    · exact hu
    · cases hu
  · intro u hu
    simp only [pcs, List.mem_flatMap] at hu
    obtain ⟨p, _, hp⟩ := hu
    exact One.pc p u hp
  · intro v' w' h1 h2 _
    refine hK _ _ (h v' w' ?_ h2)
    unfold POwn
    have e0 : ([] : List Pt).length + ps.length = ps.length := by simp
    rw [e0] at h1
    simpa [pcs] using h1

set_option maxRecDepth 100000 in
theorem clone_any (B : Nat) (v : Value) (ps : List Pt) (w : World) (ho : POwn w B v ps) (hgl : GoodL ps) (hl : ps.length ≤ 1000) : Calls Tryd.prog 31 #[v] w fun r w' => ∃ v', r = .returned v' ∧ POwn w' w.heap.size v' ps ∧ Below w.heap.size w w' := by
  rcases ho.lies with ⟨rfl, rfl⟩ | ⟨g, cap, cs, rfl, hB, hb, hc, hm, hcl, ht⟩
  · have heq : ∀ u : World, (binOp BinOp.eql 52 (.slice none 0 0) (.slice none 0 0)).run Tryd.prog u = .ok (.bool true) u := fun u => by kernel_rfl
    go_enter Tryd.func31, Tryd.ntmps31
    go_wp2
    go_ret
    exact ⟨_, rfl, POwn.nil _ _, Below.refl _ _⟩
  · have HB := hide hb
    have HT := hide ht
    have HGL := hide hgl
    clear ho hb ht hgl
    have heq : ∀ u : World, (binOp BinOp.eql 52 (.slice (some ⟨g, 0, none⟩) ps.length cap) (.slice none 0 0)).run Tryd.prog u = .ok (.bool false) u := fun u => by kernel_rfl
    go_enter Tryd.func31, Tryd.ntmps31
    go_wp2_with (refine step_appendPs rfl rfl rfl (pown_empty _) HGL.out (HB.out.below ((Below.refl _ _).alloc (Nat.le_refl _) _) HB.out.lt) HT.out (by omega) (by simp) ?_)
    intro v5 w5 ho5 hg5
    have hb5 : Below w.heap.size w w5 := ((Below.refl _ w).alloc (Nat.le_refl _) _).trans (Below.of_grown hg5 (by simp) (fun k hk => by
      have hk' : some w.heap.size = some k := hk
      injection hk' with hk'
      omega))
    go_wp2
    go_ret
    exact ⟨_, rfl, ho5, hb5⟩

/-- What a loop's body may turn: blocks of its own (M), and new ones. -/
structure KM (M : World → Nat → Prop) (A B : World) : Prop where
  size : A.heap.size ≤ B.heap.size
  keep : ∀ k o, A.heap[k]? = some o → o.isCells = true → ¬ M A k → B.heap[k]? = some o
  mine : ∀ k, k < A.heap.size → M B k → M A k
theorem KM.trans {M : World → Nat → Prop} {A B C : World} (h : KM M A B) (k : KM M B C) : KM M A C :=
  ⟨Nat.le_trans h.size k.size, fun i o hi ho hm => k.keep i o (h.keep i o hi ho hm) ho (fun hb => hm (h.mine i (Array.getElem?_eq_some_iff.1 hi).1 hb)), fun i hi hm => h.mine i hi (k.mine i (Nat.lt_of_lt_of_le hi h.size) hm)⟩
/-- Blocks that are told by what lay there at the loop's beginning. -/
structure Mine (n₀ : Nat) (M : World → Nat → Prop) : Prop where
  lt : ∀ A k, M A k → k < A.heap.size
  below : ∀ A B, n₀ ≤ A.heap.size → Below A.heap.size A B → ∀ k, M B k → M A k
  put : ∀ A l o, n₀ ≤ l → l < A.heap.size → ∀ k, M (A.putObj l o) k → M A k
theorem KM.book {n₀ : Nat} {M : World → Nat → Prop} (hM : Mine n₀ M) {w : World} (hn : n₀ ≤ w.heap.size) (W : World) (l : Nat) (o o' : Obj) (hl : w.heap.size ≤ l) (h : W.heap[l]? = some o) (hc : o.isCells = false) (_ : o.isWalk = false) : KM M W (W.putObj l o') :=
  ⟨(grownBy_putObj' W l o').size, fun k q hk hq _ => by
    have hne : k ≠ l := fun e => by
      subst e
      rw [h] at hk
      injection hk with hk
      subst hk
      rw [hc] at hq
      cases hq
    rw [World.putObj_heap_other hne]
    exact hk, fun k _ hm => hM.put W l o' (Nat.le_trans hn hl) (Array.getElem?_eq_some_iff.1 h).1 k hm⟩
/-- One block. -/
theorem Mine.one {n₀ g : Nat} (h : g < n₀) : Mine n₀ (fun A k => k = g ∧ k < A.heap.size) :=
  ⟨fun A k hm => hm.2, fun A B hn _ k hm => ⟨hm.1, by have := hm.1; omega⟩, fun A l o hl hlt k hm => ⟨hm.1, by have := hm.1; omega⟩⟩
theorem km_below {n₀ : Nat} {M : World → Nat → Prop} (hM : Mine n₀ M) {A B : World} (hn : n₀ ≤ A.heap.size) (h : Below A.heap.size A B) : KM M A B :=
  ⟨h.size, fun k o hk _ _ => (h.block k (Array.getElem?_eq_some_iff.1 hk).1).trans hk, fun k _ hm => hM.below A B hn h k hm⟩
theorem km_one {g : Nat} {A B : World} (h : But g A B) (hlt : g < A.heap.size) : KM (fun A k => k = g ∧ k < A.heap.size) A B :=
  ⟨Nat.le_of_eq h.size.symm, fun k o hk _ hm => (h.block k (fun e => hm ⟨e, by omega⟩)).trans hk, fun k hk hm => ⟨hm.1, hk⟩⟩
theorem keepsO_below {A B : World} (h : Below A.heap.size A B) : KeepsOthers A B := ⟨h.size, fun k o hk _ => (h.block k (Array.getElem?_eq_some_iff.1 hk).1).trans hk⟩
theorem keepsO_but {g : Nat} {t : TypeId} {cs : List Value} {A B : World} (h : But g A B) (hg : Blk A g t cs) : KeepsOthers A B := ⟨Nat.le_of_eq h.size.symm, fun k o hk hc => (h.block k (fun e => by
  subst e
  rw [hg] at hk
  injection hk with hk
  subst hk
  cases hc)).trans hk⟩
theorem grown_none {A B : World} (h : Below A.heap.size A B) : A.grownBy B none := ⟨h.os, h.tape, h.output, h.size, fun k hk _ => h.block k hk⟩

/-- The i-th part, or any that is good. -/
def pG (ps : List Pt) (i : Nat) : Pt := if i < ps.length then pAt ps i else ((49, 0), zer 32)
theorem pG_good {ps : List Pt} (h : GoodL ps) (i : Nat) : Good (pG ps i) := by
  unfold pG
  split
  · rename_i hi; exact pAt_good h hi
  · exact ⟨zer_length 32, zer_isB 32, by simp, by simp⟩
theorem meas_lt {k n : Nat} (h : k < n) : n - (intOf (.int .i64 ((k : Int) + 1))).toNat < n - (intOf (.int .i64 (k : Int))).toNat := by
  simp only [intOf]
  omega
theorem range_pre {k n : Nat} (h : k ≤ n) : List.range k <+: List.range n := by
  obtain ⟨d, rfl⟩ : ∃ d, n = k + d := ⟨n - k, by omega⟩
  rw [List.range_add]
  exact List.prefix_append _ _
/-- The clone that the iterator goes through. -/
def CL (M : World → Nat → Prop) (a : Option Addr) (ps : List Pt) (W : World) : Prop := ps = [] ∨ ∃ c cs, a = some ⟨c, 0, none⟩ ∧ Blk W c 75 cs ∧ cs.take (ps.length * 34) = pcs ps ∧ ¬ M W c

set_option maxRecDepth 100000 in
set_option maxHeartbeats 1000000 in
theorem all_stops (B g b e : Nat) (v : Value) (ps : List Pt) (Bs n₀ : Nat) (w : World) (hB : Bs < n₀) (hn0 : n₀ ≤ w.heap.size) (hBs : w.cell? ⟨Bs, 0, none⟩ = some (.pointer (some ⟨g, 0, none⟩))) (hr : Rg w B g b e v ps) (M : World → Nat → Prop) (hM : Mine n₀ M) :
    SeqStopsK Fence.wide 2 Tryd.prog 41 #[.pointer (some ⟨Bs, 0, none⟩)] (fun i : Nat => #[Value.agg (nC (pG ps i).1).toArray, Value.agg (u8s (pG ps i).2).toArray]) (KM M) (fun xs => xs = List.range ps.length) (fun pre => pre <+: List.range ps.length) ps.length w := by
  intro l J Jx W hW hJ hJx hY h0
  have hc : W.cell? ⟨Bs, 0, none⟩ = some (.pointer (some ⟨g, 0, none⟩)) := cell_below hBs hW
  have HR := hide (hr.below hW)
  have c0 : W.cell? ⟨g, 0, none⟩ = some (.bool true) := by rw [HR.out.blk.cell]; rfl
  have hwW := hW.size
  obtain ⟨a0, n0, q0, rfl⟩ : ∃ a n c, v = Value.slice a n c := by rcases hr.own.lies with ⟨rfl, _⟩ | ⟨_, _, _, rfl, _⟩ <;> exact ⟨_, _, _, rfl⟩
  have c3 : W.cell? ⟨g, 3, none⟩ = some (.slice a0 n0 q0) := by rw [HR.out.blk.cell]; rfl
  clear hr hBs hW
  refine callsIn_of_wp Tryd.func41 rfl trivial ?_ rfl
  simp only [Tryd.ntmps41, List.size_toArray, List.length_cons, List.length_nil, Nat.reduceAdd, Nat.reduceSub, Array.replicate_succ, Array.replicate_zero, List.push_toArray, List.append_toArray, List.nil_append, List.cons_append]
  gi_wp2_with fail
  refine ⟨trivial, (callsIn_wide.2 (made_is _ _ c0)).mono ?_⟩
  rintro r w' ⟨rfl, rfl⟩
  gi_wp2_with fail
  refine ⟨trivial, (callsIn_wide.2 (clone_any B _ ps _ HR.out.own HR.out.good (by have := HR.out.count; omega))).mono ?_⟩
  rintro r W1 ⟨v1, rfl, ho1, hb1⟩
  obtain ⟨a1, q1, rfl, hcl⟩ : ∃ a q, v1 = Value.slice a ps.length q ∧ CL M a ps W1 := by
    rcases ho1.lies with ⟨rfl, rfl⟩ | ⟨c, q, cs, rfl, hcB, hb, _, _, _, ht⟩
    · exact ⟨none, 0, rfl, .inl rfl⟩
    · exact ⟨_, q, rfl, .inr ⟨c, cs, rfl, hb, ht, fun hm => by
        have := hM.lt _ _ (hM.below W W1 (Nat.le_trans hn0 hwW) hb1 c hm)
        omega⟩⟩
  have HJ0 := hide (hJ [] W W1 none h0 (grown_none hb1) (fun r e => by cases e))
  have HCL := hide hcl
  have hnW1 : n₀ ≤ W1.heap.size := Nat.le_trans (Nat.le_trans hn0 hwW) hb1.size
  have HN := hide HR.out.count
  have HGL := hide HR.out.good
  obtain ⟨dP, huP, hdP⟩ := wP.und
  clear ho1 hb1 hcl c0 c3 hc HR h0
  gi_wp2_with fail
  gi_loopw [14] (fun i wr => ∃ k : Nat, k ≤ ps.length ∧ i = .int .i64 (k : Int) ∧ Hid (J (List.range k) wr) ∧ Hid (CL M a1 ps wr) ∧ n₀ ≤ wr.heap.size) (fun i _ => ps.length - (intOf i).toNat)
  case atStart => exact ⟨0, Nat.zero_le _, rfl, HJ0, HCL, hnW1⟩
  case round =>
    obtain ⟨k, hk, rfl, HJ, HC, hnr⟩ := hrel
    clear HJ0 HCL hnW1
    by_cases hlt : k < ps.length
    · have hlt' : (k : Int) < (ps.length : Int) := by omega
      obtain ⟨c, cs, rfl, hcb, hct, hcm⟩ : ∃ c cs, a1 = some ⟨c, 0, none⟩ ∧ Blk wr c 75 cs ∧ cs.take (ps.length * 34) = pcs ps ∧ ¬ M wr c := by
        rcases HC.out with e0 | h
        · subst e0; simp at hlt
        · exact h
      have HCB := hide hcb
      have HCT := hide hct
      have HCM := hide hcm
      have HPG := hide (pAt_good HGL.out hlt)
      have HPL := hide (pc_length HPG.out)
      have hix := p_at c ps.length q1 k (k : Int) rfl hlt
      have HRA : Hid (wr.rangeAt c (k * 34) (pc (pAt ps k))) := hide (hcb.range _ _ (by
        have hpa := pcs_at HGL.out hlt
        rw [← hct, List.drop_take, List.take_take] at hpa
        rw [HPL.out, ← hpa]
        congr 1
        have : (k + 1) * 34 ≤ ps.length * 34 := Nat.mul_le_mul_right 34 hlt
        omega))
      have EG : Hid (pG ps k = pAt ps k) := hide (by unfold pG; rw [if_pos hlt])
      clear hcb hct hcm HC
      gi_wp2_with (first | (refine istep_loadR .wide wP rfl rfl _ HRA.out HPL.out ?_) | (refine istep_alloc .wide zP rfl ?_))
      intro W2 g4 hg4 hle4 hb4
      gi_wp2_with (refine istep_storeA .wide wP rfl rfl rfl hg4 HPL.out (One.pc _) rfl ?_)
      intro W3 hg43 hbut
      have hb3 : Below wr.heap.size wr W3 := hb4.trans (hbut.below hle4)
      have HB3 := hide hb3
      have G4 := hide hg43
      have HJ3 := hide (hJ _ wr W3 none HJ.out (grown_none hb3) (fun r e => by cases e))
      clear hg4 hb4 hbut hg43 hb3
      have HDLk := hide (show (u8s (pAt ps k).2).length = 32 by rw [u8s_length, HPG.out.len])
      obtain ⟨fn, tmps, assign, body, hy, hR⟩ := hY (List.range k) k W3 HJ3.out (by rw [List.length_range]; exact hlt)
      simp only [EG.out] at hy
      have hwm : wrap64 ((k : Int) + 1) = (k : Int) + 1 := by unfold wrap64; have := HN.out; omega
      have HC3 : Hid (Blk W3 c 75 cs ∧ ¬ M W3 c) := hide ⟨HCB.out.below HB3.out HCB.out.lt, fun hm => HCM.out (hM.below wr W3 hnr HB3.out c hm)⟩
      gi_wp2_with (first | (refine istep_load .wide wNd rfl rfl G4.out (nC (pAt ps k).1) rfl rfl ?_) | (refine istep_load .wide wD rfl rfl G4.out (u8s (pAt ps k).2) HDLk.out (by exact List.take_of_length_le (by rw [show (pc (pAt ps k)).drop 2 = u8s (pAt ps k).2 from rfl, HDLk.out]; omega)) ?_))
      refine hR.mono ?_
      rintro r W4 (⟨rfl, hJ4, hk4⟩ | ⟨rfl, hJx4⟩)
      · have HJ4 := hide (show J (List.range (k + 1)) W4 by rw [List.range_succ]; exact hJ4)
        have HC4 : Hid (CL M (some ⟨c, 0, none⟩) ps W4) := hide (.inr ⟨c, cs, rfl, hk4.keep c _ HC3.out.1 rfl HC3.out.2, HCT.out, fun hm => HC3.out.2 (hk4.mine c HC3.out.1.lt hm)⟩)
        have hn4 : n₀ ≤ W4.heap.size := Nat.le_trans hnr (Nat.le_trans HB3.out.size hk4.size)
        clear hJ4 hk4
        gi_wp2
        go_roundw
        case rel => exact ⟨k + 1, by omega, by first | rfl | go_num, HJ4, HC4, hn4⟩
        case measure => rw [hwm]; exact meas_lt hlt
      · have HJx4 := hide hJx4
        clear hJx4
        gi_wp2
        refine bodyPost_ret (results_none rfl _ _ _) rfl ?_
        exact ⟨⟨_, rfl⟩, .inr ⟨_, by rw [← List.range_succ]; exact range_pre (by omega), HJx4.out⟩⟩
    · obtain rfl : k = ps.length := by omega
      have hlt' : ¬ ((ps.length : Int) < (ps.length : Int)) := by omega
      gi_wp2
      go_end0
      exact ⟨⟨_, rfl⟩, .inl HJ.out⟩

end Go.Proofs.YthgfbcndoedacaaDoor

/-
  A range over a function whose variables lie in blocks of their own.
-/
namespace Go.Proofs.YthgfbcndoedacaaDoor
open Go.RowKit Go.Shelf
set_option linter.unusedVariables false

theorem Blk.kept {A B : World} {g : Nat} {t : TypeId} {cs : List Value} {row : Option Nat} (h : Blk A g t cs) (hg : A.grownBy B row) (hr : ∀ r, row = some r → ∃ o : Obj, A.heap[r]? = some o ∧ o.isCells = false) : Blk B g t cs := by
  have e : B.heap[g]? = A.heap[g]? := hg.block g h.lt (fun e => by
    obtain ⟨o, ho, hc⟩ := hr g e.symm
    rw [h] at ho
    injection ho with ho
    subst ho
    cases hc)
  unfold Blk
  rw [e]
  exact h
theorem KT.kept {A B : World} {row : Option Nat} (h : KT A) (hg : A.grownBy B row) (hr : ∀ r, row = some r → 2 < r) : KT B := fun i hi => by
  rw [World.cell?_of_block (w := A) (hg.block 2 h.lt (fun e => by have := hr _ e.symm; omega))]
  exact h i hi

theorem range1 {F : Fence} {n : Nat} {P : Program} {α : Type} {g : Operand} {ps : Array Tmp} {assign body : Code} {Q : Exit → Act → World → Prop} {a : Act} {w : World}
    (hro : F.round = none) (h1 : 1 ≤ n) {gf : Nat} {lb : Array Value} (hg : a.eval g = .func (.func gf) #[] lb) (hFg : F.fn gf) (eg : ∀ args w, (callFunc gf args).run P w = .ok (.enter gf args) w)
    {encs : α → Array Value} {Kp : World → World → Prop} {S Sp : List α → Prop} {N : Nat} (hseq : SeqStopsK F (n - 1) P gf lb encs Kp S Sp N w)
    (hKt : ∀ {A B C : World}, Kp A B → Kp B C → Kp A C) (hKb : ∀ (W : World) (l : Nat) (o o' : Obj), w.heap.size ≤ l → W.heap[l]? = some o → o.isCells = false → o.isWalk = false → Kp W (W.putObj l o')) (hKs : ∀ A B, w.heap.size ≤ A.heap.size → Below A.heap.size A B → Kp A B) (hps : ∀ x, (encs x).size = ps.size)
    (I : List α → World → Prop) (Ix : Code → List α → World → Prop) (hI : OwnFrom w.heap.size I) (hIs : ∀ pre A, I pre A → w.heap.size ≤ A.heap.size) (hIx : ∀ c, OwnFrom w.heap.size (Ix c)) (h0 : I [] w) (t1 : TypeId) (c1 : α → List Value) (a₁ : α → Nat → Act)
    (hassign : ∀ (l : Nat) (x : α) (W : World) (K : Act → World → Prop), (∀ g1 W', Below W.heap.size W W' → Blk W' g1 t1 (c1 x) → K (a₁ x g1) W') →
      assign.wpIn (F.inRound l) (n - 1 - 1) P (Exit.then K (fun _ _ _ => False)) { tmps := (ps.zip (encs x)).foldl (fun t (p, v) => t.setIfInBounds p v) a.tmps, defers := [] } W)
    (hbody : ∀ (l : Nat) (pre : List α) (x : α) (g1 : Nat) (W : World), I pre W → Blk W g1 t1 (c1 x) → pre.length < N → body.wpIn (F.inRound l) (n - 1 - 1) P (ownPostG w.heap.size Kp I Ix (pre ++ [x]) W) (a₁ x g1) W)
    (hdone : ∀ (D : Nat) (xs : List α) (W : World), w.heap.size ≤ D → S xs → I xs W → W.heap[D]? = some (.deferred (some [])) → Q .normal { a with defers := { target := .collected D, args := #[] } :: a.defers } W)
    (hstop : ∀ (D : Nat) (c : Code) (pre : List α) (W : World), w.heap.size ≤ D → Sp pre → Ix c pre W → W.heap[D]? = some (.deferred (some [])) → c.wpIn F n P Q { a with defers := { target := .collected D, args := #[] } :: a.defers } W) :
    (Code.rangeFunc g ps assign body).wpIn F n P Q a w :=
  wpIn_rangeFunc_ownH hro h1 hg hFg eg hseq (fun h k => hKt h k) hKb (Below.refl _ _) hps I Ix hI hIx h0 (fun x a' W => ∃ g1, a' = a₁ x g1 ∧ Blk W g1 t1 (c1 x))
    (fun x a' _ A B row h hg hr => by obtain ⟨g1, e1, b1⟩ := h; exact ⟨g1, e1, b1.kept hg (fun r e => (hr r e).2)⟩)
    (fun l pre x W K hi hK => hassign l x W K fun g1 W' hb b1 => hK _ _ ((keepsO_below hb).from _) (hKs _ _ (hIs _ _ hi) hb) (hI _ _ _ none hi (grown_none hb) (fun r e => by cases e)) ⟨g1, rfl, b1⟩)
    (fun l pre x a' W _ _ hi ha hl => by obtain ⟨g1, rfl, b1⟩ := ha; exact hbody l pre x g1 W hi b1 hl) hdone hstop

theorem range2 {F : Fence} {n : Nat} {P : Program} {α : Type} {g : Operand} {ps : Array Tmp} {assign body : Code} {Q : Exit → Act → World → Prop} {a : Act} {w : World}
    (hro : F.round = none) (h1 : 1 ≤ n) {gf : Nat} {lb : Array Value} (hg : a.eval g = .func (.func gf) #[] lb) (hFg : F.fn gf) (eg : ∀ args w, (callFunc gf args).run P w = .ok (.enter gf args) w)
    {encs : α → Array Value} {Kp : World → World → Prop} {S Sp : List α → Prop} {N : Nat} (hseq : SeqStopsK F (n - 1) P gf lb encs Kp S Sp N w)
    (hKt : ∀ {A B C : World}, Kp A B → Kp B C → Kp A C) (hKb : ∀ (W : World) (l : Nat) (o o' : Obj), w.heap.size ≤ l → W.heap[l]? = some o → o.isCells = false → o.isWalk = false → Kp W (W.putObj l o')) (hKs : ∀ A B, w.heap.size ≤ A.heap.size → Below A.heap.size A B → Kp A B) (hps : ∀ x, (encs x).size = ps.size)
    (I : List α → World → Prop) (Ix : Code → List α → World → Prop) (hI : OwnFrom w.heap.size I) (hIs : ∀ pre A, I pre A → w.heap.size ≤ A.heap.size) (hIx : ∀ c, OwnFrom w.heap.size (Ix c)) (h0 : I [] w) (t1 t2 : TypeId) (c1 c2 : α → List Value) (a₁ : α → Nat → Nat → Act)
    (hassign : ∀ (l : Nat) (x : α) (W : World) (K : Act → World → Prop), (∀ g1 g2 W', Below W.heap.size W W' → Blk W' g1 t1 (c1 x) → Blk W' g2 t2 (c2 x) → K (a₁ x g1 g2) W') →
      assign.wpIn (F.inRound l) (n - 1 - 1) P (Exit.then K (fun _ _ _ => False)) { tmps := (ps.zip (encs x)).foldl (fun t (p, v) => t.setIfInBounds p v) a.tmps, defers := [] } W)
    (hbody : ∀ (l : Nat) (pre : List α) (x : α) (g1 g2 : Nat) (W : World), I pre W → Blk W g1 t1 (c1 x) → Blk W g2 t2 (c2 x) → pre.length < N → body.wpIn (F.inRound l) (n - 1 - 1) P (ownPostG w.heap.size Kp I Ix (pre ++ [x]) W) (a₁ x g1 g2) W)
    (hdone : ∀ (D : Nat) (xs : List α) (W : World), w.heap.size ≤ D → S xs → I xs W → W.heap[D]? = some (.deferred (some [])) → Q .normal { a with defers := { target := .collected D, args := #[] } :: a.defers } W)
    (hstop : ∀ (D : Nat) (c : Code) (pre : List α) (W : World), w.heap.size ≤ D → Sp pre → Ix c pre W → W.heap[D]? = some (.deferred (some [])) → c.wpIn F n P Q { a with defers := { target := .collected D, args := #[] } :: a.defers } W) :
    (Code.rangeFunc g ps assign body).wpIn F n P Q a w :=
  wpIn_rangeFunc_ownH hro h1 hg hFg eg hseq (fun h k => hKt h k) hKb (Below.refl _ _) hps I Ix hI hIx h0 (fun x a' W => ∃ g1 g2, a' = a₁ x g1 g2 ∧ Blk W g1 t1 (c1 x) ∧ Blk W g2 t2 (c2 x))
    (fun x a' _ A B row h hg hr => by obtain ⟨g1, g2, e1, b1, b2⟩ := h; exact ⟨g1, g2, e1, b1.kept hg (fun r e => (hr r e).2), b2.kept hg (fun r e => (hr r e).2)⟩)
    (fun l pre x W K hi hK => hassign l x W K fun g1 g2 W' hb b1 b2 => hK _ _ ((keepsO_below hb).from _) (hKs _ _ (hIs _ _ hi) hb) (hI _ _ _ none hi (grown_none hb) (fun r e => by cases e)) ⟨g1, g2, rfl, b1, b2⟩)
    (fun l pre x a' W _ _ hi ha hl => by obtain ⟨g1, g2, rfl, b1, b2⟩ := ha; exact hbody l pre x g1 g2 W hi b1 b2 hl) hdone hstop

end Go.Proofs.YthgfbcndoedacaaDoor
