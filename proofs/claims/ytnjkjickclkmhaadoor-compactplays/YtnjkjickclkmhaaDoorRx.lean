/-
  A range in memory; AppendNode and Append where they take what they are given.
-/
import Derived.Test.YtnjkjickclkmhaaDoorRu
namespace Go.Proofs.YtnjkjickclkmhaaDoor
open Go.RowKit Go.Shelf
set_option linter.unusedVariables false

/-- What belongs to a range. -/
def Foot (g : Nat) (v : Value) : Nat → Prop := fun k => k = g ∨ v.ownBlock = some k
/-- A range in memory: at g, its parts in v. -/
structure Rg (w : World) (B g b e : Nat) (v : Value) (ps : List Pt) : Prop where
  blk : Blk w g 54 (rgC b e v)
  own : POwn w B v ps
  good : GoodL ps
  nodes : ps.map Prod.fst = parts b e
  le : b ≤ e
  max : e ≤ 281474976710656
theorem Rg.below {w w' : World} {B g b e : Nat} {v : Value} {ps : List Pt} (h : Rg w B g b e v ps) (hb : Below w.heap.size w w') : Rg w' B g b e v ps := ⟨h.blk.below hb h.blk.lt, h.own.below hb, h.good, h.nodes, h.le, h.max⟩
theorem Rg.chs {S : Nat → Prop} {w w' : World} {B g b e : Nat} {v : Value} {ps : List Pt} (h : Rg w B g b e v ps) (hc : Chs S w w') (hS : ∀ k, Foot g v k → ¬ S k) : Rg w' B g b e v ps :=
  ⟨h.blk.chs hc (hS g (.inl rfl)), h.own.chs hc (fun k hk => hS k (.inr hk)), h.good, h.nodes, h.le, h.max⟩
theorem Rg.count {w : World} {B g b e : Nat} {v : Value} {ps : List Pt} (h : Rg w B g b e v ps) : ps.length ≤ 98 := by
  have := parts_98 b e h.max
  rw [← h.nodes] at this
  simpa using this

theorem mul_div_pow {e L : Nat} (h : 2 ^ L ∣ e) : e / 2 ^ L * 2 ^ L = e := Nat.div_mul_cancel h
/-- Nodes one behind the other, the last one first. -/
def AbutN : List (Nat × Nat) → Nat → Prop
  | [], _ => True
  | q :: st, s => (q.2 + 1) * 2 ^ q.1 = s ∧ AbutN st (q.2 * 2 ^ q.1)
theorem abut_of : ∀ (ps : List Pt) (s : Nat), AbutN (ps.map Prod.fst) s → Abut ps s
  | [], _, _ => trivial
  | q :: ps, s, h => ⟨h.1, abut_of ps _ h.2⟩
theorem abutN_snoc (n : Nat × Nat) : ∀ (st : List (Nat × Nat)) (s b : Nat), AbutN st s → (st = [] → s = b) → (∀ q, st.getLast? = some q → q.2 * 2 ^ q.1 = b) → (n.2 + 1) * 2 ^ n.1 = b → AbutN (st ++ [n]) s
  | [], s, b, _, h1, _, h3 => by
    have := h1 rfl
    subst this
    exact ⟨h3, trivial⟩
  | q :: st, s, b, h, _, h2, h3 => by
    refine ⟨h.1, abutN_snoc n st _ b h.2 ?_ ?_ h3⟩
    · intro e
      subst e
      exact h2 q rfl
    · intro q' hq'
      apply h2 q'
      cases st with
      | nil => cases hq'
      | cons a st => rw [List.getLast?_cons_cons]; exact hq'
theorem parts_abut (n : Nat) : ∀ (b e : Nat), e - b ≤ n → b ≤ e → e ≤ 2 ^ 48 → AbutN (parts b e).reverse e ∧ (∀ q, (parts b e).reverse.getLast? = some q → q.2 * 2 ^ q.1 = b) ∧ ((parts b e).reverse = [] → e = b) := by
  induction n with
  | zero =>
    intro b e hn hbe hm
    obtain rfl : b = e := by omega
    rw [parts_nil (Nat.le_refl _)]
    exact ⟨trivial, (fun q hq => by cases hq), fun _ => rfl⟩
  | succ n ih =>
    intro b e hn hbe hm
    by_cases hlt : b < e
    · have hk := lv_isLev (b := b) (n := e - b) (by omega) (by omega)
      rw [parts_step hk hm]
      generalize lv b (e - b) = k at *
      have hp := Nat.two_pow_pos k
      have hkl := hk.le
      obtain ⟨h1, h2, h3⟩ := ih (b + 2 ^ k) e (by omega) (by omega) hm
      have e1 := mul_div_pow hk.dvd
      rw [List.reverse_cons]
      refine ⟨abutN_snoc _ _ _ (b + 2 ^ k) h1 (fun e0 => h3 e0) h2 (by simp only [Nat.add_mul, e1]; omega), ?_, ?_⟩
      · intro q hq
        rw [List.getLast?_concat] at hq
        injection hq with hq
        subst hq
        exact e1
      · intro e0
        simp at e0
    · obtain rfl : b = e := by omega
      rw [parts_nil (Nat.le_refl _)]
      exact ⟨trivial, (fun q hq => by cases hq), fun _ => rfl⟩
theorem Rg.abut {w : World} {B g b e : Nat} {v : Value} {ps : List Pt} (h : Rg w B g b e v ps) : Abut ps.reverse e := by
  refine abut_of _ _ ?_
  rw [List.map_reverse, h.nodes]
  exact (parts_abut (e - b) b e (Nat.le_refl _) h.le h.max).1
/-- The nodes behind a put. -/
theorem putL_nodes {ps : List Pt} {b e L : Nat} {d : List Int} (h : ps.map Prod.fst = parts b e) (hbe : b ≤ e) (hd : 2 ^ L ∣ e) (hm : e + 2 ^ L ≤ 281474976710656) : (putL ps ((L, e / 2 ^ L), d)).map Prod.fst = parts b (e + 2 ^ L) := by
  unfold putL
  rw [List.map_reverse, putS_nodes, List.map_reverse, h]
  exact parts_put (e - b) b e L (Nat.le_refl _) hbe hd hm

theorem aux_rem (e P L : Nat) (hdv : 2 ^ L ∣ e) (HP : Hid (2 ^ L = P)) : ((e : Int)).tmod (P : Int) = 0 := by
  rw [← HP.out]
  obtain ⟨c, rfl⟩ := hdv
  rw [Int.natCast_mul, Int.mul_tmod_right]
theorem aux_quo (e P : Nat) : ((e : Int)).tdiv (P : Int) = ((e / P : Nat) : Int) := by
  rw [Int.tdiv_eq_ediv_of_nonneg (by omega), Int.natCast_ediv]
theorem aux_pow (P L : Nat) (HP : Hid (2 ^ L = P)) (h : P ≤ 281474976710656) : wrap64 (2 ^ L) = (P : Int) := by
  have e1 : ((2 : Int) ^ L) = (P : Int) := by rw [← HP.out]; simp [Int.natCast_pow]
  rw [e1]
  unfold wrap64
  omega
theorem aux_sub (e : Nat) (h : e ≤ 281474976710656) : wrap64 (281474976710656 - (e : Int)) = 281474976710656 - (e : Int) := by unfold wrap64; omega
theorem aux_wq (e P : Nat) (h : e ≤ 281474976710656) : IntKind.i64.wrap ((e / P : Nat) : Int) = ((e / P : Nat) : Int) := by
  have hdE : e / P ≤ e := Nat.div_le_self _ _
  generalize e / P = q at *
  rw [IntKind.wrap_i64]; omega
theorem aux_add (e P : Nat) (h : e + P ≤ 281474976710656) : IntKind.i64.wrap ((e : Int) + (P : Int)) = ((e + P : Nat) : Int) := by rw [IntKind.wrap_i64]; omega

set_option maxRecDepth 100000 in
set_option maxHeartbeats 400000 in
theorem appN_ok (B g b e L : Nat) (v : Value) (ps : List Pt) (d : List Int) (w : World) (hr : Rg w B g b e v ps) (hB : B ≤ w.heap.size) (hk : KT w) (hkg : 2 < g) (hkB : 2 < B) (hL : L ≤ 48) (hdv : 2 ^ L ∣ e) (hm : e + 2 ^ L ≤ 281474976710656) (hdl : d.length = 32) (hdb : isB d) :
    Calls Tryd.prog 8 #[.pointer (some ⟨g, 0, none⟩), .int .i64 (L : Int), .agg (u8s d).toArray] w fun r w' => ∃ v', r = .returned (.int .i64 0) ∧ Rg w' B g b (e + 2 ^ L) v' (putL ps ((L, e / 2 ^ L), d)) ∧ Chs (Foot g v) w w' ∧ (∀ k, v'.ownBlock = some k → v.ownBlock = some k ∨ w.heap.size ≤ k) := by
  have HR := hide hr
  have HK := hide hk
  have HDL := hide (show (u8s d).length = 32 by rw [u8s_length, hdl])
  have HDV := hide hdv
  have HB := hide hB
  have hp := Nat.two_pow_pos L
  obtain ⟨P, HP⟩ : ∃ P, Hid (2 ^ L = P) := ⟨_, hide rfl⟩
  rw [HP.out] at hp hm
  have hmax := hr.max
  have hrem := aux_rem e P L hdv HP
  have hquo := aux_quo e P
  have hpw := aux_pow P L HP (Nat.le_trans (Nat.le_add_left _ _) hm)
  have hsub := aux_sub e hmax
  have hwq := aux_wq e P hmax
  have hadd := aux_add e P hm
  clear hr hk hdv hB
  have HD0 := hide hdl
  have HGD : Hid (Good ((L, e / P), d)) := hide ⟨hdl, hdb, by simp; omega, by have : e / P ≤ e := Nat.div_le_self _ _; simp; omega⟩
  have HME : Hid (e / P * 2 ^ L = e) := hide (by rw [← HP.out]; exact mul_div_pow HDV.out)
  have HAB : Hid (Abut ps.reverse (e / P * 2 ^ L)) := hide (by rw [HME.out]; exact HR.out.abut)
  have HBD : Hid ((e / P + 1) * 2 ^ L ≤ 281474976710656) := hide (by rw [Nat.add_mul, HME.out, Nat.one_mul, HP.out]; exact hm)
  clear hdl hdb
  have hP0 : ¬ (P : Int) = 0 := by omega
  have hl0 : ¬ (L : Int) < 0 := by omega
  have hl1 : ¬ (48 : Int) < (L : Int) := by omega
  have hgt : ¬ (281474976710656 - (e : Int)) < (P : Int) := by omega
  go_enter Tryd.func8, Tryd.ntmps8
  go_wp2_with (refine step_box rfl rfl ?_)
  intro w1 g5 hg5 hle5 hb1
  have G5 := hide hg5
  have R1 := hide (HR.out.below hb1)
  have c0 : w1.cell? ⟨g, 0, none⟩ = some (.bool true) := by rw [R1.out.blk.cell]; rfl
  have c2 : w1.cell? ⟨g, 2, none⟩ = some (.int .i64 (e : Int)) := by rw [R1.out.blk.cell]; rfl
  clear hg5
  go_wp2_with (go_at_call 18; refine (made_is _ _ c0).mono ?_; rintro e w' ⟨rfl, rfl⟩)
  have hP0n : ¬ P = 0 := by omega
  have hwq2 : IntKind.i64.wrap ((e : Int) / (P : Int)) = (e : Int) / (P : Int) := by rw [← Int.natCast_ediv]; exact hwq
  obtain ⟨dD, huD, hdD⟩ := wD.und
  have hg5g : g5 ≠ g := (R1.out.blk.apart G5.out (by decide)).symm
  have HS1 : ∀ W : World, Blk W g 54 (rgC b e v) → Blk W g5 34 (u8s d) → W.cell? ⟨g, 2, none⟩ = some (.int .i64 (e : Int)) ∧ W.rangeAt g5 0 (u8s d) := fun W h1 h2 => ⟨by rw [h1.cell]; rfl, h2.range 0 _ (by rw [List.drop_zero, List.take_of_length_le (Nat.le_refl _)])⟩
  refine wp_region_noPanic ?_
  have bd := (Below.refl w1.heap.size w1).drew
  have R2 := hide (R1.out.below bd)
  have G52 := hide (G5.out.below bd G5.out.lt)
  have HB2 := hide (hb1.trans (bd.mono hb1.size))
  refine wp_region_held_drew (S := fun v : World => v.cell? ⟨g, 2, none⟩ = some (.int .i64 (e : Int)) ∧ v.rangeAt g5 0 (u8s d)) (by kernel_rfl) (HS1 _ R2.out.blk G52.out) (fun hHeld => ?_)
  refine takeH 0 35 (.pointer (some ⟨g, 0, none⟩)) hHeld rfl rfl (by kernel_rfl) (by kernel_rfl) (by kernel_rfl) (fun _ _ _ h => h) (Or.inl ⟨by rfl, fun w _ => by go_simp⟩) ?_
  simp only [Act.put, List.setIfInBounds_toArray, List.set_cons_zero, List.set_cons_succ]
  refine takeH 1 36 (.int .i64 (L : Int)) hHeld rfl rfl (by kernel_rfl) (by kernel_rfl) (by kernel_rfl) (fun _ _ _ h => h) (Or.inl ⟨by rfl, fun w _ => by go_simp⟩) ?_
  simp only [Act.put, List.setIfInBounds_toArray, List.set_cons_zero, List.set_cons_succ]
  refine takeH 2 37 (.pointer (some ⟨g, 0, none⟩)) hHeld rfl rfl (by kernel_rfl) (by kernel_rfl) (by kernel_rfl) (fun _ _ _ h => h) (Or.inl ⟨by rfl, fun w _ => by go_simp⟩) ?_
  simp only [Act.put, List.setIfInBounds_toArray, List.set_cons_zero, List.set_cons_succ]
  refine takeH 3 38 (.pointer (some ⟨g, 0, none⟩)) hHeld rfl rfl (by kernel_rfl) (by kernel_rfl) (by kernel_rfl) (fun _ _ _ h => h) (Or.inl ⟨by rfl, fun w _ => by go_simp⟩) ?_
  simp only [Act.put, List.setIfInBounds_toArray, List.set_cons_zero, List.set_cons_succ]
  refine takeH 4 39 (.pointer (some ⟨g, 1, none⟩)) hHeld rfl rfl (by kernel_rfl) (by kernel_rfl) (by kernel_rfl) (fun _ _ _ h => h) (Or.inl ⟨by rfl, fun w _ => by go_simp⟩) ?_
  simp only [Act.put, List.setIfInBounds_toArray, List.set_cons_zero, List.set_cons_succ]
  refine takeH 5 40 (.pointer (some ⟨g, 2, none⟩)) hHeld rfl rfl (by kernel_rfl) (by kernel_rfl) (by kernel_rfl) (fun _ _ _ h => h) (Or.inl ⟨by rfl, fun w _ => by go_simp⟩) ?_
  simp only [Act.put, List.setIfInBounds_toArray, List.set_cons_zero, List.set_cons_succ]
  refine takeH 6 41 (.int .i64 (e : Int)) hHeld rfl rfl (by kernel_rfl) (by kernel_rfl) (by kernel_rfl) (fun _ _ _ h => h) (Or.inl ⟨by rfl, fun w hw => by have hw' : w.cell? ⟨g, 2, none⟩ = some (.int .i64 (e : Int)) := (fun h => h.1) hw; go_simp⟩) ?_
  simp only [Act.put, List.setIfInBounds_toArray, List.set_cons_zero, List.set_cons_succ]
  refine takeH 7 42 (.int .i64 (P : Int)) hHeld rfl rfl (by kernel_rfl) (by kernel_rfl) (by kernel_rfl) (fun _ _ _ h => h) (Or.inl ⟨by rfl, fun w _ => by go_simp⟩) ?_
  simp only [Act.put, List.setIfInBounds_toArray, List.set_cons_zero, List.set_cons_succ]
  refine takeH 8 43 (.int .i64 ((e / P : Nat) : Int)) hHeld rfl rfl (by kernel_rfl) (by kernel_rfl) (by kernel_rfl) (fun _ _ _ h => h) (Or.inl ⟨by rfl, fun w _ => by go_simp⟩) ?_
  simp only [Act.put, List.setIfInBounds_toArray, List.set_cons_zero, List.set_cons_succ]
  refine takeH 9 44 (.agg (nC (L, e / P)).toArray) hHeld rfl rfl (by kernel_rfl) (by kernel_rfl) (by kernel_rfl) (fun _ _ _ h => h) (Or.inl ⟨by rfl, fun w _ => by go_simp; simp [nC]⟩) ?_
  simp only [Act.put, List.setIfInBounds_toArray, List.set_cons_zero, List.set_cons_succ]
  refine takeH 10 45 (.agg (u8s d).toArray) hHeld rfl rfl (by kernel_rfl) (by kernel_rfl) (by kernel_rfl) (fun _ _ _ h => h) (yieldsIf_load_mid (by rfl) _ _ rfl g5 0 rfl _ _ (fun w h => h.2) huD hdD (by rw [wD.size, HDL.out])) ?_
  simp only [Act.put, List.setIfInBounds_toArray, List.set_cons_zero, List.set_cons_succ]
  refine takeH 11 46 (.agg (pc ((L, e / P), d)).toArray) hHeld rfl rfl (by kernel_rfl) (by kernel_rfl) (by kernel_rfl) (fun _ _ _ h => h) (Or.inl ⟨by rfl, fun w _ => run_buildP rfl rfl HD0.out⟩) ?_
  simp only [Act.put, List.setIfInBounds_toArray, List.set_cons_zero, List.set_cons_succ]
  refine wpAnyH_ready (rs := [12]) (by kernel_rfl) (by simp) (AllReadyH.cons rfl (fun K hK => ?_) AllReadyH.nil)
  rw [if_pos (by rfl)]
  go_simp
  refine (put_any g B b e v ps ((L, e / P), d) _ R2.out.blk R2.out.own R2.out.good HGD.out (Nat.le_trans HB.out HB2.out.size) (by have := R2.out.count; omega) (HK.out.below HB2.out HK.out.lt) hkg hkB HAB.out HBD.out).mono ?_
  rintro r W3 ⟨u3, v3, rfl, hg3, ho3, hgl3, hch3, hnb3⟩
  have hG53 := G52.out.chs hch3 (by
    rintro (e1 | e1)
    · exact hg5g e1
    · exact (R2.out.own.apart G52.out (by decide)) e1)
  refine hK.out _ _ ⟨by rw [hg3.cell]; rfl, hG53.range 0 _ (by rw [List.drop_zero, List.take_of_length_le (Nat.le_refl _)])⟩ (fun hHeld => ?_)
  clear hK K
  refine wpAnyH_done (by kernel_rfl) ?_ _
  refine NoPanic.normal ?_
  clear hHeld
  have HG3 := hide hg3
  have HO3 := hide ho3
  have HCH := hide hch3
  have HNB := hide hnb3
  have HGL3 := hide hgl3
  have c23 : W3.cell? ⟨g, 2, none⟩ = some (.int .i64 (e : Int)) := by rw [hg3.cell]; rfl
  have f23 : W3.frozen? ⟨g, 2, none⟩ = false := hg3.free 2
  clear hg3 ho3 hch3 hnb3 hgl3 hG53
  go_wp2
  go_ret
  have hbut := But.setCell W3 g 2 (.int .i64 ((e + P : Nat) : Int))
  refine ⟨v3, rfl, ?_, ?_, fun k hk => (HNB.out k hk).imp id (fun h => Nat.le_trans HB2.out.size h)⟩
  · rw [HP.out]
    refine ⟨HG3.out.set 2 _, HO3.out.but hbut (HO3.out.apart HG3.out (by decide)), HGL3.out, ?_, Nat.le_trans HR.out.le (Nat.le_add_right _ _), hm⟩
    have := putL_nodes (d := d) HR.out.nodes HR.out.le HDV.out (by rw [HP.out]; exact hm)
    rwa [HP.out] at this
  · have h1 : Chs (Foot g v) w w1.drew := (Chs.refl _ _).thenBelow HB2.out
    exact (h1.trans HCH.out).thenBut hbut (.inl (.inl rfl))

end Go.Proofs.YtnjkjickclkmhaaDoor
