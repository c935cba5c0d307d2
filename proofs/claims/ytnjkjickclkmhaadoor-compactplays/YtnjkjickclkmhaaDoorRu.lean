/-
  put: a part is put behind the others, and joined with them.
-/
import Derived.Test.YtnjkjickclkmhaaDoorRq
namespace Go.Proofs.YtnjkjickclkmhaaDoor
open Go.RowKit Go.Shelf
set_option linter.unusedVariables false

/-- The parts behind a put. -/
def putL (ps : List Pt) (p : Pt) : List Pt := (putS nd ps.reverse p).reverse
theorem pow_bd {i l : Nat} (h : (i + 1) * 2 ^ l ≤ 281474976710656) : l ≤ 48 ∧ i ≤ 281474976710656 := by
  have h1 := Nat.two_pow_pos l
  constructor
  · apply Nat.le_of_not_lt
    intro hl
    have h2 : 2 ^ 49 ≤ 2 ^ l := Nat.pow_le_pow_right (by omega) hl
    have h3 : 2 ^ l ≤ (i + 1) * 2 ^ l := Nat.le_mul_of_pos_left _ (by omega)
    omega
  · have h3 : i + 1 ≤ (i + 1) * 2 ^ l := Nat.le_mul_of_pos_right _ h1
    omega

/-- What the loop of put keeps. -/
structure PI (w wr : World) (g gp B : Nat) (b e : Int) (a : Option Addr) (cap : Nat) (ps : List Pt) (p : Pt) (m : Nat) (p' : Pt) : Prop where
  hm : m ≤ ps.length
  good : Good p'
  bd : (p'.1.2 + 1) * 2 ^ p'.1.1 ≤ 281474976710656
  ab : Abut (ps.take m).reverse (p'.1.2 * 2 ^ p'.1.1)
  eq : putS nd (ps.take m).reverse p' = putS nd ps.reverse p
  cp : Blk wr gp 59 (pc p')
  cg : Blk wr g 54 (rgC b e (.slice a m cap))
  own : POwn wr B (.slice a m cap) (ps.take m)
  ap : ∀ x, a = some x → x.block ≠ gp
  chs : Chs (fun k => k = g ∨ (Value.slice a m cap).ownBlock = some k) w wr
theorem PI.below {w wr wr' : World} {g gp B : Nat} {b e : Int} {a : Option Addr} {cap : Nat} {ps : List Pt} {p : Pt} {m : Nat} {p' : Pt} (h : PI w wr g gp B b e a cap ps p m p') (hb : Below wr.heap.size wr wr') : PI w wr' g gp B b e a cap ps p m p' :=
  ⟨h.hm, h.good, h.bd, h.ab, h.eq, h.cp.below hb h.cp.lt, h.cg.below hb h.cg.lt, h.own.below hb, h.ap, h.chs.thenBelow hb⟩
theorem PI.c3 {w wr : World} {g gp B : Nat} {b e : Int} {a : Option Addr} {cap : Nat} {ps : List Pt} {p : Pt} {m : Nat} {p' : Pt} (h : PI w wr g gp B b e a cap ps p m p') : wr.cell? ⟨g, 3, none⟩ = some (.slice a m cap) := by rw [h.cg.cell]; rfl
theorem PI.np {w wr : World} {g gp B : Nat} {b e : Int} {a : Option Addr} {cap : Nat} {ps : List Pt} {p : Pt} {m : Nat} {p' : Pt} (h : PI w wr g gp B b e a cap ps p m p') : (Value.slice a m cap).ownBlock ≠ some gp := fun e => by
  cases a with
  | none => cases e
  | some x => injection e with e; exact h.ap x rfl e
theorem PI.rp {w wr : World} {g gp B : Nat} {b e : Int} {a : Option Addr} {cap : Nat} {ps : List Pt} {p : Pt} {m : Nat} {p' : Pt} (h : PI w wr g gp B b e a cap ps p m p') : wr.rangeAt gp 0 (pc p') := h.cp.range 0 (pc p') (by rw [List.drop_zero, List.take_of_length_le (Nat.le_refl _)])

theorem own_len (a : Option Addr) (m n c d : Nat) : (Value.slice a m c).ownBlock = (Value.slice a n d).ownBlock := by cases a <;> rfl
theorem range_l {W : World} {b o : Nat} {xs ys : List Value} (h : W.rangeAt b o (xs ++ ys)) : W.rangeAt b o xs := fun j v hv => h j v (by rw [List.getElem?_append_left (List.getElem?_eq_some_iff.1 hv).1]; exact hv)
theorem range_r {W : World} {b o : Nat} {xs ys : List Value} (h : W.rangeAt b o (xs ++ ys)) : W.rangeAt b (o + xs.length) ys := fun j v hv => by
  have := h (xs.length + j) v (by rw [List.getElem?_append_right (by omega)]; simpa using hv)
  rwa [← Nat.add_assoc] at this
theorem recP : Rec 59 pz [(0, 2), (2, 32)] := fun _ => by kernel_rfl
theorem build_part (n : Nat × Nat) (ds : List Int) (hd : ds.length = 32) (w : World) : (Instr.build 59 #[(0, .agg (nC n).toArray), (1, .agg (u8s ds).toArray)]).run Tryd.prog w = .ok (.agg (pc (n, ds)).toArray) w := by
  refine run_build w _ _ _ ?_
  show Tryd.prog.built 59 [(0, .agg (nC n).toArray), (1, .agg (u8s ds).toArray)] = _
  rw [recP, fill_cons (off := 0) (size := 2) (vs := nC n) rfl rfl rfl (by decide)]
  rw [fill_cons (off := 2) (size := 32) (vs := u8s ds) rfl rfl (by rw [u8s_length, hd]) (by simp [spl, pz, nC, u8s_length, zer_length]), fill_nil]
  congr 2
  simp [spl, pz, pc, nC, u8s_length, zer_length, hd]
theorem run_buildP {dst : Option Tmp} {ty : TypeId} {pos : String} {aft : Array Edge} {gd : Option (Nat × Bool)} {a : Act} {w : World} {x y : Operand} {n : Nat × Nat} {ds : List Int} (hx : a.eval x = .agg (nC n).toArray) (hy : a.eval y = .agg (u8s ds).toArray) (hd : ds.length = 32) :
    (execOp a.eval ⟨dst, .build 59 #[(0, x), (1, y)], ty, pos, aft, gd⟩).run Tryd.prog w = .ok (.value (.agg (pc (n, ds)).toArray)) w :=
  run_op (M := Instr.build 59 #[(0, .agg (nC n).toArray), (1, .agg (u8s ds).toArray)]) (by simp [execOp, hx, hy]) (build_part n ds hd w)

set_option maxRecDepth 100000 in
set_option maxHeartbeats 4000000 in
theorem put_any (g B : Nat) (b e : Int) (v : Value) (ps : List Pt) (p : Pt) (w : World) (hg : Blk w g 54 (rgC b e v)) (ho : POwn w B v ps) (hgl : GoodL ps) (hp : Good p) (hB : B ≤ w.heap.size) (hlen : ps.length ≤ 1000) (hk : KT w) (hkg : 2 < g) (hkB : 2 < B)
    (hab : Abut ps.reverse (p.1.2 * 2 ^ p.1.1)) (hE : (p.1.2 + 1) * 2 ^ p.1.1 ≤ 281474976710656) :
    Calls Tryd.prog 19 #[.pointer (some ⟨g, 0, none⟩), .agg (pc p).toArray] w fun r w' => ∃ u v', r = .returned u ∧ Blk w' g 54 (rgC b e v') ∧ POwn w' B v' (putL ps p) ∧ GoodL (putL ps p) ∧
      Chs (fun k => k = g ∨ v.ownBlock = some k) w w' ∧ (∀ k, v'.ownBlock = some k → v.ownBlock = some k ∨ w.heap.size ≤ k) := by
  have HK := hide hk
  have HGL := hide hgl
  have HLEN := hide hlen
  obtain ⟨dP, huP, hdP⟩ := wP.und
  obtain ⟨dN, huN, hdN⟩ := wNd.und
  obtain ⟨dD, huD, hdD⟩ := wD.und
  obtain ⟨a, cap, rfl, hlt⟩ : ∃ a cap, v = .slice a ps.length cap ∧ ∀ x, a = some x → x.block < w.heap.size := by
    rcases ho.lies with ⟨rfl, rfl⟩ | ⟨h, cap, cs, rfl, _, hb, _⟩
    · exact ⟨none, 0, rfl, fun x hx => by cases hx⟩
    · exact ⟨_, cap, rfl, fun x hx => by cases hx; exact hb.lt⟩
  go_enter Tryd.func19, Tryd.ntmps19
  go_wp2_with (refine step_box rfl rfl ?_)
  intro w1 gp hgp hlep hb1
  have I0 : Hid (PI w w1 g gp B b e a cap ps p ps.length p) := hide ⟨Nat.le_refl _, hp, hE, by rw [List.take_length]; exact hab, by rw [List.take_length], hgp, hg.below hb1 hg.lt, by rw [List.take_length]; exact ho.below hb1, fun x hx => by have := hlt x hx; omega, (Chs.refl _ _).thenBelow hb1⟩
  have hc3 := I0.out.c3
  have hw1 : IntKind.i64.wrap ((ps.length : Int) - 1) = (ps.length : Int) - 1 := by rw [IntKind.wrap_i64]; omega
  clear hg ho hgl hp hlen hk hab hE hgp hb1
  go_wp2_with fail
  go_loopw [4] (fun last wr => ∃ (m : Nat) (p' : Pt), last = .int .i64 ((m : Int) - 1) ∧ Hid (PI w wr g gp B b e a cap ps p m p')) (fun last _ => (intOf last + 1).toNat)
  case atStart => exact ⟨ps.length, p, by first | rfl | (rw [hw1]) | (have := HLEN.out; go_num), I0⟩
  case round =>
    obtain ⟨m, p', rfl, HI0⟩ := hrel
    clear I0 hc3 hw1
    rcases Nat.eq_zero_or_pos m with h0 | h0
    · have HPL : Hid (putL ps p = ps.take m ++ [p']) := hide (by
        unfold putL
        rw [← HI0.out.eq, h0]
        rfl)
      rw [show ((m : Int) - 1) = -1 by omega]
      clear h0
      go_wp2_with fail
      refine wp_region_noPanic ?_
      have HI := hide (HI0.out.below ((Below.refl _ _).drew))
      refine wp_region_held_drew (S := fun v : World => True) (by kernel_rfl) trivial (fun hHeld => ?_)
      refine takeH 0 11 (.int .i64 (-1)) hHeld rfl rfl (by kernel_rfl) (by kernel_rfl) (by kernel_rfl) (fun _ _ _ h => h) (Or.inl ⟨by rfl, fun w _ => by go_simp⟩) ?_
      simp only [Act.put, List.setIfInBounds_toArray, List.set_cons_zero, List.set_cons_succ]
      refine takeH 1 12 (.bool false) hHeld rfl rfl (by kernel_rfl) (by kernel_rfl) (by kernel_rfl) (fun _ _ _ h => h) (Or.inl ⟨by rfl, fun w _ => by go_simp⟩) ?_
      simp only [Act.put, List.setIfInBounds_toArray, List.set_cons_zero, List.set_cons_succ]
      refine takeH 2 13 (.bool false) hHeld rfl rfl (by kernel_rfl) (by kernel_rfl) (by kernel_rfl) (fun _ _ _ h => h) (Or.inl ⟨by rfl, fun w _ => by go_simp⟩) ?_
      simp only [Act.put, List.setIfInBounds_toArray, List.set_cons_zero, List.set_cons_succ]
      refine takeH 3 14 undef hHeld rfl rfl (by kernel_rfl) (by kernel_rfl) (by kernel_rfl) (fun _ _ _ h => h) (Or.inr ⟨by rfl, rfl⟩) ?_
      simp only [Act.put, List.setIfInBounds_toArray, List.set_cons_zero, List.set_cons_succ]
      refine takeH 4 15 undef hHeld rfl rfl (by kernel_rfl) (by kernel_rfl) (by kernel_rfl) (fun _ _ _ h => h) (Or.inr ⟨by rfl, rfl⟩) ?_
      simp only [Act.put, List.setIfInBounds_toArray, List.set_cons_zero, List.set_cons_succ]
      refine takeH 5 16 undef hHeld rfl rfl (by kernel_rfl) (by kernel_rfl) (by kernel_rfl) (fun _ _ _ h => h) (Or.inr ⟨by rfl, rfl⟩) ?_
      simp only [Act.put, List.setIfInBounds_toArray, List.set_cons_zero, List.set_cons_succ]
      refine takeH 6 17 undef hHeld rfl rfl (by kernel_rfl) (by kernel_rfl) (by kernel_rfl) (fun _ _ _ h => h) (Or.inr ⟨by rfl, rfl⟩) ?_
      simp only [Act.put, List.setIfInBounds_toArray, List.set_cons_zero, List.set_cons_succ]
      refine takeH 7 18 undef hHeld rfl rfl (by kernel_rfl) (by kernel_rfl) (by kernel_rfl) (fun _ _ _ h => h) (Or.inr ⟨by rfl, rfl⟩) ?_
      simp only [Act.put, List.setIfInBounds_toArray, List.set_cons_zero, List.set_cons_succ]
      refine takeH 8 19 undef hHeld rfl rfl (by kernel_rfl) (by kernel_rfl) (by kernel_rfl) (fun _ _ _ h => h) (Or.inr ⟨by rfl, rfl⟩) ?_
      simp only [Act.put, List.setIfInBounds_toArray, List.set_cons_zero, List.set_cons_succ]
      refine takeH 9 20 undef hHeld rfl rfl (by kernel_rfl) (by kernel_rfl) (by kernel_rfl) (fun _ _ _ h => h) (Or.inr ⟨by rfl, rfl⟩) ?_
      simp only [Act.put, List.setIfInBounds_toArray, List.set_cons_zero, List.set_cons_succ]
      refine takeH 10 21 undef hHeld rfl rfl (by kernel_rfl) (by kernel_rfl) (by kernel_rfl) (fun _ _ _ h => h) (Or.inr ⟨by rfl, rfl⟩) ?_
      simp only [Act.put, List.setIfInBounds_toArray, List.set_cons_zero, List.set_cons_succ]
      refine takeH 11 22 undef hHeld rfl rfl (by kernel_rfl) (by kernel_rfl) (by kernel_rfl) (fun _ _ _ h => h) (Or.inr ⟨by rfl, rfl⟩) ?_
      simp only [Act.put, List.setIfInBounds_toArray, List.set_cons_zero, List.set_cons_succ]
      refine takeH 12 23 undef hHeld rfl rfl (by kernel_rfl) (by kernel_rfl) (by kernel_rfl) (fun _ _ _ h => h) (Or.inr ⟨by rfl, rfl⟩) ?_
      simp only [Act.put, List.setIfInBounds_toArray, List.set_cons_zero, List.set_cons_succ]
      refine takeH 13 24 undef hHeld rfl rfl (by kernel_rfl) (by kernel_rfl) (by kernel_rfl) (fun _ _ _ h => h) (Or.inr ⟨by rfl, rfl⟩) ?_
      simp only [Act.put, List.setIfInBounds_toArray, List.set_cons_zero, List.set_cons_succ]
      refine takeH 14 25 undef hHeld rfl rfl (by kernel_rfl) (by kernel_rfl) (by kernel_rfl) (fun _ _ _ h => h) (Or.inr ⟨by rfl, rfl⟩) ?_
      simp only [Act.put, List.setIfInBounds_toArray, List.set_cons_zero, List.set_cons_succ]
      refine takeH 15 26 (.bool false) hHeld rfl rfl (by kernel_rfl) (by kernel_rfl) (by kernel_rfl) (fun _ _ _ h => h) (Or.inl ⟨by rfl, fun w _ => by go_simp⟩) ?_
      simp only [Act.put, List.setIfInBounds_toArray, List.set_cons_zero, List.set_cons_succ]
      refine wpAnyH_done (by kernel_rfl) ?_ _
      refine NoPanic.normal ?_
      clear hHeld
      revert HI
      generalize wr.drew = W1
      intro HI
      go_wp2_with fail
      refine wp_region_noPanic ?_
      have JA := hide (HI.out.below ((Below.refl _ _).drew))
      refine wp_region_held_drew (S := fun v : World => v.rangeAt gp 0 (pc p')) (by kernel_rfl) JA.out.rp (fun hHeld => ?_)
      refine takeH 0 53 (.pointer (some ⟨g, 0, none⟩)) hHeld rfl rfl (by kernel_rfl) (by kernel_rfl) (by kernel_rfl) (fun _ _ _ h => h) (Or.inl ⟨by rfl, fun w _ => by go_simp⟩) ?_
      simp only [Act.put, List.setIfInBounds_toArray, List.set_cons_zero, List.set_cons_succ]
      refine takeH 1 54 (.pointer (some ⟨g, 0, none⟩)) hHeld rfl rfl (by kernel_rfl) (by kernel_rfl) (by kernel_rfl) (fun _ _ _ h => h) (Or.inl ⟨by rfl, fun w _ => by go_simp⟩) ?_
      simp only [Act.put, List.setIfInBounds_toArray, List.set_cons_zero, List.set_cons_succ]
      refine takeH 2 55 (.pointer (some ⟨g, 0, none⟩)) hHeld rfl rfl (by kernel_rfl) (by kernel_rfl) (by kernel_rfl) (fun _ _ _ h => h) (Or.inl ⟨by rfl, fun w _ => by go_simp⟩) ?_
      simp only [Act.put, List.setIfInBounds_toArray, List.set_cons_zero, List.set_cons_succ]
      refine takeH 3 56 (.pointer (some ⟨g, 3, none⟩)) hHeld rfl rfl (by kernel_rfl) (by kernel_rfl) (by kernel_rfl) (fun _ _ _ h => h) (Or.inl ⟨by rfl, fun w _ => by go_simp⟩) ?_
      simp only [Act.put, List.setIfInBounds_toArray, List.set_cons_zero, List.set_cons_succ]
      refine takeH 5 58 (.agg (pc p').toArray) hHeld rfl rfl (by kernel_rfl) (by kernel_rfl) (by kernel_rfl) (fun _ _ _ h => h) (yieldsIf_load_mid (by rfl) _ _ rfl gp 0 rfl _ _ (fun w h => h) huP hdP (by rw [wP.size, pc_length JA.out.good])) ?_
      simp only [Act.put, List.setIfInBounds_toArray, List.set_cons_zero, List.set_cons_succ]
      refine wpAnyH_ready (rs := [4, 6]) (by kernel_rfl) (by simp) (AllReadyH.cons rfl (fun K hK => ?_) (AllReadyH.cons rfl (fun K hK => ?_) AllReadyH.nil))
      · rw [if_pos (by rfl)]
        have hc3 := JA.out.c3
        go_simp
        refine hK.out _ _ JA.out.rp (fun hHeld => ?_)
        clear hK K hc3
        refine wpAnyH_ready (rs := [6]) (by kernel_rfl) (by simp) (AllReadyH.cons rfl (fun K hK => ?_) AllReadyH.nil)
        rw [if_pos (by rfl)]
        refine wp_oneP rfl JA.out.good ?_
        intro W3 gq hq hleq hb3
        have JB := hide (JA.out.below hb3)
        have HQ := hide hq
        refine hK.out _ _ JB.out.rp (fun hHeld => ?_)
        clear hK K hq
        simp only [Act.put]
        refine wpAnyH_ready (rs := [7]) (by kernel_rfl) (by simp) (AllReadyH.cons rfl (fun K hK => ?_) AllReadyH.nil)
        rw [if_pos (by rfl)]
        refine wp_appendP (B := B) rfl rfl (JB.out.own) HQ.out JB.out.good (by have := HLEN.out; have := JB.out.hm; rw [List.length_take]; omega) (by have := JB.out.chs.size; omega) ?_
        intro v4 W4 ho4 hg4 hnb4
        obtain ⟨a4, n4, c4, rfl⟩ : ∃ a n c, v4 = Value.slice a n c := by rcases ho4.lies with ⟨rfl, _⟩ | ⟨_, _, _, rfl, _⟩ <;> exact ⟨_, _, _, rfl⟩
        have hcg4 : Blk W4 g 54 (rgC b e (.slice a m cap)) := by
          unfold Blk
          rw [hg4.block g JB.out.cg.lt (fun e => (JB.out.own.apart JB.out.cg (by decide)) e.symm)]
          exact JB.out.cg
        have hcp4 : Blk W4 gp 59 (pc p') := by
          unfold Blk
          rw [hg4.block gp JB.out.cp.lt (fun e => JB.out.np e.symm)]
          exact JB.out.cp
        have hch4 := JB.out.chs.thenGrown hg4 (fun k hk => .inl (.inr hk))
        have hrp4 : W4.rangeAt gp 0 (pc p') := hcp4.range 0 (pc p') (by rw [List.drop_zero, List.take_of_length_le (Nat.le_refl _)])
        have HCG := hide hcg4
        have HCP := hide hcp4
        have HO4 := hide ho4
        have HCH := hide hch4
        have HNB : Hid (∀ k, (Value.slice a4 n4 c4).ownBlock = some k → (Value.slice a m cap).ownBlock = some k ∨ w.heap.size ≤ k) := hide (fun k hk => (hnb4 k hk).imp id (fun h => Nat.le_trans JB.out.chs.size h))
        refine hK.out _ _ hrp4 (fun hHeld => ?_)
        clear hK K hg4 hcg4 hcp4 hch4 ho4 hrp4 hnb4
        simp only [Act.put]
        refine takeH 8 61 (.pointer (some ⟨g, 0, none⟩)) hHeld rfl rfl (by kernel_rfl) (by kernel_rfl) (by kernel_rfl) (fun _ _ _ h => h) (Or.inl ⟨by rfl, fun w _ => by go_simp⟩) ?_
        simp only [Act.put, List.setIfInBounds_toArray, List.set_cons_zero, List.set_cons_succ]
        refine takeH 9 62 (.pointer (some ⟨g, 3, none⟩)) hHeld rfl rfl (by kernel_rfl) (by kernel_rfl) (by kernel_rfl) (fun _ _ _ h => h) (Or.inl ⟨by rfl, fun w _ => by go_simp⟩) ?_
        simp only [Act.put, List.setIfInBounds_toArray, List.set_cons_zero, List.set_cons_succ]
        have hc3 : W4.cell? ⟨g, 3, none⟩ = some (.slice a m cap) := by rw [HCG.out.cell]; rfl
        have hf3 : W4.frozen? ⟨g, 3, none⟩ = false := HCG.out.free 3
        refine wpAnyH_ready (rs := [10]) (by kernel_rfl) (by simp) (AllReadyH.cons rfl (fun K hK => ?_) AllReadyH.nil)
        rw [if_pos (by rfl)]
        go_simp
        have hbut := But.setCell W4 g 3 (.slice a4 n4 c4)
        have hgp : g ≠ gp := HCG.out.apart HCP.out (by decide)
        refine hK.out _ _ ((HCP.out.but hbut (Ne.symm hgp)).range 0 (pc p') (by rw [List.drop_zero, List.take_of_length_le (Nat.le_refl _)])) (fun hHeld => ?_)
        clear hK K
        refine wpAnyH_done (by kernel_rfl) ?_ _
        refine NoPanic.normal ?_
        clear hHeld
        go_wp2
        go_end0
        refine ⟨_, .slice a4 n4 c4, rfl, ?_, ?_, ?_, ?_, ?_⟩
        · exact HCG.out.set 3 _
        · rw [HPL.out]
          exact HO4.out.but hbut (HO4.out.apart HCG.out (by decide))
        · rw [HPL.out]
          exact (HGL.out.take (m)).snoc JB.out.good
        · simp only [own_len a ps.length m cap cap]
          exact HCH.out.thenBut hbut (.inl (.inl rfl))
        · simp only [own_len a ps.length m cap cap]
          exact HNB.out
      · rw [if_pos (by rfl)]
        refine wp_oneP rfl JA.out.good ?_
        intro W3 gq hq hleq hb3
        have JB := hide (JA.out.below hb3)
        have HQ := hide hq
        refine hK.out _ _ JB.out.rp (fun hHeld => ?_)
        clear hK K hq
        simp only [Act.put]
        have hc3 := JB.out.c3
        refine wpAnyH_ready (rs := [4]) (by kernel_rfl) (by simp) (AllReadyH.cons rfl (fun K hK => ?_) AllReadyH.nil)
        rw [if_pos (by rfl)]
        go_simp
        refine hK.out _ _ JB.out.rp (fun hHeld => ?_)
        clear hK K hc3
        refine wpAnyH_ready (rs := [7]) (by kernel_rfl) (by simp) (AllReadyH.cons rfl (fun K hK => ?_) AllReadyH.nil)
        rw [if_pos (by rfl)]
        refine wp_appendP (B := B) rfl rfl (JB.out.own) HQ.out JB.out.good (by have := HLEN.out; have := JB.out.hm; rw [List.length_take]; omega) (by have := JB.out.chs.size; omega) ?_
        intro v4 W4 ho4 hg4 hnb4
        obtain ⟨a4, n4, c4, rfl⟩ : ∃ a n c, v4 = Value.slice a n c := by rcases ho4.lies with ⟨rfl, _⟩ | ⟨_, _, _, rfl, _⟩ <;> exact ⟨_, _, _, rfl⟩
        have hcg4 : Blk W4 g 54 (rgC b e (.slice a m cap)) := by
          unfold Blk
          rw [hg4.block g JB.out.cg.lt (fun e => (JB.out.own.apart JB.out.cg (by decide)) e.symm)]
          exact JB.out.cg
        have hcp4 : Blk W4 gp 59 (pc p') := by
          unfold Blk
          rw [hg4.block gp JB.out.cp.lt (fun e => JB.out.np e.symm)]
          exact JB.out.cp
        have hch4 := JB.out.chs.thenGrown hg4 (fun k hk => .inl (.inr hk))
        have hrp4 : W4.rangeAt gp 0 (pc p') := hcp4.range 0 (pc p') (by rw [List.drop_zero, List.take_of_length_le (Nat.le_refl _)])
        have HCG := hide hcg4
        have HCP := hide hcp4
        have HO4 := hide ho4
        have HCH := hide hch4
        have HNB : Hid (∀ k, (Value.slice a4 n4 c4).ownBlock = some k → (Value.slice a m cap).ownBlock = some k ∨ w.heap.size ≤ k) := hide (fun k hk => (hnb4 k hk).imp id (fun h => Nat.le_trans JB.out.chs.size h))
        refine hK.out _ _ hrp4 (fun hHeld => ?_)
        clear hK K hg4 hcg4 hcp4 hch4 ho4 hrp4 hnb4
        simp only [Act.put]
        refine takeH 8 61 (.pointer (some ⟨g, 0, none⟩)) hHeld rfl rfl (by kernel_rfl) (by kernel_rfl) (by kernel_rfl) (fun _ _ _ h => h) (Or.inl ⟨by rfl, fun w _ => by go_simp⟩) ?_
        simp only [Act.put, List.setIfInBounds_toArray, List.set_cons_zero, List.set_cons_succ]
        refine takeH 9 62 (.pointer (some ⟨g, 3, none⟩)) hHeld rfl rfl (by kernel_rfl) (by kernel_rfl) (by kernel_rfl) (fun _ _ _ h => h) (Or.inl ⟨by rfl, fun w _ => by go_simp⟩) ?_
        simp only [Act.put, List.setIfInBounds_toArray, List.set_cons_zero, List.set_cons_succ]
        have hc3 : W4.cell? ⟨g, 3, none⟩ = some (.slice a m cap) := by rw [HCG.out.cell]; rfl
        have hf3 : W4.frozen? ⟨g, 3, none⟩ = false := HCG.out.free 3
        refine wpAnyH_ready (rs := [10]) (by kernel_rfl) (by simp) (AllReadyH.cons rfl (fun K hK => ?_) AllReadyH.nil)
        rw [if_pos (by rfl)]
        go_simp
        have hbut := But.setCell W4 g 3 (.slice a4 n4 c4)
        have hgp : g ≠ gp := HCG.out.apart HCP.out (by decide)
        refine hK.out _ _ ((HCP.out.but hbut (Ne.symm hgp)).range 0 (pc p') (by rw [List.drop_zero, List.take_of_length_le (Nat.le_refl _)])) (fun hHeld => ?_)
        clear hK K
        refine wpAnyH_done (by kernel_rfl) ?_ _
        refine NoPanic.normal ?_
        clear hHeld
        go_wp2
        go_end0
        refine ⟨_, .slice a4 n4 c4, rfl, ?_, ?_, ?_, ?_, ?_⟩
        · exact HCG.out.set 3 _
        · rw [HPL.out]
          exact HO4.out.but hbut (HO4.out.apart HCG.out (by decide))
        · rw [HPL.out]
          exact (HGL.out.take (m)).snoc JB.out.good
        · simp only [own_len a ps.length m cap cap]
          exact HCH.out.thenBut hbut (.inl (.inl rfl))
        · simp only [own_len a ps.length m cap cap]
          exact HNB.out
    · obtain ⟨k, rfl⟩ : ∃ k, m = k + 1 := ⟨m - 1, by omega⟩
      clear h0
      rw [show (((k + 1 : Nat) : Int) - 1) = (k : Int) by omega]
      have hkl : k < ps.length := HI0.out.hm
      have HKL := hide hkl
      have HQG := hide (pAt_good HGL.out hkl)
      have ETK : ps.take (k + 1) = ps.take k ++ [pAt ps k] := by
        rw [List.take_succ_eq_append_getElem hkl]
        simp [pAt, List.getD, hkl]
      have ERV : (ps.take (k + 1)).reverse = pAt ps k :: (ps.take k).reverse := by rw [ETK, List.reverse_append]; rfl
      have HAB : Hid ((((pAt ps k).1.2 + 1) * 2 ^ (pAt ps k).1.1 = p'.1.2 * 2 ^ p'.1.1) ∧ Abut (ps.take k).reverse ((pAt ps k).1.2 * 2 ^ (pAt ps k).1.1)) := hide (by
        have := HI0.out.ab
        rw [ERV] at this
        exact this)
      have HEQ : Hid ((if sib (pAt ps k).1 p'.1 then putS nd (ps.take k).reverse ((p'.1.1 + 1, p'.1.2 / 2), nd (pAt ps k).2 p'.2) else p' :: pAt ps k :: (ps.take k).reverse) = putS nd ps.reverse p) := hide (by
        have := HI0.out.eq
        rw [ERV] at this
        exact this)
      obtain ⟨q, HQ0⟩ : ∃ q, Hid (pAt ps k = q) := ⟨_, hide rfl⟩
      rw [HQ0.out] at HQG HAB HEQ
      have HSB := hide (sib_other HAB.out.1)
      obtain ⟨h, rfl, hhp⟩ : ∃ h, a = some ⟨h, 0, none⟩ ∧ h ≠ gp := by
        rcases HI0.out.own.lies with ⟨e, e2⟩ | ⟨h, c, cs, e, _⟩
        · rw [ETK] at e2
          simp at e2
        · injection e with e1 _ _
          exact ⟨h, e1, HI0.out.ap _ e1⟩
      have HRG : Hid (∀ W : World, PI w W g gp B b e (some ⟨h, 0, none⟩) cap ps p (k + 1) p' → W.rangeAt h (k * 34) (pc q)) := hide (fun W HW => by
        rcases HW.own.lies with ⟨e, _⟩ | ⟨h', c, cs, e, _, hb, _, _, _, ht⟩
        · cases e
        · injection e with e1 _ _
          injection e1 with e1
          injection e1 with e1 _ _
          subst e1
          refine hb.range (k * 34) (pc q) ?_
          rw [← HQ0.out]
          have hpa := pcs_at (HGL.out.take (k + 1)) (i := k) (by rw [List.length_take]; omega)
          have e5 : pAt (ps.take (k + 1)) k = pAt ps k := by simp [pAt, List.getD]
          rw [e5, ← ht] at hpa
          rw [pc_length (pAt_good HGL.out hkl), ← hpa, List.drop_take, List.take_take]
          congr 1
          rw [List.length_take]
          omega)
      have HTK : Hid (ps.take (k + 1) = ps.take k ++ [q]) := hide (by rw [ETK, HQ0.out])
      clear ETK ERV hkl
      have HS3 : ∀ W : World, PI w W g gp B b e (some ⟨h, 0, none⟩) cap ps p (k + 1) p' → W.cell? ⟨g, 3, none⟩ = some (.slice (some ⟨h, 0, none⟩) (k + 1) cap) ∧ W.rangeAt h (k * 34) (nC q.1) ∧ W.rangeAt gp 0 (nC p'.1) := fun W HW => ⟨HW.c3, range_l (HRG.out W HW), range_l HW.rp⟩
      have hix := p_at h (k + 1) cap k (k : Int) rfl (by omega)
      have HPB := hide (pow_bd HI0.out.bd)
      by_cases hsb : sib q.1 p'.1 = true
      · have HSD : Hid (true = decide (q.1 = (p'.1.1, p'.1.2 ^^^ 1))) := hide (by rw [HSB.out, hsb])
        have HE2 : Hid (putS nd (ps.take k).reverse ((p'.1.1 + 1, p'.1.2 / 2), nd q.2 p'.2) = putS nd ps.reverse p) := hide (by have := HEQ.out; rwa [if_pos hsb] at this)
        have HSI := hide (sib_iff.1 hsb)
        clear hsb HSB HEQ
        have HNL := hide (nd_length q.2 p'.2)
        have HBD2 : Hid ((p'.1.2 / 2 + 1) * 2 ^ (p'.1.1 + 1) ≤ 281474976710656) := hide (by
          obtain ⟨s1, s2, s3⟩ := HSI.out
          have e1 : p'.1.2 / 2 + 1 = (p'.1.2 + 1) / 2 := by omega
          have e2 : (p'.1.2 + 1) / 2 * 2 = p'.1.2 + 1 := by omega
          rw [e1, Nat.pow_succ, Nat.mul_comm (2 ^ p'.1.1) 2, ← Nat.mul_assoc, e2]
          exact HI0.out.bd)
        have HG2 : Hid (Good ((p'.1.1 + 1, p'.1.2 / 2), nd q.2 p'.2)) := hide ⟨HNL.out, nd_isB q.2 p'.2, by have := HPB.out.1; simp; omega, by have := HPB.out.2; simp; omega⟩
        have HAB2 : Hid (Abut (ps.take k).reverse (p'.1.2 / 2 * 2 ^ (p'.1.1 + 1))) := hide (by
          obtain ⟨s1, s2, s3⟩ := HSI.out
          have e1 : p'.1.2 / 2 * 2 ^ (p'.1.1 + 1) = q.1.2 * 2 ^ q.1.1 := by
            rw [s1, Nat.pow_succ, Nat.mul_comm (2 ^ p'.1.1) 2, ← Nat.mul_assoc]
            congr 1
            omega
          rw [e1]
          exact HAB.out.2)
        have HS4 : ∀ W : World, PI w W g gp B b e (some ⟨h, 0, none⟩) cap ps p (k + 1) p' → W.cell? ⟨g, 3, none⟩ = some (.slice (some ⟨h, 0, none⟩) (k + 1) cap) ∧ W.rangeAt h (k * 34 + 2) (u8s q.2) := fun W HW => ⟨HW.c3, range_r (HRG.out W HW)⟩
        have HKS : Hid (¬ (2 = g ∨ (Value.slice (some ⟨h, 0, none⟩) (k + 1) cap).ownBlock = some 2)) := hide (by
          rintro (e | e)
          · omega
          · have := (HI0.out.own.lt _ e).1
            omega)
        go_wp2_with fail
        refine wp_region_noPanic ?_
        have HI := hide (HI0.out.below ((Below.refl _ _).drew))
        clear HI0
        refine wp_region_held_drew (S := fun v : World => v.cell? ⟨g, 3, none⟩ = some (.slice (some ⟨h, 0, none⟩) (k + 1) cap) ∧ v.rangeAt h (k * 34) (nC q.1) ∧ v.rangeAt gp 0 (nC p'.1)) (by kernel_rfl) (HS3 _ HI.out) (fun hHeld => ?_)
        refine takeH 0 11 (.int .i64 (k : Int)) hHeld rfl rfl (by kernel_rfl) (by kernel_rfl) (by kernel_rfl) (fun _ _ _ h => h) (Or.inl ⟨by rfl, fun w _ => by go_simp⟩) ?_
        simp only [Act.put, List.setIfInBounds_toArray, List.set_cons_zero, List.set_cons_succ]
        refine takeH 1 12 (.bool true) hHeld rfl rfl (by kernel_rfl) (by kernel_rfl) (by kernel_rfl) (fun _ _ _ h => h) (Or.inl ⟨by rfl, fun w _ => by go_simp⟩) ?_
        simp only [Act.put, List.setIfInBounds_toArray, List.set_cons_zero, List.set_cons_succ]
        refine takeH 2 13 (.bool true) hHeld rfl rfl (by kernel_rfl) (by kernel_rfl) (by kernel_rfl) (fun _ _ _ h => h) (Or.inl ⟨by rfl, fun w _ => by go_simp⟩) ?_
        simp only [Act.put, List.setIfInBounds_toArray, List.set_cons_zero, List.set_cons_succ]
        refine takeH 3 14 (.pointer (some ⟨g, 0, none⟩)) hHeld rfl rfl (by kernel_rfl) (by kernel_rfl) (by kernel_rfl) (fun _ _ _ h => h) (Or.inl ⟨by rfl, fun w _ => by go_simp⟩) ?_
        simp only [Act.put, List.setIfInBounds_toArray, List.set_cons_zero, List.set_cons_succ]
        refine takeH 4 15 (.pointer (some ⟨g, 0, none⟩)) hHeld rfl rfl (by kernel_rfl) (by kernel_rfl) (by kernel_rfl) (fun _ _ _ h => h) (Or.inl ⟨by rfl, fun w _ => by go_simp⟩) ?_
        simp only [Act.put, List.setIfInBounds_toArray, List.set_cons_zero, List.set_cons_succ]
        refine takeH 5 16 (.pointer (some ⟨g, 3, none⟩)) hHeld rfl rfl (by kernel_rfl) (by kernel_rfl) (by kernel_rfl) (fun _ _ _ h => h) (Or.inl ⟨by rfl, fun w _ => by go_simp⟩) ?_
        simp only [Act.put, List.setIfInBounds_toArray, List.set_cons_zero, List.set_cons_succ]
        refine takeH 6 17 (.slice (some ⟨h, 0, none⟩) (k + 1) cap) hHeld rfl rfl (by kernel_rfl) (by kernel_rfl) (by kernel_rfl) (fun _ _ _ h => h) (Or.inl ⟨by rfl, fun w hw => by have hw' : w.cell? ⟨g, 3, none⟩ = some (.slice (some ⟨h, 0, none⟩) (k + 1) cap) := (fun h => h.1) hw; go_simp⟩) ?_
        simp only [Act.put, List.setIfInBounds_toArray, List.set_cons_zero, List.set_cons_succ]
        refine takeH 7 18 (.int .i64 (k : Int)) hHeld rfl rfl (by kernel_rfl) (by kernel_rfl) (by kernel_rfl) (fun _ _ _ h => h) (Or.inl ⟨by rfl, fun w _ => by go_simp⟩) ?_
        simp only [Act.put, List.setIfInBounds_toArray, List.set_cons_zero, List.set_cons_succ]
        refine takeH 8 19 (.pointer (some ⟨h, k * 34, none⟩)) hHeld rfl rfl (by kernel_rfl) (by kernel_rfl) (by kernel_rfl) (fun _ _ _ h => h) (Or.inl ⟨by rfl, fun w _ => run_op rfl (hix w)⟩) ?_
        simp only [Act.put, List.setIfInBounds_toArray, List.set_cons_zero, List.set_cons_succ]
        refine takeH 9 20 (.pointer (some ⟨h, k * 34, none⟩)) hHeld rfl rfl (by kernel_rfl) (by kernel_rfl) (by kernel_rfl) (fun _ _ _ h => h) (Or.inl ⟨by rfl, fun w _ => by go_simp⟩) ?_
        simp only [Act.put, List.setIfInBounds_toArray, List.set_cons_zero, List.set_cons_succ]
        refine takeH 10 21 (.agg (nC q.1).toArray) hHeld rfl rfl (by kernel_rfl) (by kernel_rfl) (by kernel_rfl) (fun _ _ _ h => h) (yieldsIf_load_mid (by rfl) _ _ rfl h (k * 34) rfl _ _ (fun w h => h.2.1) huN hdN (by rw [wNd.size]; rfl)) ?_
        simp only [Act.put, List.setIfInBounds_toArray, List.set_cons_zero, List.set_cons_succ]
        refine takeH 11 22 (.pointer (some ⟨gp, 0, none⟩)) hHeld rfl rfl (by kernel_rfl) (by kernel_rfl) (by kernel_rfl) (fun _ _ _ h => h) (Or.inl ⟨by rfl, fun w _ => by go_simp⟩) ?_
        simp only [Act.put, List.setIfInBounds_toArray, List.set_cons_zero, List.set_cons_succ]
        refine takeH 12 23 (.agg (nC p'.1).toArray) hHeld rfl rfl (by kernel_rfl) (by kernel_rfl) (by kernel_rfl) (fun _ _ _ h => h) (yieldsIf_load_mid (by rfl) _ _ rfl gp 0 rfl _ _ (fun w h => h.2.2) huN hdN (by rw [wNd.size]; rfl)) ?_
        simp only [Act.put, List.setIfInBounds_toArray, List.set_cons_zero, List.set_cons_succ]
        refine wpAnyH_ready (rs := [13]) (by kernel_rfl) (by simp) (AllReadyH.cons rfl (fun K hK => ?_) AllReadyH.nil)
        rw [if_pos (by rfl)]
        go_simp
        refine (other_any p'.1 _ (by have := HPB.out.2; omega)).mono ?_
        rintro r W2 ⟨rfl, hb2⟩
        have HI2 := hide (HI.out.below hb2)
        refine hK.out _ _ ((HS3 _ HI2.out)) (fun hHeld => ?_)
        clear hK K
        refine takeH 14 25 (.bool true) hHeld rfl rfl (by kernel_rfl) (by kernel_rfl) (by kernel_rfl) (fun _ _ _ h => h) (Or.inl ⟨by rfl, fun v _ => run_eqNd _ _ HSD.out rfl rfl⟩) ?_
        simp only [Act.put, List.setIfInBounds_toArray, List.set_cons_zero, List.set_cons_succ]
        refine takeH 15 26 (.bool true) hHeld rfl rfl (by kernel_rfl) (by kernel_rfl) (by kernel_rfl) (fun _ _ _ h => h) (Or.inl ⟨by rfl, fun w _ => by go_simp⟩) ?_
        simp only [Act.put, List.setIfInBounds_toArray, List.set_cons_zero, List.set_cons_succ]
        refine wpAnyH_done (by kernel_rfl) ?_ _
        refine NoPanic.normal ?_
        clear hHeld HI hb2
        have HI := HI2
        clear HI2
        go_wp2_with fail
        refine wp_region_noPanic ?_
        have HJ := hide (HI.out.below ((Below.refl _ _).drew))
        refine wp_region_held_drew (S := fun v : World => v.cell? ⟨g, 3, none⟩ = some (.slice (some ⟨h, 0, none⟩) (k + 1) cap) ∧ v.rangeAt h (k * 34 + 2) (u8s q.2)) (by kernel_rfl) (HS4 _ HJ.out) (fun hHeld => ?_)
        refine takeH 0 29 (.pointer (some ⟨gp, 0, none⟩)) hHeld rfl rfl (by kernel_rfl) (by kernel_rfl) (by kernel_rfl) (fun _ _ _ h => h) (Or.inl ⟨by rfl, fun w _ => by go_simp⟩) ?_
        simp only [Act.put, List.setIfInBounds_toArray, List.set_cons_zero, List.set_cons_succ]
        refine takeH 3 32 (.pointer (some ⟨g, 0, none⟩)) hHeld rfl rfl (by kernel_rfl) (by kernel_rfl) (by kernel_rfl) (fun _ _ _ h => h) (Or.inl ⟨by rfl, fun w _ => by go_simp⟩) ?_
        simp only [Act.put, List.setIfInBounds_toArray, List.set_cons_zero, List.set_cons_succ]
        refine takeH 4 33 (.pointer (some ⟨g, 0, none⟩)) hHeld rfl rfl (by kernel_rfl) (by kernel_rfl) (by kernel_rfl) (fun _ _ _ h => h) (Or.inl ⟨by rfl, fun w _ => by go_simp⟩) ?_
        simp only [Act.put, List.setIfInBounds_toArray, List.set_cons_zero, List.set_cons_succ]
        refine takeH 5 34 (.pointer (some ⟨g, 3, none⟩)) hHeld rfl rfl (by kernel_rfl) (by kernel_rfl) (by kernel_rfl) (fun _ _ _ h => h) (Or.inl ⟨by rfl, fun w _ => by go_simp⟩) ?_
        simp only [Act.put, List.setIfInBounds_toArray, List.set_cons_zero, List.set_cons_succ]
        refine takeH 6 35 (.slice (some ⟨h, 0, none⟩) (k + 1) cap) hHeld rfl rfl (by kernel_rfl) (by kernel_rfl) (by kernel_rfl) (fun _ _ _ h => h) (Or.inl ⟨by rfl, fun w hw => by have hw' : w.cell? ⟨g, 3, none⟩ = some (.slice (some ⟨h, 0, none⟩) (k + 1) cap) := (fun h => h.1) hw; go_simp⟩) ?_
        simp only [Act.put, List.setIfInBounds_toArray, List.set_cons_zero, List.set_cons_succ]
        refine takeH 7 36 (.int .i64 (k : Int)) hHeld rfl rfl (by kernel_rfl) (by kernel_rfl) (by kernel_rfl) (fun _ _ _ h => h) (Or.inl ⟨by rfl, fun w _ => by go_simp⟩) ?_
        simp only [Act.put, List.setIfInBounds_toArray, List.set_cons_zero, List.set_cons_succ]
        refine takeH 8 37 (.pointer (some ⟨h, k * 34, none⟩)) hHeld rfl rfl (by kernel_rfl) (by kernel_rfl) (by kernel_rfl) (fun _ _ _ h => h) (Or.inl ⟨by rfl, fun w _ => run_op rfl (hix w)⟩) ?_
        simp only [Act.put, List.setIfInBounds_toArray, List.set_cons_zero, List.set_cons_succ]
        refine takeH 9 38 (.pointer (some ⟨h, k * 34 + 2, none⟩)) hHeld rfl rfl (by kernel_rfl) (by kernel_rfl) (by kernel_rfl) (fun _ _ _ h => h) (Or.inl ⟨by rfl, fun w _ => by go_simp⟩) ?_
        simp only [Act.put, List.setIfInBounds_toArray, List.set_cons_zero, List.set_cons_succ]
        refine takeH 10 39 (.agg (u8s q.2).toArray) hHeld rfl rfl (by kernel_rfl) (by kernel_rfl) (by kernel_rfl) (fun _ _ _ h => h) (yieldsIf_load_mid (by rfl) _ _ rfl h (k * 34 + 2) rfl _ _ (fun w h => h.2) huD hdD (by rw [wD.size, u8s_length, HQG.out.len])) ?_
        simp only [Act.put, List.setIfInBounds_toArray, List.set_cons_zero, List.set_cons_succ]
        refine takeH 11 40 (.pointer (some ⟨gp, 2, none⟩)) hHeld rfl rfl (by kernel_rfl) (by kernel_rfl) (by kernel_rfl) (fun _ _ _ h => h) (Or.inl ⟨by rfl, fun w _ => by go_simp⟩) ?_
        simp only [Act.put, List.setIfInBounds_toArray, List.set_cons_zero, List.set_cons_succ]
        refine wpAnyH_ready (rs := [1, 12]) (by kernel_rfl) (by simp) (AllReadyH.cons rfl (fun K hK => ?_) (AllReadyH.cons rfl (fun K hK => ?_) AllReadyH.nil))
        · rw [if_pos (by rfl)]
          refine wp_loadW wNd rfl rfl HJ.out.cp (nC p'.1) rfl rfl ?_
          refine hK.out _ _ (HS4 _ HJ.out) (fun hHeld => ?_)
          clear hK K
          simp only [Act.put]
          refine wpAnyH_ready (rs := [2, 12]) (by kernel_rfl) (by simp) (AllReadyH.cons rfl (fun K hK => ?_) (AllReadyH.cons rfl (fun K hK => ?_) AllReadyH.nil))
          · rw [if_pos (by rfl)]
            go_simp
            refine (above_any p'.1 _ (by have := HPB.out.2; omega) (by have := HPB.out.1; omega)).mono ?_
            rintro r WA ⟨rfl, hbA⟩
            have HJA := hide (HJ.out.below hbA)
            refine hK.out _ _ (HS4 _ HJA.out) (fun hHeld => ?_)
            clear hK K hbA HJ
            have HJ := HJA
            clear HJA
            refine wpAnyH_ready (rs := [12]) (by kernel_rfl) (by simp) (AllReadyH.cons rfl (fun K hK => ?_) AllReadyH.nil)
            rw [if_pos (by rfl)]
            refine wp_loadW wD rfl rfl HJ.out.cp (u8s p'.2) (by rw [u8s_length, HJ.out.good.len]) (by
              show ((pc p').drop 2).take 32 = u8s p'.2
              exact List.take_of_length_le (by rw [show (pc p').drop 2 = u8s p'.2 from rfl, u8s_length, HJ.out.good.len]; omega)) ?_
            refine hK.out _ _ (HS4 _ HJ.out) (fun hHeld => ?_)
            clear hK K
            simp only [Act.put]
            refine wpAnyH_ready (rs := [13]) (by kernel_rfl) (by simp) (AllReadyH.cons rfl (fun K hK => ?_) AllReadyH.nil)
            rw [if_pos (by rfl)]
            go_simp
            refine (node_any q.2 p'.2 _ HQG.out.len HQG.out.byte HJ.out.good.len HJ.out.good.byte (HK.out.chs HJ.out.chs HKS.out)).mono ?_
            rintro r WN ⟨rfl, hbN⟩
            have HJN := hide (HJ.out.below hbN)
            refine hK.out _ _ (HS4 _ HJN.out) (fun hHeld => ?_)
            clear hK K hbN
            refine takeH 14 43 (.agg (pc ((p'.1.1 + 1, p'.1.2 / 2), nd q.2 p'.2)).toArray) hHeld rfl rfl (by kernel_rfl) (by kernel_rfl) (by kernel_rfl) (fun _ _ _ h => h) (Or.inl ⟨by rfl, fun w _ => run_buildP rfl rfl HNL.out⟩) ?_
            simp only [Act.put, List.setIfInBounds_toArray, List.set_cons_zero, List.set_cons_succ]
            refine wpAnyH_ready (rs := [15]) (by kernel_rfl) (by simp) (AllReadyH.cons rfl (fun K hK => ?_) AllReadyH.nil)
            rw [if_pos (by rfl)]
            refine wp_storeW wP rfl rfl rfl HJN.out.cp (pc_length HG2.out) (One.pc _) (by rw [pc_length HJN.out.good]; omega) ?_
            intro WS hcS hbut
            have hcS2 : Blk WS gp 59 (pc ((p'.1.1 + 1, p'.1.2 / 2), nd q.2 p'.2)) := by
              have e1 : spl (pc p') (pc ((p'.1.1 + 1, p'.1.2 / 2), nd q.2 p'.2)) 0 = pc ((p'.1.1 + 1, p'.1.2 / 2), nd q.2 p'.2) := by
                unfold spl
                rw [List.drop_of_length_le (by rw [pc_length HG2.out, pc_length HJN.out.good]; omega)]
                simp
              rwa [e1] at hcS
            have hgS := HJN.out.cg.but hbut (HJN.out.cg.apart HJN.out.cp (by decide))
            have hoS := HJN.out.own.but hbut HJN.out.np
            have hchS := HJN.out.chs.thenBut hbut (.inr hlep)
            have hsS : WS.cell? ⟨g, 3, none⟩ = some (.slice (some ⟨h, 0, none⟩) (k + 1) cap) := by rw [hgS.cell]; rfl
            have hrS : WS.rangeAt h (k * 34 + 2) (u8s q.2) := fun j v hv => by
              rw [World.cell?_of_block (w := WN) (hbut.block h hhp)]
              exact (HS4 _ HJN.out).2 j v hv
            refine hK.out _ _ ⟨hsS, hrS⟩ (fun hHeld => ?_)
            clear hK K
            simp only [Act.put]
            refine wpAnyH_done (by kernel_rfl) ?_ _
            refine NoPanic.normal ?_
            have HGS := hide hgS
            have HOS := hide hoS
            have HCS := hide hcS2
            have HCHS := hide hchS
            have hfS : WS.frozen? ⟨g, 3, none⟩ = false := hgS.free 3
            have hcap : k ≤ cap := by
              rcases hoS.lies with ⟨e, _⟩ | ⟨_, c, _, e, _, _, hcc, _⟩
              · cases e
              · injection e with _ _ e3
                subst e3
                rw [List.length_take] at hcc
                have := HKL.out
                omega
            have hto := p_to h (k + 1) cap k (k : Int) rfl hcap
            have hwk : IntKind.i64.wrap ((k : Int) - 1) = (k : Int) - 1 := by rw [IntKind.wrap_i64]; have := HKL.out; have := HLEN.out; omega
            clear hHeld hgS hoS hcS hcS2 hchS hrS hbut
            go_wp2
            go_roundw
            case rel =>
              have hbut2 := But.setCell WS g 3 (.slice (some ⟨h, 0, none⟩) k cap)
              refine ⟨k, ((p'.1.1 + 1, p'.1.2 / 2), nd q.2 p'.2), by first | rfl | (rw [hwk]) | go_num, hide ⟨by have := HKL.out; omega, HG2.out, HBD2.out, HAB2.out, HE2.out, HCS.out.but hbut2 (Ne.symm (HGS.out.apart HCS.out (by decide))), HGS.out.set 3 _, ?_, fun x hx => by cases hx; exact hhp, ?_⟩⟩
              · refine POwn.but ?_ hbut2 (fun e => (HOS.out.apart HGS.out (by decide)) (by rw [← e]; rfl))
                rcases HOS.out.lies with ⟨e, _⟩ | ⟨h', c, cs, e, hB', hb, hcc, hmx, hcl, ht⟩
                · cases e
                · injection e with e1 _ e3
                  injection e1 with e1
                  injection e1 with e1 _ _
                  subst e1
                  subst e3
                  have hl2 : (ps.take k).length = k := by rw [List.length_take]; have := HKL.out; omega
                  have e1 := pcs_take (HGL.out.take (k + 1)) k (by rw [List.length_take]; have := HKL.out; omega)
                  rw [List.take_take, Nat.min_eq_left (by omega)] at e1
                  have := POwn.of (ps := ps.take k) (HGL.out.take k) hB' hb (by rw [hl2]; exact hcap) hmx hcl (by
                    rw [hl2, ← e1, ← ht, List.take_take]
                    congr 1
                    rw [List.length_take]
                    have := HKL.out
                    omega)
                  rwa [hl2] at this
              · exact HCHS.out.thenBut hbut2 (.inl (.inl rfl))
            case measure => simp [intOf]
          · rw [if_pos (by rfl)]
            refine wp_loadW wD rfl rfl HJ.out.cp (u8s p'.2) (by rw [u8s_length, HJ.out.good.len]) (by
              show ((pc p').drop 2).take 32 = u8s p'.2
              exact List.take_of_length_le (by rw [show (pc p').drop 2 = u8s p'.2 from rfl, u8s_length, HJ.out.good.len]; omega)) ?_
            refine hK.out _ _ (HS4 _ HJ.out) (fun hHeld => ?_)
            clear hK K
            simp only [Act.put]
            refine wpAnyH_ready (rs := [2]) (by kernel_rfl) (by simp) (AllReadyH.cons rfl (fun K hK => ?_) AllReadyH.nil)
            rw [if_pos (by rfl)]
            go_simp
            refine (above_any p'.1 _ (by have := HPB.out.2; omega) (by have := HPB.out.1; omega)).mono ?_
            rintro r WA ⟨rfl, hbA⟩
            have HJA := hide (HJ.out.below hbA)
            refine hK.out _ _ (HS4 _ HJA.out) (fun hHeld => ?_)
            clear hK K hbA HJ
            have HJ := HJA
            clear HJA
            refine wpAnyH_ready (rs := [13]) (by kernel_rfl) (by simp) (AllReadyH.cons rfl (fun K hK => ?_) AllReadyH.nil)
            rw [if_pos (by rfl)]
            go_simp
            refine (node_any q.2 p'.2 _ HQG.out.len HQG.out.byte HJ.out.good.len HJ.out.good.byte (HK.out.chs HJ.out.chs HKS.out)).mono ?_
            rintro r WN ⟨rfl, hbN⟩
            have HJN := hide (HJ.out.below hbN)
            refine hK.out _ _ (HS4 _ HJN.out) (fun hHeld => ?_)
            clear hK K hbN
            refine takeH 14 43 (.agg (pc ((p'.1.1 + 1, p'.1.2 / 2), nd q.2 p'.2)).toArray) hHeld rfl rfl (by kernel_rfl) (by kernel_rfl) (by kernel_rfl) (fun _ _ _ h => h) (Or.inl ⟨by rfl, fun w _ => run_buildP rfl rfl HNL.out⟩) ?_
            simp only [Act.put, List.setIfInBounds_toArray, List.set_cons_zero, List.set_cons_succ]
            refine wpAnyH_ready (rs := [15]) (by kernel_rfl) (by simp) (AllReadyH.cons rfl (fun K hK => ?_) AllReadyH.nil)
            rw [if_pos (by rfl)]
            refine wp_storeW wP rfl rfl rfl HJN.out.cp (pc_length HG2.out) (One.pc _) (by rw [pc_length HJN.out.good]; omega) ?_
            intro WS hcS hbut
            have hcS2 : Blk WS gp 59 (pc ((p'.1.1 + 1, p'.1.2 / 2), nd q.2 p'.2)) := by
              have e1 : spl (pc p') (pc ((p'.1.1 + 1, p'.1.2 / 2), nd q.2 p'.2)) 0 = pc ((p'.1.1 + 1, p'.1.2 / 2), nd q.2 p'.2) := by
                unfold spl
                rw [List.drop_of_length_le (by rw [pc_length HG2.out, pc_length HJN.out.good]; omega)]
                simp
              rwa [e1] at hcS
            have hgS := HJN.out.cg.but hbut (HJN.out.cg.apart HJN.out.cp (by decide))
            have hoS := HJN.out.own.but hbut HJN.out.np
            have hchS := HJN.out.chs.thenBut hbut (.inr hlep)
            have hsS : WS.cell? ⟨g, 3, none⟩ = some (.slice (some ⟨h, 0, none⟩) (k + 1) cap) := by rw [hgS.cell]; rfl
            have hrS : WS.rangeAt h (k * 34 + 2) (u8s q.2) := fun j v hv => by
              rw [World.cell?_of_block (w := WN) (hbut.block h hhp)]
              exact (HS4 _ HJN.out).2 j v hv
            refine hK.out _ _ ⟨hsS, hrS⟩ (fun hHeld => ?_)
            clear hK K
            simp only [Act.put]
            refine wpAnyH_done (by kernel_rfl) ?_ _
            refine NoPanic.normal ?_
            have HGS := hide hgS
            have HOS := hide hoS
            have HCS := hide hcS2
            have HCHS := hide hchS
            have hfS : WS.frozen? ⟨g, 3, none⟩ = false := hgS.free 3
            have hcap : k ≤ cap := by
              rcases hoS.lies with ⟨e, _⟩ | ⟨_, c, _, e, _, _, hcc, _⟩
              · cases e
              · injection e with _ _ e3
                subst e3
                rw [List.length_take] at hcc
                have := HKL.out
                omega
            have hto := p_to h (k + 1) cap k (k : Int) rfl hcap
            have hwk : IntKind.i64.wrap ((k : Int) - 1) = (k : Int) - 1 := by rw [IntKind.wrap_i64]; have := HKL.out; have := HLEN.out; omega
            clear hHeld hgS hoS hcS hcS2 hchS hrS hbut
            go_wp2
            go_roundw
            case rel =>
              have hbut2 := But.setCell WS g 3 (.slice (some ⟨h, 0, none⟩) k cap)
              refine ⟨k, ((p'.1.1 + 1, p'.1.2 / 2), nd q.2 p'.2), by first | rfl | (rw [hwk]) | go_num, hide ⟨by have := HKL.out; omega, HG2.out, HBD2.out, HAB2.out, HE2.out, HCS.out.but hbut2 (Ne.symm (HGS.out.apart HCS.out (by decide))), HGS.out.set 3 _, ?_, fun x hx => by cases hx; exact hhp, ?_⟩⟩
              · refine POwn.but ?_ hbut2 (fun e => (HOS.out.apart HGS.out (by decide)) (by rw [← e]; rfl))
                rcases HOS.out.lies with ⟨e, _⟩ | ⟨h', c, cs, e, hB', hb, hcc, hmx, hcl, ht⟩
                · cases e
                · injection e with e1 _ e3
                  injection e1 with e1
                  injection e1 with e1 _ _
                  subst e1
                  subst e3
                  have hl2 : (ps.take k).length = k := by rw [List.length_take]; have := HKL.out; omega
                  have e1 := pcs_take (HGL.out.take (k + 1)) k (by rw [List.length_take]; have := HKL.out; omega)
                  rw [List.take_take, Nat.min_eq_left (by omega)] at e1
                  have := POwn.of (ps := ps.take k) (HGL.out.take k) hB' hb (by rw [hl2]; exact hcap) hmx hcl (by
                    rw [hl2, ← e1, ← ht, List.take_take]
                    congr 1
                    rw [List.length_take]
                    have := HKL.out
                    omega)
                  rwa [hl2] at this
              · exact HCHS.out.thenBut hbut2 (.inl (.inl rfl))
            case measure => simp [intOf]
        · rw [if_pos (by rfl)]
          refine wp_loadW wD rfl rfl HJ.out.cp (u8s p'.2) (by rw [u8s_length, HJ.out.good.len]) (by
            show ((pc p').drop 2).take 32 = u8s p'.2
            exact List.take_of_length_le (by rw [show (pc p').drop 2 = u8s p'.2 from rfl, u8s_length, HJ.out.good.len]; omega)) ?_
          refine hK.out _ _ (HS4 _ HJ.out) (fun hHeld => ?_)
          clear hK K
          simp only [Act.put]
          refine wpAnyH_ready (rs := [1]) (by kernel_rfl) (by simp) (AllReadyH.cons rfl (fun K hK => ?_) AllReadyH.nil)
          rw [if_pos (by rfl)]
          refine wp_loadW wNd rfl rfl HJ.out.cp (nC p'.1) rfl rfl ?_
          refine hK.out _ _ (HS4 _ HJ.out) (fun hHeld => ?_)
          clear hK K
          simp only [Act.put]
          refine wpAnyH_ready (rs := [2]) (by kernel_rfl) (by simp) (AllReadyH.cons rfl (fun K hK => ?_) AllReadyH.nil)
          rw [if_pos (by rfl)]
          go_simp
          refine (above_any p'.1 _ (by have := HPB.out.2; omega) (by have := HPB.out.1; omega)).mono ?_
          rintro r WA ⟨rfl, hbA⟩
          have HJA := hide (HJ.out.below hbA)
          refine hK.out _ _ (HS4 _ HJA.out) (fun hHeld => ?_)
          clear hK K hbA HJ
          have HJ := HJA
          clear HJA
          refine wpAnyH_ready (rs := [13]) (by kernel_rfl) (by simp) (AllReadyH.cons rfl (fun K hK => ?_) AllReadyH.nil)
          rw [if_pos (by rfl)]
          go_simp
          refine (node_any q.2 p'.2 _ HQG.out.len HQG.out.byte HJ.out.good.len HJ.out.good.byte (HK.out.chs HJ.out.chs HKS.out)).mono ?_
          rintro r WN ⟨rfl, hbN⟩
          have HJN := hide (HJ.out.below hbN)
          refine hK.out _ _ (HS4 _ HJN.out) (fun hHeld => ?_)
          clear hK K hbN
          refine takeH 14 43 (.agg (pc ((p'.1.1 + 1, p'.1.2 / 2), nd q.2 p'.2)).toArray) hHeld rfl rfl (by kernel_rfl) (by kernel_rfl) (by kernel_rfl) (fun _ _ _ h => h) (Or.inl ⟨by rfl, fun w _ => run_buildP rfl rfl HNL.out⟩) ?_
          simp only [Act.put, List.setIfInBounds_toArray, List.set_cons_zero, List.set_cons_succ]
          refine wpAnyH_ready (rs := [15]) (by kernel_rfl) (by simp) (AllReadyH.cons rfl (fun K hK => ?_) AllReadyH.nil)
          rw [if_pos (by rfl)]
          refine wp_storeW wP rfl rfl rfl HJN.out.cp (pc_length HG2.out) (One.pc _) (by rw [pc_length HJN.out.good]; omega) ?_
          intro WS hcS hbut
          have hcS2 : Blk WS gp 59 (pc ((p'.1.1 + 1, p'.1.2 / 2), nd q.2 p'.2)) := by
            have e1 : spl (pc p') (pc ((p'.1.1 + 1, p'.1.2 / 2), nd q.2 p'.2)) 0 = pc ((p'.1.1 + 1, p'.1.2 / 2), nd q.2 p'.2) := by
              unfold spl
              rw [List.drop_of_length_le (by rw [pc_length HG2.out, pc_length HJN.out.good]; omega)]
              simp
            rwa [e1] at hcS
          have hgS := HJN.out.cg.but hbut (HJN.out.cg.apart HJN.out.cp (by decide))
          have hoS := HJN.out.own.but hbut HJN.out.np
          have hchS := HJN.out.chs.thenBut hbut (.inr hlep)
          have hsS : WS.cell? ⟨g, 3, none⟩ = some (.slice (some ⟨h, 0, none⟩) (k + 1) cap) := by rw [hgS.cell]; rfl
          have hrS : WS.rangeAt h (k * 34 + 2) (u8s q.2) := fun j v hv => by
            rw [World.cell?_of_block (w := WN) (hbut.block h hhp)]
            exact (HS4 _ HJN.out).2 j v hv
          refine hK.out _ _ ⟨hsS, hrS⟩ (fun hHeld => ?_)
          clear hK K
          simp only [Act.put]
          refine wpAnyH_done (by kernel_rfl) ?_ _
          refine NoPanic.normal ?_
          have HGS := hide hgS
          have HOS := hide hoS
          have HCS := hide hcS2
          have HCHS := hide hchS
          have hfS : WS.frozen? ⟨g, 3, none⟩ = false := hgS.free 3
          have hcap : k ≤ cap := by
            rcases hoS.lies with ⟨e, _⟩ | ⟨_, c, _, e, _, _, hcc, _⟩
            · cases e
            · injection e with _ _ e3
              subst e3
              rw [List.length_take] at hcc
              have := HKL.out
              omega
          have hto := p_to h (k + 1) cap k (k : Int) rfl hcap
          have hwk : IntKind.i64.wrap ((k : Int) - 1) = (k : Int) - 1 := by rw [IntKind.wrap_i64]; have := HKL.out; have := HLEN.out; omega
          clear hHeld hgS hoS hcS hcS2 hchS hrS hbut
          go_wp2
          go_roundw
          case rel =>
            have hbut2 := But.setCell WS g 3 (.slice (some ⟨h, 0, none⟩) k cap)
            refine ⟨k, ((p'.1.1 + 1, p'.1.2 / 2), nd q.2 p'.2), by first | rfl | (rw [hwk]) | go_num, hide ⟨by have := HKL.out; omega, HG2.out, HBD2.out, HAB2.out, HE2.out, HCS.out.but hbut2 (Ne.symm (HGS.out.apart HCS.out (by decide))), HGS.out.set 3 _, ?_, fun x hx => by cases hx; exact hhp, ?_⟩⟩
            · refine POwn.but ?_ hbut2 (fun e => (HOS.out.apart HGS.out (by decide)) (by rw [← e]; rfl))
              rcases HOS.out.lies with ⟨e, _⟩ | ⟨h', c, cs, e, hB', hb, hcc, hmx, hcl, ht⟩
              · cases e
              · injection e with e1 _ e3
                injection e1 with e1
                injection e1 with e1 _ _
                subst e1
                subst e3
                have hl2 : (ps.take k).length = k := by rw [List.length_take]; have := HKL.out; omega
                have e1 := pcs_take (HGL.out.take (k + 1)) k (by rw [List.length_take]; have := HKL.out; omega)
                rw [List.take_take, Nat.min_eq_left (by omega)] at e1
                have := POwn.of (ps := ps.take k) (HGL.out.take k) hB' hb (by rw [hl2]; exact hcap) hmx hcl (by
                  rw [hl2, ← e1, ← ht, List.take_take]
                  congr 1
                  rw [List.length_take]
                  have := HKL.out
                  omega)
                rwa [hl2] at this
            · exact HCHS.out.thenBut hbut2 (.inl (.inl rfl))
          case measure => simp [intOf]
      · have HSD : Hid (false = decide (q.1 = (p'.1.1, p'.1.2 ^^^ 1))) := hide (by rw [HSB.out]; simpa using hsb)
        have HPL : Hid (putL ps p = ps.take (k + 1) ++ [p']) := hide (by
          have := HEQ.out
          rw [if_neg hsb] at this
          unfold putL
          rw [← this, HTK.out]
          simp)
        clear hsb HSB HEQ
        go_wp2_with fail
        refine wp_region_noPanic ?_
        have HI := hide (HI0.out.below ((Below.refl _ _).drew))
        clear HI0
        refine wp_region_held_drew (S := fun v : World => v.cell? ⟨g, 3, none⟩ = some (.slice (some ⟨h, 0, none⟩) (k + 1) cap) ∧ v.rangeAt h (k * 34) (nC q.1) ∧ v.rangeAt gp 0 (nC p'.1)) (by kernel_rfl) (HS3 _ HI.out) (fun hHeld => ?_)
        refine takeH 0 11 (.int .i64 (k : Int)) hHeld rfl rfl (by kernel_rfl) (by kernel_rfl) (by kernel_rfl) (fun _ _ _ h => h) (Or.inl ⟨by rfl, fun w _ => by go_simp⟩) ?_
        simp only [Act.put, List.setIfInBounds_toArray, List.set_cons_zero, List.set_cons_succ]
        refine takeH 1 12 (.bool true) hHeld rfl rfl (by kernel_rfl) (by kernel_rfl) (by kernel_rfl) (fun _ _ _ h => h) (Or.inl ⟨by rfl, fun w _ => by go_simp⟩) ?_
        simp only [Act.put, List.setIfInBounds_toArray, List.set_cons_zero, List.set_cons_succ]
        refine takeH 2 13 (.bool true) hHeld rfl rfl (by kernel_rfl) (by kernel_rfl) (by kernel_rfl) (fun _ _ _ h => h) (Or.inl ⟨by rfl, fun w _ => by go_simp⟩) ?_
        simp only [Act.put, List.setIfInBounds_toArray, List.set_cons_zero, List.set_cons_succ]
        refine takeH 3 14 (.pointer (some ⟨g, 0, none⟩)) hHeld rfl rfl (by kernel_rfl) (by kernel_rfl) (by kernel_rfl) (fun _ _ _ h => h) (Or.inl ⟨by rfl, fun w _ => by go_simp⟩) ?_
        simp only [Act.put, List.setIfInBounds_toArray, List.set_cons_zero, List.set_cons_succ]
        refine takeH 4 15 (.pointer (some ⟨g, 0, none⟩)) hHeld rfl rfl (by kernel_rfl) (by kernel_rfl) (by kernel_rfl) (fun _ _ _ h => h) (Or.inl ⟨by rfl, fun w _ => by go_simp⟩) ?_
        simp only [Act.put, List.setIfInBounds_toArray, List.set_cons_zero, List.set_cons_succ]
        refine takeH 5 16 (.pointer (some ⟨g, 3, none⟩)) hHeld rfl rfl (by kernel_rfl) (by kernel_rfl) (by kernel_rfl) (fun _ _ _ h => h) (Or.inl ⟨by rfl, fun w _ => by go_simp⟩) ?_
        simp only [Act.put, List.setIfInBounds_toArray, List.set_cons_zero, List.set_cons_succ]
        refine takeH 6 17 (.slice (some ⟨h, 0, none⟩) (k + 1) cap) hHeld rfl rfl (by kernel_rfl) (by kernel_rfl) (by kernel_rfl) (fun _ _ _ h => h) (Or.inl ⟨by rfl, fun w hw => by have hw' : w.cell? ⟨g, 3, none⟩ = some (.slice (some ⟨h, 0, none⟩) (k + 1) cap) := (fun h => h.1) hw; go_simp⟩) ?_
        simp only [Act.put, List.setIfInBounds_toArray, List.set_cons_zero, List.set_cons_succ]
        refine takeH 7 18 (.int .i64 (k : Int)) hHeld rfl rfl (by kernel_rfl) (by kernel_rfl) (by kernel_rfl) (fun _ _ _ h => h) (Or.inl ⟨by rfl, fun w _ => by go_simp⟩) ?_
        simp only [Act.put, List.setIfInBounds_toArray, List.set_cons_zero, List.set_cons_succ]
        refine takeH 8 19 (.pointer (some ⟨h, k * 34, none⟩)) hHeld rfl rfl (by kernel_rfl) (by kernel_rfl) (by kernel_rfl) (fun _ _ _ h => h) (Or.inl ⟨by rfl, fun w _ => run_op rfl (hix w)⟩) ?_
        simp only [Act.put, List.setIfInBounds_toArray, List.set_cons_zero, List.set_cons_succ]
        refine takeH 9 20 (.pointer (some ⟨h, k * 34, none⟩)) hHeld rfl rfl (by kernel_rfl) (by kernel_rfl) (by kernel_rfl) (fun _ _ _ h => h) (Or.inl ⟨by rfl, fun w _ => by go_simp⟩) ?_
        simp only [Act.put, List.setIfInBounds_toArray, List.set_cons_zero, List.set_cons_succ]
        refine takeH 10 21 (.agg (nC q.1).toArray) hHeld rfl rfl (by kernel_rfl) (by kernel_rfl) (by kernel_rfl) (fun _ _ _ h => h) (yieldsIf_load_mid (by rfl) _ _ rfl h (k * 34) rfl _ _ (fun w h => h.2.1) huN hdN (by rw [wNd.size]; rfl)) ?_
        simp only [Act.put, List.setIfInBounds_toArray, List.set_cons_zero, List.set_cons_succ]
        refine takeH 11 22 (.pointer (some ⟨gp, 0, none⟩)) hHeld rfl rfl (by kernel_rfl) (by kernel_rfl) (by kernel_rfl) (fun _ _ _ h => h) (Or.inl ⟨by rfl, fun w _ => by go_simp⟩) ?_
        simp only [Act.put, List.setIfInBounds_toArray, List.set_cons_zero, List.set_cons_succ]
        refine takeH 12 23 (.agg (nC p'.1).toArray) hHeld rfl rfl (by kernel_rfl) (by kernel_rfl) (by kernel_rfl) (fun _ _ _ h => h) (yieldsIf_load_mid (by rfl) _ _ rfl gp 0 rfl _ _ (fun w h => h.2.2) huN hdN (by rw [wNd.size]; rfl)) ?_
        simp only [Act.put, List.setIfInBounds_toArray, List.set_cons_zero, List.set_cons_succ]
        refine wpAnyH_ready (rs := [13]) (by kernel_rfl) (by simp) (AllReadyH.cons rfl (fun K hK => ?_) AllReadyH.nil)
        rw [if_pos (by rfl)]
        go_simp
        refine (other_any p'.1 _ (by have := HPB.out.2; omega)).mono ?_
        rintro r W2 ⟨rfl, hb2⟩
        have HI2 := hide (HI.out.below hb2)
        refine hK.out _ _ ((HS3 _ HI2.out)) (fun hHeld => ?_)
        clear hK K
        refine takeH 14 25 (.bool false) hHeld rfl rfl (by kernel_rfl) (by kernel_rfl) (by kernel_rfl) (fun _ _ _ h => h) (Or.inl ⟨by rfl, fun v _ => run_eqNd _ _ HSD.out rfl rfl⟩) ?_
        simp only [Act.put, List.setIfInBounds_toArray, List.set_cons_zero, List.set_cons_succ]
        refine takeH 15 26 (.bool false) hHeld rfl rfl (by kernel_rfl) (by kernel_rfl) (by kernel_rfl) (fun _ _ _ h => h) (Or.inl ⟨by rfl, fun w _ => by go_simp⟩) ?_
        simp only [Act.put, List.setIfInBounds_toArray, List.set_cons_zero, List.set_cons_succ]
        refine wpAnyH_done (by kernel_rfl) ?_ _
        refine NoPanic.normal ?_
        clear hHeld HI hb2
        have HI := HI2
        clear HI2
        go_wp2_with fail
        refine wp_region_noPanic ?_
        have JA := hide (HI.out.below ((Below.refl _ _).drew))
        refine wp_region_held_drew (S := fun v : World => v.rangeAt gp 0 (pc p')) (by kernel_rfl) JA.out.rp (fun hHeld => ?_)
        refine takeH 0 53 (.pointer (some ⟨g, 0, none⟩)) hHeld rfl rfl (by kernel_rfl) (by kernel_rfl) (by kernel_rfl) (fun _ _ _ h => h) (Or.inl ⟨by rfl, fun w _ => by go_simp⟩) ?_
        simp only [Act.put, List.setIfInBounds_toArray, List.set_cons_zero, List.set_cons_succ]
        refine takeH 1 54 (.pointer (some ⟨g, 0, none⟩)) hHeld rfl rfl (by kernel_rfl) (by kernel_rfl) (by kernel_rfl) (fun _ _ _ h => h) (Or.inl ⟨by rfl, fun w _ => by go_simp⟩) ?_
        simp only [Act.put, List.setIfInBounds_toArray, List.set_cons_zero, List.set_cons_succ]
        refine takeH 2 55 (.pointer (some ⟨g, 0, none⟩)) hHeld rfl rfl (by kernel_rfl) (by kernel_rfl) (by kernel_rfl) (fun _ _ _ h => h) (Or.inl ⟨by rfl, fun w _ => by go_simp⟩) ?_
        simp only [Act.put, List.setIfInBounds_toArray, List.set_cons_zero, List.set_cons_succ]
        refine takeH 3 56 (.pointer (some ⟨g, 3, none⟩)) hHeld rfl rfl (by kernel_rfl) (by kernel_rfl) (by kernel_rfl) (fun _ _ _ h => h) (Or.inl ⟨by rfl, fun w _ => by go_simp⟩) ?_
        simp only [Act.put, List.setIfInBounds_toArray, List.set_cons_zero, List.set_cons_succ]
        refine takeH 5 58 (.agg (pc p').toArray) hHeld rfl rfl (by kernel_rfl) (by kernel_rfl) (by kernel_rfl) (fun _ _ _ h => h) (yieldsIf_load_mid (by rfl) _ _ rfl gp 0 rfl _ _ (fun w h => h) huP hdP (by rw [wP.size, pc_length JA.out.good])) ?_
        simp only [Act.put, List.setIfInBounds_toArray, List.set_cons_zero, List.set_cons_succ]
        refine wpAnyH_ready (rs := [4, 6]) (by kernel_rfl) (by simp) (AllReadyH.cons rfl (fun K hK => ?_) (AllReadyH.cons rfl (fun K hK => ?_) AllReadyH.nil))
        · rw [if_pos (by rfl)]
          have hc3 := JA.out.c3
          go_simp
          refine hK.out _ _ JA.out.rp (fun hHeld => ?_)
          clear hK K hc3
          refine wpAnyH_ready (rs := [6]) (by kernel_rfl) (by simp) (AllReadyH.cons rfl (fun K hK => ?_) AllReadyH.nil)
          rw [if_pos (by rfl)]
          refine wp_oneP rfl JA.out.good ?_
          intro W3 gq hq hleq hb3
          have JB := hide (JA.out.below hb3)
          have HQ := hide hq
          refine hK.out _ _ JB.out.rp (fun hHeld => ?_)
          clear hK K hq
          simp only [Act.put]
          refine wpAnyH_ready (rs := [7]) (by kernel_rfl) (by simp) (AllReadyH.cons rfl (fun K hK => ?_) AllReadyH.nil)
          rw [if_pos (by rfl)]
          refine wp_appendP (B := B) rfl rfl (JB.out.own) HQ.out JB.out.good (by have := HLEN.out; have := JB.out.hm; rw [List.length_take]; omega) (by have := JB.out.chs.size; omega) ?_
          intro v4 W4 ho4 hg4 hnb4
          obtain ⟨a4, n4, c4, rfl⟩ : ∃ a n c, v4 = Value.slice a n c := by rcases ho4.lies with ⟨rfl, _⟩ | ⟨_, _, _, rfl, _⟩ <;> exact ⟨_, _, _, rfl⟩
          have hcg4 : Blk W4 g 54 (rgC b e (.slice (some ⟨h, 0, none⟩) (k + 1) cap)) := by
            unfold Blk
            rw [hg4.block g JB.out.cg.lt (fun e => (JB.out.own.apart JB.out.cg (by decide)) e.symm)]
            exact JB.out.cg
          have hcp4 : Blk W4 gp 59 (pc p') := by
            unfold Blk
            rw [hg4.block gp JB.out.cp.lt (fun e => JB.out.np e.symm)]
            exact JB.out.cp
          have hch4 := JB.out.chs.thenGrown hg4 (fun k hk => .inl (.inr hk))
          have hrp4 : W4.rangeAt gp 0 (pc p') := hcp4.range 0 (pc p') (by rw [List.drop_zero, List.take_of_length_le (Nat.le_refl _)])
          have HCG := hide hcg4
          have HCP := hide hcp4
          have HO4 := hide ho4
          have HCH := hide hch4
          have HNB : Hid (∀ k, (Value.slice a4 n4 c4).ownBlock = some k → (Value.slice (some ⟨h, 0, none⟩) (k + 1) cap).ownBlock = some k ∨ w.heap.size ≤ k) := hide (fun k hk => (hnb4 k hk).imp id (fun h => Nat.le_trans JB.out.chs.size h))
          refine hK.out _ _ hrp4 (fun hHeld => ?_)
          clear hK K hg4 hcg4 hcp4 hch4 ho4 hrp4 hnb4
          simp only [Act.put]
          refine takeH 8 61 (.pointer (some ⟨g, 0, none⟩)) hHeld rfl rfl (by kernel_rfl) (by kernel_rfl) (by kernel_rfl) (fun _ _ _ h => h) (Or.inl ⟨by rfl, fun w _ => by go_simp⟩) ?_
          simp only [Act.put, List.setIfInBounds_toArray, List.set_cons_zero, List.set_cons_succ]
          refine takeH 9 62 (.pointer (some ⟨g, 3, none⟩)) hHeld rfl rfl (by kernel_rfl) (by kernel_rfl) (by kernel_rfl) (fun _ _ _ h => h) (Or.inl ⟨by rfl, fun w _ => by go_simp⟩) ?_
          simp only [Act.put, List.setIfInBounds_toArray, List.set_cons_zero, List.set_cons_succ]
          have hc3 : W4.cell? ⟨g, 3, none⟩ = some (.slice (some ⟨h, 0, none⟩) (k + 1) cap) := by rw [HCG.out.cell]; rfl
          have hf3 : W4.frozen? ⟨g, 3, none⟩ = false := HCG.out.free 3
          refine wpAnyH_ready (rs := [10]) (by kernel_rfl) (by simp) (AllReadyH.cons rfl (fun K hK => ?_) AllReadyH.nil)
          rw [if_pos (by rfl)]
          go_simp
          have hbut := But.setCell W4 g 3 (.slice a4 n4 c4)
          have hgp : g ≠ gp := HCG.out.apart HCP.out (by decide)
          refine hK.out _ _ ((HCP.out.but hbut (Ne.symm hgp)).range 0 (pc p') (by rw [List.drop_zero, List.take_of_length_le (Nat.le_refl _)])) (fun hHeld => ?_)
          clear hK K
          refine wpAnyH_done (by kernel_rfl) ?_ _
          refine NoPanic.normal ?_
          clear hHeld
          go_wp2
          go_end0
          refine ⟨_, .slice a4 n4 c4, rfl, ?_, ?_, ?_, ?_, ?_⟩
          · exact HCG.out.set 3 _
          · rw [HPL.out]
            exact HO4.out.but hbut (HO4.out.apart HCG.out (by decide))
          · rw [HPL.out]
            exact (HGL.out.take ((k + 1))).snoc JB.out.good
          · simp only [own_len (some ⟨h, 0, none⟩) ps.length (k + 1) cap cap]
            exact HCH.out.thenBut hbut (.inl (.inl rfl))
          · simp only [own_len (some ⟨h, 0, none⟩) ps.length (k + 1) cap cap]
            exact HNB.out
        · rw [if_pos (by rfl)]
          refine wp_oneP rfl JA.out.good ?_
          intro W3 gq hq hleq hb3
          have JB := hide (JA.out.below hb3)
          have HQ := hide hq
          refine hK.out _ _ JB.out.rp (fun hHeld => ?_)
          clear hK K hq
          simp only [Act.put]
          have hc3 := JB.out.c3
          refine wpAnyH_ready (rs := [4]) (by kernel_rfl) (by simp) (AllReadyH.cons rfl (fun K hK => ?_) AllReadyH.nil)
          rw [if_pos (by rfl)]
          go_simp
          refine hK.out _ _ JB.out.rp (fun hHeld => ?_)
          clear hK K hc3
          refine wpAnyH_ready (rs := [7]) (by kernel_rfl) (by simp) (AllReadyH.cons rfl (fun K hK => ?_) AllReadyH.nil)
          rw [if_pos (by rfl)]
          refine wp_appendP (B := B) rfl rfl (JB.out.own) HQ.out JB.out.good (by have := HLEN.out; have := JB.out.hm; rw [List.length_take]; omega) (by have := JB.out.chs.size; omega) ?_
          intro v4 W4 ho4 hg4 hnb4
          obtain ⟨a4, n4, c4, rfl⟩ : ∃ a n c, v4 = Value.slice a n c := by rcases ho4.lies with ⟨rfl, _⟩ | ⟨_, _, _, rfl, _⟩ <;> exact ⟨_, _, _, rfl⟩
          have hcg4 : Blk W4 g 54 (rgC b e (.slice (some ⟨h, 0, none⟩) (k + 1) cap)) := by
            unfold Blk
            rw [hg4.block g JB.out.cg.lt (fun e => (JB.out.own.apart JB.out.cg (by decide)) e.symm)]
            exact JB.out.cg
          have hcp4 : Blk W4 gp 59 (pc p') := by
            unfold Blk
            rw [hg4.block gp JB.out.cp.lt (fun e => JB.out.np e.symm)]
            exact JB.out.cp
          have hch4 := JB.out.chs.thenGrown hg4 (fun k hk => .inl (.inr hk))
          have hrp4 : W4.rangeAt gp 0 (pc p') := hcp4.range 0 (pc p') (by rw [List.drop_zero, List.take_of_length_le (Nat.le_refl _)])
          have HCG := hide hcg4
          have HCP := hide hcp4
          have HO4 := hide ho4
          have HCH := hide hch4
          have HNB : Hid (∀ k, (Value.slice a4 n4 c4).ownBlock = some k → (Value.slice (some ⟨h, 0, none⟩) (k + 1) cap).ownBlock = some k ∨ w.heap.size ≤ k) := hide (fun k hk => (hnb4 k hk).imp id (fun h => Nat.le_trans JB.out.chs.size h))
          refine hK.out _ _ hrp4 (fun hHeld => ?_)
          clear hK K hg4 hcg4 hcp4 hch4 ho4 hrp4 hnb4
          simp only [Act.put]
          refine takeH 8 61 (.pointer (some ⟨g, 0, none⟩)) hHeld rfl rfl (by kernel_rfl) (by kernel_rfl) (by kernel_rfl) (fun _ _ _ h => h) (Or.inl ⟨by rfl, fun w _ => by go_simp⟩) ?_
          simp only [Act.put, List.setIfInBounds_toArray, List.set_cons_zero, List.set_cons_succ]
          refine takeH 9 62 (.pointer (some ⟨g, 3, none⟩)) hHeld rfl rfl (by kernel_rfl) (by kernel_rfl) (by kernel_rfl) (fun _ _ _ h => h) (Or.inl ⟨by rfl, fun w _ => by go_simp⟩) ?_
          simp only [Act.put, List.setIfInBounds_toArray, List.set_cons_zero, List.set_cons_succ]
          have hc3 : W4.cell? ⟨g, 3, none⟩ = some (.slice (some ⟨h, 0, none⟩) (k + 1) cap) := by rw [HCG.out.cell]; rfl
          have hf3 : W4.frozen? ⟨g, 3, none⟩ = false := HCG.out.free 3
          refine wpAnyH_ready (rs := [10]) (by kernel_rfl) (by simp) (AllReadyH.cons rfl (fun K hK => ?_) AllReadyH.nil)
          rw [if_pos (by rfl)]
          go_simp
          have hbut := But.setCell W4 g 3 (.slice a4 n4 c4)
          have hgp : g ≠ gp := HCG.out.apart HCP.out (by decide)
          refine hK.out _ _ ((HCP.out.but hbut (Ne.symm hgp)).range 0 (pc p') (by rw [List.drop_zero, List.take_of_length_le (Nat.le_refl _)])) (fun hHeld => ?_)
          clear hK K
          refine wpAnyH_done (by kernel_rfl) ?_ _
          refine NoPanic.normal ?_
          clear hHeld
          go_wp2
          go_end0
          refine ⟨_, .slice a4 n4 c4, rfl, ?_, ?_, ?_, ?_, ?_⟩
          · exact HCG.out.set 3 _
          · rw [HPL.out]
            exact HO4.out.but hbut (HO4.out.apart HCG.out (by decide))
          · rw [HPL.out]
            exact (HGL.out.take ((k + 1))).snoc JB.out.good
          · simp only [own_len (some ⟨h, 0, none⟩) ps.length (k + 1) cap cap]
            exact HCH.out.thenBut hbut (.inl (.inl rfl))
          · simp only [own_len (some ⟨h, 0, none⟩) ps.length (k + 1) cap cap]
            exact HNB.out

end Go.Proofs.YtnjkjickclkmhaaDoor
