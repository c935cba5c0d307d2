/-
  Two runs are merged.
-/
import Derived.Test.YtabpfbankinojaaDgv
import Derived.Test.YtabpfbankinojaaJkr
import Derived.Deep.LoopGhost
namespace Go.Proofs.Ytabpfbankinojaa
open Go.RowKit
set_option linter.unusedVariables false
set_option linter.unusedSimpArgs false
set_option maxRecDepth 100000

/-- Midway: out is merged, a' and b' are left. -/
structure MG (a b out a' b' : List Ent) : Prop where
  sk : SK kE out
  sa : SK kE a'
  sb : SK kE b'
  ap : ∀ x ∈ a', ∀ y ∈ b', kE x ≠ kE y
  lo : ∀ x ∈ out, ∀ y, y ∈ a' ∨ y ∈ b' → kE x < kE y
  mem : ∀ x, (x ∈ a ∨ x ∈ b) ↔ (x ∈ out ∨ x ∈ a' ∨ x ∈ b')
  len : out.length + a'.length + b'.length = a.length + b.length
theorem MG.start {a b : List Ent} (sa : SK kE a) (sb : SK kE b) (ap : ∀ x ∈ a, ∀ y ∈ b, kE x ≠ kE y) : MG a b [] a b := ⟨SK.nil, sa, sb, ap, (fun x h => by cases h), (fun x => by simp), by simp⟩
theorem MG.left {a b out a' b' : List Ent} {x : Ent} (h : MG a b out (x :: a') b') (hx : ∀ y ∈ b', kE x < kE y) : MG a b (out ++ [x]) a' b' := by
  have p := List.pairwise_cons.1 h.sa
  refine ⟨h.sk.snoc (fun y hy => h.lo y hy x (.inl (List.mem_cons_self ..))), p.2, h.sb, fun z hz y hy => h.ap z (List.mem_cons_of_mem _ hz) y hy, fun z hz y hy => ?_, fun z => ?_, ?_⟩
  · rcases List.mem_append.1 hz with hz | hz
    · exact h.lo z hz y (hy.imp (List.mem_cons_of_mem _) id)
    · simp at hz
      subst hz
      exact hy.elim (p.1 y) (hx y)
  · rw [h.mem z]
    simp only [List.mem_cons, List.mem_append, List.not_mem_nil, or_false]
    constructor
    · rintro (h | (h | h) | h)
      · exact .inl (.inl h)
      · exact .inl (.inr h)
      · exact .inr (.inl h)
      · exact .inr (.inr h)
    · rintro ((h | h) | h | h)
      · exact .inl h
      · exact .inr (.inl (.inl h))
      · exact .inr (.inl (.inr h))
      · exact .inr (.inr h)
  · have := h.len
    simp only [List.length_append, List.length_cons, List.length_nil] at *
    omega
theorem MG.flip {a b out a' b' : List Ent} (h : MG a b out a' b') : MG b a out b' a' :=
  ⟨h.sk, h.sb, h.sa, fun x hx y hy e => h.ap y hy x hx e.symm, fun x hx y hy => h.lo x hx y hy.symm, fun x => by rw [or_comm, h.mem x]; constructor <;> (rintro (h | h | h); exact .inl h; exact .inr (.inr h); exact .inr (.inl h)), by have := h.len; omega⟩
/-- The list that is left when one of both is at its end. -/
theorem MG.fin {a b out a' b' : List Ent} (h : MG a b out a' b') (h0 : a' = [] ∨ b' = []) (hu : (a ++ b).Pairwise fun x y => kE x ≠ kE y) : out ++ a' ++ b' = srtK kE (a ++ b) := by
  refine SK.ext (key := kE) ?_ (srtK_SK hu) (fun x => ?_)
  · rcases h0 with rfl | rfl
    · rw [List.append_nil]
      exact List.pairwise_append.2 ⟨h.sk, h.sb, fun x hx y hy => h.lo x hx y (.inr hy)⟩
    · rw [List.append_nil]
      exact List.pairwise_append.2 ⟨h.sk, h.sa, fun x hx y hy => h.lo x hx y (.inl hy)⟩
  · simp only [srtK_mem, List.mem_append, or_assoc]
    exact (h.mem x).symm
theorem unlike_app {a b : List Ent} (sa : SK kE a) (sb : SK kE b) (ap : ∀ x ∈ a, ∀ y ∈ b, kE x ≠ kE y) : (a ++ b).Pairwise fun x y => kE x ≠ kE y :=
  List.pairwise_append.2 ⟨sa.imp (fun h => Nat.ne_of_lt h), sb.imp (fun h => Nat.ne_of_lt h), ap⟩
theorem MG.right {a b out a' b' : List Ent} {x : Ent} (h : MG a b out a' (x :: b')) (hx : ∀ y ∈ a', kE x < kE y) : MG a b (out ++ [x]) a' b' := (h.flip.left hx).flip
theorem sk_head {x : Ent} {l : List Ent} (h : SK kE (x :: l)) {y : Ent} (hy : kE y < kE x) : ∀ z ∈ x :: l, kE y < kE z := fun z hz => by
  rcases List.mem_cons.1 hz with rfl | hz
  · exact hy
  · have := (List.pairwise_cons.1 h).1 z hz
    omega

/-- What stands midway. -/
structure MW (w W : World) (a b out a' b' : List Ent) (g cap : Nat) (u v : Value) : Prop where
  mg : MG a b out a' b'
  ra : Rn w u a'
  rb : Rn w v b'
  row : W.ownsRow w.heap.size 58 33 (.slice (some ⟨g, 0, none⟩) out.length cap) out.length (pcs out)
  bel : Below w.heap.size w W
  cap : cap = a.length + b.length
  lt : w.heap.size ≤ g
theorem MW.push {w W W1 W2 : World} {a b out a' b' a2 b2 : List Ent} {g cap : Nat} {u v u2 v2 : Value} {x : Ent} (h : MW w W a b out a' b' g cap u v) (hb : Below W.heap.size W W1) (hm : MG a b (out ++ [x]) a2 b2) (r1 : Rn w u2 a2) (r2 : Rn w v2 b2)
    (hrow : W2.ownsRow w.heap.size 58 33 (.slice (some ⟨g, 0, none⟩) (out.length + 1) cap) (out.length + 1) (pcs out ++ pc x)) (hg : W1.grownBy W2 (some g)) : MW w W2 a b (out ++ [x]) a2 b2 g cap u2 v2 :=
  ⟨hm, r1, r2, by rw [List.length_append, List.length_singleton, pcs_app, pcs_single]; exact hrow, (on_below h.bel hb).trans (Below.of_grown hg (on_below h.bel hb).size (fun k e => by cases e; exact h.lt)), h.cap, h.lt⟩
theorem MW.on {w W W1 : World} {a b out a' b' : List Ent} {g cap : Nat} {u v : Value} (h : MW w W a b out a' b' g cap u v) (hb : Below W.heap.size W W1) : MW w W1 a b out a' b' g cap u v :=
  ⟨h.mg, h.ra, h.rb, row_same h.row (fun k e => hb.block k (by obtain ⟨cs, hc⟩ := row_lies h.row e; exact hc.lt)), on_below h.bel hb, h.cap, h.lt⟩
/-- At the end. -/
theorem MW.fin {w W W1 W2 : World} {a b out a' b' : List Ent} {g cap : Nat} {u v : Value} (h : MW w W a b out a' b' g cap u v) (h0 : a' = [] ∨ b' = []) (hu : (a ++ b).Pairwise fun x y => kE x ≠ kE y)
    (hg1 : W.grownBy W1 (some g)) (hg2 : W1.grownBy W2 (some g)) (hrow : W2.ownsRow w.heap.size 58 33 (.slice (some ⟨g, 0, none⟩) (out.length + a'.length + b'.length) cap) (out.length + a'.length + b'.length) (pcs out ++ pcs a' ++ pcs b')) :
    Rn W2 (.slice (some ⟨g, 0, none⟩) (out.length + a'.length + b'.length) cap) (srtK kE (a ++ b)) ∧ Below w.heap.size w W2 := by
  have e := h.mg.fin h0 hu
  have B1 := h.bel.trans (Below.of_grown hg1 h.bel.size (fun k e => by cases e; exact h.lt))
  refine ⟨?_, B1.trans (Below.of_grown hg2 B1.size (fun k e => by cases e; exact h.lt))⟩
  rw [← pcs_app, ← pcs_app, e] at hrow
  have hl : (srtK kE (a ++ b)).length = out.length + a'.length + b'.length := by rw [← e]; simp; omega
  unfold Rn
  rw [hl]
  exact Vw.of_row hrow
set_option maxHeartbeats 2000000 in
theorem merged_any (ua ub : Value) (a b : List Ent) (w : World) (ha : Rn w ua a) (hb : Rn w ub b) (sa : SK kE a) (sb : SK kE b) (ap : ∀ x ∈ a, ∀ y ∈ b, kE x ≠ kE y) (hlen : a.length + b.length ≤ 4398046511104) :
    Calls Try.prog 19 #[ua, ub, .func (.func 20) #[] #[]] w fun r w' => ∃ v, r = .returned v ∧ Rn w' v (srtK kE (a ++ b)) ∧ Below w.heap.size w w' := by
  obtain ⟨aa, ca, rfl⟩ := ha.slice
  obtain ⟨ab, cb, rfl⟩ := hb.slice
  have HA := hide ha
  have HB := hide hb
  have HM := hide (MG.start sa sb ap)
  have HU := hide (unlike_app sa sb ap)
  clear ha hb sa sb ap
  go_enter Try.func19, Try.ntmps19
  go_wp2_with (refine step_makeV roP (a.length + b.length) rfl rfl rfl (by omega) (by omega) ?_)
  intro w1 g ho hg hb1
  have H1 : Hid (MW w w1 a b [] a b g (a.length + b.length) (.slice aa a.length ca) (.slice ab b.length cb)) := hide ⟨HM.out, HA.out, HB.out, ho, hb1, rfl, hg⟩
  obtain ⟨cap, hcap⟩ : ∃ cap, a.length + b.length = cap := ⟨_, rfl⟩
  rw [hcap] at H1
  clear ho hg hb1 HM HA HB
  go_wp2_with fail
  try simp only [Act.put]
  go_loopg [0, 1, 7] cap (fun n s0 s1 s7 wx => ∃ out a' b', n = a'.length + b'.length ∧ s7 = .slice (some ⟨g, 0, none⟩) out.length cap ∧ Hid (MW w wx a b out a' b' g cap s0 s1))
  case atStart => exact ⟨[], a, b, hcap.symm, rfl, H1⟩
  case round =>
    obtain ⟨out, a', b', rfl, rfl, HW⟩ := hrel
    obtain ⟨a0, c0, rfl⟩ := HW.out.ra.slice
    obtain ⟨b0, d0, rfl⟩ := HW.out.rb.slice
    obtain ⟨na, hna⟩ : ∃ na, a'.length = na := ⟨_, rfl⟩
    obtain ⟨nb, hnb⟩ : ∃ nb, b'.length = nb := ⟨_, rfl⟩
    have HL : Hid (out.length + na + nb = cap) := hide (by rw [← hna, ← hnb, HW.out.mg.len, HW.out.cap])
    rw [hna, hnb] at HW
    rw [hna, hnb]
    have VA : Hid (Vw w 58 33 (.slice a0 na c0) na (pcs a')) := hide (by have := HW.out.ra; unfold Rn at this; rwa [hna] at this)
    have VB : Hid (Vw w 58 33 (.slice b0 nb d0) nb (pcs b')) := hide (by have := HW.out.rb; unfold Rn at this; rwa [hnb] at this)
    have NA := hide hna
    have NB := hide hnb
    clear hna hnb
    by_cases h1 : 0 < na
    · by_cases h2 : 0 < nb
      · obtain ⟨x, a2, rfl⟩ : ∃ x a2, a' = x :: a2 := by
          cases a' with
          | nil => have := NA.out; simp at this; omega
          | cons x a2 => exact ⟨x, a2, rfl⟩
        obtain ⟨y, b2, rfl⟩ : ∃ y b2, b' = y :: b2 := by
          cases b' with
          | nil => have := NB.out; simp at this; omega
          | cons y b2 => exact ⟨y, b2, rfl⟩
        obtain ⟨g1, o1, hix1, hrg1⟩ := HW.out.ra.at (i := 0) (by simp)
        obtain ⟨g2, o2, hix2, hrg2⟩ := HW.out.rb.at (i := 0) (by simp)
        obtain ⟨u1, hsl1, hr1⟩ := HW.out.ra.from (k := 1) (by simp)
        obtain ⟨u2, hsl2, hr2⟩ := HW.out.rb.from (k := 1) (by simp)
        have IX1 : Hid (∀ W : World, (Instr.indexAt 59 (.slice a0 na c0) (.int .i64 0)).run Try.prog W = .ok (.pointer (some ⟨g1, o1, none⟩)) W) := hide hix1
        have IX2 : Hid (∀ W : World, (Instr.indexAt 59 (.slice b0 nb d0) (.int .i64 0)).run Try.prog W = .ok (.pointer (some ⟨g2, o2, none⟩)) W) := hide hix2
        have SL1 : Hid (∀ W : World, (Instr.slice 59 (.slice a0 na c0) (some (.int .i64 1)) none none).run Try.prog W = .ok u1 W) := hide hsl1
        have SL2 : Hid (∀ W : World, (Instr.slice 59 (.slice b0 nb d0) (some (.int .i64 1)) none none).run Try.prog W = .ok u2 W) := hide hsl2
        have RG1 : Hid (∀ V : World, Below w.heap.size w V → V.rangeAt g1 o1 (pc x)) := hide fun V hV => hrg1 V (HW.out.ra.on hV)
        have RG2 : Hid (∀ V : World, Below w.heap.size w V → V.rangeAt g2 o2 (pc y)) := hide fun V hV => hrg2 V (HW.out.rb.on hV)
        have RA2 : Hid (Rn w u1 a2) := hide (hr1 w HW.out.ra)
        have RB2 : Hid (Rn w u2 b2) := hide (hr2 w HW.out.rb)
        clear hix1 hix2 hsl1 hsl2 hrg1 hrg2 hr1 hr2
        have hu := Try.underlying58
        have HPX : Hid ((Try.prog.info? 58).map (·.size) = some (pc x).length) := hide (by rw [wideP.size, pc_len])
        have HPY : Hid ((Try.prog.info? 58).map (·.size) = some (pc y).length) := hide (by rw [wideP.size, pc_len])
        have l1 : (0 : Int) < (na : Int) := by omega
        have l2 : (0 : Int) < (nb : Int) := by omega
        go_wp2_with fail
        refine wp_region_noPanic ?_
        have hHeld : Below w.heap.size w wr.drew := HW.out.bel.drew
        have BD := hide (Below.refl wr.heap.size wr).drew
        refine wp_region_held_drew (S := fun V : World => Below w.heap.size w V) (by kernel_rfl) hHeld (fun hHeld => ?_)
        refine takeH 0 22 (.func (.func 20) #[] #[]) hHeld rfl rfl (by kernel_rfl) (by kernel_rfl) (by kernel_rfl) (fun _ _ _ h => h) (Or.inl ⟨by rfl, fun w _ => by go_simp⟩) ?_
        simp only [Act.put, List.setIfInBounds_toArray, List.set_cons_zero, List.set_cons_succ]
        refine takeH 1 23 (.slice b0 nb d0) hHeld rfl rfl (by kernel_rfl) (by kernel_rfl) (by kernel_rfl) (fun _ _ _ h => h) (Or.inl ⟨by rfl, fun w _ => by go_simp⟩) ?_
        simp only [Act.put, List.setIfInBounds_toArray, List.set_cons_zero, List.set_cons_succ]
        refine takeH 2 24 (.pointer (some ⟨g2, o2, none⟩)) hHeld rfl rfl (by kernel_rfl) (by kernel_rfl) (by kernel_rfl) (fun _ _ _ h => h) (Or.inl ⟨by rfl, fun w _ => run_op rfl (IX2.out w)⟩) ?_
        simp only [Act.put, List.setIfInBounds_toArray, List.set_cons_zero, List.set_cons_succ]
        refine takeH 3 25 (.agg (pc y).toArray) hHeld rfl rfl (by kernel_rfl) (by kernel_rfl) (by kernel_rfl) (fun _ _ _ h => h) (yieldsIf_load_mid (by rfl) _ _ rfl g2 (o2) rfl _ _ (fun V h => RG2.out V h) hu rfl HPY.out) ?_
        simp only [Act.put, List.setIfInBounds_toArray, List.set_cons_zero, List.set_cons_succ]
        refine takeH 4 26 (.slice a0 na c0) hHeld rfl rfl (by kernel_rfl) (by kernel_rfl) (by kernel_rfl) (fun _ _ _ h => h) (Or.inl ⟨by rfl, fun w _ => by go_simp⟩) ?_
        simp only [Act.put, List.setIfInBounds_toArray, List.set_cons_zero, List.set_cons_succ]
        refine takeH 5 27 (.pointer (some ⟨g1, o1, none⟩)) hHeld rfl rfl (by kernel_rfl) (by kernel_rfl) (by kernel_rfl) (fun _ _ _ h => h) (Or.inl ⟨by rfl, fun w _ => run_op rfl (IX1.out w)⟩) ?_
        simp only [Act.put, List.setIfInBounds_toArray, List.set_cons_zero, List.set_cons_succ]
        refine takeH 6 28 (.agg (pc x).toArray) hHeld rfl rfl (by kernel_rfl) (by kernel_rfl) (by kernel_rfl) (fun _ _ _ h => h) (yieldsIf_load_mid (by rfl) _ _ rfl g1 (o1) rfl _ _ (fun V h => RG1.out V h) hu rfl HPX.out) ?_
        simp only [Act.put, List.setIfInBounds_toArray, List.set_cons_zero, List.set_cons_succ]
        refine wpAnyH_ready (rs := [7]) (by kernel_rfl) (by simp) (AllReadyH.cons rfl (fun K hK => ?_) AllReadyH.nil)
        rw [if_pos (by rfl)]
        go_simp
        refine (isAhead_any y x _).mono ?_
        rintro r w3 ⟨rfl, hb3⟩
        have B3 := hide (on_below BD.out hb3)
        clear hb3 BD hHeld
        refine hK.out _ _ (on_below HW.out.bel B3.out) (fun hHeld => ?_)
        clear hK K
        try simp only [Act.put, List.setIfInBounds_toArray, List.set_cons_zero, List.set_cons_succ]
        refine wpAnyH_done (by kernel_rfl) ?_ _
        refine NoPanic.normal ?_
        have HW3 := hide (HW.out.on B3.out)
        clear hHeld HW B3 VA VB
        have HNE := hide (HW3.out.mg.ap x (List.mem_cons_self ..) y (List.mem_cons_self ..))
        by_cases hlt : kE y < kE x
        · have hdc : decide (kE y < kE x) = true := decide_eq_true hlt
          rw [hdc]
          have HMG : Hid (MG a b (out ++ [y]) (x :: a2) b2) := hide (HW3.out.mg.right (sk_head HW3.out.mg.sa hlt))
          clear hlt hdc
          go_wp2_with fail
          refine wp_region_U (q := 9) (S := fun V : World => Below w.heap.size w V) (by kernel_rfl) ?_
          have hHeld : Below w.heap.size w w3.drew := HW3.out.bel.drew
          have BD := hide (Below.refl w3.heap.size w3).drew
          refine takeU 9 0 30 (.slice (some ⟨g, 0, none⟩) out.length cap) hHeld rfl rfl (by kernel_rfl) (by kernel_rfl) (by kernel_rfl) (by kernel_rfl) (by kernel_rfl) (by kernel_rfl) (fun _ _ _ h => h) (Or.inl ⟨by rfl, fun w _ => by go_simp⟩) ?_
          simp only [Act.put, List.setIfInBounds_toArray, List.set_cons_zero, List.set_cons_succ]
          refine takeU 9 1 31 (.slice b0 nb d0) hHeld rfl rfl (by kernel_rfl) (by kernel_rfl) (by kernel_rfl) (by kernel_rfl) (by kernel_rfl) (by kernel_rfl) (fun _ _ _ h => h) (Or.inl ⟨by rfl, fun w _ => by go_simp⟩) ?_
          simp only [Act.put, List.setIfInBounds_toArray, List.set_cons_zero, List.set_cons_succ]
          refine takeU 9 2 32 (.pointer (some ⟨g2, o2, none⟩)) hHeld rfl rfl (by kernel_rfl) (by kernel_rfl) (by kernel_rfl) (by kernel_rfl) (by kernel_rfl) (by kernel_rfl) (fun _ _ _ h => h) (Or.inl ⟨by rfl, fun w _ => run_op rfl (IX2.out w)⟩) ?_
          simp only [Act.put, List.setIfInBounds_toArray, List.set_cons_zero, List.set_cons_succ]
          refine takeU 9 3 33 (.agg (pc y).toArray) hHeld rfl rfl (by kernel_rfl) (by kernel_rfl) (by kernel_rfl) (by kernel_rfl) (by kernel_rfl) (by kernel_rfl) (fun _ _ _ h => h) (yieldsIf_load_mid (by rfl) _ _ rfl g2 (o2) rfl _ _ (fun V h => RG2.out V h) hu rfl HPY.out) ?_
          simp only [Act.put, List.setIfInBounds_toArray, List.set_cons_zero, List.set_cons_succ]
          refine takeU 9 6 36 (.slice b0 nb d0) hHeld rfl rfl (by kernel_rfl) (by kernel_rfl) (by kernel_rfl) (by kernel_rfl) (by kernel_rfl) (by kernel_rfl) (fun _ _ _ h => h) (Or.inl ⟨by rfl, fun w _ => by go_simp⟩) ?_
          simp only [Act.put, List.setIfInBounds_toArray, List.set_cons_zero, List.set_cons_succ]
          refine takeU 9 7 37 (u2) hHeld rfl rfl (by kernel_rfl) (by kernel_rfl) (by kernel_rfl) (by kernel_rfl) (by kernel_rfl) (by kernel_rfl) (fun _ _ _ h => h) (Or.inl ⟨by rfl, fun w _ => run_op rfl (SL2.out w)⟩) ?_
          simp only [Act.put, List.setIfInBounds_toArray, List.set_cons_zero, List.set_cons_succ]
          refine wpAnyU_ready (rs := [4]) (by kernel_rfl) (by simp) (AllReadyU.cons rfl (fun K hK => ?_) AllReadyU.nil)
          rw [if_pos (by rfl)]
          refine wp_oneV roP (vs := pc y) rfl rfl (pc_len _) ?_
          intro v1 g1 hv1 hg1 hb1 _
          have B1 := hide (on_below BD.out hb1)
          have V1 := hide hv1
          clear hv1 hb1 hHeld BD
          refine hK.out _ _ (fun _ => (show Below w.heap.size w v1 from on_below HW3.out.bel B1.out)) ?_
          have hHeld := (show Below w.heap.size w v1 from on_below HW3.out.bel B1.out)
          clear hK K
          try simp only [Act.put, List.setIfInBounds_toArray, List.set_cons_zero, List.set_cons_succ]
          refine wpAnyU_ready (rs := [5]) (by kernel_rfl) (by simp) (AllReadyU.cons rfl (fun K hK => ?_) AllReadyU.nil)
          rw [if_pos (by rfl)]
          refine wp_fitV roP rfl rfl (row_same HW3.out.row (fun k e => B1.out.block k (by obtain ⟨cs, hc⟩ := row_lies HW3.out.row e; exact hc.lt))) V1.out (pc_one _) (by have := HL.out; omega) ?_
          intro v2 hrow hgr
          have R2 := hide hrow
          have G2 := hide hgr
          clear hrow hgr hHeld
          refine hK.out _ _ (fun _ => (show Below w.heap.size w v2 from (on_below HW3.out.bel B1.out).trans (Below.of_grown G2.out (on_below HW3.out.bel B1.out).size (fun k e => by cases e; exact HW3.out.lt)))) ?_
          have hHeld := (show Below w.heap.size w v2 from (on_below HW3.out.bel B1.out).trans (Below.of_grown G2.out (on_below HW3.out.bel B1.out).size (fun k e => by cases e; exact HW3.out.lt)))
          clear hK K
          try simp only [Act.put, List.setIfInBounds_toArray, List.set_cons_zero, List.set_cons_succ]
          refine wpAnyU_ready (rs := [8]) (by kernel_rfl) (by simp) (AllReadyU.cons rfl (fun K hK => ?_) AllReadyU.nil)
          rw [if_pos (by rfl)]
          go_simp
          refine hK.out _ _ (fun _ => hHeld) ?_
          have hHeld := hHeld
          clear hK K
          try simp only [Act.put, List.setIfInBounds_toArray, List.set_cons_zero, List.set_cons_succ]
          refine wpAnyU_ready (rs := [9]) (by kernel_rfl) (by simp) (AllReadyU.cons rfl (fun K hK => ?_) AllReadyU.nil)
          rw [if_pos (by rfl)]
          go_simp
          refine hK.out _ _ (fun h => absurd h (by decide)) ?_
          clear hK K
          refine wpAnyU_done (by kernel_rfl) ?_ _
          have HF := hide (HW3.out.push B1.out HMG.out HW3.out.ra RB2.out R2.out G2.out)
          have hl9 : out.length + 1 = (out ++ [y]).length := by simp
          have hm9 : (x :: a2).length + b2.length < na + nb := by have := NA.out; have := NB.out; simp only [List.length_cons] at *; omega
          have HL9 := hide hl9
          have HM9 := hide hm9
          clear hl9 hm9 hHeld
          go_wp2
          rw [HL9.out]
          go_roundg ((x :: a2).length + b2.length)
          case measure => simp only [List.length_cons]; omega
          case rel => exact ⟨out ++ [y], x :: a2, b2, rfl, rfl, HF⟩
        · have hdc : decide (kE y < kE x) = false := decide_eq_false hlt
          rw [hdc]
          have HMG : Hid (MG a b (out ++ [x]) a2 (y :: b2)) := hide (HW3.out.mg.left (sk_head HW3.out.mg.sb (by have := HNE.out; omega)))
          clear hlt hdc
          go_wp2_with fail
          refine wp_region_U (q := 9) (S := fun V : World => Below w.heap.size w V) (by kernel_rfl) ?_
          have hHeld : Below w.heap.size w w3.drew := HW3.out.bel.drew
          have BD := hide (Below.refl w3.heap.size w3).drew
          refine takeU 9 0 38 (.slice (some ⟨g, 0, none⟩) out.length cap) hHeld rfl rfl (by kernel_rfl) (by kernel_rfl) (by kernel_rfl) (by kernel_rfl) (by kernel_rfl) (by kernel_rfl) (fun _ _ _ h => h) (Or.inl ⟨by rfl, fun w _ => by go_simp⟩) ?_
          simp only [Act.put, List.setIfInBounds_toArray, List.set_cons_zero, List.set_cons_succ]
          refine takeU 9 1 39 (.slice a0 na c0) hHeld rfl rfl (by kernel_rfl) (by kernel_rfl) (by kernel_rfl) (by kernel_rfl) (by kernel_rfl) (by kernel_rfl) (fun _ _ _ h => h) (Or.inl ⟨by rfl, fun w _ => by go_simp⟩) ?_
          simp only [Act.put, List.setIfInBounds_toArray, List.set_cons_zero, List.set_cons_succ]
          refine takeU 9 2 40 (.pointer (some ⟨g1, o1, none⟩)) hHeld rfl rfl (by kernel_rfl) (by kernel_rfl) (by kernel_rfl) (by kernel_rfl) (by kernel_rfl) (by kernel_rfl) (fun _ _ _ h => h) (Or.inl ⟨by rfl, fun w _ => run_op rfl (IX1.out w)⟩) ?_
          simp only [Act.put, List.setIfInBounds_toArray, List.set_cons_zero, List.set_cons_succ]
          refine takeU 9 3 41 (.agg (pc x).toArray) hHeld rfl rfl (by kernel_rfl) (by kernel_rfl) (by kernel_rfl) (by kernel_rfl) (by kernel_rfl) (by kernel_rfl) (fun _ _ _ h => h) (yieldsIf_load_mid (by rfl) _ _ rfl g1 (o1) rfl _ _ (fun V h => RG1.out V h) hu rfl HPX.out) ?_
          simp only [Act.put, List.setIfInBounds_toArray, List.set_cons_zero, List.set_cons_succ]
          refine takeU 9 6 44 (.slice a0 na c0) hHeld rfl rfl (by kernel_rfl) (by kernel_rfl) (by kernel_rfl) (by kernel_rfl) (by kernel_rfl) (by kernel_rfl) (fun _ _ _ h => h) (Or.inl ⟨by rfl, fun w _ => by go_simp⟩) ?_
          simp only [Act.put, List.setIfInBounds_toArray, List.set_cons_zero, List.set_cons_succ]
          refine takeU 9 7 45 (u1) hHeld rfl rfl (by kernel_rfl) (by kernel_rfl) (by kernel_rfl) (by kernel_rfl) (by kernel_rfl) (by kernel_rfl) (fun _ _ _ h => h) (Or.inl ⟨by rfl, fun w _ => run_op rfl (SL1.out w)⟩) ?_
          simp only [Act.put, List.setIfInBounds_toArray, List.set_cons_zero, List.set_cons_succ]
          refine wpAnyU_ready (rs := [4]) (by kernel_rfl) (by simp) (AllReadyU.cons rfl (fun K hK => ?_) AllReadyU.nil)
          rw [if_pos (by rfl)]
          refine wp_oneV roP (vs := pc x) rfl rfl (pc_len _) ?_
          intro v1 g1 hv1 hg1 hb1 _
          have B1 := hide (on_below BD.out hb1)
          have V1 := hide hv1
          clear hv1 hb1 hHeld BD
          refine hK.out _ _ (fun _ => (show Below w.heap.size w v1 from on_below HW3.out.bel B1.out)) ?_
          have hHeld := (show Below w.heap.size w v1 from on_below HW3.out.bel B1.out)
          clear hK K
          try simp only [Act.put, List.setIfInBounds_toArray, List.set_cons_zero, List.set_cons_succ]
          refine wpAnyU_ready (rs := [5]) (by kernel_rfl) (by simp) (AllReadyU.cons rfl (fun K hK => ?_) AllReadyU.nil)
          rw [if_pos (by rfl)]
          refine wp_fitV roP rfl rfl (row_same HW3.out.row (fun k e => B1.out.block k (by obtain ⟨cs, hc⟩ := row_lies HW3.out.row e; exact hc.lt))) V1.out (pc_one _) (by have := HL.out; omega) ?_
          intro v2 hrow hgr
          have R2 := hide hrow
          have G2 := hide hgr
          clear hrow hgr hHeld
          refine hK.out _ _ (fun _ => (show Below w.heap.size w v2 from (on_below HW3.out.bel B1.out).trans (Below.of_grown G2.out (on_below HW3.out.bel B1.out).size (fun k e => by cases e; exact HW3.out.lt)))) ?_
          have hHeld := (show Below w.heap.size w v2 from (on_below HW3.out.bel B1.out).trans (Below.of_grown G2.out (on_below HW3.out.bel B1.out).size (fun k e => by cases e; exact HW3.out.lt)))
          clear hK K
          try simp only [Act.put, List.setIfInBounds_toArray, List.set_cons_zero, List.set_cons_succ]
          refine wpAnyU_ready (rs := [8]) (by kernel_rfl) (by simp) (AllReadyU.cons rfl (fun K hK => ?_) AllReadyU.nil)
          rw [if_pos (by rfl)]
          go_simp
          refine hK.out _ _ (fun _ => hHeld) ?_
          have hHeld := hHeld
          clear hK K
          try simp only [Act.put, List.setIfInBounds_toArray, List.set_cons_zero, List.set_cons_succ]
          refine wpAnyU_ready (rs := [9]) (by kernel_rfl) (by simp) (AllReadyU.cons rfl (fun K hK => ?_) AllReadyU.nil)
          rw [if_pos (by rfl)]
          go_simp
          refine hK.out _ _ (fun h => absurd h (by decide)) ?_
          clear hK K
          refine wpAnyU_done (by kernel_rfl) ?_ _
          have HF := hide (HW3.out.push B1.out HMG.out RA2.out HW3.out.rb R2.out G2.out)
          have hl9 : out.length + 1 = (out ++ [x]).length := by simp
          have hm9 : a2.length + (y :: b2).length < na + nb := by have := NA.out; have := NB.out; simp only [List.length_cons] at *; omega
          have HL9 := hide hl9
          have HM9 := hide hm9
          clear hl9 hm9 hHeld
          go_wp2
          rw [HL9.out]
          go_roundg (a2.length + (y :: b2).length)
          case measure => simp only [List.length_cons]; omega
          case rel => exact ⟨out ++ [x], a2, y :: b2, rfl, rfl, HF⟩
      · have VA := hide (Vw.on VA.out HW.out.bel)
        have l1 : (0 : Int) < (na : Int) := by omega
        have l2 : ¬ (0 : Int) < (nb : Int) := by omega
        go_wp2_with (refine step_fitV roP rfl rfl rfl HW.out.row VA.out (pcs_one _) (by have := HL.out; omega) ?_)
        intro w5 hrow5 hg5
        have R5 := hide hrow5
        have G5 := hide hg5
        have V5 := hide (Vw.on VB.out (HW.out.bel.trans (Below.of_grown hg5 HW.out.bel.size (fun k e => by cases e; exact HW.out.lt))))
        clear hrow5 hg5
        go_wp2_with (refine step_fitV roP rfl rfl rfl R5.out V5.out (pcs_one _) (by have := HL.out; omega) ?_)
        intro w6 hrow6 hg6
        have hrow7 := hrow6
        rw [← NA.out, ← NB.out] at hrow7
        have F := HW.out.fin (by first | exact .inl (List.eq_nil_of_length_eq_zero (by rw [NA.out]; omega)) | exact .inr (List.eq_nil_of_length_eq_zero (by rw [NB.out]; omega))) HU.out G5.out hg6 hrow7
        rw [NA.out, NB.out] at F
        have FF := hide F
        clear hrow6 hg6 hrow7 F
        go_wp2
        go_ret
        exact ⟨_, rfl, FF.out.1, FF.out.2⟩
    · have VA := hide (Vw.on VA.out HW.out.bel)
      have l1 : ¬ (0 : Int) < (na : Int) := by omega
      go_wp2_with (refine step_fitV roP rfl rfl rfl HW.out.row VA.out (pcs_one _) (by have := HL.out; omega) ?_)
      intro w5 hrow5 hg5
      have R5 := hide hrow5
      have G5 := hide hg5
      have V5 := hide (Vw.on VB.out (HW.out.bel.trans (Below.of_grown hg5 HW.out.bel.size (fun k e => by cases e; exact HW.out.lt))))
      clear hrow5 hg5
      go_wp2_with (refine step_fitV roP rfl rfl rfl R5.out V5.out (pcs_one _) (by have := HL.out; omega) ?_)
      intro w6 hrow6 hg6
      have hrow7 := hrow6
      rw [← NA.out, ← NB.out] at hrow7
      have F := HW.out.fin (by first | exact .inl (List.eq_nil_of_length_eq_zero (by rw [NA.out]; omega)) | exact .inr (List.eq_nil_of_length_eq_zero (by rw [NB.out]; omega))) HU.out G5.out hg6 hrow7
      rw [NA.out, NB.out] at F
      have FF := hide F
      clear hrow6 hg6 hrow7 F
      go_wp2
      go_ret
      exact ⟨_, rfl, FF.out.1, FF.out.2⟩

end Go.Proofs.Ytabpfbankinojaa
