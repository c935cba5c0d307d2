/-
  The walk of TileAlls.
-/
import Derived.Test.YtnlpgkfmjlljdaaTx
namespace Go.Proofs.Ytnlpgkfmjlljdaa
open Go.RowKit Go.Shelf
set_option linter.unusedVariables false

def M1 (g : Nat) : World → Nat → Prop := fun A k => k = g ∧ k < A.heap.size
theorem OwnT.kept {A B : World} {B0 : Nat} {v : Value} {ps : List Tl} {row : Option Nat} (h : OwnT A B0 v ps) (hg : A.grownBy B row) (hr : ∀ r, row = some r → ∃ o : Obj, A.heap[r]? = some o ∧ o.isCells = false) : OwnT B B0 v ps := by
  obtain ⟨h1, h2⟩ := h
  refine ⟨h1, ?_⟩
  rcases h2 with h2 | ⟨k, cap, cur, rfl, hk, hh, r⟩
  · exact .inl h2
  · refine .inr ⟨k, cap, cur, rfl, hk, ?_, r⟩
    rw [hg.block k (Array.getElem?_eq_some_iff.1 hh).1 (fun e => by
      obtain ⟨o, ho, hc⟩ := hr k e.symm
      rw [hh] at ho
      injection ho with ho
      subst ho
      cases hc)]
    exact hh
/-- What the law's own variables hold. -/
structure LT (w W : World) (b6 b7 b8 b9 : Nat) (m : Int) (v : Value) (L : List Tl) (k : Nat) : Prop where
  c6 : Blk W b6 4 [.bool false]
  c7 : Blk W b7 3 [.int .i64 m]
  c8 : Blk W b8 40 [v]
  c9 : Blk W b9 3 [.int .i64 (k : Int)]
  own : OwnT W w.heap.size v L
  bel : Below w.heap.size w W
  n6 : b6 ≠ b9
  n7 : b7 ≠ b9
  n8 : b8 ≠ b9
  no : v.ownBlock ≠ some b9
  l9 : w.heap.size ≤ b9
theorem LT.on {w W W' : World} {b6 b7 b8 b9 : Nat} {m : Int} {v : Value} {L : List Tl} {k : Nat} (h : LT w W b6 b7 b8 b9 m v L k) (hb : Below W.heap.size W W') : LT w W' b6 b7 b8 b9 m v L k :=
  ⟨h.c6.on hb, h.c7.on hb, h.c8.on hb, h.c9.on hb, h.own.below hb, on_below h.bel hb, h.n6, h.n7, h.n8, h.no, h.l9⟩
theorem LT.set {w W : World} {b6 b7 b8 b9 : Nat} {m : Int} {v : Value} {L : List Tl} {k : Nat} (h : LT w W b6 b7 b8 b9 m v L k) (k' : Nat) : LT w (W.setCell ⟨b9, 0, none⟩ (.int .i64 (k' : Int))) b6 b7 b8 b9 m v L k' := by
  have hb := But.setCell W b9 0 (.int .i64 (k' : Int))
  exact ⟨h.c6.but hb h.n6, h.c7.but hb h.n7, h.c8.but hb h.n8, h.c9.set 0 _, h.own.but hb h.no, h.bel.trans (hb.below h.l9), h.n6, h.n7, h.n8, h.no, h.l9⟩
theorem LT.kept {w A B : World} {b6 b7 b8 b9 : Nat} {m : Int} {v : Value} {L : List Tl} {k : Nat} {row : Option Nat} (h : LT w A b6 b7 b8 b9 m v L k) (hg : A.grownBy B row) (hr : ∀ r, row = some r → w.heap.size ≤ r ∧ ∃ o : Obj, A.heap[r]? = some o ∧ o.isCells = false) : LT w B b6 b7 b8 b9 m v L k :=
  ⟨h.c6.kept hg (fun r e => (hr r e).2), h.c7.kept hg (fun r e => (hr r e).2), h.c8.kept hg (fun r e => (hr r e).2), h.c9.kept hg (fun r e => (hr r e).2), h.own.kept hg (fun r e => (hr r e).2), h.bel.grown hg h.bel.size (fun r e => (hr r e).1), h.n6, h.n7, h.n8, h.no, h.l9⟩
/-- What both know of the tiles of a log: the list that the document tells, and the iterator's. -/
theorem all_both (h n : Int) : ∃ (X : List (Nat × Nat)) (f : Nat × Nat → Tl), (∀ x y, f x = f y → x = y) ∧
    (∀ (m : Nat) (w : World), m ≤ 1000 → Calls Try.prog 14 #[.int .i64 h, .int .i64 n, .int .i64 (m : Int)] w fun r w' => ∃ v, r = .returned v ∧ OwnT w' w.heap.size v ((X.take m).map f) ∧ Below w.heap.size w w') ∧
    (∀ (n₀ : Nat) (M : World → Nat → Prop) (hM : Mine n₀ M) (b1 b2 : Nat) (w : World) (hn0 : n₀ ≤ w.heap.size) (hu : TK M b1 b2 h n w),
      SeqStopsK Fence.wide 2 Try.prog 26 #[.pointer (some ⟨b1, 0, none⟩), .pointer (some ⟨b2, 0, none⟩)] (fun x : Nat × Nat => #[Value.agg (tC (f x)).toArray]) (KM M) (fun xs => xs = X) (fun pre => pre <+: X) X.length w) := by
  have inj : ∀ (k : Nat) (N : Nat) (x y : Nat × Nat), tT k N x = tT k N y → x = y := by
    intro k N x y e
    simp only [tT, Prod.mk.injEq] at e
    obtain ⟨_, e1, e2, _⟩ := e
    exact Prod.ext (by omega) (by omega)
  by_cases hb : (h < 1 ∨ 8 < h) ∨ n < 0 ∨ 281474976710656 < n
  · exact ⟨[], tT 1 0, inj 1 0, fun m w _ => (allR_bad h n m w hb).mono (fun r w' ⟨h1, h2⟩ => ⟨_, h1, by simpa using OwnT.nil _ _, h2⟩), fun n₀ M hM b1 b2 w hn0 hu => all_stops_out n₀ M hM b1 b2 h n w hn0 hu hb _⟩
  · obtain ⟨H, rfl⟩ : ∃ H : Nat, h = (H : Int) := ⟨h.toNat, by omega⟩
    obtain ⟨N, rfl⟩ : ∃ H : Nat, n = (H : Int) := ⟨n.toNat, by omega⟩
    exact ⟨tAll H N, tT H N, inj H N, fun m w hm => allR_ok H N m w ⟨by omega, by omega⟩ (by omega) hm, fun n₀ M hM b1 b2 w hn0 hu => all_stops_in n₀ M hM b1 b2 H N w hn0 hu ⟨by omega, by omega⟩ (by omega)⟩

set_option maxRecDepth 100000 in
set_option maxHeartbeats 2000000 in
theorem tileAlls_walk (h n stop : Int) (w : World) (hs0 : -9223372036854775808 ≤ stop) (hs1 : stop ≤ 9223372036854775807) :
    Calls Try.prog 5 #[.int .i64 h, .int .i64 n, .int .i64 stop] w fun r w' => r = .returned (.bool true) ∧ Below w.heap.size w w' := by
  obtain ⟨X, f, hinj, hR, hS⟩ := all_both h n
  have HI := hide hinj
  have HR := hide hR
  have HSQ := hide hS
  clear hinj hR hS
  obtain ⟨s1, hs⟩ : ∃ s1, stop.tmod 500 = s1 := ⟨_, rfl⟩
  have hsb : -500 < s1 ∧ s1 < 500 := by
    rw [← hs]
    by_cases h0 : 0 ≤ stop
    · rw [Int.tmod_eq_emod_of_nonneg h0]; omega
    · obtain ⟨t, rfl⟩ : ∃ t, stop = -t := ⟨-stop, by omega⟩
      rw [Int.neg_tmod, Int.tmod_eq_emod_of_nonneg (by omega)]; omega
  obtain ⟨m, hm1⟩ : ∃ m : Nat, (s1 + 500) % 500 = (m : Int) := ⟨((s1 + 500) % 500).toNat, by omega⟩
  have hm2 : (s1 + 500).tmod 500 = (m : Int) := by rw [Int.tmod_eq_emod_of_nonneg (by omega)]; exact hm1
  have hm3 : m < 500 := by omega
  have hsb1 := hsb.1
  have hsb2 := hsb.2
  clear hsb
  refine (callsIn_wide (n := 3)).1 ?_
  refine callsIn_of_wp_marks Try.func5 rfl trivial ?_ rfl
  refine wpIn_wide.2 ?_
  simp only [Try.ntmps5, List.size_toArray, List.length_cons, List.length_nil, Nat.reduceAdd, Nat.reduceSub, Array.replicate_succ, Array.replicate_zero, List.push_toArray, List.append_toArray, List.nil_append, List.cons_append]
  go_wp2_with fail
  have hR := fun v => HR.out (m + 1) v (by omega)
  rw [Int.natCast_add, Int.natCast_one] at hR
  refine (hR _).mono ?_
  rintro r W1 ⟨v1, rfl, ho1, hb1⟩
  clear hR HR
  obtain ⟨Nw, HNw⟩ : ∃ N, Hid (((X.take (m + 1)).map f).length = N) := ⟨_, hide rfl⟩
  have HNm := hide (show Nw = min (m + 1) X.length by rw [← HNw.out]; simp)
  obtain ⟨av, cv, rfl, _⟩ := ho1.len
  rw [HNw.out] at ho1 ⊢
  have hb0 : Below w.heap.size w ((w.alloc (.cells #[.bool false] 4)).alloc (.cells #[.int .i64 (m : Int)] 3)) := ((Below.refl _ _).alloc (Nat.le_refl _) _).alloc (by simp) _
  have g6 : Blk W1 w.heap.size 4 [.bool false] := ((Blk.made w 4 [.bool false]).on ((Below.refl _ _).alloc (Nat.le_refl _) _)).on hb1
  have g7 : Blk W1 (w.heap.size + 1) 3 [.int .i64 (m : Int)] := by
    have := Blk.made (w.alloc (.cells #[.bool false] 4)) 3 [.int .i64 (m : Int)]
    rw [World.size_alloc] at this
    exact this.on hb1
  have bel1 := on_below hb0 hb1
  have own1 := ho1.lower hb0.size
  clear ho1 hb1 hb0
  go_wp2_with fail
  have hbb : Below W1.heap.size W1 ((W1.alloc (.cells #[.slice av Nw cv] 40)).alloc (.cells #[.int .i64 0] 3)) := ((Below.refl _ _).alloc (Nat.le_refl _) _).alloc (by simp) _
  have g8 : Blk ((W1.alloc (.cells #[.slice av Nw cv] 40)).alloc (.cells #[.int .i64 0] 3)) W1.heap.size 40 [.slice av Nw cv] := (Blk.made W1 40 [.slice av Nw cv]).on ((Below.refl _ _).alloc (Nat.le_refl _) _)
  have g9 : Blk ((W1.alloc (.cells #[.slice av Nw cv] 40)).alloc (.cells #[.int .i64 0] 3)) (W1.heap.size + 1) 3 [.int .i64 ((0 : Nat) : Int)] := by
    have := Blk.made (W1.alloc (.cells #[.slice av Nw cv] 40)) 3 [.int .i64 0]
    rw [World.size_alloc] at this
    exact this
  have L2 : LT w ((W1.alloc (.cells #[.slice av Nw cv] 40)).alloc (.cells #[.int .i64 0] 3)) w.heap.size (w.heap.size + 1) W1.heap.size (W1.heap.size + 1) (m : Int) (.slice av Nw cv) ((X.take (m + 1)).map f) 0 :=
    ⟨g6.on hbb, g7.on hbb, g8, g9, own1.below hbb, on_below bel1 hbb, by have := g6.lt; omega, by have := g7.lt; omega, by omega, fun hk => by have := (own1.lt _ hk).2; omega, by have := bel1.size; omega⟩
  clear g6 g7 g8 g9 own1 bel1 hbb
  revert L2
  generalize (W1.alloc (.cells #[.slice av Nw cv] 40)).alloc (.cells #[.int .i64 0] 3) = W2
  generalize W1.heap.size + 1 = b9
  generalize W1.heap.size = b8
  obtain ⟨b7, hb7⟩ : ∃ b7, b7 = w.heap.size + 1 := ⟨_, rfl⟩
  rw [← hb7]
  clear hb7
  obtain ⟨b6, hb6⟩ : ∃ b6, b6 = w.heap.size := ⟨_, rfl⟩
  rw [← hb6]
  have H6 := hide (show w.heap.size ≤ b6 by omega)
  intro L2
  have HL2 : Hid (LT w W2 b6 b7 b8 b9 (m : Int) (.slice av Nw cv) ((X.take (m + 1)).map f) 0) := hide L2
  clear L2 hb6 hs0 hs1 hs hm1 hm2 hsb1 hsb2
  refine (all_any h n _).mono ?_
  rintro r W3 ⟨b1, b2, rfl, k1, k2, e1, e2, hb3⟩
  have HL3 := hide (HL2.out.on hb3)
  have U3 : Hid (TK (M1 b9) b1 b2 h n W3) := hide ⟨k1, k2, fun hk => by have := HL2.out.c9.lt; have := hk.1; omega, fun hk => by have := HL2.out.c9.lt; have := hk.1; omega⟩
  clear k1 k2 e1 e2 hb3 HL2
  have heq : ∀ v : World, (binOp BinOp.eql 43 (.func (.func 26) #[] #[.pointer (some ⟨b1, 0, none⟩), .pointer (some ⟨b2, 0, none⟩)]) .nilFunc).run Try.prog v = .ok (.bool false) v := fun v => by kernel_rfl
  go_wp2_with fail
  clear heq
  have hg9 : b9 < W3.heap.size := HL3.out.c9.lt
  have hws : w.heap.size ≤ W3.heap.size := HL3.out.bel.size
  have HST := hide (HSQ.out W3.heap.size (M1 b9) (Mine.one hg9) b1 b2 W3 (Nat.le_refl _) U3.out)
  clear HSQ
  refine (wpIn_wide (n := 3)).1 ?_
  refine range1 rfl (by decide) (gf := 26) (lb := #[.pointer (some ⟨b1, 0, none⟩), .pointer (some ⟨b2, 0, none⟩)]) rfl trivial (enters_of Try.func26 (by kernel_rfl) rfl)
    HST.out KM.trans (KM.book (Mine.one hg9) (Nat.le_refl _)) (fun A B h hb => km_below (Mine.one hg9) h hb) (fun _ => rfl)
    (fun pre W => (pre <+: X ∧ pre.length ≤ m) ∧ LT w W b6 b7 b8 b9 (m : Int) (.slice av Nw cv) ((X.take (m + 1)).map f) pre.length ∧ W3.heap.size ≤ W.heap.size)
    (fun c pre W => (c = .ret ∧ ¬ pre <+: X) ∨ (c = .exit 0 ∧ m + 1 ≤ X.length ∧ LT w W b6 b7 b8 b9 (m : Int) (.slice av Nw cv) ((X.take (m + 1)).map f) (m + 1)))
    (fun _ A B row h hg hr => ⟨h.1, h.2.1.kept hg (fun r e => ⟨by have := (hr r e).1; omega, (hr r e).2⟩), Nat.le_trans h.2.2 hg.size⟩)
    (fun _ _ h => h.2.2) (fun c _ A B row h hg hr => h.imp id (fun h => ⟨h.1, h.2.1, h.2.2.kept hg (fun r e => ⟨by have := (hr r e).1; omega, (hr r e).2⟩)⟩))
    ⟨⟨List.nil_prefix, Nat.zero_le _⟩, HL3.out, Nat.le_refl _⟩ 25 (fun x => tC (f x)) ?act ?assign ?body ?done ?stop
  case assign =>
    rintro l x W K hK
    have hsem := Oper.semAt_some
    gi_wp2_with (refine istep_alloc (.round l) zT rfl ?_)
    intro V1 g9 hg9 hle9 hb9
    gi_wp2_with (refine istep_storeA (.round l) wT rfl rfl rfl hg9 rfl (One.tC _) rfl ?_)
    intro V2 hg92 hbut9
    have hb92 : Below W.heap.size W V2 := hb9.trans (hbut9.below hle9)
    have hK2 := hK g9 V2 hb92 hg92
    clear hK
    gi_wp2
    exact hK2
  case body =>
    rintro l pre x ga W ⟨⟨hp, hpl⟩, hL, hsz⟩ hga hlt
    have hsem := Oper.semAt_some
    have HP := hide hp
    obtain ⟨k, HPL⟩ : ∃ k, Hid (pre.length = k) := ⟨_, hide rfl⟩
    rw [HPL.out] at hL hlt hpl
    have HL := hide hL
    have HGA := hide hga
    obtain ⟨y, hy⟩ : ∃ y, X[k]? = some y := ⟨X[k], List.getElem?_eq_getElem hlt⟩
    have HY := hide hy
    have hget : ((X.take (m + 1)).map f)[k]? = some (f y) := by
      rw [List.getElem?_map, List.getElem?_take, if_pos (by omega), hy]; rfl
    have hkN : k < Nw := by have := HNm.out; omega
    have hkN' : ¬ (k : Int) ≥ (Nw : Int) := by omega
    have g0b : decide (Nw ≤ k) = false := by simp; omega
    have g0c : decide ((Nw : Int) ≤ (k : Int)) = false := by simp; omega
    have d7 : W.cell? ⟨b7, 0, none⟩ = some (.int .i64 (m : Int)) := by rw [hL.c7.cell]; rfl
    have d9 : W.cell? ⟨b9, 0, none⟩ = some (.int .i64 (k : Int)) := by rw [hL.c9.cell]; rfl
    have d8 : W.cell? ⟨b8, 0, none⟩ = some (.slice av Nw cv) := by rw [hL.c8.cell]; rfl
    have d6 : W.cell? ⟨b6, 0, none⟩ = some (.bool false) := by rw [hL.c6.cell]; rfl
    have f9 := hL.c9.free 0
    have f6 := hL.c6.free 0
    obtain ⟨gw, rfl⟩ : ∃ g, av = some ⟨g, 0, none⟩ := by
      rcases hL.own.lies with ⟨e1, e2⟩ | ⟨g, cap, cs, e1, _⟩
      · rw [e2] at hget; simp at hget
      · injection e1 with e1 _ _; exact ⟨g, e1⟩
    obtain ⟨q0, q1, q2, q3⟩ := hL.own.cells k _ hget
    have xa := atT gw Nw cv k (k : Int) rfl hkN
    have hk1 : wrap64 ((k : Int) + 1) = ((k + 1 : Nat) : Int) := by unfold wrap64; omega
    have hbd := fun nq => below_drews (Below.refl W.heap.size W) nq
    obtain ⟨n0, n1, n2, n3⟩ := Blk.four HGA.out
    clear hp hL hga hget hy
    by_cases hx : x = y
    · subst hx
      have HE := hide (next_pre HP.out (by rw [HPL.out]; exact HY.out))
      have HE2 := hide (show (pre ++ [x]).length = k + 1 by rw [List.length_append, HPL.out]; rfl)
      generalize f x = fx at *
      obtain ⟨x0, x1, x2, x3⟩ := fx
      by_cases hbr : k + 1 ≤ m
      · have hbr' : ¬ ((k + 1 : Nat) : Int) > (m : Int) := by omega
        have d7' : ∀ (nq : Nat) (v : Value), ((W.drewN nq).setCell ⟨b9, 0, none⟩ v).cell? ⟨b7, 0, none⟩ = some (.int .i64 (m : Int)) := fun nq v => by rw [(World.cell?_setCell_far (W.drewN nq) ⟨b9, 0, none⟩ ⟨b7, 0, none⟩ v (Ne.symm HL.out.n7) : _ = (W.drewN nq).cell? ⟨b7, 0, none⟩)]; exact d7
        have d9' : ∀ (nq : Nat) (v : Value), ((W.drewN nq).setCell ⟨b9, 0, none⟩ v).cell? ⟨b9, 0, none⟩ = some v := fun nq v => by rw [((HL.out.on (hbd nq)).c9.set 0 v).cell]; rfl
        gi_wp2_with fail
        refine wpIn_region_round (.round l) (by kernel_rfl) (by kernel_rfl) (by kernel_rfl) ?_
        repeat (go_big_quiet_step (fail))
        refine wpQuiet_nil ?_
        rintro _ ⟨nq, rfl⟩
        have L6 : Hid (LT w ((W.drewN nq).setCell ⟨b9, 0, none⟩ (.int .i64 ((k + 1 : Nat) : Int))) b6 b7 b8 b9 (m : Int) (.slice (some ⟨gw, 0, none⟩) Nw cv) ((X.take (m + 1)).map f) (k + 1)) := hide ((HL.out.on (hbd nq)).set (k + 1))
        have K6 : Hid (KM (M1 b9) W ((W.drewN nq).setCell ⟨b9, 0, none⟩ (.int .i64 ((k + 1 : Nat) : Int)))) := hide (KM.trans (km_below (Mine.one hg9) hsz (hbd nq)) (km_one (But.setCell _ _ _ _) (HL.out.on (hbd nq)).c9.lt))
        have O6 : Hid (KeepsOthers W ((W.drewN nq).setCell ⟨b9, 0, none⟩ (.int .i64 ((k + 1 : Nat) : Int)))) := hide ((keepsO_below (hbd nq)).trans (KeepsOthers.setCell _ _ _))
        have S6 : W3.heap.size ≤ ((W.drewN nq).setCell ⟨b9, 0, none⟩ (.int .i64 ((k + 1 : Nat) : Int))).heap.size := by rw [(But.setCell _ _ _ _).size]; exact hsz
        gi_wp2
        exact ⟨O6.out.from _, K6.out, ⟨HE.out, by rw [HE2.out]; exact hbr⟩, by rw [HE2.out]; exact L6.out, S6⟩
      · have hbr' : ((k + 1 : Nat) : Int) > (m : Int) := by omega
        have hXl : m + 1 ≤ X.length := by have := HE.out.length_le; rw [HE2.out] at this; omega
        have hkm : k + 1 = m + 1 := by omega
        have HKM := hide hkm
        clear hkm
        have d7' : ∀ (nq : Nat) (v : Value), ((W.drewN nq).setCell ⟨b9, 0, none⟩ v).cell? ⟨b7, 0, none⟩ = some (.int .i64 (m : Int)) := fun nq v => by rw [(World.cell?_setCell_far (W.drewN nq) ⟨b9, 0, none⟩ ⟨b7, 0, none⟩ v (Ne.symm HL.out.n7) : _ = (W.drewN nq).cell? ⟨b7, 0, none⟩)]; exact d7
        have d9' : ∀ (nq : Nat) (v : Value), ((W.drewN nq).setCell ⟨b9, 0, none⟩ v).cell? ⟨b9, 0, none⟩ = some v := fun nq v => by rw [((HL.out.on (hbd nq)).c9.set 0 v).cell]; rfl
        gi_wp2_with fail
        refine wpIn_region_round (.round l) (by kernel_rfl) (by kernel_rfl) (by kernel_rfl) ?_
        repeat (go_big_quiet_step (fail))
        refine wpQuiet_nil ?_
        rintro _ ⟨nq, rfl⟩
        have L6 : Hid (LT w ((W.drewN nq).setCell ⟨b9, 0, none⟩ (.int .i64 ((k + 1 : Nat) : Int))) b6 b7 b8 b9 (m : Int) (.slice (some ⟨gw, 0, none⟩) Nw cv) ((X.take (m + 1)).map f) (k + 1)) := hide ((HL.out.on (hbd nq)).set (k + 1))
        have K6 : Hid (KM (M1 b9) W ((W.drewN nq).setCell ⟨b9, 0, none⟩ (.int .i64 ((k + 1 : Nat) : Int)))) := hide (KM.trans (km_below (Mine.one hg9) hsz (hbd nq)) (km_one (But.setCell _ _ _ _) (HL.out.on (hbd nq)).c9.lt))
        have O6 : Hid (KeepsOthers W ((W.drewN nq).setCell ⟨b9, 0, none⟩ (.int .i64 ((k + 1 : Nat) : Int)))) := hide ((keepsO_below (hbd nq)).trans (KeepsOthers.setCell _ _ _))
        have S6 : W3.heap.size ≤ ((W.drewN nq).setCell ⟨b9, 0, none⟩ (.int .i64 ((k + 1 : Nat) : Int))).heap.size := by rw [(But.setCell _ _ _ _).size]; exact hsz
        gi_wp2
        exact ⟨O6.out.from _, .inr ⟨rfl, hXl, (fun j (e : k + 1 = j) => by subst e; exact L6.out : ∀ j, k + 1 = j → LT w ((W.drewN nq).setCell ⟨b9, 0, none⟩ (.int .i64 ((k + 1 : Nat) : Int))) b6 b7 b8 b9 (m : Int) (.slice (some ⟨gw, 0, none⟩) Nw cv) ((X.take (m + 1)).map f) j) (m + 1) HKM.out⟩⟩
    · have HNP : Hid (¬ pre ++ [x] <+: X) := hide (fun hq => by
        have h1 := next_of hq
        rw [HPL.out, HY.out] at h1
        exact hx (Option.some.inj h1).symm)
      have hfx : ¬ f x = f y := fun e => hx (HI.out x y e)
      generalize f x = fx at *
      generalize f y = fy at *
      obtain ⟨x0, x1, x2, x3⟩ := fx
      obtain ⟨y0, y1, y2, y3⟩ := fy
      clear hx
      have hne : ((x0 == y0) && ((x1 == y1) && ((x2 == y2) && (x3 == y3)))) = false := by
        rw [Bool.eq_false_iff]
        intro hq
        simp at hq
        obtain ⟨rfl, rfl, rfl, rfl⟩ := hq
        exact hfx rfl
      clear hfx
      by_cases z0 : x0 = y0
      · subst z0
        by_cases z1 : x1 = y1
        · subst z1
          by_cases z2 : x2 = y2
          · subst z2
            have z3 : ¬ x3 = y3 := by intro e; subst e; simp at hne
            have z3b : (x3 == y3) = false := by simp; exact z3
            clear hne
            gi_wp2_with fail
            refine wpIn_region_round (.round l) (by kernel_rfl) (by kernel_rfl) (by kernel_rfl) ?_
            repeat (go_big_quiet_step (fail))
            refine wpQuiet_nil ?_
            rintro _ ⟨nq, rfl⟩
            gi_wp2
            exact ⟨((keepsO_below (hbd nq)).trans (KeepsOthers.setCell _ _ _)).from _, .inl ⟨rfl, HNP.out⟩⟩
          · have z2b : (x2 == y2) = false := by simp; exact z2
            clear hne
            gi_wp2_with fail
            refine wpIn_region_round (.round l) (by kernel_rfl) (by kernel_rfl) (by kernel_rfl) ?_
            repeat (go_big_quiet_step (fail))
            refine wpQuiet_nil ?_
            rintro _ ⟨nq, rfl⟩
            gi_wp2
            exact ⟨((keepsO_below (hbd nq)).trans (KeepsOthers.setCell _ _ _)).from _, .inl ⟨rfl, HNP.out⟩⟩
        · have z1b : (x1 == y1) = false := by simp; exact z1
          clear hne
          gi_wp2_with fail
          refine wpIn_region_round (.round l) (by kernel_rfl) (by kernel_rfl) (by kernel_rfl) ?_
          repeat (go_big_quiet_step (fail))
          refine wpQuiet_nil ?_
          rintro _ ⟨nq, rfl⟩
          gi_wp2
          exact ⟨((keepsO_below (hbd nq)).trans (KeepsOthers.setCell _ _ _)).from _, .inl ⟨rfl, HNP.out⟩⟩
      · have z0b : (x0 == y0) = false := by simp; exact z0
        clear hne
        gi_wp2_with fail
        refine wpIn_region_round (.round l) (by kernel_rfl) (by kernel_rfl) (by kernel_rfl) ?_
        repeat (go_big_quiet_step (fail))
        refine wpQuiet_nil ?_
        rintro _ ⟨nq, rfl⟩
        gi_wp2
        exact ⟨((keepsO_below (hbd nq)).trans (KeepsOthers.setCell _ _ _)).from _, .inl ⟨rfl, HNP.out⟩⟩
  case done =>
    rintro D ys W hD hys ⟨⟨hp, hpl⟩, hL, hsz⟩ hKd
    subst hys
    have hyl : ys.length = Nw := by have := HNm.out; omega
    rw [hyl] at hL
    clear hyl hpl hp
    have HL := hide hL
    have d9 : W.cell? ⟨b9, 0, none⟩ = some (.int .i64 (Nw : Int)) := by rw [hL.c9.cell]; rfl
    have d8 : W.cell? ⟨b8, 0, none⟩ = some (.slice av Nw cv) := by rw [hL.c8.cell]; rfl
    have d6 : W.cell? ⟨b6, 0, none⟩ = some (.bool false) := by rw [hL.c6.cell]; rfl
    have f6 := hL.c6.free 0
    have k1 := (KeepsOthers.setCell W ⟨b6, 0, none⟩ (.bool true)).same D _ hKd rfl
    have hbutR := But.setCell W b6 0 (.bool true)
    have CB6 := HL.out.c6.set 0 (.bool true)
    have CB7 := CB6.kept (grownBy_putObj' _ D (.deferred none)) (fun r e => by cases e; exact ⟨_, k1, rfl⟩)
    have BA := (HL.out.bel.trans (hbutR.below H6.out)).trans (belowK_b (w := w) (Nat.le_refl _) _ D _ (.deferred none) (by omega) k1 rfl rfl)
    have hcC : ((W.setCell ⟨b6, 0, none⟩ (.bool true)).putObj D (.deferred none)).cell? ⟨b6, 0, none⟩ = some (.bool true) := by rw [CB7.cell]; rfl
    clear hL hbutR CB6 CB7 hKd
    go_wp2
    refine ⟨by simp, .inl ⟨_, _, rfl, run_takeDeferred k1, ?_⟩⟩
    refine ⟨.bool true, ?_, rfl, BA⟩
    simp [results, Try.f5, go_sem, hcC]
  case stop =>
    rintro D c pre W hD hSp hIx hKd
    rcases hIx with ⟨rfl, hn⟩ | ⟨rfl, hXl, hL⟩
    · exact absurd hSp hn
    · have hyl : m + 1 = Nw := by have := HNm.out; omega
      rw [hyl] at hL
      clear hyl hXl
      have HL := hide hL
      have d9 : W.cell? ⟨b9, 0, none⟩ = some (.int .i64 (Nw : Int)) := by rw [hL.c9.cell]; rfl
      have d8 : W.cell? ⟨b8, 0, none⟩ = some (.slice av Nw cv) := by rw [hL.c8.cell]; rfl
      have d6 : W.cell? ⟨b6, 0, none⟩ = some (.bool false) := by rw [hL.c6.cell]; rfl
      have f6 := hL.c6.free 0
      have k1 := (KeepsOthers.setCell W ⟨b6, 0, none⟩ (.bool true)).same D _ hKd rfl
      have hbutR := But.setCell W b6 0 (.bool true)
      have CB6 := HL.out.c6.set 0 (.bool true)
      have CB7 := CB6.kept (grownBy_putObj' _ D (.deferred none)) (fun r e => by cases e; exact ⟨_, k1, rfl⟩)
      have BA := (HL.out.bel.trans (hbutR.below H6.out)).trans (belowK_b (w := w) (Nat.le_refl _) _ D _ (.deferred none) (by omega) k1 rfl rfl)
      have hcC : ((W.setCell ⟨b6, 0, none⟩ (.bool true)).putObj D (.deferred none)).cell? ⟨b6, 0, none⟩ = some (.bool true) := by rw [CB7.cell]; rfl
      clear hL hbutR CB6 CB7 hKd
      refine wpIn_wide.2 ?_; go_wp2
      refine ⟨by simp, .inl ⟨_, _, rfl, run_takeDeferred k1, ?_⟩⟩
      refine ⟨.bool true, ?_, rfl, BA⟩
      simp [results, Try.f5, go_sem, hcC]

end Go.Proofs.Ytnlpgkfmjlljdaa
