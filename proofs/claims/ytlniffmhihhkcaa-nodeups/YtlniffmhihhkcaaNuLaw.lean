/-
  The walk of NodeUps.
-/
import Derived.Test.YtlniffmhihhkcaaUi
namespace Go.Proofs.Ytlniffmhihhkcaa
open Go.RowKit Go.Shelf
set_option linter.unusedVariables false

theorem upR_any (leaf level : Int) (w : World) (hl0 : -9223372036854775808 ≤ level) (hl1 : level ≤ 9223372036854775807) : Calls Try.prog 21 #[.int .i64 leaf, .int .i64 level] w fun r w' => ∃ v, r = .returned v ∧ OwnM w' w.heap.size v (upL leaf.toNat (cnt leaf level)) ∧ Below w.heap.size w w' := by
  by_cases h : leaf < 0 ∨ 281474976710656 ≤ leaf
  · have hc : cnt leaf level = 0 := by unfold cnt; rw [if_pos (by omega)]
    rw [hc]
    exact (upR_out leaf level w h).mono fun r w' ⟨hr, hw⟩ => ⟨_, hr, OwnM.nil _ _, by rw [hw]; exact Below.refl _ _⟩
  · obtain ⟨n, rfl⟩ : ∃ n : Nat, leaf = (n : Int) := ⟨leaf.toNat, by omega⟩
    exact upR_in n level w (by omega) hl0 hl1
theorem up_stops (g b1 b2 : Nat) (leaf level : Int) (w : World) (hg : g < w.heap.size) (hu : UK g b1 b2 leaf level w) (hl0 : -9223372036854775808 ≤ level) (hl1 : level ≤ 9223372036854775807) :
    SeqStopsK Fence.wide 2 Try.prog 31 #[.pointer (some ⟨b1, 0, none⟩), .pointer (some ⟨b2, 0, none⟩)] (fun i : Nat => #[Value.agg (qC (upG leaf.toNat i)).toArray]) (KM (M1 g)) (fun xs => xs = List.range (cnt leaf level)) (fun pre => pre <+: List.range (cnt leaf level)) (cnt leaf level) w := by
  by_cases h : leaf < 0 ∨ 281474976710656 ≤ leaf
  · have hc : cnt leaf level = 0 := by unfold cnt; rw [if_pos (by omega)]
    rw [hc]
    exact up_stops_out g b1 b2 leaf level w hg hu h
  · obtain ⟨n, rfl⟩ : ∃ n : Nat, leaf = (n : Int) := ⟨leaf.toNat, by omega⟩
    exact up_stops_in g b1 b2 n level w hg hu (by omega) hl0 hl1

theorem OwnM.kept {A B : World} {B0 : Nat} {v : Value} {ps : List (Nat × Nat)} {row : Option Nat} (h : OwnM A B0 v ps) (hg : A.grownBy B row) (hr : ∀ r, row = some r → ∃ o : Obj, A.heap[r]? = some o ∧ o.isCells = false) : OwnM B B0 v ps := by
  obtain ⟨h1, h2⟩ := h
  refine ⟨h1, ?_⟩
  rcases h2 with h2 | ⟨k, cap, cur, rfl, hk, hh, r⟩
  · exact .inl h2
  · refine .inr ⟨k, cap, cur, rfl, hk, ?_, r⟩
    rw [hg.block k (Array.getElem?_eq_some_iff.1 hh).1 (fun e => by
      obtain ⟨o, ho, hc⟩ := hr k e.symm
      rw [hh] at ho
      injection ho with ho
      subst ho
      cases hc)]
    exact hh
/-- What the law's own variables hold. -/
structure LU (w W : World) (b5 b6 b7 b8 : Nat) (stop : Int) (v : Value) (L : List (Nat × Nat)) (k : Nat) : Prop where
  c5 : Blk W b5 3 [.int .i64 stop]
  c6 : Blk W b6 4 [.bool false]
  c7 : Blk W b7 42 [v]
  c8 : Blk W b8 3 [.int .i64 (k : Int)]
  own : OwnM W w.heap.size v L
  bel : Below w.heap.size w W
  n5 : b5 ≠ b8
  n6 : b6 ≠ b8
  n7 : b7 ≠ b8
  no : v.ownBlock ≠ some b8
  l8 : w.heap.size ≤ b8
theorem LU.on {w W W' : World} {b5 b6 b7 b8 : Nat} {stop : Int} {v : Value} {L : List (Nat × Nat)} {k : Nat} (h : LU w W b5 b6 b7 b8 stop v L k) (hb : Below W.heap.size W W') : LU w W' b5 b6 b7 b8 stop v L k :=
  ⟨h.c5.on hb, h.c6.on hb, h.c7.on hb, h.c8.on hb, h.own.below hb, on_below h.bel hb, h.n5, h.n6, h.n7, h.no, h.l8⟩
theorem LU.set {w W : World} {b5 b6 b7 b8 : Nat} {stop : Int} {v : Value} {L : List (Nat × Nat)} {k : Nat} (h : LU w W b5 b6 b7 b8 stop v L k) (k' : Nat) : LU w (W.setCell ⟨b8, 0, none⟩ (.int .i64 (k' : Int))) b5 b6 b7 b8 stop v L k' := by
  have hb := But.setCell W b8 0 (.int .i64 (k' : Int))
  exact ⟨h.c5.but hb h.n5, h.c6.but hb h.n6, h.c7.but hb h.n7, h.c8.set 0 _, h.own.but hb h.no, h.bel.trans (hb.below h.l8), h.n5, h.n6, h.n7, h.no, h.l8⟩
theorem LU.kept {w A B : World} {b5 b6 b7 b8 : Nat} {stop : Int} {v : Value} {L : List (Nat × Nat)} {k : Nat} {row : Option Nat} (h : LU w A b5 b6 b7 b8 stop v L k) (hg : A.grownBy B row) (hr : ∀ r, row = some r → w.heap.size ≤ r ∧ ∃ o : Obj, A.heap[r]? = some o ∧ o.isCells = false) : LU w B b5 b6 b7 b8 stop v L k :=
  ⟨h.c5.kept hg (fun r e => (hr r e).2), h.c6.kept hg (fun r e => (hr r e).2), h.c7.kept hg (fun r e => (hr r e).2), h.c8.kept hg (fun r e => (hr r e).2), h.own.kept hg (fun r e => (hr r e).2), h.bel.grown hg h.bel.size (fun r e => (hr r e).1), h.n5, h.n6, h.n7, h.no, h.l8⟩
theorem nat_pre {N k x : Nat} {pre : List Nat} (hk : pre.length = k) (hlt : k < N) (hne : x ≠ k) : ¬ (pre ++ [x]) <+: List.range N := by
  rintro ⟨r, hr⟩
  have h1 : (List.range N)[k]? = some x := by
    rw [← hr, List.append_assoc, List.getElem?_append_right (by omega), hk, Nat.sub_self]
    rfl
  rw [List.getElem?_range hlt] at h1
  exact hne (Option.some.inj h1).symm

set_option maxRecDepth 100000 in
set_option maxHeartbeats 2000000 in
theorem ups_walk (leaf level stop : Int) (w : World) (h0 : -9223372036854775808 ≤ leaf) (h1 : leaf ≤ 9223372036854775807) (hl0 : -9223372036854775808 ≤ level) (hl1 : level ≤ 9223372036854775807) (hs0 : -9223372036854775808 ≤ stop) (hs1 : stop ≤ 9223372036854775807) :
    Calls Try.prog 5 #[.int .i64 leaf, .int .i64 level, .int .i64 stop] w fun r w' => r = .returned (.bool true) ∧ Below w.heap.size w w' := by
  obtain ⟨N, HN⟩ : ∃ N, Hid (cnt leaf level = N) := ⟨_, hide rfl⟩
  have hN : N ≤ 49 := by rw [← HN.out]; exact cnt_le _ _
  refine (callsIn_wide (n := 3)).1 ?_
  refine callsIn_of_wp_marks Try.func5 rfl trivial ?_ rfl
  refine wpIn_wide.2 ?_
  simp only [Try.ntmps5, List.size_toArray, List.length_cons, List.length_nil, Nat.reduceAdd, Nat.reduceSub, Array.replicate_succ, Array.replicate_zero, List.push_toArray, List.append_toArray, List.nil_append, List.cons_append]
  go_wp2_with fail
  refine (upR_any leaf level _ hl0 hl1).mono ?_
  rintro r W1 ⟨v1, rfl, ho1, hb1⟩
  obtain ⟨av, cv, rfl, _⟩ := ho1.len
  rw [upL_len, HN.out] at ho1 ⊢
  have hb0 : Below w.heap.size w ((w.alloc (.cells #[.int .i64 stop] 3)).alloc (.cells #[.bool false] 4)) := ((Below.refl _ _).alloc (Nat.le_refl _) _).alloc (by simp) _
  have g5 : Blk W1 w.heap.size 3 [.int .i64 stop] := ((Blk.made w 3 [.int .i64 stop]).on ((Below.refl _ _).alloc (Nat.le_refl _) _)).on hb1
  have g6 : Blk W1 (w.heap.size + 1) 4 [.bool false] := by
    have := Blk.made (w.alloc (.cells #[.int .i64 stop] 3)) 4 [.bool false]
    rw [World.size_alloc] at this
    exact this.on hb1
  have bel1 := on_below hb0 hb1
  have own1 := ho1.lower hb0.size
  clear ho1 hb1 hb0
  go_wp2_with fail
  have hbb : Below W1.heap.size W1 ((W1.alloc (.cells #[.slice av N cv] 42)).alloc (.cells #[.int .i64 0] 3)) := ((Below.refl _ _).alloc (Nat.le_refl _) _).alloc (by simp) _
  have g7 : Blk ((W1.alloc (.cells #[.slice av N cv] 42)).alloc (.cells #[.int .i64 0] 3)) W1.heap.size 42 [.slice av N cv] := (Blk.made W1 42 [.slice av N cv]).on ((Below.refl _ _).alloc (Nat.le_refl _) _)
  have g8 : Blk ((W1.alloc (.cells #[.slice av N cv] 42)).alloc (.cells #[.int .i64 0] 3)) (W1.heap.size + 1) 3 [.int .i64 ((0 : Nat) : Int)] := by
    have := Blk.made (W1.alloc (.cells #[.slice av N cv] 42)) 3 [.int .i64 0]
    rw [World.size_alloc] at this
    exact this
  have L2 : LU w ((W1.alloc (.cells #[.slice av N cv] 42)).alloc (.cells #[.int .i64 0] 3)) w.heap.size (w.heap.size + 1) W1.heap.size (W1.heap.size + 1) stop (.slice av N cv) (upL leaf.toNat N) 0 :=
    ⟨g5.on hbb, g6.on hbb, g7, g8, own1.below hbb, on_below bel1 hbb, by have := g5.lt; omega, by have := g6.lt; omega, by omega, fun hk => by have := (own1.lt _ hk).2; omega, by have := bel1.size; omega⟩
  clear g5 g6 g7 g8 own1 bel1 hbb
  revert L2
  generalize (W1.alloc (.cells #[.slice av N cv] 42)).alloc (.cells #[.int .i64 0] 3) = W2
  generalize W1.heap.size + 1 = b8
  generalize W1.heap.size = b7
  obtain ⟨b6, hb6⟩ : ∃ b6, b6 = w.heap.size + 1 := ⟨_, rfl⟩
  rw [← hb6]
  have H6 := hide (show w.heap.size ≤ b6 by omega)
  clear hb6
  obtain ⟨b5, hb5⟩ : ∃ b5, b5 = w.heap.size := ⟨_, rfl⟩
  rw [← hb5]
  intro L2
  have HL2 : Hid (LU w W2 b5 b6 b7 b8 stop (.slice av N cv) (upL leaf.toNat N) 0) := hide L2
  clear L2 hb5
  refine (up_any leaf level _).mono ?_
  rintro r W3 ⟨b1, b2, rfl, k1, k2, e1, e2, hb3⟩
  have HL3 := hide (HL2.out.on hb3)
  have U3 : Hid (UK b8 b1 b2 leaf level W3) := hide ⟨k1, k2, by have := HL2.out.c8.lt; omega, by have := HL2.out.c8.lt; omega⟩
  clear k1 k2 e1 e2 hb3 HL2
  have heq : ∀ v : World, (binOp BinOp.eql 45 (.func (.func 31) #[] #[.pointer (some ⟨b1, 0, none⟩), .pointer (some ⟨b2, 0, none⟩)]) .nilFunc).run Try.prog v = .ok (.bool false) v := fun v => by kernel_rfl
  go_wp2_with fail
  clear heq
  have hg8 : b8 < W3.heap.size := HL3.out.c8.lt
  have hws : w.heap.size ≤ W3.heap.size := HL3.out.bel.size
  have HST := hide (up_stops b8 b1 b2 leaf level W3 hg8 U3.out hl0 hl1)
  rw [HN.out] at HST
  refine (wpIn_wide (n := 3)).1 ?_
  refine range1 rfl (by decide) (gf := 31) (lb := #[.pointer (some ⟨b1, 0, none⟩), .pointer (some ⟨b2, 0, none⟩)]) rfl trivial (enters_of Try.func31 (by kernel_rfl) rfl)
    HST.out KM.trans (KM.book (Mine.one hg8) (Nat.le_refl _)) (fun A B h hb => km_below (Mine.one hg8) h hb) (fun _ => rfl)
    (fun pre W => (pre = List.range pre.length ∧ pre.length ≤ N) ∧ LU w W b5 b6 b7 b8 stop (.slice av N cv) (upL leaf.toNat N) pre.length ∧ W3.heap.size ≤ W.heap.size)
    (fun c pre W => (c = .ret ∧ ¬ pre <+: List.range N) ∨ (c = .exit 0 ∧ ∃ k : Nat, (k : Int) = stop ∧ LU w W b5 b6 b7 b8 stop (.slice av N cv) (upL leaf.toNat N) k))
    (fun _ A B row h hg hr => ⟨h.1, h.2.1.kept hg (fun r e => ⟨by have := (hr r e).1; omega, (hr r e).2⟩), Nat.le_trans h.2.2 hg.size⟩)
    (fun _ _ h => h.2.2) (fun c _ A B row h hg hr => h.imp id (fun h => ⟨h.1, h.2.imp fun k hk => ⟨hk.1, hk.2.kept hg (fun r e => ⟨by have := (hr r e).1; omega, (hr r e).2⟩)⟩⟩))
    ⟨⟨rfl, Nat.zero_le _⟩, HL3.out, Nat.le_refl _⟩ 23 (fun x => qC (upG leaf.toNat x)) ?act ?assign ?body ?done ?stop
  case assign =>
    rintro l x W K hK
    have hsem := Oper.semAt_some
    gi_wp2_with (refine istep_alloc (.round l) zN rfl ?_)
    intro V1 g9 hg9 hle9 hb9
    gi_wp2_with (refine istep_storeA (.round l) wN rfl rfl rfl hg9 rfl (One.qC _) rfl ?_)
    intro V2 hg92 hbut9
    have hb92 : Below W.heap.size W V2 := hb9.trans (hbut9.below hle9)
    have hK2 := hK g9 V2 hb92 hg92
    clear hK
    gi_wp2
    exact hK2
  case body =>
    rintro l pre x g9 W ⟨⟨hp, hpl⟩, hL, hsz⟩ hg9 hlt
    have hsem := Oper.semAt_some
    have HP := hide hp
    obtain ⟨k, HPL⟩ : ∃ k, Hid (pre.length = k) := ⟨_, hide rfl⟩
    rw [HPL.out] at hL hlt hpl
    have HL := hide hL
    have HG9 := hide hg9
    have hlt' : (k : Int) < (N : Int) := by omega
    have d5 : W.cell? ⟨b5, 0, none⟩ = some (.int .i64 stop) := by rw [hL.c5.cell]; rfl
    have d8 : W.cell? ⟨b8, 0, none⟩ = some (.int .i64 (k : Int)) := by rw [hL.c8.cell]; rfl
    have d7 : W.cell? ⟨b7, 0, none⟩ = some (.slice av N cv) := by rw [hL.c7.cell]; rfl
    have d6 : W.cell? ⟨b6, 0, none⟩ = some (.bool false) := by rw [hL.c6.cell]; rfl
    have f8 := hL.c8.free 0
    have f6 := hL.c6.free 0
    have hget := upL_get (leaf := leaf.toNat) hlt
    obtain ⟨gw, rfl⟩ : ∃ g, av = some ⟨g, 0, none⟩ := by
      rcases hL.own.lies with ⟨e1, e2⟩ | ⟨g, cap, cs, e1, _⟩
      · rw [e2] at hget; simp at hget
      · injection e1 with e1 _ _; exact ⟨g, e1⟩
    obtain ⟨q0, q1⟩ := hL.own.cells k _ hget
    have xa := atM gw N cv k (k : Int) rfl hlt
    obtain ⟨Z, HZ⟩ : ∃ Z, Hid (leaf.toNat / 2 ^ k = Z) := ⟨_, hide rfl⟩
    simp only [upG, HZ.out] at q0 q1
    clear hp hL hg9 hget
    by_cases hst : (k : Int) = stop
    · subst hst
      gi_wp2
      exact ⟨(keepsO_below (Below.refl _ _)).from _, .inr ⟨rfl, k, rfl, HL.out⟩⟩
    · have g0 : decide ((k : Int) ≥ (N : Int)) = false := by simp; omega
      have g0b : decide (N ≤ k) = false := by simp; omega
      have g0c : decide ((N : Int) ≤ (k : Int)) = false := by simp; omega
      have hk1 : wrap64 ((k : Int) + 1) = ((k + 1 : Nat) : Int) := by unfold wrap64; omega
      have hbd := fun nq => below_drews (Below.refl W.heap.size W) nq
      by_cases hx : x = k
      · subst hx
        have HE := hide (show (pre ++ [x]) = List.range (x + 1) by rw [List.range_succ, ← HPL.out, ← HP.out])
        have HE2 := hide (show (pre ++ [x]).length = x + 1 by rw [List.length_append, HPL.out]; rfl)
        obtain ⟨n0, n1⟩ := Blk.two HG9.out
        simp only [upG, HZ.out] at n0 n1
        gi_wp2_with fail
        refine wpIn_region_round (.round l) (by kernel_rfl) (by kernel_rfl) (by kernel_rfl) ?_
        repeat (go_big_quiet_step (fail))
        refine wpQuiet_nil ?_
        rintro _ ⟨nq, rfl⟩
        have L6 : Hid (LU w ((W.drewN nq).setCell ⟨b8, 0, none⟩ (.int .i64 ((x + 1 : Nat) : Int))) b5 b6 b7 b8 stop (.slice (some ⟨gw, 0, none⟩) N cv) (upL leaf.toNat N) (x + 1)) := hide ((HL.out.on (hbd nq)).set (x + 1))
        have K6 : Hid (KM (M1 b8) W ((W.drewN nq).setCell ⟨b8, 0, none⟩ (.int .i64 ((x + 1 : Nat) : Int)))) := hide (KM.trans (km_below (Mine.one hg8) hsz (hbd nq)) (km_one (But.setCell _ _ _ _) (HL.out.on (hbd nq)).c8.lt))
        have O6 : Hid (KeepsOthers W ((W.drewN nq).setCell ⟨b8, 0, none⟩ (.int .i64 ((x + 1 : Nat) : Int)))) := hide ((keepsO_below (hbd nq)).trans (KeepsOthers.setCell _ _ _))
        have S6 : W3.heap.size ≤ ((W.drewN nq).setCell ⟨b8, 0, none⟩ (.int .i64 ((x + 1 : Nat) : Int))).heap.size := by rw [(But.setCell _ _ _ _).size]; exact hsz
        gi_wp2
        exact ⟨O6.out.from _, K6.out, ⟨by rw [HE2.out]; exact HE.out, by rw [HE2.out]; exact hlt⟩, by rw [HE2.out]; exact L6.out, S6⟩
      · have HNP := hide (nat_pre HPL.out hlt hx)
        have hxk : ¬ (x : Int) = (k : Int) := by omega
        have hxk2 : ((x : Int) == (k : Int)) = false := by simp; omega
        obtain ⟨n0, n1⟩ := Blk.two HG9.out
        obtain ⟨Z2, HZ2⟩ : ∃ Z2, Hid (leaf.toNat / 2 ^ x = Z2) := ⟨_, hide rfl⟩
        simp only [upG, HZ2.out] at n0 n1
        gi_wp2_with fail
        refine wpIn_region_round (.round l) (by kernel_rfl) (by kernel_rfl) (by kernel_rfl) ?_
        repeat (go_big_quiet_step (fail))
        refine wpQuiet_nil ?_
        rintro _ ⟨nq, rfl⟩
        gi_wp2
        exact ⟨((keepsO_below (hbd nq)).trans (KeepsOthers.setCell _ _ _)).from _, .inl ⟨rfl, HNP.out⟩⟩
  case done =>
    rintro D ys W hD hys ⟨⟨_, _⟩, hL, hsz⟩ hKd
    have hyl : ys.length = N := by rw [hys, List.length_range]
    rw [hyl] at hL
    clear hyl hys
    have HL := hide hL
    have d5 : W.cell? ⟨b5, 0, none⟩ = some (.int .i64 stop) := by rw [hL.c5.cell]; rfl
    have d8 : W.cell? ⟨b8, 0, none⟩ = some (.int .i64 (N : Int)) := by rw [hL.c8.cell]; rfl
    have d7 : W.cell? ⟨b7, 0, none⟩ = some (.slice av N cv) := by rw [hL.c7.cell]; rfl
    have d6 : W.cell? ⟨b6, 0, none⟩ = some (.bool false) := by rw [hL.c6.cell]; rfl
    have f6 := hL.c6.free 0
    have k1 := (KeepsOthers.setCell W ⟨b6, 0, none⟩ (.bool true)).same D _ hKd rfl
    have hbutR := But.setCell W b6 0 (.bool true)
    have CB6 := HL.out.c6.set 0 (.bool true)
    have CB7 := CB6.kept (grownBy_putObj' _ D (.deferred none)) (fun r e => by cases e; exact ⟨_, k1, rfl⟩)
    have BA := (HL.out.bel.trans (hbutR.below H6.out)).trans (belowK_b (w := w) (Nat.le_refl _) _ D _ (.deferred none) (by omega) k1 rfl rfl)
    have hcC : ((W.setCell ⟨b6, 0, none⟩ (.bool true)).putObj D (.deferred none)).cell? ⟨b6, 0, none⟩ = some (.bool true) := by rw [CB7.cell]; rfl
    clear hL hbutR CB6 CB7 hKd
    go_wp2
    refine ⟨by simp, .inl ⟨_, _, rfl, run_takeDeferred k1, ?_⟩⟩
    refine ⟨.bool true, ?_, rfl, BA⟩
    simp [results, Try.f5, go_sem, hcC]
  case stop =>
    rintro D c pre W hD hSp hIx hKd
    rcases hIx with ⟨rfl, hn⟩ | ⟨rfl, k, hks, hL⟩
    · exact absurd hSp hn
    · by_cases hkN : k = N
      · have hkn : (k : Int) = (N : Int) := by rw [hkN]
        have HL := hide hL
        have d5 : W.cell? ⟨b5, 0, none⟩ = some (.int .i64 stop) := by rw [hL.c5.cell]; rfl
        have d8 : W.cell? ⟨b8, 0, none⟩ = some (.int .i64 (k : Int)) := by rw [hL.c8.cell]; rfl
        have d7 : W.cell? ⟨b7, 0, none⟩ = some (.slice av N cv) := by rw [hL.c7.cell]; rfl
        have d6 : W.cell? ⟨b6, 0, none⟩ = some (.bool false) := by rw [hL.c6.cell]; rfl
        have f6 := hL.c6.free 0
        have k1 := (KeepsOthers.setCell W ⟨b6, 0, none⟩ (.bool true)).same D _ hKd rfl
        have hbutR := But.setCell W b6 0 (.bool true)
        have CB6 := HL.out.c6.set 0 (.bool true)
        have CB7 := CB6.kept (grownBy_putObj' _ D (.deferred none)) (fun r e => by cases e; exact ⟨_, k1, rfl⟩)
        have BA := (HL.out.bel.trans (hbutR.below H6.out)).trans (belowK_b (w := w) (Nat.le_refl _) _ D _ (.deferred none) (by omega) k1 rfl rfl)
        have hcC : ((W.setCell ⟨b6, 0, none⟩ (.bool true)).putObj D (.deferred none)).cell? ⟨b6, 0, none⟩ = some (.bool true) := by rw [CB7.cell]; rfl
        clear hL hbutR CB6 CB7 hKd
        refine wpIn_wide.2 ?_; go_wp2
        refine ⟨by simp, .inl ⟨_, _, rfl, run_takeDeferred k1, ?_⟩⟩
        refine ⟨.bool true, ?_, rfl, BA⟩
        simp [results, Try.f5, go_sem, hcC]
      · have hkn : ((k : Int) == (N : Int)) = false := by simp; omega
        have hkn2 : ¬ (k : Int) = (N : Int) := by omega
        have HL := hide hL
        have d5 : W.cell? ⟨b5, 0, none⟩ = some (.int .i64 stop) := by rw [hL.c5.cell]; rfl
        have d8 : W.cell? ⟨b8, 0, none⟩ = some (.int .i64 (k : Int)) := by rw [hL.c8.cell]; rfl
        have d7 : W.cell? ⟨b7, 0, none⟩ = some (.slice av N cv) := by rw [hL.c7.cell]; rfl
        have d6 : W.cell? ⟨b6, 0, none⟩ = some (.bool false) := by rw [hL.c6.cell]; rfl
        have f6 := hL.c6.free 0
        have k1 := (KeepsOthers.setCell W ⟨b6, 0, none⟩ (.bool true)).same D _ hKd rfl
        have hbutR := But.setCell W b6 0 (.bool true)
        have CB6 := HL.out.c6.set 0 (.bool true)
        have CB7 := CB6.kept (grownBy_putObj' _ D (.deferred none)) (fun r e => by cases e; exact ⟨_, k1, rfl⟩)
        have BA := (HL.out.bel.trans (hbutR.below H6.out)).trans (belowK_b (w := w) (Nat.le_refl _) _ D _ (.deferred none) (by omega) k1 rfl rfl)
        have hcC : ((W.setCell ⟨b6, 0, none⟩ (.bool true)).putObj D (.deferred none)).cell? ⟨b6, 0, none⟩ = some (.bool true) := by rw [CB7.cell]; rfl
        clear hL hbutR CB6 CB7 hKd
        refine wpIn_wide.2 ?_; go_wp2
        refine ⟨by simp, .inl ⟨_, _, rfl, run_takeDeferred k1, ?_⟩⟩
        refine ⟨.bool true, ?_, rfl, BA⟩
        simp [results, Try.f5, go_sem, hcC]

end Go.Proofs.Ytlniffmhihhkcaa
