/-
  The walk of FrameBegins.
-/
import Derived.Test.YtbkhlbaamjccjaaDoorFwh
import Derived.Test.YtbkhlbaamjccjaaDoorFkr
import Derived.Test.YtbkhlbaamjccjaaDoorFfm
import Derived.Deep.Cut
namespace Go.Proofs.YtbkhlbaamjccjaaDoor
open Go.RowKit Go.Shelf
set_option linter.unusedVariables false
set_option linter.unusedSimpArgs false

/-- b[:k] of a slice of the call's own. -/
theorem own_to {w : World} {B : Nat} {v : Value} {xs : List Int} (h : Own w B v xs) (hb : isB xs) (hl : xs.length ≤ 140737488355328) : ∃ a cap, v = .slice a xs.length cap ∧ ∀ (k : Nat) (K : Int), K = (k : Int) → k ≤ xs.length →
    (∀ v' : World, (Instr.slice 23 (.slice a xs.length cap) none (some (.int .i64 K)) none).run Tryd.prog v' = .ok (.slice a k cap) v') ∧ ∀ W, Own W B v xs → Sl W a k cap (xs.take k) := by
  rcases h.2 with ⟨rfl, hx⟩ | ⟨g, cap, cur, rfl, _, _, h3, _⟩
  · refine ⟨none, 0, by rw [hx], fun k K hK hk => ?_⟩
    obtain rfl : k = 0 := by omega
    subst hK
    refine ⟨fun v' => ?_, fun W hW => ?_⟩
    · rw [run_slice_h v' _ _ _ _ und22 .i64 ((0 : Nat) : Int) (by omega) (by omega), elem22, sizeB]
      simp [sliced]
    · obtain rfl : xs = [] := List.eq_nil_of_length_eq_zero hx
      exact ⟨rfl, Nat.le_refl _, by omega, by omega, (fun x hx => by cases hx), fun _ => ⟨rfl, rfl⟩, fun h => absurd h (by omega)⟩
  · refine ⟨some ⟨g, 0, none⟩, cap, rfl, fun k K hK hk => ⟨sl_to g xs.length cap k K hK (by omega), fun W hW => ?_⟩⟩
    obtain ⟨a', c', e, hs⟩ := hW.sl' hb hl
    injection e with e1 _ e3
    subst e1 e3
    exact hs.take k hk
theorem mod_cut (q : Int) (N : Nat) (hN : N ≤ 16777216) : ∃ c : Nat, (wrap64 (q.tmod ((N : Int) + 1) + ((N : Int) + 1))).tmod ((N : Int) + 1) = (c : Int) ∧ c ≤ N := by
  have hn : ((N : Int) + 1) = ((N + 1 : Nat) : Int) := by omega
  rw [hn]
  have h1 : q.tmod ((N + 1 : Nat) : Int) < ((N + 1 : Nat) : Int) := Int.tmod_lt_of_pos q (by omega)
  have h2 : -((N + 1 : Nat) : Int) < q.tmod ((N + 1 : Nat) : Int) := Int.lt_tmod_of_pos q (by omega)
  generalize q.tmod ((N + 1 : Nat) : Int) = r at *
  have h3 : wrap64 (r + ((N + 1 : Nat) : Int)) = r + ((N + 1 : Nat) : Int) := by unfold wrap64; omega
  rw [h3]
  have h4 : 0 ≤ (r + ((N + 1 : Nat) : Int)).tmod ((N + 1 : Nat) : Int) := Int.tmod_nonneg _ (by omega)
  have h5 : (r + ((N + 1 : Nat) : Int)).tmod ((N + 1 : Nat) : Int) < ((N + 1 : Nat) : Int) := Int.tmod_lt_of_pos _ (by omega)
  exact ⟨((r + ((N + 1 : Nat) : Int)).tmod ((N + 1 : Nat) : Int)).toNat, by omega, by omega⟩
/-- What lies there ahead of the law's loop. -/
structure GZ (w W : World) (B0 b3 b4 b6 : Nat) (a : Option Addr) (len cap : Nat) (c : Int) (vb ve : Value) (ps : List (List Int)) : Prop where
  c2 : Blk W w.heap.size 41 [.slice a len cap]
  c3 : Blk W b3 3 [.int .i64 c]
  c4 : Blk W b4 4 [.bool false]
  c6 : Blk W b6 42 [ve]
  own : Own W B0 vb (fmA ps)
  ends : OwnV 3 W B0 ve (qC ps ps.length)
  bel : Below w.heap.size w W
  l4 : w.heap.size ≤ b4
theorem GZ.on {w W W' : World} {B0 b3 b4 b6 : Nat} {a : Option Addr} {len cap : Nat} {c : Int} {vb ve : Value} {ps : List (List Int)} (h : GZ w W B0 b3 b4 b6 a len cap c vb ve ps) (hb : Below W.heap.size W W') : GZ w W' B0 b3 b4 b6 a len cap c vb ve ps :=
  ⟨h.c2.on hb, h.c3.on hb, h.c4.on hb, h.c6.on hb, h.own.below hb, h.ends.below hb, on_below h.bel hb, h.l4⟩
theorem OwnV.but {T : TypeId} {w w' : World} {B k : Nat} {v : Value} {ns : List Value} (h : OwnV T w B v ns) (hb : But k w w') (hk : v.ownBlock ≠ some k) : OwnV T w' B v ns := by
  obtain ⟨h0, h1, h2⟩ := h
  refine ⟨h0, h1, ?_⟩
  rcases h2 with h2 | ⟨g, cap, cur, rfl, hg, hh, r⟩
  · exact .inl h2
  · refine .inr ⟨g, cap, cur, rfl, hg, ?_, r⟩
    rw [hb.block g (fun e => hk (by rw [← e]; rfl))]
    exact hh
/-- The cut is written over. -/
theorem GZ.set {w W : World} {B0 b3 b4 b6 : Nat} {a : Option Addr} {len cap : Nat} {c : Int} {vb ve : Value} {ps : List (List Int)} (h : GZ w W B0 b3 b4 b6 a len cap c vb ve ps) (d : Int) (h3 : w.heap.size < b3) (hB : b3 < B0) (n4 : b4 ≠ b3) (n6 : b6 ≠ b3) : GZ w (W.setCell ⟨b3, 0, none⟩ (.int .i64 d)) B0 b3 b4 b6 a len cap d vb ve ps := by
  have hb := But.setCell W b3 0 (.int .i64 d)
  exact ⟨h.c2.but hb (by omega), h.c3.set 0 _, h.c4.but hb n4, h.c6.but hb n6, h.own.but hb (fun e => by have := h.own.lt b3 e; omega), h.ends.but hb (fun e => by have := (h.ends.lt b3 e).1; omega), h.bel.trans (hb.below (by omega)), h.l4⟩
/-- What the loop keeps. -/
structure GS (W3 W : World) (b10 b11 : Nat) (P : Nat → Nat) (i : Nat) : Prop where
  bel : Below W3.heap.size W3 W
  c10 : Blk W b10 3 [.int .i64 (i : Int)]
  c11 : Blk W b11 3 [.int .i64 (P i : Int)]
  l10 : W3.heap.size ≤ b10
  l11 : W3.heap.size ≤ b11
  n : b10 ≠ b11
theorem GS.on {W3 A C : World} {b10 b11 : Nat} {P : Nat → Nat} {i : Nat} (h : GS W3 A b10 b11 P i) (hb : Below A.heap.size A C) : GS W3 C b10 b11 P i :=
  ⟨on_below h.bel hb, h.c10.on hb, h.c11.on hb, h.l10, h.l11, h.n⟩
theorem GS.kept {W3 A C : World} {b10 b11 B : Nat} {P : Nat → Nat} {i : Nat} {row : Option Nat} (h : GS W3 A b10 b11 P i) (hB : W3.heap.size ≤ B) (hg : A.grownBy C row) (hr : ∀ r, row = some r → B ≤ r ∧ ∃ o : Obj, A.heap[r]? = some o ∧ o.isCells = false) : GS W3 C b10 b11 P i :=
  ⟨h.bel.grown hg h.bel.size (fun r e => Nat.le_trans hB (hr r e).1), h.c10.kept hg (fun r e => (hr r e).2), h.c11.kept hg (fun r e => (hr r e).2), h.l10, h.l11, h.n⟩
theorem Blk.ne {W : World} {g g' : Nat} {t t' : TypeId} {cs cs' : List Value} (h : Blk W g t cs) (h' : Blk W g' t' cs') (ht : t ≠ t') : g ≠ g' := by
  rintro rfl
  rw [Blk, h] at h'
  injection h' with h'
  injection h' with _ h2 _
  exact ht h2
theorem keepsO_below {A B : World} (h : Below A.heap.size A B) : KeepsOthers A B := ⟨h.size, fun k o hk _ => (h.block k (Array.getElem?_eq_some_iff.1 hk).1).trans hk⟩
theorem KF.drew {B : Nat} {x : Fx} (A : World) (n : Nat) : KF B x A (A.drewN n) := ⟨Nat.le_refl _, fun k => k, fun k o _ ho _ _ => ho⟩

/-- All but one block is as it was. -/
def Oth (g : Nat) (W v : World) : Prop := ∀ k, k ≠ g → k < W.heap.size → v.heap[k]? = W.heap[k]?
theorem Oth.drew (g : Nat) (W : World) : Oth g W W.drew := fun _ _ _ => rfl
theorem cellS {g b i : Nat} {W v : World} {u : Value} (h : W.cell? ⟨b, i, none⟩ = some u) (hb : b ≠ g) (hS : Oth g W v) : v.cell? ⟨b, i, none⟩ = some u := by
  rw [World.cell?_of_block (w := W) (hS b hb (World.block_lt_of_cell? W _ h))]; exact h
set_option maxRecDepth 100000 in
set_option maxHeartbeats 2000000 in
theorem begins_walk (a : Option Addr) (len cap : Nat) (ps : List (List Int)) (cut : Int) (w : World) (hs : Sls w a len cap ps) (hk : KT w) :
    Calls Tryd.prog 7 #[.slice a len cap, .int .i64 cut] w fun e w' => e = .returned (.bool true) ∧ Below w.heap.size w w' := by
  have HS := hide hs
  have HX := hide hs.hlen
  have HK := hide hk
  have hmx := hs.hmax
  have HPB := hide hs.piece.1
  have HPY := hide hs.piece.2
  have HFL : Hid ((fmA ps).length ≤ 9437184) := hide (by rw [fmA_len, hs.hlen]; have := hs.hmax; have := hs.hsum; omega)
  have HFB := hide (fmA_isB ps hs.piece.1)
  have h0w : 0 < w.heap.size := hk.lt
  clear hs hk
  refine (callsIn_wide (n := 3)).1 ?_
  refine callsIn_of_wp_marks Tryd.func7 rfl trivial ?_ rfl
  refine wpIn_wide.2 ?_
  simp only [Tryd.ntmps7, List.size_toArray, List.length_cons, List.length_nil, Nat.reduceAdd, Nat.reduceSub, Array.replicate_succ, Array.replicate_zero, List.push_toArray, List.append_toArray, List.nil_append, List.cons_append]
  go_wp2_with fail
  have e2 : Blk (((w.alloc (.cells #[.slice a len cap] 41)).alloc (.cells #[.int .i64 cut] 3)).alloc (.cells #[.bool false] 4)) w.heap.size 41 [.slice a len cap] := (Blk.made w 41 [.slice a len cap]).on (((Below.refl _ _).alloc (Nat.le_refl _) _).alloc (by simp) _)
  have e3 : Blk (((w.alloc (.cells #[.slice a len cap] 41)).alloc (.cells #[.int .i64 cut] 3)).alloc (.cells #[.bool false] 4)) (w.heap.size + 1) 3 [.int .i64 cut] := by
    have := (Blk.made (w.alloc (.cells #[.slice a len cap] 41)) 3 [.int .i64 cut]).on ((Below.refl _ _).alloc (Nat.le_refl _) (.cells #[.bool false] 4))
    rwa [World.size_alloc] at this
  have e4 : Blk (((w.alloc (.cells #[.slice a len cap] 41)).alloc (.cells #[.int .i64 cut] 3)).alloc (.cells #[.bool false] 4)) (w.heap.size + 1 + 1) 4 [.bool false] := by
    have := Blk.made ((w.alloc (.cells #[.slice a len cap] 41)).alloc (.cells #[.int .i64 cut] 3)) 4 [.bool false]
    rwa [World.size_alloc, World.size_alloc] at this
  have B0 : Below w.heap.size w (((w.alloc (.cells #[.slice a len cap] 41)).alloc (.cells #[.int .i64 cut] 3)).alloc (.cells #[.bool false] 4)) := (((Below.refl _ w).alloc (Nat.le_refl _) _).alloc (by simp) _).alloc (by simp; omega) _
  revert e2 e3 e4 B0
  generalize ((w.alloc (.cells #[.slice a len cap] 41)).alloc (.cells #[.int .i64 cut] 3)).alloc (.cells #[.bool false] 4) = W0
  obtain ⟨b4, hb4⟩ : ∃ b4, w.heap.size + 1 + 1 = b4 := ⟨_, rfl⟩
  obtain ⟨b3, hb3⟩ : ∃ b3, w.heap.size + 1 = b3 := ⟨_, rfl⟩
  rw [hb4, hb3]
  intro e2 e3 e4 B0
  have l4 : w.heap.size ≤ b4 := by omega
  have l3 : w.heap.size < b3 := by omega
  have n34 : b3 ≠ b4 := by omega
  clear hb4 hb3
  refine (framed_any a len cap ps W0 (HS.out.below B0) (HK.out.on B0)).mono ?_
  rintro _ W1 ⟨vb, ve, rfl, hob, hoe, hb1⟩
  obtain ⟨ab, cb, evb, hto⟩ := own_to hob HFB.out (by have := HFL.out; omega)
  subst evb
  obtain ⟨ae, ce, eve⟩ := hoe.slice
  rw [qC_length] at eve
  subst eve
  have HTO := hide hto
  have OB := hide hob
  have OE := hide hoe
  have l30 : b3 < W0.heap.size := e3.lt
  have l40 : b4 < W0.heap.size := e4.lt
  have E2 := hide (e2.on hb1)
  have E3 := hide (e3.on hb1)
  have E4 := hide (e4.on hb1)
  have BL := hide (on_below B0 hb1)
  have hNF := HFL.out
  obtain ⟨N, HN⟩ : ∃ N, Hid ((fmA ps).length = N) := ⟨_, hide rfl⟩
  rw [HN.out] at HTO OB hNF
  rw [HN.out]
  clear hob hoe hto e2 e3 e4 B0 hb1
  go_upto_region 10 with fail
  have c6 : Blk (W1.alloc (.cells #[.slice ae ps.length ce] 42)) W1.heap.size 42 [.slice ae ps.length ce] := Blk.made W1 _ _
  have b6' : Below W1.heap.size W1 (W1.alloc (.cells #[.slice ae ps.length ce] 42)) := (Below.refl _ _).alloc (Nat.le_refl _) _
  have Z2 : Hid (GZ w (W1.alloc (.cells #[.slice ae ps.length ce] 42)) W0.heap.size b3 b4 W1.heap.size a len cap cut (.slice ab N cb) (.slice ae ps.length ce) ps) := hide
    ⟨E2.out.on b6', E3.out.on b6', E4.out.on b6', c6, OB.out.below b6', OE.out.below b6', on_below BL.out b6', l4⟩
  have hl6 : b3 < W1.heap.size := E3.out.lt
  clear c6 b6' OB OE E2 E3 E4 BL
  revert Z2
  generalize W1.alloc (.cells #[.slice ae ps.length ce] 42) = W2
  obtain ⟨b6, hb6⟩ : ∃ b6, W1.heap.size = b6 := ⟨_, rfl⟩
  rw [hb6] at hl6 ⊢
  intro Z2
  clear hb6
  have d3 : W2.cell? ⟨b3, 0, none⟩ = some (.int .i64 cut) := by rw [Z2.out.c3.cell]; rfl
  have f3 := Z2.out.c3.free 0
  go_upto_region 11 with fail
  obtain ⟨c, hc, hcN⟩ := mod_cut cut N (by omega)
  rw [hc]
  have Z3 := hide (Z2.out.set (c : Int) l3 l30 (Ne.symm n34) (by omega))
  obtain ⟨hslc, hslS⟩ := HTO.out c (c : Int) rfl hcN
  have HSL := hide hslS
  clear d3 f3 hc Z2 HTO hslS
  revert Z3
  generalize W2.setCell ⟨b3, 0, none⟩ (.int .i64 (c : Int)) = W3
  intro Z3
  go_upto_region 13 with fail
  have g10 : Blk ((W3.alloc (.cells #[.int .i64 0] 3)).alloc (.cells #[.int .i64 0] 3)) W3.heap.size 3 [.int .i64 ((0 : Nat) : Int)] := (Blk.made W3 3 [.int .i64 0]).on ((Below.refl _ _).alloc (Nat.le_refl _) _)
  have g11 : Blk ((W3.alloc (.cells #[.int .i64 0] 3)).alloc (.cells #[.int .i64 0] 3)) (W3.heap.size + 1) 3 [.int .i64 (qL ps 0 : Int)] := by
    have := Blk.made (W3.alloc (.cells #[.int .i64 0] 3)) 3 [.int .i64 0]
    rw [World.size_alloc] at this
    rw [qL_0]
    exact this
  have bb : Below W3.heap.size W3 ((W3.alloc (.cells #[.int .i64 0] 3)).alloc (.cells #[.int .i64 0] 3)) := ((Below.refl _ _).alloc (Nat.le_refl _) _).alloc (by simp) _
  have S4 : Hid (GS W3 ((W3.alloc (.cells #[.int .i64 0] 3)).alloc (.cells #[.int .i64 0] 3)) W3.heap.size (W3.heap.size + 1) (qL ps) 0) := hide ⟨bb, g10, g11, Nat.le_refl _, by omega, by omega⟩
  clear g10 g11 bb
  revert S4
  generalize (W3.alloc (.cells #[.int .i64 0] 3)).alloc (.cells #[.int .i64 0] 3) = W4
  obtain ⟨b10, hb10⟩ : ∃ b10, W3.heap.size = b10 := ⟨_, rfl⟩
  rw [hb10]
  intro S4
  have hs3 : w.heap.size ≤ b10 := by rw [← hb10]; exact Z3.out.bel.size
  clear hb10
  have d3 : W4.cell? ⟨b3, 0, none⟩ = some (.int .i64 (c : Int)) := by rw [(Z3.out.on S4.out.bel).c3.cell]; rfl
  go_wp2_with fail
  refine (all_any _ _ _ _).mono ?_
  rintro _ W5 ⟨b0, rfl, hq1, hq2, hb5⟩
  clear hq1 hq2
  have S5 := hide (S4.out.on hb5)
  have d3 : W5.cell? ⟨b3, 0, none⟩ = some (.int .i64 (c : Int)) := by rw [(Z3.out.on S5.out.bel).c3.cell]; rfl
  have heq : ∀ v : World, (binOp BinOp.eql 49 (.func (.func 30) #[] #[.pointer (some ⟨b0, 0, none⟩)]) .nilFunc).run Tryd.prog v = .ok (.bool false) v := fun v => by kernel_rfl
  clear S4 hb5
  go_wp2_with fail
  clear heq
  refine (all_any _ _ _ _).mono ?_
  rintro _ W6 ⟨b1, rfl, hbx, _, hb6⟩
  have S6 := hide (S5.out.on hb6)
  obtain ⟨K, E, hK1, hK2, hK3, hFr, hE⟩ := frs_cut ps c (by rw [HN.out]; exact hcN) HPY.out
  have HFr := hide hFr
  have Z6 := Z3.out.on S6.out.bel
  have HSQ := hide (all_seq ab c cb ((fmA ps).take c) (fxL ps K) (qL ps) E b1 W6 (HSL.out W6 Z6.own) (by omega) hFr (HK.out.on Z6.bel) hbx)
  have hB10 : b10 < W6.heap.size := S6.out.c10.lt
  have hB11 : b10 + 1 < W6.heap.size := S6.out.c11.lt
  have hB3 : W3.heap.size ≤ W6.heap.size := S6.out.bel.size
  clear S5 hb6 d3 hbx Z6 hFr
  go_wp2_with fail
  refine (wpIn_wide (n := 3)).1 ?_
  refine rangeR rfl (by decide) (gf := 30) (lb := #[.pointer (some ⟨b1, 0, none⟩)]) rfl trivial (enters_of Tryd.func30 (by kernel_rfl) rfl)
    HSQ.out KF.trans (fun x W l o o' hl h hc => KF.book (by omega) x W l o o' hl h hc) (fun _ => rfl) (fun pre x => rf_own _ _ _ pre x)
    (fun pre W => GS W3 W b10 (b10 + 1) (qL ps) pre.length) (fun _ _ _ => False)
    (fun _ A C row h hg hr => h.kept hB3 hg hr) (fun c _ A C row h hg hr => h) S6.out ?act ?assign ?body ?done ?stop
  case assign =>
    rintro l x W K hK
    have hsem := Oper.semAt_some
    simp only [encF]
    gi_wp2
    exact hK
  case stop =>
    rintro D cc pre W hD hSp hF2 hK2
    exact hF2.elim
  case body =>
    rintro l pre ⟨nx, v, d⟩ W hG ⟨h1, h2, h3, h4⟩
    have hsem := Oper.semAt_some
    obtain ⟨k, HKK⟩ : ∃ k, Hid (pre.length = k) := ⟨_, hide rfl⟩
    rw [HKK.out] at hG h1 h3
    rw [fxL_length] at h1
    rw [fxL_get ps K k h1] at h3
    have h3a : nx = (qL ps (k + 1) : Int) := congrArg Prod.fst h3
    have h3b : d = ps.getD k [] := congrArg Prod.snd h3
    have HPL : Hid ((pre ++ [(nx, v, d)]).length = k + 1) := hide (by rw [List.length_append, HKK.out]; rfl)
    replace h4 : Own W W6.heap.size v d := h4
    have hkl : k < len := by rw [← HX.out]; omega
    have Z6 := Z3.out.on hG.bel
    have hqc : qL ps (k + 1) ≤ c := Nat.le_trans (qL_mono ps (k + 1) K (by omega) hK1) hK2
    obtain ⟨bb, off, ai, li, ci, ea, hcl, hsi, hli⟩ := (HS.out.below Z6.bel).hcell k hkl
    rw [← h3b] at hsi
    obtain rfl : d.length = li := hsi.hlen
    obtain ⟨av, cv, ev, sv⟩ := h4.sl' hsi.hbyte (by omega)
    subst ev
    obtain ⟨ge, ee, _, hce⟩ := Z6.ends.cell k (by rw [qC_length]; omega)
    rw [qC_get ps ps.length k (by omega)] at hce
    have d2 : W.cell? ⟨w.heap.size, 0, none⟩ = some (.slice a len cap) := by rw [Z6.c2.cell]; rfl
    have d3 : W.cell? ⟨b3, 0, none⟩ = some (.int .i64 (c : Int)) := by rw [Z6.c3.cell]; rfl
    have d6 : W.cell? ⟨b6, 0, none⟩ = some (.slice ae ps.length ce) := by rw [Z6.c6.cell]; rfl
    have d10 : W.cell? ⟨b10, 0, none⟩ = some (.int .i64 (k : Int)) := by rw [hG.c10.cell]; rfl
    obtain ⟨Z, HZ⟩ : ∃ Z, Hid (qL ps (k + 1) = Z) := ⟨_, hide rfl⟩
    rw [HZ.out] at h3a hqc hce
    subst h3a
    have x1 := tinB.atO bb off len cap k (k : Int) rfl hkl
    have x2 := tinI.at ge ps.length ce k (k : Int) rfl (by omega)
    rw [ea] at d2
    rw [ee] at d6
    have hv1 : ∀ n, (convert 23 9 (.slice ai d.length ci)).run Tryd.prog (W.drewN n) = .ok (.string (str d)) (W.drewN n) := fun n => toStr (hsi.drewN n)
    have hv2 : ∀ n, (convert 23 9 (.slice av d.length cv)).run Tryd.prog (W.drewN n) = .ok (.string (str d)) (W.drewN n) := fun n => toStr (sv.drewN n)
    have g0 : decide ((len : Int) ≤ (k : Int)) = false := by simp; omega
    have g2 : decide (len ≤ k) = false := by simp; omega
    have g3 : decide ((c : Int) < (Z : Int)) = false := by simp; omega
    have g4 : decide (c < Z) = false := by simp; omega
    have HG := hide hG
    clear hsi sv h2 h3 h3b h4 Z6 hG ea ee hli
    gi_wp2_with fail
    refine wpIn_region_round (.round l) (by kernel_rfl) (by kernel_rfl) (by kernel_rfl) ?_
    repeat (go_big_quiet_step (fail))
    refine wpQuiet_nil ?_
    rintro _ ⟨nq, rfl⟩
    clear g0 g2 g3 g4 x1 x2 hv1 hv2 d2 d3 d6 d10 hce hcl
    have Gq := hide (HG.out.on (below_drews (Below.refl _ _) nq))
    have KOq := hide (keepsO_below (below_drews (Below.refl W.heap.size W) nq))
    have KFq : Hid (KF W6.heap.size ((Z : Int), .slice av d.length cv, d) W (W.drewN nq)) := hide (KF.drew W nq)
    revert Gq KOq KFq
    generalize W.drewN nq = Wq
    intro Gq KOq KFq
    have c10 : Wq.cell? ⟨b10, 0, none⟩ = some (.int .i64 (k : Int)) := by rw [Gq.out.c10.cell]; rfl
    have c11 : Wq.cell? ⟨b10 + 1, 0, none⟩ = some (.int .i64 (qL ps k : Int)) := by rw [Gq.out.c11.cell]; rfl
    have f10 := Gq.out.c10.free 0
    have f11 := Gq.out.c11.free 0
    have nb : b10 ≠ b10 + 1 := by omega
    have bt1 := But.setCell Wq (b10 + 1) 0 (.int .i64 (Z : Int))
    have c10' : (Wq.setCell ⟨b10 + 1, 0, none⟩ (.int .i64 (Z : Int))).cell? ⟨b10, 0, none⟩ = some (.int .i64 (k : Int)) := by rw [(Gq.out.c10.but bt1 nb).cell]; rfl
    have f10' := (Gq.out.c10.but bt1 nb).free 0
    have bt2 := But.setCell (Wq.setCell ⟨b10 + 1, 0, none⟩ (.int .i64 (Z : Int))) b10 0 (.int .i64 ((k + 1 : Nat) : Int))
    have h0b : 0 < b10 := by omega
    have G8 : Hid (GS W3 ((Wq.setCell ⟨b10 + 1, 0, none⟩ (.int .i64 (Z : Int))).setCell ⟨b10, 0, none⟩ (.int .i64 ((k + 1 : Nat) : Int))) b10 (b10 + 1) (qL ps) (k + 1)) := hide
      ⟨(Gq.out.bel.trans (bt1.below Gq.out.l11)).trans (bt2.below Gq.out.l10), (Gq.out.c10.but bt1 nb).set 0 _, by rw [HZ.out]; exact ((Gq.out.c11.set 0 _).but bt2 (Ne.symm nb)), Gq.out.l10, Gq.out.l11, nb⟩
    have KO8 : Hid (KeepsOthers W ((Wq.setCell ⟨b10 + 1, 0, none⟩ (.int .i64 (Z : Int))).setCell ⟨b10, 0, none⟩ (.int .i64 ((k + 1 : Nat) : Int)))) := hide ((KOq.out.trans (KeepsOthers.setCell _ _ _)).trans (KeepsOthers.setCell _ _ _))
    have KF8 : Hid (KF W6.heap.size ((Z : Int), .slice av d.length cv, d) W ((Wq.setCell ⟨b10 + 1, 0, none⟩ (.int .i64 (Z : Int))).setCell ⟨b10, 0, none⟩ (.int .i64 ((k + 1 : Nat) : Int)))) := hide (KF.trans (KF.trans KFq.out (KF.but bt1 hB11 (by omega))) (KF.but bt2 hB10 h0b))
    have hk1 : ((k + 1 : Nat) : Int) = (k : Int) + 1 := by omega
    rw [hk1] at G8 KO8 KF8
    clear hk1 bt1 bt2 Gq KOq KFq
    gi_wp2
    refine ⟨KO8.out.from _, KF8.out, ?_⟩
    show GS _ _ _ _ _ (pre ++ [_]).length
    rw [HPL.out]
    exact G8.out
  case done =>
    rintro D ys W hD hS hG hK9
    have hyl : ys.length = K := by
      have := congrArg List.length hS
      rwa [List.length_map, fxL_length] at this
    rw [hyl] at hG
    have Z6 := Z3.out.on hG.bel
    have d3 : W.cell? ⟨b3, 0, none⟩ = some (.int .i64 (c : Int)) := by rw [Z6.c3.cell]; rfl
    have HWH := hide (whole_any ab c cb ((fmA ps).take c) (fxL ps K) (qL ps) E W (HSL.out W Z6.own) (by omega) HFr.out (HK.out.on Z6.bel))
    rw [fxL_length] at HWH
    obtain ⟨Y, HY⟩ : ∃ Y, Hid (qL ps K = Y) := ⟨_, hide rfl⟩
    rw [HY.out] at HWH hE hK2
    have HG := hide hG
    have HD9 := hide hK9
    clear hS hyl hG hK9 Z6 S6 HSQ
    go_wp2_with fail
    refine HWH.out.mono ?_
    rintro _ W7 ⟨rfl, hb7⟩
    have G7 := hide (HG.out.on hb7)
    have D7 : Hid (W7.heap[D]? = some (.deferred (some []))) := hide ((hb7.block D (Array.getElem?_eq_some_iff.1 HD9.out).1).trans HD9.out)
    clear hb7 HG HD9 HWH d3
    have Z7 := Z3.out.on G7.out.bel
    have D2 : Hid (W7.cell? ⟨w.heap.size, 0, none⟩ = some (.slice a len cap)) := hide (by rw [Z7.c2.cell]; rfl)
    have D3 : Hid (W7.cell? ⟨b3, 0, none⟩ = some (.int .i64 (c : Int))) := hide (by rw [Z7.c3.cell]; rfl)
    have D4 : W7.cell? ⟨b4, 0, none⟩ = some (.bool false) := by rw [Z7.c4.cell]; rfl
    have F4 := Z7.c4.free 0
    have D6 : Hid (W7.cell? ⟨b6, 0, none⟩ = some (.slice ae ps.length ce)) := hide (by rw [Z7.c6.cell]; rfl)
    have D10 : Hid (W7.cell? ⟨b10, 0, none⟩ = some (.int .i64 (K : Int))) := hide (by rw [G7.out.c10.cell]; rfl)
    have D11 : Hid (W7.cell? ⟨b10 + 1, 0, none⟩ = some (.int .i64 (Y : Int))) := hide (by rw [G7.out.c11.cell, HY.out]; rfl)
    have hl4 : b4 < W3.heap.size := Z3.out.c4.lt
    have N2 : Hid (w.heap.size ≠ b4) := hide (Z7.c2.ne Z7.c4 (by decide))
    have N3 : Hid (b3 ≠ b4) := hide n34
    have N6 : Hid (b6 ≠ b4) := hide (Z7.c6.ne Z7.c4 (by decide))
    have N10 : Hid (b10 ≠ b4) := hide (by have := G7.out.l10; omega)
    have N11 : Hid (b10 + 1 ≠ b4) := hide (by have := G7.out.l11; omega)
    have H7 := hide Z7
    clear Z7
    go_wp2_with fail
    obtain ⟨b2, hb2⟩ : ∃ b2, w.heap.size = b2 := ⟨_, rfl⟩
    obtain ⟨b11, hb11⟩ : ∃ b11, b10 + 1 = b11 := ⟨_, rfl⟩
    rw [hb2, hb11]
    rw [hb2] at D2 N2
    rw [hb11] at D11 N11
    clear hb2 hb11 hslc
    by_cases hA : K = len
    · subst hA
      rcases hE with ⟨hY, rfl⟩ | ⟨hY, rfl⟩
      · subst hY
        refine wp_region_noPanic ?_
        refine wp_region_held_drew (S := fun v : World => Oth b4 W7 v) (by kernel_rfl) (Oth.drew b4 W7) (fun hHeld => ?_)
        refine takeH 0 94 (.int .i64 (K : Int)) hHeld rfl rfl (by kernel_rfl) (by kernel_rfl) (by kernel_rfl) (fun _ _ _ h => h) (Or.inl ⟨by rfl, fun w hw => by have hw' : w.cell? ⟨b10, 0, none⟩ = some (.int .i64 (K : Int)) := (cellS D10.out N10.out) hw; go_simp⟩) ?_
        simp only [Act.put, List.setIfInBounds_toArray, List.set_cons_zero, List.set_cons_succ]
        refine takeH 1 95 (.slice a K cap) hHeld rfl rfl (by kernel_rfl) (by kernel_rfl) (by kernel_rfl) (fun _ _ _ h => h) (Or.inl ⟨by rfl, fun w hw => by have hw' : w.cell? ⟨b2, 0, none⟩ = some (.slice a K cap) := (cellS D2.out N2.out) hw; go_simp⟩) ?_
        simp only [Act.put, List.setIfInBounds_toArray, List.set_cons_zero, List.set_cons_succ]
        refine takeH 2 96 (.int .i64 (K : Int)) hHeld rfl rfl (by kernel_rfl) (by kernel_rfl) (by kernel_rfl) (fun _ _ _ h => h) (Or.inl ⟨by rfl, fun w _ => by go_simp⟩) ?_
        simp only [Act.put, List.setIfInBounds_toArray, List.set_cons_zero, List.set_cons_succ]
        refine takeH 3 97 (.bool true) hHeld rfl rfl (by kernel_rfl) (by kernel_rfl) (by kernel_rfl) (fun _ _ _ h => h) (Or.inl ⟨by rfl, fun w _ => by go_simp⟩) ?_
        simp only [Act.put, List.setIfInBounds_toArray, List.set_cons_zero, List.set_cons_succ]
        refine takeH 4 98 (.bool true) hHeld rfl rfl (by kernel_rfl) (by kernel_rfl) (by kernel_rfl) (fun _ _ _ h => h) (Or.inl ⟨by rfl, fun w _ => by go_simp⟩) ?_
        simp only [Act.put, List.setIfInBounds_toArray, List.set_cons_zero, List.set_cons_succ]
        refine takeH 5 99 undef hHeld rfl rfl (by kernel_rfl) (by kernel_rfl) (by kernel_rfl) (fun _ _ _ h => h) (Or.inr ⟨by rfl, rfl⟩) ?_
        simp only [Act.put, List.setIfInBounds_toArray, List.set_cons_zero, List.set_cons_succ]
        refine takeH 6 100 undef hHeld rfl rfl (by kernel_rfl) (by kernel_rfl) (by kernel_rfl) (fun _ _ _ h => h) (Or.inr ⟨by rfl, rfl⟩) ?_
        simp only [Act.put, List.setIfInBounds_toArray, List.set_cons_zero, List.set_cons_succ]
        refine takeH 7 101 undef hHeld rfl rfl (by kernel_rfl) (by kernel_rfl) (by kernel_rfl) (fun _ _ _ h => h) (Or.inr ⟨by rfl, rfl⟩) ?_
        simp only [Act.put, List.setIfInBounds_toArray, List.set_cons_zero, List.set_cons_succ]
        refine takeH 8 102 undef hHeld rfl rfl (by kernel_rfl) (by kernel_rfl) (by kernel_rfl) (fun _ _ _ h => h) (Or.inr ⟨by rfl, rfl⟩) ?_
        simp only [Act.put, List.setIfInBounds_toArray, List.set_cons_zero, List.set_cons_succ]
        refine takeH 9 103 undef hHeld rfl rfl (by kernel_rfl) (by kernel_rfl) (by kernel_rfl) (fun _ _ _ h => h) (Or.inr ⟨by rfl, rfl⟩) ?_
        simp only [Act.put, List.setIfInBounds_toArray, List.set_cons_zero, List.set_cons_succ]
        refine takeH 10 104 undef hHeld rfl rfl (by kernel_rfl) (by kernel_rfl) (by kernel_rfl) (fun _ _ _ h => h) (Or.inr ⟨by rfl, rfl⟩) ?_
        simp only [Act.put, List.setIfInBounds_toArray, List.set_cons_zero, List.set_cons_succ]
        refine takeH 11 105 (.bool true) hHeld rfl rfl (by kernel_rfl) (by kernel_rfl) (by kernel_rfl) (fun _ _ _ h => h) (Or.inl ⟨by rfl, fun w _ => by go_simp⟩) ?_
        simp only [Act.put, List.setIfInBounds_toArray, List.set_cons_zero, List.set_cons_succ]
        refine takeH 12 106 (.bool true) hHeld rfl rfl (by kernel_rfl) (by kernel_rfl) (by kernel_rfl) (fun _ _ _ h => h) (Or.inl ⟨by rfl, fun w _ => by go_simp⟩) ?_
        simp only [Act.put, List.setIfInBounds_toArray, List.set_cons_zero, List.set_cons_succ]
        refine takeH 13 107 (.int .i64 (Y : Int)) hHeld rfl rfl (by kernel_rfl) (by kernel_rfl) (by kernel_rfl) (fun _ _ _ h => h) (Or.inl ⟨by rfl, fun w _ => by go_simp⟩) ?_
        simp only [Act.put, List.setIfInBounds_toArray, List.set_cons_zero, List.set_cons_succ]
        refine takeH 14 108 (.int .i64 (Y : Int)) hHeld rfl rfl (by kernel_rfl) (by kernel_rfl) (by kernel_rfl) (fun _ _ _ h => h) (Or.inl ⟨by rfl, fun w hw => by have hw' : w.cell? ⟨b11, 0, none⟩ = some (.int .i64 (Y : Int)) := (cellS D11.out N11.out) hw; go_simp⟩) ?_
        simp only [Act.put, List.setIfInBounds_toArray, List.set_cons_zero, List.set_cons_succ]
        refine takeH 15 109 (.bool true) hHeld rfl rfl (by kernel_rfl) (by kernel_rfl) (by kernel_rfl) (fun _ _ _ h => h) (Or.inl ⟨by rfl, fun w _ => by go_simp⟩) ?_
        simp only [Act.put, List.setIfInBounds_toArray, List.set_cons_zero, List.set_cons_succ]
        refine takeH 16 110 (.bool true) hHeld rfl rfl (by kernel_rfl) (by kernel_rfl) (by kernel_rfl) (fun _ _ _ h => h) (Or.inl ⟨by rfl, fun w _ => by go_simp⟩) ?_
        simp only [Act.put, List.setIfInBounds_toArray, List.set_cons_zero, List.set_cons_succ]
        refine takeH 17 111 (.bool true) hHeld rfl rfl (by kernel_rfl) (by kernel_rfl) (by kernel_rfl) (fun _ _ _ h => h) (Or.inl ⟨by rfl, fun w _ => by go_simp⟩) ?_
        simp only [Act.put, List.setIfInBounds_toArray, List.set_cons_zero, List.set_cons_succ]
        refine takeH 18 112 (.int .i64 0) hHeld rfl rfl (by kernel_rfl) (by kernel_rfl) (by kernel_rfl) (fun _ _ _ h => h) (Or.inl ⟨by rfl, fun w _ => by go_simp⟩) ?_
        simp only [Act.put, List.setIfInBounds_toArray, List.set_cons_zero, List.set_cons_succ]
        refine takeH 19 113 (.bool true) hHeld rfl rfl (by kernel_rfl) (by kernel_rfl) (by kernel_rfl) (fun _ _ _ h => h) (Or.inl ⟨by rfl, fun w _ => by go_simp⟩) ?_
        simp only [Act.put, List.setIfInBounds_toArray, List.set_cons_zero, List.set_cons_succ]
        refine takeH 20 114 (.int .i64 (Y : Int)) hHeld rfl rfl (by kernel_rfl) (by kernel_rfl) (by kernel_rfl) (fun _ _ _ h => h) (Or.inl ⟨by rfl, fun w hw => by have hw' : w.cell? ⟨b11, 0, none⟩ = some (.int .i64 (Y : Int)) := (cellS D11.out N11.out) hw; go_simp⟩) ?_
        simp only [Act.put, List.setIfInBounds_toArray, List.set_cons_zero, List.set_cons_succ]
        refine takeH 21 115 (.int .i64 (Y : Int)) hHeld rfl rfl (by kernel_rfl) (by kernel_rfl) (by kernel_rfl) (fun _ _ _ h => h) (Or.inl ⟨by rfl, fun w hw => by have hw' : w.cell? ⟨b3, 0, none⟩ = some (.int .i64 (Y : Int)) := (cellS D3.out N3.out) hw; go_simp⟩) ?_
        simp only [Act.put, List.setIfInBounds_toArray, List.set_cons_zero, List.set_cons_succ]
        refine takeH 22 116 (.bool true) hHeld rfl rfl (by kernel_rfl) (by kernel_rfl) (by kernel_rfl) (fun _ _ _ h => h) (Or.inl ⟨by rfl, fun w _ => by go_simp⟩) ?_
        simp only [Act.put, List.setIfInBounds_toArray, List.set_cons_zero, List.set_cons_succ]
        refine takeH 23 117 (.bool true) hHeld rfl rfl (by kernel_rfl) (by kernel_rfl) (by kernel_rfl) (fun _ _ _ h => h) (Or.inl ⟨by rfl, fun w _ => by go_simp⟩) ?_
        simp only [Act.put, List.setIfInBounds_toArray, List.set_cons_zero, List.set_cons_succ]
        refine takeH 24 118 (.bool true) hHeld rfl rfl (by kernel_rfl) (by kernel_rfl) (by kernel_rfl) (fun _ _ _ h => h) (Or.inl ⟨by rfl, fun w _ => by go_simp⟩) ?_
        simp only [Act.put, List.setIfInBounds_toArray, List.set_cons_zero, List.set_cons_succ]
        refine takeH 25 119 (.bool true) hHeld rfl rfl (by kernel_rfl) (by kernel_rfl) (by kernel_rfl) (fun _ _ _ h => h) (Or.inl ⟨by rfl, fun w _ => by go_simp⟩) ?_
        simp only [Act.put, List.setIfInBounds_toArray, List.set_cons_zero, List.set_cons_succ]
        refine takeH 26 120 (.int .i64 0) hHeld rfl rfl (by kernel_rfl) (by kernel_rfl) (by kernel_rfl) (fun _ _ _ h => h) (Or.inl ⟨by rfl, fun w _ => by go_simp⟩) ?_
        simp only [Act.put, List.setIfInBounds_toArray, List.set_cons_zero, List.set_cons_succ]
        refine takeH 27 121 (.bool true) hHeld rfl rfl (by kernel_rfl) (by kernel_rfl) (by kernel_rfl) (fun _ _ _ h => h) (Or.inl ⟨by rfl, fun w _ => by go_simp⟩) ?_
        simp only [Act.put, List.setIfInBounds_toArray, List.set_cons_zero, List.set_cons_succ]
        refine takeH 28 122 (.bool true) hHeld rfl rfl (by kernel_rfl) (by kernel_rfl) (by kernel_rfl) (fun _ _ _ h => h) (Or.inl ⟨by rfl, fun w _ => by go_simp⟩) ?_
        simp only [Act.put, List.setIfInBounds_toArray, List.set_cons_zero, List.set_cons_succ]
        refine takeH 29 123 undef hHeld rfl rfl (by kernel_rfl) (by kernel_rfl) (by kernel_rfl) (fun _ _ _ h => h) (Or.inr ⟨by rfl, rfl⟩) ?_
        simp only [Act.put, List.setIfInBounds_toArray, List.set_cons_zero, List.set_cons_succ]
        refine takeH 30 124 undef hHeld rfl rfl (by kernel_rfl) (by kernel_rfl) (by kernel_rfl) (fun _ _ _ h => h) (Or.inr ⟨by rfl, rfl⟩) ?_
        simp only [Act.put, List.setIfInBounds_toArray, List.set_cons_zero, List.set_cons_succ]
        refine takeH 31 125 (.bool true) hHeld rfl rfl (by kernel_rfl) (by kernel_rfl) (by kernel_rfl) (fun _ _ _ h => h) (Or.inl ⟨by rfl, fun w _ => by go_simp⟩) ?_
        simp only [Act.put, List.setIfInBounds_toArray, List.set_cons_zero, List.set_cons_succ]
        refine takeH 32 126 (.bool true) hHeld rfl rfl (by kernel_rfl) (by kernel_rfl) (by kernel_rfl) (fun _ _ _ h => h) (Or.inl ⟨by rfl, fun w _ => by go_simp⟩) ?_
        simp only [Act.put, List.setIfInBounds_toArray, List.set_cons_zero, List.set_cons_succ]
        refine wpAnyH_ready (rs := [33]) (by kernel_rfl) (by simp) (AllReadyH.cons rfl (fun K hK => ?_) AllReadyH.nil)
        rw [if_pos (by rfl)]
        go_simp
        have bt8 := But.setCell W7 b4 0 (.bool true)
        refine hK.out _ _ (fun k hk _ => bt8.block k hk) (fun hHeld => ?_)
        clear hK K
        refine wpAnyH_done (by kernel_rfl) ?_ _
        refine NoPanic.normal ?_
        clear hHeld
        have c8 : (W7.setCell ⟨b4, 0, none⟩ (.bool true)).drew.cell? ⟨b4, 0, none⟩ = some (.bool true) := World.cell?_setCell_same' W7 ⟨b4, 0, none⟩ (.bool true) (by rw [D4]; rfl)
        have q8 : (W7.setCell ⟨b4, 0, none⟩ (.bool true)).drew.heap[D]? = some (.deferred (some [])) := (KeepsOthers.setCell W7 ⟨b4, 0, none⟩ (.bool true)).same D _ D7.out rfl
        have B8 : Hid (Below w.heap.size w (W7.setCell ⟨b4, 0, none⟩ (.bool true)).drew) := hide (H7.out.bel.trans (bt8.below H7.out.l4)).drew
        have hwD : w.heap.size ≤ D := Nat.le_trans (Nat.le_trans Z3.out.bel.size hB3) hD
        revert c8 q8 B8
        generalize (W7.setCell ⟨b4, 0, none⟩ (.bool true)).drew = W8
        intro c8 q8 B8
        have HQ8 := hide q8
        have HC8 := hide c8
        clear bt8 D4 F4 c8 q8
        go_wp2
        refine ⟨by simp, .inl ⟨_, _, rfl, run_takeDeferred HQ8.out, ?_⟩⟩
        have hcC := Go.cell_kept HC8.out (grownBy_putObj' _ D (.deferred none)) (fun r e => by cases e; exact ⟨_, HQ8.out, rfl⟩)
        refine ⟨.bool true, ?_, rfl, B8.out.trans (belowK_b (w := w) (Nat.le_refl _) _ D _ (.deferred none) hwD HQ8.out rfl rfl)⟩
        simp [results, Tryd.f7, go_sem, hcC]
      · have hne : ((Y : Int) == (c : Int)) = false := by rw [beq_eq_false_iff_ne]; omega
        refine wp_region_noPanic ?_
        refine wp_region_held_drew (S := fun v : World => Oth b4 W7 v) (by kernel_rfl) (Oth.drew b4 W7) (fun hHeld => ?_)
        refine takeH 0 94 (.int .i64 (K : Int)) hHeld rfl rfl (by kernel_rfl) (by kernel_rfl) (by kernel_rfl) (fun _ _ _ h => h) (Or.inl ⟨by rfl, fun w hw => by have hw' : w.cell? ⟨b10, 0, none⟩ = some (.int .i64 (K : Int)) := (cellS D10.out N10.out) hw; go_simp⟩) ?_
        simp only [Act.put, List.setIfInBounds_toArray, List.set_cons_zero, List.set_cons_succ]
        refine takeH 1 95 (.slice a K cap) hHeld rfl rfl (by kernel_rfl) (by kernel_rfl) (by kernel_rfl) (fun _ _ _ h => h) (Or.inl ⟨by rfl, fun w hw => by have hw' : w.cell? ⟨b2, 0, none⟩ = some (.slice a K cap) := (cellS D2.out N2.out) hw; go_simp⟩) ?_
        simp only [Act.put, List.setIfInBounds_toArray, List.set_cons_zero, List.set_cons_succ]
        refine takeH 2 96 (.int .i64 (K : Int)) hHeld rfl rfl (by kernel_rfl) (by kernel_rfl) (by kernel_rfl) (fun _ _ _ h => h) (Or.inl ⟨by rfl, fun w _ => by go_simp⟩) ?_
        simp only [Act.put, List.setIfInBounds_toArray, List.set_cons_zero, List.set_cons_succ]
        refine takeH 3 97 (.bool true) hHeld rfl rfl (by kernel_rfl) (by kernel_rfl) (by kernel_rfl) (fun _ _ _ h => h) (Or.inl ⟨by rfl, fun w _ => by go_simp⟩) ?_
        simp only [Act.put, List.setIfInBounds_toArray, List.set_cons_zero, List.set_cons_succ]
        refine takeH 4 98 (.bool true) hHeld rfl rfl (by kernel_rfl) (by kernel_rfl) (by kernel_rfl) (fun _ _ _ h => h) (Or.inl ⟨by rfl, fun w _ => by go_simp⟩) ?_
        simp only [Act.put, List.setIfInBounds_toArray, List.set_cons_zero, List.set_cons_succ]
        refine takeH 5 99 undef hHeld rfl rfl (by kernel_rfl) (by kernel_rfl) (by kernel_rfl) (fun _ _ _ h => h) (Or.inr ⟨by rfl, rfl⟩) ?_
        simp only [Act.put, List.setIfInBounds_toArray, List.set_cons_zero, List.set_cons_succ]
        refine takeH 6 100 undef hHeld rfl rfl (by kernel_rfl) (by kernel_rfl) (by kernel_rfl) (fun _ _ _ h => h) (Or.inr ⟨by rfl, rfl⟩) ?_
        simp only [Act.put, List.setIfInBounds_toArray, List.set_cons_zero, List.set_cons_succ]
        refine takeH 7 101 undef hHeld rfl rfl (by kernel_rfl) (by kernel_rfl) (by kernel_rfl) (fun _ _ _ h => h) (Or.inr ⟨by rfl, rfl⟩) ?_
        simp only [Act.put, List.setIfInBounds_toArray, List.set_cons_zero, List.set_cons_succ]
        refine takeH 8 102 undef hHeld rfl rfl (by kernel_rfl) (by kernel_rfl) (by kernel_rfl) (fun _ _ _ h => h) (Or.inr ⟨by rfl, rfl⟩) ?_
        simp only [Act.put, List.setIfInBounds_toArray, List.set_cons_zero, List.set_cons_succ]
        refine takeH 9 103 undef hHeld rfl rfl (by kernel_rfl) (by kernel_rfl) (by kernel_rfl) (fun _ _ _ h => h) (Or.inr ⟨by rfl, rfl⟩) ?_
        simp only [Act.put, List.setIfInBounds_toArray, List.set_cons_zero, List.set_cons_succ]
        refine takeH 10 104 undef hHeld rfl rfl (by kernel_rfl) (by kernel_rfl) (by kernel_rfl) (fun _ _ _ h => h) (Or.inr ⟨by rfl, rfl⟩) ?_
        simp only [Act.put, List.setIfInBounds_toArray, List.set_cons_zero, List.set_cons_succ]
        refine takeH 11 105 (.bool true) hHeld rfl rfl (by kernel_rfl) (by kernel_rfl) (by kernel_rfl) (fun _ _ _ h => h) (Or.inl ⟨by rfl, fun w _ => by go_simp⟩) ?_
        simp only [Act.put, List.setIfInBounds_toArray, List.set_cons_zero, List.set_cons_succ]
        refine takeH 12 106 (.bool true) hHeld rfl rfl (by kernel_rfl) (by kernel_rfl) (by kernel_rfl) (fun _ _ _ h => h) (Or.inl ⟨by rfl, fun w _ => by go_simp⟩) ?_
        simp only [Act.put, List.setIfInBounds_toArray, List.set_cons_zero, List.set_cons_succ]
        refine takeH 13 107 (.int .i64 (Y : Int)) hHeld rfl rfl (by kernel_rfl) (by kernel_rfl) (by kernel_rfl) (fun _ _ _ h => h) (Or.inl ⟨by rfl, fun w _ => by go_simp⟩) ?_
        simp only [Act.put, List.setIfInBounds_toArray, List.set_cons_zero, List.set_cons_succ]
        refine takeH 14 108 (.int .i64 (Y : Int)) hHeld rfl rfl (by kernel_rfl) (by kernel_rfl) (by kernel_rfl) (fun _ _ _ h => h) (Or.inl ⟨by rfl, fun w hw => by have hw' : w.cell? ⟨b11, 0, none⟩ = some (.int .i64 (Y : Int)) := (cellS D11.out N11.out) hw; go_simp⟩) ?_
        simp only [Act.put, List.setIfInBounds_toArray, List.set_cons_zero, List.set_cons_succ]
        refine takeH 15 109 (.bool true) hHeld rfl rfl (by kernel_rfl) (by kernel_rfl) (by kernel_rfl) (fun _ _ _ h => h) (Or.inl ⟨by rfl, fun w _ => by go_simp⟩) ?_
        simp only [Act.put, List.setIfInBounds_toArray, List.set_cons_zero, List.set_cons_succ]
        refine takeH 16 110 (.bool true) hHeld rfl rfl (by kernel_rfl) (by kernel_rfl) (by kernel_rfl) (fun _ _ _ h => h) (Or.inl ⟨by rfl, fun w _ => by go_simp⟩) ?_
        simp only [Act.put, List.setIfInBounds_toArray, List.set_cons_zero, List.set_cons_succ]
        refine takeH 17 111 (.bool true) hHeld rfl rfl (by kernel_rfl) (by kernel_rfl) (by kernel_rfl) (fun _ _ _ h => h) (Or.inl ⟨by rfl, fun w _ => by go_simp⟩) ?_
        simp only [Act.put, List.setIfInBounds_toArray, List.set_cons_zero, List.set_cons_succ]
        refine takeH 18 112 (.int .i64 111) hHeld rfl rfl (by kernel_rfl) (by kernel_rfl) (by kernel_rfl) (fun _ _ _ h => h) (Or.inl ⟨by rfl, fun w _ => by go_simp⟩) ?_
        simp only [Act.put, List.setIfInBounds_toArray, List.set_cons_zero, List.set_cons_succ]
        refine takeH 19 113 (.bool false) hHeld rfl rfl (by kernel_rfl) (by kernel_rfl) (by kernel_rfl) (fun _ _ _ h => h) (Or.inl ⟨by rfl, fun w _ => by go_simp⟩) ?_
        simp only [Act.put, List.setIfInBounds_toArray, List.set_cons_zero, List.set_cons_succ]
        refine takeH 20 114 (.int .i64 (Y : Int)) hHeld rfl rfl (by kernel_rfl) (by kernel_rfl) (by kernel_rfl) (fun _ _ _ h => h) (Or.inl ⟨by rfl, fun w hw => by have hw' : w.cell? ⟨b11, 0, none⟩ = some (.int .i64 (Y : Int)) := (cellS D11.out N11.out) hw; go_simp⟩) ?_
        simp only [Act.put, List.setIfInBounds_toArray, List.set_cons_zero, List.set_cons_succ]
        refine takeH 21 115 (.int .i64 (c : Int)) hHeld rfl rfl (by kernel_rfl) (by kernel_rfl) (by kernel_rfl) (fun _ _ _ h => h) (Or.inl ⟨by rfl, fun w hw => by have hw' : w.cell? ⟨b3, 0, none⟩ = some (.int .i64 (c : Int)) := (cellS D3.out N3.out) hw; go_simp⟩) ?_
        simp only [Act.put, List.setIfInBounds_toArray, List.set_cons_zero, List.set_cons_succ]
        refine takeH 22 116 (.bool false) hHeld rfl rfl (by kernel_rfl) (by kernel_rfl) (by kernel_rfl) (fun _ _ _ h => h) (Or.inl ⟨by rfl, fun w _ => by go_simp⟩) ?_
        simp only [Act.put, List.setIfInBounds_toArray, List.set_cons_zero, List.set_cons_succ]
        refine takeH 23 117 (.bool true) hHeld rfl rfl (by kernel_rfl) (by kernel_rfl) (by kernel_rfl) (fun _ _ _ h => h) (Or.inl ⟨by rfl, fun w _ => by go_simp⟩) ?_
        simp only [Act.put, List.setIfInBounds_toArray, List.set_cons_zero, List.set_cons_succ]
        refine takeH 24 118 (.bool true) hHeld rfl rfl (by kernel_rfl) (by kernel_rfl) (by kernel_rfl) (fun _ _ _ h => h) (Or.inl ⟨by rfl, fun w _ => by go_simp⟩) ?_
        simp only [Act.put, List.setIfInBounds_toArray, List.set_cons_zero, List.set_cons_succ]
        refine takeH 25 119 (.bool true) hHeld rfl rfl (by kernel_rfl) (by kernel_rfl) (by kernel_rfl) (fun _ _ _ h => h) (Or.inl ⟨by rfl, fun w _ => by go_simp⟩) ?_
        simp only [Act.put, List.setIfInBounds_toArray, List.set_cons_zero, List.set_cons_succ]
        refine takeH 26 120 (.int .i64 111) hHeld rfl rfl (by kernel_rfl) (by kernel_rfl) (by kernel_rfl) (fun _ _ _ h => h) (Or.inl ⟨by rfl, fun w _ => by go_simp⟩) ?_
        simp only [Act.put, List.setIfInBounds_toArray, List.set_cons_zero, List.set_cons_succ]
        refine takeH 27 121 (.bool false) hHeld rfl rfl (by kernel_rfl) (by kernel_rfl) (by kernel_rfl) (fun _ _ _ h => h) (Or.inl ⟨by rfl, fun w _ => by go_simp⟩) ?_
        simp only [Act.put, List.setIfInBounds_toArray, List.set_cons_zero, List.set_cons_succ]
        refine takeH 28 122 (.bool false) hHeld rfl rfl (by kernel_rfl) (by kernel_rfl) (by kernel_rfl) (fun _ _ _ h => h) (Or.inl ⟨by rfl, fun w _ => by go_simp⟩) ?_
        simp only [Act.put, List.setIfInBounds_toArray, List.set_cons_zero, List.set_cons_succ]
        refine takeH 29 123 (.int .i64 111) hHeld rfl rfl (by kernel_rfl) (by kernel_rfl) (by kernel_rfl) (fun _ _ _ h => h) (Or.inl ⟨by rfl, fun w _ => by go_simp⟩) ?_
        simp only [Act.put, List.setIfInBounds_toArray, List.set_cons_zero, List.set_cons_succ]
        refine takeH 30 124 (.bool true) hHeld rfl rfl (by kernel_rfl) (by kernel_rfl) (by kernel_rfl) (fun _ _ _ h => h) (Or.inl ⟨by rfl, fun w _ => by go_simp⟩) ?_
        simp only [Act.put, List.setIfInBounds_toArray, List.set_cons_zero, List.set_cons_succ]
        refine takeH 31 125 (.bool true) hHeld rfl rfl (by kernel_rfl) (by kernel_rfl) (by kernel_rfl) (fun _ _ _ h => h) (Or.inl ⟨by rfl, fun w _ => by go_simp⟩) ?_
        simp only [Act.put, List.setIfInBounds_toArray, List.set_cons_zero, List.set_cons_succ]
        refine takeH 32 126 (.bool true) hHeld rfl rfl (by kernel_rfl) (by kernel_rfl) (by kernel_rfl) (fun _ _ _ h => h) (Or.inl ⟨by rfl, fun w _ => by go_simp⟩) ?_
        simp only [Act.put, List.setIfInBounds_toArray, List.set_cons_zero, List.set_cons_succ]
        refine wpAnyH_ready (rs := [33]) (by kernel_rfl) (by simp) (AllReadyH.cons rfl (fun K hK => ?_) AllReadyH.nil)
        rw [if_pos (by rfl)]
        go_simp
        have bt8 := But.setCell W7 b4 0 (.bool true)
        refine hK.out _ _ (fun k hk _ => bt8.block k hk) (fun hHeld => ?_)
        clear hK K
        refine wpAnyH_done (by kernel_rfl) ?_ _
        refine NoPanic.normal ?_
        clear hHeld
        have c8 : (W7.setCell ⟨b4, 0, none⟩ (.bool true)).drew.cell? ⟨b4, 0, none⟩ = some (.bool true) := World.cell?_setCell_same' W7 ⟨b4, 0, none⟩ (.bool true) (by rw [D4]; rfl)
        have q8 : (W7.setCell ⟨b4, 0, none⟩ (.bool true)).drew.heap[D]? = some (.deferred (some [])) := (KeepsOthers.setCell W7 ⟨b4, 0, none⟩ (.bool true)).same D _ D7.out rfl
        have B8 : Hid (Below w.heap.size w (W7.setCell ⟨b4, 0, none⟩ (.bool true)).drew) := hide (H7.out.bel.trans (bt8.below H7.out.l4)).drew
        have hwD : w.heap.size ≤ D := Nat.le_trans (Nat.le_trans Z3.out.bel.size hB3) hD
        revert c8 q8 B8
        generalize (W7.setCell ⟨b4, 0, none⟩ (.bool true)).drew = W8
        intro c8 q8 B8
        have HQ8 := hide q8
        have HC8 := hide c8
        clear bt8 D4 F4 c8 q8
        go_wp2
        refine ⟨by simp, .inl ⟨_, _, rfl, run_takeDeferred HQ8.out, ?_⟩⟩
        have hcC := Go.cell_kept HC8.out (grownBy_putObj' _ D (.deferred none)) (fun r e => by cases e; exact ⟨_, HQ8.out, rfl⟩)
        refine ⟨.bool true, ?_, rfl, B8.out.trans (belowK_b (w := w) (Nat.le_refl _) _ D _ (.deferred none) hwD HQ8.out rfl rfl)⟩
        simp [results, Tryd.f7, go_sem, hcC]
    · have hKl : K < ps.length := by have := HX.out; omega
      obtain ⟨ge, ee, hge, hce⟩ := H7.out.ends.cell K (by rw [qC_length]; exact hKl)
      rw [qC_get ps ps.length K hKl] at hce
      have hcz : c < qL ps (K + 1) := by
        rcases hK3 with h | h
        · omega
        · exact h
      obtain ⟨Z, HZ⟩ : ∃ Z, Hid (qL ps (K + 1) = Z) := ⟨_, hide rfl⟩
      rw [HZ.out] at hce hcz
      rw [ee] at D6
      have DE := hide hce
      have NE : Hid (ge ≠ b4) := hide (by omega)
      have x2 := tinI.at ge ps.length ce K (K : Int) rfl hKl
      have hg1 : decide ((c : Int) < (Z : Int)) = true := by simp; omega
      have hg2 : decide (c < Z) = true := by simp; omega
      have hKL : ((K : Int) == (len : Int)) = false := by rw [beq_eq_false_iff_ne]; omega
      have hKL2 : (K == len) = false := by rw [beq_eq_false_iff_ne]; exact hA
      clear hce
      rcases hE with ⟨hY, rfl⟩ | ⟨hY, rfl⟩
      · subst hY
        refine wp_region_noPanic ?_
        refine wp_region_held_drew (S := fun v : World => Oth b4 W7 v) (by kernel_rfl) (Oth.drew b4 W7) (fun hHeld => ?_)
        refine takeH 0 94 (.int .i64 (K : Int)) hHeld rfl rfl (by kernel_rfl) (by kernel_rfl) (by kernel_rfl) (fun _ _ _ h => h) (Or.inl ⟨by rfl, fun w hw => by have hw' : w.cell? ⟨b10, 0, none⟩ = some (.int .i64 (K : Int)) := (cellS D10.out N10.out) hw; go_simp⟩) ?_
        simp only [Act.put, List.setIfInBounds_toArray, List.set_cons_zero, List.set_cons_succ]
        refine takeH 1 95 (.slice a len cap) hHeld rfl rfl (by kernel_rfl) (by kernel_rfl) (by kernel_rfl) (fun _ _ _ h => h) (Or.inl ⟨by rfl, fun w hw => by have hw' : w.cell? ⟨b2, 0, none⟩ = some (.slice a len cap) := (cellS D2.out N2.out) hw; go_simp⟩) ?_
        simp only [Act.put, List.setIfInBounds_toArray, List.set_cons_zero, List.set_cons_succ]
        refine takeH 2 96 (.int .i64 (len : Int)) hHeld rfl rfl (by kernel_rfl) (by kernel_rfl) (by kernel_rfl) (fun _ _ _ h => h) (Or.inl ⟨by rfl, fun w _ => by go_simp⟩) ?_
        simp only [Act.put, List.setIfInBounds_toArray, List.set_cons_zero, List.set_cons_succ]
        refine takeH 3 97 (.bool false) hHeld rfl rfl (by kernel_rfl) (by kernel_rfl) (by kernel_rfl) (fun _ _ _ h => h) (Or.inl ⟨by rfl, fun w _ => by go_simp⟩) ?_
        simp only [Act.put, List.setIfInBounds_toArray, List.set_cons_zero, List.set_cons_succ]
        refine takeH 4 98 (.bool false) hHeld rfl rfl (by kernel_rfl) (by kernel_rfl) (by kernel_rfl) (fun _ _ _ h => h) (Or.inl ⟨by rfl, fun w _ => by go_simp⟩) ?_
        simp only [Act.put, List.setIfInBounds_toArray, List.set_cons_zero, List.set_cons_succ]
        refine takeH 5 99 (.slice (some ⟨ge, 0, none⟩) ps.length ce) hHeld rfl rfl (by kernel_rfl) (by kernel_rfl) (by kernel_rfl) (fun _ _ _ h => h) (Or.inl ⟨by rfl, fun w hw => by have hw' : w.cell? ⟨b6, 0, none⟩ = some (.slice (some ⟨ge, 0, none⟩) ps.length ce) := (cellS D6.out N6.out) hw; go_simp⟩) ?_
        simp only [Act.put, List.setIfInBounds_toArray, List.set_cons_zero, List.set_cons_succ]
        refine takeH 6 100 (.int .i64 (K : Int)) hHeld rfl rfl (by kernel_rfl) (by kernel_rfl) (by kernel_rfl) (fun _ _ _ h => h) (Or.inl ⟨by rfl, fun w hw => by have hw' : w.cell? ⟨b10, 0, none⟩ = some (.int .i64 (K : Int)) := (cellS D10.out N10.out) hw; go_simp⟩) ?_
        simp only [Act.put, List.setIfInBounds_toArray, List.set_cons_zero, List.set_cons_succ]
        refine takeH 7 101 (.pointer (some ⟨ge, K, none⟩)) hHeld rfl rfl (by kernel_rfl) (by kernel_rfl) (by kernel_rfl) (fun _ _ _ h => h) (Or.inl ⟨by rfl, fun w _ => run_op rfl (x2 w)⟩) ?_
        simp only [Act.put, List.setIfInBounds_toArray, List.set_cons_zero, List.set_cons_succ]
        refine takeH 8 102 (.int .i64 (Z : Int)) hHeld rfl rfl (by kernel_rfl) (by kernel_rfl) (by kernel_rfl) (fun _ _ _ h => h) (Or.inl ⟨by rfl, fun w hw => by have hw' : w.cell? ⟨ge, K, none⟩ = some (.int .i64 (Z : Int)) := (cellS DE.out NE.out) hw; go_simp⟩) ?_
        simp only [Act.put, List.setIfInBounds_toArray, List.set_cons_zero, List.set_cons_succ]
        refine takeH 9 103 (.int .i64 (Y : Int)) hHeld rfl rfl (by kernel_rfl) (by kernel_rfl) (by kernel_rfl) (fun _ _ _ h => h) (Or.inl ⟨by rfl, fun w hw => by have hw' : w.cell? ⟨b3, 0, none⟩ = some (.int .i64 (Y : Int)) := (cellS D3.out N3.out) hw; go_simp⟩) ?_
        simp only [Act.put, List.setIfInBounds_toArray, List.set_cons_zero, List.set_cons_succ]
        refine takeH 10 104 (.bool true) hHeld rfl rfl (by kernel_rfl) (by kernel_rfl) (by kernel_rfl) (fun _ _ _ h => h) (Or.inl ⟨by rfl, fun w _ => by go_simp⟩) ?_
        simp only [Act.put, List.setIfInBounds_toArray, List.set_cons_zero, List.set_cons_succ]
        refine takeH 11 105 (.bool true) hHeld rfl rfl (by kernel_rfl) (by kernel_rfl) (by kernel_rfl) (fun _ _ _ h => h) (Or.inl ⟨by rfl, fun w _ => by go_simp⟩) ?_
        simp only [Act.put, List.setIfInBounds_toArray, List.set_cons_zero, List.set_cons_succ]
        refine takeH 12 106 (.bool true) hHeld rfl rfl (by kernel_rfl) (by kernel_rfl) (by kernel_rfl) (fun _ _ _ h => h) (Or.inl ⟨by rfl, fun w _ => by go_simp⟩) ?_
        simp only [Act.put, List.setIfInBounds_toArray, List.set_cons_zero, List.set_cons_succ]
        refine takeH 13 107 (.int .i64 (Y : Int)) hHeld rfl rfl (by kernel_rfl) (by kernel_rfl) (by kernel_rfl) (fun _ _ _ h => h) (Or.inl ⟨by rfl, fun w _ => by go_simp⟩) ?_
        simp only [Act.put, List.setIfInBounds_toArray, List.set_cons_zero, List.set_cons_succ]
        refine takeH 14 108 (.int .i64 (Y : Int)) hHeld rfl rfl (by kernel_rfl) (by kernel_rfl) (by kernel_rfl) (fun _ _ _ h => h) (Or.inl ⟨by rfl, fun w hw => by have hw' : w.cell? ⟨b11, 0, none⟩ = some (.int .i64 (Y : Int)) := (cellS D11.out N11.out) hw; go_simp⟩) ?_
        simp only [Act.put, List.setIfInBounds_toArray, List.set_cons_zero, List.set_cons_succ]
        refine takeH 15 109 (.bool true) hHeld rfl rfl (by kernel_rfl) (by kernel_rfl) (by kernel_rfl) (fun _ _ _ h => h) (Or.inl ⟨by rfl, fun w _ => by go_simp⟩) ?_
        simp only [Act.put, List.setIfInBounds_toArray, List.set_cons_zero, List.set_cons_succ]
        refine takeH 16 110 (.bool true) hHeld rfl rfl (by kernel_rfl) (by kernel_rfl) (by kernel_rfl) (fun _ _ _ h => h) (Or.inl ⟨by rfl, fun w _ => by go_simp⟩) ?_
        simp only [Act.put, List.setIfInBounds_toArray, List.set_cons_zero, List.set_cons_succ]
        refine takeH 17 111 (.bool true) hHeld rfl rfl (by kernel_rfl) (by kernel_rfl) (by kernel_rfl) (fun _ _ _ h => h) (Or.inl ⟨by rfl, fun w _ => by go_simp⟩) ?_
        simp only [Act.put, List.setIfInBounds_toArray, List.set_cons_zero, List.set_cons_succ]
        refine takeH 18 112 (.int .i64 0) hHeld rfl rfl (by kernel_rfl) (by kernel_rfl) (by kernel_rfl) (fun _ _ _ h => h) (Or.inl ⟨by rfl, fun w _ => by go_simp⟩) ?_
        simp only [Act.put, List.setIfInBounds_toArray, List.set_cons_zero, List.set_cons_succ]
        refine takeH 19 113 (.bool true) hHeld rfl rfl (by kernel_rfl) (by kernel_rfl) (by kernel_rfl) (fun _ _ _ h => h) (Or.inl ⟨by rfl, fun w _ => by go_simp⟩) ?_
        simp only [Act.put, List.setIfInBounds_toArray, List.set_cons_zero, List.set_cons_succ]
        refine takeH 20 114 (.int .i64 (Y : Int)) hHeld rfl rfl (by kernel_rfl) (by kernel_rfl) (by kernel_rfl) (fun _ _ _ h => h) (Or.inl ⟨by rfl, fun w hw => by have hw' : w.cell? ⟨b11, 0, none⟩ = some (.int .i64 (Y : Int)) := (cellS D11.out N11.out) hw; go_simp⟩) ?_
        simp only [Act.put, List.setIfInBounds_toArray, List.set_cons_zero, List.set_cons_succ]
        refine takeH 21 115 (.int .i64 (Y : Int)) hHeld rfl rfl (by kernel_rfl) (by kernel_rfl) (by kernel_rfl) (fun _ _ _ h => h) (Or.inl ⟨by rfl, fun w hw => by have hw' : w.cell? ⟨b3, 0, none⟩ = some (.int .i64 (Y : Int)) := (cellS D3.out N3.out) hw; go_simp⟩) ?_
        simp only [Act.put, List.setIfInBounds_toArray, List.set_cons_zero, List.set_cons_succ]
        refine takeH 22 116 (.bool true) hHeld rfl rfl (by kernel_rfl) (by kernel_rfl) (by kernel_rfl) (fun _ _ _ h => h) (Or.inl ⟨by rfl, fun w _ => by go_simp⟩) ?_
        simp only [Act.put, List.setIfInBounds_toArray, List.set_cons_zero, List.set_cons_succ]
        refine takeH 23 117 (.bool true) hHeld rfl rfl (by kernel_rfl) (by kernel_rfl) (by kernel_rfl) (fun _ _ _ h => h) (Or.inl ⟨by rfl, fun w _ => by go_simp⟩) ?_
        simp only [Act.put, List.setIfInBounds_toArray, List.set_cons_zero, List.set_cons_succ]
        refine takeH 24 118 (.bool true) hHeld rfl rfl (by kernel_rfl) (by kernel_rfl) (by kernel_rfl) (fun _ _ _ h => h) (Or.inl ⟨by rfl, fun w _ => by go_simp⟩) ?_
        simp only [Act.put, List.setIfInBounds_toArray, List.set_cons_zero, List.set_cons_succ]
        refine takeH 25 119 (.bool true) hHeld rfl rfl (by kernel_rfl) (by kernel_rfl) (by kernel_rfl) (fun _ _ _ h => h) (Or.inl ⟨by rfl, fun w _ => by go_simp⟩) ?_
        simp only [Act.put, List.setIfInBounds_toArray, List.set_cons_zero, List.set_cons_succ]
        refine takeH 26 120 (.int .i64 0) hHeld rfl rfl (by kernel_rfl) (by kernel_rfl) (by kernel_rfl) (fun _ _ _ h => h) (Or.inl ⟨by rfl, fun w _ => by go_simp⟩) ?_
        simp only [Act.put, List.setIfInBounds_toArray, List.set_cons_zero, List.set_cons_succ]
        refine takeH 27 121 (.bool true) hHeld rfl rfl (by kernel_rfl) (by kernel_rfl) (by kernel_rfl) (fun _ _ _ h => h) (Or.inl ⟨by rfl, fun w _ => by go_simp⟩) ?_
        simp only [Act.put, List.setIfInBounds_toArray, List.set_cons_zero, List.set_cons_succ]
        refine takeH 28 122 (.bool true) hHeld rfl rfl (by kernel_rfl) (by kernel_rfl) (by kernel_rfl) (fun _ _ _ h => h) (Or.inl ⟨by rfl, fun w _ => by go_simp⟩) ?_
        simp only [Act.put, List.setIfInBounds_toArray, List.set_cons_zero, List.set_cons_succ]
        refine takeH 29 123 undef hHeld rfl rfl (by kernel_rfl) (by kernel_rfl) (by kernel_rfl) (fun _ _ _ h => h) (Or.inr ⟨by rfl, rfl⟩) ?_
        simp only [Act.put, List.setIfInBounds_toArray, List.set_cons_zero, List.set_cons_succ]
        refine takeH 30 124 undef hHeld rfl rfl (by kernel_rfl) (by kernel_rfl) (by kernel_rfl) (fun _ _ _ h => h) (Or.inr ⟨by rfl, rfl⟩) ?_
        simp only [Act.put, List.setIfInBounds_toArray, List.set_cons_zero, List.set_cons_succ]
        refine takeH 31 125 (.bool true) hHeld rfl rfl (by kernel_rfl) (by kernel_rfl) (by kernel_rfl) (fun _ _ _ h => h) (Or.inl ⟨by rfl, fun w _ => by go_simp⟩) ?_
        simp only [Act.put, List.setIfInBounds_toArray, List.set_cons_zero, List.set_cons_succ]
        refine takeH 32 126 (.bool true) hHeld rfl rfl (by kernel_rfl) (by kernel_rfl) (by kernel_rfl) (fun _ _ _ h => h) (Or.inl ⟨by rfl, fun w _ => by go_simp⟩) ?_
        simp only [Act.put, List.setIfInBounds_toArray, List.set_cons_zero, List.set_cons_succ]
        refine wpAnyH_ready (rs := [33]) (by kernel_rfl) (by simp) (AllReadyH.cons rfl (fun K hK => ?_) AllReadyH.nil)
        rw [if_pos (by rfl)]
        go_simp
        have bt8 := But.setCell W7 b4 0 (.bool true)
        refine hK.out _ _ (fun k hk _ => bt8.block k hk) (fun hHeld => ?_)
        clear hK K
        refine wpAnyH_done (by kernel_rfl) ?_ _
        refine NoPanic.normal ?_
        clear hHeld
        have c8 : (W7.setCell ⟨b4, 0, none⟩ (.bool true)).drew.cell? ⟨b4, 0, none⟩ = some (.bool true) := World.cell?_setCell_same' W7 ⟨b4, 0, none⟩ (.bool true) (by rw [D4]; rfl)
        have q8 : (W7.setCell ⟨b4, 0, none⟩ (.bool true)).drew.heap[D]? = some (.deferred (some [])) := (KeepsOthers.setCell W7 ⟨b4, 0, none⟩ (.bool true)).same D _ D7.out rfl
        have B8 : Hid (Below w.heap.size w (W7.setCell ⟨b4, 0, none⟩ (.bool true)).drew) := hide (H7.out.bel.trans (bt8.below H7.out.l4)).drew
        have hwD : w.heap.size ≤ D := Nat.le_trans (Nat.le_trans Z3.out.bel.size hB3) hD
        revert c8 q8 B8
        generalize (W7.setCell ⟨b4, 0, none⟩ (.bool true)).drew = W8
        intro c8 q8 B8
        have HQ8 := hide q8
        have HC8 := hide c8
        clear bt8 D4 F4 c8 q8
        go_wp2
        refine ⟨by simp, .inl ⟨_, _, rfl, run_takeDeferred HQ8.out, ?_⟩⟩
        have hcC := Go.cell_kept HC8.out (grownBy_putObj' _ D (.deferred none)) (fun r e => by cases e; exact ⟨_, HQ8.out, rfl⟩)
        refine ⟨.bool true, ?_, rfl, B8.out.trans (belowK_b (w := w) (Nat.le_refl _) _ D _ (.deferred none) hwD HQ8.out rfl rfl)⟩
        simp [results, Tryd.f7, go_sem, hcC]
      · have hne : ((Y : Int) == (c : Int)) = false := by rw [beq_eq_false_iff_ne]; omega
        refine wp_region_noPanic ?_
        refine wp_region_held_drew (S := fun v : World => Oth b4 W7 v) (by kernel_rfl) (Oth.drew b4 W7) (fun hHeld => ?_)
        refine takeH 0 94 (.int .i64 (K : Int)) hHeld rfl rfl (by kernel_rfl) (by kernel_rfl) (by kernel_rfl) (fun _ _ _ h => h) (Or.inl ⟨by rfl, fun w hw => by have hw' : w.cell? ⟨b10, 0, none⟩ = some (.int .i64 (K : Int)) := (cellS D10.out N10.out) hw; go_simp⟩) ?_
        simp only [Act.put, List.setIfInBounds_toArray, List.set_cons_zero, List.set_cons_succ]
        refine takeH 1 95 (.slice a len cap) hHeld rfl rfl (by kernel_rfl) (by kernel_rfl) (by kernel_rfl) (fun _ _ _ h => h) (Or.inl ⟨by rfl, fun w hw => by have hw' : w.cell? ⟨b2, 0, none⟩ = some (.slice a len cap) := (cellS D2.out N2.out) hw; go_simp⟩) ?_
        simp only [Act.put, List.setIfInBounds_toArray, List.set_cons_zero, List.set_cons_succ]
        refine takeH 2 96 (.int .i64 (len : Int)) hHeld rfl rfl (by kernel_rfl) (by kernel_rfl) (by kernel_rfl) (fun _ _ _ h => h) (Or.inl ⟨by rfl, fun w _ => by go_simp⟩) ?_
        simp only [Act.put, List.setIfInBounds_toArray, List.set_cons_zero, List.set_cons_succ]
        refine takeH 3 97 (.bool false) hHeld rfl rfl (by kernel_rfl) (by kernel_rfl) (by kernel_rfl) (fun _ _ _ h => h) (Or.inl ⟨by rfl, fun w _ => by go_simp⟩) ?_
        simp only [Act.put, List.setIfInBounds_toArray, List.set_cons_zero, List.set_cons_succ]
        refine takeH 4 98 (.bool false) hHeld rfl rfl (by kernel_rfl) (by kernel_rfl) (by kernel_rfl) (fun _ _ _ h => h) (Or.inl ⟨by rfl, fun w _ => by go_simp⟩) ?_
        simp only [Act.put, List.setIfInBounds_toArray, List.set_cons_zero, List.set_cons_succ]
        refine takeH 5 99 (.slice (some ⟨ge, 0, none⟩) ps.length ce) hHeld rfl rfl (by kernel_rfl) (by kernel_rfl) (by kernel_rfl) (fun _ _ _ h => h) (Or.inl ⟨by rfl, fun w hw => by have hw' : w.cell? ⟨b6, 0, none⟩ = some (.slice (some ⟨ge, 0, none⟩) ps.length ce) := (cellS D6.out N6.out) hw; go_simp⟩) ?_
        simp only [Act.put, List.setIfInBounds_toArray, List.set_cons_zero, List.set_cons_succ]
        refine takeH 6 100 (.int .i64 (K : Int)) hHeld rfl rfl (by kernel_rfl) (by kernel_rfl) (by kernel_rfl) (fun _ _ _ h => h) (Or.inl ⟨by rfl, fun w hw => by have hw' : w.cell? ⟨b10, 0, none⟩ = some (.int .i64 (K : Int)) := (cellS D10.out N10.out) hw; go_simp⟩) ?_
        simp only [Act.put, List.setIfInBounds_toArray, List.set_cons_zero, List.set_cons_succ]
        refine takeH 7 101 (.pointer (some ⟨ge, K, none⟩)) hHeld rfl rfl (by kernel_rfl) (by kernel_rfl) (by kernel_rfl) (fun _ _ _ h => h) (Or.inl ⟨by rfl, fun w _ => run_op rfl (x2 w)⟩) ?_
        simp only [Act.put, List.setIfInBounds_toArray, List.set_cons_zero, List.set_cons_succ]
        refine takeH 8 102 (.int .i64 (Z : Int)) hHeld rfl rfl (by kernel_rfl) (by kernel_rfl) (by kernel_rfl) (fun _ _ _ h => h) (Or.inl ⟨by rfl, fun w hw => by have hw' : w.cell? ⟨ge, K, none⟩ = some (.int .i64 (Z : Int)) := (cellS DE.out NE.out) hw; go_simp⟩) ?_
        simp only [Act.put, List.setIfInBounds_toArray, List.set_cons_zero, List.set_cons_succ]
        refine takeH 9 103 (.int .i64 (c : Int)) hHeld rfl rfl (by kernel_rfl) (by kernel_rfl) (by kernel_rfl) (fun _ _ _ h => h) (Or.inl ⟨by rfl, fun w hw => by have hw' : w.cell? ⟨b3, 0, none⟩ = some (.int .i64 (c : Int)) := (cellS D3.out N3.out) hw; go_simp⟩) ?_
        simp only [Act.put, List.setIfInBounds_toArray, List.set_cons_zero, List.set_cons_succ]
        refine takeH 10 104 (.bool true) hHeld rfl rfl (by kernel_rfl) (by kernel_rfl) (by kernel_rfl) (fun _ _ _ h => h) (Or.inl ⟨by rfl, fun w _ => by go_simp⟩) ?_
        simp only [Act.put, List.setIfInBounds_toArray, List.set_cons_zero, List.set_cons_succ]
        refine takeH 11 105 (.bool true) hHeld rfl rfl (by kernel_rfl) (by kernel_rfl) (by kernel_rfl) (fun _ _ _ h => h) (Or.inl ⟨by rfl, fun w _ => by go_simp⟩) ?_
        simp only [Act.put, List.setIfInBounds_toArray, List.set_cons_zero, List.set_cons_succ]
        refine takeH 12 106 (.bool true) hHeld rfl rfl (by kernel_rfl) (by kernel_rfl) (by kernel_rfl) (fun _ _ _ h => h) (Or.inl ⟨by rfl, fun w _ => by go_simp⟩) ?_
        simp only [Act.put, List.setIfInBounds_toArray, List.set_cons_zero, List.set_cons_succ]
        refine takeH 13 107 (.int .i64 (Y : Int)) hHeld rfl rfl (by kernel_rfl) (by kernel_rfl) (by kernel_rfl) (fun _ _ _ h => h) (Or.inl ⟨by rfl, fun w _ => by go_simp⟩) ?_
        simp only [Act.put, List.setIfInBounds_toArray, List.set_cons_zero, List.set_cons_succ]
        refine takeH 14 108 (.int .i64 (Y : Int)) hHeld rfl rfl (by kernel_rfl) (by kernel_rfl) (by kernel_rfl) (fun _ _ _ h => h) (Or.inl ⟨by rfl, fun w hw => by have hw' : w.cell? ⟨b11, 0, none⟩ = some (.int .i64 (Y : Int)) := (cellS D11.out N11.out) hw; go_simp⟩) ?_
        simp only [Act.put, List.setIfInBounds_toArray, List.set_cons_zero, List.set_cons_succ]
        refine takeH 15 109 (.bool true) hHeld rfl rfl (by kernel_rfl) (by kernel_rfl) (by kernel_rfl) (fun _ _ _ h => h) (Or.inl ⟨by rfl, fun w _ => by go_simp⟩) ?_
        simp only [Act.put, List.setIfInBounds_toArray, List.set_cons_zero, List.set_cons_succ]
        refine takeH 16 110 (.bool true) hHeld rfl rfl (by kernel_rfl) (by kernel_rfl) (by kernel_rfl) (fun _ _ _ h => h) (Or.inl ⟨by rfl, fun w _ => by go_simp⟩) ?_
        simp only [Act.put, List.setIfInBounds_toArray, List.set_cons_zero, List.set_cons_succ]
        refine takeH 17 111 (.bool true) hHeld rfl rfl (by kernel_rfl) (by kernel_rfl) (by kernel_rfl) (fun _ _ _ h => h) (Or.inl ⟨by rfl, fun w _ => by go_simp⟩) ?_
        simp only [Act.put, List.setIfInBounds_toArray, List.set_cons_zero, List.set_cons_succ]
        refine takeH 18 112 (.int .i64 111) hHeld rfl rfl (by kernel_rfl) (by kernel_rfl) (by kernel_rfl) (fun _ _ _ h => h) (Or.inl ⟨by rfl, fun w _ => by go_simp⟩) ?_
        simp only [Act.put, List.setIfInBounds_toArray, List.set_cons_zero, List.set_cons_succ]
        refine takeH 19 113 (.bool false) hHeld rfl rfl (by kernel_rfl) (by kernel_rfl) (by kernel_rfl) (fun _ _ _ h => h) (Or.inl ⟨by rfl, fun w _ => by go_simp⟩) ?_
        simp only [Act.put, List.setIfInBounds_toArray, List.set_cons_zero, List.set_cons_succ]
        refine takeH 20 114 (.int .i64 (Y : Int)) hHeld rfl rfl (by kernel_rfl) (by kernel_rfl) (by kernel_rfl) (fun _ _ _ h => h) (Or.inl ⟨by rfl, fun w hw => by have hw' : w.cell? ⟨b11, 0, none⟩ = some (.int .i64 (Y : Int)) := (cellS D11.out N11.out) hw; go_simp⟩) ?_
        simp only [Act.put, List.setIfInBounds_toArray, List.set_cons_zero, List.set_cons_succ]
        refine takeH 21 115 (.int .i64 (c : Int)) hHeld rfl rfl (by kernel_rfl) (by kernel_rfl) (by kernel_rfl) (fun _ _ _ h => h) (Or.inl ⟨by rfl, fun w hw => by have hw' : w.cell? ⟨b3, 0, none⟩ = some (.int .i64 (c : Int)) := (cellS D3.out N3.out) hw; go_simp⟩) ?_
        simp only [Act.put, List.setIfInBounds_toArray, List.set_cons_zero, List.set_cons_succ]
        refine takeH 22 116 (.bool false) hHeld rfl rfl (by kernel_rfl) (by kernel_rfl) (by kernel_rfl) (fun _ _ _ h => h) (Or.inl ⟨by rfl, fun w _ => by go_simp⟩) ?_
        simp only [Act.put, List.setIfInBounds_toArray, List.set_cons_zero, List.set_cons_succ]
        refine takeH 23 117 (.bool true) hHeld rfl rfl (by kernel_rfl) (by kernel_rfl) (by kernel_rfl) (fun _ _ _ h => h) (Or.inl ⟨by rfl, fun w _ => by go_simp⟩) ?_
        simp only [Act.put, List.setIfInBounds_toArray, List.set_cons_zero, List.set_cons_succ]
        refine takeH 24 118 (.bool true) hHeld rfl rfl (by kernel_rfl) (by kernel_rfl) (by kernel_rfl) (fun _ _ _ h => h) (Or.inl ⟨by rfl, fun w _ => by go_simp⟩) ?_
        simp only [Act.put, List.setIfInBounds_toArray, List.set_cons_zero, List.set_cons_succ]
        refine takeH 25 119 (.bool true) hHeld rfl rfl (by kernel_rfl) (by kernel_rfl) (by kernel_rfl) (fun _ _ _ h => h) (Or.inl ⟨by rfl, fun w _ => by go_simp⟩) ?_
        simp only [Act.put, List.setIfInBounds_toArray, List.set_cons_zero, List.set_cons_succ]
        refine takeH 26 120 (.int .i64 111) hHeld rfl rfl (by kernel_rfl) (by kernel_rfl) (by kernel_rfl) (fun _ _ _ h => h) (Or.inl ⟨by rfl, fun w _ => by go_simp⟩) ?_
        simp only [Act.put, List.setIfInBounds_toArray, List.set_cons_zero, List.set_cons_succ]
        refine takeH 27 121 (.bool false) hHeld rfl rfl (by kernel_rfl) (by kernel_rfl) (by kernel_rfl) (fun _ _ _ h => h) (Or.inl ⟨by rfl, fun w _ => by go_simp⟩) ?_
        simp only [Act.put, List.setIfInBounds_toArray, List.set_cons_zero, List.set_cons_succ]
        refine takeH 28 122 (.bool false) hHeld rfl rfl (by kernel_rfl) (by kernel_rfl) (by kernel_rfl) (fun _ _ _ h => h) (Or.inl ⟨by rfl, fun w _ => by go_simp⟩) ?_
        simp only [Act.put, List.setIfInBounds_toArray, List.set_cons_zero, List.set_cons_succ]
        refine takeH 29 123 (.int .i64 111) hHeld rfl rfl (by kernel_rfl) (by kernel_rfl) (by kernel_rfl) (fun _ _ _ h => h) (Or.inl ⟨by rfl, fun w _ => by go_simp⟩) ?_
        simp only [Act.put, List.setIfInBounds_toArray, List.set_cons_zero, List.set_cons_succ]
        refine takeH 30 124 (.bool true) hHeld rfl rfl (by kernel_rfl) (by kernel_rfl) (by kernel_rfl) (fun _ _ _ h => h) (Or.inl ⟨by rfl, fun w _ => by go_simp⟩) ?_
        simp only [Act.put, List.setIfInBounds_toArray, List.set_cons_zero, List.set_cons_succ]
        refine takeH 31 125 (.bool true) hHeld rfl rfl (by kernel_rfl) (by kernel_rfl) (by kernel_rfl) (fun _ _ _ h => h) (Or.inl ⟨by rfl, fun w _ => by go_simp⟩) ?_
        simp only [Act.put, List.setIfInBounds_toArray, List.set_cons_zero, List.set_cons_succ]
        refine takeH 32 126 (.bool true) hHeld rfl rfl (by kernel_rfl) (by kernel_rfl) (by kernel_rfl) (fun _ _ _ h => h) (Or.inl ⟨by rfl, fun w _ => by go_simp⟩) ?_
        simp only [Act.put, List.setIfInBounds_toArray, List.set_cons_zero, List.set_cons_succ]
        refine wpAnyH_ready (rs := [33]) (by kernel_rfl) (by simp) (AllReadyH.cons rfl (fun K hK => ?_) AllReadyH.nil)
        rw [if_pos (by rfl)]
        go_simp
        have bt8 := But.setCell W7 b4 0 (.bool true)
        refine hK.out _ _ (fun k hk _ => bt8.block k hk) (fun hHeld => ?_)
        clear hK K
        refine wpAnyH_done (by kernel_rfl) ?_ _
        refine NoPanic.normal ?_
        clear hHeld
        have c8 : (W7.setCell ⟨b4, 0, none⟩ (.bool true)).drew.cell? ⟨b4, 0, none⟩ = some (.bool true) := World.cell?_setCell_same' W7 ⟨b4, 0, none⟩ (.bool true) (by rw [D4]; rfl)
        have q8 : (W7.setCell ⟨b4, 0, none⟩ (.bool true)).drew.heap[D]? = some (.deferred (some [])) := (KeepsOthers.setCell W7 ⟨b4, 0, none⟩ (.bool true)).same D _ D7.out rfl
        have B8 : Hid (Below w.heap.size w (W7.setCell ⟨b4, 0, none⟩ (.bool true)).drew) := hide (H7.out.bel.trans (bt8.below H7.out.l4)).drew
        have hwD : w.heap.size ≤ D := Nat.le_trans (Nat.le_trans Z3.out.bel.size hB3) hD
        revert c8 q8 B8
        generalize (W7.setCell ⟨b4, 0, none⟩ (.bool true)).drew = W8
        intro c8 q8 B8
        have HQ8 := hide q8
        have HC8 := hide c8
        clear bt8 D4 F4 c8 q8
        go_wp2
        refine ⟨by simp, .inl ⟨_, _, rfl, run_takeDeferred HQ8.out, ?_⟩⟩
        have hcC := Go.cell_kept HC8.out (grownBy_putObj' _ D (.deferred none)) (fun r e => by cases e; exact ⟨_, HQ8.out, rfl⟩)
        refine ⟨.bool true, ?_, rfl, B8.out.trans (belowK_b (w := w) (Nat.le_refl _) _ D _ (.deferred none) hwD HQ8.out rfl rfl)⟩
        simp [results, Tryd.f7, go_sem, hcC]
theorem begins_law (a : Option Addr) (len cap : Nat) (ps : List (List Int)) (cut : Int) (w : World) (hs : Sls w a len cap ps) (hc : (Lit.int .i64 cut).wf = true) (hk : KT w) :
    Calls Tryd.prog 7 #[.slice a len cap, .int .i64 cut] w fun e w' => e = .returned (.bool true) ∧ Below w.heap.size w w' := begins_walk a len cap ps cut w hs hk

end Go.Proofs.YtbkhlbaamjccjaaDoor
