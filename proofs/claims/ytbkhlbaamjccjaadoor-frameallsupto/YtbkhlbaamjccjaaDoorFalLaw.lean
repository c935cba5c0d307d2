/-
  The walk of FrameAlls.
-/
import Derived.Test.YtbkhlbaamjccjaaDoorFwh
import Derived.Test.YtbkhlbaamjccjaaDoorFkr
import Derived.Laws.EntriesVeiled
namespace Go.Proofs.YtbkhlbaamjccjaaDoor
open Go.RowKit Go.Shelf
set_option linter.unusedVariables false
set_option linter.unusedSimpArgs false

/-- What lies there ahead of the law's loops. -/
structure FZ (w W3 : World) (b3 b4 b5 b6 : Nat) (stop : Int) (ao ae : Option Addr) (co ce : Nat) (vs : List Value) (L : List (Int × List Int)) : Prop where
  c3 : Blk W3 b3 3 [.int .i64 stop]
  c4 : Blk W3 b4 4 [.bool false]
  c5 : Blk W3 b5 41 [.slice ao L.length co]
  c6 : Blk W3 b6 42 [.slice ae L.length ce]
  tl : Tld w W3 (.slice ao L.length co) (.slice ae L.length ce) vs L
  kt : KT W3
  l4 : w.heap.size ≤ b4
theorem FZ.on {w W W' : World} {b3 b4 b5 b6 : Nat} {stop : Int} {ao ae : Option Addr} {co ce : Nat} {vs : List Value} {L : List (Int × List Int)} (h : FZ w W b3 b4 b5 b6 stop ao ae co ce vs L) (hb : Below W.heap.size W W') : FZ w W' b3 b4 b5 b6 stop ao ae co ce vs L :=
  ⟨h.c3.on hb, h.c4.on hb, h.c5.on hb, h.c6.on hb, ⟨h.tl.out.below hb, h.tl.cts.below hb, h.tl.ends.below hb, on_below h.tl.bel hb⟩, h.kt.on hb, h.l4⟩
/-- What the loops keep. -/
structure AS (W3 W : World) (b12 b13 : Nat) (rd : Int) (i : Nat) : Prop where
  bel : Below W3.heap.size W3 W
  c12 : Blk W b12 3 [.int .i64 rd]
  c13 : Blk W b13 3 [.int .i64 (i : Int)]
  l12 : W3.heap.size ≤ b12
  l13 : W3.heap.size ≤ b13
  n : b12 ≠ b13
theorem AS.kept {W3 A C : World} {b12 b13 B : Nat} {rd : Int} {i : Nat} {row : Option Nat} (h : AS W3 A b12 b13 rd i) (hB : W3.heap.size ≤ B) (hg : A.grownBy C row) (hr : ∀ r, row = some r → B ≤ r ∧ ∃ o : Obj, A.heap[r]? = some o ∧ o.isCells = false) : AS W3 C b12 b13 rd i :=
  ⟨h.bel.grown hg h.bel.size (fun r e => Nat.le_trans hB (hr r e).1), h.c12.kept hg (fun r e => (hr r e).2), h.c13.kept hg (fun r e => (hr r e).2), h.l12, h.l13, h.n⟩
theorem AS.on {W3 A C : World} {b12 b13 : Nat} {rd : Int} {i : Nat} (h : AS W3 A b12 b13 rd i) (hb : Below A.heap.size A C) : AS W3 C b12 b13 rd i :=
  ⟨on_below h.bel hb, h.c12.on hb, h.c13.on hb, h.l12, h.l13, h.n⟩
theorem AS.set {W3 W : World} {b12 b13 : Nat} {rd : Int} {i : Nat} (h : AS W3 W b12 b13 rd i) (j : Nat) : AS W3 (W.setCell ⟨b13, 0, none⟩ (.int .i64 (j : Int))) b12 b13 rd j := by
  have hb := But.setCell W b13 0 (.int .i64 (j : Int))
  exact ⟨h.bel.trans (hb.below h.l13), h.c12.but hb h.n, h.c13.set 0 _, h.l12, h.l13, h.n⟩
/-- A slice above B is written over. -/
theorem AS.spo {W3 W W' : World} {b12 b13 B : Nat} {rd : Int} {i : Nat} {v : Value} (h : AS W3 W b12 b13 rd i) (hs : Spo v W W') (hv : ∀ k, v.ownBlock = some k → B ≤ k) (hB : W3.heap.size ≤ B) (h12 : b12 < B) (h13 : b13 < B) : AS W3 W' b12 b13 rd i := by
  rcases hs with rfl | ⟨g, hg, hb⟩
  · exact h
  · have hgB := hv g hg
    exact ⟨h.bel.trans (hb.below (by omega)), h.c12.but hb (by omega), h.c13.but hb (by omega), h.l12, h.l13, h.n⟩
theorem KF.drew {B : Nat} {x : Fx} (A : World) (n : Nat) : KF B x A (A.drewN n) := ⟨Nat.le_refl _, fun k => k, fun k o _ ho _ _ => ho⟩
theorem KF.spo {B : Nat} {x : Fx} {A C : World} (h : Spo x.2.1 A C) (hv : ∀ k, x.2.1.ownBlock = some k → B ≤ k) (h0 : 0 < B) : KF B x A C := by
  rcases h with rfl | ⟨g, hg, hb⟩
  · exact ⟨Nat.le_refl _, fun k => k, fun k o _ ho _ _ => ho⟩
  · have hgB := hv g hg
    exact ⟨Nat.le_of_eq hb.size.symm, fun k i hi => by rw [World.cell?_of_block (w := A) (hb.block 0 (by omega))]; exact k i hi, fun k o _ ho _ hx => (hb.block k (fun e => hx (by rw [hg, e]))).trans ho⟩
theorem keepsO_below {A B : World} (h : Below A.heap.size A B) : KeepsOthers A B := ⟨h.size, fun k o hk _ => (h.block k (Array.getElem?_eq_some_iff.1 hk).1).trans hk⟩
theorem KeepsOthers.spo {A C : World} {B : Nat} {v : Value} {xs : List Int} (h : Spo v A C) (ho : Own A B v xs) : KeepsOthers A C := by
  rcases h with rfl | ⟨g, hg, hb⟩
  · exact KeepsOthers.refl _
  · refine ⟨Nat.le_of_eq hb.size.symm, fun k o hk hc => (hb.block k (fun e => ?_)).trans hk⟩
    subst e
    rcases ho.2 with ⟨rfl, _⟩ | ⟨g, cap, cur, rfl, _, hh, _⟩
    · cases hg
    · injection hg with hg
      subst hg
      rw [hh] at hk
      injection hk with hk
      subst hk
      cases hc
theorem mark_kept {A B : World} {row : Option Nat} {D n : Nat} (hx : A.heap[D]? = some (.deferred (some []))) (hg : A.grownBy B row) (hr : ∀ r, row = some r → n ≤ r ∧ ∃ o : Obj, A.heap[r]? = some o ∧ o.isCells = false) (hD : D < n) : B.heap[D]? = some (.deferred (some [])) := by
  rw [hg.block D (Array.getElem?_eq_some_iff.1 hx).1 (fun e => by have := (hr D e.symm).1; omega)]
  exact hx
/-- What a loop holds where the body has left it by break. -/
def IX (W3 : World) (X : World → Prop) (b12 b13 : Nat) (stop rd : Int) (c : Code) (pre : List Fx) (W : World) : Prop :=
  c = .exit 2 ∧ rd = 0 ∧ (pre.length : Int) = stop ∧ AS W3 W b12 b13 rd pre.length ∧ X W

set_option maxRecDepth 100000 in
set_option maxHeartbeats 2000000 in
theorem alls_walk (a : Option Addr) (len cap : Nat) (xs : List Int) (stop : Int) (w : World) (hs : Sl w a len cap xs) (hl : len ≤ 1048576) (hk : KT w) :
    Calls Tryd.prog 6 #[.slice a len cap, .int .i64 stop] w fun e w' => e = .returned (.bool true) ∧ Below w.heap.size w w' := by
  obtain ⟨L, P, E, hF⟩ := frs_any xs hs.hbyte
  have HS := hide hs
  have HX := hide hs.hlen
  have HB := hide hs.hbyte
  have HF := hide hF
  have HK := hide hk
  have hlL : L.length ≤ 1048576 := by have := hF.few hs.hbyte; have := hs.hlen; omega
  have h0w : 0 < w.heap.size := hk.lt
  have hl6 : len ≤ 16777216 := by omega
  clear hs hF hk
  refine (callsIn_wide (n := 3)).1 ?_
  refine callsIn_of_wp_marks Tryd.func6 rfl trivial ?_ rfl
  simp only [Tryd.ntmps6, List.size_toArray, List.length_cons, List.length_nil, Nat.reduceAdd, Nat.reduceSub, Array.replicate_succ, Array.replicate_zero, List.push_toArray, List.append_toArray, List.nil_append, List.cons_append]
  gi_wp2_with fail
  have d3 : Blk ((w.alloc (.cells #[.int .i64 stop] 3)).alloc (.cells #[.bool false] 4)) w.heap.size 3 [.int .i64 stop] := (Blk.made w 3 [.int .i64 stop]).on ((Below.refl _ _).alloc (Nat.le_refl _) _)
  have d4 : Blk ((w.alloc (.cells #[.int .i64 stop] 3)).alloc (.cells #[.bool false] 4)) (w.heap.size + 1) 4 [.bool false] := by
    have := (Blk.made (w.alloc (.cells #[.int .i64 stop] 3)) 4 [.bool false])
    rwa [World.size_alloc] at this
  have B0 : Below w.heap.size w ((w.alloc (.cells #[.int .i64 stop] 3)).alloc (.cells #[.bool false] 4)) := ((Below.refl _ w).alloc (Nat.le_refl _) _).alloc (by simp) _
  revert d3 d4 B0
  generalize (w.alloc (.cells #[.int .i64 stop] 3)).alloc (.cells #[.bool false] 4) = W0
  intro d3 d4 B0
  refine ⟨trivial, (callsIn_wide.2 (allR_any a len cap xs L P E W0 (HS.out.below B0) hl HF.out)).mono ?_⟩
  rintro _ w1 ⟨o, e, vs, rfl, T⟩
  obtain ⟨ao, co, ho⟩ := T.out.slice
  obtain ⟨ae, ce, he⟩ := T.ends.slice
  rw [T.cts.1, dL_length] at ho
  rw [eC_length] at he
  subst ho he
  have E3 := hide (d3.on T.bel)
  have E4 := hide (d4.on T.bel)
  have T1 : Hid (Tld w w1 (.slice ao L.length co) (.slice ae L.length ce) vs L) := hide ⟨T.out.mono B0.size, ⟨T.cts.1, fun i hi => (T.cts.2 i hi).mono B0.size⟩, T.ends.mono B0.size, on_below B0 T.bel⟩
  clear d3 d4 B0 T
  gi_wp2_with fail
  have c5 : Blk ((w1.alloc (.cells #[.slice ao L.length co] 41)).alloc (.cells #[.slice ae L.length ce] 42)) w1.heap.size 41 [.slice ao L.length co] := (Blk.made w1 41 [.slice ao L.length co]).on ((Below.refl _ _).alloc (Nat.le_refl _) _)
  have c6 : Blk ((w1.alloc (.cells #[.slice ao L.length co] 41)).alloc (.cells #[.slice ae L.length ce] 42)) (w1.heap.size + 1) 42 [.slice ae L.length ce] := by
    have := (Blk.made (w1.alloc (.cells #[.slice ao L.length co] 41)) 42 [.slice ae L.length ce])
    rwa [World.size_alloc] at this
  have B2 : Below w1.heap.size w1 ((w1.alloc (.cells #[.slice ao L.length co] 41)).alloc (.cells #[.slice ae L.length ce] 42)) := ((Below.refl _ w1).alloc (Nat.le_refl _) _).alloc (by simp) _
  have Z2 : Hid (FZ w ((w1.alloc (.cells #[.slice ao L.length co] 41)).alloc (.cells #[.slice ae L.length ce] 42)) w.heap.size (w.heap.size + 1) w1.heap.size (w1.heap.size + 1) stop ao ae co ce vs L) := hide
    ⟨E3.out.on B2, E4.out.on B2, c5, c6, ⟨T1.out.out.below B2, T1.out.cts.below B2, T1.out.ends.below B2, on_below T1.out.bel B2⟩, (HK.out.on T1.out.bel).on B2, by omega⟩
  clear c5 c6 B2 E3 E4 T1
  revert Z2
  generalize (w1.alloc (.cells #[.slice ao L.length co] 41)).alloc (.cells #[.slice ae L.length ce] 42) = W2
  obtain ⟨b6, hb6⟩ : ∃ b6, w1.heap.size + 1 = b6 := ⟨_, rfl⟩
  obtain ⟨b5, hb5⟩ : ∃ b5, w1.heap.size = b5 := ⟨_, rfl⟩
  obtain ⟨b4, hb4⟩ : ∃ b4, w.heap.size + 1 = b4 := ⟨_, rfl⟩
  rw [hb6, hb5, hb4]
  intro Z2
  have HB4 := hide hb4
  clear hb6 hb5 hb4
  refine ⟨trivial, (callsIn_wide.2 (whole_any a len cap xs L P E W2 (HS.out.below Z2.out.tl.bel) hl6 HF.out Z2.out.kt)).mono ?_⟩
  rintro _ W2a ⟨rfl, hb⟩
  have Z2a := hide (Z2.out.on hb)
  clear Z2 hb
  gi_wp2_with fail
  refine ⟨trivial, (callsIn_wide.2 (wholeR_any a len cap xs L P E W2a (HS.out.below Z2a.out.tl.bel) hl HF.out)).mono ?_⟩
  rintro _ W2b ⟨rfl, hb⟩
  have Z2b := hide (Z2a.out.on hb)
  clear Z2a hb
  gi_wp2_with fail
  refine ⟨trivial, (callsIn_wide.2 (all_any _ _ _ _)).mono ?_⟩
  rintro _ W3 ⟨b0, rfl, hq1, hq2, hb⟩
  clear hq1 hq2
  have HZF := hide (Z2b.out.on hb)
  have HSB : Hid (∀ W, Below W3.heap.size W3 W → Sl W a len cap xs) := hide (fun W h => HS.out.below (on_below HZF.out.tl.bel h))
  have heq : ∀ v : World, (binOp BinOp.eql 49 (.func (.func 30) #[] #[.pointer (some ⟨b0, 0, none⟩)]) .nilFunc).run Tryd.prog v = .ok (.bool false) v := fun v => by kernel_rfl
  have h0W : 0 < W3.heap.size := by have := HZF.out.tl.bel.size; omega
  clear Z2b hb
  gi_wp2_with fail
  clear heq
  refine wpIn_loop_rounds 3 ?_
  rw [roundsIn_succ]
  gi_wp2_with fail
  have FB := hide (Below.refl W3.heap.size W3)
  have C12 : Blk ((W3.alloc (.cells #[.int .i64 0] 3)).alloc (.cells #[.int .i64 0] 3)) W3.heap.size 3 [.int .i64 0] := (Blk.made W3 3 [.int .i64 0]).below ((Below.refl _ _).alloc (Nat.le_refl _) _) (Blk.made W3 3 [.int .i64 0]).lt
  have C13 : Blk ((W3.alloc (.cells #[.int .i64 0] 3)).alloc (.cells #[.int .i64 0] 3)) (W3.heap.size + 1) 3 [.int .i64 ((0 : Nat) : Int)] := by
    have := Blk.made (W3.alloc (.cells #[.int .i64 0] 3)) 3 [.int .i64 0]
    rwa [World.size_alloc] at this
  have hbc : Below W3.heap.size W3 ((W3.alloc (.cells #[.int .i64 0] 3)).alloc (.cells #[.int .i64 0] 3)) := ((Below.refl _ _).alloc (Nat.le_refl _) _).alloc (by simp) _
  have hsb := FB.out.size
  have A4 : Hid (AS W3 ((W3.alloc (.cells #[.int .i64 0] 3)).alloc (.cells #[.int .i64 0] 3)) W3.heap.size (W3.heap.size + 1) 0 0) := hide ⟨on_below FB.out hbc, C12, C13, hsb, by omega, by omega⟩
  have X4 : Hid ((fun _ => Hid True) ((W3.alloc (.cells #[.int .i64 0] 3)).alloc (.cells #[.int .i64 0] 3))) := hide (hide trivial)
  clear C12 C13 hbc
  revert A4 X4
  generalize (W3.alloc (.cells #[.int .i64 0] 3)).alloc (.cells #[.int .i64 0] 3) = W4
  obtain ⟨b12, hb12⟩ : ∃ b12, W3.heap.size = b12 := ⟨_, rfl⟩
  rw [hb12]
  intro A4 X4
  clear hb12 hsb
  refine ⟨trivial, (callsIn_wide.2 (all_any _ _ _ _)).mono ?_⟩
  rintro _ W5 ⟨b1, rfl, hbx, hlx, hbel5⟩
  have A5 : Hid (AS W3 W5 b12 (b12 + 1) 0 0) := hide ⟨on_below A4.out.bel hbel5, A4.out.c12.on hbel5, A4.out.c13.on hbel5, A4.out.l12, A4.out.l13, A4.out.n⟩
  have X5 : Hid ((fun _ => Hid True) W5) := hide (X4.out)
  have hB12 : b12 < W5.heap.size := A5.out.c12.lt
  have hB13 : b12 + 1 < W5.heap.size := A5.out.c13.lt
  have hB3 : W3.heap.size ≤ W5.heap.size := A5.out.bel.size
  have h0B : 0 < W5.heap.size := by omega
  have HSQ := hide (all_seq a len cap xs L P E b1 W5 (HSB.out _ A5.out.bel) hl6 HF.out (HZF.out.kt.on A5.out.bel) hbx)
  clear A4 X4 hbx hlx hbel5
  gi_wp2_with fail
  refine rangeR rfl (by decide) (gf := 30) (lb := #[.pointer (some ⟨b1, 0, none⟩)]) rfl trivial (enters_of Tryd.func30 (by kernel_rfl) rfl)
    HSQ.out KF.trans (fun x W l o o' hl h hc => KF.book (by omega) x W l o o' hl h hc) (fun _ => rfl) (fun pre x => rf_own _ _ _ pre x)
    (fun pre W => AS W3 W b12 (b12 + 1) 0 pre.length ∧ (fun _ => Hid True) W) (IX W3 (fun _ => Hid True) b12 (b12 + 1) stop 0)
    (fun _ A C row h hg hr => ⟨h.1.kept hB3 hg hr, h.2⟩)
    (fun c _ A C row h hg hr => ⟨h.1, h.2.1, h.2.2.1, h.2.2.2.1.kept hB3 hg hr, h.2.2.2.2⟩)
    ⟨A5.out, X5.out⟩ ?acta ?assigna ?bodya ?donea ?stopa
  case assigna =>
    rintro l x W K hK
    have hsem := Oper.semAt_some
    simp only [encF]
    gi_wp2
    exact hK
  case bodya =>
    rintro l pre ⟨nx, v, d⟩ W ⟨hA, hX⟩ ⟨h1, h2, h3, h4⟩
    have hsem := Oper.semAt_some
    obtain ⟨k, HKK⟩ : ∃ k, Hid (pre.length = k) := ⟨_, hide rfl⟩
    rw [HKK.out] at hA h1 h3
    have HPL : Hid ((pre ++ [(nx, v, d)]).length = k + 1) := hide (by rw [List.length_append, HKK.out]; rfl)
    have HA := hide hA
    have HXX := hide hX
    have HO : Hid (Own W W5.heap.size v d) := hide h4
    have ZF := HZF.out.on hA.bel
    have d3 : W.cell? ⟨w.heap.size, 0, none⟩ = some (.int .i64 stop) := by rw [ZF.c3.cell]; rfl
    have d5 : W.cell? ⟨b5, 0, none⟩ = some (.slice ao L.length co) := by rw [ZF.c5.cell]; rfl
    have d6 : W.cell? ⟨b6, 0, none⟩ = some (.slice ae L.length ce) := by rw [ZF.c6.cell]; rfl
    have d12 : W.cell? ⟨b12, 0, none⟩ = some (.int .i64 0) := by rw [hA.c12.cell]; rfl
    have d13 : W.cell? ⟨b12 + 1, 0, none⟩ = some (.int .i64 (k : Int)) := by rw [hA.c13.cell]; rfl
    obtain ⟨go, eo, _, hco⟩ := ZF.tl.out.cell k (by rw [ZF.tl.cts.1, dL_length]; exact h1)
    obtain ⟨ge, ee, _, hce⟩ := ZF.tl.ends.cell k (by rw [eC_length]; exact h1)
    have hcts := ZF.tl.cts.2 k (by rw [dL_length]; exact h1)
    have hdk : (dL L).getD k [] = (L.getD k (0, [])).2 := by simp [dL, List.getD, h1]
    have hek : (eC L)[k]? = some (.int .i64 (L.getD k (0, [])).1) := by simp [eC, List.getD, h1]
    have hDT := HF.out.data HB.out k h1
    have h3a : (L.getD k (0, [])).1 = nx := by rw [← h3]; rfl
    have h3b : (L.getD k (0, [])).2 = d := by rw [← h3]; rfl
    rw [hdk, h3b] at hcts
    rw [hek, h3a] at hce
    rw [h3b, HX.out] at hDT
    replace h4 : Own W W5.heap.size v d := h4
    have hdl : d.length ≤ 140737488355328 := by have := hDT.2; omega
    obtain ⟨au, cu, eu, su⟩ := hcts.sl' hDT.1 hdl
    obtain ⟨av, cv, ev, sv⟩ := h4.sl' hDT.1 hdl
    have hvk : vs[k]? = some (.slice au d.length cu) := by
      have hlk : k < vs.length := by rw [ZF.tl.cts.1, dL_length]; exact h1
      rw [← eu]
      simp [List.getD, hlk]
    rw [hvk] at hco
    subst ev
    have x1 := tinI.at ge L.length ce k (k : Int) rfl h1
    have x2 := tinB.at go L.length co k (k : Int) rfl h1
    have hv1 : ∀ n, (convert 23 9 (.slice au d.length cu)).run Tryd.prog (W.drewN n) = .ok (.string (str d)) (W.drewN n) := fun n => toStr (su.drewN n)
    have hv2 : ∀ n, (convert 23 9 (.slice av d.length cv)).run Tryd.prog (W.drewN n) = .ok (.string (str d)) (W.drewN n) := fun n => toStr (sv.drewN n)
    have g0 : decide ((L.length : Int) ≤ (k : Int)) = false := by simp; omega
    have g1 : decide ((k : Int) ≥ (L.length : Int)) = false := by simp; omega
    have g2 : decide (L.length ≤ k) = false := by simp; omega
    subst eo ee
    clear hvk hek hdk eu su sv hcts h3 h3a h3b h2 h4 ZF hA hX
    gi_wp2_with fail
    refine wpIn_region_round (.round l) (by kernel_rfl) (by kernel_rfl) (by kernel_rfl) ?_
    repeat (go_big_quiet_step (fail))
    refine wpQuiet_nil ?_
    rintro _ ⟨nq, rfl⟩
    clear g0 g1 g2 x1 x2 hv1 hv2 d3 d5 d6 d12 d13 hce hco
    have bq : Below W.heap.size W (W.drewN nq) := below_drews (Below.refl _ _) nq
    gi_wp2_with fail
    refine ⟨trivial, (calls_round (WideF.round l) (spoil_any (.slice av d.length cv) d W5.heap.size (W.drewN nq) (HO.out.below bq) (by omega))).mono ?_⟩
    rintro _ W6 ⟨rfl, hsp⟩
    have hvB : ∀ j, (Value.slice av d.length cv).ownBlock = some j → W5.heap.size ≤ j := HO.out.lt
    have A6 := hide ((HA.out.on bq).spo hsp hvB hB3 hB12 hB13)
    have KO6 := hide ((keepsO_below bq).trans (KeepsOthers.spo hsp (HO.out.below bq)))
    have KF6 : Hid (KF W5.heap.size (nx, .slice av d.length cv, d) W W6) := hide (KF.trans (KF.drew W nq) (KF.spo hsp hvB h0B))
    clear hsp hvB bq HO HA
    have ZF := HZF.out.on A6.out.bel
    have d3 : W6.cell? ⟨w.heap.size, 0, none⟩ = some (.int .i64 stop) := by rw [ZF.c3.cell]; rfl
    have d12 : W6.cell? ⟨b12, 0, none⟩ = some (.int .i64 0) := by rw [A6.out.c12.cell]; rfl
    have d13 : W6.cell? ⟨b12 + 1, 0, none⟩ = some (.int .i64 (k : Int)) := by rw [A6.out.c13.cell]; rfl
    have f13 := A6.out.c13.free 0
    have hlt3 := HZF.out.c3.lt
    have hl13 := A6.out.l12
    have n3 : w.heap.size ≠ b12 + 1 := by omega
    have n12 : b12 ≠ b12 + 1 := by omega
    have HA7 := hide (A6.out.set (k + 1))
    have KO7 : Hid (KeepsOthers W (W6.setCell ⟨b12 + 1, 0, none⟩ (.int .i64 ((k + 1 : Nat) : Int)))) := hide (KO6.out.trans (KeepsOthers.setCell _ _ _))
    have KF7 : Hid (KF W5.heap.size (nx, .slice av d.length cv, d) W (W6.setCell ⟨b12 + 1, 0, none⟩ (.int .i64 ((k + 1 : Nat) : Int)))) := hide (KF.trans KF6.out (KF.but (But.setCell _ _ _ _) hB13 (by omega)))
    have X7 : Hid ((fun _ => Hid True) (W6.setCell ⟨b12 + 1, 0, none⟩ (.int .i64 ((k + 1 : Nat) : Int)))) := hide (HXX.out)
    have hk1 : (((k + 1 : Nat) : Int)) = (k : Int) + 1 := by omega
    rw [hk1] at HA7 KO7 KF7 X7
    clear ZF A6 KO6 KF6 hlt3 hl13 hk1
    by_cases hst : (k : Int) + 1 = stop
    · rw [hst] at HA7 KO7 KF7 X7
      have HPS : Hid (((pre ++ [(nx, Value.slice av d.length cv, d)]).length : Int) = stop) := hide (by rw [HPL.out]; omega)
      gi_wp2
      all_goals first
        | exact ⟨KO7.out.from _, rfl, by first | rfl | trivial, HPS.out, by rw [HPL.out]; exact HA7.out, X7.out⟩
        | exact ⟨KO7.out.from _, KF7.out, by rw [HPL.out]; exact HA7.out, X7.out⟩
    · gi_wp2
      all_goals exact ⟨KO7.out.from _, KF7.out, by rw [HPL.out]; exact HA7.out, X7.out⟩
  case donea =>
    rintro D ys W hD hS ⟨hA, hX⟩ hK2
    have hyl : ys.length = L.length := by rw [← hS, List.length_map]
    rw [hyl] at hA
    clear hS hyl
    have ZF := HZF.out.on hA.bel
    have d3 : W.cell? ⟨w.heap.size, 0, none⟩ = some (.int .i64 stop) := by rw [ZF.c3.cell]; rfl
    have d5 : W.cell? ⟨b5, 0, none⟩ = some (.slice ao L.length co) := by rw [ZF.c5.cell]; rfl
    have d12 : W.cell? ⟨b12, 0, none⟩ = some (.int .i64 0) := by rw [hA.c12.cell]; rfl
    have d13 : W.cell? ⟨b12 + 1, 0, none⟩ = some (.int .i64 (L.length : Int)) := by rw [hA.c13.cell]; rfl
    have FB := hide hA.bel
    have HK1 := hide hK2
    have HDW := hide (Nat.le_trans hB3 hD)
    clear hA hX hK2 ZF A5 X5 HSQ hB12 hB13 hB3 h0B
    gi_wp2_with fail
    rw [roundsIn_succ]
    clear d3 d5 d12 d13
    try clear hst hpL' hpL2
    gi_wp2_with fail
    have C12 : Blk ((W.alloc (.cells #[.int .i64 1] 3)).alloc (.cells #[.int .i64 0] 3)) W.heap.size 3 [.int .i64 1] := (Blk.made W 3 [.int .i64 1]).below ((Below.refl _ _).alloc (Nat.le_refl _) _) (Blk.made W 3 [.int .i64 1]).lt
    have C13 : Blk ((W.alloc (.cells #[.int .i64 1] 3)).alloc (.cells #[.int .i64 0] 3)) (W.heap.size + 1) 3 [.int .i64 ((0 : Nat) : Int)] := by
      have := Blk.made (W.alloc (.cells #[.int .i64 1] 3)) 3 [.int .i64 0]
      rwa [World.size_alloc] at this
    have hbc : Below W.heap.size W ((W.alloc (.cells #[.int .i64 1] 3)).alloc (.cells #[.int .i64 0] 3)) := ((Below.refl _ _).alloc (Nat.le_refl _) _).alloc (by simp) _
    have hsb := FB.out.size
    have A4 : Hid (AS W3 ((W.alloc (.cells #[.int .i64 1] 3)).alloc (.cells #[.int .i64 0] 3)) W.heap.size (W.heap.size + 1) 1 0) := hide ⟨on_below FB.out hbc, C12, C13, hsb, by omega, by omega⟩
    have X4 : Hid ((fun v => v.heap[D]? = some (.deferred (some []))) ((W.alloc (.cells #[.int .i64 1] 3)).alloc (.cells #[.int .i64 0] 3))) := hide ((hbc.block D (Array.getElem?_eq_some_iff.1 HK1.out).1).trans HK1.out)
    clear C12 C13 hbc
    revert A4 X4
    generalize (W.alloc (.cells #[.int .i64 1] 3)).alloc (.cells #[.int .i64 0] 3) = W4
    obtain ⟨b12, hb12⟩ : ∃ b12, W.heap.size = b12 := ⟨_, rfl⟩
    rw [hb12]
    intro A4 X4
    clear hb12 hsb
    refine ⟨trivial, (callsIn_wide.2 (all_any _ _ _ _)).mono ?_⟩
    rintro _ W5 ⟨b1, rfl, hbx, hlx, hbel5⟩
    have A5 : Hid (AS W3 W5 b12 (b12 + 1) 1 0) := hide ⟨on_below A4.out.bel hbel5, A4.out.c12.on hbel5, A4.out.c13.on hbel5, A4.out.l12, A4.out.l13, A4.out.n⟩
    have X5 : Hid ((fun v => v.heap[D]? = some (.deferred (some []))) W5) := hide ((hbel5.block D (Array.getElem?_eq_some_iff.1 X4.out).1).trans X4.out)
    have hB12 : b12 < W5.heap.size := A5.out.c12.lt
    have hB13 : b12 + 1 < W5.heap.size := A5.out.c13.lt
    have hB3 : W3.heap.size ≤ W5.heap.size := A5.out.bel.size
    have h0B : 0 < W5.heap.size := by omega
    have HSQ := hide (all_seq a len cap xs L P E b1 W5 (HSB.out _ A5.out.bel) hl6 HF.out (HZF.out.kt.on A5.out.bel) hbx)
    clear A4 X4 hbx hlx hbel5
    gi_wp2_with fail
    refine rangeR rfl (by decide) (gf := 30) (lb := #[.pointer (some ⟨b1, 0, none⟩)]) rfl trivial (enters_of Tryd.func30 (by kernel_rfl) rfl)
      HSQ.out KF.trans (fun x W l o o' hl h hc => KF.book (by omega) x W l o o' hl h hc) (fun _ => rfl) (fun pre x => rf_own _ _ _ pre x)
      (fun pre W => AS W3 W b12 (b12 + 1) 1 pre.length ∧ (fun v => v.heap[D]? = some (.deferred (some []))) W) (IX W3 (fun v => v.heap[D]? = some (.deferred (some []))) b12 (b12 + 1) stop 1)
      (fun _ A C row h hg hr => ⟨h.1.kept hB3 hg hr, mark_kept h.2 hg hr (Array.getElem?_eq_some_iff.1 X5.out).1⟩)
      (fun c _ A C row h hg hr => ⟨h.1, h.2.1, h.2.2.1, h.2.2.2.1.kept hB3 hg hr, mark_kept h.2.2.2.2 hg hr (Array.getElem?_eq_some_iff.1 X5.out).1⟩)
      ⟨A5.out, X5.out⟩ ?actb ?assignb ?bodyb ?doneb ?stopb
    case assignb =>
      rintro l x W K hK
      have hsem := Oper.semAt_some
      simp only [encF]
      gi_wp2
      exact hK
    case bodyb =>
      rintro l pre ⟨nx, v, d⟩ W ⟨hA, hX⟩ ⟨h1, h2, h3, h4⟩
      have hsem := Oper.semAt_some
      obtain ⟨k, HKK⟩ : ∃ k, Hid (pre.length = k) := ⟨_, hide rfl⟩
      rw [HKK.out] at hA h1 h3
      have HPL : Hid ((pre ++ [(nx, v, d)]).length = k + 1) := hide (by rw [List.length_append, HKK.out]; rfl)
      have HA := hide hA
      have HXX := hide hX
      have HO : Hid (Own W W5.heap.size v d) := hide h4
      have ZF := HZF.out.on hA.bel
      have d3 : W.cell? ⟨w.heap.size, 0, none⟩ = some (.int .i64 stop) := by rw [ZF.c3.cell]; rfl
      have d5 : W.cell? ⟨b5, 0, none⟩ = some (.slice ao L.length co) := by rw [ZF.c5.cell]; rfl
      have d6 : W.cell? ⟨b6, 0, none⟩ = some (.slice ae L.length ce) := by rw [ZF.c6.cell]; rfl
      have d12 : W.cell? ⟨b12, 0, none⟩ = some (.int .i64 1) := by rw [hA.c12.cell]; rfl
      have d13 : W.cell? ⟨b12 + 1, 0, none⟩ = some (.int .i64 (k : Int)) := by rw [hA.c13.cell]; rfl
      obtain ⟨go, eo, _, hco⟩ := ZF.tl.out.cell k (by rw [ZF.tl.cts.1, dL_length]; exact h1)
      obtain ⟨ge, ee, _, hce⟩ := ZF.tl.ends.cell k (by rw [eC_length]; exact h1)
      have hcts := ZF.tl.cts.2 k (by rw [dL_length]; exact h1)
      have hdk : (dL L).getD k [] = (L.getD k (0, [])).2 := by simp [dL, List.getD, h1]
      have hek : (eC L)[k]? = some (.int .i64 (L.getD k (0, [])).1) := by simp [eC, List.getD, h1]
      have hDT := HF.out.data HB.out k h1
      have h3a : (L.getD k (0, [])).1 = nx := by rw [← h3]; rfl
      have h3b : (L.getD k (0, [])).2 = d := by rw [← h3]; rfl
      rw [hdk, h3b] at hcts
      rw [hek, h3a] at hce
      rw [h3b, HX.out] at hDT
      replace h4 : Own W W5.heap.size v d := h4
      have hdl : d.length ≤ 140737488355328 := by have := hDT.2; omega
      obtain ⟨au, cu, eu, su⟩ := hcts.sl' hDT.1 hdl
      obtain ⟨av, cv, ev, sv⟩ := h4.sl' hDT.1 hdl
      have hvk : vs[k]? = some (.slice au d.length cu) := by
        have hlk : k < vs.length := by rw [ZF.tl.cts.1, dL_length]; exact h1
        rw [← eu]
        simp [List.getD, hlk]
      rw [hvk] at hco
      subst ev
      have x1 := tinI.at ge L.length ce k (k : Int) rfl h1
      have x2 := tinB.at go L.length co k (k : Int) rfl h1
      have hv1 : ∀ n, (convert 23 9 (.slice au d.length cu)).run Tryd.prog (W.drewN n) = .ok (.string (str d)) (W.drewN n) := fun n => toStr (su.drewN n)
      have hv2 : ∀ n, (convert 23 9 (.slice av d.length cv)).run Tryd.prog (W.drewN n) = .ok (.string (str d)) (W.drewN n) := fun n => toStr (sv.drewN n)
      have g0 : decide ((L.length : Int) ≤ (k : Int)) = false := by simp; omega
      have g1 : decide ((k : Int) ≥ (L.length : Int)) = false := by simp; omega
      have g2 : decide (L.length ≤ k) = false := by simp; omega
      subst eo ee
      clear hvk hek hdk eu su sv hcts h3 h3a h3b h2 h4 ZF hA hX
      gi_wp2_with fail
      refine wpIn_region_round (.round l) (by kernel_rfl) (by kernel_rfl) (by kernel_rfl) ?_
      repeat (go_big_quiet_step (fail))
      refine wpQuiet_nil ?_
      rintro _ ⟨nq, rfl⟩
      clear g0 g1 g2 x1 x2 hv1 hv2 d3 d5 d6 d12 d13 hce hco
      have bq : Below W.heap.size W (W.drewN nq) := below_drews (Below.refl _ _) nq
      gi_wp2_with fail
      refine ⟨trivial, (calls_round (WideF.round l) (spoil_any (.slice av d.length cv) d W5.heap.size (W.drewN nq) (HO.out.below bq) (by omega))).mono ?_⟩
      rintro _ W6 ⟨rfl, hsp⟩
      have hvB : ∀ j, (Value.slice av d.length cv).ownBlock = some j → W5.heap.size ≤ j := HO.out.lt
      have A6 := hide ((HA.out.on bq).spo hsp hvB hB3 hB12 hB13)
      have KO6 := hide ((keepsO_below bq).trans (KeepsOthers.spo hsp (HO.out.below bq)))
      have KF6 : Hid (KF W5.heap.size (nx, .slice av d.length cv, d) W W6) := hide (KF.trans (KF.drew W nq) (KF.spo hsp hvB h0B))
      clear hsp hvB bq HO HA
      have ZF := HZF.out.on A6.out.bel
      have d3 : W6.cell? ⟨w.heap.size, 0, none⟩ = some (.int .i64 stop) := by rw [ZF.c3.cell]; rfl
      have d12 : W6.cell? ⟨b12, 0, none⟩ = some (.int .i64 1) := by rw [A6.out.c12.cell]; rfl
      have d13 : W6.cell? ⟨b12 + 1, 0, none⟩ = some (.int .i64 (k : Int)) := by rw [A6.out.c13.cell]; rfl
      have f13 := A6.out.c13.free 0
      have hlt3 := HZF.out.c3.lt
      have hl13 := A6.out.l12
      have n3 : w.heap.size ≠ b12 + 1 := by omega
      have n12 : b12 ≠ b12 + 1 := by omega
      have HA7 := hide (A6.out.set (k + 1))
      have KO7 : Hid (KeepsOthers W (W6.setCell ⟨b12 + 1, 0, none⟩ (.int .i64 ((k + 1 : Nat) : Int)))) := hide (KO6.out.trans (KeepsOthers.setCell _ _ _))
      have KF7 : Hid (KF W5.heap.size (nx, .slice av d.length cv, d) W (W6.setCell ⟨b12 + 1, 0, none⟩ (.int .i64 ((k + 1 : Nat) : Int)))) := hide (KF.trans KF6.out (KF.but (But.setCell _ _ _ _) hB13 (by omega)))
      have X7 : Hid ((fun v => v.heap[D]? = some (.deferred (some []))) (W6.setCell ⟨b12 + 1, 0, none⟩ (.int .i64 ((k + 1 : Nat) : Int)))) := hide ((KO6.out.trans (KeepsOthers.setCell _ _ _)).same D _ HXX.out rfl)
      have hk1 : (((k + 1 : Nat) : Int)) = (k : Int) + 1 := by omega
      rw [hk1] at HA7 KO7 KF7 X7
      clear ZF A6 KO6 KF6 hlt3 hl13 hk1
      by_cases hst : (k : Int) + 1 = stop
      · rw [hst] at HA7 KO7 KF7 X7
        have HPS : Hid (((pre ++ [(nx, Value.slice av d.length cv, d)]).length : Int) = stop) := hide (by rw [HPL.out]; omega)
        gi_wp2
        all_goals first
          | exact ⟨KO7.out.from _, rfl, by first | rfl | trivial, HPS.out, by rw [HPL.out]; exact HA7.out, X7.out⟩
          | exact ⟨KO7.out.from _, KF7.out, by rw [HPL.out]; exact HA7.out, X7.out⟩
      · gi_wp2
        all_goals exact ⟨KO7.out.from _, KF7.out, by rw [HPL.out]; exact HA7.out, X7.out⟩
    case stopb =>
      rintro D2 c pre W9 hD2 hSp ⟨_, h, _⟩ hK3
      exact absurd h (by decide)
    case doneb =>
      rintro D2 ys2 W9 hD2 hS2 ⟨hA, hX⟩ hK3
      have hyl2 : ys2.length = L.length := by rw [← hS2, List.length_map]
      rw [hyl2] at hA
      have ZF := HZF.out.on hA.bel
      have d3 : W9.cell? ⟨w.heap.size, 0, none⟩ = some (.int .i64 stop) := by rw [ZF.c3.cell]; rfl
      have d5 : W9.cell? ⟨b5, 0, none⟩ = some (.slice ao L.length co) := by rw [ZF.c5.cell]; rfl
      have d12 : W9.cell? ⟨b12, 0, none⟩ = some (.int .i64 1) := by rw [hA.c12.cell]; rfl
      have d13 : W9.cell? ⟨b12 + 1, 0, none⟩ = some (.int .i64 (L.length : Int)) := by rw [hA.c13.cell]; rfl
      gi_wp2_with fail
      rw [roundsIn_succ]
      have hb10 : Below W9.heap.size W9 (W9.alloc (.cells #[.int .i64 2] 3)) := (Below.refl _ _).alloc (Nat.le_refl _) _
      have Z10 := hide (ZF.on hb10)
      have q12 : Blk (W9.alloc (.cells #[.int .i64 2] 3)) W9.heap.size 3 [.int .i64 2] := Blk.made W9 _ _
      have qD : (W9.alloc (.cells #[.int .i64 2] 3)).heap[D]? = some (.deferred (some [])) := (hb10.block D (Array.getElem?_eq_some_iff.1 hX).1).trans hX
      have qD2 : (W9.alloc (.cells #[.int .i64 2] 3)).heap[D2]? = some (.deferred (some [])) := (hb10.block D2 (Array.getElem?_eq_some_iff.1 hK3).1).trans hK3
      have HDX := hide (Array.getElem?_eq_some_iff.1 X5.out).1
      clear d3 d5 d12 d13 hA hX hK3 hb10 ZF hS2 hyl2 A5 X5 HSQ hB12 hB13 hB3 h0B
      revert Z10 q12 qD qD2
      generalize W9.alloc (.cells #[.int .i64 2] 3) = W10
      generalize W9.heap.size = b14
      intro Z10 q12 qD qD2
      have h12 : W10.cell? ⟨b14, 0, none⟩ = some (.int .i64 2) := by rw [q12.cell]; rfl
      have QD := hide qD
      have QD2 := hide qD2
      clear q12 qD qD2
      gi_wp2_with fail
      refine ⟨trivial, (callsIn_wide.2 (namesL _)).mono ?_⟩
      rintro _ W10 ⟨rfl, rfl⟩
      have h4 : W10.cell? ⟨b4, 0, none⟩ = some (.bool false) := by rw [Z10.out.c4.cell]; rfl
      have f4 := Z10.out.c4.free 0
      clear h12
      gi_wp2_with fail
      have k1 := (KeepsOthers.setCell W10 ⟨b4, 0, none⟩ (.bool true)).same D _ QD.out rfl
      have k2 := (KeepsOthers.setCell W10 ⟨b4, 0, none⟩ (.bool true)).same D2 _ QD2.out rfl
      have hDD : D ≠ D2 := by have := HDX.out; omega
      have hwD : w.heap.size ≤ D := Nat.le_trans HZF.out.tl.bel.size HDW.out
      have hwD2 : w.heap.size ≤ D2 := by have := HDX.out; omega
      have k1' : ((W10.setCell ⟨b4, 0, none⟩ (.bool true)).putObj D2 (.deferred none)).heap[D]? = some (.deferred (some [])) := by
        rw [World.putObj_heap_other hDD]
        exact k1
      have hcA := World.cell?_setCell_same' W10 ⟨b4, 0, none⟩ (.bool true) (by rw [h4]; rfl)
      have hcB := Go.cell_kept hcA (grownBy_putObj' _ D2 (.deferred none)) (fun r e => by cases e; exact ⟨_, k2, rfl⟩)
      have hcC := Go.cell_kept hcB (grownBy_putObj' _ D (.deferred none)) (fun r e => by cases e; exact ⟨_, k1', rfl⟩)
      have BA := (Z10.out.tl.bel.setCell (p := ⟨b4, 0, none⟩) Z10.out.l4 (.bool true)).trans (belowK_b (w := w) (Nat.le_refl _) _ D2 _ (.deferred none) hwD2 k2 rfl rfl)
      have BC := BA.trans (belowK_b (w := w) (Nat.le_refl _) _ D _ (.deferred none) hwD k1' rfl rfl)
      refine ⟨by simp, .inl ⟨_, _, rfl, run_takeDeferred k2, ?_⟩⟩
      refine ⟨by simp, .inl ⟨_, _, rfl, run_takeDeferred k1', ?_⟩⟩
      refine ⟨.bool true, ?_, rfl, BC⟩
      simp [results, Tryd.f6, go_sem, hcC]
  case stopa =>
    rintro D c pre W hD ⟨n, hn, hSp⟩ ⟨rfl, _, hst, hA, hX⟩ hK2
    obtain ⟨pl, hpl⟩ : ∃ pl, pre.length = pl := ⟨_, rfl⟩
    have hple : pl ≤ L.length := by
      have := congrArg List.length hSp
      rw [List.length_map, List.length_take] at this
      omega
    rw [hpl] at hst hA
    clear hSp hpl
    by_cases hpL : pl = L.length
    · subst hpL
      clear hst
      have ZF := HZF.out.on hA.bel
      have d3 : W.cell? ⟨w.heap.size, 0, none⟩ = some (.int .i64 stop) := by rw [ZF.c3.cell]; rfl
      have d5 : W.cell? ⟨b5, 0, none⟩ = some (.slice ao L.length co) := by rw [ZF.c5.cell]; rfl
      have d12 : W.cell? ⟨b12, 0, none⟩ = some (.int .i64 0) := by rw [hA.c12.cell]; rfl
      have d13 : W.cell? ⟨b12 + 1, 0, none⟩ = some (.int .i64 (L.length : Int)) := by rw [hA.c13.cell]; rfl
      have FB := hide hA.bel
      have HK1 := hide hK2
      have HDW := hide (Nat.le_trans hB3 hD)
      clear hA hX hK2 ZF A5 X5 HSQ hB12 hB13 hB3 h0B
      gi_wp2_with fail
      rw [roundsIn_succ]
      clear d3 d5 d12 d13
      try clear hst hpL' hpL2
      gi_wp2_with fail
      have C12 : Blk ((W.alloc (.cells #[.int .i64 1] 3)).alloc (.cells #[.int .i64 0] 3)) W.heap.size 3 [.int .i64 1] := (Blk.made W 3 [.int .i64 1]).below ((Below.refl _ _).alloc (Nat.le_refl _) _) (Blk.made W 3 [.int .i64 1]).lt
      have C13 : Blk ((W.alloc (.cells #[.int .i64 1] 3)).alloc (.cells #[.int .i64 0] 3)) (W.heap.size + 1) 3 [.int .i64 ((0 : Nat) : Int)] := by
        have := Blk.made (W.alloc (.cells #[.int .i64 1] 3)) 3 [.int .i64 0]
        rwa [World.size_alloc] at this
      have hbc : Below W.heap.size W ((W.alloc (.cells #[.int .i64 1] 3)).alloc (.cells #[.int .i64 0] 3)) := ((Below.refl _ _).alloc (Nat.le_refl _) _).alloc (by simp) _
      have hsb := FB.out.size
      have A4 : Hid (AS W3 ((W.alloc (.cells #[.int .i64 1] 3)).alloc (.cells #[.int .i64 0] 3)) W.heap.size (W.heap.size + 1) 1 0) := hide ⟨on_below FB.out hbc, C12, C13, hsb, by omega, by omega⟩
      have X4 : Hid ((fun v => v.heap[D]? = some (.deferred (some []))) ((W.alloc (.cells #[.int .i64 1] 3)).alloc (.cells #[.int .i64 0] 3))) := hide ((hbc.block D (Array.getElem?_eq_some_iff.1 HK1.out).1).trans HK1.out)
      clear C12 C13 hbc
      revert A4 X4
      generalize (W.alloc (.cells #[.int .i64 1] 3)).alloc (.cells #[.int .i64 0] 3) = W4
      obtain ⟨b12, hb12⟩ : ∃ b12, W.heap.size = b12 := ⟨_, rfl⟩
      rw [hb12]
      intro A4 X4
      clear hb12 hsb
      refine ⟨trivial, (callsIn_wide.2 (all_any _ _ _ _)).mono ?_⟩
      rintro _ W5 ⟨b1, rfl, hbx, hlx, hbel5⟩
      have A5 : Hid (AS W3 W5 b12 (b12 + 1) 1 0) := hide ⟨on_below A4.out.bel hbel5, A4.out.c12.on hbel5, A4.out.c13.on hbel5, A4.out.l12, A4.out.l13, A4.out.n⟩
      have X5 : Hid ((fun v => v.heap[D]? = some (.deferred (some []))) W5) := hide ((hbel5.block D (Array.getElem?_eq_some_iff.1 X4.out).1).trans X4.out)
      have hB12 : b12 < W5.heap.size := A5.out.c12.lt
      have hB13 : b12 + 1 < W5.heap.size := A5.out.c13.lt
      have hB3 : W3.heap.size ≤ W5.heap.size := A5.out.bel.size
      have h0B : 0 < W5.heap.size := by omega
      have HSQ := hide (all_seq a len cap xs L P E b1 W5 (HSB.out _ A5.out.bel) hl6 HF.out (HZF.out.kt.on A5.out.bel) hbx)
      clear A4 X4 hbx hlx hbel5
      gi_wp2_with fail
      refine rangeR rfl (by decide) (gf := 30) (lb := #[.pointer (some ⟨b1, 0, none⟩)]) rfl trivial (enters_of Tryd.func30 (by kernel_rfl) rfl)
        HSQ.out KF.trans (fun x W l o o' hl h hc => KF.book (by omega) x W l o o' hl h hc) (fun _ => rfl) (fun pre x => rf_own _ _ _ pre x)
        (fun pre W => AS W3 W b12 (b12 + 1) 1 pre.length ∧ (fun v => v.heap[D]? = some (.deferred (some []))) W) (IX W3 (fun v => v.heap[D]? = some (.deferred (some []))) b12 (b12 + 1) stop 1)
        (fun _ A C row h hg hr => ⟨h.1.kept hB3 hg hr, mark_kept h.2 hg hr (Array.getElem?_eq_some_iff.1 X5.out).1⟩)
        (fun c _ A C row h hg hr => ⟨h.1, h.2.1, h.2.2.1, h.2.2.2.1.kept hB3 hg hr, mark_kept h.2.2.2.2 hg hr (Array.getElem?_eq_some_iff.1 X5.out).1⟩)
        ⟨A5.out, X5.out⟩ ?actc ?assignc ?bodyc ?donec ?stopc
      case assignc =>
        rintro l x W K hK
        have hsem := Oper.semAt_some
        simp only [encF]
        gi_wp2
        exact hK
      case bodyc =>
        rintro l pre ⟨nx, v, d⟩ W ⟨hA, hX⟩ ⟨h1, h2, h3, h4⟩
        have hsem := Oper.semAt_some
        obtain ⟨k, HKK⟩ : ∃ k, Hid (pre.length = k) := ⟨_, hide rfl⟩
        rw [HKK.out] at hA h1 h3
        have HPL : Hid ((pre ++ [(nx, v, d)]).length = k + 1) := hide (by rw [List.length_append, HKK.out]; rfl)
        have HA := hide hA
        have HXX := hide hX
        have HO : Hid (Own W W5.heap.size v d) := hide h4
        have ZF := HZF.out.on hA.bel
        have d3 : W.cell? ⟨w.heap.size, 0, none⟩ = some (.int .i64 stop) := by rw [ZF.c3.cell]; rfl
        have d5 : W.cell? ⟨b5, 0, none⟩ = some (.slice ao L.length co) := by rw [ZF.c5.cell]; rfl
        have d6 : W.cell? ⟨b6, 0, none⟩ = some (.slice ae L.length ce) := by rw [ZF.c6.cell]; rfl
        have d12 : W.cell? ⟨b12, 0, none⟩ = some (.int .i64 1) := by rw [hA.c12.cell]; rfl
        have d13 : W.cell? ⟨b12 + 1, 0, none⟩ = some (.int .i64 (k : Int)) := by rw [hA.c13.cell]; rfl
        obtain ⟨go, eo, _, hco⟩ := ZF.tl.out.cell k (by rw [ZF.tl.cts.1, dL_length]; exact h1)
        obtain ⟨ge, ee, _, hce⟩ := ZF.tl.ends.cell k (by rw [eC_length]; exact h1)
        have hcts := ZF.tl.cts.2 k (by rw [dL_length]; exact h1)
        have hdk : (dL L).getD k [] = (L.getD k (0, [])).2 := by simp [dL, List.getD, h1]
        have hek : (eC L)[k]? = some (.int .i64 (L.getD k (0, [])).1) := by simp [eC, List.getD, h1]
        have hDT := HF.out.data HB.out k h1
        have h3a : (L.getD k (0, [])).1 = nx := by rw [← h3]; rfl
        have h3b : (L.getD k (0, [])).2 = d := by rw [← h3]; rfl
        rw [hdk, h3b] at hcts
        rw [hek, h3a] at hce
        rw [h3b, HX.out] at hDT
        replace h4 : Own W W5.heap.size v d := h4
        have hdl : d.length ≤ 140737488355328 := by have := hDT.2; omega
        obtain ⟨au, cu, eu, su⟩ := hcts.sl' hDT.1 hdl
        obtain ⟨av, cv, ev, sv⟩ := h4.sl' hDT.1 hdl
        have hvk : vs[k]? = some (.slice au d.length cu) := by
          have hlk : k < vs.length := by rw [ZF.tl.cts.1, dL_length]; exact h1
          rw [← eu]
          simp [List.getD, hlk]
        rw [hvk] at hco
        subst ev
        have x1 := tinI.at ge L.length ce k (k : Int) rfl h1
        have x2 := tinB.at go L.length co k (k : Int) rfl h1
        have hv1 : ∀ n, (convert 23 9 (.slice au d.length cu)).run Tryd.prog (W.drewN n) = .ok (.string (str d)) (W.drewN n) := fun n => toStr (su.drewN n)
        have hv2 : ∀ n, (convert 23 9 (.slice av d.length cv)).run Tryd.prog (W.drewN n) = .ok (.string (str d)) (W.drewN n) := fun n => toStr (sv.drewN n)
        have g0 : decide ((L.length : Int) ≤ (k : Int)) = false := by simp; omega
        have g1 : decide ((k : Int) ≥ (L.length : Int)) = false := by simp; omega
        have g2 : decide (L.length ≤ k) = false := by simp; omega
        subst eo ee
        clear hvk hek hdk eu su sv hcts h3 h3a h3b h2 h4 ZF hA hX
        gi_wp2_with fail
        refine wpIn_region_round (.round l) (by kernel_rfl) (by kernel_rfl) (by kernel_rfl) ?_
        repeat (go_big_quiet_step (fail))
        refine wpQuiet_nil ?_
        rintro _ ⟨nq, rfl⟩
        clear g0 g1 g2 x1 x2 hv1 hv2 d3 d5 d6 d12 d13 hce hco
        have bq : Below W.heap.size W (W.drewN nq) := below_drews (Below.refl _ _) nq
        gi_wp2_with fail
        refine ⟨trivial, (calls_round (WideF.round l) (spoil_any (.slice av d.length cv) d W5.heap.size (W.drewN nq) (HO.out.below bq) (by omega))).mono ?_⟩
        rintro _ W6 ⟨rfl, hsp⟩
        have hvB : ∀ j, (Value.slice av d.length cv).ownBlock = some j → W5.heap.size ≤ j := HO.out.lt
        have A6 := hide ((HA.out.on bq).spo hsp hvB hB3 hB12 hB13)
        have KO6 := hide ((keepsO_below bq).trans (KeepsOthers.spo hsp (HO.out.below bq)))
        have KF6 : Hid (KF W5.heap.size (nx, .slice av d.length cv, d) W W6) := hide (KF.trans (KF.drew W nq) (KF.spo hsp hvB h0B))
        clear hsp hvB bq HO HA
        have ZF := HZF.out.on A6.out.bel
        have d3 : W6.cell? ⟨w.heap.size, 0, none⟩ = some (.int .i64 stop) := by rw [ZF.c3.cell]; rfl
        have d12 : W6.cell? ⟨b12, 0, none⟩ = some (.int .i64 1) := by rw [A6.out.c12.cell]; rfl
        have d13 : W6.cell? ⟨b12 + 1, 0, none⟩ = some (.int .i64 (k : Int)) := by rw [A6.out.c13.cell]; rfl
        have f13 := A6.out.c13.free 0
        have hlt3 := HZF.out.c3.lt
        have hl13 := A6.out.l12
        have n3 : w.heap.size ≠ b12 + 1 := by omega
        have n12 : b12 ≠ b12 + 1 := by omega
        have HA7 := hide (A6.out.set (k + 1))
        have KO7 : Hid (KeepsOthers W (W6.setCell ⟨b12 + 1, 0, none⟩ (.int .i64 ((k + 1 : Nat) : Int)))) := hide (KO6.out.trans (KeepsOthers.setCell _ _ _))
        have KF7 : Hid (KF W5.heap.size (nx, .slice av d.length cv, d) W (W6.setCell ⟨b12 + 1, 0, none⟩ (.int .i64 ((k + 1 : Nat) : Int)))) := hide (KF.trans KF6.out (KF.but (But.setCell _ _ _ _) hB13 (by omega)))
        have X7 : Hid ((fun v => v.heap[D]? = some (.deferred (some []))) (W6.setCell ⟨b12 + 1, 0, none⟩ (.int .i64 ((k + 1 : Nat) : Int)))) := hide ((KO6.out.trans (KeepsOthers.setCell _ _ _)).same D _ HXX.out rfl)
        have hk1 : (((k + 1 : Nat) : Int)) = (k : Int) + 1 := by omega
        rw [hk1] at HA7 KO7 KF7 X7
        clear ZF A6 KO6 KF6 hlt3 hl13 hk1
        by_cases hst : (k : Int) + 1 = stop
        · rw [hst] at HA7 KO7 KF7 X7
          have HPS : Hid (((pre ++ [(nx, Value.slice av d.length cv, d)]).length : Int) = stop) := hide (by rw [HPL.out]; omega)
          gi_wp2
          all_goals first
            | exact ⟨KO7.out.from _, rfl, by first | rfl | trivial, HPS.out, by rw [HPL.out]; exact HA7.out, X7.out⟩
            | exact ⟨KO7.out.from _, KF7.out, by rw [HPL.out]; exact HA7.out, X7.out⟩
        · gi_wp2
          all_goals exact ⟨KO7.out.from _, KF7.out, by rw [HPL.out]; exact HA7.out, X7.out⟩
      case stopc =>
        rintro D2 c pre W9 hD2 hSp ⟨_, h, _⟩ hK3
        exact absurd h (by decide)
      case donec =>
        rintro D2 ys2 W9 hD2 hS2 ⟨hA, hX⟩ hK3
        have hyl2 : ys2.length = L.length := by rw [← hS2, List.length_map]
        rw [hyl2] at hA
        have ZF := HZF.out.on hA.bel
        have d3 : W9.cell? ⟨w.heap.size, 0, none⟩ = some (.int .i64 stop) := by rw [ZF.c3.cell]; rfl
        have d5 : W9.cell? ⟨b5, 0, none⟩ = some (.slice ao L.length co) := by rw [ZF.c5.cell]; rfl
        have d12 : W9.cell? ⟨b12, 0, none⟩ = some (.int .i64 1) := by rw [hA.c12.cell]; rfl
        have d13 : W9.cell? ⟨b12 + 1, 0, none⟩ = some (.int .i64 (L.length : Int)) := by rw [hA.c13.cell]; rfl
        gi_wp2_with fail
        rw [roundsIn_succ]
        have hb10 : Below W9.heap.size W9 (W9.alloc (.cells #[.int .i64 2] 3)) := (Below.refl _ _).alloc (Nat.le_refl _) _
        have Z10 := hide (ZF.on hb10)
        have q12 : Blk (W9.alloc (.cells #[.int .i64 2] 3)) W9.heap.size 3 [.int .i64 2] := Blk.made W9 _ _
        have qD : (W9.alloc (.cells #[.int .i64 2] 3)).heap[D]? = some (.deferred (some [])) := (hb10.block D (Array.getElem?_eq_some_iff.1 hX).1).trans hX
        have qD2 : (W9.alloc (.cells #[.int .i64 2] 3)).heap[D2]? = some (.deferred (some [])) := (hb10.block D2 (Array.getElem?_eq_some_iff.1 hK3).1).trans hK3
        have HDX := hide (Array.getElem?_eq_some_iff.1 X5.out).1
        clear d3 d5 d12 d13 hA hX hK3 hb10 ZF hS2 hyl2 A5 X5 HSQ hB12 hB13 hB3 h0B
        revert Z10 q12 qD qD2
        generalize W9.alloc (.cells #[.int .i64 2] 3) = W10
        generalize W9.heap.size = b14
        intro Z10 q12 qD qD2
        have h12 : W10.cell? ⟨b14, 0, none⟩ = some (.int .i64 2) := by rw [q12.cell]; rfl
        have QD := hide qD
        have QD2 := hide qD2
        clear q12 qD qD2
        gi_wp2_with fail
        refine ⟨trivial, (callsIn_wide.2 (namesL _)).mono ?_⟩
        rintro _ W10 ⟨rfl, rfl⟩
        have h4 : W10.cell? ⟨b4, 0, none⟩ = some (.bool false) := by rw [Z10.out.c4.cell]; rfl
        have f4 := Z10.out.c4.free 0
        clear h12
        gi_wp2_with fail
        have k1 := (KeepsOthers.setCell W10 ⟨b4, 0, none⟩ (.bool true)).same D _ QD.out rfl
        have k2 := (KeepsOthers.setCell W10 ⟨b4, 0, none⟩ (.bool true)).same D2 _ QD2.out rfl
        have hDD : D ≠ D2 := by have := HDX.out; omega
        have hwD : w.heap.size ≤ D := Nat.le_trans HZF.out.tl.bel.size HDW.out
        have hwD2 : w.heap.size ≤ D2 := by have := HDX.out; omega
        have k1' : ((W10.setCell ⟨b4, 0, none⟩ (.bool true)).putObj D2 (.deferred none)).heap[D]? = some (.deferred (some [])) := by
          rw [World.putObj_heap_other hDD]
          exact k1
        have hcA := World.cell?_setCell_same' W10 ⟨b4, 0, none⟩ (.bool true) (by rw [h4]; rfl)
        have hcB := Go.cell_kept hcA (grownBy_putObj' _ D2 (.deferred none)) (fun r e => by cases e; exact ⟨_, k2, rfl⟩)
        have hcC := Go.cell_kept hcB (grownBy_putObj' _ D (.deferred none)) (fun r e => by cases e; exact ⟨_, k1', rfl⟩)
        have BA := (Z10.out.tl.bel.setCell (p := ⟨b4, 0, none⟩) Z10.out.l4 (.bool true)).trans (belowK_b (w := w) (Nat.le_refl _) _ D2 _ (.deferred none) hwD2 k2 rfl rfl)
        have BC := BA.trans (belowK_b (w := w) (Nat.le_refl _) _ D _ (.deferred none) hwD k1' rfl rfl)
        refine ⟨by simp, .inl ⟨_, _, rfl, run_takeDeferred k2, ?_⟩⟩
        refine ⟨by simp, .inl ⟨_, _, rfl, run_takeDeferred k1', ?_⟩⟩
        refine ⟨.bool true, ?_, rfl, BC⟩
        simp [results, Tryd.f6, go_sem, hcC]
    · have hpL' : ¬ ((pl : Int) = (L.length : Int)) := by omega
      have hpL2 : ((pl : Int) == (L.length : Int)) = false := by rw [beq_eq_false_iff_ne]; exact hpL'
      have ZF := HZF.out.on hA.bel
      have d3 : W.cell? ⟨w.heap.size, 0, none⟩ = some (.int .i64 stop) := by rw [ZF.c3.cell]; rfl
      have d5 : W.cell? ⟨b5, 0, none⟩ = some (.slice ao L.length co) := by rw [ZF.c5.cell]; rfl
      have d12 : W.cell? ⟨b12, 0, none⟩ = some (.int .i64 0) := by rw [hA.c12.cell]; rfl
      have d13 : W.cell? ⟨b12 + 1, 0, none⟩ = some (.int .i64 (pl : Int)) := by rw [hA.c13.cell]; rfl
      have FB := hide hA.bel
      have HK1 := hide hK2
      have HDW := hide (Nat.le_trans hB3 hD)
      clear hA hX hK2 ZF A5 X5 HSQ hB12 hB13 hB3 h0B
      gi_wp2_with fail
      rw [roundsIn_succ]
      clear d3 d5 d12 d13
      try clear hst hpL' hpL2
      gi_wp2_with fail
      have C12 : Blk ((W.alloc (.cells #[.int .i64 1] 3)).alloc (.cells #[.int .i64 0] 3)) W.heap.size 3 [.int .i64 1] := (Blk.made W 3 [.int .i64 1]).below ((Below.refl _ _).alloc (Nat.le_refl _) _) (Blk.made W 3 [.int .i64 1]).lt
      have C13 : Blk ((W.alloc (.cells #[.int .i64 1] 3)).alloc (.cells #[.int .i64 0] 3)) (W.heap.size + 1) 3 [.int .i64 ((0 : Nat) : Int)] := by
        have := Blk.made (W.alloc (.cells #[.int .i64 1] 3)) 3 [.int .i64 0]
        rwa [World.size_alloc] at this
      have hbc : Below W.heap.size W ((W.alloc (.cells #[.int .i64 1] 3)).alloc (.cells #[.int .i64 0] 3)) := ((Below.refl _ _).alloc (Nat.le_refl _) _).alloc (by simp) _
      have hsb := FB.out.size
      have A4 : Hid (AS W3 ((W.alloc (.cells #[.int .i64 1] 3)).alloc (.cells #[.int .i64 0] 3)) W.heap.size (W.heap.size + 1) 1 0) := hide ⟨on_below FB.out hbc, C12, C13, hsb, by omega, by omega⟩
      have X4 : Hid ((fun v => v.heap[D]? = some (.deferred (some []))) ((W.alloc (.cells #[.int .i64 1] 3)).alloc (.cells #[.int .i64 0] 3))) := hide ((hbc.block D (Array.getElem?_eq_some_iff.1 HK1.out).1).trans HK1.out)
      clear C12 C13 hbc
      revert A4 X4
      generalize (W.alloc (.cells #[.int .i64 1] 3)).alloc (.cells #[.int .i64 0] 3) = W4
      obtain ⟨b12, hb12⟩ : ∃ b12, W.heap.size = b12 := ⟨_, rfl⟩
      rw [hb12]
      intro A4 X4
      clear hb12 hsb
      refine ⟨trivial, (callsIn_wide.2 (all_any _ _ _ _)).mono ?_⟩
      rintro _ W5 ⟨b1, rfl, hbx, hlx, hbel5⟩
      have A5 : Hid (AS W3 W5 b12 (b12 + 1) 1 0) := hide ⟨on_below A4.out.bel hbel5, A4.out.c12.on hbel5, A4.out.c13.on hbel5, A4.out.l12, A4.out.l13, A4.out.n⟩
      have X5 : Hid ((fun v => v.heap[D]? = some (.deferred (some []))) W5) := hide ((hbel5.block D (Array.getElem?_eq_some_iff.1 X4.out).1).trans X4.out)
      have hB12 : b12 < W5.heap.size := A5.out.c12.lt
      have hB13 : b12 + 1 < W5.heap.size := A5.out.c13.lt
      have hB3 : W3.heap.size ≤ W5.heap.size := A5.out.bel.size
      have h0B : 0 < W5.heap.size := by omega
      have HSQ := hide (all_seq a len cap xs L P E b1 W5 (HSB.out _ A5.out.bel) hl6 HF.out (HZF.out.kt.on A5.out.bel) hbx)
      clear A4 X4 hbx hlx hbel5
      gi_wp2_with fail
      refine rangeR rfl (by decide) (gf := 30) (lb := #[.pointer (some ⟨b1, 0, none⟩)]) rfl trivial (enters_of Tryd.func30 (by kernel_rfl) rfl)
        HSQ.out KF.trans (fun x W l o o' hl h hc => KF.book (by omega) x W l o o' hl h hc) (fun _ => rfl) (fun pre x => rf_own _ _ _ pre x)
        (fun pre W => AS W3 W b12 (b12 + 1) 1 pre.length ∧ (fun v => v.heap[D]? = some (.deferred (some []))) W) (IX W3 (fun v => v.heap[D]? = some (.deferred (some []))) b12 (b12 + 1) stop 1)
        (fun _ A C row h hg hr => ⟨h.1.kept hB3 hg hr, mark_kept h.2 hg hr (Array.getElem?_eq_some_iff.1 X5.out).1⟩)
        (fun c _ A C row h hg hr => ⟨h.1, h.2.1, h.2.2.1, h.2.2.2.1.kept hB3 hg hr, mark_kept h.2.2.2.2 hg hr (Array.getElem?_eq_some_iff.1 X5.out).1⟩)
        ⟨A5.out, X5.out⟩ ?actd ?assignd ?bodyd ?doned ?stopd
      case assignd =>
        rintro l x W K hK
        have hsem := Oper.semAt_some
        simp only [encF]
        gi_wp2
        exact hK
      case bodyd =>
        rintro l pre ⟨nx, v, d⟩ W ⟨hA, hX⟩ ⟨h1, h2, h3, h4⟩
        have hsem := Oper.semAt_some
        obtain ⟨k, HKK⟩ : ∃ k, Hid (pre.length = k) := ⟨_, hide rfl⟩
        rw [HKK.out] at hA h1 h3
        have HPL : Hid ((pre ++ [(nx, v, d)]).length = k + 1) := hide (by rw [List.length_append, HKK.out]; rfl)
        have HA := hide hA
        have HXX := hide hX
        have HO : Hid (Own W W5.heap.size v d) := hide h4
        have ZF := HZF.out.on hA.bel
        have d3 : W.cell? ⟨w.heap.size, 0, none⟩ = some (.int .i64 stop) := by rw [ZF.c3.cell]; rfl
        have d5 : W.cell? ⟨b5, 0, none⟩ = some (.slice ao L.length co) := by rw [ZF.c5.cell]; rfl
        have d6 : W.cell? ⟨b6, 0, none⟩ = some (.slice ae L.length ce) := by rw [ZF.c6.cell]; rfl
        have d12 : W.cell? ⟨b12, 0, none⟩ = some (.int .i64 1) := by rw [hA.c12.cell]; rfl
        have d13 : W.cell? ⟨b12 + 1, 0, none⟩ = some (.int .i64 (k : Int)) := by rw [hA.c13.cell]; rfl
        obtain ⟨go, eo, _, hco⟩ := ZF.tl.out.cell k (by rw [ZF.tl.cts.1, dL_length]; exact h1)
        obtain ⟨ge, ee, _, hce⟩ := ZF.tl.ends.cell k (by rw [eC_length]; exact h1)
        have hcts := ZF.tl.cts.2 k (by rw [dL_length]; exact h1)
        have hdk : (dL L).getD k [] = (L.getD k (0, [])).2 := by simp [dL, List.getD, h1]
        have hek : (eC L)[k]? = some (.int .i64 (L.getD k (0, [])).1) := by simp [eC, List.getD, h1]
        have hDT := HF.out.data HB.out k h1
        have h3a : (L.getD k (0, [])).1 = nx := by rw [← h3]; rfl
        have h3b : (L.getD k (0, [])).2 = d := by rw [← h3]; rfl
        rw [hdk, h3b] at hcts
        rw [hek, h3a] at hce
        rw [h3b, HX.out] at hDT
        replace h4 : Own W W5.heap.size v d := h4
        have hdl : d.length ≤ 140737488355328 := by have := hDT.2; omega
        obtain ⟨au, cu, eu, su⟩ := hcts.sl' hDT.1 hdl
        obtain ⟨av, cv, ev, sv⟩ := h4.sl' hDT.1 hdl
        have hvk : vs[k]? = some (.slice au d.length cu) := by
          have hlk : k < vs.length := by rw [ZF.tl.cts.1, dL_length]; exact h1
          rw [← eu]
          simp [List.getD, hlk]
        rw [hvk] at hco
        subst ev
        have x1 := tinI.at ge L.length ce k (k : Int) rfl h1
        have x2 := tinB.at go L.length co k (k : Int) rfl h1
        have hv1 : ∀ n, (convert 23 9 (.slice au d.length cu)).run Tryd.prog (W.drewN n) = .ok (.string (str d)) (W.drewN n) := fun n => toStr (su.drewN n)
        have hv2 : ∀ n, (convert 23 9 (.slice av d.length cv)).run Tryd.prog (W.drewN n) = .ok (.string (str d)) (W.drewN n) := fun n => toStr (sv.drewN n)
        have g0 : decide ((L.length : Int) ≤ (k : Int)) = false := by simp; omega
        have g1 : decide ((k : Int) ≥ (L.length : Int)) = false := by simp; omega
        have g2 : decide (L.length ≤ k) = false := by simp; omega
        subst eo ee
        clear hvk hek hdk eu su sv hcts h3 h3a h3b h2 h4 ZF hA hX
        gi_wp2_with fail
        refine wpIn_region_round (.round l) (by kernel_rfl) (by kernel_rfl) (by kernel_rfl) ?_
        repeat (go_big_quiet_step (fail))
        refine wpQuiet_nil ?_
        rintro _ ⟨nq, rfl⟩
        clear g0 g1 g2 x1 x2 hv1 hv2 d3 d5 d6 d12 d13 hce hco
        have bq : Below W.heap.size W (W.drewN nq) := below_drews (Below.refl _ _) nq
        gi_wp2_with fail
        refine ⟨trivial, (calls_round (WideF.round l) (spoil_any (.slice av d.length cv) d W5.heap.size (W.drewN nq) (HO.out.below bq) (by omega))).mono ?_⟩
        rintro _ W6 ⟨rfl, hsp⟩
        have hvB : ∀ j, (Value.slice av d.length cv).ownBlock = some j → W5.heap.size ≤ j := HO.out.lt
        have A6 := hide ((HA.out.on bq).spo hsp hvB hB3 hB12 hB13)
        have KO6 := hide ((keepsO_below bq).trans (KeepsOthers.spo hsp (HO.out.below bq)))
        have KF6 : Hid (KF W5.heap.size (nx, .slice av d.length cv, d) W W6) := hide (KF.trans (KF.drew W nq) (KF.spo hsp hvB h0B))
        clear hsp hvB bq HO HA
        have ZF := HZF.out.on A6.out.bel
        have d3 : W6.cell? ⟨w.heap.size, 0, none⟩ = some (.int .i64 stop) := by rw [ZF.c3.cell]; rfl
        have d12 : W6.cell? ⟨b12, 0, none⟩ = some (.int .i64 1) := by rw [A6.out.c12.cell]; rfl
        have d13 : W6.cell? ⟨b12 + 1, 0, none⟩ = some (.int .i64 (k : Int)) := by rw [A6.out.c13.cell]; rfl
        have f13 := A6.out.c13.free 0
        have hlt3 := HZF.out.c3.lt
        have hl13 := A6.out.l12
        have n3 : w.heap.size ≠ b12 + 1 := by omega
        have n12 : b12 ≠ b12 + 1 := by omega
        have HA7 := hide (A6.out.set (k + 1))
        have KO7 : Hid (KeepsOthers W (W6.setCell ⟨b12 + 1, 0, none⟩ (.int .i64 ((k + 1 : Nat) : Int)))) := hide (KO6.out.trans (KeepsOthers.setCell _ _ _))
        have KF7 : Hid (KF W5.heap.size (nx, .slice av d.length cv, d) W (W6.setCell ⟨b12 + 1, 0, none⟩ (.int .i64 ((k + 1 : Nat) : Int)))) := hide (KF.trans KF6.out (KF.but (But.setCell _ _ _ _) hB13 (by omega)))
        have X7 : Hid ((fun v => v.heap[D]? = some (.deferred (some []))) (W6.setCell ⟨b12 + 1, 0, none⟩ (.int .i64 ((k + 1 : Nat) : Int)))) := hide ((KO6.out.trans (KeepsOthers.setCell _ _ _)).same D _ HXX.out rfl)
        have hk1 : (((k + 1 : Nat) : Int)) = (k : Int) + 1 := by omega
        rw [hk1] at HA7 KO7 KF7 X7
        clear ZF A6 KO6 KF6 hlt3 hl13 hk1
        by_cases hst : (k : Int) + 1 = stop
        · rw [hst] at HA7 KO7 KF7 X7
          have HPS : Hid (((pre ++ [(nx, Value.slice av d.length cv, d)]).length : Int) = stop) := hide (by rw [HPL.out]; omega)
          gi_wp2
          all_goals first
            | exact ⟨KO7.out.from _, rfl, by first | rfl | trivial, HPS.out, by rw [HPL.out]; exact HA7.out, X7.out⟩
            | exact ⟨KO7.out.from _, KF7.out, by rw [HPL.out]; exact HA7.out, X7.out⟩
        · gi_wp2
          all_goals exact ⟨KO7.out.from _, KF7.out, by rw [HPL.out]; exact HA7.out, X7.out⟩
      case stopd =>
        rintro D2 c pre W9 hD2 hSp ⟨_, h, _⟩ hK3
        exact absurd h (by decide)
      case doned =>
        rintro D2 ys2 W9 hD2 hS2 ⟨hA, hX⟩ hK3
        have hyl2 : ys2.length = L.length := by rw [← hS2, List.length_map]
        rw [hyl2] at hA
        have ZF := HZF.out.on hA.bel
        have d3 : W9.cell? ⟨w.heap.size, 0, none⟩ = some (.int .i64 stop) := by rw [ZF.c3.cell]; rfl
        have d5 : W9.cell? ⟨b5, 0, none⟩ = some (.slice ao L.length co) := by rw [ZF.c5.cell]; rfl
        have d12 : W9.cell? ⟨b12, 0, none⟩ = some (.int .i64 1) := by rw [hA.c12.cell]; rfl
        have d13 : W9.cell? ⟨b12 + 1, 0, none⟩ = some (.int .i64 (L.length : Int)) := by rw [hA.c13.cell]; rfl
        gi_wp2_with fail
        rw [roundsIn_succ]
        have hb10 : Below W9.heap.size W9 (W9.alloc (.cells #[.int .i64 2] 3)) := (Below.refl _ _).alloc (Nat.le_refl _) _
        have Z10 := hide (ZF.on hb10)
        have q12 : Blk (W9.alloc (.cells #[.int .i64 2] 3)) W9.heap.size 3 [.int .i64 2] := Blk.made W9 _ _
        have qD : (W9.alloc (.cells #[.int .i64 2] 3)).heap[D]? = some (.deferred (some [])) := (hb10.block D (Array.getElem?_eq_some_iff.1 hX).1).trans hX
        have qD2 : (W9.alloc (.cells #[.int .i64 2] 3)).heap[D2]? = some (.deferred (some [])) := (hb10.block D2 (Array.getElem?_eq_some_iff.1 hK3).1).trans hK3
        have HDX := hide (Array.getElem?_eq_some_iff.1 X5.out).1
        clear d3 d5 d12 d13 hA hX hK3 hb10 ZF hS2 hyl2 A5 X5 HSQ hB12 hB13 hB3 h0B
        revert Z10 q12 qD qD2
        generalize W9.alloc (.cells #[.int .i64 2] 3) = W10
        generalize W9.heap.size = b14
        intro Z10 q12 qD qD2
        have h12 : W10.cell? ⟨b14, 0, none⟩ = some (.int .i64 2) := by rw [q12.cell]; rfl
        have QD := hide qD
        have QD2 := hide qD2
        clear q12 qD qD2
        gi_wp2_with fail
        refine ⟨trivial, (callsIn_wide.2 (namesL _)).mono ?_⟩
        rintro _ W10 ⟨rfl, rfl⟩
        have h4 : W10.cell? ⟨b4, 0, none⟩ = some (.bool false) := by rw [Z10.out.c4.cell]; rfl
        have f4 := Z10.out.c4.free 0
        clear h12
        gi_wp2_with fail
        have k1 := (KeepsOthers.setCell W10 ⟨b4, 0, none⟩ (.bool true)).same D _ QD.out rfl
        have k2 := (KeepsOthers.setCell W10 ⟨b4, 0, none⟩ (.bool true)).same D2 _ QD2.out rfl
        have hDD : D ≠ D2 := by have := HDX.out; omega
        have hwD : w.heap.size ≤ D := Nat.le_trans HZF.out.tl.bel.size HDW.out
        have hwD2 : w.heap.size ≤ D2 := by have := HDX.out; omega
        have k1' : ((W10.setCell ⟨b4, 0, none⟩ (.bool true)).putObj D2 (.deferred none)).heap[D]? = some (.deferred (some [])) := by
          rw [World.putObj_heap_other hDD]
          exact k1
        have hcA := World.cell?_setCell_same' W10 ⟨b4, 0, none⟩ (.bool true) (by rw [h4]; rfl)
        have hcB := Go.cell_kept hcA (grownBy_putObj' _ D2 (.deferred none)) (fun r e => by cases e; exact ⟨_, k2, rfl⟩)
        have hcC := Go.cell_kept hcB (grownBy_putObj' _ D (.deferred none)) (fun r e => by cases e; exact ⟨_, k1', rfl⟩)
        have BA := (Z10.out.tl.bel.setCell (p := ⟨b4, 0, none⟩) Z10.out.l4 (.bool true)).trans (belowK_b (w := w) (Nat.le_refl _) _ D2 _ (.deferred none) hwD2 k2 rfl rfl)
        have BC := BA.trans (belowK_b (w := w) (Nat.le_refl _) _ D _ (.deferred none) hwD k1' rfl rfl)
        refine ⟨by simp, .inl ⟨_, _, rfl, run_takeDeferred k2, ?_⟩⟩
        refine ⟨by simp, .inl ⟨_, _, rfl, run_takeDeferred k1', ?_⟩⟩
        refine ⟨.bool true, ?_, rfl, BC⟩
        simp [results, Tryd.f6, go_sem, hcC]

theorem alls_law (a : Option Addr) (len cap : Nat) (xs : List Int) (stop : Int) (w : World) (hs : Sl w a len cap xs) (hc : cap ≤ 1048576) (hst : (Lit.int .i64 stop).wf = true) (hk : KT w) :
    Calls Tryd.prog 6 #[.slice a len cap, .int .i64 stop] w fun e w' => e = .returned (.bool true) ∧ Below w.heap.size w w' :=
  alls_walk a len cap xs stop w hs (Nat.le_trans hs.hcap hc) hk

end Go.Proofs.YtbkhlbaamjccjaaDoor
