/-
  How many bytes the whole frames have: the program's Whole.
-/
import Derived.Test.YtbkhlbaamjccjaaDoorFit
namespace Go.Proofs.YtbkhlbaamjccjaaDoor
open Go.RowKit Go.Shelf
set_option linter.unusedVariables false
set_option linter.unusedSimpArgs false

theorem Blk.kept {A B : World} {g : Nat} {t : TypeId} {cs : List Value} {row : Option Nat} (h : Blk A g t cs) (hg : A.grownBy B row) (hr : ∀ r, row = some r → ∃ o : Obj, A.heap[r]? = some o ∧ o.isCells = false) : Blk B g t cs := by
  have e : B.heap[g]? = A.heap[g]? := hg.block g h.lt (fun e => by
    obtain ⟨o, ho, hc⟩ := hr g e.symm
    rw [h] at ho
    injection ho with ho
    subst ho
    cases hc)
  unfold Blk
  rw [e]
  exact h
/-- A block below B that a round turns. -/
theorem KF.but {B g : Nat} {x : Fx} {A C : World} (h : But g A C) (hg : g < B) (h0 : 0 < g) : KF B x A C :=
  ⟨Nat.le_of_eq h.size.symm, fun k i hi => by rw [World.cell?_of_block (w := A) (h.block 0 (by omega))]; exact k i hi, fun k o hk ho _ _ => (h.block k (by omega)).trans ho⟩
/-- What Whole keeps. -/
structure WH (w W : World) (b4 B : Nat) (P : Nat → Nat) (n : Nat) : Prop where
  c4 : Blk W b4 3 [.int .i64 (P n : Int)]
  bel : Below w.heap.size w W
theorem WH.kept {w A C : World} {b4 B : Nat} {P : Nat → Nat} {n : Nat} {row : Option Nat} (h : WH w A b4 B P n) (hB : w.heap.size ≤ B) (hg : A.grownBy C row) (hr : ∀ r, row = some r → B ≤ r ∧ ∃ o : Obj, A.heap[r]? = some o ∧ o.isCells = false) : WH w C b4 B P n :=
  ⟨h.c4.kept hg (fun r e => (hr r e).2), h.bel.grown hg h.bel.size (fun r e => Nat.le_trans hB (hr r e).1)⟩
set_option maxRecDepth 100000 in
set_option maxHeartbeats 1000000 in
theorem whole_any (a : Option Addr) (len cap : Nat) (xs : List Int) (L : List (Int × List Int)) (P : Nat → Nat) (E : Int) (w : World) (hs : Sl w a len cap xs) (hl : len ≤ 16777216) (hF : Frs xs L P E) (hk : KT w) :
    Calls Tryd.prog 21 #[.slice a len cap] w fun r w' => r = .returned (.tuple #[.int .i64 (P L.length : Int), .int .i64 E]) ∧ Below w.heap.size w w' := by
  have HS := hide hs
  have HX := hide hs.hlen
  have HB := hide hs.hbyte
  have HF := hide hF
  have HK := hide hk
  have h0w : 0 < w.heap.size := hk.lt
  have HLE := hide (hF.le hs.hbyte L.length (Nat.le_refl _)).1
  obtain ⟨Z, HZ⟩ : ∃ Z, Hid (P L.length = Z) := ⟨_, hide rfl⟩
  rw [HZ.out]
  clear hs hF hk
  refine (callsIn_wide (n := 3)).1 ?_
  refine callsIn_of_wp_marks Tryd.func21 rfl trivial ?_ rfl
  refine wpIn_wide.2 ?_
  simp only [Tryd.ntmps21, List.size_toArray, List.length_cons, List.length_nil, Nat.reduceAdd, Nat.reduceSub, Array.replicate_succ, Array.replicate_zero, List.push_toArray, List.append_toArray, List.nil_append, List.cons_append]
  go_wp2_with fail
  have g4 : Blk (w.alloc (.cells #[.int .i64 0] 3)) w.heap.size 3 [.int .i64 0] := Blk.made w 3 [.int .i64 0]
  have b4 : Below w.heap.size w (w.alloc (.cells #[.int .i64 0] 3)) := (Below.refl _ _).alloc (Nat.le_refl _) _
  refine (all_any _ _ _ _).mono ?_
  rintro _ W1 ⟨b1, rfl, hb1, hle1, hbel1⟩
  have G4 : Hid (WH w W1 w.heap.size W1.heap.size P 0) := hide ⟨by rw [HF.out.p0]; exact g4.on hbel1, on_below b4 hbel1⟩
  have hB1 : w.heap.size < W1.heap.size := by have := G4.out.c4.lt; exact this
  have HSQ := hide (all_seq a len cap xs L P E b1 W1 (HS.out.below G4.out.bel) hl HF.out (HK.out.on G4.out.bel) hb1)
  clear g4 b4 hbel1 hb1 hle1
  go_wp2_with fail
  refine (wpIn_wide (n := 3)).1 ?_
  refine rangeR rfl (by decide) (gf := 30) (lb := #[.pointer (some ⟨b1, 0, none⟩)]) rfl trivial (enters_of Tryd.func30 (by kernel_rfl) rfl)
    HSQ.out KF.trans (fun x W l o o' hl h hc => KF.book (by omega) x W l o o' hl h hc) (fun _ => rfl) (fun pre x => rf_own _ _ _ pre x)
    (fun pre W => WH w W w.heap.size W1.heap.size P pre.length) (fun _ _ _ => False)
    (fun _ A C row h hg hr => h.kept (by omega) hg hr) (fun c _ A C row h hg hr => h) G4.out ?act ?assign ?body ?done ?stop
  case assign =>
    rintro l x W K hK
    have hsem := Oper.semAt_some
    simp only [encF]
    gi_wp2
    exact hK
  case body =>
    rintro l pre ⟨nx, v, d⟩ W hw ⟨h1, h2, h3, h4⟩
    have hsem := Oper.semAt_some
    have HW := hide hw
    have c4 : W.cell? ⟨w.heap.size, 0, none⟩ = some (.int .i64 (P pre.length : Int)) := by rw [hw.c4.cell]; rfl
    have f4 := hw.c4.free 0
    have hnx : nx = (P (pre.length + 1) : Int) := by
      have := (HF.out.step pre.length h1).2.2
      rw [← h3] at this
      exact this
    subst hnx
    have hlen : Hid ((pre ++ [(((P (pre.length + 1) : Nat) : Int), v, d)]).length = pre.length + 1) := hide (by simp)
    clear hw h2 h3 h4
    gi_wp2
    have hbut := But.setCell W w.heap.size 0 (.int .i64 ((P (pre.length + 1) : Nat) : Int))
    refine ⟨(KeepsOthers.setCell _ _ _).from _, KF.but hbut hB1 h0w, ?_⟩
    show WH w _ _ _ P (pre ++ [_]).length
    rw [hlen.out]
    exact ⟨HW.out.c4.set 0 _, HW.out.bel.trans (hbut.below (Nat.le_refl _))⟩
  case stop =>
    rintro D c pre W hD hSp hF2 hK2
    exact hF2.elim
  case done =>
    rintro D ys W hD hS hw hK2
    have hyl : ys.length = L.length := by rw [← hS, List.length_map]
    rw [hyl, ] at hw
    have c4 : W.cell? ⟨w.heap.size, 0, none⟩ = some (.int .i64 (Z : Int)) := by rw [hw.c4.cell, HZ.out]; rfl
    have HW := hide hw
    have HDK := hide hK2
    have HRD := hide (read11_any a len cap xs (Z : Int) W (HS.out.below hw.bel) (HK.out.on hw.bel))
    clear hw hK2 hS hyl G4 HSQ
    have hfin := HF.out.fin
    rw [HX.out, HZ.out] at hfin
    rcases hfin with ⟨h1, rfl⟩ | ⟨h1, h2, h3⟩
    · subst h1
      clear HRD
      go_wp2
      refine ⟨by simp, .inl ⟨_, _, rfl, run_takeDeferred HDK.out, ?_⟩⟩
      refine ⟨.tuple #[.int .i64 (Z : Int), .int .i64 0], by simp [results, Tryd.f21, go_sem], rfl, ?_⟩
      exact HW.out.bel.trans (belowK_b (w := w) (Nat.le_refl _) _ D _ (.deferred none) (by omega) HDK.out rfl rfl)
    · rw [h3] at HRD
      have hne : ((Z : Int) == (len : Int)) = false := by rw [beq_eq_false_iff_ne]; omega
      clear h3
      go_wp2_with fail
      refine HRD.out.mono ?_
      rintro _ W2 ⟨v2, rfl, ho2, hb2⟩
      have c42 : W2.cell? ⟨w.heap.size, 0, none⟩ = some (.int .i64 (Z : Int)) := by rw [hb2.cell (p := ⟨w.heap.size, 0, none⟩) HW.out.c4.lt]; exact c4
      have HD2 : Hid (W2.heap[D]? = some (.deferred (some []))) := hide ((hb2.block D (Array.getElem?_eq_some_iff.1 HDK.out).1).trans HDK.out)
      have B2 := hide (on_below HW.out.bel hb2)
      clear ho2 hb2 c4 HRD HDK HW
      go_wp2
      refine ⟨by simp, .inl ⟨_, _, rfl, run_takeDeferred HD2.out, ?_⟩⟩
      refine ⟨.tuple #[.int .i64 (Z : Int), .int .i64 E], by simp [results, Tryd.f21, go_sem], rfl, ?_⟩
      exact B2.out.trans (belowK_b (w := w) (Nat.le_refl _) _ D _ (.deferred none) (by omega) HD2.out rfl rfl)

end Go.Proofs.YtbkhlbaamjccjaaDoor
