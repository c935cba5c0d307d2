/-
  A text read as a tile's path: the program's Parse.
-/
import Derived.Test.YtnlpgkfmjlljdabDoorTpc
import Derived.Lib.SlicesS
namespace Go.Proofs.YtnlpgkfmjlljdabDoor
open Go.RowKit
set_option linter.unusedVariables false
set_option linter.unusedSimpArgs false

theorem beq_bA (p q : List UInt8) : ((bA p).toList == (bA q).toList) = decide (p = q) := by
  by_cases h : p = q
  · subst h; simp
  · rw [decide_eq_false h, Lib.bytes_beq_false_iff]
    exact fun e => h (bA_inj e)
theorem run_neL {dst : Option Tmp} {ty : TypeId} {pos : String} {aft : Array Edge} {gd : Option (Nat × Bool)} {a : Act} {w : World} {x y : Operand} {p q : List UInt8} (hx : a.eval x = .string (bA p)) (hy : a.eval y = .string (bA q)) :
    (execOp a.eval ⟨dst, .binOp .neq 9 x y 9, ty, pos, aft, gd⟩).run Tryd.prog w = .ok (.value (.bool (!decide (p = q)))) w := by
  have e := beq_bA p q
  unfold execOp
  simp only [hx, hy]
  simp [go_sem]
  rw [← e]
theorem run_eqL {dst : Option Tmp} {ty : TypeId} {pos : String} {aft : Array Edge} {gd : Option (Nat × Bool)} {a : Act} {w : World} {x y : Operand} {p q : List UInt8} (hx : a.eval x = .string (bA p)) (hy : a.eval y = .string (bA q)) :
    (execOp a.eval ⟨dst, .binOp .eql 9 x y 9, ty, pos, aft, gd⟩).run Tryd.prog w = .ok (.value (.bool (decide (p = q)))) w := by
  have e := beq_bA p q
  unfold execOp
  simp only [hx, hy]
  simp [go_sem]
  exact e
section
variable {dst : Option Tmp} {ty : TypeId} {pos : String} {aft : Array Edge} {gd : Option (Nat × Bool)} {ops : Array Oper} {rest : List Oper} {a : Act} {w : World} {Q : Exit → Act → World → Prop}
theorem step_neL {x y : Operand} {p q : List UInt8} (z : Bool) (hq : (!decide (p = q)) = z) (hw : Region.wanted ⟨dst, .binOp .neq 9 x y 9, ty, pos, aft, gd⟩ (yielded ops a.tmps) = true) (hx : a.eval x = .string (bA p)) (hy : a.eval y = .string (bA q))
    (h : wpList Tryd.prog ops Q rest (a.put dst (.bool z)) w) : wpList Tryd.prog ops Q (⟨dst, .binOp .neq 9 x y 9, ty, pos, aft, gd⟩ :: rest) a w :=
  step_run hw (.bool z) w (by rw [run_neL hx hy, hq]) h
theorem step_eqL {x y : Operand} {p q : List UInt8} (z : Bool) (hq : decide (p = q) = z) (hw : Region.wanted ⟨dst, .binOp .eql 9 x y 9, ty, pos, aft, gd⟩ (yielded ops a.tmps) = true) (hx : a.eval x = .string (bA p)) (hy : a.eval y = .string (bA q))
    (h : wpList Tryd.prog ops Q rest (a.put dst (.bool z)) w) : wpList Tryd.prog ops Q (⟨dst, .binOp .eql 9 x y 9, ty, pos, aft, gd⟩ :: rest) a w :=
  step_run hw (.bool z) w (by rw [run_eqL hx hy, hq]) h
end
/-- What Path tells of any tile. -/
theorem path_any (h l i n : Int) (hl : l ≤ 9223372036854775807) (hi : i ≤ 9223372036854775807) : ∃ (p : List UInt8) (e : Int), ((e = 0 ∧ tOK h l i n ∧ p = pathI h l i n) ∨ (e = 2 ∧ ¬ tOK h l i n ∧ p = [])) ∧
    ∀ w : World, PT w → Calls Tryd.prog 6 #[.agg (c4 h l i n).toArray] w fun r w' => r = .returned (.tuple #[.string (bA p), .int .i64 e]) ∧ Below w.heap.size w w' := by
  by_cases k : tOK h l i n
  · obtain ⟨H, L, I, N, rfl, rfl, rfl, rfl, hH, h1, h2, h3, h4⟩ := k.nats
    refine ⟨_, 0, .inl ⟨rfl, k, rfl⟩, fun w ht => ?_⟩
    have := path_ok H L I N w hH h1 h2 h3 h4 k ht
    unfold pathI
    simp only [Int.toNat_natCast]
    exact this
  · exact ⟨_, 2, .inr ⟨rfl, k, rfl⟩, fun w ht => path_no h l i n w hl hi k⟩
theorem g_bd (s : List UInt8) : gL s ≤ 9223372036854775807 ∧ gI s ≤ 9223372036854775807 := ⟨(nuF_bd _).2, (nuF_bd _).2⟩
/-- What Parse tells of any text. -/
def PrR (s : List UInt8) (h l i n e : Int) : Prop := (e = 0 ∧ tOK h l i n ∧ pathI h l i n = s) ∨ (e = 100 ∧ h = 0 ∧ l = 0 ∧ i = 0 ∧ n = 0 ∧ ¬ ∃ h l i n, tOK h l i n ∧ pathI h l i n = s)
theorem pathI_inj {h l i n h' l' i' n' : Int} (k : tOK h l i n) (k' : tOK h' l' i' n') (e : pathI h l i n = pathI h' l' i' n') : h = h' ∧ l = l' ∧ i = i' ∧ n = n' := by
  obtain ⟨a1, a2, a3, a4⟩ := pathI_g k
  obtain ⟨b1, b2, b3, b4⟩ := pathI_g k'
  rw [e] at a1 a2 a3 a4
  exact ⟨a1.symm.trans b1, a2.symm.trans b2, a3.symm.trans b3, a4.symm.trans b4⟩
theorem PrR.uniq {s : List UInt8} {h l i n e h' l' i' n' e' : Int} (k : PrR s h l i n e) (k' : PrR s h' l' i' n' e') : h = h' ∧ l = l' ∧ i = i' ∧ n = n' ∧ e = e' := by
  rcases k with ⟨rfl, k, q⟩ | ⟨rfl, rfl, rfl, rfl, rfl, k⟩ <;> rcases k' with ⟨rfl, k', q'⟩ | ⟨rfl, rfl, rfl, rfl, rfl, k'⟩
  · obtain ⟨a, b, c, d⟩ := pathI_inj k k' (q.trans q'.symm)
    exact ⟨a, b, c, d, rfl⟩
  · exact absurd ⟨_, _, _, _, k, q⟩ k'
  · exact absurd ⟨_, _, _, _, k', q'⟩ k
  · exact ⟨rfl, rfl, rfl, rfl, rfl⟩
theorem zT0 : (c4 0 0 0 0 : List Value) = [.int .i64 0, .int .i64 0, .int .i64 0, .int .i64 0] := rfl
set_option maxRecDepth 100000 in
set_option maxHeartbeats 1000000 in
theorem parse_any (s : List UInt8) (hs : s.length ≤ 1048576) : ∃ h l i n e : Int, PrR s h l i n e ∧ ∀ w : World, EV w → Calls Tryd.prog 8 #[.string (bA s)] w fun r w' => r = .returned (.tuple #[.agg (c4 h l i n).toArray, .int .i64 e]) ∧ Below w.heap.size w w' := by
  have hg := g_bd s
  obtain ⟨p, e, hp, hc⟩ := path_any (gH s) (gL s) (gI s) (gW s) hg.1 hg.2
  have HGu := hide (fun v hv => guess_any s v hs hv)
  have HPt := hide hc
  by_cases hk : tOK (gH s) (gL s) (gI s) (gW s) ∧ pathI (gH s) (gL s) (gI s) (gW s) = s
  · obtain ⟨rfl, rfl⟩ : e = 0 ∧ p = s := by
      rcases hp with ⟨h1, h2, h3⟩ | ⟨h1, h2, h3⟩
      · exact ⟨h1, h3.trans hk.2⟩
      · exact absurd hk.1 h2
    refine ⟨_, _, _, _, 0, .inl ⟨rfl, hk⟩, fun w hv => ?_⟩
    have HV := hide hv
    clear hv hp hc hk hg
    generalize gH p = t1 at *
    generalize gL p = t2 at *
    generalize gI p = t3 at *
    generalize gW p = t4 at *
    go_enter Tryd.func8, Tryd.ntmps8
    go_wp2_with (refine step_alloc zT rfl ?_)
    intro w0 g2 hg hle hb
    have G0 := hide hg
    have B0 := hide hb
    have LE := hide hle
    clear hg hb hle
    go_wp2_with fail
    refine (HGu.out _ (HV.out.below B0.out)).mono ?_
    rintro r w1 ⟨rfl, hb1⟩
    have G1 := hide (G0.out.on hb1)
    have B1 := hide (on_below B0.out hb1)
    clear hb1 G0 B0 HGu
    go_wp2_with (first | (refine step_alloc zT rfl ?_; intro wa ga hga hlea hba; have HGA := hide hga; clear hga) | (refine step_storeA wT rfl rfl rfl HGA.out rfl (One.c4 t1 t2 t3 t4) rfl ?_))
    intro wb hgb hbutb
    have hbb : Below w1.heap.size w1 wb := hba.trans (hbutb.below hlea)
    have Gb := hide (G1.out.on hbb)
    have Bb := hide (on_below B1.out hbb)
    have Tb := hide hgb
    clear hbb hba hbutb hlea HGA hgb G1 B1
    go_wp2_with (refine step_loadA wT rfl rfl Tb.out rfl ?_)
    refine (HPt.out _ (HV.out.below Bb.out).pt).mono ?_
    rintro r wc ⟨rfl, hbc⟩
    have Gc := hide (Gb.out.on hbc)
    have Tc := hide (Tb.out.on hbc)
    have Bc := hide (on_below Bb.out hbc)
    clear Gb Tb Bb hbc HPt HV
    go_wp2_with (first | (refine step_neL (p := p) (q := p) false (by simp) rfl rfl rfl ?_) | (refine step_loadA wT rfl rfl Tc.out rfl ?_) | (refine step_storeA wT rfl rfl rfl Gc.out rfl (One.c4 t1 t2 t3 t4) rfl ?_))
    intro wd hgd hbutd
    have BE := hide (Bc.out.trans (hbutd.below LE.out))
    go_wp2
    refine bodyPost_ret (results_wide2 rfl wT _ _ rfl hgd rfl) rfl ⟨rfl, BE.out⟩
  · refine ⟨0, 0, 0, 0, 100, .inr ⟨rfl, rfl, rfl, rfl, rfl, fun ⟨a, b, c, d, k1, k2⟩ => hk ?_⟩, fun w hv => ?_⟩
    · obtain ⟨e1, e2, e3, e4⟩ := pathI_g k1
      rw [k2] at e1 e2 e3 e4
      rw [e1, e2, e3, e4]
      exact ⟨k1, k2⟩
    · have HV := hide hv
      by_cases he : e = 0
      · subst he
        have hne : p ≠ s := by
          rcases hp with ⟨_, h2, h3⟩ | ⟨h1, _, _⟩
          · exact fun h => hk ⟨h2, h3.symm.trans h⟩
          · cases h1
        clear hv hp hc hk hg
        generalize gH s = t1 at *
        generalize gL s = t2 at *
        generalize gI s = t3 at *
        generalize gW s = t4 at *
        go_enter Tryd.func8, Tryd.ntmps8
        go_wp2_with (refine step_alloc zT rfl ?_)
        intro w0 g2 hg hle hb
        have G0 := hide hg
        have B0 := hide hb
        have LE := hide hle
        clear hg hb hle
        go_wp2_with fail
        refine (HGu.out _ (HV.out.below B0.out)).mono ?_
        rintro r w1 ⟨rfl, hb1⟩
        have G1 := hide (G0.out.on hb1)
        have B1 := hide (on_below B0.out hb1)
        clear hb1 G0 B0 HGu
        go_wp2_with (first | (refine step_alloc zT rfl ?_; intro wa ga hga hlea hba; have HGA := hide hga; clear hga) | (refine step_storeA wT rfl rfl rfl HGA.out rfl (One.c4 t1 t2 t3 t4) rfl ?_))
        intro wb hgb hbutb
        have hbb : Below w1.heap.size w1 wb := hba.trans (hbutb.below hlea)
        have Gb := hide (G1.out.on hbb)
        have Bb := hide (on_below B1.out hbb)
        have Tb := hide hgb
        clear hbb hba hbutb hlea HGA hgb G1 B1
        go_wp2_with (refine step_loadA wT rfl rfl Tb.out rfl ?_)
        refine (HPt.out _ (HV.out.below Bb.out).pt).mono ?_
        rintro r wc ⟨rfl, hbc⟩
        have Gc := hide (Gb.out.on hbc)
        have Tc := hide (Tb.out.on hbc)
        have Bc := hide (on_below Bb.out hbc)
        clear Gb Tb Bb hbc HPt HV
        go_wp2_with (first | (refine step_neL (p := p) (q := s) true (by simp [hne]) rfl rfl rfl ?_) | (refine step_storeA wT rfl rfl (vs := c4 0 0 0 0) rfl Gc.out rfl (One.c4 0 0 0 0) rfl ?_))
        intro wd hgd hbutd
        have BE := hide (Bc.out.trans (hbutd.below LE.out))
        go_wp2
        refine bodyPost_ret (results_wide2 rfl wT _ _ rfl hgd rfl) rfl ⟨rfl, BE.out⟩
      · have heb : ¬ e = 0 := he
        have he2 : e = 2 := by
          rcases hp with ⟨h1, _, _⟩ | ⟨h1, _, _⟩
          · exact absurd h1 he
          · exact h1
        subst he2
        clear hv hp hc hk hg he heb
        generalize gH s = t1 at *
        generalize gL s = t2 at *
        generalize gI s = t3 at *
        generalize gW s = t4 at *
        go_enter Tryd.func8, Tryd.ntmps8
        go_wp2_with (refine step_alloc zT rfl ?_)
        intro w0 g2 hg hle hb
        have G0 := hide hg
        have B0 := hide hb
        have LE := hide hle
        clear hg hb hle
        go_wp2_with fail
        refine (HGu.out _ (HV.out.below B0.out)).mono ?_
        rintro r w1 ⟨rfl, hb1⟩
        have G1 := hide (G0.out.on hb1)
        have B1 := hide (on_below B0.out hb1)
        clear hb1 G0 B0 HGu
        go_wp2_with (first | (refine step_alloc zT rfl ?_; intro wa ga hga hlea hba; have HGA := hide hga; clear hga) | (refine step_storeA wT rfl rfl rfl HGA.out rfl (One.c4 t1 t2 t3 t4) rfl ?_))
        intro wb hgb hbutb
        have hbb : Below w1.heap.size w1 wb := hba.trans (hbutb.below hlea)
        have Gb := hide (G1.out.on hbb)
        have Bb := hide (on_below B1.out hbb)
        have Tb := hide hgb
        clear hbb hba hbutb hlea HGA hgb G1 B1
        go_wp2_with (refine step_loadA wT rfl rfl Tb.out rfl ?_)
        refine (HPt.out _ (HV.out.below Bb.out).pt).mono ?_
        rintro r wc ⟨rfl, hbc⟩
        have Gc := hide (Gb.out.on hbc)
        have Tc := hide (Tb.out.on hbc)
        have Bc := hide (on_below Bb.out hbc)
        clear Gb Tb Bb hbc HPt HV
        go_wp2_with (refine step_storeA wT rfl rfl (vs := c4 0 0 0 0) rfl Gc.out rfl (One.c4 0 0 0 0) rfl ?_)
        intro wd hgd hbutd
        have BE := hide (Bc.out.trans (hbutd.below LE.out))
        go_wp2
        refine bodyPost_ret (results_wide2 rfl wT _ _ rfl hgd rfl) rfl ⟨rfl, BE.out⟩
end Go.Proofs.YtnlpgkfmjlljdabDoor
