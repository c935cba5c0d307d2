/-
  What stands through the loops of DigestsOrder, and a call of Add as its loops meet it.
-/
import Derived.Test.YtabpfbankinojaaDroA
namespace Go.Proofs.Ytabpfbankinojaa
open Go.RowKit Go.Shelf
set_option linter.unusedVariables false
set_option linter.unusedSimpArgs false
set_option maxRecDepth 100000

theorem add_either (g0 : Nat) (v : Value) (us : List Value) (rs : List (List Ent)) (x : Ent) (w : World) (h : IxA w g0 v us rs) (hc : cnt rs < 4398046511104) (hq : 0 ≤ x.p) :
    Calls Try.prog 10 #[.pointer (some ⟨g0, 0, none⟩), .agg (u8s x.d).toArray, .int .i64 x.p] w fun e w' => ∃ (k : Int) (v2 : Value) (us2 : List Value) (rs2 : List (List Ent)), e = .returned (.int .i64 k) ∧ OnlyB g0 w w' ∧ IxA w' g0 v2 us2 rs2 ∧ ((k = 120 ∧ rs2 = rs ∧ ∃ p, fnd rs x.d = some p) ∨ (k = 0 ∧ rs2 = addR rs x ∧ fnd rs x.d = none)) := by
  cases hf : fnd rs x.d with
  | some p => exact (add_there g0 v us rs x.d x.p w h x.hl x.hb hc hq hf).mono fun e w' hh => ⟨120, v, us, rs, hh.1, OnlyB.of_below hh.2, h.on hh.2, .inl ⟨rfl, rfl, p, rfl⟩⟩
  | none =>
    refine (add_ok g0 v us rs x w h hc hq hf).mono ?_
    rintro e w' ⟨h1, h2, v2, us2, h3⟩
    exact ⟨0, v2, us2, addR rs x, h1, h2, h3, .inr ⟨rfl, rfl, rfl⟩⟩
/-- Both indexes, what the law answers, and the digests that were put in. -/
structure LW (w W : World) (ga gb r0 : Nat) (va : Value) (ua : List Value) (rsA : List (List Ent)) (vb : Value) (ub : List Value) (rsB : List (List Ent)) (ov : Value) (n : Nat) (ys : List Int) : Prop where
  ow : OW w W ga gb r0 va ua rsA vb ub rsB
  own : DOwn W w.heap.size ov n ys
  bb : isB ys
section
variable {w W W' : World} {ga gb r0 : Nat} {va : Value} {ua : List Value} {rsA : List (List Ent)} {vb : Value} {ub : List Value} {rsB : List (List Ent)} {ov : Value} {n : Nat} {ys : List Int}
theorem LW.on (h : LW w W ga gb r0 va ua rsA vb ub rsB ov n ys) (hb : Below W.heap.size W W') : LW w W' ga gb r0 va ua rsA vb ub rsB ov n ys := ⟨h.ow.on hb, h.own.below hb, h.bb⟩
theorem LW.addA {va2 : Value} {ua2 : List Value} {rs2 : List (List Ent)} (h : LW w W ga gb r0 va ua rsA vb ub rsB ov n ys) (hb : OnlyB ga W W') (h2 : IxA W' ga va2 ua2 rs2) : LW w W' ga gb r0 va2 ua2 rs2 vb ub rsB ov n ys := ⟨h.ow.addA hb h2, h.own.only hb h.ow.a.hd, h.bb⟩
theorem LW.addB {vb2 : Value} {ub2 : List Value} {rs2 : List (List Ent)} (h : LW w W ga gb r0 va ua rsA vb ub rsB ov n ys) (hb : OnlyB gb W W') (h2 : IxA W' gb vb2 ub2 rs2) : LW w W' ga gb r0 va ua rsA vb2 ub2 rs2 ov n ys := ⟨h.ow.addB hb h2, h.own.only hb h.ow.b.hd, h.bb⟩
theorem LW.grown {ov2 : Value} {n2 : Nat} {ys2 : List Int} (h : LW w W ga gb r0 va ua rsA vb ub rsB ov n ys) (hg : W.grownBy W' ov.ownBlock) (h2 : DOwn W' w.heap.size ov2 n2 ys2) (hb : isB ys2) : LW w W' ga gb r0 va ua rsA vb ub rsB ov2 n2 ys2 :=
  ⟨h.ow.grown hg (fun k hk => ⟨h.own.lt k hk, row_lies h.own hk⟩), h2, hb⟩
theorem LW.ds {a : Option Addr} {c : Nat} (h : LW w W ga gb r0 va ua rsA vb ub rsB (.slice a n c) n ys) (hn : n ≤ 4398046511104) : Ds W a n c ys := by
  obtain ⟨a', c', e, hd, _⟩ := h.own.ds h.bb hn
  injection e with e1 _ e3
  subst e1 e3
  exact hd
theorem LW.dsB {a : Option Addr} {c : Nat} (h : LW w W ga gb r0 va ua rsA vb ub rsB (.slice a n c) n ys) (hn : n ≤ 4398046511104) (hb : OnlyB gb W W') : Ds W' a n c ys := by
  obtain ⟨a', c', e, hd, _⟩ := (h.own.only hb h.ow.b.hd).ds h.bb hn
  injection e with e1 _ e3
  subst e1 e3
  exact hd
theorem LW.size (h : LW w W ga gb r0 va ua rsA vb ub rsB ov n ys) : w.heap.size ≤ W.heap.size := h.ow.bel.size
end
theorem turn_all (b : Int) (n : Nat) : ∃ r, (n = 0 ∨ r < n) ∧ ∀ i, i < n → Int.tmod (Int.tmod b n + n + i) n = (kf r n i : Int) ∧ 0 < Int.tmod b n + n ∧ Int.tmod b n < n := by
  by_cases h : 0 < n
  · obtain ⟨r, h1, h2⟩ := turn_at b n h
    exact ⟨r, .inr h1, h2⟩
  · exact ⟨0, .inl (by omega), fun i hi => absurd hi (by omega)⟩
/-- A number that a digest's first byte is. -/
theorem fstB_in {d : List Int} (h : isB d) : ∃ fb : Int, fstB d = fb ∧ 0 ≤ fb ∧ fb ≤ 255 := ⟨_, rfl, (h.get 0).1, (h.get 0).2⟩

end Go.Proofs.Ytabpfbankinojaa
