/-
  What is carried over both ranges of DigestsOrder.
-/
import Derived.Test.YtabpfbankinojaaDroC
namespace Go.Proofs.Ytabpfbankinojaa
open Go.RowKit Go.Shelf
set_option linter.unusedVariables false
set_option linter.unusedSimpArgs false
set_option maxRecDepth 100000

theorem DOwn.onlyT {w w' : World} {B g : Nat} {v : Value} {n : Nat} {xs : List Int} {t : TypeId} {ds : List Value} (h : DOwn w B v n xs) (hb : OnlyB g w w') (hg : Blk w g t ds) (ht : 24 ≠ t) : DOwn w' B v n xs :=
  row_same h (fun k e => by
    obtain ⟨cs, hc⟩ := row_lies h e
    exact hb.block k hc.lt (hc.apart hg ht))
theorem DOwn.krG {A C : World} {B n : Nat} {v : Value} {xs : List Int} (h : DOwn A B v n xs) (hg : A.grownBy C v.ownBlock) : KR 59 58 A C := by
  cases e : v.ownBlock with
  | none =>
    rw [e] at hg
    exact KR.below ⟨hg.os, hg.tape, hg.output, hg.size, fun k hk => hg.block k hk (fun e => by cases e)⟩
  | some g =>
    obtain ⟨cs, hc⟩ := row_lies h e
    rw [e] at hg
    exact KR.grown hg hc (by decide) (by decide)
theorem DOwn.keeps {A C : World} {B n : Nat} {v : Value} {xs : List Int} (h : DOwn A B v n xs) (hg : A.grownBy C v.ownBlock) : KeepsOthers A C := keepsO_grown hg (fun g e => by
  obtain ⟨cs, hc⟩ := row_lies h e
  exact ⟨_, cs, hc⟩)
/-- A variable's block of another type stands through an append of digests. -/
theorem Blk.krD {A C : World} {B n g : Nat} {v : Value} {xs : List Int} {t : TypeId} {cs : List Value} (hb : Blk A g t cs) (ht : t ≠ 24) (h : DOwn A B v n xs) (hg : A.grownBy C v.ownBlock) : Blk C g t cs := hb.grew hg (fun e => by
  obtain ⟨cs', hc⟩ := row_lies h e
  rw [Blk, show A.heap[g]? = _ from hb] at hc
  injection hc with hc
  injection hc with _ h2
  exact ht h2)
theorem LW.onlyT {w W W' : World} {ga gb r0 : Nat} {va : Value} {ua : List Value} {rsA : List (List Ent)} {vb : Value} {ub : List Value} {rsB : List (List Ent)} {ov : Value} {n : Nat} {ys : List Int} {g : Nat} {t : TypeId} {ds : List Value} (h : LW w W ga gb r0 va ua rsA vb ub rsB ov n ys) (hb : OnlyB g W W') (hg : Blk W g t ds) (h1 : t ≠ 42) (h2 : t ≠ 59) (h3 : t ≠ 58) (h4 : 4 ≠ t) (h5 : 24 ≠ t) (hw : w.heap.size ≤ g) : LW w W' ga gb r0 va ua rsA vb ub rsB ov n ys :=
  ⟨⟨h.ow.a.onlyT hb hg h1 h2 h3, h.ow.b.onlyT hb hg h1 h2 h3, h.ow.r.only hb (h.ow.r.apart hg h4), h.ow.bel.trans (hb.below hw h.size), h.ow.la, h.ow.lb, h.ow.lr, h.ow.ne⟩, h.own.onlyT hb hg h5, h.bb⟩
/-- What the second range stands on: the list of the first one, its mark. -/
structure W2 (w W : World) (ga gb r0 : Nat) (va : Value) (ua : List Value) (rsA : List (List Ent)) (vb : Value) (ub : List Value) (rsB : List (List Ent)) (ov : Value) (n : Nat) (ys : List Int) (bl B : Nat) (lv : Value) (zs : List Int) (D1 : Nat) : Prop where
  lw : LW w W ga gb r0 va ua rsA vb ub rsB ov n ys
  cl : Blk W bl 52 [lv]
  own : DOwn W B lv n zs
  mark : MK [D1] W
section
variable {w W W' : World} {ga gb r0 : Nat} {va : Value} {ua : List Value} {rsA : List (List Ent)} {vb : Value} {ub : List Value} {rsB : List (List Ent)} {ov : Value} {n : Nat} {ys : List Int} {bl B : Nat} {lv : Value} {zs : List Int} {D1 : Nat}
theorem W2.on (h : W2 w W ga gb r0 va ua rsA vb ub rsB ov n ys bl B lv zs D1) (hb : Below W.heap.size W W') : W2 w W' ga gb r0 va ua rsA vb ub rsB ov n ys bl B lv zs D1 := ⟨h.lw.on hb, h.cl.on hb, h.own.below hb, h.mark.on hb⟩
theorem W2.onlyI {bi : Nat} {ds : List Value} (h : W2 w W ga gb r0 va ua rsA vb ub rsB ov n ys bl B lv zs D1) (hb : OnlyB bi W W') (hg : Blk W bi 3 ds) (hw : w.heap.size ≤ bi) : W2 w W' ga gb r0 va ua rsA vb ub rsB ov n ys bl B lv zs D1 :=
  ⟨h.lw.onlyT hb hg (by decide) (by decide) (by decide) (by decide) (by decide) hw, h.cl.only hb (h.cl.apart hg (by decide)), h.own.onlyT hb hg (by decide), h.mark.only hb hg⟩
theorem W2.ds {la : Option Addr} {lc : Nat} (h : W2 w W ga gb r0 va ua rsA vb ub rsB ov n ys bl B (.slice la n lc) zs D1) (hz : isB zs) (hn : n ≤ 4398046511104) : Ds W la n lc zs := by
  obtain ⟨a', c', e, hd, _⟩ := h.own.ds hz hn
  injection e with e1 _ e3
  subst e1 e3
  exact hd
end

end Go.Proofs.Ytabpfbankinojaa
