/-
  What stands through DigestsOrder, in memory.
-/
import Derived.Test.YtabpfbankinojaaDgo
import Derived.Test.YtabpfbankinojaaDgl
import Derived.Test.YtabpfbankinojaaJkr
import Derived.Deep.Cut
namespace Go.Proofs.Ytabpfbankinojaa
open Go.RowKit Go.Shelf
set_option linter.unusedVariables false
set_option linter.unusedSimpArgs false
set_option maxRecDepth 100000

theorem IxA.only {w w' : World} {g g' : Nat} {v v' : Value} {us : List Value} {rs : List (List Ent)} (h : IxA w g v us rs) (hb : OnlyB g' w w') (hg' : PI w g' true v') (hne : g ≠ g') : IxA w' g v us rs :=
  ⟨Blk.only h.hd hb hne, h.rv.kr (hb.kr hg' (by decide) (by decide)), h.ok⟩
theorem OnlyB.krT {g : Nat} {w w' : World} {t u s : TypeId} {ds : List Value} (h : OnlyB g w w') (hg : Blk w g s ds) (ht : s ≠ t) (hu : s ≠ u) : KR t u w w' :=
  ⟨h.size, fun k s' cs hs hk => hk.only h (fun e => by
    subst e
    rw [Blk, hg] at hk
    injection hk with hk
    injection hk with _ h2 _
    rcases hs with rfl | rfl
    · exact ht h2
    · exact hu h2)⟩
theorem IxA.onlyT {w w' : World} {g g' : Nat} {v : Value} {us : List Value} {rs : List (List Ent)} {s : TypeId} {ds : List Value} (h : IxA w g v us rs) (hb : OnlyB g' w w') (hg' : Blk w g' s ds) (h1 : s ≠ 42) (h2 : s ≠ 59) (h3 : s ≠ 58) : IxA w' g v us rs :=
  ⟨Blk.only h.hd hb (fun e => by subst e; exact hg'.apart h.hd h1 rfl), h.rv.kr (hb.krT hg' h2 h3), h.ok⟩
theorem DOwn.only {w w' : World} {B g : Nat} {v v' : Value} {n : Nat} {xs : List Int} (h : DOwn w B v n xs) (hb : OnlyB g w w') (hg : PI w g true v') : DOwn w' B v n xs :=
  row_same h (fun k e => by
    obtain ⟨cs, hc⟩ := row_lies h e
    exact hb.block k hc.lt (hc.apart hg (by decide)))
/-- Both indexes, and what the law answers. -/
structure OW (w W : World) (ga gb r0 : Nat) (va : Value) (ua : List Value) (rsA : List (List Ent)) (vb : Value) (ub : List Value) (rsB : List (List Ent)) : Prop where
  a : IxA W ga va ua rsA
  b : IxA W gb vb ub rsB
  r : Blk W r0 4 [.bool false]
  bel : Below w.heap.size w W
  la : w.heap.size ≤ ga
  lb : w.heap.size ≤ gb
  lr : w.heap.size ≤ r0
  ne : ga ≠ gb
section
variable {w W W' : World} {ga gb r0 : Nat} {va : Value} {ua : List Value} {rsA : List (List Ent)} {vb : Value} {ub : List Value} {rsB : List (List Ent)}
theorem OW.on (h : OW w W ga gb r0 va ua rsA vb ub rsB) (hb : Below W.heap.size W W') : OW w W' ga gb r0 va ua rsA vb ub rsB := ⟨h.a.on hb, h.b.on hb, h.r.on hb, on_below h.bel hb, h.la, h.lb, h.lr, h.ne⟩
theorem OW.addA {va2 : Value} {ua2 : List Value} {rs2 : List (List Ent)} (h : OW w W ga gb r0 va ua rsA vb ub rsB) (hb : OnlyB ga W W') (h2 : IxA W' ga va2 ua2 rs2) : OW w W' ga gb r0 va2 ua2 rs2 vb ub rsB :=
  ⟨h2, h.b.only hb h.a.hd (Ne.symm h.ne), h.r.only hb (h.r.apart h.a.hd (by decide)), h.bel.trans (hb.below h.la h.bel.size), h.la, h.lb, h.lr, h.ne⟩
theorem OW.addB {vb2 : Value} {ub2 : List Value} {rs2 : List (List Ent)} (h : OW w W ga gb r0 va ua rsA vb ub rsB) (hb : OnlyB gb W W') (h2 : IxA W' gb vb2 ub2 rs2) : OW w W' ga gb r0 va ua rsA vb2 ub2 rs2 :=
  ⟨h.a.only hb h.b.hd h.ne, h2, h.r.only hb (h.r.apart h.b.hd (by decide)), h.bel.trans (hb.below h.lb h.bel.size), h.la, h.lb, h.lr, h.ne⟩
theorem OW.grown {row : Option Nat} (h : OW w W ga gb r0 va ua rsA vb ub rsB) (hg : W.grownBy W' row) (hr : ∀ k, row = some k → w.heap.size ≤ k ∧ ∃ cs, Blk W k 24 cs) : OW w W' ga gb r0 va ua rsA vb ub rsB := by
  cases row with
  | none => exact h.on ⟨hg.os, hg.tape, hg.output, hg.size, fun k hk => hg.block k hk (fun e => by cases e)⟩
  | some g =>
    obtain ⟨h1, cs, h2⟩ := hr g rfl
    have hb : OnlyB g W W' := ⟨hg.os, hg.tape, hg.output, hg.size, fun k hk hn => hg.block k hk (fun e => hn (by injection e))⟩
    exact ⟨h.a.onlyT hb h2 (by decide) (by decide) (by decide), h.b.onlyT hb h2 (by decide) (by decide) (by decide), h.r.only hb (h.r.apart h2 (by decide)), h.bel.trans (hb.below h1 h.bel.size), h.la, h.lb, h.lr, h.ne⟩
end
theorem fstB_ge {d : List Int} (h : isB d) : 0 ≤ fstB d := (h.get 0).1
/-- A digest of a slice: its place, its cells, its first byte. -/
theorem Ds.cell0 {w : World} {b o len cap : Nat} {xs : List Int} (h : Ds w (some ⟨b, o, none⟩) len cap xs) {i : Nat} (hi : i < len) : w.cell? ⟨b, o + 32 * i, none⟩ = some (.int .u8 (fstB (dat xs i))) :=
  h.range i hi 0 _ (u8s_get _ 0 (by rw [dat_length h.hlen hi]; omega))
/-- Whatever is added: only the index has turned. -/
theorem add_some (g0 : Nat) (v : Value) (us : List Value) (rs : List (List Ent)) (x : Ent) (w : World) (h : IxA w g0 v us rs) (hc : cnt rs < 4398046511104) (hq : 0 ≤ x.p) :
    Calls Try.prog 10 #[.pointer (some ⟨g0, 0, none⟩), .agg (u8s x.d).toArray, .int .i64 x.p] w fun e w' => (∃ k : Int, e = .returned (.int .i64 k)) ∧ OnlyB g0 w w' := by
  cases hf : fnd rs x.d with
  | some p => exact (add_there g0 v us rs x.d x.p w h x.hl x.hb hc hq hf).mono fun e w' hh => ⟨⟨_, hh.1⟩, OnlyB.of_below hh.2⟩
  | none => exact (add_ok g0 v us rs x w h hc hq hf).mono fun e w' hh => ⟨⟨_, hh.1⟩, hh.2.1⟩

end Go.Proofs.Ytabpfbankinojaa
