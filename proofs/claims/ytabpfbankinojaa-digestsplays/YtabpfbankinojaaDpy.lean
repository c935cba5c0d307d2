/-
  Both additions at once, and what stands through the acts.
-/
import Derived.Test.YtabpfbankinojaaDph
import Derived.Test.YtabpfbankinojaaDps
import Derived.Test.YtabpfbankinojaaDac
namespace Go.Proofs.Ytabpfbankinojaa
open Go.RowKit Go.Shelf
set_option linter.unusedVariables false
set_option linter.unusedSimpArgs false
set_option maxRecDepth 100000

/-- What an addition answers, and the runs behind it. -/
def kA (rs : List (List Ent)) (x : Ent) : Int := if x.p < 0 then 2 else if (fnd rs x.d).isSome then 120 else 0
def rA (rs : List (List Ent)) (x : Ent) : List (List Ent) := if x.p < 0 then rs else if (fnd rs x.d).isSome then rs else addR rs x
theorem rA_cnt (rs : List (List Ent)) (x : Ent) : cnt (rA rs x) ≤ cnt rs + 1 := by
  unfold rA
  split
  · omega
  · split
    · omega
    · rw [cnt_add]; exact Nat.le_refl _
theorem add_all (g0 : Nat) (v : Value) (us : List Value) (rs : List (List Ent)) (x : Ent) (w : World) (h : IxA w g0 v us rs) (hc : cnt rs < 4398046511104) :
    Calls Try.prog 10 #[.pointer (some ⟨g0, 0, none⟩), .agg (u8s x.d).toArray, .int .i64 x.p] w fun e w' => ∃ v2 us2, e = .returned (.int .i64 (kA rs x)) ∧ OnlyB g0 w w' ∧ IxA w' g0 v2 us2 (rA rs x) := by
  unfold kA rA
  by_cases hq : x.p < 0
  · rw [if_pos hq, if_pos hq]
    exact (add_neg g0 v us rs x.d x.p w h hq).mono fun e w' hh => ⟨v, us, hh.1, OnlyB.of_below hh.2, h.on hh.2⟩
  · rw [if_neg hq, if_neg hq]
    cases hf : fnd rs x.d with
    | some p => exact (add_there g0 v us rs x.d x.p w h x.hl x.hb hc (by omega) hf).mono fun e w' hh => ⟨v, us, hh.1, OnlyB.of_below hh.2, h.on hh.2⟩
    | none =>
      refine (add_ok g0 v us rs x w h hc (by omega) hf).mono ?_
      rintro e w' ⟨h1, h2, v2, us2, h3⟩
      exact ⟨v2, us2, h1, h2, h3⟩
theorem addD_all (iv rv : Value) (rs : List (List Ent)) (x : Ent) (w : World) (h : Dx w iv rv (allE rs) (lens rs)) (hok : RsOk rs) (hc : cnt rs + 1 ≤ 3518437208883) :
    Calls Try.prog 11 #[.agg #[iv, rv], .agg (u8s x.d).toArray, .int .i64 x.p] w fun e w' => ∃ iv2 rv2, e = .returned (.tuple #[.agg #[iv2, rv2], .int .i64 (kA rs x)]) ∧ Dx w' iv2 rv2 (allE (rA rs x)) (lens (rA rs x)) ∧ Below w.heap.size w w' := by
  have hle := allE_len rs
  unfold kA rA
  by_cases hq : x.p < 0
  · rw [if_pos hq, if_pos hq]
    exact (addD_neg iv rv _ _ x.d x.p w h x.hl x.hb (by omega) hq).mono fun e w' hh => ⟨iv, rv, hh.1, h.on hh.2, hh.2⟩
  · rw [if_neg hq, if_neg hq]
    have hfe := fnd_allE hok x.d
    cases hf : fnd rs x.d with
    | some p => exact (addD_there iv rv _ _ x.d x.p w h x.hl x.hb (by omega) (by omega) (by rw [hfe, hf])).mono fun e w' hh => ⟨iv, rv, hh.1, h.on hh.2, hh.2⟩
    | none =>
      refine (addD_ok iv rv _ _ x w h (by omega) (by omega) ?_ ?_ (by rw [hfe, hf])).mono ?_
      · have := hok.few (by omega)
        simp only [lens, List.length_map]
        omega
      · have : (lens rs).sum = cnt rs := rfl
        omega
      · rintro e w' ⟨iv2, rv2, h1, h2, h3⟩
        refine ⟨iv2, rv2, h1, ?_, h3⟩
        show Dx w' iv2 rv2 (allE (addR rs x)) (lens (addR rs x))
        rw [allE_add hok hf, lens_add]
        exact h2
/-- What stands through the acts. -/
structure PY (w W : World) (g g3 g6 : Nat) (v : Value) (us : List Value) (rs : List (List Ent)) (iv rv : Value) (rd : List (List Ent)) (dk : List Int) : Prop where
  ix : IxA W g v us rs
  dx : Dx W iv rv (allE rd) (lens rd)
  c3 : Blk W g3 24 (u8s dk)
  c6 : Blk W g6 30 [iv, rv]
  bel : Below w.heap.size w W
  lg : w.heap.size ≤ g
  l6 : w.heap.size ≤ g6
section
variable {w W W' : World} {g g3 g6 : Nat} {v : Value} {us : List Value} {rs : List (List Ent)} {iv rv : Value} {rd : List (List Ent)} {dk : List Int}
theorem PY.on (h : PY w W g g3 g6 v us rs iv rv rd dk) (hb : Below W.heap.size W W') : PY w W' g g3 g6 v us rs iv rv rd dk := ⟨h.ix.on hb, h.dx.on hb, h.c3.on hb, h.c6.on hb, on_below h.bel hb, h.lg, h.l6⟩
theorem PY.addP {v2 : Value} {us2 : List Value} {rs2 : List (List Ent)} (h : PY w W g g3 g6 v us rs iv rv rd dk) (hob : OnlyB g W W') (hix : IxA W' g v2 us2 rs2) : PY w W' g g3 g6 v2 us2 rs2 iv rv rd dk :=
  ⟨hix, ⟨h.dx.i.onlyT hob h.ix.hd (by decide), h.dx.r.onlyT hob h.ix.hd (by decide)⟩, h.c3.only hob (h.c3.apart h.ix.hd (by decide)), h.c6.only hob (h.c6.apart h.ix.hd (by decide)), h.bel.trans (hob.below h.lg h.bel.size), h.lg, h.l6⟩
theorem PY.store {iv2 rv2 : Value} {rd2 : List (List Ent)} (h : PY w W g g3 g6 v us rs iv rv rd dk) (hbut : But g6 W W') (hg : Blk W' g6 30 [iv2, rv2]) (hdx : Dx W iv2 rv2 (allE rd2) (lens rd2)) : PY w W' g g3 g6 v us rs iv2 rv2 rd2 dk :=
  have hob : OnlyB g6 W W' := OnlyB.but (Below.refl _ _) hbut
  ⟨h.ix.onlyT hob h.c6 (by decide) (by decide) (by decide), ⟨hdx.i.butT hbut h.c6 (by decide), hdx.r.butT hbut h.c6 (by decide)⟩, h.c3.only hob (h.c3.apart h.c6 (by decide)), hg, h.bel.trans (hbut.below h.l6), h.lg, h.l6⟩
theorem PY.clone {g' : Nat} (h : PY w W g g3 g6 v us rs iv rv rd dk) (hb : Below W.heap.size W W') (hix : IxA W' g' v us rs) (hg : W.heap.size ≤ g') : PY w W' g' g3 g6 v us rs iv rv rd dk :=
  ⟨hix, h.dx.on hb, h.c3.on hb, h.c6.on hb, on_below h.bel hb, Nat.le_trans h.bel.size hg, h.l6⟩
theorem Dx.one {L : List Ent} {R : List Nat} (h : Dx W iv rv L R) : One [iv, rv] := by
  obtain ⟨a, c, rfl⟩ := h.si
  obtain ⟨a2, c2, rfl⟩ := h.sr
  intro v hv
  simp at hv
  rcases hv with rfl | rfl <;> rfl
end
theorem act_d {w : World} {b o : Nat} {y : Ac6} (h : w.rangeAt b o y.cells) (hd : y.d.length = 32) : w.rangeAt b o (u8s y.d) := fun j v hj => h j v (by
  have hl : j < (u8s y.d).length := (List.getElem?_eq_some_iff.1 hj).1
  unfold Ac6.cells acC
  rw [List.getElem?_append_left hl]
  exact hj)
theorem act_q {w : World} {b o : Nat} {y : Ac6} (h : w.rangeAt b o y.cells) (hd : y.d.length = 32) : w.cell? ⟨b, o + 32, none⟩ = some (.int .i64 y.q) := h 32 _ (acC_q y.d y.q y.b hd)
theorem act_b {w : World} {b o : Nat} {y : Ac6} (h : w.rangeAt b o y.cells) (hd : y.d.length = 32) : w.cell? ⟨b, o + 33, none⟩ = some (.bool y.b) := h 33 _ (acC_b y.d y.q y.b hd)
theorem names_any (w : World) : Calls Try.prog 12 #[] w fun e w' => e = .returned (.bool true) ∧ Below w.heap.size w w' := by
  go_enter Try.func12, Try.ntmps12
  go_wp2
  go_ret
  exact ⟨rfl, Below.refl _ _⟩

end Go.Proofs.Ytabpfbankinojaa
