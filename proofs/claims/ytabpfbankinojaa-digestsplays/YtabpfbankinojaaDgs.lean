/-
  An index in memory; what is found in runs (pure).
-/
import Derived.Test.YtabpfbankinojaaDgv
namespace Go.Proofs.Ytabpfbankinojaa
open Go.RowKit
set_option linter.unusedVariables false
set_option linter.unusedSimpArgs false
set_option maxRecDepth 100000

/-- Runs in memory. -/
structure RunsV (w : World) (v : Value) (us : List Value) (rs : List (List Ent)) : Prop where
  vw : Vw w 59 1 v rs.length us
  rn : ∀ i, i < rs.length → Rn w (us.getD i undef) (rs.getD i [])
section
variable {w w' : World} {v : Value} {us : List Value} {rs : List (List Ent)}
theorem RunsV.len (h : RunsV w v us rs) : us.length = rs.length := by rw [h.vw.len, Nat.mul_one]
theorem RunsV.on (h : RunsV w v us rs) (hb : Below w.heap.size w w') : RunsV w' v us rs := ⟨h.vw.on hb, fun i hi => (h.rn i hi).on hb⟩
theorem RunsV.kr (h : RunsV w v us rs) (hk : KR 59 58 w w') : RunsV w' v us rs := ⟨h.vw.kr hk (.inl rfl), fun i hi => (h.rn i hi).kr hk⟩
theorem RunsV.one (h : RunsV w v us rs) : ∀ x ∈ us, x.oneCell' = true := fun x hx => by
  obtain ⟨i, hi, rfl⟩ := List.getElem_of_mem hx
  have := h.rn i (by rw [← h.len]; exact hi)
  obtain ⟨a, c, e⟩ := this.slice
  rw [List.getD_eq_getElem?_getD, List.getElem?_eq_getElem hi, Option.getD_some] at e
  rw [e]
  rfl
theorem RunsV.at (h : RunsV w v us rs) {i : Nat} (hi : i < rs.length) : ∃ g o, (∀ W : World, (Instr.indexAt 40 v (.int .i64 (i : Int))).run Try.prog W = .ok (.pointer (some ⟨g, o, none⟩)) W) ∧ ∀ W : World, Vw W 59 1 v rs.length us → W.cell? ⟨g, o, none⟩ = some (us.getD i undef) := by
  obtain ⟨g, o, h1, h2⟩ := h.vw.at roR hi
  refine ⟨g, o, h1, fun W hW => ?_⟩
  have := (h2 W hW).1 0 (us.getD i undef) (by
    have hl := h.len
    rw [Nat.mul_one, List.getElem?_take, if_pos (by omega), List.getElem?_drop, Nat.add_zero, List.getElem?_eq_getElem (by omega), List.getD_eq_getElem?_getD, List.getElem?_eq_getElem (by omega), Option.getD_some])
  simpa using this
theorem RunsV.at' (h : RunsV w v us rs) {i : Nat} (hi : i < rs.length) : ∃ a c, us.getD i undef = .slice a (rs.getD i []).length c := (h.rn i hi).slice
theorem RunsV.slice (h : RunsV w v us rs) : ∃ a c, v = .slice a rs.length c := h.vw.slice
end

/-! ### found -/
def fndR (d : List Int) (r : List Ent) : Option Int := (r.find? fun x => decide (x.d = d)).map (·.p)
def fnd (rs : List (List Ent)) (d : List Int) : Option Int := rs.findSome? (fndR d)
theorem fnd_cons (r : List Ent) (rs : List (List Ent)) (d : List Int) : fnd (r :: rs) d = (fndR d r).or (fnd rs d) := by
  unfold fnd
  rw [List.findSome?_cons]
  cases fndR d r <;> rfl
theorem fnd_app (a b : List (List Ent)) (d : List Int) : fnd (a ++ b) d = (fnd a d).or (fnd b d) := by
  unfold fnd
  rw [List.findSome?_append]
theorem fnd_take (rs : List (List Ent)) (d : List Int) {i : Nat} (hi : i < rs.length) (h0 : fnd (rs.take i) d = none) (h1 : fndR d (rs.getD i []) = none) : fnd (rs.take (i + 1)) d = none := by
  rw [List.take_succ_eq_append_getElem hi, fnd_app, h0]
  have e : rs.getD i [] = rs[i] := by rw [List.getD_eq_getElem?_getD, List.getElem?_eq_getElem hi, Option.getD_some]
  rw [e] at h1
  rw [fnd_cons, h1]
  rfl
theorem fnd_here (rs : List (List Ent)) (d : List Int) {i : Nat} (hi : i < rs.length) (h0 : fnd (rs.take i) d = none) {p : Int} (h1 : fndR d (rs.getD i []) = some p) : fnd rs d = some p := by
  have e : rs.getD i [] = rs[i] := by rw [List.getD_eq_getElem?_getD, List.getElem?_eq_getElem hi, Option.getD_some]
  rw [e] at h1
  have e2 : rs = rs.take i ++ rs[i] :: rs.drop (i + 1) := by rw [← List.drop_eq_getElem_cons hi, List.take_append_drop]
  rw [e2, fnd_app, h0, fnd_cons, h1]
  rfl
section
variable {d : List Int} {r : List Ent} {k : Nat}
theorem fndR_end (h1 : ∀ i (h : i < r.length), i < k → kE r[i] < kD d) (hk : k = r.length) : fndR d r = none := by
  unfold fndR
  rw [List.find?_eq_none.2]
  · rfl
  · intro x hx
    obtain ⟨i, hi, rfl⟩ := List.getElem_of_mem hx
    have := h1 i hi (by omega)
    simp only [decide_eq_true_eq]
    intro e
    unfold kE at this
    rw [e] at this
    omega
theorem fndR_here (h1 : ∀ i (h : i < r.length), i < k → kE r[i] < kD d) (hk : k < r.length) (he : r[k].d = d) : fndR d r = some r[k].p := by
  unfold fndR
  have e2 : r = r.take k ++ r[k] :: r.drop (k + 1) := by rw [← List.drop_eq_getElem_cons hk, List.take_append_drop]
  have e3 : r.find? (fun x => decide (x.d = d)) = some r[k] := by
    conv => lhs; rw [e2]
    rw [List.find?_append, List.find?_eq_none.2, List.find?_cons_of_pos (by simpa using he)]
    · rfl
    · intro x hx
      obtain ⟨i, hi, rfl⟩ := List.getElem_of_mem hx
      rw [List.length_take] at hi
      rw [List.getElem_take]
      have := h1 i (by omega) (by omega)
      simp only [decide_eq_true_eq]
      intro e
      unfold kE at this
      rw [e] at this
      omega
  rw [e3]
  rfl
theorem fndR_not (hs : SK kE r) (h1 : ∀ i (h : i < r.length), i < k → kE r[i] < kD d) (h2 : ∀ i (h : i < r.length), k ≤ i → ¬ kE r[i] < kD d) (hk : k < r.length) (he : r[k].d ≠ d) : fndR d r = none := by
  unfold fndR
  rw [List.find?_eq_none.2]
  · rfl
  · intro x hx
    obtain ⟨i, hi, rfl⟩ := List.getElem_of_mem hx
    simp only [decide_eq_true_eq]
    intro e
    by_cases hik : i < k
    · have := h1 i hi hik
      unfold kE at this
      rw [e] at this
      omega
    · by_cases hik2 : i = k
      · subst hik2
        exact he e
      · have h3 := h2 k hk (Nat.le_refl _)
        have h4 : kE r[k] < kE r[i] := (List.pairwise_iff_getElem.1 hs) k i hk hi (by omega)
        have h5 : kE r[i] = kD d := by unfold kE; rw [e]
        omega
end
/-- Is the entry at i not below? -/
def pB (r : List Ent) (d : List Int) (i : Nat) : Bool := match r[i]? with | some x => !decide (kE x < kD d) | none => true
theorem pB_at {r : List Ent} {d : List Int} {i : Nat} (h : i < r.length) : pB r d i = !decide (kE r[i] < kD d) := by
  unfold pB
  rw [List.getElem?_eq_getElem h]
theorem pB_mono {r : List Ent} {d : List Int} (hs : SK kE r) : ∀ i j, i ≤ j → j < r.length → pB r d i = true → pB r d j = true := fun i j hij hj hp => by
  rw [pB_at (by omega)] at hp
  rw [pB_at hj]
  by_cases e : i = j
  · subst e
    exact hp
  · have : kE r[i] < kE r[j] := (List.pairwise_iff_getElem.1 hs) i j (by omega) hj (by omega)
    simp only [Bool.not_eq_true', decide_eq_false_iff_not] at *
    omega
theorem pB_lo {r : List Ent} {d : List Int} {k : Nat} (h : ∀ i, i < k → pB r d i = false) : ∀ i (h : i < r.length), i < k → kE r[i] < kD d := fun i hi hik => by
  have := h i hik
  rw [pB_at hi] at this
  simpa using this
theorem pB_hi {r : List Ent} {d : List Int} {k : Nat} (h : ∀ i, k ≤ i → i < r.length → pB r d i = true) : ∀ i (h : i < r.length), k ≤ i → ¬ kE r[i] < kD d := fun i hi hik => by
  have := h i hik hi
  rw [pB_at hi] at this
  simpa using this
/-- What a Find tells. -/
def fO (o : Option Int) : Value := .tuple #[.int .i64 (o.getD 0), .bool o.isSome]

end Go.Proofs.Ytabpfbankinojaa
