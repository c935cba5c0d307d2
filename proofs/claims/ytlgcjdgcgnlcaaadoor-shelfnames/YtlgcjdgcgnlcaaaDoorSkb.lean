/-
  What Put leaves of a level, without any program: a level that was filled from nothing, digest by digest; what a loss of power leaves of it.
-/
import Derived.Test.YtlgcjdgcgnlcaaaDoorSka
import Derived.Test.YtlgcjdgcgnlcaaaDoorKmh
namespace Go.Proofs.YtlgcjdgcgnlcaaaDoor
open Go.RowKit
set_option linter.unusedVariables false
set_option linter.unusedSimpArgs false

/-- What Put writes: a file where there is none, and a digest. -/
def puW (s : Nat) (rs : List Rw) (n : ByteArray) (x : List Int) : List Rw := apS s (crS rs n) n x
/-- The level 0 has just these digests, and there is no other file. -/
structure FS (F : ByteArray → Option (List Int)) (h : Nat) (xs : List (List Int)) : Prop where
  at' : ∀ i, i * 2 ^ h < xs.length → F (sN h 0 i) = some (((xs.drop (i * 2 ^ h)).take (2 ^ h)).flatten)
  no : ∀ n, (∀ i, i * 2 ^ h < xs.length → n ≠ sN h 0 i) → F n = none
/-- Digests have 32 bytes each. -/
def D32 (xs : List (List Int)) : Prop := ∀ x ∈ xs, x.length = 32
theorem D32.flat : ∀ {xs : List (List Int)}, D32 xs → xs.flatten.length = 32 * xs.length
  | [], _ => rfl
  | x :: t, k => by
    have h1 := k x (by simp)
    have h2 : t.flatten.length = 32 * t.length := D32.flat (fun y hy => k y (List.mem_cons_of_mem _ hy))
    rw [List.flatten_cons, List.length_append, List.length_cons, h1, h2]
    omega
theorem D32.take {xs : List (List Int)} (k : D32 xs) (n : Nat) : D32 (xs.take n) := fun x hx => k x (List.mem_of_mem_take hx)
theorem D32.drop {xs : List (List Int)} (k : D32 xs) (n : Nat) : D32 (xs.drop n) := fun x hx => k x (List.mem_of_mem_drop hx)
/-- The first tiles of the level 0 may be. -/
theorem tFB_low {h i : Nat} (hh : isH h) (k : (i + 1) * 2 ^ h ≤ 281474976710656) : tFB h 0 i = true := by
  rw [tFB_iff hh, tOv_zero]
  exact k
theorem tFB_in {h i m : Nat} (hh : isH h) (k : i * 2 ^ h ≤ m) (hm : m ≤ 1099511627776) : tFB h 0 i = true := by
  have := hh.pow.2
  refine tFB_low hh ?_
  rw [Nat.add_mul, Nat.one_mul]
  omega
theorem FS.nil (h : Nat) : FS (fun _ => none) h [] := ⟨fun i hi => by simp at hi, fun n _ => rfl⟩
theorem FS.ext {F G : ByteArray → Option (List Int)} {h : Nat} {xs : List (List Int)} (a : FS F h xs) (b : FS G h xs) : F = G := by
  funext n
  by_cases k : ∃ i, i * 2 ^ h < xs.length ∧ n = sN h 0 i
  · obtain ⟨i, hi, rfl⟩ := k
    rw [a.at' i hi, b.at' i hi]
  · rw [a.no n (fun i hi e => k ⟨i, hi, e⟩), b.no n (fun i hi e => k ⟨i, hi, e⟩)]
section
variable {F : ByteArray → Option (List Int)} {h : Nat} {xs : List (List Int)}
theorem FS.len (k : FS F h xs) (hx : D32 xs) {i : Nat} (hi : i * 2 ^ h < xs.length) : (fl F (sN h 0 i)).length = 32 * min (2 ^ h) (xs.length - i * 2 ^ h) := by
  have e : fl F (sN h 0 i) = ((xs.drop (i * 2 ^ h)).take (2 ^ h)).flatten := by unfold fl; rw [k.at' i hi]; rfl
  rw [e, ((hx.drop _).take _).flat, List.length_take, List.length_drop]
theorem FS.off (k : FS F h xs) (hh : isH h) (hn : xs.length ≤ 1099511627776) {i : Nat} (hi : xs.length ≤ i * 2 ^ h) : F (sN h 0 i) = none := by
  refine k.no _ (fun j hj e => ?_)
  have e2 := (sN_inj (tFB_in hh (Nat.le_of_lt hj) hn) e.symm).2.2
  subst e2
  omega
theorem quo_lt {n w j : Nat} (hw : 0 < w) (hj : j < n) : j / w * w < n := by
  have := Nat.div_mul_le_self j w
  omega
theorem FS.cn (k : FS F h xs) (hh : isH h) (hx : D32 xs) (hn : xs.length ≤ 1099511627776) : Cn F h 0 xs.length := by
  have hp := Nat.two_pow_pos h
  constructor
  · intro j hj
    have e := Nat.div_add_mod j (2 ^ h)
    have m := Nat.mod_lt j hp
    unfold hasD
    rw [k.len hx (quo_lt hp hj)]
    rw [Nat.mul_comm] at e
    simp only [decide_eq_true_eq]
    omega
  · have e := Nat.div_add_mod xs.length (2 ^ h)
    have m := Nat.mod_lt xs.length hp
    rw [Nat.mul_comm] at e
    unfold hasD
    by_cases h0 : xs.length / 2 ^ h * 2 ^ h < xs.length
    · rw [k.len hx h0]
      simp only [decide_eq_false_iff_not]
      omega
    · rw [fl_none (k.off hh hn (by omega))]
      simp
/-- The file in which the next digest would come. -/
theorem FS.next (k : FS F h xs) (hh : isH h) (hx : D32 xs) (hn : xs.length ≤ 1099511627776) : (fl F (sN h 0 (xs.length / 2 ^ h))).length = 32 * (xs.length % 2 ^ h) ∧ (xs.length % 2 ^ h = 0 → F (sN h 0 (xs.length / 2 ^ h)) = none) ∧ (xs.length % 2 ^ h ≠ 0 → ∃ ys, F (sN h 0 (xs.length / 2 ^ h)) = some ys) := by
  have hp := Nat.two_pow_pos h
  have e := Nat.div_add_mod xs.length (2 ^ h)
  have m := Nat.mod_lt xs.length hp
  rw [Nat.mul_comm] at e
  by_cases h0 : xs.length % 2 ^ h = 0
  · have := k.off hh hn (i := xs.length / 2 ^ h) (by omega)
    exact ⟨by rw [fl_none this, h0]; rfl, fun _ => this, fun h1 => absurd h0 h1⟩
  · have hlt : xs.length / 2 ^ h * 2 ^ h < xs.length := by omega
    refine ⟨?_, fun h1 => absurd h1 h0, fun _ => ⟨_, k.at' _ hlt⟩⟩
    rw [k.len hx hlt]
    omega
/-- A digest more. -/
theorem FS.snoc (k : FS F h xs) (hh : isH h) (hx : D32 xs) (hn : xs.length + 1 ≤ 1099511627776) (x : List Int) : FS (upd F (sN h 0 (xs.length / 2 ^ h)) (some (fl F (sN h 0 (xs.length / 2 ^ h)) ++ x))) h (xs ++ [x]) := by
  have hp := Nat.two_pow_pos h
  have e := Nat.div_add_mod xs.length (2 ^ h)
  have m := Nat.mod_lt xs.length hp
  rw [Nat.mul_comm] at e
  have hq : tFB h 0 (xs.length / 2 ^ h) = true := tFB_in hh (m := xs.length) (by omega) (by omega)
  constructor
  · intro i hi
    rw [List.length_append, List.length_cons, List.length_nil] at hi
    by_cases hi2 : i = xs.length / 2 ^ h
    · subst hi2
      rw [upd_same]
      by_cases h0 : xs.length % 2 ^ h = 0
      · have hoff := k.off hh (by omega) (i := xs.length / 2 ^ h) (by omega)
        rw [fl_none hoff, show xs.length / 2 ^ h * 2 ^ h = xs.length by omega, List.drop_left]
        rw [List.take_of_length_le (by simp; omega)]
        simp
      · have hlt : xs.length / 2 ^ h * 2 ^ h < xs.length := by omega
        have e1 : fl F (sN h 0 (xs.length / 2 ^ h)) = ((xs.drop (xs.length / 2 ^ h * 2 ^ h)).take (2 ^ h)).flatten := by unfold fl; rw [k.at' _ hlt]; rfl
        rw [e1, List.drop_append_of_le_length (by omega), List.take_of_length_le (l := xs.drop _) (by rw [List.length_drop]; omega), List.take_of_length_le (by rw [List.length_append, List.length_drop]; simp; omega)]
        simp
    · have hlt : i < xs.length / 2 ^ h := by
        have h1 : i ≤ xs.length / 2 ^ h := by
          rw [Nat.le_div_iff_mul_le hp]
          omega
        omega
      have h2 := Nat.mul_le_mul_right (2 ^ h) (show i + 1 ≤ xs.length / 2 ^ h from hlt)
      rw [Nat.add_mul, Nat.one_mul] at h2
      rw [upd_ne _ _ (fun e => hi2 (sN_inj (tFB_in hh (m := xs.length) (by omega) (by omega)) e).2.2), k.at' i (by omega), List.drop_append_of_le_length (by omega), List.take_append_of_le_length (by rw [List.length_drop]; omega)]
  · intro n hne
    rw [upd_ne _ _ (hne _ (by rw [List.length_append]; simp; omega))]
    exact k.no n (fun i hi => hne i (by rw [List.length_append]; omega))
theorem FS.nmd (k : FS F h xs) (hh : isH h) (hn : xs.length ≤ 1099511627776) : Nmd F := by
  intro n hn2
  refine k.no n (fun i hi e => ?_)
  rw [e, sN_nm (tFB_in hh (Nat.le_of_lt hi) hn)] at hn2
  cases hn2
/-- The digest j. -/
theorem flat_at : ∀ (ys : List (List Int)) (j : Nat), D32 ys → j < ys.length → (ys.flatten.drop (j * 32)).take 32 = ys.getD j []
  | [], j, _, hj => by simp at hj
  | y :: t, 0, k, _ => by
    have h1 := k y (by simp)
    simp [List.take_append_of_le_length (Nat.le_of_eq h1.symm), List.take_of_length_le (Nat.le_of_eq h1)]
  | y :: t, j + 1, k, hj => by
    have h1 := k y (by simp)
    have ih := flat_at t j (fun z hz => k z (List.mem_cons_of_mem _ hz)) (by simpa using hj)
    rw [List.flatten_cons, Nat.add_mul, Nat.one_mul, List.drop_append, List.drop_of_length_le (by omega), List.nil_append, show j * 32 + 32 - y.length = j * 32 by omega, ih]
    simp
theorem FS.dg (k : FS F h xs) (hx : D32 xs) {j : Nat} (hj : j < xs.length) : Go.Proofs.YtlgcjdgcgnlcaaaDoor.dg F h 0 j = xs.getD j [] := by
  have hp := Nat.two_pow_pos h
  have e := Nat.div_add_mod j (2 ^ h)
  have m := Nat.mod_lt j hp
  rw [Nat.mul_comm] at e
  have e1 : fl F (sN h 0 (j / 2 ^ h)) = ((xs.drop (j / 2 ^ h * 2 ^ h)).take (2 ^ h)).flatten := by unfold fl; rw [k.at' _ (quo_lt hp hj)]; rfl
  unfold Go.Proofs.YtlgcjdgcgnlcaaaDoor.dg
  rw [e1, flat_at _ _ ((hx.drop _).take _) (by rw [List.length_take, List.length_drop]; omega)]
  simp only [List.getD, List.getElem?_take, List.getElem?_drop]
  rw [if_pos m, e]
end

/-! ### the raw writes of a Put -/
theorem crS_is {rs : List Rw} {n : ByteArray} (hn : nmB n = true) : crS rs n = if play rs n = none then rs ++ [rCr n] else rs := by
  unfold crS crE
  rw [if_pos hn]
  cases hf : play rs n with
  | none => simp
  | some xs => simp
/-- What Put's raw writes make, and those of a beginning of them. -/
theorem puW_play {s : Nat} {rs : List Rw} (hs : 1 ≤ s) (hv : Val s (fun _ => none) rs) {n : ByteArray} (hn : nmB n = true) {x : List Int} (h0 : x ≠ []) (hB : isB x) :
    Val s (fun _ => none) (puW s rs n x) ∧ play (puW s rs n x) = upd (play rs) n (some (fl (play rs) n ++ x)) ∧ wt (puW s rs n x) ≤ wt rs + 2 * x.length + 2 := by
  have key : ∀ qs : List Rw, Val s (fun _ => none) qs → (∃ ys, play qs n = some ys) → Val s (fun _ => none) (apS s qs n x) ∧ play (apS s qs n x) = upd (play qs) n (some (fl (play qs) n ++ x)) ∧ wt (apS s qs n x) ≤ wt qs + 2 * x.length + 1 := by
    rintro qs hq ⟨ys, hys⟩
    have e0 : fE qs n = 0 := by simp [fE, hn, hys]
    have e1 : apS s qs n x = qs ++ expd s ⟨rAp n x, qs.length, (fl (play qs) n).length⟩ := by unfold apS; rw [if_pos ⟨e0, h0⟩]
    have hl : Leg (play qs) (rAp n x) := .inr (.inl ⟨n, x, ys, rfl, hn, hys, h0, hB⟩)
    obtain ⟨d1, d2⟩ := expd_does hs (e := ⟨rAp n x, qs.length, (fl (play qs) n).length⟩) hl rfl
    rw [e1]
    refine ⟨(Val_app s qs _ _).2 ⟨hq, d2⟩, ?_, ?_⟩
    · rw [play_app]
      show List.foldl doR (play qs) _ = _
      rw [d1]
      exact do_ap _ _ _
    · rw [wt_app]
      have := expd_wt hs ⟨rAp n x, qs.length, (fl (play qs) n).length⟩
      change _ ≤ 2 * x.length + 1 at this
      omega
  unfold puW
  rw [crS_is hn]
  by_cases hf : play rs n = none
  · rw [if_pos hf]
    have e2 : play (rs ++ [rCr n]) = upd (play rs) n (some []) := by rw [play_snoc, do_cr]
    have hv2 : Val s (fun _ => none) (rs ++ [rCr n]) := (Val_app s rs _ _).2 ⟨hv, ⟨.inl ⟨n, rfl, hn, hf⟩, fun h => by simp [rCr] at h⟩, trivial⟩
    obtain ⟨a, b, c⟩ := key _ hv2 ⟨[], by rw [e2, upd_same]⟩
    refine ⟨a, ?_, ?_⟩
    · rw [b, e2, upd_upd, fl_upS]
      simp [fl_none hf]
    · rw [wt_app] at c
      have e : wt [rCr n] = 1 := rfl
      omega
  · rw [if_neg hf]
    obtain ⟨ys, hys⟩ : ∃ ys, play rs n = some ys := by
      cases h : play rs n with
      | none => exact absurd h hf
      | some ys => exact ⟨ys, rfl⟩
    obtain ⟨a, b, c⟩ := key _ hv ⟨ys, hys⟩
    exact ⟨a, b, by omega⟩

end Go.Proofs.YtlgcjdgcgnlcaaaDoor
