/-
  Runs under an addition (pure).
-/
import Derived.Test.YtabpfbankinojaaDgs
namespace Go.Proofs.Ytabpfbankinojaa
open Go.RowKit
set_option linter.unusedVariables false

/-- The runs, the oldest first, behind an addition. -/
def addR (rs : List (List Ent)) (x : Ent) : List (List Ent) := (pushL kE rs.reverse [x]).reverse
/-- What holds of runs: each rises, and no digest is in two places. -/
structure RsOk (rs : List (List Ent)) : Prop where
  ok : RunsOk kE rs.reverse
  pw : PowsUp (rs.reverse.map List.length)
theorem RsOk.nil : RsOk [] := ⟨RunsOk.nil, PowsUp.nil⟩
theorem RsOk.sk {rs : List (List Ent)} (h : RsOk rs) : ∀ r ∈ rs, SK kE r := fun r hr => h.ok.1 r (List.mem_reverse.2 hr)
theorem RsOk.ne {rs : List (List Ent)} (h : RsOk rs) : ∀ r ∈ rs, 0 < r.length := fun r hr => by
  obtain ⟨k, hk⟩ := h.pw.2 r.length (List.mem_map.2 ⟨r, List.mem_reverse.2 hr, rfl⟩)
  rw [hk]
  exact Nat.two_pow_pos k
/-- How many there are. -/
def cnt (rs : List (List Ent)) : Nat := (rs.map List.length).sum
theorem cnt_rev (rs : List (List Ent)) : cnt rs.reverse = cnt rs := by
  unfold cnt
  rw [List.map_reverse]
  exact List.Perm.sum_nat (List.reverse_perm _)
theorem cnt_add (rs : List (List Ent)) (x : Ent) : cnt (addR rs x) = cnt rs + 1 := by
  unfold addR
  rw [cnt_rev, cnt, pushL_len, pushN_sum, List.length_singleton]
  have := cnt_rev rs
  unfold cnt at *
  omega
theorem le_sumL : ∀ {l : List Nat} {x : Nat}, x ∈ l → x ≤ l.sum
  | a :: t, x, h => by
    rw [List.sum_cons]
    rcases List.mem_cons.1 h with rfl | h
    · omega
    · have := le_sumL h
      omega
theorem cnt_le {rs : List (List Ent)} {r : List Ent} (h : r ∈ rs) : r.length ≤ cnt rs := by
  unfold cnt
  exact le_sumL (List.mem_map.2 ⟨r, h, rfl⟩)
/-- Few runs. -/
theorem pows_len : ∀ (t : List Nat), PowsUp t → 2 ^ t.length ≤ t.sum + 1
  | [], _ => by simp
  | t, h => by
    have key : ∀ (n : Nat) (l : List Nat), l.length = n → PowsUp l → (∀ x ∈ l, 2 ^ (n - 1) ≤ x → True) → 2 ^ n ≤ l.sum + 1 := by
      intro n
      induction n with
      | zero => intro l hl _ _; have : l = [] := List.eq_nil_of_length_eq_zero hl; subst this; simp
      | succ n ih =>
        intro l hl hp _
        have hne : l ≠ [] := by intro e; subst e; simp at hl
        have e : l.dropLast ++ [l.getLast hne] = l := List.dropLast_concat_getLast hne
        have hp' : PowsUp l.dropLast := ⟨List.Pairwise.sublist (List.dropLast_sublist l) hp.1, fun x hx => hp.2 x ((List.dropLast_sublist l).subset hx)⟩
        have h1 := ih l.dropLast (by simp; omega) hp' (fun _ _ _ => trivial)
        have hge : 2 ^ n ≤ l.getLast hne := by
          have aux : ∀ (m : Nat) (q : List Nat) (hq : q ≠ []), q.length = m + 1 → PowsUp q → 2 ^ m ≤ q.getLast hq := by
            intro m
            induction m with
            | zero =>
              intro q hq hl2 hp2
              obtain ⟨k, hk⟩ := hp2.2 (q.getLast hq) (List.getLast_mem hq)
              rw [hk]
              exact Nat.two_pow_pos k
            | succ m ihm =>
              intro q hq hl2 hp2
              have hqd : q.dropLast ≠ [] := by
                intro e
                have := congrArg List.length e
                simp at this
                omega
              have e2 : q.dropLast ++ [q.getLast hq] = q := List.dropLast_concat_getLast hq
              have hp3 : PowsUp q.dropLast := ⟨List.Pairwise.sublist (List.dropLast_sublist q) hp2.1, fun x hx => hp2.2 x ((List.dropLast_sublist q).subset hx)⟩
              have h4 := ihm q.dropLast hqd (by simp; omega) hp3
              have h5 : q.dropLast.getLast hqd < q.getLast hq := by
                have := hp2.1
                rw [← e2] at this
                exact (List.pairwise_append.1 this).2.2 _ (List.getLast_mem hqd) _ (by simp)
              obtain ⟨k, hk⟩ := hp2.2 (q.getLast hq) (List.getLast_mem hq)
              rw [hk] at h5 ⊢
              have h6 : 2 ^ m < 2 ^ k := by omega
              have h7 : m < k := (Nat.pow_lt_pow_iff_right (by decide)).1 h6
              exact Nat.pow_le_pow_right (by decide) h7
          exact aux n l hne hl hp
        have h2 : l.sum = l.dropLast.sum + l.getLast hne := by
          conv => lhs; rw [← e]
          simp
        rw [Nat.pow_succ, h2]
        omega
    exact key t.length t rfl h (fun _ _ _ => trivial)
theorem RsOk.few {rs : List (List Ent)} (h : RsOk rs) (hc : cnt rs ≤ 4398046511104) : rs.length ≤ 64 := by
  have h1 := pows_len _ h.pw
  have h2 : (rs.reverse.map List.length).sum = cnt rs := cnt_rev rs
  rw [List.length_map, List.length_reverse, h2] at h1
  by_cases h3 : rs.length ≤ 64
  · exact h3
  · have := Nat.pow_le_pow_right (n := 2) (by decide) (show 64 ≤ rs.length by omega)
    omega
theorem fnd_none {rs : List (List Ent)} {d : List Int} (h : fnd rs d = none) : ∀ r ∈ rs, ∀ e ∈ r, e.d ≠ d := fun r hr e he hd => by
  have h1 := List.findSome?_eq_none_iff.1 h r hr
  unfold fndR at h1
  rw [Option.map_eq_none_iff, List.find?_eq_none] at h1
  exact h1 e he (by simpa using hd)
theorem RsOk.add {rs : List (List Ent)} {x : Ent} (h : RsOk rs) (hn : fnd rs x.d = none) : RsOk (addR rs x) := by
  have hu : ∀ q ∈ rs.reverse, ∀ a ∈ [x], ∀ b ∈ q, kE a ≠ kE b := fun q hq a ha b hb e => by
    simp at ha
    subst ha
    exact fnd_none hn q (List.mem_reverse.1 hq) b hb (kE_d e.symm)
  refine ⟨?_, ?_⟩
  · unfold addR
    rw [List.reverse_reverse]
    exact pushL_ok h.ok (List.pairwise_singleton ..) hu
  · unfold addR
    rw [List.reverse_reverse, pushL_len, List.length_singleton]
    exact pushN_ok h.pw ⟨0, rfl⟩ (fun y hy => by
      obtain ⟨k, hk⟩ := h.pw.2 y hy
      rw [hk]
      exact Nat.two_pow_pos k)
theorem addR_mem (rs : List (List Ent)) (x : Ent) (y : Ent) : (∃ q ∈ addR rs x, y ∈ q) ↔ y = x ∨ ∃ q ∈ rs, y ∈ q := by
  unfold addR
  simp only [List.mem_reverse]
  rw [pushL_mem]
  simp
/-- Midway in an addition: keep of the runs are left, r is merged. -/
structure AR (rs : List (List Ent)) (x : Ent) (keep : Nat) (r : List Ent) : Prop where
  le : keep ≤ rs.length
  eq : pushL kE (rs.take keep).reverse r = pushL kE rs.reverse [x]
  sk : SK kE r
  un : ∀ q ∈ rs.take keep, ∀ a ∈ r, ∀ b ∈ q, kE a ≠ kE b
  ln : r.length + cnt (rs.take keep) = cnt rs + 1
theorem AR.start {rs : List (List Ent)} {x : Ent} (hn : fnd rs x.d = none) : AR rs x rs.length [x] :=
  ⟨Nat.le_refl _, by rw [List.take_length], List.pairwise_singleton .., fun q hq a ha b hb e => by
    simp at ha
    subst ha
    rw [List.take_length] at hq
    exact fnd_none hn q hq b hb (kE_d e.symm), by rw [List.take_length]; simp; omega⟩
theorem take_last {rs : List (List Ent)} {k : Nat} (h : k < rs.length) : rs.take (k + 1) = rs.take k ++ [rs.getD k []] := by
  rw [List.take_succ_eq_append_getElem h, List.getD_eq_getElem?_getD, List.getElem?_eq_getElem h, Option.getD_some]
theorem AR.step {rs : List (List Ent)} {x : Ent} {k : Nat} {r : List Ent} (ho : RsOk rs) (h : AR rs x (k + 1) r) (hl : (rs.getD k []).length = r.length) : AR rs x k (srtK kE (rs.getD k [] ++ r)) := by
  have hk := h.le
  have e := take_last (rs := rs) (k := k) (by omega)
  have hin : rs.getD k [] ∈ rs.take (k + 1) := by rw [e]; simp
  have hin2 : rs.getD k [] ∈ rs := (List.take_sublist _ _).subset hin
  have hpw : (rs.getD k [] ++ r).Pairwise fun a b => kE a ≠ kE b :=
    List.pairwise_append.2 ⟨(ho.sk _ hin2).imp (fun h => Nat.ne_of_lt h), h.sk.imp (fun h => Nat.ne_of_lt h), fun a ha b hb e => h.un _ hin b hb a ha e.symm⟩
  refine ⟨by omega, ?_, srtK_SK hpw, fun q hq a ha b hb => ?_, ?_⟩
  · have h1 := h.eq
    rw [e, List.reverse_append] at h1
    simp only [List.reverse_cons, List.reverse_nil, List.nil_append, List.singleton_append] at h1
    rw [← h1]
    conv => rhs; unfold pushL
    rw [if_pos hl]
  · rcases List.mem_append.1 ((srtK_mem _ a).1 ha) with h2 | h2
    · have h3 := ho.ok.2
      have h4 : (rs.reverse).Pairwise fun p q => ∀ a ∈ p, ∀ b ∈ q, kE a ≠ kE b := h3
      have h5 := List.pairwise_reverse.1 h4
      have h6 : (rs.take (k + 1)).Pairwise fun p q => ∀ a ∈ q, ∀ b ∈ p, kE a ≠ kE b := List.Pairwise.sublist (List.take_sublist _ _) h5
      rw [e] at h6
      exact (List.pairwise_append.1 h6).2.2 q hq _ (by simp) a h2 b hb
    · exact h.un q (by rw [e]; exact List.mem_append_left _ hq) a h2 b hb
  · have := h.ln
    rw [e] at this
    rw [srtK_len, List.length_append]
    unfold cnt at *
    simp only [List.map_append, List.sum_append, List.map_cons, List.map_nil, List.sum_cons, List.sum_nil] at this
    omega
theorem AR.fin {rs : List (List Ent)} {x : Ent} {k : Nat} {r : List Ent} (h : AR rs x k r) (hl : k = 0 ∨ (rs.getD (k - 1) []).length ≠ r.length) : addR rs x = rs.take k ++ [r] := by
  unfold addR
  rw [← h.eq]
  cases k with
  | zero => simp [pushL]
  | succ k =>
    have hk := h.le
    rcases hl with hl | hl
    · omega
    · rw [Nat.add_sub_cancel] at hl
      rw [take_last (rs := rs) (k := k) (by omega), List.reverse_append]
      simp only [List.reverse_cons, List.reverse_nil, List.nil_append, List.singleton_append]
      unfold pushL
      rw [if_neg hl]
      simp

end Go.Proofs.Ytabpfbankinojaa
