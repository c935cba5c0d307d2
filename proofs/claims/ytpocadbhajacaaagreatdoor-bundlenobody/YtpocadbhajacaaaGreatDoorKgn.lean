/-
  Files by names, without any program: which names may be; how many bytes they have.
-/
import Derived.Test.YtpocadbhajacaaaGreatDoorKpb
namespace Go.Proofs.YtpocadbhajacaaaGreatDoor
open Go.RowKit
set_option linter.unusedVariables false
set_option linter.unusedSimpArgs false

/-- Files have names. -/
def Nmd (F : ByteArray → Option (List Int)) : Prop := ∀ n, nmB n = false → F n = none
theorem Nmd.doR {F : ByteArray → Option (List Int)} (h : Nmd F) {r : Rw} (hr : Leg F r) : Nmd (doR F r) := by
  intro n hn
  have key : ∀ (m : ByteArray) v, nmB m = true → upd F m v n = F n := fun m v hm => upd_ne F v (fun e => by rw [e, hm] at hn; cases hn)
  rcases hr with ⟨m, rfl, hm, _⟩ | ⟨m, b, xs, rfl, hm, _⟩ | ⟨m, k, xs, rfl, hm, _⟩ | ⟨m, xs, rfl, hm, _⟩ | ⟨m, t, xs, rfl, hm, ht, _⟩
  · rw [do_cr, key _ _ hm]; exact h n hn
  · rw [do_ap, key _ _ hm]; exact h n hn
  · rw [do_cu, key _ _ hm]; exact h n hn
  · rw [do_rm, key _ _ hm]; exact h n hn
  · rw [do_rn, upd_ne _ _ (fun e => by rw [e, hm] at hn; cases hn), key _ _ ht]; exact h n hn
theorem Nmd.val {s : Nat} : ∀ (rs : List Rw) (F : ByteArray → Option (List Int)), Nmd F → Val s F rs → Nmd (rs.foldl Go.Proofs.YtpocadbhajacaaaGreatDoor.doR F)
  | [], F, h, _ => h
  | r :: t, F, h, hv => Nmd.val t _ (h.doR hv.1.1) hv.2
theorem Nmd.play {s : Nat} {rs : List Rw} (hv : Val s (fun _ => none) rs) : Nmd (play rs) := Nmd.val rs _ (fun _ _ => rfl) hv
theorem fl_none {F : ByteArray → Option (List Int)} {n : ByteArray} (h : F n = none) : fl F n = [] := by simp [fl, h]
theorem least (p : Nat → Bool) : ∀ B, p B = false → ∃ n, (∀ j, j < n → p j = true) ∧ p n = false
  | 0, h => ⟨0, by omega, h⟩
  | B + 1, h => by
    by_cases hq : ∀ j, j < B + 1 → p j = true
    · exact ⟨B + 1, hq, h⟩
    · obtain ⟨j, hj, hp⟩ : ∃ j, j < B + 1 ∧ p j = false := by
        apply Classical.byContradiction
        intro hn
        exact hq (fun j hj => by
          cases e : p j with
          | true => rfl
          | false => exact absurd ⟨j, hj, e⟩ hn)
      have key : ∀ m, p m = false → ∃ n, (∀ j, j < n → p j = true) ∧ p n = false := by
        intro m
        induction m using Nat.strongRecOn with
        | _ m ih =>
          intro hm
          by_cases hq : ∃ j, j < m ∧ p j = false
          · obtain ⟨j, h1, h2⟩ := hq
            exact ih j h1 h2
          · refine ⟨m, fun j hj => ?_, hm⟩
            cases e : p j with
            | true => rfl
            | false => exact absurd ⟨j, hj, e⟩ hq
      exact key j hp
def swp (a b x : ByteArray) : ByteArray := if x = a then b else if x = b then a else x
theorem swp_inj (a b : ByteArray) {x y : ByteArray} (h : swp a b x = swp a b y) : x = y := by
  unfold swp at h
  by_cases h1 : x = a
  · by_cases h2 : y = a
    · rw [h1, h2]
    · rw [if_pos h1, if_neg h2] at h
      by_cases h3 : y = b
      · rw [if_pos h3] at h; rw [h1, h3, h]
      · rw [if_neg h3] at h; exact absurd h.symm h3
  · rw [if_neg h1] at h
    by_cases h3 : x = b
    · rw [if_pos h3] at h
      by_cases h2 : y = a
      · rw [if_pos h2] at h; rw [h3, h2, h]
      · rw [if_neg h2] at h
        by_cases h4 : y = b
        · rw [h3, h4]
        · rw [if_neg h4] at h; exact absurd h.symm h2
    · rw [if_neg h3] at h
      by_cases h2 : y = a
      · rw [if_pos h2] at h; exact absurd h h3
      · rw [if_neg h2] at h
        by_cases h4 : y = b
        · rw [if_pos h4] at h; exact absurd h h1
        · rw [if_neg h4] at h; exact h
/-- How many bytes the files of a list of names have. -/
def sumF (F : ByteArray → Option (List Int)) (ns : List ByteArray) : Nat := (ns.map fun n => (fl F n).length).sum
theorem sumF_le {F G : ByteArray → Option (List Int)} (f : ByteArray → ByteArray) : ∀ (ns : List ByteArray), (∀ n ∈ ns, (fl F n).length ≤ (fl G (f n)).length) → sumF F ns ≤ sumF G (ns.map f)
  | [], _ => Nat.le_refl _
  | n :: t, h => by
    have h1 := h n (by simp)
    have h2 := sumF_le f t (fun m hm => h m (List.mem_cons_of_mem _ hm))
    simp only [sumF, List.map_cons, List.sum_cons] at *
    omega
theorem sumF_one {F G : ByteArray → Option (List Int)} {m : ByteArray} {b : Nat} : ∀ (ns : List ByteArray), ns.Nodup → (∀ n, n ≠ m → fl F n = fl G n) → (fl F m).length ≤ (fl G m).length + b → sumF F ns ≤ sumF G ns + b
  | [], _, _, _ => by simp [sumF]
  | n :: t, hn, h1, h2 => by
    obtain ⟨ha, hb⟩ := List.nodup_cons.1 hn
    by_cases e : n = m
    · subst e
      have : sumF F t = sumF G t := by
        unfold sumF
        congr 1
        apply List.map_congr_left
        intro x hx
        rw [h1 x (fun e => ha (e ▸ hx))]
      simp only [sumF, List.map_cons, List.sum_cons] at *
      omega
    · have := sumF_one t hb h1 h2
      have e2 := h1 n e
      simp only [sumF, List.map_cons, List.sum_cons] at *
      rw [e2]
      omega
theorem fl_upS (F : ByteArray → Option (List Int)) (m : ByteArray) (v : Option (List Int)) : fl (upd F m v) m = v.getD [] := by unfold fl; rw [upd_same]
theorem fl_upN (F : ByteArray → Option (List Int)) {m n : ByteArray} (v : Option (List Int)) (h : n ≠ m) : fl (upd F m v) n = fl F n := by unfold fl; rw [upd_ne _ _ h]
theorem sum_wt {s : Nat} : ∀ (rs : List Rw) (F : ByteArray → Option (List Int)) (B : Nat), Val s F rs → (∀ ns : List ByteArray, ns.Nodup → sumF F ns ≤ B) → ∀ ns : List ByteArray, ns.Nodup → sumF (rs.foldl doR F) ns ≤ B + wt rs
  | [], F, B, _, h, ns, hn => by simpa [wt] using h ns hn
  | r :: t, F, B, hv, h, ns, hn => by
    have key : ∀ ms : List ByteArray, ms.Nodup → sumF (doR F r) ms ≤ B + (r.b.length + 1) := by
      intro ms hms
      rcases hv.1.1 with ⟨m, rfl, _, hf⟩ | ⟨m, b, xs, rfl, _, hf, _⟩ | ⟨m, k, xs, rfl, _⟩ | ⟨m, xs, rfl, _⟩ | ⟨m, u, xs, rfl, _, _, hf, hne⟩
      · have := sumF_one (F := doR F (rCr m)) (G := F) (m := m) (b := 0) ms hms (fun n e => by rw [do_cr, fl_upN _ _ e]) (by rw [do_cr, fl_upS]; simp)
        have := h ms hms
        omega
      · have := sumF_one (F := doR F (rAp m b)) (G := F) (m := m) (b := b.length) ms hms (fun n e => by rw [do_ap, fl_upN _ _ e]) (by rw [do_ap, fl_upS]; simp)
        have := h ms hms
        have e : (rAp m b).b.length = b.length := rfl
        omega
      · have := sumF_one (F := doR F (rCu m k)) (G := F) (m := m) (b := 0) ms hms (fun n e => by rw [do_cu, fl_upN _ _ e]) (by rw [do_cu, fl_upS]; simp; omega)
        have := h ms hms
        omega
      · have := sumF_one (F := doR F (rRm m)) (G := F) (m := m) (b := 0) ms hms (fun n e => by rw [do_rm, fl_upN _ _ e]) (by rw [do_rm, fl_upS]; simp)
        have := h ms hms
        omega
      · have h1 := sumF_le (F := doR F (rRn m u)) (G := F) (swp m u) ms (fun n _ => by
          rw [do_rn]
          unfold swp
          by_cases e1 : n = m
          · rw [e1, fl_upS]; simp
          · rw [fl_upN _ _ e1]
            by_cases e2 : n = u
            · rw [e2, fl_upS, if_neg (fun e => hne e.symm), if_pos rfl]; simp
            · rw [fl_upN _ _ e2, if_neg e1, if_neg e2]; exact Nat.le_refl _)
        have h2 := h (ms.map (swp m u)) (by
          unfold List.Nodup at *
          rw [List.pairwise_map]
          exact hms.imp (fun hne e => hne (swp_inj _ _ e)))
        omega
    have := sum_wt t (doR F r) (B + (r.b.length + 1)) hv.2 key ns hn
    have e : wt (r :: t) = r.b.length + 1 + wt t := by simp [wt]
    simp only [List.foldl_cons]
    omega
theorem play_sum {s : Nat} {rs : List Rw} (hv : Val s (fun _ => none) rs) (ns : List ByteArray) (hn : ns.Nodup) : sumF (play rs) ns ≤ wt rs := by
  have key : ∀ ms : List ByteArray, sumF (fun _ => none) ms = 0 := by
    intro ms
    induction ms with
    | nil => rfl
    | cons a t ih =>
      simp only [sumF, List.map_cons, List.sum_cons] at *
      rw [ih]
      rfl
  have := sum_wt rs (fun _ => none) 0 hv (fun ns _ => Nat.le_of_eq (key ns)) ns hn
  simpa [play] using this

end Go.Proofs.YtpocadbhajacaaaGreatDoor
