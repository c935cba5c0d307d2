/-
  After: the disk as it was behind its first raw writes.
-/
import Derived.Test.YtpocadbhajacaaaGreatDoorKmh
namespace Go.Proofs.YtpocadbhajacaaaGreatDoor
open Go.RowKit
set_option linter.unusedVariables false

theorem expK_wtE (s : Nat) (e : En) : ∀ k, wt (expK s e k) = (e.r.b.take (edge s e k)).length + k
  | 0 => by simp [expK, wt, edge, edge_zero]
  | k + 1 => by
    have h := expK_wtE s e k
    rw [expK_succ, wt_app, take_edge]
    simp only [wt, List.map_cons, List.map_nil, List.sum_cons, List.sum_nil, pieces, List.length_append] at h ⊢
    omega
theorem len_expd {s : Nat} (hs : 1 ≤ s) {f : (ByteArray → Option (List Int))} {e : En} (h : Leg f e.r) : e.r.b.length ≤ wt (expd s e) := by
  by_cases hk : e.r.k = 2
  · rw [expd, expK_wtE]
    have : edge s e (cnt s e) = e.r.b.length := by
      have hc : cnt s e = cntN s e.had e.r.b.length := by simp [cnt, hk]
      rw [hc]
      exact edge_cnt hs (Nat.le_refl _)
    rw [this, List.take_length]
    omega
  · rw [h.b0 hk]
    simp
theorem RecOk.len {s : Nat} (hs : 1 ≤ s) {es : List En} (h : RecOk s es) {i : Nat} {e : En} (hi : es[i]? = some e) : wt (recs s (es.take i)) + e.r.b.length ≤ wt (recs s es) ∧ e.had ≤ wt (recs s es) ∧ e.first ≤ wt (recs s es) := by
  obtain ⟨h1, h2, h3⟩ := h i e hi
  have h4 := len_expd hs h3
  have e1 : recs s es = recs s (es.take (i + 1)) ++ recs s (es.drop (i + 1)) := by rw [← recs_app, List.take_append_drop]
  rw [take_at hi, recs_app, recs_one] at e1
  have e2 : wt (recs s es) = wt (recs s (es.take i)) + wt (expd s e) + wt (recs s (es.drop (i + 1))) := by rw [e1, wt_app, wt_app]
  have h5 := play_wt (recs s (es.take i)) e.r.n
  have h6 := len_wt (recs s (es.take i))
  omega
/-- One entry more, of which the first raw writes are taken. -/
theorem RecOk.step {s : Nat} (hs : 1 ≤ s) {es : List En} (h : RecOk s es) {i : Nat} {e : En} (hi : es[i]? = some e) {n : Nat} (hn : e.first < n) :
    (recs s (es.take i)).take n = recs s (es.take i) ∧ (recs s (es.take (i + 1))).take n = recs s (es.take i) ++ expd s ⟨pieces s e 0 (n - e.first), (recs s (es.take i)).length, (fl (play (recs s (es.take i))) (pieces s e 0 (n - e.first)).n).length⟩ ∧ Leg (play (recs s (es.take i))) (pieces s e 0 (n - e.first)) := by
  obtain ⟨h1, h2, h3⟩ := h i e hi
  obtain ⟨c1, c2⟩ := expd_cut hs h3 (k := n - e.first) (by omega) (recs s (es.take i)).length
  have hh : (fl (play (recs s (es.take i))) (pieces s e 0 (n - e.first)).n).length = e.had := h2.symm
  refine ⟨List.take_of_length_le (by omega), ?_, c2⟩
  rw [hh, c1, take_at hi, recs_app, recs_one, List.take_append, List.take_of_length_le (by omega), ← h1]
theorem wrap_sub {a b : Nat} (h : b ≤ a) (ha : a ≤ 4611686018427387904) : IntKind.i64.wrap ((a : Int) - (b : Int)) = ((a - b : Nat) : Int) ∧ wrap64 ((a : Int) - (b : Int)) = ((a - b : Nat) : Int) := by
  have e : (a : Int) - (b : Int) = ((a - b : Nat) : Int) := by omega
  rw [e]
  exact wrapN _ (by omega) (by omega)

section
variable (d s : Nat) (rs : List Rw) (D : Dm) (w : World) (h : DkAt w d s rs D)
include h
end
theorem New0.dkAt {w w' : World} {g m : Nat} {s : Nat} (h : New0 w w' g m s) (h1 : 1 ≤ s) (h2 : s ≤ 4096) : DkAt w' g s [] ⟨m, .slice none 0 0, [], []⟩ :=
  ⟨h1, h2, h.dk, World.ownsRow_nil _ _ _ _, (fun x hx => by cases hx), RecOk.nil s, rfl, ⟨Mp.new h.mp, (fun n => rfl), (fun n v hv => by cases hv), (fun n n' v v' hv => by cases hv)⟩, Nat.le_refl _, (fun k ⟨n, v, hv, _⟩ => by cases hv)⟩
theorem New0.own {w w' : World} {g m : Nat} {s : Int} (h : New0 w w' g m s) : ∀ k, (⟨m, .slice none 0 0, [], []⟩ : Dm).own g k → w.heap.size ≤ k := fun k hk => by
  rcases hk with rfl | rfl | hk | ⟨n, v, hv, _⟩
  · exact h.new.1
  · exact h.new.2
  · cases hk
  · cases hv
end Go.Proofs.YtpocadbhajacaaaGreatDoor
