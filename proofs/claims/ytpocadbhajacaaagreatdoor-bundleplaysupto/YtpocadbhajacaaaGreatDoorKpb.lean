/-
  Entries of a record, and the raw writes that they are, without any program.
-/
import Derived.Test.YtpocadbhajacaaaGreatDoorKpa
namespace Go.Proofs.YtpocadbhajacaaaGreatDoor
open Go.RowKit
set_option linter.unusedVariables false

/-- An entry: what a call wrote, the number of its first raw write, how many bytes the file had. -/
structure En where
  r : Rw
  first : Nat
  had : Nat
def cnt (s : Nat) (e : En) : Nat := if e.r.k = 2 then cntN s e.had e.r.b.length else 1
def edge (s : Nat) (e : En) (k : Nat) : Nat := edgeN s e.had e.r.b.length k
/-- Raw writes from i up to j as one. -/
def pieces (s : Nat) (e : En) (i j : Nat) : Rw := ⟨e.r.k, e.r.n, (e.r.b.drop (edge s e i)).take (edge s e j - edge s e i), e.r.s, e.r.t⟩
def expK (s : Nat) (e : En) (k : Nat) : List Rw := (List.range k).map fun i => pieces s e i (i + 1)
def expd (s : Nat) (e : En) : List Rw := expK s e (cnt s e)
theorem expK_succ (s : Nat) (e : En) (k : Nat) : expK s e (k + 1) = expK s e k ++ [pieces s e k (k + 1)] := by simp [expK, List.range_succ]
theorem expK_length (s : Nat) (e : En) (k : Nat) : (expK s e k).length = k := by simp [expK]
theorem expd_length (s : Nat) (e : En) : (expd s e).length = cnt s e := expK_length _ _ _
theorem expd_at (s : Nat) (e : En) (i : Nat) (h : i < cnt s e) : (expd s e)[i]? = some (pieces s e i (i + 1)) := by
  simp [expd, expK, h]
theorem expK_take (s : Nat) (e : En) (j k : Nat) : (expK s e j).take k = expK s e (min k j) := by
  simp only [expK, ← List.map_take, List.take_range]
theorem take_edge (s : Nat) (e : En) (k : Nat) : e.r.b.take (edge s e (k + 1)) = e.r.b.take (edge s e k) ++ (e.r.b.drop (edge s e k)).take (edge s e (k + 1) - edge s e k) := by
  have h := edge_mono s e.had e.r.b.length (Nat.le_succ k)
  have h' : edge s e k ≤ edge s e (k + 1) := h
  rw [← List.take_add]
  congr 1
  omega
/-- What a call that may be done makes is what its raw writes make; each of them may be done. -/
theorem expd_ap {s : Nat} (hs : 1 ≤ s) {f : (ByteArray → Option (List Int))} {n : ByteArray} {b xs : List Int} {first : Nat} (hn : nmB n = true) (hf : f n = some xs) (hb : b ≠ []) (hB : isB b) :
    ∀ k, k ≤ cntN s xs.length b.length → (expK s ⟨rAp n b, first, xs.length⟩ k).foldl doR f = upd f n (some (xs ++ b.take (edge s ⟨rAp n b, first, xs.length⟩ k))) ∧ Val s f (expK s ⟨rAp n b, first, xs.length⟩ k)
  | 0, _ => by
    simp only [expK, List.range_zero, List.map_nil, List.foldl_nil, Val, and_true]
    rw [edge, edge_zero, List.take_zero, List.append_nil, ← hf, upd_self]
  | k + 1, hk => by
    have hlen : 0 < b.length := List.length_pos_iff.2 hb
    obtain ⟨h1, h2⟩ := expd_ap hs (first := first) hn hf hb hB k (by omega)
    rw [expK_succ, List.foldl_append, Val_app, h1]
    have ep : pieces s ⟨rAp n b, first, xs.length⟩ k (k + 1) = rAp n ((b.drop (edge s ⟨rAp n b, first, xs.length⟩ k)).take (edge s ⟨rAp n b, first, xs.length⟩ (k + 1) - edge s ⟨rAp n b, first, xs.length⟩ k)) := rfl
    have et := take_edge s ⟨rAp n b, first, xs.length⟩ k
    have e1 : edge s ⟨rAp n b, first, xs.length⟩ k < edge s ⟨rAp n b, first, xs.length⟩ (k + 1) := edge_step hs hlen (by omega : k < cntN s xs.length b.length)
    have e2 : edge s ⟨rAp n b, first, xs.length⟩ (k + 1) ≤ b.length := Nat.min_le_right _ _
    have e3 : (xs.length + edge s ⟨rAp n b, first, xs.length⟩ k) % s + (edge s ⟨rAp n b, first, xs.length⟩ (k + 1) - edge s ⟨rAp n b, first, xs.length⟩ k) ≤ s := edge_fits hs (by omega : k < cntN s xs.length b.length)
    change b.take _ = b.take _ ++ _ at et
    rw [ep, et]
    generalize edge s ⟨rAp n b, first, xs.length⟩ k = p at *
    generalize edge s ⟨rAp n b, first, xs.length⟩ (k + 1) = q at *
    have hfl : fl (upd f n (some (xs ++ b.take p))) n = xs ++ b.take p := by simp [fl, upd_same]
    refine ⟨?_, h2, ⟨?_, fun _ => ?_⟩, trivial⟩
    · rw [List.foldl_cons, List.foldl_nil, do_ap, hfl, upd_upd, List.append_assoc]
      rfl
    · refine .inr (.inl ⟨n, _, xs ++ b.take p, rfl, hn, upd_same _ _ _, ?_, (hB.drop _).take _⟩)
      intro h0
      have := congrArg List.length h0
      simp at this
      omega
    · show (fl (upd f n (some (xs ++ b.take p))) n).length % s + ((b.drop p).take (q - p)).length ≤ s
      rw [hfl]
      simp only [List.length_append, List.length_take, List.length_drop]
      rw [Nat.min_eq_left (by omega : p ≤ b.length), Nat.min_eq_left (by omega : q - p ≤ b.length - p)]
      exact e3
theorem pieces_b0 (s : Nat) (e : En) (h : e.r.b = []) (i j : Nat) : pieces s e i j = e.r := by
  unfold pieces
  simp [h]
  obtain ⟨⟨k, n, b, s, t⟩, _, _⟩ := e
  simp at h
  simp [h]
theorem expd_one (s : Nat) (e : En) (hk : e.r.k ≠ 2) (h : e.r.b = []) : expd s e = [e.r] := by
  have hc : cnt s e = 1 := by simp [cnt, hk]
  rw [expd, hc, expK_succ]
  simp [expK, pieces_b0 s e h]
theorem expd_does {s : Nat} (hs : 1 ≤ s) {f : (ByteArray → Option (List Int))} {e : En} (h : Leg f e.r) (hh : e.had = (fl f e.r.n).length) : (expd s e).foldl doR f = doR f e.r ∧ Val s f (expd s e) := by
  by_cases hk : e.r.k = 2
  · obtain ⟨r, first, had⟩ := e
    rcases h with ⟨n, rfl, _⟩ | ⟨n, b, xs, rfl, hn, hf, hb, hB⟩ | ⟨n, k, xs, rfl, _⟩ | ⟨n, xs, rfl, _⟩ | ⟨n, t, xs, rfl, _⟩
    · cases hk
    · have hx : fl f n = xs := by simp [fl, hf]
      have hh' : had = xs.length := by
        have hh2 : had = (fl f n).length := hh
        rw [hh2, hx]
      subst hh'
      have hc : cnt s ⟨rAp n b, first, xs.length⟩ = cntN s xs.length b.length := rfl
      obtain ⟨h1, h2⟩ := expd_ap hs (first := first) hn hf hb hB (cntN s xs.length b.length) (Nat.le_refl _)
      rw [expd, hc, h1]
      refine ⟨?_, h2⟩
      show upd f n _ = upd f n (some (fl f n ++ b))
      rw [hx, edge]
      have : edgeN s xs.length b.length (cntN s xs.length b.length) = b.length := edge_cnt hs (Nat.le_refl _)
      show upd f n (some (xs ++ b.take (edgeN s xs.length b.length (cntN s xs.length b.length)))) = _
      rw [this, List.take_length]
    · cases hk
    · cases hk
    · cases hk
  · rw [expd_one s e hk (h.b0 hk)]
    exact ⟨rfl, ⟨h, fun h2 => absurd h2 hk⟩, trivial⟩
theorem cnt_ge {s : Nat} (hs : 1 ≤ s) {f : (ByteArray → Option (List Int))} {e : En} (h : Leg f e.r) : 1 ≤ cnt s e := by
  unfold cnt
  split
  · rename_i hk
    rcases h with ⟨n, hr, _⟩ | ⟨n, b, xs, hr, hn, hf, hb, hB⟩ | ⟨n, k, xs, hr, _⟩ | ⟨n, xs, hr, _⟩ | ⟨n, t, xs, hr, _⟩
    · rw [hr] at hk; cases hk
    · exact cnt_pos hs (by rw [hr]; exact List.length_pos_iff.2 hb)
    · rw [hr] at hk; cases hk
    · rw [hr] at hk; cases hk
    · rw [hr] at hk; cases hk
  · exact Nat.le_refl _
/-- The first k of an entry's raw writes, as a call of their own. -/
theorem expd_cut {s : Nat} (hs : 1 ≤ s) {f : (ByteArray → Option (List Int))} {e : En} (h : Leg f e.r) {k : Nat} (h0 : 1 ≤ k) (first : Nat) : expd s ⟨pieces s e 0 k, first, e.had⟩ = (expd s e).take k ∧ Leg f (pieces s e 0 k) := by
  by_cases hk : e.r.k = 2
  · obtain ⟨r, first', had⟩ := e
    rcases h with ⟨n, rfl, _⟩ | ⟨n, b, xs, rfl, hn, hf, hb, hB⟩ | ⟨n, k, xs, rfl, _⟩ | ⟨n, xs, rfl, _⟩ | ⟨n, t, xs, rfl, _⟩
    · cases hk
    · have hlen : 0 < b.length := List.length_pos_iff.2 hb
      have ep : pieces s ⟨rAp n b, first', had⟩ 0 k = rAp n (b.take (edgeN s had b.length k)) := by
        simp only [pieces, edge, edge_zero, List.drop_zero, Nat.sub_zero]
        rfl
      have el : (b.take (edgeN s had b.length k)).length = edgeN s had b.length k := by
        rw [List.length_take]
        exact Nat.min_eq_left (Nat.min_le_right _ _)
      have e1 : 0 < edgeN s had b.length k := by
        have h1 := edge_step (had := had) hs hlen (cnt_pos hs hlen : 0 < cntN s had b.length)
        rw [edge_zero] at h1
        have h2 := edge_mono s had b.length h0
        simp only [Nat.zero_add] at h1
        omega
      rw [ep]
      refine ⟨?_, .inr (.inl ⟨n, _, xs, rfl, hn, hf, ?_, hB.take _⟩)⟩
      · have hc1 : cnt s ⟨rAp n (b.take (edgeN s had b.length k)), first, had⟩ = min k (cntN s had b.length) := by
          show cntN s had (b.take (edgeN s had b.length k)).length = _
          rw [el]
          exact cnt_cut hs h0
        have hc2 : cnt s ⟨rAp n b, first', had⟩ = cntN s had b.length := rfl
        rw [expd, expd, expK_take, hc1, hc2]
        unfold expK
        apply List.map_congr_left
        intro i hi
        have hi' : i < min k (cntN s had b.length) := List.mem_range.1 hi
        have q1 : edge s ⟨rAp n (b.take (edgeN s had b.length k)), first, had⟩ i = edge s ⟨rAp n b, first', had⟩ i := by
          show edgeN s had (b.take (edgeN s had b.length k)).length i = edgeN s had b.length i
          rw [el]
          exact edge_cut s had b.length (by omega)
        have q2 : edge s ⟨rAp n (b.take (edgeN s had b.length k)), first, had⟩ (i + 1) = edge s ⟨rAp n b, first', had⟩ (i + 1) := by
          show edgeN s had (b.take (edgeN s had b.length k)).length (i + 1) = edgeN s had b.length (i + 1)
          rw [el]
          exact edge_cut s had b.length (by omega)
        have q3 : edge s ⟨rAp n b, first', had⟩ (i + 1) ≤ edgeN s had b.length k := edge_mono s had b.length (by omega)
        have q4 : edge s ⟨rAp n b, first', had⟩ i ≤ edge s ⟨rAp n b, first', had⟩ (i + 1) := edge_mono s had b.length (Nat.le_succ i)
        unfold pieces
        rw [q1, q2]
        have : ((b.take (edgeN s had b.length k)).drop (edge s ⟨rAp n b, first', had⟩ i)).take (edge s ⟨rAp n b, first', had⟩ (i + 1) - edge s ⟨rAp n b, first', had⟩ i) = (b.drop (edge s ⟨rAp n b, first', had⟩ i)).take (edge s ⟨rAp n b, first', had⟩ (i + 1) - edge s ⟨rAp n b, first', had⟩ i) := by
          rw [List.drop_take, List.take_take, Nat.min_eq_left (by omega)]
        show (⟨2, n, ((b.take (edgeN s had b.length k)).drop _).take _, 0, ByteArray.empty⟩ : Rw) = ⟨2, n, _, 0, ByteArray.empty⟩
        rw [this]
        rfl
      · intro h3
        have := congrArg List.length h3
        rw [el] at this
        simp at this
        omega
    · cases hk
    · cases hk
    · cases hk
  · have hb := h.b0 hk
    rw [pieces_b0 s e hb, expd_one s e hk hb, expd_one s ⟨e.r, first, e.had⟩ hk hb]
    refine ⟨?_, h⟩
    rw [List.take_of_length_le (by simp; omega)]
/-! ### records -/
def recs (s : Nat) (es : List En) : List Rw := es.flatMap (expd s)
theorem recs_app (s : Nat) (a b : List En) : recs s (a ++ b) = recs s a ++ recs s b := by simp [recs]
theorem recs_one (s : Nat) (e : En) : recs s [e] = expd s e := by simp [recs]
/-- A record that was kept as it must be. -/
def RecOk (s : Nat) (es : List En) : Prop := ∀ (i : Nat) e, es[i]? = some e → e.first = (recs s (es.take i)).length ∧ e.had = (fl (play (recs s (es.take i))) e.r.n).length ∧ Leg (play (recs s (es.take i))) e.r
theorem RecOk.nil (s : Nat) : RecOk s [] := fun i e h => by simp at h
theorem RecOk.snoc {s : Nat} {es : List En} (h : RecOk s es) {e : En} (h1 : e.first = (recs s es).length) (h2 : e.had = (fl (play (recs s es)) e.r.n).length) (h3 : Leg (play (recs s es)) e.r) : RecOk s (es ++ [e]) := by
  intro i x hx
  by_cases hi : i < es.length
  · rw [List.getElem?_append_left hi] at hx
    rw [List.take_append_of_le_length (by omega)]
    exact h i x hx
  · rw [List.getElem?_append_right (by omega)] at hx
    have h0 : i - es.length = 0 := by
      have := (List.getElem?_eq_some_iff.1 hx).1
      simp at this
      omega
    rw [h0] at hx
    simp at hx
    subst hx
    have : i = es.length := by omega
    subst this
    rw [List.take_append_of_le_length (Nat.le_refl _), List.take_length]
    exact ⟨h1, h2, h3⟩
theorem take_at {es : List En} {i : Nat} {e : En} (h : es[i]? = some e) : es.take (i + 1) = es.take i ++ [e] := by
  obtain ⟨hi, rfl⟩ := List.getElem?_eq_some_iff.1 h
  exact List.take_succ_eq_append_getElem hi
theorem RecOk.val {s : Nat} (hs : 1 ≤ s) {es : List En} (h : RecOk s es) : ∀ i, i ≤ es.length → Val s (fun _ => none) (recs s (es.take i))
  | 0, _ => by simp [recs, Val]
  | i + 1, hi => by
    obtain ⟨e, he⟩ : ∃ e, es[i]? = some e := ⟨es[i], List.getElem?_eq_getElem (by omega)⟩
    obtain ⟨_, h2, h3⟩ := h i e he
    rw [take_at he, recs_app, recs_one, Val_app]
    exact ⟨h.val hs i (by omega), (expd_does hs h3 h2).2⟩
/-- At the place of a raw write: which entry it is of. -/
theorem RecOk.at {s : Nat} (hs : 1 ≤ s) {es : List En} (h : RecOk s es) {j : Nat} {e : En} (hj : es[j]? = some e) {i : Nat} (h1 : e.first ≤ i) (h2 : i < e.first + cnt s e) : (recs s es)[i]? = some (pieces s e (i - e.first) (i - e.first + 1)) := by
  have e1 : es = es.take j ++ ([e] ++ es.drop (j + 1)) := by
    rw [← List.append_assoc, ← take_at hj, List.take_append_drop]
  rw [e1, recs_app, recs_app, recs_one]
  have hf := (h j e hj).1
  rw [List.getElem?_append_right (by omega), ← hf, List.getElem?_append_left (by rw [expd_length]; omega)]
  exact expd_at s e _ (by omega)
/-! ### how much raw writes weigh -/
def wt (rs : List Rw) : Nat := (rs.map fun r => r.b.length + 1).sum
theorem wt_app (a b : List Rw) : wt (a ++ b) = wt a + wt b := by simp [wt]
theorem len_wt (rs : List Rw) : rs.length ≤ wt rs := by
  induction rs with
  | nil => simp
  | cons x r ih => simp [wt] at ih ⊢; omega
theorem fl_wt : ∀ (rs : List Rw) (f : (ByteArray → Option (List Int))) (B : Nat), (∀ n, (fl f n).length ≤ B) → ∀ n, (fl (rs.foldl doR f) n).length ≤ B + wt rs
  | [], f, B, h, n => by simpa [wt] using h n
  | r :: t, f, B, h, n => by
    have hw : wt (r :: t) = r.b.length + 1 + wt t := by simp [wt]
    have h1 : ∀ m, (fl (doR f r) m).length ≤ B + r.b.length + 1 := by
      intro m
      have hn := h r.n
      have hm := h m
      have key : ∀ (g : (ByteArray → Option (List Int))) (x : ByteArray) (v : Option (List Int)), (v.getD []).length ≤ B + r.b.length + 1 → (fl g m).length ≤ B + r.b.length + 1 → (fl (upd g x v) m).length ≤ B + r.b.length + 1 := by
        intro g x v h1 h2
        unfold fl upd
        split
        · exact h1
        · exact h2
      unfold doR
      split
      · exact key _ _ _ (by simp) (by omega)
      · split
        · exact key _ _ _ (by simp; omega) (by omega)
        · split
          · exact key _ _ _ (by simp; omega) (by omega)
          · split
            · exact key _ _ _ (by simp) (by omega)
            · split
              · exact key _ _ _ (by simp) (key _ _ _ (by simp; omega) (by omega))
              · omega
    have h2 := fl_wt t (doR f r) _ h1 n
    rw [List.foldl_cons, hw]
    omega
theorem play_wt (rs : List Rw) (n : ByteArray) : (fl (play rs) n).length ≤ wt rs := by
  have := fl_wt rs (fun _ => none) 0 (fun n => by simp [fl]) n
  rw [Nat.zero_add] at this
  exact this
theorem expK_wt (s : Nat) (e : En) : ∀ k, wt (expK s e k) ≤ (e.r.b.take (edge s e k)).length + k
  | 0 => by simp [expK, wt]
  | k + 1 => by
    have h := expK_wt s e k
    rw [expK_succ, wt_app, take_edge]
    simp only [wt, List.map_cons, List.map_nil, List.sum_cons, List.sum_nil, pieces, List.length_append] at h ⊢
    omega
theorem expd_wt {s : Nat} (hs : 1 ≤ s) (e : En) : wt (expd s e) ≤ 2 * e.r.b.length + 1 := by
  have h := expK_wt s e (cnt s e)
  have h2 : cnt s e ≤ e.r.b.length + 1 := by
    unfold cnt
    split
    · exact cnt_bd hs
    · omega
  rw [expd]
  rw [List.length_take] at h
  omega

end Go.Proofs.YtpocadbhajacaaaGreatDoor
