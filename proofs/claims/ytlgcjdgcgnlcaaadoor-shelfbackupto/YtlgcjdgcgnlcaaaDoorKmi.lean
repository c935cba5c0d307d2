/-
  After: the disk as it was behind its first raw writes.
-/
import Derived.Test.YtlgcjdgcgnlcaaaDoorKmh
namespace Go.Proofs.YtlgcjdgcgnlcaaaDoor
open Go.RowKit
set_option linter.unusedVariables false

theorem expK_wtE (s : Nat) (e : En) : ∀ k, wt (expK s e k) = (e.r.b.take (edge s e k)).length + k
  | 0 => by simp [expK, wt, edge, edge_zero]
  | k + 1 => by
    have h := expK_wtE s e k
    rw [expK_succ, wt_app, take_edge]
    simp only [wt, List.map_cons, List.map_nil, List.sum_cons, List.sum_nil, pieces, List.length_append] at h ⊢
    omega
theorem len_expd {s : Nat} (hs : 1 ≤ s) {f : (ByteArray → Option (List Int))} {e : En} (h : Leg f e.r) : e.r.b.length ≤ wt (expd s e) := by
  by_cases hk : e.r.k = 2
  · rw [expd, expK_wtE]
    have : edge s e (cnt s e) = e.r.b.length := by
      have hc : cnt s e = cntN s e.had e.r.b.length := by simp [cnt, hk]
      rw [hc]
      exact edge_cnt hs (Nat.le_refl _)
    rw [this, List.take_length]
    omega
  · rw [h.b0 hk]
    simp
theorem RecOk.len {s : Nat} (hs : 1 ≤ s) {es : List En} (h : RecOk s es) {i : Nat} {e : En} (hi : es[i]? = some e) : wt (recs s (es.take i)) + e.r.b.length ≤ wt (recs s es) ∧ e.had ≤ wt (recs s es) ∧ e.first ≤ wt (recs s es) := by
  obtain ⟨h1, h2, h3⟩ := h i e hi
  have h4 := len_expd hs h3
  have e1 : recs s es = recs s (es.take (i + 1)) ++ recs s (es.drop (i + 1)) := by rw [← recs_app, List.take_append_drop]
  rw [take_at hi, recs_app, recs_one] at e1
  have e2 : wt (recs s es) = wt (recs s (es.take i)) + wt (expd s e) + wt (recs s (es.drop (i + 1))) := by rw [e1, wt_app, wt_app]
  have h5 := play_wt (recs s (es.take i)) e.r.n
  have h6 := len_wt (recs s (es.take i))
  omega
/-- One entry more, of which the first raw writes are taken. -/
theorem RecOk.step {s : Nat} (hs : 1 ≤ s) {es : List En} (h : RecOk s es) {i : Nat} {e : En} (hi : es[i]? = some e) {n : Nat} (hn : e.first < n) :
    (recs s (es.take i)).take n = recs s (es.take i) ∧ (recs s (es.take (i + 1))).take n = recs s (es.take i) ++ expd s ⟨pieces s e 0 (n - e.first), (recs s (es.take i)).length, (fl (play (recs s (es.take i))) (pieces s e 0 (n - e.first)).n).length⟩ ∧ Leg (play (recs s (es.take i))) (pieces s e 0 (n - e.first)) := by
  obtain ⟨h1, h2, h3⟩ := h i e hi
  obtain ⟨c1, c2⟩ := expd_cut hs h3 (k := n - e.first) (by omega) (recs s (es.take i)).length
  have hh : (fl (play (recs s (es.take i))) (pieces s e 0 (n - e.first)).n).length = e.had := h2.symm
  refine ⟨List.take_of_length_le (by omega), ?_, c2⟩
  rw [hh, c1, take_at hi, recs_app, recs_one, List.take_append, List.take_of_length_le (by omega), ← h1]
theorem RecOk.over {s : Nat} {es : List En} (h : RecOk s es) {i : Nat} {e : En} (hi : es[i]? = some e) {n : Nat} (hn : n ≤ e.first) : (recs s (es.take i)).take n = (recs s es).take n := by
  obtain ⟨h1, h2, h3⟩ := h i e hi
  have e1 : recs s es = recs s (es.take i) ++ recs s (es.drop i) := by rw [← recs_app, List.take_append_drop]
  rw [e1, List.take_append, Nat.sub_eq_zero_of_le (by omega), List.take_zero, List.append_nil]
theorem pieces_len (s : Nat) (e : En) (i j : Nat) : (pieces s e i j).b.length ≤ e.r.b.length := by
  simp [pieces]
  omega
theorem pieces_cells (s : Nat) (e : En) (i j : Nat) (v : Value) : rwC (pieces s e i j).k (pieces s e i j).n v (pieces s e i j).s (pieces s e i j).t = rwC e.r.k e.r.n v e.r.s e.r.t := rfl

theorem sizeE (w : World) : (sizeOf 77).run Tryd.prog w = .ok 7 w := by kernel_rfl
theorem elemE : Tryd.prog.elem 70 = 77 := by kernel_rfl
theorem undEs2 : Tryd.prog.underlying 70 = some (.slice (Tryd.prog.elem 70)) := by kernel_rfl
theorem en_at (b n cap i : Nat) (hi : i < n) (v : World) : (Instr.indexAt 70 (.slice (some ⟨b, 0, none⟩) n cap) (.int .i64 (i : Int))).run Tryd.prog v = .ok (.pointer (some ⟨b, i * 7, none⟩)) v := by
  rw [run_indexAt_slice v _ _ _ _ .i64 i undEs2, if_pos ⟨by omega, by omega⟩, elemE, sizeE]
  simp only [Result.andThen_ok, Int.toNat_natCast]
  rw [Addr.add_lit, Nat.zero_add]
theorem ensC_at (l : List (En × Value)) : ∀ (k : Nat) (x : En × Value), l[k]? = some x → ((ensC l).drop (k * 7)).take 7 = enC x.1 x.2 := by
  intro k x hk
  obtain ⟨hlt, rfl⟩ := List.getElem?_eq_some_iff.1 hk
  have e : l = l.take k ++ (l[k] :: l.drop (k + 1)) := by rw [← List.drop_eq_getElem_cons hlt, List.take_append_drop]
  have ka : ∀ a b : List (En × Value), ensC (a ++ b) = ensC a ++ ensC b := fun a b => by simp [ensC]
  have kb : ∀ (y : En × Value) (b : List (En × Value)), ensC (y :: b) = enC y.1 y.2 ++ ensC b := fun y b => by simp [ensC]
  have e2 := congrArg ensC e
  rw [ka, kb] at e2
  have hl : (ensC (l.take k)).length = k * 7 := by rw [ensC_length, List.length_take]; congr 1; omega
  rw [e2, List.drop_append_of_le_length (by omega), List.drop_of_length_le (by omega), List.nil_append]
  exact List.take_left' rfl
theorem DkAt.recAt {w : World} {d s : Nat} {rs : List Rw} {D : Dm} (h : DkAt w d s rs D) (h0 : 0 < D.es.length) : ∃ gr cap cs, D.rv = .slice (some ⟨gr, 0, none⟩) D.es.length cap ∧ Blk w gr 77 cs ∧ ∀ (k : Nat) x, D.es[k]? = some x → (cs.drop (k * 7)).take 7 = enC x.1 x.2 := by
  obtain ⟨h1, h2⟩ := h.row
  rcases h2 with ⟨_, e⟩ | ⟨g, cap, cur, e, hg, hh, h3, h4, h5, h6⟩
  · omega
  · refine ⟨g, cap, cur.toList, e, by unfold Blk; simpa using hh, fun k x hk => ?_⟩
    have hlt : k < D.es.length := (List.getElem?_eq_some_iff.1 hk).1
    have := ensC_at D.es k x hk
    rw [← h6, List.drop_take, List.take_take, Nat.min_eq_left (by omega)] at this
    exact this
theorem wrap_sub {a b : Nat} (h : b ≤ a) (ha : a ≤ 4611686018427387904) : IntKind.i64.wrap ((a : Int) - (b : Int)) = ((a - b : Nat) : Int) ∧ wrap64 ((a : Int) - (b : Int)) = ((a - b : Nat) : Int) := by
  have e : (a : Int) - (b : Int) = ((a - b : Nat) : Int) := by omega
  rw [e]
  exact wrapN _ (by omega) (by omega)

/-- What After leaves: a disk of its own. -/
structure AfR (w w' : World) (o s : Nat) (D : Dm) (rs' : List Rw) (Do : Dm) : Prop where
  dk : DkAt w' o s rs' Do
  bel : Below w.heap.size w w'
  own : ∀ k, Do.own o k → w.heap.size ≤ k
  ro : ∀ k, Do.ro k → D.ro k
section
variable (d s : Nat) (rs : List Rw) (D : Dm) (w : World) (h : DkAt w d s rs D)
include h
end
theorem New0.dkAt {w w' : World} {g m : Nat} {s : Nat} (h : New0 w w' g m s) (h1 : 1 ≤ s) (h2 : s ≤ 4096) : DkAt w' g s [] ⟨m, .slice none 0 0, [], []⟩ :=
  ⟨h1, h2, h.dk, World.ownsRow_nil _ _ _ _, (fun x hx => by cases hx), RecOk.nil s, rfl, ⟨Mp.new h.mp, (fun n => rfl), (fun n v hv => by cases hv), (fun n n' v v' hv => by cases hv)⟩, Nat.le_refl _, (fun k ⟨n, v, hv, _⟩ => by cases hv)⟩
theorem New0.own {w w' : World} {g m : Nat} {s : Int} (h : New0 w w' g m s) : ∀ k, (⟨m, .slice none 0 0, [], []⟩ : Dm).own g k → w.heap.size ≤ k := fun k hk => by
  rcases hk with rfl | rfl | hk | ⟨n, v, hv, _⟩
  · exact h.new.1
  · exact h.new.2
  · cases hk
  · cases hv
/-- What stands at the head of After's loop. -/
structure AfI (w wr : World) (d o s : Nat) (rs : List Rw) (D : Dm) (n k : Nat) : Prop where
  le : k ≤ D.es.length
  ex : ∃ Do, AfR w wr o s D ((recs s ((D.es.map (·.1)).take k)).take n) Do
theorem AfI.below {w wr wr' : World} {d o s : Nat} {rs : List Rw} {D : Dm} {n k : Nat} (h : AfI w wr d o s rs D n k) (hb : Below wr.heap.size wr wr') : AfI w wr' d o s rs D n k := by
  obtain ⟨Do, hA⟩ := h.ex
  exact ⟨h.le, Do, hA.dk.below hb, hA.bel.trans (hb.mono hA.bel.size), hA.own, hA.ro⟩
theorem AfI.bel {w wr : World} {d o s : Nat} {rs : List Rw} {D : Dm} {n k : Nat} (h : AfI w wr d o s rs D n k) : Below w.heap.size w wr := by
  obtain ⟨Do, hA⟩ := h.ex
  exact hA.bel

end Go.Proofs.YtlgcjdgcgnlcaaaDoor
