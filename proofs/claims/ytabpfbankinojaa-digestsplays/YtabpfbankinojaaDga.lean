/-
  Rows of wide elements, changes of memory by blocks (out of Kmb and Kqb, with the bound of an append in bytes).
-/
import Derived.Test.YtabpfbankinojaaMe
import Derived.Test.YtabpfbankinojaaNw
import Derived.Test.YtabpfbankinojaaBu
import Derived.Deep.Upon
import Derived.Great.BuildSlice
namespace Go.Proofs.Ytabpfbankinojaa
open Go.RowKit
set_option linter.unusedVariables false

/-- Only blocks of S have turned. -/
structure Chs (S : Nat → Prop) (w w' : World) : Prop where
  os : w'.os = w.os
  tape : w'.tape = w.tape
  output : w'.output = w.output
  size : w.heap.size ≤ w'.heap.size
  block : ∀ k, k < w.heap.size → ¬ S k → w'.heap[k]? = w.heap[k]?
section
variable {S T : Nat → Prop} {w a b c : World}
theorem Chs.refl (S : Nat → Prop) (w : World) : Chs S w w := ⟨rfl, rfl, rfl, Nat.le_refl _, fun _ _ _ => rfl⟩
theorem Chs.mono (h : Chs S a b) (hs : ∀ k, k < a.heap.size → S k → T k) : Chs T a b := ⟨h.os, h.tape, h.output, h.size, fun k hk hn => h.block k hk (fun hk' => hn (hs k hk hk'))⟩
theorem Chs.trans (h : Chs S a b) (k : Chs S b c) : Chs S a c :=
  ⟨k.os.trans h.os, k.tape.trans h.tape, k.output.trans h.output, Nat.le_trans h.size k.size, fun i hi hg => (k.block i (Nat.lt_of_lt_of_le hi h.size) hg).trans (h.block i hi hg)⟩
/-- One change behind another, whose blocks are those of the first or new ones. -/
theorem Chs.after (h : Chs S a b) (k : Chs T b c) (ht : ∀ i, T i → S i ∨ a.heap.size ≤ i) : Chs S a c :=
  ⟨k.os.trans h.os, k.tape.trans h.tape, k.output.trans h.output, Nat.le_trans h.size k.size, fun i hi hg => (k.block i (Nat.lt_of_lt_of_le hi h.size) (fun hT => by rcases ht i hT with h1 | h1; exact hg h1; omega)).trans (h.block i hi hg)⟩
theorem Chs.of_below (S : Nat → Prop) (h : Below a.heap.size a b) : Chs S a b := ⟨h.os, h.tape, h.output, h.size, fun i hi _ => h.block i hi⟩
theorem Chs.thenBelow (h : Chs S a b) (k : Below b.heap.size b c) : Chs S a c := h.trans (Chs.of_below S k)
theorem Chs.thenBut {g : Nat} (h : Chs S a b) (k : But g b c) (hg : S g ∨ a.heap.size ≤ g) : Chs S a c :=
  ⟨k.os.trans h.os, k.tape.trans h.tape, k.output.trans h.output, by rw [k.size]; exact h.size, fun i hi hn => (k.block i (fun e => by subst e; rcases hg with hg | hg; exact hn hg; omega)).trans (h.block i hi hn)⟩
theorem Chs.thenGrown {row : Option Nat} (h : Chs S a b) (k : b.grownBy c row) (hr : ∀ g, row = some g → S g ∨ a.heap.size ≤ g) : Chs S a c :=
  ⟨k.os.trans h.os, k.tape.trans h.tape, k.output.trans h.output, Nat.le_trans h.size k.size, fun i hi hn => (k.block i (Nat.lt_of_lt_of_le hi h.size) (fun e => by rcases hr i e.symm with hg | hg; exact hn hg; omega)).trans (h.block i hi hn)⟩
theorem Chs.below {B : Nat} (h : Chs S a b) (hS : ∀ k, k < B → ¬ S k) (hB : B ≤ a.heap.size) : Below B a b := ⟨h.os, h.tape, h.output, h.size, fun k hk => h.block k (by omega) (hS k hk)⟩
theorem Blk.chs {k : Nat} {t : TypeId} {cs : List Value} (h : Blk a k t cs) (hc : Chs S a b) (hk : ¬ S k) : Blk b k t cs := by
  unfold Blk; rw [hc.block k h.lt hk]; exact h
end
theorem Blk.same {w w' : World} {g : Nat} {t : TypeId} {cs : List Value} (h : Blk w g t cs) (hb : w'.heap[g]? = w.heap[g]?) : Blk w' g t cs := hb.trans h
theorem Blk.apart {W : World} {g g' : Nat} {t t' : TypeId} {cs cs' : List Value} (h : Blk W g t cs) (h' : Blk W g' t' cs') (ht : t ≠ t') : g ≠ g' := by
  rintro rfl
  rw [Blk, h] at h'
  injection h' with h'
  injection h' with _ h2 _
  exact ht h2
/-- Rows of any type: kept where their block is. -/
theorem row_same {w w' : World} {B : Nat} {e : TypeId} {q n : Nat} {v : Value} {xs : List Value} (h : w.ownsRow B e q v n xs) (hk : ∀ k, v.ownBlock = some k → w'.heap[k]? = w.heap[k]?) : w'.ownsRow B e q v n xs := by
  obtain ⟨h1, h2⟩ := h
  refine ⟨h1, ?_⟩
  rcases h2 with h2 | ⟨g, cap, cur, rfl, hg, hh, r⟩
  · exact .inl h2
  · exact .inr ⟨g, cap, cur, rfl, hg, (hk g rfl).trans hh, r⟩
theorem row_lies {w : World} {B : Nat} {e : TypeId} {q n : Nat} {v : Value} {xs : List Value} (h : w.ownsRow B e q v n xs) {k : Nat} (hk : v.ownBlock = some k) : ∃ cs, Blk w k e cs := by
  obtain ⟨h1, h2⟩ := h
  rcases h2 with ⟨rfl, _⟩ | ⟨g, cap, cur, rfl, hg, hh, r⟩
  · cases hk
  · injection hk with hk
    subst hk
    exact ⟨cur.toList, by unfold Blk; simpa using hh⟩
theorem row_slice {w : World} {B : Nat} {e : TypeId} {q n : Nat} {v : Value} {xs : List Value} (h : w.ownsRow B e q v n xs) : ∃ a c, v = .slice a n c := by
  obtain ⟨h1, h2⟩ := h
  rcases h2 with ⟨rfl, rfl⟩ | ⟨g, cap, cur, rfl, _⟩
  · exact ⟨_, _, rfl⟩
  · exact ⟨_, _, rfl⟩
theorem Own.same {w w' : World} {B : Nat} {v : Value} {xs : List Int} (h : Own w B v xs) (hk : ∀ k, v.ownBlock = some k → w'.heap[k]? = w.heap[k]?) : Own w' B v xs := row_same h hk
theorem Own.lies {w : World} {B : Nat} {v : Value} {xs : List Int} (h : Own w B v xs) {k : Nat} (hk : v.ownBlock = some k) : ∃ cs, Blk w k 5 cs := row_lies h hk
theorem Own.slice {w : World} {B : Nat} {v : Value} {xs : List Int} (h : Own w B v xs) : ∃ a c, v = .slice a xs.length c := row_slice h
theorem Own.mono0 {w : World} {B : Nat} {v : Value} {xs : List Int} (h : Own w B v xs) : Own w 0 v xs := by
  obtain ⟨h1, h2⟩ := h
  refine ⟨h1, ?_⟩
  rcases h2 with h2 | ⟨g, cap, cur, rfl, hg, r⟩
  · exact .inl h2
  · exact .inr ⟨g, cap, cur, rfl, Nat.zero_le _, r⟩
theorem Sl.same {w w' : World} {a : Option Addr} {len cap : Nat} {xs : List Int} (h : Sl w a len cap xs) (hk : ∀ x, a = some x → w'.heap[x.block]? = w.heap[x.block]?) : Sl w' a len cap xs := by
  obtain ⟨h1, h2, h3, h4, h5, h6, h7⟩ := h
  refine ⟨h1, h2, h3, h4, h5, h6, fun h0 => ?_⟩
  obtain ⟨bl, off, e, hce⟩ := h7 h0
  refine ⟨bl, off, e, fun i hi => ?_⟩
  have hbl : w'.heap[bl]? = w.heap[bl]? := hk _ e
  rw [World.cell?_of_block (w := w) (a := ⟨bl, off + i, none⟩) hbl]
  exact hce i hi
theorem Sl.none0 (w : World) : Sl w none 0 0 [] := ⟨rfl, Nat.le_refl _, by omega, by omega, (fun x hx => by cases hx), (fun _ => ⟨rfl, rfl⟩), fun h => absurd h (Nat.lt_irrefl 0)⟩
/-- An element's type and its slices'. -/
structure Ro (T e : TypeId) (q by' : Nat) (z : Value) : Prop where
  und : Try.prog.underlying T = some (.slice e)
  el : Try.prog.elem T = e
  info : (Try.prog.info? e).map (fun i => (i.zero, i.size, i.bytes)) = some (some z, q, by')
  zs : z.cells.size = q
  q0 : 0 < q
  b0 : 0 < by'
  q9 : q ≤ 1000
  sz : ∀ w, (sizeOf e).run Try.prog w = .ok q w
theorem Ro.und2 {T e : TypeId} {q by' : Nat} {z : Value} (R : Ro T e q by' z) : Try.prog.underlying T = some (.slice (Try.prog.elem T)) := by rw [R.el]; exact R.und
/-- A slice's elements, seen. -/
structure Vw (w : World) (e : TypeId) (q : Nat) (v : Value) (n : Nat) (xs : List Value) : Prop where
  len : xs.length = n * q
  at' : ∃ a c, v = .slice a n c ∧ n ≤ c ∧ (n ≠ 0 → ∃ g o cs, a = some ⟨g, o, none⟩ ∧ Blk w g e cs ∧ (cs.drop o).take (n * q) = xs)
section
variable {T e : TypeId} {q by' : Nat} {z : Value} {w w' : World} {v : Value} {n : Nat} {xs : List Value}
theorem Vw.of_row {B : Nat} (h : w.ownsRow B e q v n xs) : Vw w e q v n xs := by
  obtain ⟨h1, h2⟩ := h
  refine ⟨h1, ?_⟩
  rcases h2 with ⟨rfl, rfl⟩ | ⟨g, cap, cur, rfl, hg, hh, h3, h4, h5, h6⟩
  · exact ⟨none, 0, rfl, Nat.le_refl _, fun h => absurd rfl h⟩
  · exact ⟨_, _, rfl, h3, fun _ => ⟨g, 0, cur.toList, rfl, by unfold Blk; simpa using hh, by simpa using h6⟩⟩
theorem Vw.on (h : Vw w e q v n xs) (hb : Below w.heap.size w w') : Vw w' e q v n xs := by
  obtain ⟨h1, a, c, h2, h3, h4⟩ := h
  exact ⟨h1, a, c, h2, h3, fun h0 => by obtain ⟨g, o, cs, e1, e2, e3⟩ := h4 h0; exact ⟨g, o, cs, e1, e2.on hb, e3⟩⟩
theorem Vw.same (h : Vw w e q v n xs) (hk : ∀ k, v.ownBlock = some k → w'.heap[k]? = w.heap[k]?) : Vw w' e q v n xs := by
  obtain ⟨h1, a, c, h2, h3, h4⟩ := h
  subst h2
  exact ⟨h1, a, c, rfl, h3, fun h0 => by obtain ⟨g, o, cs, e1, e2, e3⟩ := h4 h0; subst e1; exact ⟨g, o, cs, rfl, e2.same (hk g rfl), e3⟩⟩
theorem Vw.to (R : Ro T e q by' z) (h : Vw w e q v n xs) {k : Nat} (hk : k ≤ n) : ∃ v1, (∀ W : World, (Instr.slice T v none (some (.int .i64 (k : Int))) none).run Try.prog W = .ok v1 W) ∧ ∀ W : World, Vw W e q v n xs → Vw W e q v1 k (xs.take (k * q)) := by
  obtain ⟨h1, a, c, rfl, h3, h4⟩ := h
  refine ⟨sliced a 0 k c q, fun W => ?_, fun W hW => ?_⟩
  · rw [run_slice_h W _ _ _ _ R.und2 .i64 k (by omega) (by omega), R.el, R.sz]
    simp
  · obtain ⟨g1, a', c', e', g3, g4⟩ := hW
    injection e' with e1 e2 e3
    subst e1 e3
    refine ⟨by rw [List.length_take, g1, Nat.min_eq_left (Nat.mul_le_mul_right _ hk)], ?_⟩
    unfold sliced
    refine ⟨_, _, rfl, by omega, fun h0 => ?_⟩
    obtain ⟨g, o, cs, e1, e2, e3⟩ := g4 (by omega)
    refine ⟨g, o, cs, ?_, e2, ?_⟩
    · rw [e1]
      split
      · rfl
      · simp [Addr.add_lit]
    · rw [← e3, List.take_take, Nat.min_eq_left (Nat.mul_le_mul_right _ hk)]
theorem Vw.from (R : Ro T e q by' z) (h : Vw w e q v n xs) {k : Nat} (hk : k ≤ n) : ∃ v1, (∀ W : World, (Instr.slice T v (some (.int .i64 (k : Int))) none none).run Try.prog W = .ok v1 W) ∧ ∀ W : World, Vw W e q v n xs → Vw W e q v1 (n - k) (xs.drop (k * q)) := by
  obtain ⟨h1, a, c, rfl, h3, h4⟩ := h
  refine ⟨sliced a k n c q, fun W => ?_, fun W hW => ?_⟩
  · rw [run_slice_l W _ _ _ _ R.und2 .i64 k (by omega) (by omega), R.el, R.sz]
    simp
  · obtain ⟨g1, a', c', e', g3, g4⟩ := hW
    injection e' with e1 e2 e3
    subst e1 e3
    refine ⟨by rw [List.length_drop, g1, Nat.sub_mul], ?_⟩
    unfold sliced
    refine ⟨_, _, rfl, by omega, fun h0 => ?_⟩
    obtain ⟨g, o, cs, e1, e2, e3⟩ := g4 (by omega)
    refine ⟨g, o + k * q, cs, ?_, e2, ?_⟩
    · rw [e1, if_neg (by omega)]
      simp [Addr.add_lit]
    · rw [← e3, List.drop_take, List.drop_drop, Nat.sub_mul]
/-- An element's place. -/
theorem vw_at (R : Ro T e q by' z) (g n cap i : Nat) (hi : i < n) (W : World) : (Instr.indexAt T (.slice (some ⟨g, 0, none⟩) n cap) (.int .i64 (i : Int))).run Try.prog W = .ok (.pointer (some ⟨g, i * q, none⟩)) W := by
  rw [run_indexAt_slice W _ _ _ _ .i64 i R.und2, if_pos ⟨by omega, by omega⟩, R.el, R.sz]
  simp only [Result.andThen_ok, Int.toNat_natCast]
  rw [Addr.add_lit, Nat.zero_add]
theorem row_at {B : Nat} (h : w.ownsRow B e q v n xs) (h0 : 0 < n) : ∃ g cap cs, v = .slice (some ⟨g, 0, none⟩) n cap ∧ Blk w g e cs ∧ cs.take (n * q) = xs ∧ n * q ≤ cs.length := by
  obtain ⟨h1, h2⟩ := h
  rcases h2 with ⟨rfl, rfl⟩ | ⟨g, cap, cur, rfl, hg, hh, h3, h4, h5, h6⟩
  · omega
  · refine ⟨g, cap, cur.toList, rfl, by unfold Blk; simpa using hh, h6, ?_⟩
    rw [Array.length_toList, h5]
    exact Nat.mul_le_mul_right _ h3
/-- A row whose block is turned, its first cells known. -/
theorem row_set {B : Nat} {g cap : Nat} {cs cs' ys : List Value} (h : w.ownsRow B e q (.slice (some ⟨g, 0, none⟩) n cap) n xs) (hb : Blk w g e cs) (hb' : Blk w' g e cs') (hl : cs'.length = cs.length) (hy : cs'.take (n * q) = ys) (hyl : ys.length = n * q) : w'.ownsRow B e q (.slice (some ⟨g, 0, none⟩) n cap) n ys := by
  obtain ⟨h1, h2⟩ := h
  refine ⟨hyl, ?_⟩
  rcases h2 with ⟨h2, _⟩ | ⟨g', cap', cur, h2, hg, hh, h3, h4, h5, h6⟩
  · cases h2
  · injection h2 with e1 e2 e3
    injection e1 with e1
    injection e1 with e1
    subst e1 e3
    right
    refine ⟨g, cap, cs'.toArray, rfl, hg, hb', h3, h4, ?_, by simpa using hy⟩
    have hcur : cs = cur.toList := by
      unfold Blk at hb
      rw [hh] at hb
      injection hb with hb
      injection hb with hb
      rw [hb]
    rw [List.size_toArray, hl, hcur, Array.length_toList, h5]
variable {dst : Option Tmp} {ty : TypeId} {pos : String} {aft : Array Edge} {gd : Option (Nat × Bool)} {a : Act} {K : Act → World → Prop} {Q : Exit → Act → World → Prop}
theorem grown_below {B : Nat} {row : Option Nat} (h : w.grownBy w' row) (hr : ∀ g, row = some g → B ≤ g) (hB : B ≤ w.heap.size) : Below B w w' :=
  ((Chs.refl (fun k => B ≤ k) w).thenGrown h (fun g hg => .inl (hr g hg))).below (fun k hk h => by omega) hB
theorem row_ge {B : Nat} (h : w.ownsRow B e q v n xs) {k : Nat} (hk : v.ownBlock = some k) : B ≤ k := by
  obtain ⟨h1, h2⟩ := h
  rcases h2 with ⟨rfl, rfl⟩ | ⟨g, cap, cur, rfl, hg, _⟩
  · cases hk
  · injection hk with hk
    have : g = k := hk
    omega
set_option maxRecDepth 100000 in
/-- Append of a part. -/
theorem run_appV (R : Ro T e q by' z) {B : Nat} {u : Value} {m : Nat} {ys : List Value} (hown : w.ownsRow B e q v n xs) (hu : Vw w e q u m ys) (h1 : ∀ x ∈ ys, x.oneCell' = true) (hlen : (n + m) * by' ≤ 140737488355328) (hB : B ≤ w.heap.size) (ty : TypeId) :
    ∃ v' w', (Builtin.append_ #[T, T] ty #[v, u]).run Try.prog w = .ok v' w' ∧ w'.ownsRow B e q v' (n + m) (xs ++ ys) ∧ w.grownBy w' v.ownBlock ∧ (v'.ownBlock = v.ownBlock ∨ v'.ownBlock = some w.heap.size) := by
  obtain ⟨i0, hi, hz0, hz1, hz2⟩ := info_parts R.info
  obtain ⟨hl, ua, uc, rfl, hle, hat⟩ := hu
  by_cases h0 : m = 0
  · subst h0
    have hy : ys = [] := List.eq_nil_of_length_eq_zero (by rw [hl]; simp)
    subst hy
    obtain ⟨va, vc, rfl⟩ := row_slice hown
    have hc : n ≤ vc := by
      obtain ⟨_, h2⟩ := hown
      rcases h2 with ⟨h2, rfl⟩ | ⟨g, cap, cur, h2, hg, hh, h3, _⟩
      · omega
      · injection h2 with _ _ e3
        omega
    refine ⟨_, w, run_append_nothing w T T ty e i0 R.und hi va n vc hc _ ⟨.inl ⟨e, R.und⟩, fun w' => by simp [Builtin.lenOf], ?_, ?_, by simp, by simp⟩, by simpa using hown, ?_, .inl rfl⟩
    · cases ua <;> simp [Builtin.firstCells, loadCells, loadCellsFrom]
    · cases ua <;> simp [Builtin.firstCells, loadCells, loadCellsFrom]
    · exact World.grownBy.refl _ _
  · obtain ⟨g, o, cs, rfl, hb, hcs⟩ := hat h0
    obtain ⟨v', w', hr, ho, hg, _, hat'⟩ := run_append_own_at (P := Try.prog) w B T ty e i0 z q by' R.und hi hz0 hz1 hz2 R.zs R.q0 v _ _ hown ⟨g, o, none⟩ m uc ys hl (fun j x hx => by
      rw [Addr.add_lit, hb.cell]
      have : ys[j]? = cs[o + j]? := by
        rw [← hcs, List.getElem?_take, List.getElem?_drop, if_pos (by have := (List.getElem?_eq_some_iff.1 hx).1; omega)]
      rw [← this]
      exact hx) h1 (by unfold maxLen; have := Nat.le_mul_of_pos_right (n + m) R.b0; omega) hlen hB
    exact ⟨v', w', hr, ho, hg, hat'⟩
theorem wp_appV (R : Ro T e q by' z) {s x : Operand} {B : Nat} {u : Value} {m : Nat} {ys : List Value} (hs : a.eval s = v) (hx : a.eval x = u) (hown : w.ownsRow B e q v n xs) (hu : Vw w e q u m ys) (h1 : ∀ x ∈ ys, x.oneCell' = true) (hlen : (n + m) * by' ≤ 140737488355328) (hB : B ≤ w.heap.size)
    (h : ∀ v' w', w'.ownsRow B e q v' (n + m) (xs ++ ys) → w.grownBy w' v.ownBlock → (v'.ownBlock = v.ownBlock ∨ v'.ownBlock = some w.heap.size) → K (a.put dst v') w') :
    Oper.wp Try.prog ⟨dst, .call { callee := .builtin .append, args := #[s, x], argTypes := #[T, T] }, ty, pos, aft, gd⟩ a w K Q := by
  obtain ⟨v', w', hr, h2, h3, h4⟩ := run_appV R hown hu h1 hlen hB ty
  unfold Oper.wp execOp
  simp only [resolve, invoke, builtin, Sem.run_bind, Sem.run_pure, Result.andThen_ok, List.map_toArray, List.map_cons, List.map_nil, hs, hx, hr]
  exact h v' w' h2 h3 h4
theorem step_appV {ops : Array Oper} {rest : List Oper} (R : Ro T e q by' z) {s x : Operand} (hw : Region.wanted ⟨dst, .call { callee := .builtin .append, args := #[s, x], argTypes := #[T, T] }, ty, pos, aft, gd⟩ (yielded ops a.tmps) = true) {B : Nat} {u : Value} {m : Nat} {ys : List Value} (hs : a.eval s = v) (hx : a.eval x = u) (hown : w.ownsRow B e q v n xs) (hu : Vw w e q u m ys) (h1 : ∀ x ∈ ys, x.oneCell' = true) (hlen : (n + m) * by' ≤ 140737488355328) (hB : B ≤ w.heap.size)
    (h : ∀ v' w', w'.ownsRow B e q v' (n + m) (xs ++ ys) → w.grownBy w' v.ownBlock → (v'.ownBlock = v.ownBlock ∨ v'.ownBlock = some w.heap.size) → wpList Try.prog ops Q rest (a.put dst v') w') :
    wpList Try.prog ops Q (⟨dst, .call { callee := .builtin .append, args := #[s, x], argTypes := #[T, T] }, ty, pos, aft, gd⟩ :: rest) a w := by
  obtain ⟨v', w', hr, h2, h3, h4⟩ := run_appV R hown hu h1 hlen hB ty
  refine step_run hw v' w' ?_ (h v' w' h2 h3 h4)
  unfold execOp
  simp only [resolve, invoke, builtin, Sem.run_bind, Sem.run_pure, Result.andThen_ok, List.map_toArray, List.map_cons, List.map_nil, hs, hx, hr]
end


end Go.Proofs.Ytabpfbankinojaa
