/-
  Slices of wide elements over any element type: parts of them, append of a part, elements.
-/
import Derived.Test.YtpocadbhajacaaaGreatDoorKmi
import Derived.Deep.Upon
namespace Go.Proofs.YtpocadbhajacaaaGreatDoor
open Go.RowKit
set_option linter.unusedVariables false

/-- An element's type and its slices'. -/
structure Ro (T e : TypeId) (q by' : Nat) (z : Value) : Prop where
  und : Tryz.prog.underlying T = some (.slice e)
  el : Tryz.prog.elem T = e
  info : (Tryz.prog.info? e).map (fun i => (i.zero, i.size, i.bytes)) = some (some z, q, by')
  zs : z.cells.size = q
  q0 : 0 < q
  q9 : by' ≤ 128
  sz : ∀ w, (sizeOf e).run Tryz.prog w = .ok q w
theorem Ro.und2 {T e : TypeId} {q by' : Nat} {z : Value} (R : Ro T e q by' z) : Tryz.prog.underlying T = some (.slice (Tryz.prog.elem T)) := by rw [R.el]; exact R.und
/-- A slice's elements, seen. -/
structure Vw (w : World) (e : TypeId) (q : Nat) (v : Value) (n : Nat) (xs : List Value) : Prop where
  len : xs.length = n * q
  at' : ∃ a c, v = .slice a n c ∧ n ≤ c ∧ (n ≠ 0 → ∃ g o cs, a = some ⟨g, o, none⟩ ∧ Blk w g e cs ∧ (cs.drop o).take (n * q) = xs)
section
variable {T e : TypeId} {q by' : Nat} {z : Value} {w w' : World} {v : Value} {n : Nat} {xs : List Value}
theorem Vw.of_row {B : Nat} (h : w.ownsRow B e q v n xs) : Vw w e q v n xs := by
  obtain ⟨h1, h2⟩ := h
  refine ⟨h1, ?_⟩
  rcases h2 with ⟨rfl, rfl⟩ | ⟨g, cap, cur, rfl, hg, hh, h3, h4, h5, h6⟩
  · exact ⟨none, 0, rfl, Nat.le_refl _, fun h => absurd rfl h⟩
  · exact ⟨_, _, rfl, h3, fun _ => ⟨g, 0, cur.toList, rfl, by unfold Blk; simpa using hh, by simpa using h6⟩⟩
theorem Vw.on (h : Vw w e q v n xs) (hb : Below w.heap.size w w') : Vw w' e q v n xs := by
  obtain ⟨h1, a, c, h2, h3, h4⟩ := h
  exact ⟨h1, a, c, h2, h3, fun h0 => by obtain ⟨g, o, cs, e1, e2, e3⟩ := h4 h0; exact ⟨g, o, cs, e1, e2.on hb, e3⟩⟩
theorem Vw.same (h : Vw w e q v n xs) (hk : ∀ k, v.ownBlock = some k → w'.heap[k]? = w.heap[k]?) : Vw w' e q v n xs := by
  obtain ⟨h1, a, c, h2, h3, h4⟩ := h
  subst h2
  exact ⟨h1, a, c, rfl, h3, fun h0 => by obtain ⟨g, o, cs, e1, e2, e3⟩ := h4 h0; subst e1; exact ⟨g, o, cs, rfl, e2.same (hk g rfl), e3⟩⟩
theorem Vw.to (R : Ro T e q by' z) (h : Vw w e q v n xs) {k : Nat} (hk : k ≤ n) : ∃ v1, (∀ W : World, (Instr.slice T v none (some (.int .i64 (k : Int))) none).run Tryz.prog W = .ok v1 W) ∧ ∀ W : World, Vw W e q v n xs → Vw W e q v1 k (xs.take (k * q)) := by
  obtain ⟨h1, a, c, rfl, h3, h4⟩ := h
  refine ⟨sliced a 0 k c q, fun W => ?_, fun W hW => ?_⟩
  · rw [run_slice_h W _ _ _ _ R.und2 .i64 k (by omega) (by omega), R.el, R.sz]
    simp
  · obtain ⟨g1, a', c', e', g3, g4⟩ := hW
    injection e' with e1 e2 e3
    subst e1 e3
    refine ⟨by rw [List.length_take, g1, Nat.min_eq_left (Nat.mul_le_mul_right _ hk)], ?_⟩
    unfold sliced
    refine ⟨_, _, rfl, by omega, fun h0 => ?_⟩
    obtain ⟨g, o, cs, e1, e2, e3⟩ := g4 (by omega)
    refine ⟨g, o, cs, ?_, e2, ?_⟩
    · rw [e1]
      split
      · rfl
      · simp [Addr.add_lit]
    · rw [← e3, List.take_take, Nat.min_eq_left (Nat.mul_le_mul_right _ hk)]
theorem Vw.from (R : Ro T e q by' z) (h : Vw w e q v n xs) {k : Nat} (hk : k ≤ n) : ∃ v1, (∀ W : World, (Instr.slice T v (some (.int .i64 (k : Int))) none none).run Tryz.prog W = .ok v1 W) ∧ ∀ W : World, Vw W e q v n xs → Vw W e q v1 (n - k) (xs.drop (k * q)) := by
  obtain ⟨h1, a, c, rfl, h3, h4⟩ := h
  refine ⟨sliced a k n c q, fun W => ?_, fun W hW => ?_⟩
  · rw [run_slice_l W _ _ _ _ R.und2 .i64 k (by omega) (by omega), R.el, R.sz]
    simp
  · obtain ⟨g1, a', c', e', g3, g4⟩ := hW
    injection e' with e1 e2 e3
    subst e1 e3
    refine ⟨by rw [List.length_drop, g1, Nat.sub_mul], ?_⟩
    unfold sliced
    refine ⟨_, _, rfl, by omega, fun h0 => ?_⟩
    obtain ⟨g, o, cs, e1, e2, e3⟩ := g4 (by omega)
    refine ⟨g, o + k * q, cs, ?_, e2, ?_⟩
    · rw [e1, if_neg (by omega)]
      simp [Addr.add_lit]
    · rw [← e3, List.drop_take, List.drop_drop, Nat.sub_mul]
/-- An element's place. -/
theorem vw_at (R : Ro T e q by' z) (g n cap i : Nat) (hi : i < n) (W : World) : (Instr.indexAt T (.slice (some ⟨g, 0, none⟩) n cap) (.int .i64 (i : Int))).run Tryz.prog W = .ok (.pointer (some ⟨g, i * q, none⟩)) W := by
  rw [run_indexAt_slice W _ _ _ _ .i64 i R.und2, if_pos ⟨by omega, by omega⟩, R.el, R.sz]
  simp only [Result.andThen_ok, Int.toNat_natCast]
  rw [Addr.add_lit, Nat.zero_add]
theorem row_at {B : Nat} (h : w.ownsRow B e q v n xs) (h0 : 0 < n) : ∃ g cap cs, v = .slice (some ⟨g, 0, none⟩) n cap ∧ Blk w g e cs ∧ cs.take (n * q) = xs ∧ n * q ≤ cs.length := by
  obtain ⟨h1, h2⟩ := h
  rcases h2 with ⟨rfl, rfl⟩ | ⟨g, cap, cur, rfl, hg, hh, h3, h4, h5, h6⟩
  · omega
  · refine ⟨g, cap, cur.toList, rfl, by unfold Blk; simpa using hh, h6, ?_⟩
    rw [Array.length_toList, h5]
    exact Nat.mul_le_mul_right _ h3
/-- A row whose block is turned, its first cells known. -/
theorem row_set {B : Nat} {g cap : Nat} {cs cs' ys : List Value} (h : w.ownsRow B e q (.slice (some ⟨g, 0, none⟩) n cap) n xs) (hb : Blk w g e cs) (hb' : Blk w' g e cs') (hl : cs'.length = cs.length) (hy : cs'.take (n * q) = ys) (hyl : ys.length = n * q) : w'.ownsRow B e q (.slice (some ⟨g, 0, none⟩) n cap) n ys := by
  obtain ⟨h1, h2⟩ := h
  refine ⟨hyl, ?_⟩
  rcases h2 with ⟨h2, _⟩ | ⟨g', cap', cur, h2, hg, hh, h3, h4, h5, h6⟩
  · cases h2
  · injection h2 with e1 e2 e3
    injection e1 with e1
    injection e1 with e1
    subst e1 e3
    right
    refine ⟨g, cap, cs'.toArray, rfl, hg, hb', h3, h4, ?_, by simpa using hy⟩
    have hcur : cs = cur.toList := by
      unfold Blk at hb
      rw [hh] at hb
      injection hb with hb
      injection hb with hb
      rw [hb]
    rw [List.size_toArray, hl, hcur, Array.length_toList, h5]
variable {dst : Option Tmp} {ty : TypeId} {pos : String} {aft : Array Edge} {gd : Option (Nat × Bool)} {a : Act} {K : Act → World → Prop} {Q : Exit → Act → World → Prop}
theorem grown_below {B : Nat} {row : Option Nat} (h : w.grownBy w' row) (hr : ∀ g, row = some g → B ≤ g) (hB : B ≤ w.heap.size) : Below B w w' :=
  ((Chs.refl (fun k => B ≤ k) w).thenGrown h (fun g hg => .inl (hr g hg))).below (fun k hk h => by omega) hB
theorem row_ge {B : Nat} (h : w.ownsRow B e q v n xs) {k : Nat} (hk : v.ownBlock = some k) : B ≤ k := by
  obtain ⟨h1, h2⟩ := h
  rcases h2 with ⟨rfl, rfl⟩ | ⟨g, cap, cur, rfl, hg, _⟩
  · cases hk
  · injection hk with hk
    have : g = k := hk
    omega
set_option maxRecDepth 100000 in
/-- Append of a part. -/
theorem run_appV (R : Ro T e q by' z) {B : Nat} {u : Value} {m : Nat} {ys : List Value} (hown : w.ownsRow B e q v n xs) (hu : Vw w e q u m ys) (h1 : ∀ x ∈ ys, x.oneCell' = true) (hlen : n + m ≤ 1099511627776) (hB : B ≤ w.heap.size) (ty : TypeId) :
    ∃ v' w', (Builtin.append_ #[T, T] ty #[v, u]).run Tryz.prog w = .ok v' w' ∧ w'.ownsRow B e q v' (n + m) (xs ++ ys) ∧ w.grownBy w' v.ownBlock ∧ (v'.ownBlock = v.ownBlock ∨ v'.ownBlock = some w.heap.size) := by
  obtain ⟨i0, hi, hz0, hz1, hz2⟩ := info_parts R.info
  obtain ⟨hl, ua, uc, rfl, hle, hat⟩ := hu
  by_cases h0 : m = 0
  · subst h0
    have hy : ys = [] := List.eq_nil_of_length_eq_zero (by rw [hl]; simp)
    subst hy
    obtain ⟨va, vc, rfl⟩ := row_slice hown
    have hc : n ≤ vc := by
      obtain ⟨_, h2⟩ := hown
      rcases h2 with ⟨h2, rfl⟩ | ⟨g, cap, cur, h2, hg, hh, h3, _⟩
      · omega
      · injection h2 with _ _ e3
        omega
    refine ⟨_, w, run_append_nothing w T T ty e i0 R.und hi va n vc hc _ ⟨.inl ⟨e, R.und⟩, fun w' => by simp [Builtin.lenOf], ?_, ?_, by simp, by simp⟩, by simpa using hown, ?_, .inl rfl⟩
    · cases ua <;> simp [Builtin.firstCells, loadCells, loadCellsFrom]
    · cases ua <;> simp [Builtin.firstCells, loadCells, loadCellsFrom]
    · exact World.grownBy.refl _ _
  · obtain ⟨g, o, cs, rfl, hb, hcs⟩ := hat h0
    obtain ⟨v', w', hr, ho, hg, _, hat'⟩ := run_append_own_at (P := Tryz.prog) w B T ty e i0 z q by' R.und hi hz0 hz1 hz2 R.zs R.q0 v _ _ hown ⟨g, o, none⟩ m uc ys hl (fun j x hx => by
      rw [Addr.add_lit, hb.cell]
      have : ys[j]? = cs[o + j]? := by
        rw [← hcs, List.getElem?_take, List.getElem?_drop, if_pos (by have := (List.getElem?_eq_some_iff.1 hx).1; omega)]
      rw [← this]
      exact hx) h1 (by unfold maxLen; omega) (by have := R.q9; have : (n + m) * by' ≤ 1099511627776 * 128 := Nat.mul_le_mul hlen R.q9; omega) hB
    exact ⟨v', w', hr, ho, hg, hat'⟩
theorem wp_appV (R : Ro T e q by' z) {s x : Operand} {B : Nat} {u : Value} {m : Nat} {ys : List Value} (hs : a.eval s = v) (hx : a.eval x = u) (hown : w.ownsRow B e q v n xs) (hu : Vw w e q u m ys) (h1 : ∀ x ∈ ys, x.oneCell' = true) (hlen : n + m ≤ 1099511627776) (hB : B ≤ w.heap.size)
    (h : ∀ v' w', w'.ownsRow B e q v' (n + m) (xs ++ ys) → w.grownBy w' v.ownBlock → (v'.ownBlock = v.ownBlock ∨ v'.ownBlock = some w.heap.size) → K (a.put dst v') w') :
    Oper.wp Tryz.prog ⟨dst, .call { callee := .builtin .append, args := #[s, x], argTypes := #[T, T] }, ty, pos, aft, gd⟩ a w K Q := by
  obtain ⟨v', w', hr, h2, h3, h4⟩ := run_appV R hown hu h1 hlen hB ty
  unfold Oper.wp execOp
  simp only [resolve, invoke, builtin, Sem.run_bind, Sem.run_pure, Result.andThen_ok, List.map_toArray, List.map_cons, List.map_nil, hs, hx, hr]
  exact h v' w' h2 h3 h4
theorem step_appV {ops : Array Oper} {rest : List Oper} (R : Ro T e q by' z) {s x : Operand} (hw : Region.wanted ⟨dst, .call { callee := .builtin .append, args := #[s, x], argTypes := #[T, T] }, ty, pos, aft, gd⟩ (yielded ops a.tmps) = true) {B : Nat} {u : Value} {m : Nat} {ys : List Value} (hs : a.eval s = v) (hx : a.eval x = u) (hown : w.ownsRow B e q v n xs) (hu : Vw w e q u m ys) (h1 : ∀ x ∈ ys, x.oneCell' = true) (hlen : n + m ≤ 1099511627776) (hB : B ≤ w.heap.size)
    (h : ∀ v' w', w'.ownsRow B e q v' (n + m) (xs ++ ys) → w.grownBy w' v.ownBlock → (v'.ownBlock = v.ownBlock ∨ v'.ownBlock = some w.heap.size) → wpList Tryz.prog ops Q rest (a.put dst v') w') :
    wpList Tryz.prog ops Q (⟨dst, .call { callee := .builtin .append, args := #[s, x], argTypes := #[T, T] }, ty, pos, aft, gd⟩ :: rest) a w := by
  obtain ⟨v', w', hr, h2, h3, h4⟩ := run_appV R hown hu h1 hlen hB ty
  refine step_run hw v' w' ?_ (h v' w' h2 h3 h4)
  unfold execOp
  simp only [resolve, invoke, builtin, Sem.run_bind, Sem.run_pure, Result.andThen_ok, List.map_toArray, List.map_cons, List.map_nil, hs, hx, hr]
end

end Go.Proofs.YtpocadbhajacaaaGreatDoor
