/-
  Slices of entries, of runs and of numbers as the walks meet them: elements, appends where there is room, slices of one element.
-/
import Derived.Test.YtabpfbankinojaaDgc
import Derived.Test.YtabpfbankinojaaDgr
namespace Go.Proofs.Ytabpfbankinojaa
open Go.RowKit
set_option linter.unusedVariables false
set_option maxRecDepth 100000

theorem roP : Ro 59 58 33 40 (.agg (u8s (zer 32) ++ [Value.int .i64 0]).toArray) := ⟨by kernel_rfl, by kernel_rfl, by kernel_rfl, by kernel_rfl, by omega, by omega, by omega, fun w => by kernel_rfl⟩
theorem roR : Ro 40 59 1 24 (.slice none 0 0) := ⟨by kernel_rfl, by kernel_rfl, by kernel_rfl, by kernel_rfl, by omega, by omega, by omega, fun w => by kernel_rfl⟩
theorem roN : Ro 28 3 1 8 (.int .i64 0) := ⟨by kernel_rfl, by kernel_rfl, by kernel_rfl, by kernel_rfl, by omega, by omega, by omega, fun w => by kernel_rfl⟩
section
variable {T e : TypeId} {q by' : Nat} {z : Value} {w w' : World} {v : Value} {n : Nat} {xs : List Value}
theorem Vw.slice (h : Vw w e q v n xs) : ∃ a c, v = .slice a n c := by
  obtain ⟨_, a, c, rfl, _⟩ := h
  exact ⟨_, _, rfl⟩
theorem Vw.one (h : Vw w e q v n xs) : v.oneCell' = true := by
  obtain ⟨a, c, rfl⟩ := h.slice
  rfl
theorem Vw.kr {t u : TypeId} (h : Vw w e q v n xs) (hk : KR t u w w') (he : e = t ∨ e = u) : Vw w' e q v n xs := by
  obtain ⟨h1, a, c, h2, h3, h4⟩ := h
  exact ⟨h1, a, c, h2, h3, fun h0 => by obtain ⟨g, o, cs, e1, e2, e3⟩ := h4 h0; exact ⟨g, o, cs, e1, hk.keep g e cs he e2, e3⟩⟩
/-- An element's place, and what lies there in any world that has the slice. -/
theorem Vw.at (R : Ro T e q by' z) (h : Vw w e q v n xs) {i : Nat} (hi : i < n) : ∃ g o, (∀ W : World, (Instr.indexAt T v (.int .i64 (i : Int))).run Try.prog W = .ok (.pointer (some ⟨g, o, none⟩)) W) ∧ ∀ W : World, Vw W e q v n xs → W.rangeAt g o ((xs.drop (i * q)).take q) ∧ ∃ cs, Blk W g e cs := by
  obtain ⟨h1, a, c, rfl, h3, h4⟩ := h
  obtain ⟨g, o, cs, rfl, _, _⟩ := h4 (by omega)
  refine ⟨g, o + i * q, fun W => ?_, fun W hW => ?_⟩
  · rw [run_indexAt_slice W _ _ _ _ .i64 i R.und2, if_pos ⟨by omega, by omega⟩, R.el, R.sz]
    simp only [Result.andThen_ok, Int.toNat_natCast]
    rw [Addr.add_lit]
  · obtain ⟨g1, a', c', e', g3, g4⟩ := hW
    injection e' with e1 e2 e3
    subst e1 e3
    obtain ⟨g', o', cs', e1, hb, hcs⟩ := g4 (by omega)
    injection e1 with e1
    injection e1 with e1 e2
    subst e1 e2
    refine ⟨hb.range (o + i * q) _ ?_, cs', hb⟩
    have hl : ((xs.drop (i * q)).take q).length = q := by
      rw [List.length_take, List.length_drop, g1]
      have := Nat.mul_le_mul_right q (show i + 1 ≤ n by omega)
      rw [Nat.add_mul, Nat.one_mul] at this
      omega
    rw [hl, ← hcs, ← List.drop_drop, List.drop_take, List.take_take]
    congr 1
    have := Nat.mul_le_mul_right q (show i + 1 ≤ n by omega)
    rw [Nat.add_mul, Nat.one_mul] at this
    omega
/-- Append where there is room. -/
theorem run_fitV (R : Ro T e q by' z) {B g cap : Nat} (hown : w.ownsRow B e q (.slice (some ⟨g, 0, none⟩) n cap) n xs) {u : Value} {m : Nat} {ys : List Value} (hu : Vw w e q u m ys) (h1 : ∀ x ∈ ys, x.oneCell' = true) (hroom : n + m ≤ cap) (ty : TypeId) :
    ∃ w', (Builtin.append_ #[T, T] ty #[.slice (some ⟨g, 0, none⟩) n cap, u]).run Try.prog w = .ok (.slice (some ⟨g, 0, none⟩) (n + m) cap) w' ∧ w'.ownsRow B e q (.slice (some ⟨g, 0, none⟩) (n + m) cap) (n + m) (xs ++ ys) ∧ w.grownBy w' (some g) := by
  obtain ⟨i0, hi, hz0, hz1, hz2⟩ := info_parts R.info
  obtain ⟨hl, ua, uc, rfl, hle, hat⟩ := hu
  by_cases h0 : m = 0
  · subst h0
    have hy : ys = [] := List.eq_nil_of_length_eq_zero (by rw [hl]; simp)
    subst hy
    refine ⟨w, run_append_nothing w T T ty e i0 R.und hi _ n cap (by omega) _ ⟨.inl ⟨e, R.und⟩, fun w' => by simp [Builtin.lenOf], ?_, ?_, by simp, by simp⟩, by simpa using hown, World.grownBy.refl _ _⟩
    · cases ua <;> simp [Builtin.firstCells, loadCells, loadCellsFrom]
    · cases ua <;> simp [Builtin.firstCells, loadCells, loadCellsFrom]
  · obtain ⟨g2, o, cs, rfl, hb, hcs⟩ := hat h0
    exact run_append_fits (P := Try.prog) w B T ty e i0 q R.und hi hz1 g n cap xs hown ⟨g2, o, none⟩ m uc ys hl (fun j x hx => by
      rw [Addr.add_lit, hb.cell]
      have : ys[j]? = cs[o + j]? := by
        rw [← hcs, List.getElem?_take, List.getElem?_drop, if_pos (by have := (List.getElem?_eq_some_iff.1 hx).1; omega)]
      rw [← this]
      exact hx) h1 hroom
variable {dst : Option Tmp} {ty : TypeId} {pos : String} {aft : Array Edge} {gd : Option (Nat × Bool)} {a : Act} {K : Act → World → Prop} {Q : Exit → Act → World → Prop}
theorem wp_fitV (R : Ro T e q by' z) {s x : Operand} {B g cap : Nat} {u : Value} {m : Nat} {ys : List Value} (hs : a.eval s = .slice (some ⟨g, 0, none⟩) n cap) (hx : a.eval x = u) (hown : w.ownsRow B e q (.slice (some ⟨g, 0, none⟩) n cap) n xs) (hu : Vw w e q u m ys) (h1 : ∀ x ∈ ys, x.oneCell' = true) (hroom : n + m ≤ cap)
    (h : ∀ w', w'.ownsRow B e q (.slice (some ⟨g, 0, none⟩) (n + m) cap) (n + m) (xs ++ ys) → w.grownBy w' (some g) → K (a.put dst (.slice (some ⟨g, 0, none⟩) (n + m) cap)) w') :
    Oper.wp Try.prog ⟨dst, .call { callee := .builtin .append, args := #[s, x], argTypes := #[T, T] }, ty, pos, aft, gd⟩ a w K Q := by
  obtain ⟨w', hr, h2, h3⟩ := run_fitV R hown hu h1 hroom ty
  unfold Oper.wp execOp
  simp only [resolve, invoke, builtin, Sem.run_bind, Sem.run_pure, Result.andThen_ok, List.map_toArray, List.map_cons, List.map_nil, hs, hx, hr]
  exact h w' h2 h3
theorem step_fitV {ops : Array Oper} {rest : List Oper} (R : Ro T e q by' z) {s x : Operand} (hw : Region.wanted ⟨dst, .call { callee := .builtin .append, args := #[s, x], argTypes := #[T, T] }, ty, pos, aft, gd⟩ (yielded ops a.tmps) = true) {B g cap : Nat} {u : Value} {m : Nat} {ys : List Value} (hs : a.eval s = .slice (some ⟨g, 0, none⟩) n cap) (hx : a.eval x = u) (hown : w.ownsRow B e q (.slice (some ⟨g, 0, none⟩) n cap) n xs) (hu : Vw w e q u m ys) (h1 : ∀ x ∈ ys, x.oneCell' = true) (hroom : n + m ≤ cap)
    (h : ∀ w', w'.ownsRow B e q (.slice (some ⟨g, 0, none⟩) (n + m) cap) (n + m) (xs ++ ys) → w.grownBy w' (some g) → wpList Try.prog ops Q rest (a.put dst (.slice (some ⟨g, 0, none⟩) (n + m) cap)) w') :
    wpList Try.prog ops Q (⟨dst, .call { callee := .builtin .append, args := #[s, x], argTypes := #[T, T] }, ty, pos, aft, gd⟩ :: rest) a w := by
  obtain ⟨w', hr, h2, h3⟩ := run_fitV R hown hu h1 hroom ty
  refine step_run hw _ w' ?_ (h w' h2 h3)
  unfold execOp
  simp only [resolve, invoke, builtin, Sem.run_bind, Sem.run_pure, Result.andThen_ok, List.map_toArray, List.map_cons, List.map_nil, hs, hx, hr]
/-- make of an empty slice with room. -/
theorem step_makeV {ops : Array Oper} {rest : List Oper} (R : Ro T e q by' z) {l c : Operand} {C : Int} (m : Nat) (hw : Region.wanted ⟨dst, .makeSlice T l c, ty, pos, aft, gd⟩ (yielded ops a.tmps) = true)
    (hl : a.eval l = .int .i64 0) (hc : a.eval c = .int .i64 C) (hC : C = (m : Int)) (hm : by' * m ≤ 281474976710656)
    (h : ∀ w1 g, w1.ownsRow w.heap.size e q (.slice (some ⟨g, 0, none⟩) 0 m) 0 [] → w.heap.size ≤ g → Below w.heap.size w w1 → wpList Try.prog ops Q rest (a.put dst (.slice (some ⟨g, 0, none⟩) 0 m)) w1) :
    wpList Try.prog ops Q (⟨dst, .makeSlice T l c, ty, pos, aft, gd⟩ :: rest) a w := by
  obtain ⟨i0, hi, hz0, hz1, hz2⟩ := info_parts R.info
  subst hC
  obtain ⟨w', hr, ho, hg⟩ := run_make_own (P := Try.prog) w w.heap.size T e i0 z q R.und hi hz0 hz1 .i64 .i64 m (by rw [hz2]; exact hm) (by unfold maxLen; have := Nat.le_mul_of_pos_left m R.b0; omega) (Nat.le_refl _)
  exact step_run hw (.slice (some ⟨w.heap.size, 0, none⟩) 0 m) w' (by simp [execOp, hl, hc, hr, Result.andThen]) (h w' w.heap.size ho (Nat.le_refl _) (Below.of_grown hg (Nat.le_refl _) (fun _ e => by cases e)))
/-- An empty slice, built. -/
def Empt (T e : TypeId) : Prop := ∀ w : World, (Instr.buildSlice T 0 #[]).run Try.prog w = .ok (.slice (some ⟨w.heap.size, 0, none⟩) 0 0) (w.alloc (.cells #[] e))
theorem wp_zeroV (he : Empt T e) (h : ∀ w1 g, w1.ownsRow w.heap.size e q (.slice (some ⟨g, 0, none⟩) 0 0) 0 [] → w.heap.size ≤ g → Below w.heap.size w w1 → K (a.put dst (.slice (some ⟨g, 0, none⟩) 0 0)) w1) :
    Oper.wp Try.prog ⟨dst, .buildSlice T 0 #[], ty, pos, aft, gd⟩ a w K Q := by
  refine wp_runV (.slice (some ⟨w.heap.size, 0, none⟩) 0 0) (w.alloc (.cells #[] e)) ?_ (h _ _ ⟨by simp, .inr ⟨w.heap.size, 0, #[], rfl, Nat.le_refl _, heap_alloc_new w _, Nat.le_refl _, by unfold maxLen; omega, by simp, by simp⟩⟩ (Nat.le_refl _) ((Below.refl _ _).alloc (Nat.le_refl _) _))
  unfold execOp
  simp only [List.map_toArray, List.map_nil]
  simp only [Sem.run_bind, he w, Result.andThen_ok, Sem.run_pure]
theorem step_zeroV {ops : Array Oper} {rest : List Oper} (he : Empt T e) (hw : Region.wanted ⟨dst, .buildSlice T 0 #[], ty, pos, aft, gd⟩ (yielded ops a.tmps) = true)
    (h : ∀ w1 g, w1.ownsRow w.heap.size e q (.slice (some ⟨g, 0, none⟩) 0 0) 0 [] → w.heap.size ≤ g → Below w.heap.size w w1 → wpList Try.prog ops Q rest (a.put dst (.slice (some ⟨g, 0, none⟩) 0 0)) w1) :
    wpList Try.prog ops Q (⟨dst, .buildSlice T 0 #[], ty, pos, aft, gd⟩ :: rest) a w :=
  BigFrame.wpList_want hw fun K hK => wp_zeroV he fun w1 g h1 h2 h3 => hK _ _ (h w1 g h1 h2 h3)
/-- A slice of one element, built. -/
theorem run_oneV (R : Ro T e q by' z) (x : Value) (vs : List Value) (hx : x.cells = vs.toArray) (hv : vs.length = q) (w : World) :
    (Instr.buildSlice T 1 #[(0, x)]).run Try.prog w = .ok (.slice (some ⟨w.heap.size, 0, none⟩) 1 1) (w.alloc (.cells vs.toArray e)) := by
  obtain ⟨i0, hi, hz0, hz1, hz2⟩ := info_parts R.info
  have hq := R.q0
  refine run_buildSlice w T e 1 _ _ i0 _ R.und hi hz0 (by rw [hz1]; have := R.q9; omega) (by rw [hz1]; omega) ?_
  rw [hz1]
  generalize hZ : ((Array.range (1 * q)).map (z.cells[· % z.cells.size]!)) = Z
  have hZl : Z.size = q := by rw [← hZ]; simp
  obtain ⟨Zl⟩ := Z
  have hZl' : Zl.length = q := by simpa using hZl
  show Instr.fill _ _ [(0, x)] = _
  rw [fill_cons (place := fun i => some (i * q, q)) (off := 0) (size := q) (vs := vs) (by simp) hx hv (by omega), fill_nil]
  congr 2
  unfold spl
  rw [List.take_zero, List.nil_append, List.drop_of_length_le (by omega), List.append_nil]
theorem wp_oneV (R : Ro T e q by' z) {x : Operand} {xv : Value} {vs : List Value} (hx : a.eval x = xv) (hc : xv.cells = vs.toArray) (hv : vs.length = q) (h : ∀ w1 g, Vw w1 e q (.slice (some ⟨g, 0, none⟩) 1 1) 1 vs → w.heap.size ≤ g → Below w.heap.size w w1 → w1.ownsRow w.heap.size e q (.slice (some ⟨g, 0, none⟩) 1 1) 1 vs → K (a.put dst (.slice (some ⟨g, 0, none⟩) 1 1)) w1) :
    Oper.wp Try.prog ⟨dst, .buildSlice T 1 #[(0, x)], ty, pos, aft, gd⟩ a w K Q := by
  have hr : (w.alloc (.cells vs.toArray e)).ownsRow w.heap.size e q (.slice (some ⟨w.heap.size, 0, none⟩) 1 1) 1 vs :=
    ⟨by omega, .inr ⟨w.heap.size, 1, vs.toArray, rfl, Nat.le_refl _, heap_alloc_new w _, Nat.le_refl _, by decide, by rw [List.size_toArray]; omega, by rw [List.take_of_length_le (by rw [Nat.one_mul, hv]; exact Nat.le_refl _)]⟩⟩
  refine wp_runV (.slice (some ⟨w.heap.size, 0, none⟩) 1 1) (w.alloc (.cells vs.toArray e)) ?_ (h _ _ (Vw.of_row hr) (Nat.le_refl _) ((Below.refl _ _).alloc (Nat.le_refl _) _) hr)
  unfold execOp
  simp only [List.map_toArray, List.map_cons, List.map_nil, hx]
  simp only [Sem.run_bind, run_oneV R xv vs hc hv, Result.andThen_ok, Sem.run_pure]
theorem step_oneV {ops : Array Oper} {rest : List Oper} (R : Ro T e q by' z) {x : Operand} (hw : Region.wanted ⟨dst, .buildSlice T 1 #[(0, x)], ty, pos, aft, gd⟩ (yielded ops a.tmps) = true) {xv : Value} {vs : List Value} (hx : a.eval x = xv) (hc : xv.cells = vs.toArray) (hv : vs.length = q) (h : ∀ w1 g, Vw w1 e q (.slice (some ⟨g, 0, none⟩) 1 1) 1 vs → w.heap.size ≤ g → Below w.heap.size w w1 → w1.ownsRow w.heap.size e q (.slice (some ⟨g, 0, none⟩) 1 1) 1 vs → wpList Try.prog ops Q rest (a.put dst (.slice (some ⟨g, 0, none⟩) 1 1)) w1) :
    wpList Try.prog ops Q (⟨dst, .buildSlice T 1 #[(0, x)], ty, pos, aft, gd⟩ :: rest) a w :=
  BigFrame.wpList_want hw fun K hK => wp_oneV R hx hc hv fun w1 g h1 h2 h3 h4 => hK _ _ (h w1 g h1 h2 h3 h4)
end
/-! ### an entry is built -/
theorem build_ent {T : TypeId} (R : Rec T (u8s (zer 32) ++ [Value.int .i64 0]) [(0, 32), (32, 1)]) (x : Ent) (w : World) : (Instr.build T #[(0, .agg (u8s x.d).toArray), (1, .int .i64 x.p)]).run Try.prog w = .ok (.agg (pc x).toArray) w := by
  refine run_build w _ _ _ ?_
  have hl := x.hl
  show Try.prog.built T [(0, .agg (u8s x.d).toArray), (1, .int .i64 x.p)] = _
  rw [R, fill_cons (off := 0) (size := 32) (vs := u8s x.d) rfl rfl (by rw [u8s_length, hl]) (by simp [u8s_length, zer_length])]
  rw [fill_cons (off := 32) (size := 1) (vs := [.int .i64 x.p]) rfl rfl rfl (by simp [spl, u8s_length, zer_length, hl]), fill_nil]
  congr 2
  simp [spl, pc, u8s_length, zer_length, hl]
theorem step_ent {T : TypeId} (R : Rec T (u8s (zer 32) ++ [Value.int .i64 0]) [(0, 32), (32, 1)]) {dst : Option Tmp} {ty : TypeId} {pos : String} {aft : Array Edge} {gd : Option (Nat × Bool)} {ops : Array Oper} {rest : List Oper} {a : Act} {w : World} {Q : Exit → Act → World → Prop} {y z : Operand} (x : Ent) (hw : Region.wanted ⟨dst, .build T #[(0, y), (1, z)], ty, pos, aft, gd⟩ (yielded ops a.tmps) = true)
    (hy : a.eval y = .agg (u8s x.d).toArray) (hz : a.eval z = .int .i64 x.p) (h : wpList Try.prog ops Q rest (a.put dst (.agg (pc x).toArray)) w) : wpList Try.prog ops Q (⟨dst, .build T #[(0, y), (1, z)], ty, pos, aft, gd⟩ :: rest) a w :=
  step_run hw _ w (run_op (M := Instr.build T #[(0, .agg (u8s x.d).toArray), (1, .int .i64 x.p)]) (by simp [execOp, hy, hz]) (build_ent R x w)) h
theorem recP : Rec 58 (u8s (zer 32) ++ [Value.int .i64 0]) [(0, 32), (32, 1)] := fun _ => by kernel_rfl
/-- A run in memory. -/
def Rn (w : World) (u : Value) (r : List Ent) : Prop := Vw w 58 33 u r.length (pcs r)
section
variable {w w' : World} {u : Value} {r : List Ent}
theorem Rn.on (h : Rn w u r) (hb : Below w.heap.size w w') : Rn w' u r := Vw.on h hb
theorem Rn.kr {t : TypeId} (h : Rn w u r) (hk : KR t 58 w w') : Rn w' u r := Vw.kr h hk (.inr rfl)
theorem Rn.slice (h : Rn w u r) : ∃ a c, u = .slice a r.length c := Vw.slice h
/-- Where an entry lies. -/
theorem Rn.at (h : Rn w u r) {i : Nat} (hi : i < r.length) : ∃ g o, (∀ W : World, (Instr.indexAt 59 u (.int .i64 (i : Int))).run Try.prog W = .ok (.pointer (some ⟨g, o, none⟩)) W) ∧ ∀ W : World, Rn W u r → W.rangeAt g o (pc r[i]) := by
  obtain ⟨g, o, h1, h2⟩ := Vw.at roP h hi
  refine ⟨g, o, h1, fun W hW => ?_⟩
  have := (h2 W hW).1
  rwa [pcs_at r i hi] at this
theorem rangeAt_d {W : World} {g o : Nat} {x : Ent} (h : W.rangeAt g o (pc x)) : W.rangeAt g o (u8s x.d) := fun j v hj => by
  refine h j v ?_
  have hl : (u8s x.d).length = 32 := by rw [u8s_length, x.hl]
  unfold pc
  rw [List.getElem?_append_left (by have := (List.getElem?_eq_some_iff.1 hj).1; omega)]
  exact hj
theorem rangeAt_p {W : World} {g o : Nat} {x : Ent} (h : W.rangeAt g o (pc x)) : W.cell? ⟨g, o + 32, none⟩ = some (.int .i64 x.p) := h 32 _ (pc_at32 x)
theorem Rn.from (h : Rn w u r) {k : Nat} (hk : k ≤ r.length) : ∃ u1, (∀ W : World, (Instr.slice 59 u (some (.int .i64 (k : Int))) none none).run Try.prog W = .ok u1 W) ∧ ∀ W : World, Rn W u r → Rn W u1 (r.drop k) := by
  obtain ⟨u1, h1, h2⟩ := Vw.from roP h hk
  refine ⟨u1, h1, fun W hW => ?_⟩
  have := h2 W hW
  unfold Rn
  rw [List.length_drop, pcs_drop]
  exact this
end

end Go.Proofs.Ytabpfbankinojaa
