/-
  octet, ported from round 1 (Arr).
-/
import Derived.Test.YtgfmncgdajhmfaaProg
import Derived.Test.YtgfmncgdajhmfaaONum
import Derived.WalkKit
import Derived.WalkSpells
import Derived.WalkLawsBesides
import Derived.Laws.CopyOwn
import Derived.Laws.AppendOwnNone
namespace Go.Proofs.Ytgfmncgdajhmfaa
open Go.RowKit
set_option linter.unusedVariables false

def bs (xs : List Int) : Array Value := (xs.map (Value.int .u8)).toArray
theorem bs_size (xs : List Int) : (bs xs).size = xs.length := by simp [bs]
theorem bs_get (xs : List Int) (i : Nat) (h : i < xs.length) : (bs xs)[i]? = some (.int .u8 (xs.getD i 0)) := by simp [bs, List.getD, h]
theorem bs_one (xs : List Int) : ∀ v ∈ xs.map (Value.int .u8), v.oneCell' = true := ints_oneCell _ _
theorem bs_all (xs : List Int) : (bs xs).all (·.oneCell') = true := by
  rw [Array.all_eq_true_iff_forall_mem]; intro v hv; exact bs_one xs v (by simpa [bs] using hv)
theorem bs_set (xs : List Int) (i : Nat) (x : Int) : (bs xs).setIfInBounds i (.int .u8 x) = bs (xs.set i x) := by
  simp [bs, List.map_set]

/-- Block g is a row of the bytes xs that may be written. -/
def Row (w : World) (g : Nat) (t : TypeId) (xs : List Int) : Prop := w.heap[g]? = some (.cells (bs xs) t (0, 0))

section
variable {w w' : World} {g : Nat} {t : TypeId} {xs : List Int}
theorem Row.lt (h : Row w g t xs) : g < w.heap.size := by
  by_cases hlt : g < w.heap.size
  · exact hlt
  · have hn : w.heap[g]? = none := by simp; omega
    simp [Row, hn] at h
theorem Row.cell (h : Row w g t xs) (i : Nat) (hi : i < xs.length) : w.cell? ⟨g, i, none⟩ = some (.int .u8 (xs.getD i 0)) := by
  rw [cell_of_row w g i _ t _ h, bs_get xs i hi]
theorem Row.free (h : Row w g t xs) (i : Nat) : w.frozen? ⟨g, i, none⟩ = false := frozen_of_row w g i _ t h
theorem Row.below {B : Nat} (h : Row w g t xs) (hb : Below B w w') (hg : g < B) : Row w' g t xs := by
  unfold Row; rw [hb.block g hg]; exact h
theorem Row.set (h : Row w g t xs) (i : Nat) (x : Int) : Row (w.setCell ⟨g, i, none⟩ (.int .u8 x)) g t (xs.set i x) := by
  unfold Row; rw [heap_setCell_same w g i _ t _ h, bs_set]
theorem Row.setRow (h : Row w g t xs) (ys : List Int) : Row (w.setRow g (bs ys)) g t ys := setRow_heap w g _ _ t _ h
theorem Row.made (w : World) (t : TypeId) (xs : List Int) : Row (w.alloc (.cells (bs xs) t)) w.heap.size t xs := heap_alloc_new w _
theorem Row.other (h : Row w g t xs) {k : Nat} (ho : ∀ i, i ≠ k → w'.heap[i]? = w.heap[i]?) (hk : g ≠ k) : Row w' g t xs := by
  unfold Row; rw [ho g hk]; exact h
theorem Row.sl (h : Row w g t xs) (hb : isB xs) (hl : xs.length ≤ 140737488355328) : Sl w (some ⟨g, 0, none⟩) xs.length xs.length xs :=
  ⟨rfl, Nat.le_refl _, by omega, hl, hb, (fun h => by cases h), fun _ => ⟨g, 0, rfl, fun i hi => by simpa using h.cell i hi⟩⟩
end

/-- An operation whose run is known. -/
theorem step_run {P : Program} {ops : Array Oper} {rest : List Oper} {o : Oper} {a : Act} {w : World} {Q : Exit → Act → World → Prop} (hw : Region.wanted o (yielded ops a.tmps) = true)
    (v : Value) (w' : World) (hrun : (execOp a.eval o).run P w = .ok (.value v) w') (h : wpList P ops Q rest (a.put o.dst v) w') : wpList P ops Q (o :: rest) a w := by
  refine BigFrame.wpList_want hw fun K hK => ?_
  unfold Oper.wp
  rw [hrun, Oper.upon_value]
  exact hK _ _ h

section
variable {dst : Option Tmp} {ty : TypeId} {pos : String} {aft : Array Edge} {gd : Option (Nat × Bool)} {ops : Array Oper} {rest : List Oper} {a : Act} {w : World} {Q : Exit → Act → World → Prop}

/-- A whole array of 32 bytes is loaded. -/
theorem step_loadA {ty' : TypeId} (hu : Try.prog.underlying ty' = some (.array 32 5)) (hi : (Try.prog.info? ty').map (·.size) = some 32) {x : Operand}
    {g : Nat} {t : TypeId} {xs : List Int} (hw : Region.wanted ⟨dst, .load ty' x, ty, pos, aft, gd⟩ (yielded ops a.tmps) = true) (hx : a.eval x = .pointer (some ⟨g, 0, none⟩)) (hg : Row w g t xs) (hl : xs.length = 32)
    (h : wpList Try.prog ops Q rest (a.put dst (.agg (bs xs))) w) :
    wpList Try.prog ops Q (⟨dst, .load ty' x, ty, pos, aft, gd⟩ :: rest) a w :=
  BigFrame.wpList_want hw fun _ hK => wp_load_row ty' x rfl g hx t (bs xs) (0, 0) _ hg hu rfl (by rw [hi, bs_size, hl]) (hK _ _ h)

/-- A whole array of 32 bytes is stored. -/
theorem step_storeA {ty' : TypeId} (hi : (Try.prog.info? ty').map (·.size) = some 32) {x y : Operand}
    {g : Nat} {t : TypeId} {xs ys : List Int} (hw : Region.wanted ⟨dst, .store ty' x y, ty, pos, aft, gd⟩ (yielded ops a.tmps) = true) (hx : a.eval x = .pointer (some ⟨g, 0, none⟩)) (hy : a.eval y = .agg (bs ys)) (hg : Row w g t xs) (hl : xs.length = 32) (hl' : ys.length = 32)
    (h : ∀ w1, Row w1 g t ys → Below g w w1 → Hid (∀ k, k ≠ g → w1.heap[k]? = w.heap[k]?) → wpList Try.prog ops Q rest (a.put dst undef) w1) :
    wpList Try.prog ops Q (⟨dst, .store ty' x y, ty, pos, aft, gd⟩ :: rest) a w :=
  BigFrame.wpList_want hw fun _ hK => wp_store_row ty' x y rfl g (bs ys) hx hy t (bs xs) hg (by rw [hi, bs_size, hl']) (by rw [bs_size, bs_size, hl, hl']) (bs_all ys)
    (hK _ _ (h _ (hg.setRow ys) (below_setRow (Below.refl _ _) (Nat.le_refl _) _) (fun k hk => setRow_other w g k _ hk)))

end

theorem results_row3 {fn : Func} {p u v : Tmp} {ty : TypeId} (h : fn.results = #[.cell p ty, .tmp u, .tmp v]) (hu : Try.prog.underlying ty = some (.array 32 5)) (hi : (Try.prog.info? ty).map (·.size) = some 32) (tmps : Array Value) (w : World)
    {g : Nat} {t : TypeId} {xs : List Int} (hp : tmps.getD p undef = .pointer (some ⟨g, 0, none⟩)) (hg : Row w g t xs) (hl : xs.length = 32) :
    (results fn tmps).run Try.prog w = .ok (.tuple #[.agg (bs xs), tmps.getD u undef, tmps.getD v undef]) w := by
  have hp' : tmps[p]?.getD undef = .pointer (some ⟨g, 0, none⟩) := by simpa using hp
  simp [results, h, hp', asAddr, run_loadVar_row w g t ty (bs xs) (0, 0) _ hg hu rfl (by rw [hi, bs_size, hl])]

/-- A slice of the call's own that holds the bytes xs. -/
def Own (w : World) (B : Nat) (v : Value) (xs : List Int) : Prop := w.ownsRow B 5 1 v xs.length (xs.map (Value.int .u8))

theorem Own.sl {w : World} {B : Nat} {v : Value} {xs : List Int} (h : Own w B v xs) (hb : isB xs) (hl : xs.length ≤ 140737488355328) (hn : v ≠ .slice none 0 0) :
    ∃ g cap, v = .slice (some ⟨g, 0, none⟩) xs.length cap ∧ B ≤ g ∧ Sl w (some ⟨g, 0, none⟩) xs.length cap xs := by
  obtain ⟨_, h2⟩ := h
  rcases h2 with ⟨e, _⟩ | ⟨g, cap, cur, rfl, hB, hh, h3, h4, h5, h6⟩
  · exact absurd e hn
  refine ⟨g, cap, rfl, hB, rfl, h3, by simpa [maxLen] using h4, hl, hb, (fun e => by cases e), fun _ => ⟨g, 0, rfl, fun i hi => ?_⟩⟩
  rw [Nat.zero_add, cell_of_row w g i cur 5 (0, 0) hh]
  have e : (cur.toList.take (xs.length * 1))[i]? = some (.int .u8 (xs.getD i 0)) := by rw [h6]; simp [List.getD, hi]
  rw [List.getElem?_take, if_pos (by omega)] at e
  simpa using e

theorem Own.nil (w : World) (B : Nat) : Own w B (.slice none 0 0) [] := World.ownsRow_nil _ _ _ _
theorem Own.alloc {w : World} {B : Nat} {v : Value} {xs : List Int} (h : Own w B v xs) (o : Obj) : Own (w.alloc o) B v xs := World.ownsRow.alloc h o

theorem info5b : (Try.prog.info? 5).map (fun i => (i.zero, i.size, i.bytes)) = some (some (.int .u8 0), 1, 1) := by kernel_rfl

theorem step_append {dst : Option Tmp} {s x : Operand} {ty : TypeId} {pos : String} {aft : Array Edge} {gd : Option (Nat × Bool)} {ops : Array Oper} {rest : List Oper} {a : Act} {w : World} {Q : Exit → Act → World → Prop}
    {B : Nat} {v : Value} {xs : List Int} {sa : Option Addr} {m c : Nat} {ys : List Int}
    (hw : Region.wanted ⟨dst, .call { callee := .builtin .append, args := #[s, x], argTypes := #[22, 22] }, ty, pos, aft, gd⟩ (yielded ops a.tmps) = true)
    (hs : a.eval s = v) (hx : a.eval x = .slice sa m c) (hown : Own w B v xs) (hy : Sl w sa m c ys)
    (hlen : xs.length + m ≤ 140737488355328) (hB : B ≤ w.heap.size)
    (h : ∀ v' w', Own w' B v' (xs ++ ys) → w.grownBy w' v.ownBlock → (v' = .slice none 0 0 → v = .slice none 0 0 ∧ m = 0) → wpList Try.prog ops Q rest (a.put dst v') w') :
    wpList Try.prog ops Q (⟨dst, .call { callee := .builtin .append, args := #[s, x], argTypes := #[22, 22] }, ty, pos, aft, gd⟩ :: rest) a w := by
  obtain ⟨i0, hi, hz0, hz1, hz2⟩ := info_parts info5b
  cases sa with
  | none =>
    obtain ⟨rfl, rfl⟩ := hy.hnil rfl
    obtain rfl : ys = [] := List.eq_nil_of_length_eq_zero hy.hlen
    refine BigFrame.wpList_want hw fun K hK => ?_
    have hrun := run_append_owned_none (P := Try.prog) (w := w) B 22 ty 5 i0 1 Try.underlying22 hi v _ _ hown
    unfold Oper.wp
    simp [execOp, resolve, invoke, builtin, hs, hx, hrun, Result.andThen]
    exact hK _ _ (h v w (by simpa using hown) (World.grownBy.refl _ _) (fun e => ⟨e, rfl⟩))
  | some ad =>
    refine BigFrame.wpList_want hw fun K hK => wp_append_own _ s x 22 rfl B 5 i0 (.int .u8 0) 1 1 Try.underlying22 hi hz0 hz1 hz2 rfl (by decide) v _ _ hs hown ad m c (ys.map (Value.int .u8)) hx (by simp [hy.hlen]) ?_ (bs_one ys) ?_ ?_ hB ?_
    · intro j u hu
      have hj : j < m := by
        have := (List.getElem?_eq_some_iff.1 hu).1
        simpa [hy.hlen] using this
      obtain ⟨b, off, e, hc⟩ := hy.hcell (by omega)
      obtain rfl := Option.some.inj e
      rw [Addr.add_lit, hc j hj]
      have e2 : (ys.map (Value.int .u8))[j]? = some (.int .u8 (ys.getD j 0)) := by simp [List.getD, hy.hlen, hj]
      rw [e2] at hu
      exact hu
    · unfold maxLen; omega
    · omega
    · intro v' w' h1 h2 h3
      have hm : (xs ++ ys).length = xs.length + m := by rw [List.length_append, hy.hlen]
      exact hK _ _ (h v' w' (by unfold Own; rw [hm, List.map_append]; exact h1) h2 h3.1)

end Go.Proofs.Ytgfmncgdajhmfaa
