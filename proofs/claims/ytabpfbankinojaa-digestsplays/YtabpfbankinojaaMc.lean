/-
  Laws on blocks of cells, and on arrays of numbers, as the walks meet them: made, boxed, loaded, stored, compared. No slice of the program's here.
-/
import Derived.Test.YtabpfbankinojaaProg
import Derived.Test.YtabpfbankinojaaPlain
import Derived.WalkKit
import Derived.WalkSpells
import Derived.WalkLawsBesides
import Derived.Laws.CopyOwn
import Derived.Laws.AppendOwnNone
import Derived.Deep.MidRow
import Derived.Deep.OwnRows
import Derived.Deep.RegionLaw
import Derived.ChangeKeysEq
import Derived.Laws.BytesArg
import Derived.Deep.RegionHeld3
import Derived.Deep.QuietTactic
import Derived.BigQuiet
namespace Go.Proofs.Ytabpfbankinojaa
open Go.RowKit
set_option linter.unusedVariables false

def u8s (xs : List Int) : List Value := xs.map (Value.int .u8)
def u32s (xs : List Int) : List Value := xs.map (Value.int .u32)
theorem u8s_length (xs : List Int) : (u8s xs).length = xs.length := by simp [u8s]
theorem u32s_length (xs : List Int) : (u32s xs).length = xs.length := by simp [u32s]
theorem u8s_get (xs : List Int) (i : Nat) (h : i < xs.length) : (u8s xs)[i]? = some (.int .u8 (xs.getD i 0)) := by simp [u8s, List.getD, h]
theorem u32s_get (xs : List Int) (i : Nat) (h : i < xs.length) : (u32s xs)[i]? = some (.int .u32 (xs.getD i 0)) := by simp [u32s, List.getD, h]
theorem u8s_set (xs : List Int) (i : Nat) (x : Int) : (u8s xs).set i (.int .u8 x) = u8s (xs.set i x) := by simp [u8s, List.map_set]
theorem u32s_set (xs : List Int) (i : Nat) (x : Int) : (u32s xs).set i (.int .u32 x) = u32s (xs.set i x) := by simp [u32s, List.map_set]
theorem u8s_app (xs ys : List Int) : u8s (xs ++ ys) = u8s xs ++ u8s ys := by simp [u8s]
def zer (n : Nat) : List Int := List.replicate n 0
theorem zer_length (n : Nat) : (zer n).length = n := by simp [zer]
theorem zer_isB (n : Nat) : isB (zer n) := by intro x hx; simp [zer] at hx; omega

/-- Every value takes one cell. -/
def One (cs : List Value) : Prop := ∀ v ∈ cs, v.oneCell' = true
theorem One.u8 (xs : List Int) : One (u8s xs) := ints_oneCell _ _
theorem One.u32 (xs : List Int) : One (u32s xs) := ints_oneCell _ _
theorem One.app {a b : List Value} (h : One a) (k : One b) : One (a ++ b) := fun v hv => by
  rcases List.mem_append.1 hv with hv | hv
  · exact h v hv
  · exact k v hv
theorem One.all {cs : List Value} (h : One cs) : cs.toArray.all (·.oneCell') = true := all_oneCell_toArray h

/-- Block g holds these cells, and may be written. -/
def Blk (w : World) (g : Nat) (t : TypeId) (cs : List Value) : Prop := w.heap[g]? = some (.cells cs.toArray t (0, 0))

/-- Another world in which only block g has turned. -/
structure But (g : Nat) (w w' : World) : Prop where
  os : w'.os = w.os
  tape : w'.tape = w.tape
  output : w'.output = w.output
  size : w'.heap.size = w.heap.size
  block : ∀ k, k ≠ g → w'.heap[k]? = w.heap[k]?
theorem But.refl (g : Nat) (w : World) : But g w w := ⟨rfl, rfl, rfl, rfl, fun _ _ => rfl⟩
theorem But.trans {g : Nat} {a b c : World} (h : But g a b) (k : But g b c) : But g a c :=
  ⟨k.os.trans h.os, k.tape.trans h.tape, k.output.trans h.output, k.size.trans h.size, fun i hi => (k.block i hi).trans (h.block i hi)⟩
theorem But.setCell (w : World) (g i : Nat) (v : Value) : But g w (w.setCell ⟨g, i, none⟩ v) :=
  ⟨rfl, rfl, rfl, by simp [World.setCell], fun k hk => heap_setCell_other w ⟨g, i, none⟩ k v hk⟩
theorem But.setRow (w : World) (g : Nat) (cs : Array Value) : But g w (w.setRow g cs) :=
  ⟨rfl, rfl, rfl, by simp, fun k hk => setRow_other w g k cs hk⟩
theorem But.setCells (g : Nat) : ∀ (vs : List Value) (o : Nat) (w : World), But g w (w.setCells g o vs)
  | [], _, w => But.refl g w
  | v :: r, o, w => (But.setCell w g o v).trans (But.setCells g r (o + 1) _)
theorem But.below {g B : Nat} {w w' : World} (h : But g w w') (hB : B ≤ g) : Below B w w' :=
  ⟨h.os, h.tape, h.output, Nat.le_of_eq h.size.symm, fun k hk => h.block k (by omega)⟩

section
variable {w w' : World} {g : Nat} {t : TypeId} {cs : List Value}
theorem Blk.lt (h : Blk w g t cs) : g < w.heap.size := by
  by_cases hlt : g < w.heap.size
  · exact hlt
  · have hn : w.heap[g]? = none := by simp; omega
    simp [Blk, hn] at h
theorem Blk.cell (h : Blk w g t cs) (i : Nat) : w.cell? ⟨g, i, none⟩ = cs[i]? := by
  rw [cell_of_row w g i _ t _ h]; simp
theorem Blk.free (h : Blk w g t cs) (i : Nat) : w.frozen? ⟨g, i, none⟩ = false := frozen_of_row w g i _ t h
theorem Blk.below {B : Nat} (h : Blk w g t cs) (hb : Below B w w') (hg : g < B) : Blk w' g t cs := by
  unfold Blk; rw [hb.block g hg]; exact h
theorem Blk.but {k : Nat} (h : Blk w g t cs) (hb : But k w w') (hg : g ≠ k) : Blk w' g t cs := by
  unfold Blk; rw [hb.block g hg]; exact h
theorem Blk.set (h : Blk w g t cs) (i : Nat) (v : Value) : Blk (w.setCell ⟨g, i, none⟩ v) g t (cs.set i v) := by
  unfold Blk; rw [heap_setCell_same w g i _ t _ h]; simp
theorem Blk.setRow (h : Blk w g t cs) (ds : List Value) : Blk (w.setRow g ds.toArray) g t ds := setRow_heap w g _ _ t _ h
theorem Blk.made (w : World) (t : TypeId) (cs : List Value) : Blk (w.alloc (.cells cs.toArray t)) w.heap.size t cs := heap_alloc_new w _
theorem Blk.range (h : Blk w g t cs) (o : Nat) (vs : List Value) (e : (cs.drop o).take vs.length = vs) : w.rangeAt g o vs := fun j v hv => by
  rw [h.cell, ← hv]
  have hj : j < vs.length := (List.getElem?_eq_some_iff.1 hv).1
  have : vs[j]? = ((cs.drop o).take vs.length)[j]? := by rw [e]
  rw [this, List.getElem?_take, if_pos hj, List.getElem?_drop]
theorem Blk.there (h : Blk w g t cs) (o n : Nat) (hn : o + n ≤ cs.length) : w.there g o n := fun j hj => by
  refine ⟨?_, h.free _⟩
  rw [h.cell, List.getElem?_eq_getElem (by omega)]; rfl
/-- Cells with others written over them from a place on. -/
def spl (cs vs : List Value) (o : Nat) : List Value := cs.take o ++ vs ++ cs.drop (o + vs.length)
theorem spl_cons (cs : List Value) (v : Value) (r : List Value) (o : Nat) (h : o + (r.length + 1) ≤ cs.length) : spl (cs.set o v) r (o + 1) = spl cs (v :: r) o := by
  have ho : o < cs.length := by omega
  have e1 : (cs.set o v).take (o + 1) = cs.take o ++ [v] := by
    rw [List.take_succ_eq_append_getElem (by simpa using ho), List.take_set_of_le (Nat.le_refl o)]
    simp
  have e2 : (cs.set o v).drop (o + 1 + r.length) = cs.drop (o + (r.length + 1)) := by
    rw [List.drop_set_of_lt (by omega)]
    congr 1; omega
  unfold spl
  rw [e1, e2]
  simp
theorem Blk.setCells {g : Nat} {t : TypeId} : ∀ (vs : List Value) (o : Nat) {w : World} {cs : List Value}, Blk w g t cs → o + vs.length ≤ cs.length → Blk (w.setCells g o vs) g t (spl cs vs o)
  | [], o, w, cs, h, _ => by simpa [spl, World.setCells] using h
  | v :: r, o, w, cs, h, hl => by
    rw [List.length_cons] at hl
    rw [← spl_cons cs v r o hl]
    exact Blk.setCells r (o + 1) (h.set o v) (by simp; omega)
end

/-- A slice of bytes in memory: its bytes are xs. -/
structure Sl (w : World) (a : Option Addr) (len cap : Nat) (xs : List Int) : Prop where
  hlen : xs.length = len
  hcap : len ≤ cap
  hmax : cap ≤ 9223372036854775807
  hreach : len ≤ 140737488355328
  hbyte : isB xs
  hnil : a = none → len = 0 ∧ cap = 0
  hcell : 0 < len → ∃ b off, a = some ⟨b, off, none⟩ ∧ ∀ i, i < len → w.cell? ⟨b, off + i, none⟩ = some (.int .u8 (xs.getD i 0))

theorem Sl.below {w w' : World} {a : Option Addr} {len cap : Nat} {xs : List Int} (h : Sl w a len cap xs) (hb : Below w.heap.size w w') : Sl w' a len cap xs := by
  obtain ⟨h1, h2, h3, h4, h5, h6, h7⟩ := h
  refine ⟨h1, h2, h3, h4, h5, h6, fun h => ?_⟩
  obtain ⟨b, off, e, hc⟩ := h7 h
  refine ⟨b, off, e, fun i hi => ?_⟩
  have := hc i hi
  rw [hb.cell (World.block_lt_of_cell? w _ this)]
  exact this

/-- A slice whose cells lie in no block g. -/
def Apart (g : Nat) (a : Option Addr) : Prop := ∀ x, a = some x → x.block ≠ g
theorem Sl.but {g : Nat} {w w' : World} {a : Option Addr} {len cap : Nat} {xs : List Int} (h : Sl w a len cap xs) (hb : But g w w') (hk : 0 < len → Apart g a) : Sl w' a len cap xs := by
  obtain ⟨h1, h2, h3, h4, h5, h6, h7⟩ := h
  refine ⟨h1, h2, h3, h4, h5, h6, fun h => ?_⟩
  obtain ⟨b, off, e, hc⟩ := h7 h
  refine ⟨b, off, e, fun i hi => ?_⟩
  rw [World.cell?_of_block (w := w) (hb.block b (hk h ⟨b, off, none⟩ e))]
  exact hc i hi
theorem Sl.lt {w : World} {a : Option Addr} {len cap : Nat} {xs : List Int} (h : Sl w a len cap xs) (h0 : 0 < len) : ∀ x, a = some x → x.block < w.heap.size := by
  intro x hx
  obtain ⟨b, off, e, hc⟩ := h.hcell h0
  have := World.block_lt_of_cell? w _ (hc 0 h0)
  rw [e] at hx
  cases hx
  exact this
theorem Sl.apart {w : World} {a : Option Addr} {len cap g : Nat} {xs : List Int} (h : Sl w a len cap xs) (hg : w.heap.size ≤ g) : 0 < len → Apart g a := fun h0 x hx => by
  have := h.lt h0 x hx
  omega
/-- Bytes in the midst of a block, as a slice. -/
theorem Blk.sl {w : World} {g : Nat} {t : TypeId} {cs : List Value} (h : Blk w g t cs) (off cap : Nat) (xs : List Int) (e : (cs.drop off).take xs.length = u8s xs) (hb : isB xs) (hl : xs.length ≤ 140737488355328) (hc : xs.length ≤ cap) (hm : cap ≤ 9223372036854775807) :
    Sl w (some ⟨g, off, none⟩) xs.length cap xs :=
  ⟨rfl, hc, hm, hl, hb, (fun h => by cases h), fun _ => ⟨g, off, rfl, fun i hi => by
    have := h.range off (u8s xs) (by rw [u8s_length]; exact e) i _ (u8s_get xs i hi)
    exact this⟩⟩
/-- A part of a slice. -/
theorem Sl.drop {w : World} {b o len cap : Nat} {xs : List Int} (h : Sl w (some ⟨b, o, none⟩) len cap xs) (k : Nat) (hk : k ≤ len) : Sl w (some ⟨b, o + k, none⟩) (len - k) (cap - k) (xs.drop k) := by
  obtain ⟨h1, h2, h3, h4, h5, h6, h7⟩ := h
  refine ⟨by simp [h1], by omega, by omega, by omega, h5.drop k, (fun e => by cases e), fun h0 => ?_⟩
  obtain ⟨b', o', e, hc⟩ := h7 (by omega)
  cases e
  refine ⟨b, o + k, rfl, fun i hi => ?_⟩
  rw [show o + k + i = o + (k + i) by omega, hc (k + i) (by omega)]
  simp [List.getD, List.getElem?_drop]
theorem Sl.take {w : World} {a : Option Addr} {len cap : Nat} {xs : List Int} (h : Sl w a len cap xs) (k : Nat) (hk : k ≤ len) : Sl w a k cap (xs.take k) := by
  obtain ⟨h1, h2, h3, h4, h5, h6, h7⟩ := h
  refine ⟨by simp; omega, by omega, h3, by omega, h5.take k, fun e => by have := h6 e; omega, fun h0 => ?_⟩
  obtain ⟨b', o', e, hc⟩ := h7 (by omega)
  refine ⟨b', o', e, fun i hi => ?_⟩
  rw [hc i (by omega)]
  simp [List.getD, hi]

/-- An operation whose run is known. -/
theorem step_run {P : Program} {ops : Array Oper} {rest : List Oper} {o : Oper} {a : Act} {w : World} {Q : Exit → Act → World → Prop} (hw : Region.wanted o (yielded ops a.tmps) = true)
    (v : Value) (w' : World) (hrun : (execOp a.eval o).run P w = .ok (.value v) w') (h : wpList P ops Q rest (a.put o.dst v) w') : wpList P ops Q (o :: rest) a w := by
  refine BigFrame.wpList_want hw fun K hK => ?_
  unfold Oper.wp
  rw [hrun, Oper.upon_value]
  exact hK _ _ h

/-- The zero value of a type, in new memory. -/
def Zeroed (T : TypeId) (cs : List Value) : Prop := ∀ (ev : Operand → Value) (dst : Option Tmp) (ty : TypeId) (pos : String) (aft : Array Edge) (gd : Option (Nat × Bool)) (w : World),
  (execOp ev ⟨dst, .alloc T, ty, pos, aft, gd⟩).run Try.prog w = .ok (.value (.pointer (some ⟨w.heap.size, 0, none⟩))) (w.alloc (.cells cs.toArray T))

section
variable {dst : Option Tmp} {ty : TypeId} {pos : String} {aft : Array Edge} {gd : Option (Nat × Bool)} {ops : Array Oper} {rest : List Oper} {a : Act} {w : World} {Q : Exit → Act → World → Prop}

theorem step_alloc {T : TypeId} {cs : List Value} (hz : Zeroed T cs) (hw : Region.wanted ⟨dst, .alloc T, ty, pos, aft, gd⟩ (yielded ops a.tmps) = true)
    (h : ∀ w1 g, Blk w1 g T cs → w.heap.size ≤ g → Below w.heap.size w w1 → wpList Try.prog ops Q rest (a.put dst (.pointer (some ⟨g, 0, none⟩))) w1) :
    wpList Try.prog ops Q (⟨dst, .alloc T, ty, pos, aft, gd⟩ :: rest) a w :=
  step_run hw _ _ (hz a.eval dst ty pos aft gd w) (h _ _ (Blk.made _ _ _) (Nat.le_refl _) ((Below.refl _ _).alloc (Nat.le_refl _) _))

/-- A value of many cells that came by value gets a place of its own. -/
theorem step_box {T : TypeId} {x : Operand} {cs : List Value} (hw : Region.wanted ⟨dst, .box T x, ty, pos, aft, gd⟩ (yielded ops a.tmps) = true) (hx : a.eval x = .agg cs.toArray)
    (h : ∀ w1 g, Blk w1 g T cs → w.heap.size ≤ g → Below w.heap.size w w1 → wpList Try.prog ops Q rest (a.put dst (.pointer (some ⟨g, 0, none⟩))) w1) :
    wpList Try.prog ops Q (⟨dst, .box T x, ty, pos, aft, gd⟩ :: rest) a w :=
  step_run hw (.pointer (some ⟨w.heap.size, 0, none⟩)) (w.alloc (.cells cs.toArray T))
    (by simp [execOp, hx, Instr.box, newVar, newRow, Result.andThen, Value.cells]) (h _ _ (Blk.made _ _ _) (Nat.le_refl _) ((Below.refl _ _).alloc (Nat.le_refl _) _))

/-- What is known of a type of many cells. -/
structure Wide (T : TypeId) (n : Nat) : Prop where
  row : (Try.prog.underlying T).map TypeDesc.isRow = some true
  size : (Try.prog.info? T).map (·.size) = some n
theorem Wide.und {T : TypeId} {n : Nat} (h : Wide T n) : ∃ d, Try.prog.underlying T = some d ∧ d.isRow = true := by
  have h1 := h.row
  cases hd : Try.prog.underlying T with
  | none => simp [hd] at h1
  | some d => exact ⟨d, rfl, by simpa [hd] using h1⟩

theorem wp_loadW {o : Oper} {K : Act → World → Prop} {T : TypeId} {n : Nat} (hT : Wide T n) {x : Operand} (ho : o.op = .load T x) {g off : Nat} {t : TypeId} {cs : List Value} (hx : a.eval x = .pointer (some ⟨g, off, none⟩)) (hg : Blk w g t cs)
    (vs : List Value) (hn : vs.length = n) (he : (cs.drop off).take n = vs) (h : K (a.put o.dst (.agg vs.toArray)) w) : Oper.wp Try.prog o a w K Q := by
  subst hn
  obtain ⟨d, hu, hd⟩ := hT.und
  exact wp_load_mid T x ho g off hx vs d (hg.range off vs he) hu hd hT.size h

theorem step_load {T : TypeId} {n : Nat} (hT : Wide T n) {x : Operand} (hw : Region.wanted ⟨dst, .load T x, ty, pos, aft, gd⟩ (yielded ops a.tmps) = true) {g off : Nat} {t : TypeId} {cs : List Value} (hx : a.eval x = .pointer (some ⟨g, off, none⟩)) (hg : Blk w g t cs)
    (vs : List Value) (hn : vs.length = n) (he : (cs.drop off).take n = vs) (h : wpList Try.prog ops Q rest (a.put dst (.agg vs.toArray)) w) :
    wpList Try.prog ops Q (⟨dst, .load T x, ty, pos, aft, gd⟩ :: rest) a w :=
  BigFrame.wpList_want hw fun _ hK => wp_loadW hT rfl hx hg vs hn he (hK _ _ h)

/-- The whole of a block is loaded. -/
theorem step_loadA {T : TypeId} {n : Nat} (hT : Wide T n) {x : Operand} (hw : Region.wanted ⟨dst, .load T x, ty, pos, aft, gd⟩ (yielded ops a.tmps) = true) {g : Nat} {t : TypeId} {cs : List Value} (hx : a.eval x = .pointer (some ⟨g, 0, none⟩)) (hg : Blk w g t cs)
    (hn : cs.length = n) (h : wpList Try.prog ops Q rest (a.put dst (.agg cs.toArray)) w) :
    wpList Try.prog ops Q (⟨dst, .load T x, ty, pos, aft, gd⟩ :: rest) a w :=
  step_load hT hw hx hg cs hn (by rw [List.drop_zero, List.take_of_length_le (by omega)]) h

theorem wp_storeW {o : Oper} {K : Act → World → Prop} {T : TypeId} {n : Nat} (hT : Wide T n) {x y : Operand} (ho : o.op = .store T x y) {g off : Nat} {t : TypeId} {cs vs : List Value} (hx : a.eval x = .pointer (some ⟨g, off, none⟩)) (hy : a.eval y = .agg vs.toArray) (hg : Blk w g t cs)
    (hn : vs.length = n) (h1 : One vs) (hl : off + n ≤ cs.length) (h : ∀ w1, Blk w1 g t (spl cs vs off) → But g w w1 → K (a.put o.dst undef) w1) : Oper.wp Try.prog o a w K Q := by
  subst hn
  exact wp_store_mid T x y ho g off vs.toArray hx hy (hg.there off _ (by simpa using hl)) (by simpa using hT.size) h1.all (h _ (by simpa using hg.setCells vs off hl) (by simpa using But.setCells g vs off w))

theorem step_store {T : TypeId} {n : Nat} (hT : Wide T n) {x y : Operand} (hw : Region.wanted ⟨dst, .store T x y, ty, pos, aft, gd⟩ (yielded ops a.tmps) = true) {g off : Nat} {t : TypeId} {cs vs : List Value} (hx : a.eval x = .pointer (some ⟨g, off, none⟩)) (hy : a.eval y = .agg vs.toArray) (hg : Blk w g t cs)
    (hn : vs.length = n) (h1 : One vs) (hl : off + n ≤ cs.length) (h : ∀ w1, Blk w1 g t (spl cs vs off) → But g w w1 → wpList Try.prog ops Q rest (a.put dst undef) w1) :
    wpList Try.prog ops Q (⟨dst, .store T x y, ty, pos, aft, gd⟩ :: rest) a w :=
  BigFrame.wpList_want hw fun _ hK => wp_storeW hT rfl hx hy hg hn h1 hl fun w1 h1 h2 => hK _ _ (h w1 h1 h2)

/-- The whole of a block is stored. -/
theorem step_storeA {T : TypeId} {n : Nat} (hT : Wide T n) {x y : Operand} (hw : Region.wanted ⟨dst, .store T x y, ty, pos, aft, gd⟩ (yielded ops a.tmps) = true) {g : Nat} {t : TypeId} {cs vs : List Value} (hx : a.eval x = .pointer (some ⟨g, 0, none⟩)) (hy : a.eval y = .agg vs.toArray) (hg : Blk w g t cs)
    (hn : vs.length = n) (h1 : One vs) (hl : cs.length = n) (h : ∀ w1, Blk w1 g t vs → But g w w1 → wpList Try.prog ops Q rest (a.put dst undef) w1) :
    wpList Try.prog ops Q (⟨dst, .store T x y, ty, pos, aft, gd⟩ :: rest) a w :=
  step_store hT hw hx hy hg hn h1 (by omega) fun w1 hb hbut => h w1 (by
    have e : spl cs vs 0 = vs := by
      unfold spl
      rw [List.drop_of_length_le (by omega)]
      simp
    rwa [e] at hb) hbut
end

theorem results_wide {fn : Func} {p : Tmp} {T : TypeId} (h : fn.results = #[.cell p T]) {n : Nat} (hT : Wide T n) (tmps : Array Value) (w : World)
    {g : Nat} {t : TypeId} {cs : List Value} (hp : tmps.getD p undef = .pointer (some ⟨g, 0, none⟩)) (hg : Blk w g t cs) (hl : cs.length = n) :
    (results fn tmps).run Try.prog w = .ok (.agg cs.toArray) w := by
  have hp' : tmps[p]?.getD undef = .pointer (some ⟨g, 0, none⟩) := by simpa using hp
  obtain ⟨d, hu, hd⟩ := hT.und
  simp [results, h, hp', asAddr, run_loadVar_mid w g 0 T cs d (hg.range 0 cs (by simp)) hu hd (by rw [hT.size, hl])]

/-- What is known of a type of arrays of n numbers of one kind. -/
structure Arr (T E : TypeId) (k : IntKind) (n : Nat) : Prop where
  und : Try.prog.underlying T = some (.array n E)
  elem : Try.prog.underlying E = some (.int k)
  plain : Try.prog.plainKey E = true
  cells : Try.prog.cellsOf E = 1
  info : (Try.prog.info? E).isSome = true
  guard : Try.prog.eqGuardType Try.prog.depth T = false

theorem eqItems_ints {T E : TypeId} {k : IntKind} {n : Nat} (hA : Arr T E k n) (w : World) (d : Nat) (xs ys : List Int) : ∀ is : List Nat, (∀ i ∈ is, i < xs.length ∧ i < ys.length) →
    (Op.eqItems (d + 1) E 1 (xs.map (Value.int k)).toArray (ys.map (Value.int k)).toArray is).run Try.prog w = .ok (is.all fun i => xs.getD i 0 == ys.getD i 0) w
  | [], _ => by simp [Op.eqItems]
  | i :: is, h => by
    have hi := h i (by simp)
    have e1 := run_part_plain (P := Try.prog) w hA.plain (show (xs.map (Value.int k)).toArray[i * 1]? = some (.int k (xs.getD i 0)) from by rw [Nat.mul_one]; simp [List.getD, hi.1])
    have e2 := run_part_plain (P := Try.prog) w hA.plain (show (ys.map (Value.int k)).toArray[i * 1]? = some (.int k (ys.getD i 0)) from by rw [Nat.mul_one]; simp [List.getD, hi.2])
    have e3 := run_equalIn_int (P := Try.prog) w d E k k (xs.getD i 0) (ys.getD i 0) hA.elem
    have ih := eqItems_ints hA w d xs ys is (fun j hj => h j (by simp [hj]))
    simp only [Op.eqItems, Sem.run_bind, e1, e2, e3, Result.andThen_ok, List.all_cons]
    cases (xs.getD i 0 == ys.getD i 0)
    · simp
    · simpa using ih

theorem all_range_eq (n : Nat) (xs ys : List Int) (hx : xs.length = n) (hy : ys.length = n) : ((List.range n).all fun i => xs.getD i 0 == ys.getD i 0) = decide (xs = ys) := by
  rw [Bool.eq_iff_iff]
  simp only [List.all_eq_true, List.mem_range, beq_iff_eq, decide_eq_true_eq]
  constructor
  · intro h
    apply List.ext_getElem (by omega)
    intro i h1 h2
    have := h i (by omega)
    simpa [List.getD, h1, h2] using this
  · rintro rfl i _; rfl

theorem eqA {T E : TypeId} {k : IntKind} {n : Nat} (hA : Arr T E k n) (w : World) (xs ys : List Int) (hx : xs.length = n) (hy : ys.length = n) :
    (Op.equalIn 10000 T (.agg (xs.map (Value.int k)).toArray) (.agg (ys.map (Value.int k)).toArray)).run Try.prog w = .ok (decide (xs = ys)) w := by
  obtain ⟨i0, hi⟩ := Option.isSome_iff_exists.1 hA.info
  rw [run_equalIn_array w 9999 _ _ hA.und hi, hA.cells, eqItems_ints hA w 9998 xs ys _ (by intro i hi; simp at hi; omega), all_range_eq n xs ys hx hy]

section
variable {dst : Option Tmp} {ty : TypeId} {pos : String} {aft : Array Edge} {gd : Option (Nat × Bool)} {ops : Array Oper} {rest : List Oper} {a : Act} {w : World} {Q : Exit → Act → World → Prop}
theorem run_eqA {T E : TypeId} {k : IntKind} {n : Nat} (hA : Arr T E k n) (t' : TypeId) {x y : Operand} {xs ys : List Int} (hx : a.eval x = .agg (xs.map (Value.int k)).toArray) (hy : a.eval y = .agg (ys.map (Value.int k)).toArray) (hl : xs.length = n) (hl' : ys.length = n) :
    (execOp a.eval ⟨dst, .binOp .eql T x y t', ty, pos, aft, gd⟩).run Try.prog w = .ok (.value (.bool (decide (xs = ys)))) w := by
  simp [execOp, hx, hy, run_eqGuard_agg (P := Try.prog) w .eql T x y _ _ hA.guard, run_eql_struct, eqA hA w xs ys hl hl', Result.andThen]
theorem run_neA {T E : TypeId} {k : IntKind} {n : Nat} (hA : Arr T E k n) (t' : TypeId) {x y : Operand} {xs ys : List Int} (hx : a.eval x = .agg (xs.map (Value.int k)).toArray) (hy : a.eval y = .agg (ys.map (Value.int k)).toArray) (hl : xs.length = n) (hl' : ys.length = n) :
    (execOp a.eval ⟨dst, .binOp .neq T x y t', ty, pos, aft, gd⟩).run Try.prog w = .ok (.value (.bool (!decide (xs = ys)))) w := by
  simp [execOp, hx, hy, run_eqGuard_agg (P := Try.prog) w .neq T x y _ _ hA.guard, run_neq_struct, eqA hA w xs ys hl hl', Result.andThen]
theorem step_eqA {T E : TypeId} {k : IntKind} {n : Nat} (hA : Arr T E k n) {t' : TypeId} {x y : Operand} {xs ys : List Int} (hw : Region.wanted ⟨dst, .binOp .eql T x y t', ty, pos, aft, gd⟩ (yielded ops a.tmps) = true)
    (hx : a.eval x = .agg (xs.map (Value.int k)).toArray) (hy : a.eval y = .agg (ys.map (Value.int k)).toArray) (hl : xs.length = n) (hl' : ys.length = n) (h : wpList Try.prog ops Q rest (a.put dst (.bool (decide (xs = ys)))) w) :
    wpList Try.prog ops Q (⟨dst, .binOp .eql T x y t', ty, pos, aft, gd⟩ :: rest) a w := step_run hw _ w (run_eqA hA t' hx hy hl hl') h
theorem step_neA {T E : TypeId} {k : IntKind} {n : Nat} (hA : Arr T E k n) {t' : TypeId} {x y : Operand} {xs ys : List Int} (hw : Region.wanted ⟨dst, .binOp .neq T x y t', ty, pos, aft, gd⟩ (yielded ops a.tmps) = true)
    (hx : a.eval x = .agg (xs.map (Value.int k)).toArray) (hy : a.eval y = .agg (ys.map (Value.int k)).toArray) (hl : xs.length = n) (hl' : ys.length = n) (h : wpList Try.prog ops Q rest (a.put dst (.bool (!decide (xs = ys)))) w) :
    wpList Try.prog ops Q (⟨dst, .binOp .neq T x y t', ty, pos, aft, gd⟩ :: rest) a w := step_run hw _ w (run_neA hA t' hx hy hl hl') h
end

theorem below_drewN {B : Nat} {a w : World} (h : Below B a w) (n : Nat) : Below B a (w.drewN n) := h.trans ⟨rfl, rfl, rfl, Nat.le_refl _, fun _ _ => rfl⟩
theorem But.drewN {g : Nat} {a w : World} (h : But g a w) (n : Nat) : But g a (w.drewN n) := h.trans ⟨rfl, rfl, rfl, rfl, fun _ _ => rfl⟩
theorem Blk.drewN {w : World} {g : Nat} {t : TypeId} {cs : List Value} (h : Blk w g t cs) (n : Nat) : Blk (w.drewN n) g t cs := h
theorem Sl.drewN {w : World} {a : Option Addr} {len cap : Nat} {xs : List Int} (h : Sl w a len cap xs) (n : Nat) : Sl (w.drewN n) a len cap xs := ⟨h.1, h.2, h.3, h.4, h.5, h.6, h.7⟩

theorem cell_ne (w : World) (g i j : Nat) (v : Value) (h : i ≠ j) : (w.setCell ⟨g, j, none⟩ v).cell? ⟨g, i, none⟩ = w.cell? ⟨g, i, none⟩ :=
  World.cell?_setCells_out g [v] j w ⟨g, i, none⟩ (fun _ _ => by simp; omega)
theorem wrap_in (x : Int) (h0 : -9223372036854775808 ≤ x) (h1 : x ≤ 9223372036854775807) : IntKind.i64.wrap x = x := by
  rw [IntKind.wrap_i64]
  omega
/-- An index into an array of words. -/
theorem index_at {T : TypeId} {n : Nat} (hT : Try.prog.underlying T = some (.array (Try.prog.arrayLen T) (Try.prog.elem T))) (hn : Try.prog.arrayLen T = n) (hz : ∀ w, (sizeOf (Try.prog.elem T)).run Try.prog w = .ok 1 w)
    (g i : Nat) (I : Int) (hI : I = (i : Int)) (hi : i < n) (w : World) : (Instr.indexAt T (.pointer (some ⟨g, 0, none⟩)) (.int .i64 I)).run Try.prog w = .ok (.pointer (some ⟨g, i, none⟩)) w := by
  subst hI
  rw [run_indexAt_array w T _ .i64 i hT, if_pos ⟨by omega, by rw [hn]; omega⟩, hz]
  simp only [Result.andThen_ok, Int.toNat_natCast, Nat.mul_one]
  rw [Addr.add_lit, Nat.zero_add]

theorem load_wide {T : TypeId} {n : Nat} (hT : Wide T n) {w : World} {g : Nat} {t : TypeId} {cs : List Value} (hg : Blk w g t cs) (hn : cs.length = n) : (Instr.loadAt T (.pointer (some ⟨g, 0, none⟩))).run Try.prog w = .ok (.agg cs.toArray) w := by
  obtain ⟨d, hu, hd⟩ := hT.und
  exact run_loadAt_mid w g 0 T cs d (hg.range 0 cs (by simp)) hu hd (by rw [hT.size, hn])
theorem run_eqT {dst : Option Tmp} {ty : TypeId} {pos : String} {aft : Array Edge} {gd : Option (Nat × Bool)} {a : Act} {w : World} {T E : TypeId} {k : IntKind} {n : Nat} (hA : Arr T E k n) (t' : TypeId) {x y : Operand} {xs : List Int} (hx : a.eval x = .agg (xs.map (Value.int k)).toArray) (hy : a.eval y = .agg (xs.map (Value.int k)).toArray) (hl : xs.length = n) :
    (execOp a.eval ⟨dst, .binOp .eql T x y t', ty, pos, aft, gd⟩).run Try.prog w = .ok (.value (.bool true)) w := by
  rw [run_eqA hA t' hx hy hl hl]
  simp

section
variable {P : Program} {ops : Array Oper} {Q : Exit → Act → World → Prop} {md : Region.Mode} {S : World → Prop}
/-- An operation of a region that yields v in every world that meets S is taken first; its slot is named. -/
theorem takeH (i : Nat) (t : Tmp) (v : Value) {oi : Oper} {fuel : Nat} {listed : Array Bool} {a : Act} {w : World} (hS : S w) (hi : ops[i]? = some oi) (hd : oi.dst = some t)
    (hs : Region.noSelect ops = true) (hf : Region.free md ops listed i = true) (hr : (Region.ready md ops listed).contains i = true)
    (hQ : ∀ c a w, Q (.panic c) (a.put oi.dst v) w → Q (.panic c) a w) (hy : YieldsIf P ops S oi v a)
    (h : wpAnyH P md ops Q S fuel (listed.setIfInBounds i true) (a.put (some t) v) w) : wpAnyH P md ops Q S (fuel + 1) listed a w :=
  wpAnyH_take hi hs hf hr hQ hy hS (by rw [hd]; exact h)
end


end Go.Proofs.Ytabpfbankinojaa
