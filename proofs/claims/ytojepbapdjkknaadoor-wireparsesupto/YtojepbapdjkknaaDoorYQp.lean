/-
  Texts one behind the other: YNum YArr YEq YMem YApp YDigit YPack YTrim YUnb YGrp YB64 YPl YB64R YUnbR.
-/
import Derived.Test.YtojepbapdjkknaaDoorProg
import Derived.Test.YtojepbapdjkknaaDoorPlain
import Derived.WalkKit
import Derived.WalkSpells
import Derived.WalkLawsBesides
import Derived.Laws.CopyOwn
import Derived.Laws.AppendOwnNone
import Derived.ChangeKeysEq
import Derived.Laws.BytesArg
import Derived.Deep.OwnRows
import Derived.Deep.RegionLaw
import Derived.Lib.Bytealg
import Derived.Lib.Strings
import Derived.Test.YtojepbapdjkknaaDoorMc
import Derived.Deep.RegionHeld3
import Derived.Deep.CutBlock
import Derived.Deep.CutRange

/-
  octet, ported from round 1 (Num).
-/
namespace Go.Proofs.YtojepbapdjkknaaDoor.Oct
open Go.RowKit

/-- A slice of bytes in memory: its bytes are xs. -/
structure Sl (w : World) (a : Option Addr) (len cap : Nat) (xs : List Int) : Prop where
  hlen : xs.length = len
  hcap : len ≤ cap
  hmax : cap ≤ 9223372036854775807
  hreach : len ≤ 140737488355328
  hbyte : isB xs
  hnil : a = none → len = 0 ∧ cap = 0
  hcell : 0 < len → ∃ b off, a = some ⟨b, off, none⟩ ∧ ∀ i, i < len → w.cell? ⟨b, off + i, none⟩ = some (.int .u8 (xs.getD i 0))

theorem Sl.below {w w' : World} {a : Option Addr} {len cap : Nat} {xs : List Int} (h : Sl w a len cap xs) (hb : Below w.heap.size w w') : Sl w' a len cap xs := by
  obtain ⟨h1, h2, h3, h4, h5, h6, h7⟩ := h
  refine ⟨h1, h2, h3, h4, h5, h6, fun h => ?_⟩
  obtain ⟨b, off, e, hc⟩ := h7 h
  refine ⟨b, off, e, fun i hi => ?_⟩
  have := hc i hi
  rw [hb.cell (World.block_lt_of_cell? w _ this)]
  exact this

theorem Sl.pre {w : World} {a : Option Addr} {n cap : Nat} {xs ys : List Int} (h : Sl w a n cap (xs ++ ys)) : Sl w a xs.length cap xs := by
  have hl := h.hlen
  rw [List.length_append] at hl
  have hcap := h.hcap
  have hreach := h.hreach
  refine ⟨rfl, by omega, h.hmax, by omega, fun x hx => h.hbyte x (List.mem_append_left _ hx), fun e => by have := h.hnil e; omega, fun hp => ?_⟩
  obtain ⟨b, off, e, hc⟩ := h.hcell (by omega)
  refine ⟨b, off, e, fun i hi => ?_⟩
  rw [hc i (by omega)]
  simp [List.getD, List.getElem?_append_left hi]

theorem mul_step (v x : Int) (h0 : 0 ≤ v) (h1 : v < 72057594037927936) (h2 : 0 ≤ x) (h3 : x ≤ 255) :
    IntKind.u64.wrap (IntKind.u64.wrap (v * 256) + IntKind.u64.wrap x) = v * 256 + x := by
  rw [IntKind.wrap_u64, IntKind.wrap_u64, IntKind.wrap_u64, Int.emod_eq_of_lt (by omega) (by omega), Int.emod_eq_of_lt (by omega) (by omega)]
  omega

end Go.Proofs.YtojepbapdjkknaaDoor.Oct

/-
  octet, ported from round 1 (Arr).
-/
namespace Go.Proofs.YtojepbapdjkknaaDoor.Oct
open Go.RowKit
set_option linter.unusedVariables false

def bs (xs : List Int) : Array Value := (xs.map (Value.int .u8)).toArray
theorem bs_size (xs : List Int) : (bs xs).size = xs.length := by simp [bs]
theorem bs_get (xs : List Int) (i : Nat) (h : i < xs.length) : (bs xs)[i]? = some (.int .u8 (xs.getD i 0)) := by simp [bs, List.getD, h]
theorem bs_one (xs : List Int) : ∀ v ∈ xs.map (Value.int .u8), v.oneCell' = true := ints_oneCell _ _
theorem bs_all (xs : List Int) : (bs xs).all (·.oneCell') = true := by
  rw [Array.all_eq_true_iff_forall_mem]; intro v hv; exact bs_one xs v (by simpa [bs] using hv)
theorem bs_set (xs : List Int) (i : Nat) (x : Int) : (bs xs).setIfInBounds i (.int .u8 x) = bs (xs.set i x) := by
  simp [bs, List.map_set]

/-- Block g is a row of the bytes xs that may be written. -/
def Row (w : World) (g : Nat) (t : TypeId) (xs : List Int) : Prop := w.heap[g]? = some (.cells (bs xs) t (0, 0))

section
variable {w w' : World} {g : Nat} {t : TypeId} {xs : List Int}
theorem Row.lt (h : Row w g t xs) : g < w.heap.size := by
  by_cases hlt : g < w.heap.size
  · exact hlt
  · have hn : w.heap[g]? = none := by simp; omega
    simp [Row, hn] at h
theorem Row.cell (h : Row w g t xs) (i : Nat) (hi : i < xs.length) : w.cell? ⟨g, i, none⟩ = some (.int .u8 (xs.getD i 0)) := by
  rw [cell_of_row w g i _ t _ h, bs_get xs i hi]
theorem Row.free (h : Row w g t xs) (i : Nat) : w.frozen? ⟨g, i, none⟩ = false := frozen_of_row w g i _ t h
theorem Row.below {B : Nat} (h : Row w g t xs) (hb : Below B w w') (hg : g < B) : Row w' g t xs := by
  unfold Row; rw [hb.block g hg]; exact h
theorem Row.set (h : Row w g t xs) (i : Nat) (x : Int) : Row (w.setCell ⟨g, i, none⟩ (.int .u8 x)) g t (xs.set i x) := by
  unfold Row; rw [heap_setCell_same w g i _ t _ h, bs_set]
theorem Row.setRow (h : Row w g t xs) (ys : List Int) : Row (w.setRow g (bs ys)) g t ys := setRow_heap w g _ _ t _ h
theorem Row.made (w : World) (t : TypeId) (xs : List Int) : Row (w.alloc (.cells (bs xs) t)) w.heap.size t xs := heap_alloc_new w _
theorem Row.other (h : Row w g t xs) {k : Nat} (ho : ∀ i, i ≠ k → w'.heap[i]? = w.heap[i]?) (hk : g ≠ k) : Row w' g t xs := by
  unfold Row; rw [ho g hk]; exact h
theorem Row.sl (h : Row w g t xs) (hb : isB xs) (hl : xs.length ≤ 140737488355328) : Sl w (some ⟨g, 0, none⟩) xs.length xs.length xs :=
  ⟨rfl, Nat.le_refl _, by omega, hl, hb, (fun h => by cases h), fun _ => ⟨g, 0, rfl, fun i hi => by simpa using h.cell i hi⟩⟩
end

/-- An operation whose run is known. -/
theorem step_run {P : Program} {ops : Array Oper} {rest : List Oper} {o : Oper} {a : Act} {w : World} {Q : Exit → Act → World → Prop} (hw : Region.wanted o (yielded ops a.tmps) = true)
    (v : Value) (w' : World) (hrun : (execOp a.eval o).run P w = .ok (.value v) w') (h : wpList P ops Q rest (a.put o.dst v) w') : wpList P ops Q (o :: rest) a w := by
  refine BigFrame.wpList_want hw fun K hK => ?_
  unfold Oper.wp
  rw [hrun, Oper.upon_value]
  exact hK _ _ h

section
variable {dst : Option Tmp} {ty : TypeId} {pos : String} {aft : Array Edge} {gd : Option (Nat × Bool)} {ops : Array Oper} {rest : List Oper} {a : Act} {w : World} {Q : Exit → Act → World → Prop}

set_option maxRecDepth 100000 in
/-- A whole array of 32 bytes is loaded. -/
theorem step_loadA {ty' : TypeId} (hu : Tryd.prog.underlying ty' = some (.array 32 5)) (hi : (Tryd.prog.info? ty').map (·.size) = some 32) {x : Operand}
    {g : Nat} {t : TypeId} {xs : List Int} (hw : Region.wanted ⟨dst, .load ty' x, ty, pos, aft, gd⟩ (yielded ops a.tmps) = true) (hx : a.eval x = .pointer (some ⟨g, 0, none⟩)) (hg : Row w g t xs) (hl : xs.length = 32)
    (h : wpList Tryd.prog ops Q rest (a.put dst (.agg (bs xs))) w) :
    wpList Tryd.prog ops Q (⟨dst, .load ty' x, ty, pos, aft, gd⟩ :: rest) a w :=
  BigFrame.wpList_want hw fun _ hK => wp_load_row ty' x rfl g hx t (bs xs) (0, 0) _ hg hu rfl (by rw [hi, bs_size, hl]) (hK _ _ h)

set_option maxRecDepth 100000 in
/-- A whole array of 32 bytes is stored. -/
theorem step_storeA {ty' : TypeId} (hi : (Tryd.prog.info? ty').map (·.size) = some 32) {x y : Operand}
    {g : Nat} {t : TypeId} {xs ys : List Int} (hw : Region.wanted ⟨dst, .store ty' x y, ty, pos, aft, gd⟩ (yielded ops a.tmps) = true) (hx : a.eval x = .pointer (some ⟨g, 0, none⟩)) (hy : a.eval y = .agg (bs ys)) (hg : Row w g t xs) (hl : xs.length = 32) (hl' : ys.length = 32)
    (h : ∀ w1, Row w1 g t ys → Below g w w1 → Hid (∀ k, k ≠ g → w1.heap[k]? = w.heap[k]?) → wpList Tryd.prog ops Q rest (a.put dst undef) w1) :
    wpList Tryd.prog ops Q (⟨dst, .store ty' x y, ty, pos, aft, gd⟩ :: rest) a w :=
  BigFrame.wpList_want hw fun _ hK => wp_store_row ty' x y rfl g (bs ys) hx hy t (bs xs) hg (by rw [hi, bs_size, hl']) (by rw [bs_size, bs_size, hl, hl']) (bs_all ys)
    (hK _ _ (h _ (hg.setRow ys) (below_setRow (Below.refl _ _) (Nat.le_refl _) _) (fun k hk => setRow_other w g k _ hk)))

end

set_option maxRecDepth 100000 in
theorem results_row3 {fn : Func} {p u v : Tmp} {ty : TypeId} (h : fn.results = #[.cell p ty, .tmp u, .tmp v]) (hu : Tryd.prog.underlying ty = some (.array 32 5)) (hi : (Tryd.prog.info? ty).map (·.size) = some 32) (tmps : Array Value) (w : World)
    {g : Nat} {t : TypeId} {xs : List Int} (hp : tmps.getD p undef = .pointer (some ⟨g, 0, none⟩)) (hg : Row w g t xs) (hl : xs.length = 32) :
    (results fn tmps).run Tryd.prog w = .ok (.tuple #[.agg (bs xs), tmps.getD u undef, tmps.getD v undef]) w := by
  have hp' : tmps[p]?.getD undef = .pointer (some ⟨g, 0, none⟩) := by simpa using hp
  simp [results, h, hp', asAddr, run_loadVar_row w g t ty (bs xs) (0, 0) _ hg hu rfl (by rw [hi, bs_size, hl])]

/-- A slice of the call's own that holds the bytes xs. -/
def Own (w : World) (B : Nat) (v : Value) (xs : List Int) : Prop := w.ownsRow B 5 1 v xs.length (xs.map (Value.int .u8))

theorem Own.sl {w : World} {B : Nat} {v : Value} {xs : List Int} (h : Own w B v xs) (hb : isB xs) (hl : xs.length ≤ 140737488355328) (hn : v ≠ .slice none 0 0) :
    ∃ g cap, v = .slice (some ⟨g, 0, none⟩) xs.length cap ∧ B ≤ g ∧ Sl w (some ⟨g, 0, none⟩) xs.length cap xs := by
  obtain ⟨_, h2⟩ := h
  rcases h2 with ⟨e, _⟩ | ⟨g, cap, cur, rfl, hB, hh, h3, h4, h5, h6⟩
  · exact absurd e hn
  refine ⟨g, cap, rfl, hB, rfl, h3, by simpa [maxLen] using h4, hl, hb, (fun e => by cases e), fun _ => ⟨g, 0, rfl, fun i hi => ?_⟩⟩
  rw [Nat.zero_add, cell_of_row w g i cur 5 (0, 0) hh]
  have e : (cur.toList.take (xs.length * 1))[i]? = some (.int .u8 (xs.getD i 0)) := by rw [h6]; simp [List.getD, hi]
  rw [List.getElem?_take, if_pos (by omega)] at e
  simpa using e

theorem Own.nil (w : World) (B : Nat) : Own w B (.slice none 0 0) [] := World.ownsRow_nil _ _ _ _
theorem Own.alloc {w : World} {B : Nat} {v : Value} {xs : List Int} (h : Own w B v xs) (o : Obj) : Own (w.alloc o) B v xs := World.ownsRow.alloc h o

set_option maxRecDepth 100000 in
theorem info5b : (Tryd.prog.info? 5).map (fun i => (i.zero, i.size, i.bytes)) = some (some (.int .u8 0), 1, 1) := by kernel_rfl

theorem step_append {dst : Option Tmp} {s x : Operand} {ty : TypeId} {pos : String} {aft : Array Edge} {gd : Option (Nat × Bool)} {ops : Array Oper} {rest : List Oper} {a : Act} {w : World} {Q : Exit → Act → World → Prop}
    {B : Nat} {v : Value} {xs : List Int} {sa : Option Addr} {m c : Nat} {ys : List Int}
    (hw : Region.wanted ⟨dst, .call { callee := .builtin .append, args := #[s, x], argTypes := #[26, 26] }, ty, pos, aft, gd⟩ (yielded ops a.tmps) = true)
    (hs : a.eval s = v) (hx : a.eval x = .slice sa m c) (hown : Own w B v xs) (hy : Sl w sa m c ys)
    (hlen : xs.length + m ≤ 140737488355328) (hB : B ≤ w.heap.size)
    (h : ∀ v' w', Own w' B v' (xs ++ ys) → w.grownBy w' v.ownBlock → (v' = .slice none 0 0 → v = .slice none 0 0 ∧ m = 0) → wpList Tryd.prog ops Q rest (a.put dst v') w') :
    wpList Tryd.prog ops Q (⟨dst, .call { callee := .builtin .append, args := #[s, x], argTypes := #[26, 26] }, ty, pos, aft, gd⟩ :: rest) a w := by
  obtain ⟨i0, hi, hz0, hz1, hz2⟩ := info_parts info5b
  cases sa with
  | none =>
    obtain ⟨rfl, rfl⟩ := hy.hnil rfl
    obtain rfl : ys = [] := List.eq_nil_of_length_eq_zero hy.hlen
    refine BigFrame.wpList_want hw fun K hK => ?_
    have hrun := run_append_owned_none (P := Tryd.prog) (w := w) B 26 ty 5 i0 1 Tryd.underlying26 hi v _ _ hown
    unfold Oper.wp
    simp [execOp, resolve, invoke, builtin, hs, hx, hrun, Result.andThen]
    exact hK _ _ (h v w (by simpa using hown) (World.grownBy.refl _ _) (fun e => ⟨e, rfl⟩))
  | some ad =>
    refine BigFrame.wpList_want hw fun K hK => wp_append_own _ s x 26 rfl B 5 i0 (.int .u8 0) 1 1 Tryd.underlying26 hi hz0 hz1 hz2 rfl (by decide) v _ _ hs hown ad m c (ys.map (Value.int .u8)) hx (by simp [hy.hlen]) ?_ (bs_one ys) ?_ ?_ hB ?_
    · intro j u hu
      have hj : j < m := by
        have := (List.getElem?_eq_some_iff.1 hu).1
        simpa [hy.hlen] using this
      obtain ⟨b, off, e, hc⟩ := hy.hcell (by omega)
      obtain rfl := Option.some.inj e
      rw [Addr.add_lit, hc j hj]
      have e2 : (ys.map (Value.int .u8))[j]? = some (.int .u8 (ys.getD j 0)) := by simp [List.getD, hy.hlen, hj]
      rw [e2] at hu
      exact hu
    · unfold maxLen; omega
    · omega
    · intro v' w' h1 h2 h3
      have hm : (xs ++ ys).length = xs.length + m := by rw [List.length_append, hy.hlen]
      exact hK _ _ (h v' w' (by unfold Own; rw [hm, List.map_append]; exact h1) h2 h3.1)

end Go.Proofs.YtojepbapdjkknaaDoor.Oct

/-
  octet, ported from round 1 (Eq).
-/
namespace Go.Proofs.YtojepbapdjkknaaDoor.Oct
open Go.RowKit
set_option linter.unusedVariables false

set_option maxRecDepth 100000 in
theorem plain5 : Tryd.prog.plainKey 5 = true := by kernel_rfl
theorem und5 : Tryd.prog.underlying 5 = some (.int .u8) := by kernel_rfl
theorem und22 : Tryd.prog.underlying 26 = some (.slice 5) := by kernel_rfl
set_option maxRecDepth 100000 in
theorem und9 : Tryd.prog.underlying 9 = some .string := by kernel_rfl

theorem eqItems_bytes (w : World) (d : Nat) (xs ys : List Int) : ∀ is : List Nat, (∀ i ∈ is, i < xs.length ∧ i < ys.length) →
    (Op.eqItems (d + 1) 5 1 (bs xs) (bs ys) is).run Tryd.prog w = .ok (is.all fun i => xs.getD i 0 == ys.getD i 0) w
  | [], _ => by simp [Op.eqItems]
  | i :: is, h => by
    have hi := h i (by simp)
    have e1 := run_part_plain (P := Tryd.prog) w plain5 (show (bs xs)[i * 1]? = some _ from by rw [Nat.mul_one]; exact bs_get xs i hi.1)
    have e2 := run_part_plain (P := Tryd.prog) w plain5 (show (bs ys)[i * 1]? = some _ from by rw [Nat.mul_one]; exact bs_get ys i hi.2)
    have e3 := run_equalIn_int (P := Tryd.prog) w d 5 .u8 .u8 (xs.getD i 0) (ys.getD i 0) und5
    have ih := eqItems_bytes w d xs ys is (fun j hj => h j (by simp [hj]))
    simp only [Op.eqItems, Sem.run_bind, e1, e2, e3, Result.andThen_ok, List.all_cons]
    cases (xs.getD i 0 == ys.getD i 0)
    · simp
    · simpa using ih

theorem all_range_eq (xs ys : List Int) (hx : xs.length = 32) (hy : ys.length = 32) : ((List.range 32).all fun i => xs.getD i 0 == ys.getD i 0) = decide (xs = ys) := by
  rw [Bool.eq_iff_iff]
  simp only [List.all_eq_true, List.mem_range, beq_iff_eq, decide_eq_true_eq]
  constructor
  · intro h
    apply List.ext_getElem (by omega)
    intro i h1 h2
    have := h i (by omega)
    simpa [List.getD, h1, h2] using this
  · rintro rfl i _; rfl

set_option maxRecDepth 100000 in
theorem eqA {ty : TypeId} (hu : Tryd.prog.underlying ty = some (.array 32 5)) (w : World) (xs ys : List Int) (hx : xs.length = 32) (hy : ys.length = 32) :
    (Op.equalIn 10000 ty (.agg (bs xs)) (.agg (bs ys))).run Tryd.prog w = .ok (decide (xs = ys)) w := by
  obtain ⟨i0, hi, _⟩ := info_parts info5b
  have hc : Tryd.prog.cellsOf 5 = 1 := by kernel_rfl
  rw [run_equalIn_array w 9999 (bs xs) (bs ys) hu hi, hc, eqItems_bytes w 9998 xs ys _ (by intro i hi; simp at hi; omega), all_range_eq xs ys hx hy]

/-- The bytes as a string. -/
def str (xs : List Int) : ByteArray := strOfNums xs

set_option maxRecDepth 100000 in
theorem toStr {w : World} {a : Option Addr} {len cap : Nat} {xs : List Int} (h : Sl w a len cap xs) : (convert 26 9 (.slice a len cap)).run Tryd.prog w = .ok (.string (str xs)) w := by
  cases a with
  | none =>
    have e := h.hnil rfl
    obtain rfl : xs = [] := List.eq_nil_of_length_eq_zero (by rw [h.hlen]; exact e.1)
    exact run_convert_bytes_nil w 26 5 und22 und5 len cap 9 und9
  | some x =>
    by_cases h0 : 0 < len
    · obtain ⟨b, off, e, hc⟩ := h.hcell h0
      obtain rfl := Option.some.inj e
      exact run_convert_bytes_arg w 26 5 und22 und5 b off len cap xs h.hlen hc 9 und9
    · obtain rfl : len = 0 := by omega
      obtain rfl : xs = [] := List.eq_nil_of_length_eq_zero h.hlen
      rw [run_convert_bytes_string w 26 9 5 _ 0 cap und22 und5 und9, run_bytesToString w x 0 cap [] (by simp [loadCells, loadCellsFrom])]
      rfl

set_option maxRecDepth 100000 in
theorem eqg25 : Tryd.prog.eqGuardType Tryd.prog.depth 25 = false := by kernel_rfl

section
variable {dst : Option Tmp} {ty : TypeId} {pos : String} {aft : Array Edge} {gd : Option (Nat × Bool)} {ops : Array Oper} {rest : List Oper} {a : Act} {w : World} {Q : Exit → Act → World → Prop}

set_option maxRecDepth 100000 in
theorem step_toStr {x : Operand} {sa : Option Addr} {m c : Nat} {ys : List Int} (hw : Region.wanted ⟨dst, .convert 26 9 x, ty, pos, aft, gd⟩ (yielded ops a.tmps) = true)
    (hx : a.eval x = .slice sa m c) (hy : Sl w sa m c ys) (h : wpList Tryd.prog ops Q rest (a.put dst (.string (str ys))) w) :
    wpList Tryd.prog ops Q (⟨dst, .convert 26 9 x, ty, pos, aft, gd⟩ :: rest) a w :=
  step_run hw (.string (str ys)) w (by simp [execOp, hx, toStr hy, Result.andThen]) h

end

theorem str_append (xs ys : List Int) : str xs ++ str ys = str (xs ++ ys) := by
  apply ByteArray.ext
  simp [str, strOfNums]

theorem str_size (xs : List Int) : (str xs).size = xs.length := strOfNums_size xs
theorem str_90 (xs : List Int) : str xs ++ { data := #[90] } = str (xs ++ [90]) := (str_append xs [90])

theorem str_inj {xs ys : List Int} (hx : isB xs) (hy : isB ys) (h : str xs = str ys) : xs = ys := by
  have e := congrArg (fun s : ByteArray => s.data.toList) h
  simp only [str, strOfNums_data] at e
  have key : ∀ zs : List Int, isB zs → (zs.map fun n => UInt8.ofNat n.toNat).map (fun c => (c.toNat : Int)) = zs := by
    intro zs hz
    rw [List.map_map]
    conv => rhs; rw [← List.map_id zs]
    apply List.map_congr_left
    intro z hzz
    have := hz z hzz
    simp only [Function.comp, UInt8.toNat_ofNat', id]
    omega
  rw [← key xs hx, ← key ys hy, e]

end Go.Proofs.YtojepbapdjkknaaDoor.Oct

/-
  octet, ported from round 1 (Mem).
-/
namespace Go.Proofs.YtojepbapdjkknaaDoor.Oct
open Go.RowKit
set_option linter.unusedVariables false

set_option maxRecDepth 100000 in
theorem info5c : (Tryd.prog.info? 5).map (·.size) = some 1 := by kernel_rfl

/-- Noughts. -/
def zer (n : Nat) : List Int := List.replicate n 0
theorem zer_length (n : Nat) : (zer n).length = n := by simp [zer]
theorem zer_isB (n : Nat) : isB (zer n) := by intro x hx; simp [zer] at hx; omega
theorem made_zer (n : Nat) : madeCells #[Value.int .u8 0] n = bs (zer n) := by
  apply Array.toList_inj.1
  rw [toList_madeCells_one]
  simp [bs, zer]

/-- Another world in which only block g has turned. -/
structure But (g : Nat) (w w' : World) : Prop where
  os : w'.os = w.os
  tape : w'.tape = w.tape
  output : w'.output = w.output
  size : w'.heap.size = w.heap.size
  block : ∀ k, k ≠ g → w'.heap[k]? = w.heap[k]?
theorem But.refl (g : Nat) (w : World) : But g w w := ⟨rfl, rfl, rfl, rfl, fun _ _ => rfl⟩
theorem But.trans {g : Nat} {a b c : World} (h : But g a b) (k : But g b c) : But g a c :=
  ⟨k.os.trans h.os, k.tape.trans h.tape, k.output.trans h.output, k.size.trans h.size, fun i hi => (k.block i hi).trans (h.block i hi)⟩
theorem But.setCell (w : World) (g i : Nat) (v : Value) : But g w (w.setCell ⟨g, i, none⟩ v) :=
  ⟨rfl, rfl, rfl, by simp [World.setCell], fun k hk => heap_setCell_other w ⟨g, i, none⟩ k v hk⟩
theorem But.setRow (w : World) (g : Nat) (cs : Array Value) : But g w (w.setRow g cs) :=
  ⟨rfl, rfl, rfl, by simp, fun k hk => setRow_other w g k cs hk⟩
theorem But.below {g B : Nat} {w w' : World} (h : But g w w') (hB : B ≤ g) : Below B w w' :=
  ⟨h.os, h.tape, h.output, Nat.le_of_eq h.size.symm, fun k hk => h.block k (by omega)⟩
theorem Row.but {g k : Nat} {w w' : World} {t : TypeId} {xs : List Int} (h : Row w k t xs) (hb : But g w w') (hk : k ≠ g) : Row w' k t xs := h.other (fun i hi => hb.block i hi) hk

/-- A slice whose cells lie in no block g. -/
def Apart (g : Nat) (a : Option Addr) : Prop := ∀ x, a = some x → x.block ≠ g
theorem Sl.but {g : Nat} {w w' : World} {a : Option Addr} {len cap : Nat} {xs : List Int} (h : Sl w a len cap xs) (hb : But g w w') (hk : 0 < len → Apart g a) : Sl w' a len cap xs := by
  obtain ⟨h1, h2, h3, h4, h5, h6, h7⟩ := h
  refine ⟨h1, h2, h3, h4, h5, h6, fun h => ?_⟩
  obtain ⟨b, off, e, hc⟩ := h7 h
  refine ⟨b, off, e, fun i hi => ?_⟩
  rw [World.cell?_of_block (w := w) (hb.block b (hk h ⟨b, off, none⟩ e))]
  exact hc i hi
theorem Sl.lt {w : World} {a : Option Addr} {len cap : Nat} {xs : List Int} (h : Sl w a len cap xs) (h0 : 0 < len) : ∀ x, a = some x → x.block < w.heap.size := by
  intro x hx
  obtain ⟨b, off, e, hc⟩ := h.hcell h0
  have := World.block_lt_of_cell? w _ (hc 0 h0)
  rw [e] at hx
  cases hx
  exact this
theorem Sl.apart {w : World} {a : Option Addr} {len cap g : Nat} {xs : List Int} (h : Sl w a len cap xs) (hg : w.heap.size ≤ g) : 0 < len → Apart g a := fun h0 x hx => by
  have := h.lt h0 x hx
  omega

section
variable {dst : Option Tmp} {ty : TypeId} {pos : String} {aft : Array Edge} {gd : Option (Nat × Bool)} {ops : Array Oper} {rest : List Oper} {a : Act} {w : World} {Q : Exit → Act → World → Prop}

set_option maxRecDepth 100000 in
/-- make of a slice of bytes. -/
theorem step_make {l c : Operand} {L C : Int} (n : Nat) (hw : Region.wanted ⟨dst, .makeSlice 26 l c, ty, pos, aft, gd⟩ (yielded ops a.tmps) = true)
    (hl : a.eval l = .int .i64 L) (hc : a.eval c = .int .i64 C) (hL : L = (n : Int)) (hC : C = (n : Int)) (hn : n ≤ 281474976710656)
    (h : ∀ w1 g, Row w1 g 5 (zer n) → w.heap.size ≤ g → Below w.heap.size w w1 → wpList Tryd.prog ops Q rest (a.put dst (.slice (some ⟨g, 0, none⟩) n n)) w1) :
    wpList Tryd.prog ops Q (⟨dst, .makeSlice 26 l c, ty, pos, aft, gd⟩ :: rest) a w := by
  obtain ⟨i0, hi, hz0, hz1, hz2⟩ := info_parts info5b
  subst hL hC
  refine step_run hw (.slice (some ⟨w.heap.size, 0, none⟩) n n) (w.alloc (.cells (bs (zer n)) 5)) ?_ (h _ _ (Row.made _ _ _) (Nat.le_refl _) ((Below.refl _ _).alloc (Nat.le_refl _) _))
  have hr := run_make_row (P := Tryd.prog) 26 5 i0 (.int .u8 0) Tryd.underlying26 hi hz0 hz1 rfl .i64 .i64 n (by rw [hz2]; omega) (by omega) w
  rw [made_zer] at hr
  simp [execOp, hl, hc, hr, Result.andThen]

set_option maxRecDepth 100000 in
theorem wp_copyB {o : Oper} {K : Act → World → Prop} {d s : Operand} (ho : o.op = .call { callee := .builtin .copy, args := #[d, s], argTypes := #[26, 26] })
    {dp sa : Option Addr} {dLen dCap m c : Nat} {ys : List Int} (hd : a.eval d = .slice dp dLen dCap) (hs : a.eval s = .slice sa m c) (hy : Sl w sa m c ys)
    (g off k : Nat) (hk : k = min m dLen) {t : TypeId} {xs : List Int} (hg : Row w g t xs) (hdp : 0 < k → dp = some ⟨g, off, none⟩) (hfit : off + k ≤ xs.length)
    (h : ∀ w1, Row w1 g t (splice xs off (ys.take k)) → But g w w1 → K (a.put o.dst (goInt k)) w1) : Oper.wp Tryd.prog o a w K Q := by
  have hkm : k ≤ m := by omega
  have hk' : k = Nat.min m dLen := hk
  have hlen : (ys.take k).length = k := by
    have := hy.hlen
    rw [List.length_take]; omega
  by_cases h0 : k = 0
  · have hrun := run_copy_none (P := Tryd.prog) w 26 26 o.type 5 dp sa dLen dCap m c Tryd.underlying26 info5c (by rw [← hk']; exact h0)
    unfold Oper.wp
    simp [execOp, ho, resolve, invoke, builtin, hd, hs, hrun, Result.andThen]
    have hx : splice xs off (ys.take k) = xs := by rw [h0]; simp [splice]
    have h' := h w (by rw [hx]; exact hg) (But.refl _ _)
    rw [h0] at h'
    exact h'
  · have hp := hdp (by omega)
    subst hp
    obtain ⟨b, o', e, hc⟩ := hy.hcell (by omega)
    subst e
    have hrun := run_copy_row (P := Tryd.prog) w 26 26 o.type 5 g off dLen dCap ⟨b, o', none⟩ m c (bs xs) t ((ys.take k).map (Value.int .u8)) Tryd.underlying26 info5c hg (by rw [List.length_map, hlen]; exact hk')
      (by
        intro j v hj
        have hjl : j < k := by
          have := (List.getElem?_eq_some_iff.1 hj).1
          rwa [List.length_map, hlen] at this
        have hjm : j < m := by omega
        rw [Addr.add_lit, hc j hjm]
        have e2 : ((ys.take k).map (Value.int .u8))[j]? = some (.int .u8 (ys.getD j 0)) := by
          rw [List.getElem?_map, List.getElem?_take, if_pos hjl]
          simp [List.getD, hy.hlen, hjm]
        rw [e2] at hj
        exact hj)
      (by rw [List.length_map, hlen, bs_size]; exact hfit) (bs_one _)
    have e3 : ((bs xs).toList.take off ++ (ys.take k).map (Value.int .u8) ++ (bs xs).toList.drop (off + ((ys.take k).map (Value.int .u8)).length)).toArray = bs (splice xs off (ys.take k)) := by
      simp [bs, splice, List.map_take, List.map_drop]
    have e4 : ((ys.take k).map (Value.int .u8)).length = k := by rw [List.length_map, hlen]
    rw [e3, e4] at hrun
    unfold Oper.wp
    simp [execOp, ho, resolve, invoke, builtin, hd, hs, hrun, Result.andThen]
    exact h _ (hg.setRow _) (But.setRow _ _ _)

set_option maxRecDepth 100000 in
/-- copy, one step of a list of operations. -/
theorem step_copy {d s : Operand} {dp sa : Option Addr} {dLen dCap m c : Nat} {ys : List Int}
    (hw : Region.wanted ⟨dst, .call { callee := .builtin .copy, args := #[d, s], argTypes := #[26, 26] }, ty, pos, aft, gd⟩ (yielded ops a.tmps) = true)
    (hd : a.eval d = .slice dp dLen dCap) (hs : a.eval s = .slice sa m c) (hy : Sl w sa m c ys)
    (g off k : Nat) (hk : k = min m dLen) {t : TypeId} {xs : List Int} (hg : Row w g t xs) (hdp : 0 < k → dp = some ⟨g, off, none⟩) (hfit : off + k ≤ xs.length)
    (h : ∀ w1, Row w1 g t (splice xs off (ys.take k)) → But g w w1 → wpList Tryd.prog ops Q rest (a.put dst (goInt k)) w1) :
    wpList Tryd.prog ops Q (⟨dst, .call { callee := .builtin .copy, args := #[d, s], argTypes := #[26, 26] }, ty, pos, aft, gd⟩ :: rest) a w :=
  BigFrame.wpList_want hw fun K hK => wp_copyB rfl hd hs hy g off k hk hg hdp hfit fun w1 h1 h2 => hK _ _ (h w1 h1 h2)

set_option maxRecDepth 100000 in
/-- copy, one step of a region that draws its order. -/
theorem rstep_copy {K : Act → World → Prop} {E : Prop} {o : Oper} (hgd : o.guard = none) {d s : Operand} (ho : o.op = .call { callee := .builtin .copy, args := #[d, s], argTypes := #[26, 26] })
    {dp sa : Option Addr} {dLen dCap m c : Nat} {ys : List Int} (hd : a.eval d = .slice dp dLen dCap) (hs : a.eval s = .slice sa m c) (hy : Sl w sa m c ys)
    (g off k : Nat) (hk : k = min m dLen) {t : TypeId} {xs : List Int} (hg : Row w g t xs) (hdp : 0 < k → dp = some ⟨g, off, none⟩) (hfit : off + k ≤ xs.length)
    (h : ∀ w1, Row w1 g t (splice xs off (ys.take k)) → But g w w1 → K (a.put o.dst (goInt k)) w1) :
    if Region.wanted o (yielded ops a.tmps) = true then Oper.wp Tryd.prog o a w K Q else E := by
  have hw : Region.wanted o (yielded ops a.tmps) = true := by simp [Region.wanted, hgd]
  rw [if_pos hw]
  exact wp_copyB ho hd hs hy g off k hk hg hdp hfit h
end

end Go.Proofs.YtojepbapdjkknaaDoor.Oct

/-
  octet, ported from round 1 (App).
-/
namespace Go.Proofs.YtojepbapdjkknaaDoor.Oct
open Go.RowKit
set_option linter.unusedVariables false

set_option maxRecDepth 100000 in
theorem wp_appendB {o : Oper} {K : Act → World → Prop} {s x : Operand} {a : Act} {w : World} {Q : Exit → Act → World → Prop}
    {B : Nat} {v : Value} {xs : List Int} {sa : Option Addr} {m c : Nat} {ys : List Int}
    (ho : o.op = .call { callee := .builtin .append, args := #[s, x], argTypes := #[26, 26] }) (hs : a.eval s = v) (hx : a.eval x = .slice sa m c) (hown : Own w B v xs) (hy : Sl w sa m c ys)
    (hlen : xs.length + m ≤ 140737488355328) (hB : B ≤ w.heap.size)
    (h : ∀ v' w', Own w' B v' (xs ++ ys) → w.grownBy w' v.ownBlock → (v' = .slice none 0 0 → v = .slice none 0 0 ∧ m = 0) → K (a.put o.dst v') w') : Oper.wp Tryd.prog o a w K Q := by
  obtain ⟨i0, hi, hz0, hz1, hz2⟩ := info_parts info5b
  cases sa with
  | none =>
    obtain ⟨rfl, rfl⟩ := hy.hnil rfl
    obtain rfl : ys = [] := List.eq_nil_of_length_eq_zero hy.hlen
    have hrun := run_append_owned_none (P := Tryd.prog) (w := w) B 26 o.type 5 i0 1 Tryd.underlying26 hi v _ _ hown
    unfold Oper.wp
    simp [execOp, ho, resolve, invoke, builtin, hs, hx, hrun, Result.andThen]
    exact (h v w (by simpa using hown) (World.grownBy.refl _ _) (fun e => ⟨e, rfl⟩))
  | some ad =>
    refine wp_append_own _ s x 26 ho B 5 i0 (.int .u8 0) 1 1 Tryd.underlying26 hi hz0 hz1 hz2 rfl (by decide) v _ _ hs hown ad m c (ys.map (Value.int .u8)) hx (by simp [hy.hlen]) ?_ (bs_one ys) ?_ ?_ hB ?_
    · intro j u hu
      have hj : j < m := by
        have := (List.getElem?_eq_some_iff.1 hu).1
        simpa [hy.hlen] using this
      obtain ⟨b, off, e, hc⟩ := hy.hcell (by omega)
      obtain rfl := Option.some.inj e
      rw [Addr.add_lit, hc j hj]
      have e2 : (ys.map (Value.int .u8))[j]? = some (.int .u8 (ys.getD j 0)) := by simp [List.getD, hy.hlen, hj]
      rw [e2] at hu
      exact hu
    · unfold maxLen; omega
    · omega
    · intro v' w' h1 h2 h3
      have hm : (xs ++ ys).length = xs.length + m := by rw [List.length_append, hy.hlen]
      exact (h v' w' (by unfold Own; rw [hm, List.map_append]; exact h1) h2 h3.1)


set_option maxRecDepth 100000 in
theorem rstep_append {K : Act → World → Prop} {E : Prop} {ops : Array Oper} {o : Oper} (hgd : o.guard = none) {s x : Operand} {a : Act} {w : World} {Q : Exit → Act → World → Prop}
    {B : Nat} {v : Value} {xs : List Int} {sa : Option Addr} {m c : Nat} {ys : List Int}
    (ho : o.op = .call { callee := .builtin .append, args := #[s, x], argTypes := #[26, 26] }) (hs : a.eval s = v) (hx : a.eval x = .slice sa m c) (hown : Own w B v xs) (hy : Sl w sa m c ys)
    (hlen : xs.length + m ≤ 140737488355328) (hB : B ≤ w.heap.size)
    (h : ∀ v' w', Own w' B v' (xs ++ ys) → w.grownBy w' v.ownBlock → (v' = .slice none 0 0 → v = .slice none 0 0 ∧ m = 0) → K (a.put o.dst v') w') :
    if Region.wanted o (yielded ops a.tmps) = true then Oper.wp Tryd.prog o a w K Q else E := by
  have hw : Region.wanted o (yielded ops a.tmps) = true := by simp [Region.wanted, hgd]
  rw [if_pos hw]
  exact wp_appendB ho hs hx hown hy hlen hB h

theorem Own.sl' {w : World} {B : Nat} {v : Value} {xs : List Int} (h : Own w B v xs) (hb : isB xs) (hl : xs.length ≤ 140737488355328) : ∃ a cap, v = .slice a xs.length cap ∧ Sl w a xs.length cap xs := by
  by_cases hn : v = .slice none 0 0
  · subst hn
    obtain ⟨h1, h2⟩ := h
    rcases h2 with ⟨_, e⟩ | ⟨g, cap, cur, e, _⟩
    · refine ⟨none, 0, by rw [e], by omega, by omega, by omega, hl, hb, fun _ => ⟨e, rfl⟩, fun h0 => absurd h0 (by omega)⟩
    · cases e
  · obtain ⟨g, cap, e, _, hs⟩ := h.sl hb hl hn
    exact ⟨_, cap, e, hs⟩

end Go.Proofs.YtojepbapdjkknaaDoor.Oct

/-
  octet, ported from round 1 (Digit).
-/
namespace Go.Proofs.YtojepbapdjkknaaDoor.Oct
open Go.RowKit
set_option linter.unusedVariables false

/-- A letter's place among the digits; -1: it is none. -/
def pl (A : List UInt8) (c : UInt8) : Int := Lib.indexByte A c

theorem pl_none (A : List UInt8) (c : UInt8) (h : ∀ j : Nat, A[j]? ≠ some c) : pl A c = -1 := by
  induction A with
  | nil => rfl
  | cons b l ih =>
    have hb : (b == c) = false := by
      have := h 0
      simp at this
      simp [this]
    have ih := ih (fun j => by have := h (j + 1); simpa using this)
    unfold pl at ih ⊢
    simp [Lib.indexByte, hb, ih]

theorem pl_at (A : List UInt8) (c : UInt8) : ∀ k : Nat, A[k]? = some c → (∀ j : Nat, j < k → A[j]? ≠ some c) → pl A c = k := by
  induction A with
  | nil => intro k hk; simp at hk
  | cons b l ih =>
    intro k hk hj
    cases k with
    | zero =>
      simp at hk
      subst hk
      simp [pl, Lib.indexByte]
    | succ k =>
      have hb : (b == c) = false := by
        have := hj 0 (by omega)
        simp at this
        simp [this]
      have h := ih k (by simpa using hk) (fun j hjk => by have := hj (j + 1) (by omega); simpa using this)
      unfold pl at h ⊢
      have hne : ((k : Int) == -1) = false := by rw [beq_eq_false_iff_ne]; omega
      simp [Lib.indexByte, hb, h, hne]

theorem pl_bd (A : List UInt8) (c : UInt8) : -1 ≤ pl A c ∧ pl A c < A.length := by
  induction A with
  | nil => simp [pl, Lib.indexByte]
  | cons b l ih =>
    unfold pl at ih ⊢
    simp only [Lib.indexByte, List.length_cons]
    split
    · omega
    · split
      · omega
      · rename_i h
        simp at h
        omega

theorem toU8 (c : UInt8) : ((c.toNat : Int)).toNat.toUInt8 = c := by simp

set_option maxHeartbeats 400000 in
set_option maxRecDepth 100000 in
theorem idx2_any (A : ByteArray) (c : UInt8) (w : World) :
    Calls Tryd.prog 142 #[.string A, .int .u8 c.toNat] w fun e w' => e = .returned (.int .i64 (pl A.data.toList c)) ∧ w = w' := by
  go_enter Tryd.func142, Tryd.ntmps142
  go_wp2
  rw [run_callFunc_extern Tryd.func158 (by kernel_rfl) (by kernel_rfl) (by kernel_rfl) (e := Extern.BytealgIndexByte.indexByte) (by kernel_rfl), Lib.run_indexByteString, toU8]
  simp only [Result.andThen]
  rw [Oper.upon_value]
  go_wp2
  go_ret
  exact ⟨rfl, rfl⟩

set_option maxHeartbeats 400000 in
set_option maxRecDepth 100000 in
theorem idx_any (A : ByteArray) (c : UInt8) (w : World) :
    Calls Tryd.prog 134 #[.string A, .int .u8 c.toNat] w fun e w' => e = .returned (.int .i64 (pl A.data.toList c)) ∧ w = w' := by
  go_enter Tryd.func134, Tryd.ntmps134
  go_wp2_with (go_at_call 142; refine (idx2_any _ _ _).mono ?_; rintro e w' ⟨rfl, rfl⟩)
  go_ret
  exact ⟨rfl, rfl⟩

set_option maxRecDepth 100000 in
/-- The closure of valueAmong: its digits lie in a variable of their own. -/
theorem value_any (A : ByteArray) (c : UInt8) (g : Nat) (w : World) (hg : w.cell? ⟨g, 0, none⟩ = some (.string A)) :
    Calls Tryd.prog 133 #[.int .u8 c.toNat, .pointer (some ⟨g, 0, none⟩)] w fun e w' => e = .returned (.int .i64 (pl A.data.toList c)) ∧ w = w' := by
  go_enter Tryd.func133, Tryd.ntmps133
  go_wp2_with (go_at_call 134; refine (idx_any _ _ _).mono ?_; rintro e w' ⟨rfl, rfl⟩)
  go_ret
  exact ⟨rfl, rfl⟩

set_option maxRecDepth 100000 in
theorem valueAmong_any (A : ByteArray) (w : World) :
    Calls Tryd.prog 114 #[.string A] w fun e w' => ∃ g, e = .returned (.func (.func 133) #[] #[.pointer (some ⟨g, 0, none⟩)]) ∧ w'.cell? ⟨g, 0, none⟩ = some (.string A) ∧ Below w.heap.size w w' := by
  go_enter Tryd.func114, Tryd.ntmps114
  go_wp2
  go_ret
  exact ⟨_, rfl, by simp, (Below.refl _ _).alloc (Nat.le_refl _) _⟩

/-- The place of the first letter that is no digit; the length: there is none. -/
def fb (A S : List UInt8) : Nat := S.findIdx (fun c => decide (pl A c < 0))

/-- As it is told: its place, and whether there is one. -/
def fbAt (A S : List UInt8) : Nat := if fb A S < S.length then fb A S else 0
def fbF (A S : List UInt8) : Bool := decide (fb A S < S.length)

set_option maxHeartbeats 400000 in
set_option maxRecDepth 100000 in
theorem firstNoDigit_any (A s : ByteArray) (g : Nat) (w : World) (hs : s.size ≤ 8388608) (hg : w.cell? ⟨g, 0, none⟩ = some (.string A)) :
    Calls Tryd.prog 116 #[.string s, .func (.func 133) #[] #[.pointer (some ⟨g, 0, none⟩)]] w fun e w' =>
      e = .returned (.tuple #[.int .i64 (fbAt A.data.toList s.data.toList), .bool (fbF A.data.toList s.data.toList)]) ∧ w = w' := by
  have HG := hide hg
  clear hg
  have hsz : s.data.toList.length = s.size := by simp
  have HZ := hide hsz
  clear hsz
  go_enter Tryd.func116, Tryd.ntmps116
  go_wp2
  go_loop [9] (fun i => ∃ k : Nat, k ≤ s.size ∧ i = .int .i64 k ∧ ∀ j (h : j < s.data.toList.length), j < k → 0 ≤ pl A.data.toList (s.data.toList[j])) (fun i => s.size - (intOf i).toNat)
  case atStart => exact ⟨0, Nat.zero_le _, rfl, fun j _ h => absurd h (by omega)⟩
  case round =>
    obtain ⟨k, hk, rfl, hbefore⟩ := hrel
    have HB := hide hbefore
    clear hbefore
    by_cases hlt : k < s.size
    · have hgk : s.data.toList[k]'(by rw [HZ.out]; exact hlt) = s[k] := rfl
      have HK := hide hgk
      clear hgk
      by_cases hp : pl A.data.toList s[k] < 0
      · have e : fb A.data.toList s.data.toList = k := by
          rw [fb, List.findIdx_eq (by rw [HZ.out]; exact hlt)]
          exact ⟨decide_eq_true (by rw [HK.out]; exact hp), fun j hj => decide_eq_false (Int.not_lt.2 (HB.out j (by rw [HZ.out]; omega) hj))⟩
        have E1 : Hid (fbAt A.data.toList s.data.toList = k) := by show _ = _; rw [fbAt, e, HZ.out, if_pos hlt]
        have E2 : Hid (fbF A.data.toList s.data.toList = true) := by show _ = _; rw [fbF, e, HZ.out]; exact decide_eq_true hlt
        clear e
        go_wp2_with (go_at_call 133; refine (value_any A _ g _ HG.out).mono ?_; rintro e w' ⟨rfl, rfl⟩)
        go_ret2
        rw [E1.out, E2.out]
        exact ⟨rfl, rfl⟩
      · have HP := hide hp
        go_wp2_with (go_at_call 133; refine (value_any A _ g _ HG.out).mono ?_; rintro e w' ⟨rfl, rfl⟩)
        go_round
        case rel =>
          refine ⟨k + 1, by omega, by go_num, fun j h hj => ?_⟩
          by_cases h2 : j < k
          · exact HB.out j h h2
          · obtain rfl : j = k := by omega
            rw [HK.out]
            exact HP.out
        case measure => simp [intOf]; omega
    · have e : fb A.data.toList s.data.toList = s.size := by
        rw [fb, ← HZ.out]
        apply List.findIdx_eq_length.2
        intro x hx
        obtain ⟨j, hj, rfl⟩ := List.getElem_of_mem hx
        exact decide_eq_false (Int.not_lt.2 (HB.out j hj (by rw [HZ.out] at hj; omega)))
      have E1 : Hid (fbAt A.data.toList s.data.toList = 0) := by show _ = _; rw [fbAt, e, HZ.out, if_neg (by omega)]
      have E2 : Hid (fbF A.data.toList s.data.toList = false) := by show _ = _; rw [fbF, e, HZ.out]; exact decide_eq_false (by omega)
      clear e
      go_wp2
      go_ret2
      rw [E1.out, E2.out]
      exact ⟨rfl, rfl⟩

end Go.Proofs.YtojepbapdjkknaaDoor.Oct

/-
  octet, ported from round 1 (Pack).
-/
namespace Go.Proofs.YtojepbapdjkknaaDoor.Oct
open Go.RowKit
set_option linter.unusedVariables false

/-- One digit more: the bits that fill no byte yet, how many they are, the bytes. -/
def stp (st : Int × Nat × List Int) (d : Int) : Int × Nat × List Int :=
  if st.2.1 = 0 then (st.1 * 64 + d, 6, st.2.2) else ((st.1 * 64 + d) % 2 ^ (st.2.1 - 2), st.2.1 - 2, st.2.2 ++ [(st.1 * 64 + d) / 2 ^ (st.2.1 - 2) % 256])
def pkT (A S : List UInt8) (k : Nat) : Int × Nat × List Int := ((S.take k).map (pl A)).foldl stp (0, 0, [])

theorem pkT_succ (A S : List UInt8) (k : Nat) (h : k < S.length) : pkT A S (k + 1) = stp (pkT A S k) (pl A S[k]) := by
  rw [pkT, List.take_succ_eq_append_getElem h, List.map_append, List.foldl_append]
  rfl

/-- What is always so. -/
structure PkInv (k : Nat) (st : Int × Nat × List Int) : Prop where
  h : st.2.1 = 0 ∨ st.2.1 = 2 ∨ st.2.1 = 4 ∨ st.2.1 = 6
  v0 : 0 ≤ st.1
  v1 : st.1 < 2 ^ st.2.1
  o : isB st.2.2
  l : st.2.2.length * 8 + st.2.1 = 6 * k

theorem PkInv.next {k : Nat} {st : Int × Nat × List Int} (i : PkInv k st) (d : Int) (h0 : 0 ≤ d) (h1 : d ≤ 63) : PkInv (k + 1) (stp st d) := by
  obtain ⟨v, h, o⟩ := st
  obtain ⟨hh, v0, v1, ob, l⟩ := i
  simp only at hh v0 v1 ob l
  have isnoc : ∀ y : Int, 0 ≤ y → y ≤ 255 → isB (o ++ [y]) := fun y y0 y1 => ob.append (by intro x hx; simp at hx; omega)
  rcases hh with rfl | rfl | rfl | rfl
  · refine ⟨by simp [stp], by simp [stp]; omega, by simp [stp]; simp at v1; omega, by simpa [stp] using ob, by simp [stp]; omega⟩
  · refine ⟨by simp [stp], by simp [stp], by simp [stp], ?_, by simp [stp]; omega⟩
    simp only [stp]; exact isnoc _ (by omega) (by omega)
  · refine ⟨by simp [stp], by simp [stp]; omega, by simp [stp]; omega, ?_, by simp [stp]; omega⟩
    simp only [stp]; exact isnoc _ (by omega) (by omega)
  · refine ⟨by simp [stp], by simp [stp]; omega, by simp [stp]; omega, ?_, by simp [stp]; omega⟩
    simp only [stp]; exact isnoc _ (by omega) (by omega)

theorem pk_inv (A S : List UInt8) (hd : ∀ i (h : i < S.length), 0 ≤ pl A S[i] ∧ pl A S[i] ≤ 63) : ∀ k, k ≤ S.length → PkInv k (pkT A S k) := by
  intro k
  induction k with
  | zero => intro _; refine ⟨by simp [pkT], by simp [pkT], by simp [pkT], ?_, by simp [pkT]⟩; intro x hx; simp [pkT] at hx
  | succ k ih =>
    intro hk
    rw [pkT_succ A S k (by omega)]
    exact (ih (by omega)).next _ (hd k (by omega)).1 (hd k (by omega)).2

theorem or6 (v d : Int) (h0 : 0 ≤ v) (h1 : v < 64) (h2 : 0 ≤ d) (h3 : d ≤ 63) : bits BinOp.or IntKind.u32 (v * 64) d = v * 64 + d := by
  rw [u32_or _ _ (by omega) (by omega) (by omega) (by omega), nat_join 6 _ _ (by omega) (by omega)]
  omega

theorem stp0 (v d : Int) (o : List Int) : stp (v, 0, o) d = (v * 64 + d, 6, o) := by simp [stp]
theorem stp2 (v d : Int) (o : List Int) : stp (v, 2, o) d = (0, 0, o ++ [(v * 64 + d) % 256]) := by simp [stp]
theorem stp4 (v d : Int) (o : List Int) : stp (v, 4, o) d = ((v * 64 + d) % 4, 2, o ++ [(v * 64 + d) / 4 % 256]) := by simp [stp]
theorem stp6 (v d : Int) (o : List Int) : stp (v, 6, o) d = ((v * 64 + d) % 16, 4, o ++ [(v * 64 + d) / 16 % 256]) := by simp [stp]

theorem and0 (x : Int) (h0 : 0 ≤ x) (h1 : x < 4294967296) : bits BinOp.and IntKind.u32 x 0 = 0 := by
  rw [u32_and _ _ h0 h1 (by omega) (by omega)]; simp
theorem and3 (x : Int) (h0 : 0 ≤ x) (h1 : x < 4294967296) : bits BinOp.and IntKind.u32 x 3 = x % 4 := by
  rw [u32_and _ _ h0 h1 (by omega) (by omega)]
  have e : (3 : Int).toNat = 3 := rfl
  rw [e, nat_mask2]; omega
theorem and15 (x : Int) (h0 : 0 ≤ x) (h1 : x < 4294967296) : bits BinOp.and IntKind.u32 x 15 = x % 16 := by
  rw [u32_and _ _ h0 h1 (by omega) (by omega)]
  have e : (15 : Int).toNat = 15 := rfl
  rw [e, nat_mask4]; omega

theorem sl_one (w : World) (y : Int) (h0 : 0 ≤ y) (h1 : y ≤ 255) : Sl (w.alloc (.cells #[.int .u8 y] 5)) (some ⟨w.heap.size, 0, none⟩) 1 1 [y] :=
  (Row.made w 5 [y]).sl (by intro x hx; simp at hx; omega) (by simp)

set_option maxHeartbeats 1000000 in
set_option maxRecDepth 100000 in
theorem packed_any (A s : ByteArray) (g : Nat) (w : World) (hs : s.size ≤ 8388608) (hg : w.cell? ⟨g, 0, none⟩ = some (.string A)) (hd : ∀ i (h : i < s.data.toList.length), 0 ≤ pl A.data.toList s.data.toList[i] ∧ pl A.data.toList s.data.toList[i] ≤ 63) :
    Calls Tryd.prog 117 #[.string s, .func (.func 133) #[] #[.pointer (some ⟨g, 0, none⟩)]] w fun e w' =>
      ∃ v, e = .returned (.tuple #[v, .int .u32 (pkT A.data.toList s.data.toList s.size).1]) ∧ Own w' w.heap.size v (pkT A.data.toList s.data.toList s.size).2.2 ∧ v ≠ .slice none 0 0 ∧ Below w.heap.size w w' := by
  have HZ := hide (show s.data.toList.length = s.size by simp)
  have HI := hide (pk_inv A.data.toList s.data.toList hd)
  have HD := hide hd
  have HG := hide hg
  have hgl : g < w.heap.size := World.block_lt_of_cell? w _ hg
  clear hd hg
  obtain ⟨i0, hi, hz0, hz1, hz2⟩ := info_parts info5b
  go_enter Tryd.func117, Tryd.ntmps117
  go_wp2_with (at_make; refine wpList_make_own _ rfl _ _ 26 rfl w.heap.size 5 i0 (.int .u8 0) 1 Tryd.underlying26 hi hz0 hz1 _ _ _ (s.size * 3 / 4) rfl rfl (by omega) (by rw [hz2]; omega) (by unfold maxLen; omega) (Nat.le_refl _) ?_)
  intro w1 ho1 hg1
  have hb1 : Below w.heap.size w w1 := (Below.refl _ _).grown hg1 (Nat.le_refl _) (fun k e => by cases e)
  have HO : Hid (Own w1 w.heap.size (.slice (some ⟨w.heap.size, 0, none⟩) 0 (s.size * 3 / 4)) []) := ho1
  clear ho1 hg1
  go_wp2
  go_loopw [4, 6, 7, 16] (fun v b h i wr => ∃ k : Nat, k ≤ s.size ∧ i = .int .i64 k ∧ b = .int .u32 (pkT A.data.toList s.data.toList k).1 ∧ h = .int .i64 (pkT A.data.toList s.data.toList k).2.1 ∧ Own wr w.heap.size v (pkT A.data.toList s.data.toList k).2.2 ∧ v ≠ .slice none 0 0 ∧ Below w.heap.size w wr) (fun _ _ _ i _ => s.size - (intOf i).toNat)
  case atStart => exact ⟨0, by omega, rfl, rfl, rfl, HO.out, (fun e => by cases e), hb1⟩
  case round =>
    obtain ⟨k, hk, rfl, rfl, rfl, ho, hvn, hb⟩ := hrel
    have inv := HI.out k (by rw [HZ.out]; exact hk)
    obtain ⟨st, hst⟩ : ∃ st, st = pkT A.data.toList s.data.toList k := ⟨_, rfl⟩
    rw [← hst] at inv ho ⊢
    have HST := hide hst
    clear hst
    obtain ⟨v, h, o⟩ := st
    obtain ⟨hh, v0, v1, ob, ll⟩ := inv
    simp only at hh v0 v1 ob ll ho ⊢
    have HOO := hide ho
    have HVN := hide hvn
    clear ho hvn
    by_cases hlt : k < s.size
    · have hc := (hb.cell hgl).trans HG.out
      have HC := hide hc
      clear hc
      have dd := HD.out k (by rw [HZ.out]; exact hlt)
      have egk : s.data.toList[k]'(by rw [HZ.out]; exact hlt) = s[k] := rfl
      rw [egk] at dd
      obtain ⟨d, hde⟩ : ∃ d, d = pl A.data.toList s[k] := ⟨_, rfl⟩
      rw [← hde] at dd
      have HE := hide hde
      have HS := hide (show pkT A.data.toList s.data.toList (k + 1) = stp (v, h, o) d by rw [pkT_succ _ _ k (by rw [HZ.out]; exact hlt), ← HST.out, egk, hde])
      clear hde egk
      obtain ⟨d0, d1⟩ := dd
      rcases hh with rfl | rfl | rfl | rfl
      · have e := or6 v d v0 (by simp at v1; omega) d0 d1
        go_wp2_with (go_at_call 133; refine (value_any A _ g _ HC.out).mono ?_; rintro e w' ⟨rfl, rfl⟩; rw [← HE.out])
        go_roundw
        case rel =>
          refine ⟨k + 1, by omega, by go_num, ?_, ?_, ?_, HVN.out, hb⟩ <;> rw [HS.out, stp0]
          · rfl
          · exact HOO.out
        case measure => simp [intOf]; omega
      · have v2 : v < 4 := by simp at v1; omega
        have e := or6 v d v0 (by omega) d0 d1
        have ea := and0 (v * 64 + d) (by omega) (by omega)
        have hB := hb.size
        have hln : o.length + 1 ≤ 140737488355328 := by omega
        go_wp2_with (first | (go_at_call 133; refine (value_any A _ g _ HC.out).mono ?_; rintro e w' ⟨rfl, rfl⟩; rw [← HE.out]) | (at_builtin; refine step_append rfl rfl rfl (HOO.out.alloc _) (sl_one _ _ (by omega) (by omega)) hln (by simp; omega) ?_))
        intro u2 w2 ho2 hg2 hn2
        have hb2 : Below w.heap.size w w2 := (hb.alloc hb.size _).grown hg2 (by simp; omega) (fun j hj => (World.ownsRow.lt HOO.out j hj).1)
        have HO2 := hide ho2
        have HN2 : Hid (u2 ≠ .slice none 0 0) := fun ee => HVN.out (hn2 ee).1
        clear ho2 hg2 hn2 HOO HC hb
        go_wp2
        go_roundw
        case rel =>
          refine ⟨k + 1, by omega, by go_num, ?_, ?_, ?_, HN2.out, hb2⟩ <;> rw [HS.out, stp2]
          · rfl
          · have h2 := HO2.out
            simp only
            rw [Int.emod_eq_of_lt (by omega) (by omega)]
            exact h2
        case measure => simp [intOf]; omega
      · have v2 : v < 16 := by simp at v1; omega
        have e := or6 v d v0 (by omega) d0 d1
        have ea := and3 (v * 64 + d) (by omega) (by omega)
        have hB := hb.size
        have hln : o.length + 1 ≤ 140737488355328 := by omega
        go_wp2_with (first | (go_at_call 133; refine (value_any A _ g _ HC.out).mono ?_; rintro e w' ⟨rfl, rfl⟩; rw [← HE.out]) | (at_builtin; refine step_append rfl rfl rfl (HOO.out.alloc _) (sl_one _ _ (by omega) (by omega)) hln (by simp; omega) ?_))
        intro u2 w2 ho2 hg2 hn2
        have hb2 : Below w.heap.size w w2 := (hb.alloc hb.size _).grown hg2 (by simp; omega) (fun j hj => (World.ownsRow.lt HOO.out j hj).1)
        have HO2 := hide ho2
        have HN2 : Hid (u2 ≠ .slice none 0 0) := fun ee => HVN.out (hn2 ee).1
        clear ho2 hg2 hn2 HOO HC hb
        go_wp2
        go_roundw
        case rel =>
          refine ⟨k + 1, by omega, by go_num, ?_, ?_, ?_, HN2.out, hb2⟩ <;> rw [HS.out, stp4]
          · rfl
          · have h2 := HO2.out
            simp only
            rw [Int.emod_eq_of_lt (by omega) (by omega)]
            exact h2
        case measure => simp [intOf]; omega
      · have v2 : v < 64 := by simp at v1; omega
        have e := or6 v d v0 (by omega) d0 d1
        have ea := and15 (v * 64 + d) (by omega) (by omega)
        have hB := hb.size
        have hln : o.length + 1 ≤ 140737488355328 := by omega
        go_wp2_with (first | (go_at_call 133; refine (value_any A _ g _ HC.out).mono ?_; rintro e w' ⟨rfl, rfl⟩; rw [← HE.out]) | (at_builtin; refine step_append rfl rfl rfl (HOO.out.alloc _) (sl_one _ _ (by omega) (by omega)) hln (by simp; omega) ?_))
        intro u2 w2 ho2 hg2 hn2
        have hb2 : Below w.heap.size w w2 := (hb.alloc hb.size _).grown hg2 (by simp; omega) (fun j hj => (World.ownsRow.lt HOO.out j hj).1)
        have HO2 := hide ho2
        have HN2 : Hid (u2 ≠ .slice none 0 0) := fun ee => HVN.out (hn2 ee).1
        clear ho2 hg2 hn2 HOO HC hb
        go_wp2
        go_roundw
        case rel =>
          refine ⟨k + 1, by omega, by go_num, ?_, ?_, ?_, HN2.out, hb2⟩ <;> rw [HS.out, stp6]
          · rfl
          · have h2 := HO2.out
            simp only
            rw [Int.emod_eq_of_lt (by omega) (by omega)]
            exact h2
        case measure => simp [intOf]; omega
    · have hks : k = s.size := by omega
      subst hks
      go_wp2
      go_ret2
      rw [← HST.out]
      exact ⟨_, rfl, HOO.out, HVN.out, hb⟩

end Go.Proofs.YtojepbapdjkknaaDoor.Oct

/-
  octet, ported from round 1 (Trim).
-/
namespace Go.Proofs.YtojepbapdjkknaaDoor.Oct
open Go.RowKit
set_option linter.unusedVariables false

/-- Does the text end with the letter that fills? -/
def ends (s : ByteArray) : Bool := if h : 0 < s.size then s[s.size - 1] == 61 else false
/-- It without that letter. -/
def trim1 (s : ByteArray) : ByteArray := if ends s = true then s.extract 0 (s.size - 1) else s
/-- The text's digits. -/
def digs (s : ByteArray) : ByteArray := trim1 (trim1 s)

theorem last_list (s : ByteArray) (h : 0 < s.size) : (s.extract (s.size - 1) s.size).toList = [s[s.size - 1]] := by
  have hl : s.data.toList.length = s.size := by simp
  rw [ByteArray.toList_eq, Lib.extract_data, List.drop_eq_getElem_cons (by omega)]
  have e : s.size - (s.size - 1) = 1 := by omega
  have e2 : s.size - 1 + 1 = s.size := by omega
  rw [e, e2, List.drop_eq_nil_of_le (by omega)]
  rfl

set_option maxHeartbeats 400000 in
set_option maxRecDepth 100000 in
theorem hasSuffix_any (s : ByteArray) (w : World) (hs : s.size ≤ 281474976710656) :
    Calls Tryd.prog 163 #[.string s, .string { data := #[61] }] w fun e w' => e = .returned (.bool (ends s)) ∧ w = w' := by
  by_cases h0 : 0 < s.size
  · have e : ends s = (s[s.size - 1] == 61) := by simp [ends, h0]
    have ht : ((s.extract (s.size - 1) s.size).toList == [61]) = (s[s.size - 1] == 61) := by
      rw [last_list s h0, Bool.eq_iff_iff]; simp
    have h1 : (1 : Int) ≤ s.size := by omega
    have E := hide e
    clear e
    go_enter Tryd.func163, Tryd.ntmps163
    go_wp2
    go_ret
    rw [E.out]
    exact ⟨rfl, rfl⟩
  · have E := hide (show ends s = false by simp [ends, h0])
    have h1 : ¬ ((1 : Int) ≤ s.size) := by omega
    clear h0
    go_enter Tryd.func163, Tryd.ntmps163
    go_wp2
    go_ret
    rw [E.out]
    exact ⟨rfl, rfl⟩

theorem ends_pos {s : ByteArray} (h : ends s = true) : 0 < s.size := by
  unfold ends at h
  split at h
  · assumption
  · cases h

set_option maxHeartbeats 400000 in
set_option maxRecDepth 100000 in
theorem trimL_any (s : ByteArray) (w : World) (hs : s.size ≤ 281474976710656) :
    Calls Tryd.prog 151 #[.string s, .string { data := #[61] }] w fun e w' => e = .returned (.string (trim1 s)) ∧ w = w' := by
  cases hE : ends s
  · have E := hide (show trim1 s = s by simp [trim1, hE])
    have HE := hide hE
    clear hE
    go_enter Tryd.func151, Tryd.ntmps151
    go_wp2_with (go_at_call 163; refine (hasSuffix_any s _ hs).mono ?_; rintro e w' ⟨rfl, rfl⟩; rw [HE.out])
    go_ret
    rw [E.out]
    exact ⟨rfl, rfl⟩
  · have hp := ends_pos hE
    have E := hide (show trim1 s = s.extract 0 (s.size - 1) by simp [trim1, hE])
    have HE := hide hE
    clear hE
    go_enter Tryd.func151, Tryd.ntmps151
    go_wp2_with (go_at_call 163; refine (hasSuffix_any s _ hs).mono ?_; rintro e w' ⟨rfl, rfl⟩; rw [HE.out])
    go_ret
    rw [E.out]
    exact ⟨rfl, rfl⟩

set_option maxHeartbeats 400000 in
set_option maxRecDepth 100000 in
theorem trim_any (s : ByteArray) (w : World) (hs : s.size ≤ 281474976710656) :
    Calls Tryd.prog 135 #[.string s, .string { data := #[61] }] w fun e w' => e = .returned (.string (trim1 s)) ∧ w = w' := by
  go_enter Tryd.func135, Tryd.ntmps135
  go_wp2_with (go_at_call 151; refine (trimL_any s _ hs).mono ?_; rintro e w' ⟨rfl, rfl⟩)
  go_ret
  exact ⟨rfl, rfl⟩

theorem trim1_size (s : ByteArray) : (trim1 s).size ≤ s.size := by
  unfold trim1
  split
  · simp
  · omega

set_option maxHeartbeats 400000 in
set_option maxRecDepth 100000 in
theorem withoutFilling_any (s : ByteArray) (w : World) (hs : s.size ≤ 281474976710656) :
    Calls Tryd.prog 115 #[.string s] w fun e w' => e = .returned (.string (digs s)) ∧ w = w' := by
  have h2 := trim1_size s
  go_enter Tryd.func115, Tryd.ntmps115
  go_wp2_with fail
  refine (trim_any s _ hs).mono ?_
  rintro e w' ⟨rfl, rfl⟩
  go_wp2_with fail
  refine (trim_any (trim1 s) _ (by omega)).mono ?_
  rintro e w' ⟨rfl, rfl⟩
  go_wp2
  go_ret
  exact ⟨rfl, rfl⟩

end Go.Proofs.YtojepbapdjkknaaDoor.Oct

/-
  octet, ported from round 1 (Unb).
-/
namespace Go.Proofs.YtojepbapdjkknaaDoor.Oct
open Go.RowKit
set_option linter.unusedVariables false

/-- The digits to the base 64. -/
def b64S : ByteArray := { data := #[65, 66, 67, 68, 69, 70, 71, 72, 73, 74, 75, 76, 77, 78, 79, 80, 81, 82, 83, 84, 85, 86, 87, 88, 89, 90, 97, 98, 99, 100, 101, 102, 103, 104, 105, 106, 107, 108, 109, 110, 111, 112, 113, 114, 115, 116, 117, 118, 119, 120, 121, 122, 48, 49, 50, 51, 52, 53, 54, 55, 56, 57, 43, 47] }
def b64L : List UInt8 := b64S.data.toList
def dl (s : ByteArray) : List UInt8 := (digs s).data.toList
def lft (s : ByteArray) : Int := (pkT b64L (dl s) (dl s).length).1
/-- Unbase64's three answers. -/
def ubB (s : ByteArray) : List Int := if fb b64L (dl s) < (dl s).length ∨ s.size % 4 ≠ 0 ∨ lft s ≠ 0 then [] else (pkT b64L (dl s) (dl s).length).2.2
def ubAt (s : ByteArray) : Int := if fb b64L (dl s) < (dl s).length then fb b64L (dl s) else if s.size % 4 ≠ 0 then s.size else if lft s ≠ 0 then ((dl s).length : Int) - 1 else 0
def ubE (s : ByteArray) : Int := if fb b64L (dl s) < (dl s).length ∨ s.size % 4 ≠ 0 ∨ lft s ≠ 0 then 11 else 0

/-- A slice that the call made: nil and empty, or its own row. -/
def NewO (w : World) (B : Nat) (v : Value) (xs : List Int) : Prop := (v = .slice none 0 0 ∧ xs = []) ∨ (Own w B v xs ∧ v ≠ .slice none 0 0)

theorem digit_bd (S : List UInt8) (h : ¬ fb b64L S < S.length) : ∀ i (hi : i < S.length), 0 ≤ pl b64L S[i] ∧ pl b64L S[i] ≤ 63 := by
  intro i hi
  have h1 := pl_bd b64L S[i]
  have hl : b64L.length = 64 := rfl
  have h2 : ¬ pl b64L S[i] < 0 := by
    have hlen : fb b64L S = S.length := by
      have := List.findIdx_le_length (p := fun c => decide (pl b64L c < 0)) (xs := S)
      unfold fb at h ⊢
      omega
    unfold fb at hlen
    have := List.findIdx_eq_length.1 hlen S[i] (List.getElem_mem hi)
    simpa using this
  omega

theorem Own.base {w : World} {B B' : Nat} {v : Value} {xs : List Int} (h : Own w B' v xs) (hB : B ≤ B') : Own w B v xs := by
  obtain ⟨h1, h2⟩ := h
  refine ⟨h1, ?_⟩
  rcases h2 with h2 | ⟨g, cap, cur, e, hg, r⟩
  · exact .inl h2
  · exact .inr ⟨g, cap, cur, e, Nat.le_trans hB hg, r⟩

theorem digs_size (s : ByteArray) : (digs s).size ≤ s.size := Nat.le_trans (trim1_size _) (trim1_size _)

set_option maxRecDepth 100000 in
set_option maxHeartbeats 1000000 in
theorem unb_any (s : ByteArray) (w : World) (hs : s.size ≤ 8388608) :
    Calls Tryd.prog 93 #[.string s] w fun e w' => ∃ v, e = .returned (.tuple #[v, .int .i64 (ubAt s), .int .i64 (ubE s)]) ∧ NewO w' w.heap.size v (ubB s) ∧ Below w.heap.size w w' := by
  have hds := digs_size s
  have HZ := hide (show (dl s).length = (digs s).size by simp [dl])
  by_cases hf : fb b64L (dl s) < (dl s).length
  · have e1 : ubAt s = fb b64L (dl s) := by rw [ubAt, if_pos hf]
    have e2 : ubE s = 11 := by rw [ubE, if_pos (.inl hf)]
    have e3 : ubB s = [] := by rw [ubB, if_pos (.inl hf)]
    have e4 := hide (show fbAt b64L (dl s) = fb b64L (dl s) by rw [fbAt, if_pos hf])
    have e5 := hide (show fbF b64L (dl s) = true by rw [fbF]; exact decide_eq_true hf)
    rw [e1, e2, e3]
    clear e1 e2 e3 hf
    go_enter Tryd.func93, Tryd.ntmps93
    go_wp2_with (first | (go_at_call 114; refine (valueAmong_any b64S _).mono ?_; rintro e w1 ⟨g, rfl, hg, hb⟩) | (go_at_call 115; refine (withoutFilling_any s _ (by omega)).mono ?_; rintro e w' ⟨rfl, rfl⟩) | (go_at_call 116; refine (firstNoDigit_any b64S (digs s) g _ (by omega) hg).mono ?_; rintro e w2 ⟨rfl, rfl⟩; rw [show b64S.data.toList = b64L from rfl, show (digs s).data.toList = dl s from rfl, e4.out, e5.out]))
    go_ret3
    exact ⟨_, rfl, .inl ⟨rfl, rfl⟩, hb⟩
  have e4 := hide (show fbAt b64L (dl s) = 0 by rw [fbAt, if_neg hf])
  have e5 := hide (show fbF b64L (dl s) = false by rw [fbF]; exact decide_eq_false hf)
  by_cases ho : s.size % 4 ≠ 0
  · have e1 : ubAt s = s.size := by rw [ubAt, if_neg hf, if_pos ho]
    have e2 : ubE s = 11 := by rw [ubE, if_pos (.inr (.inl ho))]
    have e3 : ubB s = [] := by rw [ubB, if_pos (.inr (.inl ho))]
    have hodd : (((s.size : Int) % 4) != 0) = true := by simp; omega
    rw [e1, e2, e3]
    clear e1 e2 e3 hf ho
    go_enter Tryd.func93, Tryd.ntmps93
    go_wp2_with (first | (go_at_call 114; refine (valueAmong_any b64S _).mono ?_; rintro e w1 ⟨g, rfl, hg, hb⟩) | (go_at_call 115; refine (withoutFilling_any s _ (by omega)).mono ?_; rintro e w' ⟨rfl, rfl⟩) | (go_at_call 116; refine (firstNoDigit_any b64S (digs s) g _ (by omega) hg).mono ?_; rintro e w2 ⟨rfl, rfl⟩; rw [show b64S.data.toList = b64L from rfl, show (digs s).data.toList = dl s from rfl, e4.out, e5.out]))
    go_ret3
    exact ⟨_, rfl, .inl ⟨rfl, rfl⟩, hb⟩
  have hev : (((s.size : Int) % 4) != 0) = false := by simp; omega
  have HDG := hide (digit_bd (dl s) hf)
  by_cases hl : lft s ≠ 0
  · have e1 : ubAt s = ((digs s).size : Int) - 1 := by rw [ubAt, if_neg hf, if_neg ho, if_pos hl, HZ.out]
    have e2 : ubE s = 11 := by rw [ubE, if_pos (.inr (.inr hl))]
    have e3 : ubB s = [] := by rw [ubB, if_pos (.inr (.inr hl))]
    have hlb : (lft s != 0) = true := by simp [hl]
    rw [e1, e2, e3]
    clear e1 e2 e3 hf ho hl
    go_enter Tryd.func93, Tryd.ntmps93
    go_wp2_with (first | (go_at_call 114; refine (valueAmong_any b64S _).mono ?_; rintro e w1 ⟨g, rfl, hg, hb⟩) | (go_at_call 115; refine (withoutFilling_any s _ (by omega)).mono ?_; rintro e w' ⟨rfl, rfl⟩) | (go_at_call 116; refine (firstNoDigit_any b64S (digs s) g _ (by omega) hg).mono ?_; rintro e w2 ⟨rfl, rfl⟩; rw [show b64S.data.toList = b64L from rfl, show (digs s).data.toList = dl s from rfl, e4.out, e5.out]) | (go_at_call 117; refine (packed_any b64S (digs s) g _ (by omega) hg HDG.out).mono ?_; rintro e w3 ⟨v3, rfl, ho3, hn3, hb3⟩; rw [← HZ.out, show (pkT b64S.data.toList (digs s).data.toList (dl s).length).1 = lft s from rfl]))
    go_ret3
    exact ⟨_, rfl, .inl ⟨rfl, rfl⟩, hb.trans (hb3.mono hb.size)⟩
  · have e1 : ubAt s = 0 := by rw [ubAt, if_neg hf, if_neg ho, if_neg hl]
    have e2 : ubE s = 0 := by rw [ubE, if_neg (by omega)]
    have e3 : ubB s = (pkT b64L (dl s) (dl s).length).2.2 := by rw [ubB, if_neg (by omega)]
    have hlb : (lft s != 0) = false := by simp at hl; simp [hl]
    rw [e1, e2, e3]
    clear e1 e2 e3 hf ho hl
    go_enter Tryd.func93, Tryd.ntmps93
    go_wp2_with (first | (go_at_call 114; refine (valueAmong_any b64S _).mono ?_; rintro e w1 ⟨g, rfl, hg, hb⟩) | (go_at_call 115; refine (withoutFilling_any s _ (by omega)).mono ?_; rintro e w' ⟨rfl, rfl⟩) | (go_at_call 116; refine (firstNoDigit_any b64S (digs s) g _ (by omega) hg).mono ?_; rintro e w2 ⟨rfl, rfl⟩; rw [show b64S.data.toList = b64L from rfl, show (digs s).data.toList = dl s from rfl, e4.out, e5.out]) | (go_at_call 117; refine (packed_any b64S (digs s) g _ (by omega) hg HDG.out).mono ?_; rintro e w3 ⟨v3, rfl, ho3, hn3, hb3⟩; rw [← HZ.out, show (pkT b64S.data.toList (digs s).data.toList (dl s).length).1 = lft s from rfl]; have HO3 := hide ho3; have HN3 := hide hn3; clear ho3 hn3))
    go_ret3
    refine ⟨v3, rfl, .inr ⟨?_, HN3.out⟩, hb.trans (hb3.mono hb.size)⟩
    rw [HZ.out]
    exact HO3.out.base hb.size

end Go.Proofs.YtojepbapdjkknaaDoor.Oct

/-
  octet, ported from round 1 (Grp).
-/
namespace Go.Proofs.YtojepbapdjkknaaDoor.Oct
open Go.RowKit
set_option linter.unusedVariables false

/-- The digit of a number below 64. -/
def sx (y : Int) : Int := ((b64L.getD y.toNat 0).toNat : Int)

theorem sx_fin : ∀ i : Fin 64, ((({ data := #[65, 66, 67, 68, 69, 70, 71, 72, 73, 74, 75, 76, 77, 78, 79, 80, 81, 82, 83, 84, 85, 86, 87, 88, 89, 90, 97, 98, 99, 100, 101, 102, 103, 104, 105, 106, 107, 108, 109, 110, 111, 112, 113, 114, 115, 116, 117, 118, 119, 120, 121, 122, 48, 49, 50, 51, 52, 53, 54, 55, 56, 57, 43, 47] } : ByteArray)[i.val]'i.isLt).toNat : Int) = sx (i.val : Int) := by decide +kernel
theorem sx_get (y : Int) (h0 : 0 ≤ y) (h1 : y < 64) (hp : y.toNat < ({ data := #[65, 66, 67, 68, 69, 70, 71, 72, 73, 74, 75, 76, 77, 78, 79, 80, 81, 82, 83, 84, 85, 86, 87, 88, 89, 90, 97, 98, 99, 100, 101, 102, 103, 104, 105, 106, 107, 108, 109, 110, 111, 112, 113, 114, 115, 116, 117, 118, 119, 120, 121, 122, 48, 49, 50, 51, 52, 53, 54, 55, 56, 57, 43, 47] } : ByteArray).size) :
    ((({ data := #[65, 66, 67, 68, 69, 70, 71, 72, 73, 74, 75, 76, 77, 78, 79, 80, 81, 82, 83, 84, 85, 86, 87, 88, 89, 90, 97, 98, 99, 100, 101, 102, 103, 104, 105, 106, 107, 108, 109, 110, 111, 112, 113, 114, 115, 116, 117, 118, 119, 120, 121, 122, 48, 49, 50, 51, 52, 53, 54, 55, 56, 57, 43, 47] } : ByteArray)[y.toNat]'hp).toNat : Int) = sx y := by
  obtain ⟨n, rfl⟩ := Int.eq_ofNat_of_zero_le h0
  exact sx_fin ⟨n, by omega⟩
theorem sx_bd (y : Int) : 0 ≤ sx y ∧ sx y ≤ 255 := by
  unfold sx
  have := (b64L.getD y.toNat 0).toNat_lt
  omega

/-- The four digits of a number of 24 bits that stands for n bytes. -/
def four (V : Int) (n : Nat) : List Int := [sx (V / 262144 % 64), sx (V / 4096 % 64), if 2 ≤ n then sx (V / 64 % 64) else 61, if 3 ≤ n then sx (V % 64) else 61]
/-- The number that up to three bytes stand for. -/
def num (c : List Int) : Int := c.getD 0 0 * 65536 + c.getD 1 0 * 256 + c.getD 2 0

theorem and63 (x : Int) (h0 : 0 ≤ x) (h1 : x < 4294967296) : bits BinOp.and IntKind.u32 x 63 = x % 64 := by
  rw [u32_and _ _ h0 h1 (by omega) (by omega)]
  have e : (63 : Int).toNat = 63 := rfl
  rw [e, nat_mask6]; omega
theorem or_a (x : Int) (h0 : 0 ≤ x) (h1 : x < 4294967296) : bits BinOp.or IntKind.u32 0 x = x := by
  rw [u32_or _ _ (by omega) (by omega) h0 h1]; simp; omega
theorem or_b (x y : Int) (h0 : 0 ≤ x) (h1 : x ≤ 255) (h2 : 0 ≤ y) (h3 : y ≤ 255) : bits BinOp.or IntKind.u32 (x * 65536) (y * 256) = x * 65536 + y * 256 := by
  rw [u32_or _ _ (by omega) (by omega) (by omega) (by omega), nat_join 16 _ _ (by omega) (by omega)]; omega
theorem or_c (x y z : Int) (h0 : 0 ≤ x) (h1 : x ≤ 255) (h2 : 0 ≤ y) (h3 : y ≤ 255) (h4 : 0 ≤ z) (h5 : z ≤ 255) : bits BinOp.or IntKind.u32 (x * 65536 + y * 256) z = x * 65536 + y * 256 + z := by
  rw [u32_or _ _ (by omega) (by omega) (by omega) (by omega), nat_join 8 _ _ (by omega) (by omega)]; omega

set_option maxRecDepth 100000 in
set_option maxHeartbeats 2000000 in
theorem group1 (b off cap : Nat) (c0 : Int) (w : World) (h0 : w.cell? ⟨b, off, none⟩ = some (.int .u8 c0)) (b0 : 0 ≤ c0 ∧ c0 ≤ 255) :
    Calls Tryd.prog 64 #[.slice (some ⟨b, off, none⟩) 1 cap] w fun e w' => e = .returned (.agg (bs (four (c0 * 65536) 1))) ∧ Below w.heap.size w w' := by
  have hbl : b < w.heap.size := World.block_lt_of_cell? w _ h0
  have o0 := or_a (c0 * 65536) (by omega) (by omega)
  go_enter Tryd.func64, Tryd.ntmps64
  go_wp2
  refine wp_loop_rounds 2 ?_
  rw [rounds_succ]
  go_wp2
  rw [rounds_succ]
  go_wp2
  obtain ⟨V, hV⟩ : ∃ V, V = c0 * 65536 := ⟨_, rfl⟩
  have v0 : 0 ≤ V := by omega
  have v1 : V < 16777216 := by omega
  rw [← hV]
  have HV := hide hV
  clear hV o0
  have a0 := and63 (V / 262144) (by omega) (by omega)
  have q0 := sx_get (V / 262144 % 64) (by omega) (by omega) (by show _ < 64; omega)
  have a1 := and63 (V / 4096) (by omega) (by omega)
  have q1 := sx_get (V / 4096 % 64) (by omega) (by omega) (by show _ < 64; omega)
  refine wp_loop_rounds 3 ?_
  rw [rounds_succ]
  go_wp2
  rw [rounds_succ]
  go_wp2
  rw [rounds_succ]
  go_wp2
  refine bodyPost_ret (v := .agg #[.int .u8 (sx (V / 262144 % 64)), .int .u8 (sx (V / 4096 % 64)), .int .u8 61, .int .u8 61]) (by simp [results, Tryd.results64, go_sem]) rfl ⟨?_, ?_⟩
  · rw [← HV.out]
    rfl
  · exact ((Below.refl _ _).alloc (Nat.le_refl _) _).alloc (by simp) _

set_option maxRecDepth 100000 in
set_option maxHeartbeats 2000000 in
theorem group2 (b off cap : Nat) (c0 c1 : Int) (w : World) (h0 : w.cell? ⟨b, off, none⟩ = some (.int .u8 c0)) (b0 : 0 ≤ c0 ∧ c0 ≤ 255) (h1 : w.cell? ⟨b, off + 1, none⟩ = some (.int .u8 c1)) (b1 : 0 ≤ c1 ∧ c1 ≤ 255) :
    Calls Tryd.prog 64 #[.slice (some ⟨b, off, none⟩) 2 cap] w fun e w' => e = .returned (.agg (bs (four (c0 * 65536 + c1 * 256) 2))) ∧ Below w.heap.size w w' := by
  have hbl : b < w.heap.size := World.block_lt_of_cell? w _ h0
  have o0 := or_a (c0 * 65536) (by omega) (by omega)
  have o1 := or_b c0 c1 (by omega) (by omega) (by omega) (by omega)
  go_enter Tryd.func64, Tryd.ntmps64
  go_wp2
  refine wp_loop_rounds 3 ?_
  rw [rounds_succ]
  go_wp2
  rw [rounds_succ]
  go_wp2
  rw [rounds_succ]
  go_wp2
  obtain ⟨V, hV⟩ : ∃ V, V = c0 * 65536 + c1 * 256 := ⟨_, rfl⟩
  have v0 : 0 ≤ V := by omega
  have v1 : V < 16777216 := by omega
  rw [← hV]
  have HV := hide hV
  clear hV o0 o1
  have a0 := and63 (V / 262144) (by omega) (by omega)
  have q0 := sx_get (V / 262144 % 64) (by omega) (by omega) (by show _ < 64; omega)
  have a1 := and63 (V / 4096) (by omega) (by omega)
  have q1 := sx_get (V / 4096 % 64) (by omega) (by omega) (by show _ < 64; omega)
  have a2 := and63 (V / 64) (by omega) (by omega)
  have q2 := sx_get (V / 64 % 64) (by omega) (by omega) (by show _ < 64; omega)
  refine wp_loop_rounds 4 ?_
  rw [rounds_succ]
  go_wp2
  rw [rounds_succ]
  go_wp2
  rw [rounds_succ]
  go_wp2
  rw [rounds_succ]
  go_wp2
  refine bodyPost_ret (v := .agg #[.int .u8 (sx (V / 262144 % 64)), .int .u8 (sx (V / 4096 % 64)), .int .u8 (sx (V / 64 % 64)), .int .u8 61]) (by simp [results, Tryd.results64, go_sem]) rfl ⟨?_, ?_⟩
  · rw [← HV.out]
    rfl
  · exact ((Below.refl _ _).alloc (Nat.le_refl _) _).alloc (by simp) _

set_option maxRecDepth 100000 in
set_option maxHeartbeats 2000000 in
theorem group3 (b off cap : Nat) (c0 c1 c2 : Int) (w : World) (h0 : w.cell? ⟨b, off, none⟩ = some (.int .u8 c0)) (b0 : 0 ≤ c0 ∧ c0 ≤ 255) (h1 : w.cell? ⟨b, off + 1, none⟩ = some (.int .u8 c1)) (b1 : 0 ≤ c1 ∧ c1 ≤ 255) (h2 : w.cell? ⟨b, off + 2, none⟩ = some (.int .u8 c2)) (b2 : 0 ≤ c2 ∧ c2 ≤ 255) :
    Calls Tryd.prog 64 #[.slice (some ⟨b, off, none⟩) 3 cap] w fun e w' => e = .returned (.agg (bs (four (c0 * 65536 + c1 * 256 + c2) 3))) ∧ Below w.heap.size w w' := by
  have hbl : b < w.heap.size := World.block_lt_of_cell? w _ h0
  have o0 := or_a (c0 * 65536) (by omega) (by omega)
  have o1 := or_b c0 c1 (by omega) (by omega) (by omega) (by omega)
  have o2 := or_c c0 c1 c2 (by omega) (by omega) (by omega) (by omega) (by omega) (by omega)
  go_enter Tryd.func64, Tryd.ntmps64
  go_wp2
  refine wp_loop_rounds 4 ?_
  rw [rounds_succ]
  go_wp2
  rw [rounds_succ]
  go_wp2
  rw [rounds_succ]
  go_wp2
  rw [rounds_succ]
  go_wp2
  obtain ⟨V, hV⟩ : ∃ V, V = c0 * 65536 + c1 * 256 + c2 := ⟨_, rfl⟩
  have v0 : 0 ≤ V := by omega
  have v1 : V < 16777216 := by omega
  rw [← hV]
  have HV := hide hV
  clear hV o0 o1 o2
  have a0 := and63 (V / 262144) (by omega) (by omega)
  have q0 := sx_get (V / 262144 % 64) (by omega) (by omega) (by show _ < 64; omega)
  have a1 := and63 (V / 4096) (by omega) (by omega)
  have q1 := sx_get (V / 4096 % 64) (by omega) (by omega) (by show _ < 64; omega)
  have a2 := and63 (V / 64) (by omega) (by omega)
  have q2 := sx_get (V / 64 % 64) (by omega) (by omega) (by show _ < 64; omega)
  have a3 := and63 (V) (by omega) (by omega)
  have q3 := sx_get (V % 64) (by omega) (by omega) (by show _ < 64; omega)
  refine wp_loop_rounds 5 ?_
  rw [rounds_succ]
  go_wp2
  rw [rounds_succ]
  go_wp2
  rw [rounds_succ]
  go_wp2
  rw [rounds_succ]
  go_wp2
  rw [rounds_succ]
  go_wp2
  refine bodyPost_ret (v := .agg #[.int .u8 (sx (V / 262144 % 64)), .int .u8 (sx (V / 4096 % 64)), .int .u8 (sx (V / 64 % 64)), .int .u8 (sx (V % 64))]) (by simp [results, Tryd.results64, go_sem]) rfl ⟨?_, ?_⟩
  · rw [← HV.out]
    rfl
  · exact ((Below.refl _ _).alloc (Nat.le_refl _) _).alloc (by simp) _

end Go.Proofs.YtojepbapdjkknaaDoor.Oct

/-
  octet, ported from round 1 (B64).
-/
namespace Go.Proofs.YtojepbapdjkknaaDoor.Oct
open Go.RowKit
set_option linter.unusedVariables false

/-- The four digits of the group number i. -/
def grpAt (xs : List Int) (i : Nat) : List Int := four (num ((xs.drop (3 * i)).take 3)) (min 3 (xs.length - 3 * i))
/-- The digits of the first k groups. -/
def b64To (xs : List Int) (k : Nat) : List Int := (List.range k).flatMap (grpAt xs)
def b64B (xs : List Int) : List Int := b64To xs ((xs.length + 2) / 3)

theorem Own.below {w w' : World} {B : Nat} {v : Value} {xs : List Int} (h : Own w B v xs) (hb : Below w.heap.size w w') : Own w' B v xs := by
  obtain ⟨h1, h2⟩ := h
  refine ⟨h1, ?_⟩
  rcases h2 with h2 | ⟨g, cap, cur, e, hg, hh, r⟩
  · exact .inl h2
  · refine .inr ⟨g, cap, cur, e, hg, ?_, r⟩
    rw [hb.block g (Array.getElem?_eq_some_iff.1 hh).1]
    exact hh

theorem four_isB (V : Int) (n : Nat) : isB (four V n) := by
  intro x hx
  simp only [four, List.mem_cons, List.not_mem_nil, or_false] at hx
  rcases hx with rfl | rfl | rfl | rfl
  · exact sx_bd _
  · exact sx_bd _
  · split
    · exact sx_bd _
    · omega
  · split
    · exact sx_bd _
    · omega
theorem four_length (V : Int) (n : Nat) : (four V n).length = 4 := rfl
theorem b64To_succ (xs : List Int) (k : Nat) : b64To xs (k + 1) = b64To xs k ++ grpAt xs k := by simp [b64To, List.range_succ]
theorem b64To_isB (xs : List Int) (k : Nat) : isB (b64To xs k) := by
  intro x hx
  simp only [b64To, List.mem_flatMap] at hx
  obtain ⟨i, _, hx⟩ := hx
  exact four_isB _ _ x hx
theorem b64To_length (xs : List Int) (k : Nat) : (b64To xs k).length = 4 * k := by
  induction k with
  | zero => rfl
  | succ k ih => rw [b64To_succ, List.length_append, ih]; show _ + 4 = _; omega

set_option maxRecDepth 100000 in
theorem und76 : Tryd.prog.underlying 103 = some (.array 4 5) := by kernel_rfl
theorem info76 : (Tryd.prog.info? 103).map (·.size) = some 4 := by kernel_rfl

section
variable {dst : Option Tmp} {ty : TypeId} {pos : String} {aft : Array Edge} {gd : Option (Nat × Bool)} {ops : Array Oper} {rest : List Oper} {a : Act} {w : World} {Q : Exit → Act → World → Prop}
set_option maxRecDepth 100000 in
theorem step_alloc76 (hw : Region.wanted ⟨dst, .alloc 103, ty, pos, aft, gd⟩ (yielded ops a.tmps) = true)
    (h : ∀ w1 g, Row w1 g 103 (zer 4) → w.heap.size ≤ g → Below w.heap.size w w1 → wpList Tryd.prog ops Q rest (a.put dst (.pointer (some ⟨g, 0, none⟩))) w1) :
    wpList Tryd.prog ops Q (⟨dst, .alloc 103, ty, pos, aft, gd⟩ :: rest) a w :=
  step_run hw (.pointer (some ⟨w.heap.size, 0, none⟩)) (w.alloc (.cells (bs (zer 4)) 103)) (by kernel_rfl) (h _ _ (Row.made _ _ _) (Nat.le_refl _) ((Below.refl _ _).alloc (Nat.le_refl _) _))
set_option maxRecDepth 100000 in
theorem step_store76 {x y : Operand} {g : Nat} {t : TypeId} {xs ys : List Int} (hw : Region.wanted ⟨dst, .store 103 x y, ty, pos, aft, gd⟩ (yielded ops a.tmps) = true) (hx : a.eval x = .pointer (some ⟨g, 0, none⟩)) (hy : a.eval y = .agg (bs ys)) (hg : Row w g t xs) (hl : xs.length = 4) (hl' : ys.length = 4)
    (h : ∀ w1, Row w1 g t ys → But g w w1 → wpList Tryd.prog ops Q rest (a.put dst undef) w1) :
    wpList Tryd.prog ops Q (⟨dst, .store 103 x y, ty, pos, aft, gd⟩ :: rest) a w :=
  BigFrame.wpList_want hw fun _ hK => wp_store_row 103 x y rfl g (bs ys) hx hy t (bs xs) hg (by rw [info76, bs_size, hl']) (by rw [bs_size, bs_size, hl, hl']) (bs_all ys)
    (hK _ _ (h _ (hg.setRow ys) (But.setRow _ _ _)))
end

set_option maxRecDepth 100000 in
theorem group_any (b off cap n : Nat) (c : List Int) (w : World) (hn : n = 1 ∨ n = 2 ∨ n = 3) (hl : c.length = n) (hc : ∀ i, i < n → w.cell? ⟨b, off + i, none⟩ = some (.int .u8 (c.getD i 0))) (hb : isB c) :
    Calls Tryd.prog 64 #[.slice (some ⟨b, off, none⟩) n cap] w fun e w' => e = .returned (.agg (bs (four (num c) n))) ∧ Below w.heap.size w w' := by
  rcases hn with rfl | rfl | rfl
  · obtain ⟨c0, rfl⟩ : ∃ c0, c = [c0] := List.length_eq_one_iff.1 hl
    have e : num [c0] = c0 * 65536 := by simp [num]
    rw [e]
    exact group1 b off cap c0 w (hc 0 (by omega)) (hb.get 0)
  · match c, hl with
    | [c0, c1], _ =>
      have e : num [c0, c1] = c0 * 65536 + c1 * 256 := by simp [num]
      rw [e]
      exact group2 b off cap c0 c1 w (hc 0 (by omega)) (hb.get 0) (hc 1 (by omega)) (hb.get 1)
  · match c, hl with
    | [c0, c1, c2], _ =>
      have e : num [c0, c1, c2] = c0 * 65536 + c1 * 256 + c2 := by simp [num]
      rw [e]
      exact group3 b off cap c0 c1 c2 w (hc 0 (by omega)) (hb.get 0) (hc 1 (by omega)) (hb.get 1) (hc 2 (by omega)) (hb.get 2)

set_option maxRecDepth 100000 in
set_option maxHeartbeats 1000000 in
theorem b64_any (a : Option Addr) (len cap : Nat) (xs : List Int) (w : World) (hs : Sl w a len cap xs) (hl : len ≤ 8388608) :
    Calls Tryd.prog 33 #[.slice a len cap] w fun e w' => e = .returned (.string (str (b64B xs))) ∧ Below w.heap.size w w' := by
  have HS := hide hs
  have hcap := hs.hcap
  clear hs
  obtain ⟨i0, hi, hz0, hz1, hz2⟩ := info_parts info5b
  obtain ⟨m, hm⟩ : ∃ m, m = (len + 2) / 3 := ⟨_, rfl⟩
  have hm1 : 3 * m ≤ len + 2 := by omega
  have hm2 : len ≤ 3 * m := by omega
  have HM := hide hm
  clear hm
  go_enter Tryd.func33, Tryd.ntmps33
  go_wp2_with (at_make; refine wpList_make_own _ rfl _ _ 26 rfl w.heap.size 5 i0 (.int .u8 0) 1 Tryd.underlying26 hi hz0 hz1 _ _ _ (4 * m) rfl rfl (by omega) (by rw [hz2]; omega) (by unfold maxLen; omega) (Nat.le_refl _) ?_)
  intro w1 ho1 hg1
  have hb1 : Below w.heap.size w w1 := (Below.refl _ _).grown hg1 (Nat.le_refl _) (fun k e => by cases e)
  have HO : Hid (Own w1 w.heap.size (.slice (some ⟨w.heap.size, 0, none⟩) 0 (4 * m)) []) := ho1
  clear ho1 hg1
  go_wp2
  go_loopw [4, 15] (fun v i wr => ∃ k : Nat, k ≤ m ∧ i = .int .i64 k ∧ Own wr w.heap.size v (b64To xs k) ∧ Below w.heap.size w wr) (fun _ i _ => m - (intOf i).toNat)
  case atStart => exact ⟨0, by omega, rfl, HO.out, hb1⟩
  case round =>
    obtain ⟨k, hk, rfl, ho, hb⟩ := hrel
    have HOO := hide ho
    clear ho
    by_cases hlt : k < m
    · obtain ⟨b, off, e, hc⟩ := HS.out.hcell (by omega)
      subst e
      have hce : ∀ i, i < len → wr.cell? ⟨b, off + i, none⟩ = some (.int .u8 (xs.getD i 0)) := by
        intro i hi
        have := hc i hi
        rw [hb.cell (World.block_lt_of_cell? w _ this)]; exact this
      have HCE := hide hce
      have hnc : ¬ cap = 3 * k := by omega
      have hB := hb.size
      clear hc hce
      by_cases h3 : 3 * k + 3 ≤ len
      · have hmn : (3 * (k : Int) + 3) ≤ len := by omega
        have HCL := hide (show ((xs.drop (3 * k)).take 3).length = 3 by rw [List.length_take, List.length_drop, HS.out.hlen]; omega)
        have HCC : Hid (∀ i, i < 3 → wr.cell? ⟨b, off + 3 * k + i, none⟩ = some (.int .u8 (((xs.drop (3 * k)).take 3).getD i 0))) := by
          intro i hi
          rw [Nat.add_assoc, HCE.out (3 * k + i) (by omega)]
          have e3 : i < 3 := by omega
          simp [List.getD, e3]
        have HGA := hide (show grpAt xs k = four (num ((xs.drop (3 * k)).take 3)) (3) by rw [grpAt, HS.out.hlen]; congr 1; omega)
        go_wp2_with fail
        refine (group_any b (off + 3 * k) (cap - 3 * k) (3) ((xs.drop (3 * k)).take 3) wr (by omega) HCL.out HCC.out ((HS.out.hbyte.drop _).take _)).mono ?_
        rintro e w2 ⟨rfl, hb2⟩
        rw [← HGA.out]
        go_wp2_with (refine step_alloc76 rfl ?_)
        intro w3 g3 hr3 hg3 hb3
        go_wp2_with (refine step_store76 rfl rfl rfl hr3 rfl rfl ?_)
        intro w4 hr4 hbut4
        have b24 : Below wr.heap.size wr w4 := (hb2.trans (hb3.mono hb2.size)).trans (hbut4.below (Nat.le_trans hb2.size hg3))
        have hb4 : Below w.heap.size w w4 := hb.trans (b24.mono hb.size)
        have HO4 := hide (HOO.out.below b24)
        have SL4 : Hid (Sl w4 (some ⟨g3, 0, none⟩) 4 4 (grpAt xs k)) := hr4.sl (four_isB _ _) (by show 4 ≤ _; omega)
        have HN := hide (show (b64To xs k).length + 4 ≤ 140737488355328 by rw [b64To_length]; omega)
        have hB4 := hb4.size
        clear hr3 hr4 hbut4 hb2 hb3 b24 HOO HCC HCE
        go_wp2_with (refine step_append rfl rfl rfl HO4.out SL4.out HN.out hB4 ?_)
        intro v5 w5 ho5 hg5 hn5
        have hb5 : Below w.heap.size w w5 := hb4.grown hg5 hB4 (fun j hj => (World.ownsRow.lt HO4.out j hj).1)
        have HO5 := hide ho5
        clear ho5 hg5 hn5 HO4 SL4
        go_wp2
        go_roundw
        case rel => exact ⟨k + 1, by omega, by go_num, by rw [b64To_succ]; exact HO5.out, hb5⟩
        case measure => simp [intOf]; omega
      · have hmn : ¬ ((3 * (k : Int) + 3) ≤ len) := by omega
        have HCL := hide (show ((xs.drop (3 * k)).take 3).length = len - 3 * k by rw [List.length_take, List.length_drop, HS.out.hlen]; omega)
        have HCC : Hid (∀ i, i < len - 3 * k → wr.cell? ⟨b, off + 3 * k + i, none⟩ = some (.int .u8 (((xs.drop (3 * k)).take 3).getD i 0))) := by
          intro i hi
          rw [Nat.add_assoc, HCE.out (3 * k + i) (by omega)]
          have e3 : i < 3 := by omega
          simp [List.getD, e3]
        have HGA := hide (show grpAt xs k = four (num ((xs.drop (3 * k)).take 3)) (len - 3 * k) by rw [grpAt, HS.out.hlen]; congr 1; omega)
        go_wp2_with fail
        refine (group_any b (off + 3 * k) (cap - 3 * k) (len - 3 * k) ((xs.drop (3 * k)).take 3) wr (by omega) HCL.out HCC.out ((HS.out.hbyte.drop _).take _)).mono ?_
        rintro e w2 ⟨rfl, hb2⟩
        rw [← HGA.out]
        go_wp2_with (refine step_alloc76 rfl ?_)
        intro w3 g3 hr3 hg3 hb3
        go_wp2_with (refine step_store76 rfl rfl rfl hr3 rfl rfl ?_)
        intro w4 hr4 hbut4
        have b24 : Below wr.heap.size wr w4 := (hb2.trans (hb3.mono hb2.size)).trans (hbut4.below (Nat.le_trans hb2.size hg3))
        have hb4 : Below w.heap.size w w4 := hb.trans (b24.mono hb.size)
        have HO4 := hide (HOO.out.below b24)
        have SL4 : Hid (Sl w4 (some ⟨g3, 0, none⟩) 4 4 (grpAt xs k)) := hr4.sl (four_isB _ _) (by show 4 ≤ _; omega)
        have HN := hide (show (b64To xs k).length + 4 ≤ 140737488355328 by rw [b64To_length]; omega)
        have hB4 := hb4.size
        clear hr3 hr4 hbut4 hb2 hb3 b24 HOO HCC HCE
        go_wp2_with (refine step_append rfl rfl rfl HO4.out SL4.out HN.out hB4 ?_)
        intro v5 w5 ho5 hg5 hn5
        have hb5 : Below w.heap.size w w5 := hb4.grown hg5 hB4 (fun j hj => (World.ownsRow.lt HO4.out j hj).1)
        have HO5 := hide ho5
        clear ho5 hg5 hn5 HO4 SL4
        go_wp2
        go_roundw
        case rel => exact ⟨k + 1, by omega, by go_num, by rw [b64To_succ]; exact HO5.out, hb5⟩
        case measure => simp [intOf]; omega
    · have hkm : k = m := by omega
      subst hkm
      have e1 : b64To xs k = b64B xs := by rw [b64B, HS.out.hlen, ← HM.out]
      have ho := HOO.out
      rw [e1] at ho
      obtain ⟨sa, sc, rfl, sl⟩ := ho.sl' (by rw [← e1]; exact b64To_isB _ _) (by rw [← e1, b64To_length]; omega)
      have SL := hide sl
      clear sl ho e1
      go_wp2_with (refine step_toStr rfl rfl SL.out ?_)
      go_ret
      exact ⟨rfl, hb⟩

end Go.Proofs.YtojepbapdjkknaaDoor.Oct

/-
  The document's place of a letter among others.
-/
namespace Go.Proofs.YtojepbapdjkknaaDoor.Oct
open Go.RowKit
set_option linter.unusedVariables false

set_option maxRecDepth 100000 in
set_option maxHeartbeats 400000 in
theorem place_any (A : ByteArray) (c : UInt8) (w : World) (hA : A.size ≤ 1048576) :
    Calls Tryd.prog 73 #[.string A, .int .u8 c.toNat] w fun e w' => e = .returned (.int .i64 (pl A.data.toList c)) ∧ w = w' := by
  have hget : ∀ k (h : k < A.size), A.data.toList[k]? = some A[k] := by
    intro k h
    rw [List.getElem?_eq_getElem (by simpa using h)]
    rfl
  have HG := hide hget
  clear hget
  go_enter Tryd.func73, Tryd.ntmps73
  go_wp2
  go_loop [5] (fun i => ∃ k : Nat, k ≤ A.size ∧ i = .int .i64 k ∧ ∀ j : Nat, j < k → A.data.toList[j]? ≠ some c) (fun i => A.size - (intOf i).toNat)
  case atStart => exact ⟨0, Nat.zero_le _, rfl, fun j h => absurd h (by omega)⟩
  case round =>
    obtain ⟨k, hk, rfl, hbefore⟩ := hrel
    have HB := hide hbefore
    clear hbefore
    by_cases hlt : k < A.size
    · by_cases he : A[k] = c
      · have ht : ((A[k].toNat : Int) == (c.toNat : Int)) = true := by rw [he]; simp
        have e := hide (pl_at A.data.toList c k (by rw [HG.out k hlt, he]) HB.out)
        clear he
        go_wp2
        go_ret
        rw [e.out]
        exact ⟨rfl, rfl⟩
      · have ht : ((A[k].toNat : Int) == (c.toNat : Int)) = false := by
          rw [beq_eq_false_iff_ne]
          intro h
          apply he
          apply UInt8.toNat_inj.1
          omega
        have HE := hide he
        clear he
        go_wp2
        go_round
        case rel =>
          refine ⟨k + 1, by omega, by go_num, fun j hj => ?_⟩
          by_cases h : j < k
          · exact HB.out j h
          · obtain rfl : j = k := by omega
            rw [HG.out j hlt]
            intro h2
            exact HE.out (Option.some.inj h2)
        case measure => simp [intOf]; omega
    · have e := hide (pl_none A.data.toList c (fun j => by
        by_cases h : j < k
        · exact HB.out j h
        · rw [List.getElem?_eq_none (by have : A.data.toList.length = A.size := by simp
                                        omega)]
          simp))
      go_wp2
      go_ret
      rw [e.out]
      exact ⟨rfl, rfl⟩

end Go.Proofs.YtojepbapdjkknaaDoor.Oct

/-
  The document's Base64, ported from round 1.
-/
namespace Go.Proofs.YtojepbapdjkknaaDoor.Oct
open Go.RowKit
set_option linter.unusedVariables false

/-- The four digits, none of them filled. -/
def sxs (V : Int) : List Int := [sx (V / 262144), sx (V / 4096 % 64), sx (V / 64 % 64), sx (V % 64)]
/-- The first j of four laid over others. -/
def mix (V : Int) (n j : Nat) : List Int := (four V n).take j ++ (sxs V).drop j

theorem num_at (xs : List Int) (p : Nat) : num ((xs.drop p).take 3) = xs.getD p 0 * 65536 + xs.getD (p + 1) 0 * 256 + xs.getD (p + 2) 0 := by
  simp [num, List.getD]
theorem getD_out (xs : List Int) (p : Nat) (h : xs.length ≤ p) : xs.getD p 0 = 0 := by simp [List.getD, List.getElem?_eq_none h]

theorem wp_run {P : Program} {o : Oper} {a : Act} {w : World} {K : Act → World → Prop} {Q : Exit → Act → World → Prop} (v : Value) (w' : World) (hrun : (execOp a.eval o).run P w = .ok (.value v) w') (h : K (a.put o.dst v) w') : Oper.wp P o a w K Q := by
  unfold Oper.wp
  rw [hrun, Oper.upon_value]
  exact h

theorem Own.ne {w : World} {B : Nat} {v : Value} {xs ys : List Int} {g : Nat} (h : Own w B v xs) (hr : Row w g 103 ys) : v.ownBlock ≠ some g := by
  intro e
  rcases h.2 with ⟨rfl, _⟩ | ⟨g', cap, cur, rfl, hb, hh, r⟩
  · simp [Value.ownBlock] at e
  · simp only [Value.ownBlock, Option.some.injEq] at e
    subst e
    unfold Row at hr
    rw [hh] at hr
    simp at hr
theorem Row.grown {w w' : World} {g : Nat} {t : TypeId} {xs : List Int} {row : Option Nat} (hr : Row w g t xs) (hg : w.grownBy w' row) (hne : row ≠ some g) : Row w' g t xs := by
  unfold Row
  rw [hg.block g hr.lt (fun e => hne e.symm)]
  exact hr
theorem Own.but {w w' : World} {B : Nat} {v : Value} {xs : List Int} {g : Nat} (h : Own w B v xs) (hb : But g w w') (hne : v.ownBlock ≠ some g) : Own w' B v xs := by
  refine ⟨h.1, ?_⟩
  rcases h.2 with h2 | ⟨g', cap, cur, rfl, hB, hh, r⟩
  · exact .inl h2
  · refine .inr ⟨g', cap, cur, rfl, hB, ?_, r⟩
    rw [hb.block g' (fun e => hne (by simp [Value.ownBlock, e]))]
    exact hh

set_option maxRecDepth 100000 in
set_option maxHeartbeats 2000000 in
theorem b64R_any (a : Option Addr) (len cap : Nat) (xs : List Int) (w : World) (hs : Sl w a len cap xs) (hl : len ≤ 1048576) :
    Calls Tryd.prog 37 #[.slice a len cap] w fun e w' => e = .returned (.string (str (b64B xs))) ∧ Below w.heap.size w w' := by
  have HS := hide hs
  have hcap := hs.hcap
  clear hs
  obtain ⟨m, hm⟩ : ∃ m, m = (len + 2) / 3 := ⟨_, rfl⟩
  have hm1 : 3 * m ≤ len + 2 := by omega
  have hm2 : len ≤ 3 * m := by omega
  have HM := hide hm
  clear hm
  go_enter Tryd.func37, Tryd.ntmps37
  go_wp2
  go_loopw [3, 4] (fun v i wr => ∃ k : Nat, k ≤ m ∧ i = .int .i64 (3 * k) ∧ Own wr w.heap.size v (b64To xs k) ∧ Below w.heap.size w wr) (fun _ i _ => (3 * m - intOf i).toNat)
  case atStart => exact ⟨0, by omega, rfl, Own.nil _ _, Below.refl _ _⟩
  case round =>
    obtain ⟨k, hk, rfl, ho, hb⟩ := hrel
    have HOO := hide ho
    clear ho
    by_cases hlt : k < m
    · obtain ⟨b, off, e, hc⟩ := HS.out.hcell (by omega)
      subst e
      have hce : ∀ i, i < len → wr.cell? ⟨b, off + i, none⟩ = some (.int .u8 (xs.getD i 0)) := by
        intro i hi
        have := hc i hi
        rw [hb.cell (World.block_lt_of_cell? w _ this)]; exact this
      have HCE := hide hce
      have hB := hb.size
      clear hc hce
      have hlt2 : (3 * (k : Int)) < len := by omega
      by_cases h3 : 3 * k + 3 < len
      · have hgt : (3 : Int) < (len : Int) - 3 * (k : Int) := by omega
        have c0 := HCE.out (3 * k) (by omega)
        have b0 := HS.out.hbyte.get (3 * k)
        obtain ⟨x0, hx0⟩ : ∃ x0, x0 = xs.getD (3 * k) 0 := ⟨_, rfl⟩
        rw [← hx0] at c0 b0
        obtain ⟨b00, b01⟩ := b0
        have HX0 := hide hx0
        clear hx0
        have c1 := HCE.out (3 * k + 1) (by omega)
        have b1 := HS.out.hbyte.get (3 * k + 1)
        obtain ⟨x1, hx1⟩ : ∃ x1, x1 = xs.getD (3 * k + 1) 0 := ⟨_, rfl⟩
        rw [← hx1] at c1 b1
        obtain ⟨b10, b11⟩ := b1
        have HX1 := hide hx1
        clear hx1
        have c2 := HCE.out (3 * k + 2) (by omega)
        have b2 := HS.out.hbyte.get (3 * k + 2)
        obtain ⟨x2, hx2⟩ : ∃ x2, x2 = xs.getD (3 * k + 2) 0 := ⟨_, rfl⟩
        rw [← hx2] at c2 b2
        obtain ⟨b20, b21⟩ := b2
        have HX2 := hide hx2
        clear hx2
        go_wp2
        refine wp_loop_rounds 4 ?_
        rw [rounds_succ]
        go_wp2
        rw [rounds_succ]
        go_wp2
        rw [rounds_succ]
        go_wp2
        rw [rounds_succ]
        go_wp2
        obtain ⟨V, hV⟩ : ∃ V, V = (x0 * 256 + x1) * 256 + x2 := ⟨_, rfl⟩
        have v0 : 0 ≤ V := by omega
        have v1 : V < 16777216 := by omega
        rw [← hV]
        have HGA : Hid (grpAt xs k = four V 3) := by
          show _ = _
          rw [grpAt, num_at, HS.out.hlen, ← HX0.out, ← HX1.out, ← HX2.out]
          congr 1 <;> omega
        clear hV c0 c1 c2
        have t0 : IntKind.i64.wrap (V.tdiv 262144) = V / 262144 := by rw [Int.tdiv_eq_ediv_of_nonneg v0]; exact wrap_in _ (by omega) (by omega)
        have t1 : IntKind.i64.wrap (V.tdiv 4096) = V / 4096 := by rw [Int.tdiv_eq_ediv_of_nonneg v0]; exact wrap_in _ (by omega) (by omega)
        have t2 : IntKind.i64.wrap (V.tdiv 64) = V / 64 := by rw [Int.tdiv_eq_ediv_of_nonneg v0]; exact wrap_in _ (by omega) (by omega)
        have t3 : (V / 4096).tmod 64 = V / 4096 % 64 := Int.tmod_eq_emod_of_nonneg (by omega)
        have t4 : (V / 64).tmod 64 = V / 64 % 64 := Int.tmod_eq_emod_of_nonneg (by omega)
        have t5 : V.tmod 64 = V % 64 := Int.tmod_eq_emod_of_nonneg v0
        have T6 := hide (show V / 262144 % 64 = V / 262144 from Int.emod_eq_of_lt (by omega) (by omega))
        have q0 := sx_get (V / 262144) (by omega) (by omega) (by show _ < 64; omega)
        have l0 : (0 : Int) ≤ V / 262144 := by omega
        have m0 : V / 262144 < 64 := by omega
        have q1 := sx_get (V / 4096 % 64) (by omega) (by omega) (by show _ < 64; omega)
        have l1 : (0 : Int) ≤ V / 4096 % 64 := by omega
        have m1 : V / 4096 % 64 < 64 := by omega
        have q2 := sx_get (V / 64 % 64) (by omega) (by omega) (by show _ < 64; omega)
        have l2 : (0 : Int) ≤ V / 64 % 64 := by omega
        have m2 : V / 64 % 64 < 64 := by omega
        have q3 := sx_get (V % 64) (by omega) (by omega) (by show _ < 64; omega)
        have l3 : (0 : Int) ≤ V % 64 := by omega
        have m3 : V % 64 < 64 := by omega
        refine wp_region_noPanic ?_
        refine wp_region_held_drew (S := fun _ => True) (by kernel_rfl) trivial (fun hHeld => ?_)
        refine takeH 0 40 (.int .i64 V) hHeld rfl rfl (by kernel_rfl) (by kernel_rfl) (by kernel_rfl) (fun _ _ _ h => h) (Or.inl ⟨by rfl, fun w _ => by go_simp⟩) ?_
        simp only [Act.put, List.setIfInBounds_toArray, List.set_cons_zero, List.set_cons_succ]
        refine takeH 1 41 (.int .i64 (V / 262144)) hHeld rfl rfl (by kernel_rfl) (by kernel_rfl) (by kernel_rfl) (fun _ _ _ h => h) (Or.inl ⟨by rfl, fun w _ => by go_simp⟩) ?_
        simp only [Act.put, List.setIfInBounds_toArray, List.set_cons_zero, List.set_cons_succ]
        refine takeH 2 42 (.int .u8 (sx (V / 262144))) hHeld rfl rfl (by kernel_rfl) (by kernel_rfl) (by kernel_rfl) (fun _ _ _ h => h) (Or.inl ⟨by rfl, fun w _ => by go_simp⟩) ?_
        simp only [Act.put, List.setIfInBounds_toArray, List.set_cons_zero, List.set_cons_succ]
        refine takeH 3 43 (.int .i64 V) hHeld rfl rfl (by kernel_rfl) (by kernel_rfl) (by kernel_rfl) (fun _ _ _ h => h) (Or.inl ⟨by rfl, fun w _ => by go_simp⟩) ?_
        simp only [Act.put, List.setIfInBounds_toArray, List.set_cons_zero, List.set_cons_succ]
        refine takeH 4 44 (.int .i64 (V / 4096)) hHeld rfl rfl (by kernel_rfl) (by kernel_rfl) (by kernel_rfl) (fun _ _ _ h => h) (Or.inl ⟨by rfl, fun w _ => by go_simp⟩) ?_
        simp only [Act.put, List.setIfInBounds_toArray, List.set_cons_zero, List.set_cons_succ]
        refine takeH 5 45 (.int .i64 (V / 4096 % 64)) hHeld rfl rfl (by kernel_rfl) (by kernel_rfl) (by kernel_rfl) (fun _ _ _ h => h) (Or.inl ⟨by rfl, fun w _ => by go_simp⟩) ?_
        simp only [Act.put, List.setIfInBounds_toArray, List.set_cons_zero, List.set_cons_succ]
        refine takeH 6 46 (.int .u8 (sx (V / 4096 % 64))) hHeld rfl rfl (by kernel_rfl) (by kernel_rfl) (by kernel_rfl) (fun _ _ _ h => h) (Or.inl ⟨by rfl, fun w _ => by go_simp⟩) ?_
        simp only [Act.put, List.setIfInBounds_toArray, List.set_cons_zero, List.set_cons_succ]
        refine takeH 7 47 (.int .i64 V) hHeld rfl rfl (by kernel_rfl) (by kernel_rfl) (by kernel_rfl) (fun _ _ _ h => h) (Or.inl ⟨by rfl, fun w _ => by go_simp⟩) ?_
        simp only [Act.put, List.setIfInBounds_toArray, List.set_cons_zero, List.set_cons_succ]
        refine takeH 8 48 (.int .i64 (V / 64)) hHeld rfl rfl (by kernel_rfl) (by kernel_rfl) (by kernel_rfl) (fun _ _ _ h => h) (Or.inl ⟨by rfl, fun w _ => by go_simp⟩) ?_
        simp only [Act.put, List.setIfInBounds_toArray, List.set_cons_zero, List.set_cons_succ]
        refine takeH 9 49 (.int .i64 (V / 64 % 64)) hHeld rfl rfl (by kernel_rfl) (by kernel_rfl) (by kernel_rfl) (fun _ _ _ h => h) (Or.inl ⟨by rfl, fun w _ => by go_simp⟩) ?_
        simp only [Act.put, List.setIfInBounds_toArray, List.set_cons_zero, List.set_cons_succ]
        refine takeH 10 50 (.int .u8 (sx (V / 64 % 64))) hHeld rfl rfl (by kernel_rfl) (by kernel_rfl) (by kernel_rfl) (fun _ _ _ h => h) (Or.inl ⟨by rfl, fun w _ => by go_simp⟩) ?_
        simp only [Act.put, List.setIfInBounds_toArray, List.set_cons_zero, List.set_cons_succ]
        refine takeH 11 51 (.int .i64 V) hHeld rfl rfl (by kernel_rfl) (by kernel_rfl) (by kernel_rfl) (fun _ _ _ h => h) (Or.inl ⟨by rfl, fun w _ => by go_simp⟩) ?_
        simp only [Act.put, List.setIfInBounds_toArray, List.set_cons_zero, List.set_cons_succ]
        refine takeH 12 52 (.int .i64 (V % 64)) hHeld rfl rfl (by kernel_rfl) (by kernel_rfl) (by kernel_rfl) (fun _ _ _ h => h) (Or.inl ⟨by rfl, fun w _ => by go_simp⟩) ?_
        simp only [Act.put, List.setIfInBounds_toArray, List.set_cons_zero, List.set_cons_succ]
        refine takeH 13 53 (.int .u8 (sx (V % 64))) hHeld rfl rfl (by kernel_rfl) (by kernel_rfl) (by kernel_rfl) (fun _ _ _ h => h) (Or.inl ⟨by rfl, fun w _ => by go_simp⟩) ?_
        simp only [Act.put, List.setIfInBounds_toArray, List.set_cons_zero, List.set_cons_succ]
        refine takeH 14 54 (.agg (bs (sxs V))) hHeld rfl rfl (by kernel_rfl) (by kernel_rfl) (by kernel_rfl) (fun _ _ _ h => h) (Or.inl ⟨by rfl, fun w _ => by kernel_rfl⟩) ?_
        simp only [Act.put, List.setIfInBounds_toArray, List.set_cons_zero, List.set_cons_succ]
        refine wpAnyH_ready (rs := [15]) (by kernel_rfl) (by simp) (AllReadyH.cons rfl (fun K hK => ?_) AllReadyH.nil)
        rw [if_pos (by rfl)]
        refine wp_run (.pointer (some ⟨wr.heap.size, 0, none⟩)) (wr.drew.alloc (.cells (bs (zer 4)) 103)) (by kernel_rfl) ?_
        refine hK.out _ _ trivial (fun _ => ?_)
        clear hK K
        simp only [Act.put, List.setIfInBounds_toArray]
        have hrZ : Row (wr.drew.alloc (.cells (bs (zer 4)) 103)) wr.heap.size 103 (zer 4) := Row.made wr.drew 103 (zer 4)
        refine wpAnyH_ready (rs := [16]) (by kernel_rfl) (by simp) (AllReadyH.cons rfl (fun K hK => ?_) AllReadyH.nil)
        rw [if_pos (by rfl)]
        refine wp_store_row 103 _ _ rfl wr.heap.size (bs (sxs V)) rfl rfl 103 (bs (zer 4)) hrZ (by rw [info76]; rfl) rfl (bs_all _) ?_
        refine hK.out _ _ trivial (fun _ => ?_)
        clear hK K
        refine wpAnyH_done (by kernel_rfl) ?_ _
        refine NoPanic.normal ?_
        have hrA := hrZ.setRow (sxs V)
        have hbA : Below wr.heap.size wr ((wr.drew.alloc (.cells (bs (zer 4)) 103)).setRow wr.heap.size (bs (sxs V))) := (((Below.refl _ _).drew).alloc (Nat.le_refl _) _).trans ((But.setRow _ _ _).below (Nat.le_refl _))
        obtain ⟨wA, hwA⟩ : ∃ wA, wA = (wr.drew.alloc (.cells (bs (zer 4)) 103)).setRow wr.heap.size (bs (sxs V)) := ⟨_, rfl⟩
        rw [← hwA] at hrA hbA ⊢
        clear hwA hrZ t0 t1 t2 t3 t4 t5 q0 q1 q2 q3 l0 l1 l2 l3 m0 m1 m2 m3
        have hbW : Below w.heap.size w wA := hb.trans (hbA.mono hb.size)
        have HOA := hide (HOO.out.below hbA)
        have hgw : w.heap.size ≤ wr.heap.size := hb.size
        obtain ⟨gA, hgA⟩ : ∃ gA, gA = wr.heap.size := ⟨_, rfl⟩
        rw [← hgA] at hrA hgw ⊢
        clear hgA hbA HOO HCE hb hB
        have HNN := hide (show (b64To xs k).length + 5 ≤ 140737488355328 by rw [b64To_length]; omega)
        go_wp2
        go_loopw [3, 9] (fun v i wz => ∃ j : Nat, j ≤ 4 ∧ i = .int .i64 j ∧ Own wz w.heap.size v (b64To xs k ++ (four V 3).take j) ∧ Row wz gA 103 (mix V 3 j) ∧ Below w.heap.size w wz) (fun _ i _ => 4 - (intOf i).toNat)
        case atStart => exact ⟨0, by omega, rfl, by simpa using HOA.out, hrA, hbW⟩
        case round =>
          obtain ⟨j, hj, rfl, hoj, hrj, hbj⟩ := hrel
          have HOJ := hide hoj
          have HRJ := hide hrj
          have hBj := hbj.size
          clear hoj hrj HOA hrA hbW
          rcases (show j = 4 ∨ j = 0 ∨ j = 1 ∨ j = 2 ∨ j = 3 by omega) with rfl | rfl | rfl | rfl | rfl
          · go_wp2
            go_roundw
            case rel => exact ⟨k + 1, by omega, by go_num, by rw [b64To_succ, HGA.out]; exact HOJ.out, hbj⟩
            case measure => simp [intOf]; omega
          · have hcj : wr.cell? ⟨gA, 0, none⟩ = some (.int .u8 (sx (V / 262144))) := HRJ.out.cell 0 (by simp [mix, four, sxs])
            have HR2 := HRJ
            have HO2 := HOJ
            have hb2 := hbj
            have HMX := hide (show mix V 3 0 = mix V 3 1 by simp [mix, four, sxs, T6.out])
            have HTK := hide (show b64To xs k ++ (four V 3).take 0 ++ [sx (V / 262144)] = b64To xs k ++ (four V 3).take 1 by rw [List.append_assoc]; congr 1; simp [four, T6.out])
            have hB2 := hb2.size
            go_wp2_with (at_builtin; refine step_append rfl rfl rfl (HO2.out.alloc _) (sl_one _ _ (sx_bd _).1 (sx_bd _).2) (by have := HNN.out; rw [List.length_append]; simp [four]; omega) (by simp; omega) ?_)
            intro v5 w5 ho5 hg5 hn5
            have hr5 := (HR2.out.below ((Below.refl _ _).alloc (Nat.le_refl _) _) HR2.out.lt).grown hg5 (HO2.out.ne HR2.out)
            have hb5 : Below w.heap.size w w5 := (hb2.alloc hB2 _).grown hg5 (by simp; omega) (fun i hi => (World.ownsRow.lt HO2.out i hi).1)
            have HO5 := hide ho5
            have HR5 := hide hr5
            clear ho5 hg5 hn5 hr5 HOJ HRJ HO2 HR2 hcj
            go_wp2
            go_roundw
            case rel => exact ⟨1, by omega, rfl, by rw [← HTK.out]; exact HO5.out, by rw [← HMX.out]; exact HR5.out, hb5⟩
            case measure => simp [intOf]
          · have hcj : wr.cell? ⟨gA, 1, none⟩ = some (.int .u8 (sx (V / 4096 % 64))) := HRJ.out.cell 1 (by simp [mix, four, sxs])
            have HR2 := HRJ
            have HO2 := HOJ
            have hb2 := hbj
            have HMX := hide (show mix V 3 1 = mix V 3 2 by simp [mix, four, sxs])
            have HTK := hide (show b64To xs k ++ (four V 3).take 1 ++ [sx (V / 4096 % 64)] = b64To xs k ++ (four V 3).take 2 by rw [List.append_assoc]; congr 1)
            have hB2 := hb2.size
            go_wp2_with (at_builtin; refine step_append rfl rfl rfl (HO2.out.alloc _) (sl_one _ _ (sx_bd _).1 (sx_bd _).2) (by have := HNN.out; rw [List.length_append]; simp [four]; omega) (by simp; omega) ?_)
            intro v5 w5 ho5 hg5 hn5
            have hr5 := (HR2.out.below ((Below.refl _ _).alloc (Nat.le_refl _) _) HR2.out.lt).grown hg5 (HO2.out.ne HR2.out)
            have hb5 : Below w.heap.size w w5 := (hb2.alloc hB2 _).grown hg5 (by simp; omega) (fun i hi => (World.ownsRow.lt HO2.out i hi).1)
            have HO5 := hide ho5
            have HR5 := hide hr5
            clear ho5 hg5 hn5 hr5 HOJ HRJ HO2 HR2 hcj
            go_wp2
            go_roundw
            case rel => exact ⟨2, by omega, rfl, by rw [← HTK.out]; exact HO5.out, by rw [← HMX.out]; exact HR5.out, hb5⟩
            case measure => simp [intOf]
          · have hcj : wr.cell? ⟨gA, 2, none⟩ = some (.int .u8 (sx (V / 64 % 64))) := HRJ.out.cell 2 (by simp [mix, four, sxs])
            have HR2 := HRJ
            have HO2 := HOJ
            have hb2 := hbj
            have HMX := hide (show mix V 3 2 = mix V 3 3 by simp [mix, four, sxs])
            have HTK := hide (show b64To xs k ++ (four V 3).take 2 ++ [sx (V / 64 % 64)] = b64To xs k ++ (four V 3).take 3 by rw [List.append_assoc]; congr 1)
            have hB2 := hb2.size
            go_wp2_with (at_builtin; refine step_append rfl rfl rfl (HO2.out.alloc _) (sl_one _ _ (sx_bd _).1 (sx_bd _).2) (by have := HNN.out; rw [List.length_append]; simp [four]; omega) (by simp; omega) ?_)
            intro v5 w5 ho5 hg5 hn5
            have hr5 := (HR2.out.below ((Below.refl _ _).alloc (Nat.le_refl _) _) HR2.out.lt).grown hg5 (HO2.out.ne HR2.out)
            have hb5 : Below w.heap.size w w5 := (hb2.alloc hB2 _).grown hg5 (by simp; omega) (fun i hi => (World.ownsRow.lt HO2.out i hi).1)
            have HO5 := hide ho5
            have HR5 := hide hr5
            clear ho5 hg5 hn5 hr5 HOJ HRJ HO2 HR2 hcj
            go_wp2
            go_roundw
            case rel => exact ⟨3, by omega, rfl, by rw [← HTK.out]; exact HO5.out, by rw [← HMX.out]; exact HR5.out, hb5⟩
            case measure => simp [intOf]
          · have hcj : wr.cell? ⟨gA, 3, none⟩ = some (.int .u8 (sx (V % 64))) := HRJ.out.cell 3 (by simp [mix, four, sxs])
            have HR2 := HRJ
            have HO2 := HOJ
            have hb2 := hbj
            have HMX := hide (show mix V 3 3 = mix V 3 4 by simp [mix, four, sxs])
            have HTK := hide (show b64To xs k ++ (four V 3).take 3 ++ [sx (V % 64)] = b64To xs k ++ (four V 3).take 4 by rw [List.append_assoc]; congr 1)
            have hB2 := hb2.size
            go_wp2_with (at_builtin; refine step_append rfl rfl rfl (HO2.out.alloc _) (sl_one _ _ (sx_bd _).1 (sx_bd _).2) (by have := HNN.out; rw [List.length_append]; simp [four]; omega) (by simp; omega) ?_)
            intro v5 w5 ho5 hg5 hn5
            have hr5 := (HR2.out.below ((Below.refl _ _).alloc (Nat.le_refl _) _) HR2.out.lt).grown hg5 (HO2.out.ne HR2.out)
            have hb5 : Below w.heap.size w w5 := (hb2.alloc hB2 _).grown hg5 (by simp; omega) (fun i hi => (World.ownsRow.lt HO2.out i hi).1)
            have HO5 := hide ho5
            have HR5 := hide hr5
            clear ho5 hg5 hn5 hr5 HOJ HRJ HO2 HR2 hcj
            go_wp2
            go_roundw
            case rel => exact ⟨4, by omega, rfl, by rw [← HTK.out]; exact HO5.out, by rw [← HMX.out]; exact HR5.out, hb5⟩
            case measure => simp [intOf]
      rcases (show 3 * k + 3 = len ∨ 3 * k + 2 = len ∨ 3 * k + 1 = len by omega) with hr | hr | hr
      · have hgt : ¬ (3 : Int) < (len : Int) - 3 * (k : Int) := by omega
        have c0 := HCE.out (3 * k) (by omega)
        have b0 := HS.out.hbyte.get (3 * k)
        obtain ⟨x0, hx0⟩ : ∃ x0, x0 = xs.getD (3 * k) 0 := ⟨_, rfl⟩
        rw [← hx0] at c0 b0
        obtain ⟨b00, b01⟩ := b0
        have HX0 := hide hx0
        clear hx0
        have c1 := HCE.out (3 * k + 1) (by omega)
        have b1 := HS.out.hbyte.get (3 * k + 1)
        obtain ⟨x1, hx1⟩ : ∃ x1, x1 = xs.getD (3 * k + 1) 0 := ⟨_, rfl⟩
        rw [← hx1] at c1 b1
        obtain ⟨b10, b11⟩ := b1
        have HX1 := hide hx1
        clear hx1
        have c2 := HCE.out (3 * k + 2) (by omega)
        have b2 := HS.out.hbyte.get (3 * k + 2)
        obtain ⟨x2, hx2⟩ : ∃ x2, x2 = xs.getD (3 * k + 2) 0 := ⟨_, rfl⟩
        rw [← hx2] at c2 b2
        obtain ⟨b20, b21⟩ := b2
        have HX2 := hide hx2
        clear hx2
        go_wp2
        refine wp_loop_rounds 4 ?_
        rw [rounds_succ]
        go_wp2
        rw [rounds_succ]
        go_wp2
        rw [rounds_succ]
        go_wp2
        rw [rounds_succ]
        go_wp2
        obtain ⟨V, hV⟩ : ∃ V, V = (x0 * 256 + x1) * 256 + x2 := ⟨_, rfl⟩
        have v0 : 0 ≤ V := by omega
        have v1 : V < 16777216 := by omega
        rw [← hV]
        have HGA : Hid (grpAt xs k = four V 3) := by
          show _ = _
          rw [grpAt, num_at, HS.out.hlen, ← HX0.out, ← HX1.out, ← HX2.out]
          congr 1 <;> omega
        clear hV c0 c1 c2
        have t0 : IntKind.i64.wrap (V.tdiv 262144) = V / 262144 := by rw [Int.tdiv_eq_ediv_of_nonneg v0]; exact wrap_in _ (by omega) (by omega)
        have t1 : IntKind.i64.wrap (V.tdiv 4096) = V / 4096 := by rw [Int.tdiv_eq_ediv_of_nonneg v0]; exact wrap_in _ (by omega) (by omega)
        have t2 : IntKind.i64.wrap (V.tdiv 64) = V / 64 := by rw [Int.tdiv_eq_ediv_of_nonneg v0]; exact wrap_in _ (by omega) (by omega)
        have t3 : (V / 4096).tmod 64 = V / 4096 % 64 := Int.tmod_eq_emod_of_nonneg (by omega)
        have t4 : (V / 64).tmod 64 = V / 64 % 64 := Int.tmod_eq_emod_of_nonneg (by omega)
        have t5 : V.tmod 64 = V % 64 := Int.tmod_eq_emod_of_nonneg v0
        have T6 := hide (show V / 262144 % 64 = V / 262144 from Int.emod_eq_of_lt (by omega) (by omega))
        have q0 := sx_get (V / 262144) (by omega) (by omega) (by show _ < 64; omega)
        have l0 : (0 : Int) ≤ V / 262144 := by omega
        have m0 : V / 262144 < 64 := by omega
        have q1 := sx_get (V / 4096 % 64) (by omega) (by omega) (by show _ < 64; omega)
        have l1 : (0 : Int) ≤ V / 4096 % 64 := by omega
        have m1 : V / 4096 % 64 < 64 := by omega
        have q2 := sx_get (V / 64 % 64) (by omega) (by omega) (by show _ < 64; omega)
        have l2 : (0 : Int) ≤ V / 64 % 64 := by omega
        have m2 : V / 64 % 64 < 64 := by omega
        have q3 := sx_get (V % 64) (by omega) (by omega) (by show _ < 64; omega)
        have l3 : (0 : Int) ≤ V % 64 := by omega
        have m3 : V % 64 < 64 := by omega
        refine wp_region_noPanic ?_
        refine wp_region_held_drew (S := fun _ => True) (by kernel_rfl) trivial (fun hHeld => ?_)
        refine takeH 0 40 (.int .i64 V) hHeld rfl rfl (by kernel_rfl) (by kernel_rfl) (by kernel_rfl) (fun _ _ _ h => h) (Or.inl ⟨by rfl, fun w _ => by go_simp⟩) ?_
        simp only [Act.put, List.setIfInBounds_toArray, List.set_cons_zero, List.set_cons_succ]
        refine takeH 1 41 (.int .i64 (V / 262144)) hHeld rfl rfl (by kernel_rfl) (by kernel_rfl) (by kernel_rfl) (fun _ _ _ h => h) (Or.inl ⟨by rfl, fun w _ => by go_simp⟩) ?_
        simp only [Act.put, List.setIfInBounds_toArray, List.set_cons_zero, List.set_cons_succ]
        refine takeH 2 42 (.int .u8 (sx (V / 262144))) hHeld rfl rfl (by kernel_rfl) (by kernel_rfl) (by kernel_rfl) (fun _ _ _ h => h) (Or.inl ⟨by rfl, fun w _ => by go_simp⟩) ?_
        simp only [Act.put, List.setIfInBounds_toArray, List.set_cons_zero, List.set_cons_succ]
        refine takeH 3 43 (.int .i64 V) hHeld rfl rfl (by kernel_rfl) (by kernel_rfl) (by kernel_rfl) (fun _ _ _ h => h) (Or.inl ⟨by rfl, fun w _ => by go_simp⟩) ?_
        simp only [Act.put, List.setIfInBounds_toArray, List.set_cons_zero, List.set_cons_succ]
        refine takeH 4 44 (.int .i64 (V / 4096)) hHeld rfl rfl (by kernel_rfl) (by kernel_rfl) (by kernel_rfl) (fun _ _ _ h => h) (Or.inl ⟨by rfl, fun w _ => by go_simp⟩) ?_
        simp only [Act.put, List.setIfInBounds_toArray, List.set_cons_zero, List.set_cons_succ]
        refine takeH 5 45 (.int .i64 (V / 4096 % 64)) hHeld rfl rfl (by kernel_rfl) (by kernel_rfl) (by kernel_rfl) (fun _ _ _ h => h) (Or.inl ⟨by rfl, fun w _ => by go_simp⟩) ?_
        simp only [Act.put, List.setIfInBounds_toArray, List.set_cons_zero, List.set_cons_succ]
        refine takeH 6 46 (.int .u8 (sx (V / 4096 % 64))) hHeld rfl rfl (by kernel_rfl) (by kernel_rfl) (by kernel_rfl) (fun _ _ _ h => h) (Or.inl ⟨by rfl, fun w _ => by go_simp⟩) ?_
        simp only [Act.put, List.setIfInBounds_toArray, List.set_cons_zero, List.set_cons_succ]
        refine takeH 7 47 (.int .i64 V) hHeld rfl rfl (by kernel_rfl) (by kernel_rfl) (by kernel_rfl) (fun _ _ _ h => h) (Or.inl ⟨by rfl, fun w _ => by go_simp⟩) ?_
        simp only [Act.put, List.setIfInBounds_toArray, List.set_cons_zero, List.set_cons_succ]
        refine takeH 8 48 (.int .i64 (V / 64)) hHeld rfl rfl (by kernel_rfl) (by kernel_rfl) (by kernel_rfl) (fun _ _ _ h => h) (Or.inl ⟨by rfl, fun w _ => by go_simp⟩) ?_
        simp only [Act.put, List.setIfInBounds_toArray, List.set_cons_zero, List.set_cons_succ]
        refine takeH 9 49 (.int .i64 (V / 64 % 64)) hHeld rfl rfl (by kernel_rfl) (by kernel_rfl) (by kernel_rfl) (fun _ _ _ h => h) (Or.inl ⟨by rfl, fun w _ => by go_simp⟩) ?_
        simp only [Act.put, List.setIfInBounds_toArray, List.set_cons_zero, List.set_cons_succ]
        refine takeH 10 50 (.int .u8 (sx (V / 64 % 64))) hHeld rfl rfl (by kernel_rfl) (by kernel_rfl) (by kernel_rfl) (fun _ _ _ h => h) (Or.inl ⟨by rfl, fun w _ => by go_simp⟩) ?_
        simp only [Act.put, List.setIfInBounds_toArray, List.set_cons_zero, List.set_cons_succ]
        refine takeH 11 51 (.int .i64 V) hHeld rfl rfl (by kernel_rfl) (by kernel_rfl) (by kernel_rfl) (fun _ _ _ h => h) (Or.inl ⟨by rfl, fun w _ => by go_simp⟩) ?_
        simp only [Act.put, List.setIfInBounds_toArray, List.set_cons_zero, List.set_cons_succ]
        refine takeH 12 52 (.int .i64 (V % 64)) hHeld rfl rfl (by kernel_rfl) (by kernel_rfl) (by kernel_rfl) (fun _ _ _ h => h) (Or.inl ⟨by rfl, fun w _ => by go_simp⟩) ?_
        simp only [Act.put, List.setIfInBounds_toArray, List.set_cons_zero, List.set_cons_succ]
        refine takeH 13 53 (.int .u8 (sx (V % 64))) hHeld rfl rfl (by kernel_rfl) (by kernel_rfl) (by kernel_rfl) (fun _ _ _ h => h) (Or.inl ⟨by rfl, fun w _ => by go_simp⟩) ?_
        simp only [Act.put, List.setIfInBounds_toArray, List.set_cons_zero, List.set_cons_succ]
        refine takeH 14 54 (.agg (bs (sxs V))) hHeld rfl rfl (by kernel_rfl) (by kernel_rfl) (by kernel_rfl) (fun _ _ _ h => h) (Or.inl ⟨by rfl, fun w _ => by kernel_rfl⟩) ?_
        simp only [Act.put, List.setIfInBounds_toArray, List.set_cons_zero, List.set_cons_succ]
        refine wpAnyH_ready (rs := [15]) (by kernel_rfl) (by simp) (AllReadyH.cons rfl (fun K hK => ?_) AllReadyH.nil)
        rw [if_pos (by rfl)]
        refine wp_run (.pointer (some ⟨wr.heap.size, 0, none⟩)) (wr.drew.alloc (.cells (bs (zer 4)) 103)) (by kernel_rfl) ?_
        refine hK.out _ _ trivial (fun _ => ?_)
        clear hK K
        simp only [Act.put, List.setIfInBounds_toArray]
        have hrZ : Row (wr.drew.alloc (.cells (bs (zer 4)) 103)) wr.heap.size 103 (zer 4) := Row.made wr.drew 103 (zer 4)
        refine wpAnyH_ready (rs := [16]) (by kernel_rfl) (by simp) (AllReadyH.cons rfl (fun K hK => ?_) AllReadyH.nil)
        rw [if_pos (by rfl)]
        refine wp_store_row 103 _ _ rfl wr.heap.size (bs (sxs V)) rfl rfl 103 (bs (zer 4)) hrZ (by rw [info76]; rfl) rfl (bs_all _) ?_
        refine hK.out _ _ trivial (fun _ => ?_)
        clear hK K
        refine wpAnyH_done (by kernel_rfl) ?_ _
        refine NoPanic.normal ?_
        have hrA := hrZ.setRow (sxs V)
        have hbA : Below wr.heap.size wr ((wr.drew.alloc (.cells (bs (zer 4)) 103)).setRow wr.heap.size (bs (sxs V))) := (((Below.refl _ _).drew).alloc (Nat.le_refl _) _).trans ((But.setRow _ _ _).below (Nat.le_refl _))
        obtain ⟨wA, hwA⟩ : ∃ wA, wA = (wr.drew.alloc (.cells (bs (zer 4)) 103)).setRow wr.heap.size (bs (sxs V)) := ⟨_, rfl⟩
        rw [← hwA] at hrA hbA ⊢
        clear hwA hrZ t0 t1 t2 t3 t4 t5 q0 q1 q2 q3 l0 l1 l2 l3 m0 m1 m2 m3
        have hbW : Below w.heap.size w wA := hb.trans (hbA.mono hb.size)
        have HOA := hide (HOO.out.below hbA)
        have hgw : w.heap.size ≤ wr.heap.size := hb.size
        obtain ⟨gA, hgA⟩ : ∃ gA, gA = wr.heap.size := ⟨_, rfl⟩
        rw [← hgA] at hrA hgw ⊢
        clear hgA hbA HOO HCE hb hB
        have HNN := hide (show (b64To xs k).length + 5 ≤ 140737488355328 by rw [b64To_length]; omega)
        go_wp2
        go_loopw [3, 9] (fun v i wz => ∃ j : Nat, j ≤ 4 ∧ i = .int .i64 j ∧ Own wz w.heap.size v (b64To xs k ++ (four V 3).take j) ∧ Row wz gA 103 (mix V 3 j) ∧ Below w.heap.size w wz) (fun _ i _ => 4 - (intOf i).toNat)
        case atStart => exact ⟨0, by omega, rfl, by simpa using HOA.out, hrA, hbW⟩
        case round =>
          obtain ⟨j, hj, rfl, hoj, hrj, hbj⟩ := hrel
          have HOJ := hide hoj
          have HRJ := hide hrj
          have hBj := hbj.size
          clear hoj hrj HOA hrA hbW
          rcases (show j = 4 ∨ j = 0 ∨ j = 1 ∨ j = 2 ∨ j = 3 by omega) with rfl | rfl | rfl | rfl | rfl
          · go_wp2
            go_roundw
            case rel => exact ⟨k + 1, by omega, by go_num, by rw [b64To_succ, HGA.out]; exact HOJ.out, hbj⟩
            case measure => simp [intOf]; omega
          · have hcj : wr.cell? ⟨gA, 0, none⟩ = some (.int .u8 (sx (V / 262144))) := HRJ.out.cell 0 (by simp [mix, four, sxs])
            have HR2 := HRJ
            have HO2 := HOJ
            have hb2 := hbj
            have HMX := hide (show mix V 3 0 = mix V 3 1 by simp [mix, four, sxs, T6.out])
            have HTK := hide (show b64To xs k ++ (four V 3).take 0 ++ [sx (V / 262144)] = b64To xs k ++ (four V 3).take 1 by rw [List.append_assoc]; congr 1; simp [four, T6.out])
            have hB2 := hb2.size
            go_wp2_with (at_builtin; refine step_append rfl rfl rfl (HO2.out.alloc _) (sl_one _ _ (sx_bd _).1 (sx_bd _).2) (by have := HNN.out; rw [List.length_append]; simp [four]; omega) (by simp; omega) ?_)
            intro v5 w5 ho5 hg5 hn5
            have hr5 := (HR2.out.below ((Below.refl _ _).alloc (Nat.le_refl _) _) HR2.out.lt).grown hg5 (HO2.out.ne HR2.out)
            have hb5 : Below w.heap.size w w5 := (hb2.alloc hB2 _).grown hg5 (by simp; omega) (fun i hi => (World.ownsRow.lt HO2.out i hi).1)
            have HO5 := hide ho5
            have HR5 := hide hr5
            clear ho5 hg5 hn5 hr5 HOJ HRJ HO2 HR2 hcj
            go_wp2
            go_roundw
            case rel => exact ⟨1, by omega, rfl, by rw [← HTK.out]; exact HO5.out, by rw [← HMX.out]; exact HR5.out, hb5⟩
            case measure => simp [intOf]
          · have hcj : wr.cell? ⟨gA, 1, none⟩ = some (.int .u8 (sx (V / 4096 % 64))) := HRJ.out.cell 1 (by simp [mix, four, sxs])
            have HR2 := HRJ
            have HO2 := HOJ
            have hb2 := hbj
            have HMX := hide (show mix V 3 1 = mix V 3 2 by simp [mix, four, sxs])
            have HTK := hide (show b64To xs k ++ (four V 3).take 1 ++ [sx (V / 4096 % 64)] = b64To xs k ++ (four V 3).take 2 by rw [List.append_assoc]; congr 1)
            have hB2 := hb2.size
            go_wp2_with (at_builtin; refine step_append rfl rfl rfl (HO2.out.alloc _) (sl_one _ _ (sx_bd _).1 (sx_bd _).2) (by have := HNN.out; rw [List.length_append]; simp [four]; omega) (by simp; omega) ?_)
            intro v5 w5 ho5 hg5 hn5
            have hr5 := (HR2.out.below ((Below.refl _ _).alloc (Nat.le_refl _) _) HR2.out.lt).grown hg5 (HO2.out.ne HR2.out)
            have hb5 : Below w.heap.size w w5 := (hb2.alloc hB2 _).grown hg5 (by simp; omega) (fun i hi => (World.ownsRow.lt HO2.out i hi).1)
            have HO5 := hide ho5
            have HR5 := hide hr5
            clear ho5 hg5 hn5 hr5 HOJ HRJ HO2 HR2 hcj
            go_wp2
            go_roundw
            case rel => exact ⟨2, by omega, rfl, by rw [← HTK.out]; exact HO5.out, by rw [← HMX.out]; exact HR5.out, hb5⟩
            case measure => simp [intOf]
          · have hcj : wr.cell? ⟨gA, 2, none⟩ = some (.int .u8 (sx (V / 64 % 64))) := HRJ.out.cell 2 (by simp [mix, four, sxs])
            have HR2 := HRJ
            have HO2 := HOJ
            have hb2 := hbj
            have HMX := hide (show mix V 3 2 = mix V 3 3 by simp [mix, four, sxs])
            have HTK := hide (show b64To xs k ++ (four V 3).take 2 ++ [sx (V / 64 % 64)] = b64To xs k ++ (four V 3).take 3 by rw [List.append_assoc]; congr 1)
            have hB2 := hb2.size
            go_wp2_with (at_builtin; refine step_append rfl rfl rfl (HO2.out.alloc _) (sl_one _ _ (sx_bd _).1 (sx_bd _).2) (by have := HNN.out; rw [List.length_append]; simp [four]; omega) (by simp; omega) ?_)
            intro v5 w5 ho5 hg5 hn5
            have hr5 := (HR2.out.below ((Below.refl _ _).alloc (Nat.le_refl _) _) HR2.out.lt).grown hg5 (HO2.out.ne HR2.out)
            have hb5 : Below w.heap.size w w5 := (hb2.alloc hB2 _).grown hg5 (by simp; omega) (fun i hi => (World.ownsRow.lt HO2.out i hi).1)
            have HO5 := hide ho5
            have HR5 := hide hr5
            clear ho5 hg5 hn5 hr5 HOJ HRJ HO2 HR2 hcj
            go_wp2
            go_roundw
            case rel => exact ⟨3, by omega, rfl, by rw [← HTK.out]; exact HO5.out, by rw [← HMX.out]; exact HR5.out, hb5⟩
            case measure => simp [intOf]
          · have hcj : wr.cell? ⟨gA, 3, none⟩ = some (.int .u8 (sx (V % 64))) := HRJ.out.cell 3 (by simp [mix, four, sxs])
            have HR2 := HRJ
            have HO2 := HOJ
            have hb2 := hbj
            have HMX := hide (show mix V 3 3 = mix V 3 4 by simp [mix, four, sxs])
            have HTK := hide (show b64To xs k ++ (four V 3).take 3 ++ [sx (V % 64)] = b64To xs k ++ (four V 3).take 4 by rw [List.append_assoc]; congr 1)
            have hB2 := hb2.size
            go_wp2_with (at_builtin; refine step_append rfl rfl rfl (HO2.out.alloc _) (sl_one _ _ (sx_bd _).1 (sx_bd _).2) (by have := HNN.out; rw [List.length_append]; simp [four]; omega) (by simp; omega) ?_)
            intro v5 w5 ho5 hg5 hn5
            have hr5 := (HR2.out.below ((Below.refl _ _).alloc (Nat.le_refl _) _) HR2.out.lt).grown hg5 (HO2.out.ne HR2.out)
            have hb5 : Below w.heap.size w w5 := (hb2.alloc hB2 _).grown hg5 (by simp; omega) (fun i hi => (World.ownsRow.lt HO2.out i hi).1)
            have HO5 := hide ho5
            have HR5 := hide hr5
            clear ho5 hg5 hn5 hr5 HOJ HRJ HO2 HR2 hcj
            go_wp2
            go_roundw
            case rel => exact ⟨4, by omega, rfl, by rw [← HTK.out]; exact HO5.out, by rw [← HMX.out]; exact HR5.out, hb5⟩
            case measure => simp [intOf]
      · have hgt : ¬ (3 : Int) < (len : Int) - 3 * (k : Int) := by omega
        have c0 := HCE.out (3 * k) (by omega)
        have b0 := HS.out.hbyte.get (3 * k)
        obtain ⟨x0, hx0⟩ : ∃ x0, x0 = xs.getD (3 * k) 0 := ⟨_, rfl⟩
        rw [← hx0] at c0 b0
        obtain ⟨b00, b01⟩ := b0
        have HX0 := hide hx0
        clear hx0
        have c1 := HCE.out (3 * k + 1) (by omega)
        have b1 := HS.out.hbyte.get (3 * k + 1)
        obtain ⟨x1, hx1⟩ : ∃ x1, x1 = xs.getD (3 * k + 1) 0 := ⟨_, rfl⟩
        rw [← hx1] at c1 b1
        obtain ⟨b10, b11⟩ := b1
        have HX1 := hide hx1
        clear hx1
        have HX2 := hide (getD_out xs (3 * k + 2) (by rw [HS.out.hlen]; omega))
        go_wp2
        refine wp_loop_rounds 4 ?_
        rw [rounds_succ]
        go_wp2
        rw [rounds_succ]
        go_wp2
        rw [rounds_succ]
        go_wp2
        rw [rounds_succ]
        go_wp2
        obtain ⟨V, hV⟩ : ∃ V, V = (x0 * 256 + x1) * 256 := ⟨_, rfl⟩
        have v0 : 0 ≤ V := by omega
        have v1 : V < 16777216 := by omega
        rw [← hV]
        have HGA : Hid (grpAt xs k = four V 2) := by
          show _ = _
          rw [grpAt, num_at, HS.out.hlen, ← HX0.out, ← HX1.out, HX2.out]
          congr 1 <;> omega
        clear hV c0 c1
        have t0 : IntKind.i64.wrap (V.tdiv 262144) = V / 262144 := by rw [Int.tdiv_eq_ediv_of_nonneg v0]; exact wrap_in _ (by omega) (by omega)
        have t1 : IntKind.i64.wrap (V.tdiv 4096) = V / 4096 := by rw [Int.tdiv_eq_ediv_of_nonneg v0]; exact wrap_in _ (by omega) (by omega)
        have t2 : IntKind.i64.wrap (V.tdiv 64) = V / 64 := by rw [Int.tdiv_eq_ediv_of_nonneg v0]; exact wrap_in _ (by omega) (by omega)
        have t3 : (V / 4096).tmod 64 = V / 4096 % 64 := Int.tmod_eq_emod_of_nonneg (by omega)
        have t4 : (V / 64).tmod 64 = V / 64 % 64 := Int.tmod_eq_emod_of_nonneg (by omega)
        have t5 : V.tmod 64 = V % 64 := Int.tmod_eq_emod_of_nonneg v0
        have T6 := hide (show V / 262144 % 64 = V / 262144 from Int.emod_eq_of_lt (by omega) (by omega))
        have q0 := sx_get (V / 262144) (by omega) (by omega) (by show _ < 64; omega)
        have l0 : (0 : Int) ≤ V / 262144 := by omega
        have m0 : V / 262144 < 64 := by omega
        have q1 := sx_get (V / 4096 % 64) (by omega) (by omega) (by show _ < 64; omega)
        have l1 : (0 : Int) ≤ V / 4096 % 64 := by omega
        have m1 : V / 4096 % 64 < 64 := by omega
        have q2 := sx_get (V / 64 % 64) (by omega) (by omega) (by show _ < 64; omega)
        have l2 : (0 : Int) ≤ V / 64 % 64 := by omega
        have m2 : V / 64 % 64 < 64 := by omega
        have q3 := sx_get (V % 64) (by omega) (by omega) (by show _ < 64; omega)
        have l3 : (0 : Int) ≤ V % 64 := by omega
        have m3 : V % 64 < 64 := by omega
        refine wp_region_noPanic ?_
        refine wp_region_held_drew (S := fun _ => True) (by kernel_rfl) trivial (fun hHeld => ?_)
        refine takeH 0 40 (.int .i64 V) hHeld rfl rfl (by kernel_rfl) (by kernel_rfl) (by kernel_rfl) (fun _ _ _ h => h) (Or.inl ⟨by rfl, fun w _ => by go_simp⟩) ?_
        simp only [Act.put, List.setIfInBounds_toArray, List.set_cons_zero, List.set_cons_succ]
        refine takeH 1 41 (.int .i64 (V / 262144)) hHeld rfl rfl (by kernel_rfl) (by kernel_rfl) (by kernel_rfl) (fun _ _ _ h => h) (Or.inl ⟨by rfl, fun w _ => by go_simp⟩) ?_
        simp only [Act.put, List.setIfInBounds_toArray, List.set_cons_zero, List.set_cons_succ]
        refine takeH 2 42 (.int .u8 (sx (V / 262144))) hHeld rfl rfl (by kernel_rfl) (by kernel_rfl) (by kernel_rfl) (fun _ _ _ h => h) (Or.inl ⟨by rfl, fun w _ => by go_simp⟩) ?_
        simp only [Act.put, List.setIfInBounds_toArray, List.set_cons_zero, List.set_cons_succ]
        refine takeH 3 43 (.int .i64 V) hHeld rfl rfl (by kernel_rfl) (by kernel_rfl) (by kernel_rfl) (fun _ _ _ h => h) (Or.inl ⟨by rfl, fun w _ => by go_simp⟩) ?_
        simp only [Act.put, List.setIfInBounds_toArray, List.set_cons_zero, List.set_cons_succ]
        refine takeH 4 44 (.int .i64 (V / 4096)) hHeld rfl rfl (by kernel_rfl) (by kernel_rfl) (by kernel_rfl) (fun _ _ _ h => h) (Or.inl ⟨by rfl, fun w _ => by go_simp⟩) ?_
        simp only [Act.put, List.setIfInBounds_toArray, List.set_cons_zero, List.set_cons_succ]
        refine takeH 5 45 (.int .i64 (V / 4096 % 64)) hHeld rfl rfl (by kernel_rfl) (by kernel_rfl) (by kernel_rfl) (fun _ _ _ h => h) (Or.inl ⟨by rfl, fun w _ => by go_simp⟩) ?_
        simp only [Act.put, List.setIfInBounds_toArray, List.set_cons_zero, List.set_cons_succ]
        refine takeH 6 46 (.int .u8 (sx (V / 4096 % 64))) hHeld rfl rfl (by kernel_rfl) (by kernel_rfl) (by kernel_rfl) (fun _ _ _ h => h) (Or.inl ⟨by rfl, fun w _ => by go_simp⟩) ?_
        simp only [Act.put, List.setIfInBounds_toArray, List.set_cons_zero, List.set_cons_succ]
        refine takeH 7 47 (.int .i64 V) hHeld rfl rfl (by kernel_rfl) (by kernel_rfl) (by kernel_rfl) (fun _ _ _ h => h) (Or.inl ⟨by rfl, fun w _ => by go_simp⟩) ?_
        simp only [Act.put, List.setIfInBounds_toArray, List.set_cons_zero, List.set_cons_succ]
        refine takeH 8 48 (.int .i64 (V / 64)) hHeld rfl rfl (by kernel_rfl) (by kernel_rfl) (by kernel_rfl) (fun _ _ _ h => h) (Or.inl ⟨by rfl, fun w _ => by go_simp⟩) ?_
        simp only [Act.put, List.setIfInBounds_toArray, List.set_cons_zero, List.set_cons_succ]
        refine takeH 9 49 (.int .i64 (V / 64 % 64)) hHeld rfl rfl (by kernel_rfl) (by kernel_rfl) (by kernel_rfl) (fun _ _ _ h => h) (Or.inl ⟨by rfl, fun w _ => by go_simp⟩) ?_
        simp only [Act.put, List.setIfInBounds_toArray, List.set_cons_zero, List.set_cons_succ]
        refine takeH 10 50 (.int .u8 (sx (V / 64 % 64))) hHeld rfl rfl (by kernel_rfl) (by kernel_rfl) (by kernel_rfl) (fun _ _ _ h => h) (Or.inl ⟨by rfl, fun w _ => by go_simp⟩) ?_
        simp only [Act.put, List.setIfInBounds_toArray, List.set_cons_zero, List.set_cons_succ]
        refine takeH 11 51 (.int .i64 V) hHeld rfl rfl (by kernel_rfl) (by kernel_rfl) (by kernel_rfl) (fun _ _ _ h => h) (Or.inl ⟨by rfl, fun w _ => by go_simp⟩) ?_
        simp only [Act.put, List.setIfInBounds_toArray, List.set_cons_zero, List.set_cons_succ]
        refine takeH 12 52 (.int .i64 (V % 64)) hHeld rfl rfl (by kernel_rfl) (by kernel_rfl) (by kernel_rfl) (fun _ _ _ h => h) (Or.inl ⟨by rfl, fun w _ => by go_simp⟩) ?_
        simp only [Act.put, List.setIfInBounds_toArray, List.set_cons_zero, List.set_cons_succ]
        refine takeH 13 53 (.int .u8 (sx (V % 64))) hHeld rfl rfl (by kernel_rfl) (by kernel_rfl) (by kernel_rfl) (fun _ _ _ h => h) (Or.inl ⟨by rfl, fun w _ => by go_simp⟩) ?_
        simp only [Act.put, List.setIfInBounds_toArray, List.set_cons_zero, List.set_cons_succ]
        refine takeH 14 54 (.agg (bs (sxs V))) hHeld rfl rfl (by kernel_rfl) (by kernel_rfl) (by kernel_rfl) (fun _ _ _ h => h) (Or.inl ⟨by rfl, fun w _ => by kernel_rfl⟩) ?_
        simp only [Act.put, List.setIfInBounds_toArray, List.set_cons_zero, List.set_cons_succ]
        refine wpAnyH_ready (rs := [15]) (by kernel_rfl) (by simp) (AllReadyH.cons rfl (fun K hK => ?_) AllReadyH.nil)
        rw [if_pos (by rfl)]
        refine wp_run (.pointer (some ⟨wr.heap.size, 0, none⟩)) (wr.drew.alloc (.cells (bs (zer 4)) 103)) (by kernel_rfl) ?_
        refine hK.out _ _ trivial (fun _ => ?_)
        clear hK K
        simp only [Act.put, List.setIfInBounds_toArray]
        have hrZ : Row (wr.drew.alloc (.cells (bs (zer 4)) 103)) wr.heap.size 103 (zer 4) := Row.made wr.drew 103 (zer 4)
        refine wpAnyH_ready (rs := [16]) (by kernel_rfl) (by simp) (AllReadyH.cons rfl (fun K hK => ?_) AllReadyH.nil)
        rw [if_pos (by rfl)]
        refine wp_store_row 103 _ _ rfl wr.heap.size (bs (sxs V)) rfl rfl 103 (bs (zer 4)) hrZ (by rw [info76]; rfl) rfl (bs_all _) ?_
        refine hK.out _ _ trivial (fun _ => ?_)
        clear hK K
        refine wpAnyH_done (by kernel_rfl) ?_ _
        refine NoPanic.normal ?_
        have hrA := hrZ.setRow (sxs V)
        have hbA : Below wr.heap.size wr ((wr.drew.alloc (.cells (bs (zer 4)) 103)).setRow wr.heap.size (bs (sxs V))) := (((Below.refl _ _).drew).alloc (Nat.le_refl _) _).trans ((But.setRow _ _ _).below (Nat.le_refl _))
        obtain ⟨wA, hwA⟩ : ∃ wA, wA = (wr.drew.alloc (.cells (bs (zer 4)) 103)).setRow wr.heap.size (bs (sxs V)) := ⟨_, rfl⟩
        rw [← hwA] at hrA hbA ⊢
        clear hwA hrZ t0 t1 t2 t3 t4 t5 q0 q1 q2 q3 l0 l1 l2 l3 m0 m1 m2 m3
        have hbW : Below w.heap.size w wA := hb.trans (hbA.mono hb.size)
        have HOA := hide (HOO.out.below hbA)
        have hgw : w.heap.size ≤ wr.heap.size := hb.size
        obtain ⟨gA, hgA⟩ : ∃ gA, gA = wr.heap.size := ⟨_, rfl⟩
        rw [← hgA] at hrA hgw ⊢
        clear hgA hbA HOO HCE hb hB
        have HNN := hide (show (b64To xs k).length + 5 ≤ 140737488355328 by rw [b64To_length]; omega)
        go_wp2
        go_loopw [3, 9] (fun v i wz => ∃ j : Nat, j ≤ 4 ∧ i = .int .i64 j ∧ Own wz w.heap.size v (b64To xs k ++ (four V 2).take j) ∧ Row wz gA 103 (mix V 2 j) ∧ Below w.heap.size w wz) (fun _ i _ => 4 - (intOf i).toNat)
        case atStart => exact ⟨0, by omega, rfl, by simpa using HOA.out, hrA, hbW⟩
        case round =>
          obtain ⟨j, hj, rfl, hoj, hrj, hbj⟩ := hrel
          have HOJ := hide hoj
          have HRJ := hide hrj
          have hBj := hbj.size
          clear hoj hrj HOA hrA hbW
          rcases (show j = 4 ∨ j = 0 ∨ j = 1 ∨ j = 2 ∨ j = 3 by omega) with rfl | rfl | rfl | rfl | rfl
          · go_wp2
            go_roundw
            case rel => exact ⟨k + 1, by omega, by go_num, by rw [b64To_succ, HGA.out]; exact HOJ.out, hbj⟩
            case measure => simp [intOf]; omega
          · have hcj : wr.cell? ⟨gA, 0, none⟩ = some (.int .u8 (sx (V / 262144))) := HRJ.out.cell 0 (by simp [mix, four, sxs])
            have HR2 := HRJ
            have HO2 := HOJ
            have hb2 := hbj
            have HMX := hide (show mix V 2 0 = mix V 2 1 by simp [mix, four, sxs, T6.out])
            have HTK := hide (show b64To xs k ++ (four V 2).take 0 ++ [sx (V / 262144)] = b64To xs k ++ (four V 2).take 1 by rw [List.append_assoc]; congr 1; simp [four, T6.out])
            have hB2 := hb2.size
            go_wp2_with (at_builtin; refine step_append rfl rfl rfl (HO2.out.alloc _) (sl_one _ _ (sx_bd _).1 (sx_bd _).2) (by have := HNN.out; rw [List.length_append]; simp [four]; omega) (by simp; omega) ?_)
            intro v5 w5 ho5 hg5 hn5
            have hr5 := (HR2.out.below ((Below.refl _ _).alloc (Nat.le_refl _) _) HR2.out.lt).grown hg5 (HO2.out.ne HR2.out)
            have hb5 : Below w.heap.size w w5 := (hb2.alloc hB2 _).grown hg5 (by simp; omega) (fun i hi => (World.ownsRow.lt HO2.out i hi).1)
            have HO5 := hide ho5
            have HR5 := hide hr5
            clear ho5 hg5 hn5 hr5 HOJ HRJ HO2 HR2 hcj
            go_wp2
            go_roundw
            case rel => exact ⟨1, by omega, rfl, by rw [← HTK.out]; exact HO5.out, by rw [← HMX.out]; exact HR5.out, hb5⟩
            case measure => simp [intOf]
          · have hcj : wr.cell? ⟨gA, 1, none⟩ = some (.int .u8 (sx (V / 4096 % 64))) := HRJ.out.cell 1 (by simp [mix, four, sxs])
            have HR2 := HRJ
            have HO2 := HOJ
            have hb2 := hbj
            have HMX := hide (show mix V 2 1 = mix V 2 2 by simp [mix, four, sxs])
            have HTK := hide (show b64To xs k ++ (four V 2).take 1 ++ [sx (V / 4096 % 64)] = b64To xs k ++ (four V 2).take 2 by rw [List.append_assoc]; congr 1)
            have hB2 := hb2.size
            go_wp2_with (at_builtin; refine step_append rfl rfl rfl (HO2.out.alloc _) (sl_one _ _ (sx_bd _).1 (sx_bd _).2) (by have := HNN.out; rw [List.length_append]; simp [four]; omega) (by simp; omega) ?_)
            intro v5 w5 ho5 hg5 hn5
            have hr5 := (HR2.out.below ((Below.refl _ _).alloc (Nat.le_refl _) _) HR2.out.lt).grown hg5 (HO2.out.ne HR2.out)
            have hb5 : Below w.heap.size w w5 := (hb2.alloc hB2 _).grown hg5 (by simp; omega) (fun i hi => (World.ownsRow.lt HO2.out i hi).1)
            have HO5 := hide ho5
            have HR5 := hide hr5
            clear ho5 hg5 hn5 hr5 HOJ HRJ HO2 HR2 hcj
            go_wp2
            go_roundw
            case rel => exact ⟨2, by omega, rfl, by rw [← HTK.out]; exact HO5.out, by rw [← HMX.out]; exact HR5.out, hb5⟩
            case measure => simp [intOf]
          · have hcj : wr.cell? ⟨gA, 2, none⟩ = some (.int .u8 (sx (V / 64 % 64))) := HRJ.out.cell 2 (by simp [mix, four, sxs])
            have HR2 := HRJ
            have HO2 := HOJ
            have hb2 := hbj
            have HMX := hide (show mix V 2 2 = mix V 2 3 by simp [mix, four, sxs])
            have HTK := hide (show b64To xs k ++ (four V 2).take 2 ++ [sx (V / 64 % 64)] = b64To xs k ++ (four V 2).take 3 by rw [List.append_assoc]; congr 1)
            have hB2 := hb2.size
            go_wp2_with (at_builtin; refine step_append rfl rfl rfl (HO2.out.alloc _) (sl_one _ _ (sx_bd _).1 (sx_bd _).2) (by have := HNN.out; rw [List.length_append]; simp [four]; omega) (by simp; omega) ?_)
            intro v5 w5 ho5 hg5 hn5
            have hr5 := (HR2.out.below ((Below.refl _ _).alloc (Nat.le_refl _) _) HR2.out.lt).grown hg5 (HO2.out.ne HR2.out)
            have hb5 : Below w.heap.size w w5 := (hb2.alloc hB2 _).grown hg5 (by simp; omega) (fun i hi => (World.ownsRow.lt HO2.out i hi).1)
            have HO5 := hide ho5
            have HR5 := hide hr5
            clear ho5 hg5 hn5 hr5 HOJ HRJ HO2 HR2 hcj
            go_wp2
            go_roundw
            case rel => exact ⟨3, by omega, rfl, by rw [← HTK.out]; exact HO5.out, by rw [← HMX.out]; exact HR5.out, hb5⟩
            case measure => simp [intOf]
          · have hcj := HRJ.out.cell 3 (by simp [mix, four, sxs])
            have hfj := HRJ.out.free 3
            have HSL : Hid (Sl ((wr.setCell ⟨gA, 3, none⟩ (.int .u8 61)).alloc (.cells #[.int .u8 61] 5)) (some ⟨wr.heap.size, 0, none⟩) 1 1 [61]) := by
              have h := sl_one (wr.setCell ⟨gA, 3, none⟩ (.int .u8 61)) 61 (by decide) (by decide)
              have e : (wr.setCell ⟨gA, 3, none⟩ (.int .u8 61)).heap.size = wr.heap.size := by simp [World.setCell]
              rw [e] at h
              exact h
            have HB2 := hide (But.setCell wr gA 3 (.int .u8 61))
            have HR2 := hide (HRJ.out.set 3 61)
            have HO2 := hide (HOJ.out.but HB2.out (HOJ.out.ne HRJ.out))
            have hb2 := hbj.trans (HB2.out.below hgw)
            have HMX := hide (show (mix V 2 3).set 3 61 = mix V 2 4 by simp [mix, four, sxs])
            have HTK := hide (show b64To xs k ++ (four V 2).take 3 ++ [61] = b64To xs k ++ (four V 2).take 4 by rw [List.append_assoc]; congr 1)
            have hB2 := hb2.size
            go_wp2_with (at_builtin; refine step_append rfl rfl rfl (HO2.out.alloc _) HSL.out (by have := HNN.out; rw [List.length_append]; simp [four]; omega) (by simp; omega) ?_)
            intro v5 w5 ho5 hg5 hn5
            have hr5 := (HR2.out.below ((Below.refl _ _).alloc (Nat.le_refl _) _) HR2.out.lt).grown hg5 (HO2.out.ne HR2.out)
            have hb5 : Below w.heap.size w w5 := (hb2.alloc hB2 _).grown hg5 (by simp; omega) (fun i hi => (World.ownsRow.lt HO2.out i hi).1)
            have HO5 := hide ho5
            have HR5 := hide hr5
            clear ho5 hg5 hn5 hr5 HOJ HRJ HO2 HR2 hcj hfj HB2
            go_wp2
            go_roundw
            case rel => exact ⟨4, by omega, rfl, by rw [← HTK.out]; exact HO5.out, by rw [← HMX.out]; exact HR5.out, hb5⟩
            case measure => simp [intOf]
      · have hgt : ¬ (3 : Int) < (len : Int) - 3 * (k : Int) := by omega
        have c0 := HCE.out (3 * k) (by omega)
        have b0 := HS.out.hbyte.get (3 * k)
        obtain ⟨x0, hx0⟩ : ∃ x0, x0 = xs.getD (3 * k) 0 := ⟨_, rfl⟩
        rw [← hx0] at c0 b0
        obtain ⟨b00, b01⟩ := b0
        have HX0 := hide hx0
        clear hx0
        have HX1 := hide (getD_out xs (3 * k + 1) (by rw [HS.out.hlen]; omega))
        have HX2 := hide (getD_out xs (3 * k + 2) (by rw [HS.out.hlen]; omega))
        go_wp2
        refine wp_loop_rounds 4 ?_
        rw [rounds_succ]
        go_wp2
        rw [rounds_succ]
        go_wp2
        rw [rounds_succ]
        go_wp2
        rw [rounds_succ]
        go_wp2
        obtain ⟨V, hV⟩ : ∃ V, V = x0 * 256 * 256 := ⟨_, rfl⟩
        have v0 : 0 ≤ V := by omega
        have v1 : V < 16777216 := by omega
        rw [← hV]
        have HGA : Hid (grpAt xs k = four V 1) := by
          show _ = _
          rw [grpAt, num_at, HS.out.hlen, ← HX0.out, HX1.out, HX2.out]
          congr 1 <;> omega
        clear hV c0
        have t0 : IntKind.i64.wrap (V.tdiv 262144) = V / 262144 := by rw [Int.tdiv_eq_ediv_of_nonneg v0]; exact wrap_in _ (by omega) (by omega)
        have t1 : IntKind.i64.wrap (V.tdiv 4096) = V / 4096 := by rw [Int.tdiv_eq_ediv_of_nonneg v0]; exact wrap_in _ (by omega) (by omega)
        have t2 : IntKind.i64.wrap (V.tdiv 64) = V / 64 := by rw [Int.tdiv_eq_ediv_of_nonneg v0]; exact wrap_in _ (by omega) (by omega)
        have t3 : (V / 4096).tmod 64 = V / 4096 % 64 := Int.tmod_eq_emod_of_nonneg (by omega)
        have t4 : (V / 64).tmod 64 = V / 64 % 64 := Int.tmod_eq_emod_of_nonneg (by omega)
        have t5 : V.tmod 64 = V % 64 := Int.tmod_eq_emod_of_nonneg v0
        have T6 := hide (show V / 262144 % 64 = V / 262144 from Int.emod_eq_of_lt (by omega) (by omega))
        have q0 := sx_get (V / 262144) (by omega) (by omega) (by show _ < 64; omega)
        have l0 : (0 : Int) ≤ V / 262144 := by omega
        have m0 : V / 262144 < 64 := by omega
        have q1 := sx_get (V / 4096 % 64) (by omega) (by omega) (by show _ < 64; omega)
        have l1 : (0 : Int) ≤ V / 4096 % 64 := by omega
        have m1 : V / 4096 % 64 < 64 := by omega
        have q2 := sx_get (V / 64 % 64) (by omega) (by omega) (by show _ < 64; omega)
        have l2 : (0 : Int) ≤ V / 64 % 64 := by omega
        have m2 : V / 64 % 64 < 64 := by omega
        have q3 := sx_get (V % 64) (by omega) (by omega) (by show _ < 64; omega)
        have l3 : (0 : Int) ≤ V % 64 := by omega
        have m3 : V % 64 < 64 := by omega
        refine wp_region_noPanic ?_
        refine wp_region_held_drew (S := fun _ => True) (by kernel_rfl) trivial (fun hHeld => ?_)
        refine takeH 0 40 (.int .i64 V) hHeld rfl rfl (by kernel_rfl) (by kernel_rfl) (by kernel_rfl) (fun _ _ _ h => h) (Or.inl ⟨by rfl, fun w _ => by go_simp⟩) ?_
        simp only [Act.put, List.setIfInBounds_toArray, List.set_cons_zero, List.set_cons_succ]
        refine takeH 1 41 (.int .i64 (V / 262144)) hHeld rfl rfl (by kernel_rfl) (by kernel_rfl) (by kernel_rfl) (fun _ _ _ h => h) (Or.inl ⟨by rfl, fun w _ => by go_simp⟩) ?_
        simp only [Act.put, List.setIfInBounds_toArray, List.set_cons_zero, List.set_cons_succ]
        refine takeH 2 42 (.int .u8 (sx (V / 262144))) hHeld rfl rfl (by kernel_rfl) (by kernel_rfl) (by kernel_rfl) (fun _ _ _ h => h) (Or.inl ⟨by rfl, fun w _ => by go_simp⟩) ?_
        simp only [Act.put, List.setIfInBounds_toArray, List.set_cons_zero, List.set_cons_succ]
        refine takeH 3 43 (.int .i64 V) hHeld rfl rfl (by kernel_rfl) (by kernel_rfl) (by kernel_rfl) (fun _ _ _ h => h) (Or.inl ⟨by rfl, fun w _ => by go_simp⟩) ?_
        simp only [Act.put, List.setIfInBounds_toArray, List.set_cons_zero, List.set_cons_succ]
        refine takeH 4 44 (.int .i64 (V / 4096)) hHeld rfl rfl (by kernel_rfl) (by kernel_rfl) (by kernel_rfl) (fun _ _ _ h => h) (Or.inl ⟨by rfl, fun w _ => by go_simp⟩) ?_
        simp only [Act.put, List.setIfInBounds_toArray, List.set_cons_zero, List.set_cons_succ]
        refine takeH 5 45 (.int .i64 (V / 4096 % 64)) hHeld rfl rfl (by kernel_rfl) (by kernel_rfl) (by kernel_rfl) (fun _ _ _ h => h) (Or.inl ⟨by rfl, fun w _ => by go_simp⟩) ?_
        simp only [Act.put, List.setIfInBounds_toArray, List.set_cons_zero, List.set_cons_succ]
        refine takeH 6 46 (.int .u8 (sx (V / 4096 % 64))) hHeld rfl rfl (by kernel_rfl) (by kernel_rfl) (by kernel_rfl) (fun _ _ _ h => h) (Or.inl ⟨by rfl, fun w _ => by go_simp⟩) ?_
        simp only [Act.put, List.setIfInBounds_toArray, List.set_cons_zero, List.set_cons_succ]
        refine takeH 7 47 (.int .i64 V) hHeld rfl rfl (by kernel_rfl) (by kernel_rfl) (by kernel_rfl) (fun _ _ _ h => h) (Or.inl ⟨by rfl, fun w _ => by go_simp⟩) ?_
        simp only [Act.put, List.setIfInBounds_toArray, List.set_cons_zero, List.set_cons_succ]
        refine takeH 8 48 (.int .i64 (V / 64)) hHeld rfl rfl (by kernel_rfl) (by kernel_rfl) (by kernel_rfl) (fun _ _ _ h => h) (Or.inl ⟨by rfl, fun w _ => by go_simp⟩) ?_
        simp only [Act.put, List.setIfInBounds_toArray, List.set_cons_zero, List.set_cons_succ]
        refine takeH 9 49 (.int .i64 (V / 64 % 64)) hHeld rfl rfl (by kernel_rfl) (by kernel_rfl) (by kernel_rfl) (fun _ _ _ h => h) (Or.inl ⟨by rfl, fun w _ => by go_simp⟩) ?_
        simp only [Act.put, List.setIfInBounds_toArray, List.set_cons_zero, List.set_cons_succ]
        refine takeH 10 50 (.int .u8 (sx (V / 64 % 64))) hHeld rfl rfl (by kernel_rfl) (by kernel_rfl) (by kernel_rfl) (fun _ _ _ h => h) (Or.inl ⟨by rfl, fun w _ => by go_simp⟩) ?_
        simp only [Act.put, List.setIfInBounds_toArray, List.set_cons_zero, List.set_cons_succ]
        refine takeH 11 51 (.int .i64 V) hHeld rfl rfl (by kernel_rfl) (by kernel_rfl) (by kernel_rfl) (fun _ _ _ h => h) (Or.inl ⟨by rfl, fun w _ => by go_simp⟩) ?_
        simp only [Act.put, List.setIfInBounds_toArray, List.set_cons_zero, List.set_cons_succ]
        refine takeH 12 52 (.int .i64 (V % 64)) hHeld rfl rfl (by kernel_rfl) (by kernel_rfl) (by kernel_rfl) (fun _ _ _ h => h) (Or.inl ⟨by rfl, fun w _ => by go_simp⟩) ?_
        simp only [Act.put, List.setIfInBounds_toArray, List.set_cons_zero, List.set_cons_succ]
        refine takeH 13 53 (.int .u8 (sx (V % 64))) hHeld rfl rfl (by kernel_rfl) (by kernel_rfl) (by kernel_rfl) (fun _ _ _ h => h) (Or.inl ⟨by rfl, fun w _ => by go_simp⟩) ?_
        simp only [Act.put, List.setIfInBounds_toArray, List.set_cons_zero, List.set_cons_succ]
        refine takeH 14 54 (.agg (bs (sxs V))) hHeld rfl rfl (by kernel_rfl) (by kernel_rfl) (by kernel_rfl) (fun _ _ _ h => h) (Or.inl ⟨by rfl, fun w _ => by kernel_rfl⟩) ?_
        simp only [Act.put, List.setIfInBounds_toArray, List.set_cons_zero, List.set_cons_succ]
        refine wpAnyH_ready (rs := [15]) (by kernel_rfl) (by simp) (AllReadyH.cons rfl (fun K hK => ?_) AllReadyH.nil)
        rw [if_pos (by rfl)]
        refine wp_run (.pointer (some ⟨wr.heap.size, 0, none⟩)) (wr.drew.alloc (.cells (bs (zer 4)) 103)) (by kernel_rfl) ?_
        refine hK.out _ _ trivial (fun _ => ?_)
        clear hK K
        simp only [Act.put, List.setIfInBounds_toArray]
        have hrZ : Row (wr.drew.alloc (.cells (bs (zer 4)) 103)) wr.heap.size 103 (zer 4) := Row.made wr.drew 103 (zer 4)
        refine wpAnyH_ready (rs := [16]) (by kernel_rfl) (by simp) (AllReadyH.cons rfl (fun K hK => ?_) AllReadyH.nil)
        rw [if_pos (by rfl)]
        refine wp_store_row 103 _ _ rfl wr.heap.size (bs (sxs V)) rfl rfl 103 (bs (zer 4)) hrZ (by rw [info76]; rfl) rfl (bs_all _) ?_
        refine hK.out _ _ trivial (fun _ => ?_)
        clear hK K
        refine wpAnyH_done (by kernel_rfl) ?_ _
        refine NoPanic.normal ?_
        have hrA := hrZ.setRow (sxs V)
        have hbA : Below wr.heap.size wr ((wr.drew.alloc (.cells (bs (zer 4)) 103)).setRow wr.heap.size (bs (sxs V))) := (((Below.refl _ _).drew).alloc (Nat.le_refl _) _).trans ((But.setRow _ _ _).below (Nat.le_refl _))
        obtain ⟨wA, hwA⟩ : ∃ wA, wA = (wr.drew.alloc (.cells (bs (zer 4)) 103)).setRow wr.heap.size (bs (sxs V)) := ⟨_, rfl⟩
        rw [← hwA] at hrA hbA ⊢
        clear hwA hrZ t0 t1 t2 t3 t4 t5 q0 q1 q2 q3 l0 l1 l2 l3 m0 m1 m2 m3
        have hbW : Below w.heap.size w wA := hb.trans (hbA.mono hb.size)
        have HOA := hide (HOO.out.below hbA)
        have hgw : w.heap.size ≤ wr.heap.size := hb.size
        obtain ⟨gA, hgA⟩ : ∃ gA, gA = wr.heap.size := ⟨_, rfl⟩
        rw [← hgA] at hrA hgw ⊢
        clear hgA hbA HOO HCE hb hB
        have HNN := hide (show (b64To xs k).length + 5 ≤ 140737488355328 by rw [b64To_length]; omega)
        go_wp2
        go_loopw [3, 9] (fun v i wz => ∃ j : Nat, j ≤ 4 ∧ i = .int .i64 j ∧ Own wz w.heap.size v (b64To xs k ++ (four V 1).take j) ∧ Row wz gA 103 (mix V 1 j) ∧ Below w.heap.size w wz) (fun _ i _ => 4 - (intOf i).toNat)
        case atStart => exact ⟨0, by omega, rfl, by simpa using HOA.out, hrA, hbW⟩
        case round =>
          obtain ⟨j, hj, rfl, hoj, hrj, hbj⟩ := hrel
          have HOJ := hide hoj
          have HRJ := hide hrj
          have hBj := hbj.size
          clear hoj hrj HOA hrA hbW
          rcases (show j = 4 ∨ j = 0 ∨ j = 1 ∨ j = 2 ∨ j = 3 by omega) with rfl | rfl | rfl | rfl | rfl
          · go_wp2
            go_roundw
            case rel => exact ⟨k + 1, by omega, by go_num, by rw [b64To_succ, HGA.out]; exact HOJ.out, hbj⟩
            case measure => simp [intOf]; omega
          · have hcj : wr.cell? ⟨gA, 0, none⟩ = some (.int .u8 (sx (V / 262144))) := HRJ.out.cell 0 (by simp [mix, four, sxs])
            have HR2 := HRJ
            have HO2 := HOJ
            have hb2 := hbj
            have HMX := hide (show mix V 1 0 = mix V 1 1 by simp [mix, four, sxs, T6.out])
            have HTK := hide (show b64To xs k ++ (four V 1).take 0 ++ [sx (V / 262144)] = b64To xs k ++ (four V 1).take 1 by rw [List.append_assoc]; congr 1; simp [four, T6.out])
            have hB2 := hb2.size
            go_wp2_with (at_builtin; refine step_append rfl rfl rfl (HO2.out.alloc _) (sl_one _ _ (sx_bd _).1 (sx_bd _).2) (by have := HNN.out; rw [List.length_append]; simp [four]; omega) (by simp; omega) ?_)
            intro v5 w5 ho5 hg5 hn5
            have hr5 := (HR2.out.below ((Below.refl _ _).alloc (Nat.le_refl _) _) HR2.out.lt).grown hg5 (HO2.out.ne HR2.out)
            have hb5 : Below w.heap.size w w5 := (hb2.alloc hB2 _).grown hg5 (by simp; omega) (fun i hi => (World.ownsRow.lt HO2.out i hi).1)
            have HO5 := hide ho5
            have HR5 := hide hr5
            clear ho5 hg5 hn5 hr5 HOJ HRJ HO2 HR2 hcj
            go_wp2
            go_roundw
            case rel => exact ⟨1, by omega, rfl, by rw [← HTK.out]; exact HO5.out, by rw [← HMX.out]; exact HR5.out, hb5⟩
            case measure => simp [intOf]
          · have hcj : wr.cell? ⟨gA, 1, none⟩ = some (.int .u8 (sx (V / 4096 % 64))) := HRJ.out.cell 1 (by simp [mix, four, sxs])
            have HR2 := HRJ
            have HO2 := HOJ
            have hb2 := hbj
            have HMX := hide (show mix V 1 1 = mix V 1 2 by simp [mix, four, sxs])
            have HTK := hide (show b64To xs k ++ (four V 1).take 1 ++ [sx (V / 4096 % 64)] = b64To xs k ++ (four V 1).take 2 by rw [List.append_assoc]; congr 1)
            have hB2 := hb2.size
            go_wp2_with (at_builtin; refine step_append rfl rfl rfl (HO2.out.alloc _) (sl_one _ _ (sx_bd _).1 (sx_bd _).2) (by have := HNN.out; rw [List.length_append]; simp [four]; omega) (by simp; omega) ?_)
            intro v5 w5 ho5 hg5 hn5
            have hr5 := (HR2.out.below ((Below.refl _ _).alloc (Nat.le_refl _) _) HR2.out.lt).grown hg5 (HO2.out.ne HR2.out)
            have hb5 : Below w.heap.size w w5 := (hb2.alloc hB2 _).grown hg5 (by simp; omega) (fun i hi => (World.ownsRow.lt HO2.out i hi).1)
            have HO5 := hide ho5
            have HR5 := hide hr5
            clear ho5 hg5 hn5 hr5 HOJ HRJ HO2 HR2 hcj
            go_wp2
            go_roundw
            case rel => exact ⟨2, by omega, rfl, by rw [← HTK.out]; exact HO5.out, by rw [← HMX.out]; exact HR5.out, hb5⟩
            case measure => simp [intOf]
          · have hcj := HRJ.out.cell 2 (by simp [mix, four, sxs])
            have hfj := HRJ.out.free 2
            have HSL : Hid (Sl ((wr.setCell ⟨gA, 2, none⟩ (.int .u8 61)).alloc (.cells #[.int .u8 61] 5)) (some ⟨wr.heap.size, 0, none⟩) 1 1 [61]) := by
              have h := sl_one (wr.setCell ⟨gA, 2, none⟩ (.int .u8 61)) 61 (by decide) (by decide)
              have e : (wr.setCell ⟨gA, 2, none⟩ (.int .u8 61)).heap.size = wr.heap.size := by simp [World.setCell]
              rw [e] at h
              exact h
            have HB2 := hide (But.setCell wr gA 2 (.int .u8 61))
            have HR2 := hide (HRJ.out.set 2 61)
            have HO2 := hide (HOJ.out.but HB2.out (HOJ.out.ne HRJ.out))
            have hb2 := hbj.trans (HB2.out.below hgw)
            have HMX := hide (show (mix V 1 2).set 2 61 = mix V 1 3 by simp [mix, four, sxs])
            have HTK := hide (show b64To xs k ++ (four V 1).take 2 ++ [61] = b64To xs k ++ (four V 1).take 3 by rw [List.append_assoc]; congr 1)
            have hB2 := hb2.size
            go_wp2_with (at_builtin; refine step_append rfl rfl rfl (HO2.out.alloc _) HSL.out (by have := HNN.out; rw [List.length_append]; simp [four]; omega) (by simp; omega) ?_)
            intro v5 w5 ho5 hg5 hn5
            have hr5 := (HR2.out.below ((Below.refl _ _).alloc (Nat.le_refl _) _) HR2.out.lt).grown hg5 (HO2.out.ne HR2.out)
            have hb5 : Below w.heap.size w w5 := (hb2.alloc hB2 _).grown hg5 (by simp; omega) (fun i hi => (World.ownsRow.lt HO2.out i hi).1)
            have HO5 := hide ho5
            have HR5 := hide hr5
            clear ho5 hg5 hn5 hr5 HOJ HRJ HO2 HR2 hcj hfj HB2
            go_wp2
            go_roundw
            case rel => exact ⟨3, by omega, rfl, by rw [← HTK.out]; exact HO5.out, by rw [← HMX.out]; exact HR5.out, hb5⟩
            case measure => simp [intOf]
          · have hcj := HRJ.out.cell 3 (by simp [mix, four, sxs])
            have hfj := HRJ.out.free 3
            have HSL : Hid (Sl ((wr.setCell ⟨gA, 3, none⟩ (.int .u8 61)).alloc (.cells #[.int .u8 61] 5)) (some ⟨wr.heap.size, 0, none⟩) 1 1 [61]) := by
              have h := sl_one (wr.setCell ⟨gA, 3, none⟩ (.int .u8 61)) 61 (by decide) (by decide)
              have e : (wr.setCell ⟨gA, 3, none⟩ (.int .u8 61)).heap.size = wr.heap.size := by simp [World.setCell]
              rw [e] at h
              exact h
            have HB2 := hide (But.setCell wr gA 3 (.int .u8 61))
            have HR2 := hide (HRJ.out.set 3 61)
            have HO2 := hide (HOJ.out.but HB2.out (HOJ.out.ne HRJ.out))
            have hb2 := hbj.trans (HB2.out.below hgw)
            have HMX := hide (show (mix V 1 3).set 3 61 = mix V 1 4 by simp [mix, four, sxs])
            have HTK := hide (show b64To xs k ++ (four V 1).take 3 ++ [61] = b64To xs k ++ (four V 1).take 4 by rw [List.append_assoc]; congr 1)
            have hB2 := hb2.size
            go_wp2_with (at_builtin; refine step_append rfl rfl rfl (HO2.out.alloc _) HSL.out (by have := HNN.out; rw [List.length_append]; simp [four]; omega) (by simp; omega) ?_)
            intro v5 w5 ho5 hg5 hn5
            have hr5 := (HR2.out.below ((Below.refl _ _).alloc (Nat.le_refl _) _) HR2.out.lt).grown hg5 (HO2.out.ne HR2.out)
            have hb5 : Below w.heap.size w w5 := (hb2.alloc hB2 _).grown hg5 (by simp; omega) (fun i hi => (World.ownsRow.lt HO2.out i hi).1)
            have HO5 := hide ho5
            have HR5 := hide hr5
            clear ho5 hg5 hn5 hr5 HOJ HRJ HO2 HR2 hcj hfj HB2
            go_wp2
            go_roundw
            case rel => exact ⟨4, by omega, rfl, by rw [← HTK.out]; exact HO5.out, by rw [← HMX.out]; exact HR5.out, hb5⟩
            case measure => simp [intOf]
    · have hkm : k = m := by omega
      subst hkm
      have e1 : b64To xs k = b64B xs := by rw [b64B, HS.out.hlen, ← HM.out]
      have ho := HOO.out
      rw [e1] at ho
      obtain ⟨sa, sc, rfl, sl⟩ := ho.sl' (by rw [← e1]; exact b64To_isB _ _) (by rw [← e1, b64To_length]; omega)
      have SL := hide sl
      clear sl ho e1
      have hge : ¬ ((3 * (k : Int)) < len) := by omega
      go_wp2_with (refine step_toStr rfl rfl SL.out ?_)
      go_ret
      exact ⟨rfl, hb⟩

end Go.Proofs.YtojepbapdjkknaaDoor.Oct

/-
  The document's Unbase64, ported from round 1.
-/
namespace Go.Proofs.YtojepbapdjkknaaDoor.Oct
open Go.RowKit
set_option linter.unusedVariables false

theorem trim1_get (s : ByteArray) : (trim1 s).data.toList = s.data.toList.take (trim1 s).size := by
  unfold trim1
  split
  · rw [Lib.extract_data]
    simp
  · rw [List.take_of_length_le]
    simp
theorem dl_eq (s : ByteArray) : dl s = s.data.toList.take (digs s).size := by
  unfold dl digs
  rw [trim1_get (trim1 s), trim1_get s, List.take_take, Nat.min_eq_left (trim1_size _)]
theorem trim1_yes {s : ByteArray} (h : ends s = true) : (trim1 s).size = s.size - 1 := by
  have := ends_pos h
  simp [trim1, h]
theorem trim1_no {s : ByteArray} (h : ends s = false) : trim1 s = s := by simp [trim1, h]

theorem get_list (s : ByteArray) (i : Nat) (h : i < s.size) : s.data.toList[i]? = some s[i] := by
  rw [List.getElem?_eq_getElem (by simpa using h)]
  rfl

/-- Whether the first n letters of s, as a text, end with the letter that fills: what is looked at is the letter n - 1 of s. -/
theorem ends_trim (s t : ByteArray) (ht : t.data.toList = s.data.toList.take t.size) (hle : t.size ≤ s.size) (h0 : 0 < t.size) : ends t = ((s[t.size - 1]'(by omega)) == 61) := by
  have e : t[t.size - 1] = s[t.size - 1]'(by omega) := by
    have a := get_list t (t.size - 1) (by omega)
    have b := get_list s (t.size - 1) (by omega)
    rw [ht, List.getElem?_take, if_pos (by omega), b] at a
    exact (Option.some.inj a).symm
  simp [ends, h0, e]
theorem ends_zero {t : ByteArray} (h : t.size = 0) : ends t = false := by simp [ends, h]

theorem beq61 (c : UInt8) : ((c.toNat : Int) == 61) = (c == 61) := by
  rw [Bool.eq_iff_iff]
  simp only [beq_iff_eq]
  constructor
  · intro h
    apply UInt8.toNat_inj.1
    show c.toNat = 61
    omega
  · intro h
    subst h
    rfl

set_option maxRecDepth 100000 in
set_option maxHeartbeats 2000000 in
theorem unbR_any (s : ByteArray) (w : World) (hs : s.size ≤ 1048576) :
    Calls Tryd.prog 44 #[.string s] w fun e w' => ∃ v, e = .returned (.tuple #[v, .int .i64 (ubAt s), .int .i64 (ubE s)]) ∧ Own w' w.heap.size v (ubB s) ∧ Below w.heap.size w w' := by
  have ts := trim1_size s
  have HT := hide (trim1_get s)
  go_enter Tryd.func44, Tryd.ntmps44
  go_upto_block 0 with fail
  go_cut [5] from 6 to 30 (fun n wc => n = .int .i64 (digs s).size ∧ w = wc)
  case first =>
    go_wp2_with fail
    go_loop [5, 6] (fun n i => ∃ t : ByteArray, t.data.toList = s.data.toList.take t.size ∧ t.size ≤ s.size ∧ n = .int .i64 t.size ∧ ((i = .int .i64 0 ∧ digs s = trim1 (trim1 t)) ∨ (i = .int .i64 1 ∧ digs s = trim1 t) ∨ (i = .int .i64 2 ∧ digs s = t))) (fun _ i => 2 - (intOf i).toNat)
    case atStart => exact ⟨s, by rw [List.take_of_length_le (by simp)], Nat.le_refl _, rfl, .inl ⟨rfl, rfl⟩⟩
    case round =>
      obtain ⟨t, ht, hle, rfl, hi⟩ := hrel
      have HTT := hide ht
      have HT2 := hide (show (trim1 t).data.toList = s.data.toList.take (trim1 t).size by rw [trim1_get t, ht, List.take_take, Nat.min_eq_left (trim1_size t)])
      have tt := trim1_size t
      clear ht
      rcases hi with ⟨rfl, hd⟩ | ⟨rfl, hd⟩ | ⟨rfl, hd⟩
      · have HDS := hide hd
        by_cases h0 : 0 < t.size
        · have eb := ends_trim s t HTT.out hle h0
          have i0 : (0 : Int) < t.size := by omega
          have hx : t.size - 1 < s.size := by omega
          cases hE : ends t
          · have e61 : ((((s[t.size - 1]'hx).toNat : Nat) : Int) == 61) = false := by rw [beq61, ← eb, hE]
            have E := hide (show digs s = t from by rw [hd, trim1_no hE, trim1_no hE])
            clear eb hE hd
            go_wp2
            go_meet
            case rel => exact ⟨by rw [E.out], rfl⟩
          · have e61 : ((((s[t.size - 1]'hx).toNat : Nat) : Int) == 61) = true := by rw [beq61, ← eb, hE]
            have E := hide (trim1_yes hE)
            clear eb hE hd
            go_wp2
            go_round
            case rel => exact ⟨trim1 t, HT2.out, by omega, by rw [E.out]; go_num, .inr (.inl ⟨by go_num, HDS.out⟩)⟩
            case measure => simp [intOf]
        · have i0 : ¬ ((0 : Int) < t.size) := by omega
          have hE := ends_zero (t := t) (by omega)
          have E := hide (show digs s = t from by rw [hd, trim1_no hE, trim1_no hE])
          clear hE hd
          go_wp2
          go_meet
          case rel => exact ⟨by rw [E.out], rfl⟩
      · have HDS := hide hd
        by_cases h0 : 0 < t.size
        · have eb := ends_trim s t HTT.out hle h0
          have i0 : (0 : Int) < t.size := by omega
          have hx : t.size - 1 < s.size := by omega
          cases hE : ends t
          · have e61 : ((((s[t.size - 1]'hx).toNat : Nat) : Int) == 61) = false := by rw [beq61, ← eb, hE]
            have E := hide (show digs s = t from by rw [hd, trim1_no hE])
            clear eb hE hd
            go_wp2
            go_meet
            case rel => exact ⟨by rw [E.out], rfl⟩
          · have e61 : ((((s[t.size - 1]'hx).toNat : Nat) : Int) == 61) = true := by rw [beq61, ← eb, hE]
            have E := hide (trim1_yes hE)
            clear eb hE hd
            go_wp2
            go_round
            case rel => exact ⟨trim1 t, HT2.out, by omega, by rw [E.out]; go_num, .inr (.inr ⟨by go_num, HDS.out⟩)⟩
            case measure => simp [intOf]
        · have i0 : ¬ ((0 : Int) < t.size) := by omega
          have hE := ends_zero (t := t) (by omega)
          have E := hide (show digs s = t from by rw [hd, trim1_no hE])
          clear hE hd
          go_wp2
          go_meet
          case rel => exact ⟨by rw [E.out], rfl⟩
      · have E := hide hd
        clear hd
        go_wp2
        go_meet
        case rel => exact ⟨by rw [E.out], rfl⟩
  case rest =>
    obtain ⟨rfl, rfl⟩ := hcut
    have HZ := hide (show (dl s).length = (digs s).size by simp [dl])
    have hds := digs_size s
    have HGT : Hid (∀ j (h : j < (dl s).length) (h2 : j < s.size), (dl s)[j] = s[j]) := by
      intro j h h2
      have a : (dl s)[j]? = some (dl s)[j] := List.getElem?_eq_getElem h
      have b : (dl s)[j]? = some s[j] := by rw [dl_eq, List.getElem?_take, if_pos (by rw [HZ.out] at h; exact h), get_list s j h2]
      rw [a] at b
      exact Option.some.inj b
    obtain ⟨n, hn⟩ : ∃ n, n = (digs s).size := ⟨_, rfl⟩
    rw [← hn] at HZ hds ⊢
    clear hn HT ts
    go_wp2
    go_loop [7] (fun i => ∃ k : Nat, k ≤ n ∧ i = .int .i64 k ∧ ∀ j (h : j < (dl s).length), j < k → 0 ≤ pl b64L ((dl s)[j])) (fun i => n - (intOf i).toNat)
    case atStart => exact ⟨0, Nat.zero_le _, rfl, fun j _ h => absurd h (by omega)⟩
    case round =>
      obtain ⟨k, hk, rfl, hbefore⟩ := hrel
      have HB := hide hbefore
      clear hbefore
      by_cases hlt : k < n
      · have hks : k < s.size := by omega
        have HK := hide (HGT.out k (by rw [HZ.out]; exact hlt) hks)
        by_cases hp : pl b64L s[k] < 0
        · have e : fb b64L (dl s) = k := by
            rw [fb, List.findIdx_eq (by rw [HZ.out]; exact hlt)]
            exact ⟨decide_eq_true (by rw [HK.out]; exact hp), fun j hj => decide_eq_false (Int.not_lt.2 (HB.out j (by rw [HZ.out]; omega) hj))⟩
          have hf : fb b64L (dl s) < (dl s).length := by rw [e, HZ.out]; exact hlt
          have E1 : Hid (ubAt s = k) := by show _ = _; rw [ubAt, if_pos hf, e]
          have E2 : Hid (ubE s = 11) := by show _ = _; rw [ubE, if_pos (.inl hf)]
          have E3 : Hid (ubB s = []) := by show _ = _; rw [ubB, if_pos (.inl hf)]
          clear e hf
          have hp' : pl b64S.data.toList s[k] < 0 := hp
          clear hp
          go_wp2_with (go_at_call 73; refine (place_any b64S _ _ (by show 64 ≤ 1048576; omega)).mono ?_; rintro e w' ⟨rfl, rfl⟩)
          go_ret3
          rw [E1.out, E2.out, E3.out]
          exact ⟨_, rfl, Own.nil _ _, Below.refl _ _⟩
        · have HP := hide (Int.not_lt.1 hp)
          have hp' : 0 ≤ pl b64S.data.toList s[k] := Int.not_lt.1 hp
          clear hp
          go_wp2_with (go_at_call 73; refine (place_any b64S _ _ (by show 64 ≤ 1048576; omega)).mono ?_; rintro e w' ⟨rfl, rfl⟩)
          go_round
          case rel =>
            refine ⟨k + 1, by omega, by go_num, fun j h hj => ?_⟩
            by_cases h2 : j < k
            · exact HB.out j h h2
            · obtain rfl : j = k := by omega
              rw [HK.out]
              exact HP.out
          case measure => simp [intOf]; omega
      · have e : fb b64L (dl s) = (dl s).length := by
          rw [fb]
          apply List.findIdx_eq_length.2
          intro x hx
          obtain ⟨j, hj, rfl⟩ := List.getElem_of_mem hx
          exact decide_eq_false (Int.not_lt.2 (HB.out j hj (by rw [HZ.out] at hj; omega)))
        have hf : ¬ fb b64L (dl s) < (dl s).length := by omega
        clear e HB
        by_cases ho : s.size % 4 ≠ 0
        · have E1 : Hid (ubAt s = s.size) := by show _ = _; rw [ubAt, if_neg hf, if_pos ho]
          have E2 : Hid (ubE s = 11) := by show _ = _; rw [ubE, if_pos (.inr (.inl ho))]
          have E3 : Hid (ubB s = []) := by show _ = _; rw [ubB, if_pos (.inr (.inl ho))]
          have hodd : (((s.size : Int) % 4) != 0) = true := by simp; omega
          clear ho hf
          go_wp2
          go_ret3
          rw [E1.out, E2.out, E3.out]
          exact ⟨_, rfl, Own.nil _ _, Below.refl _ _⟩
        · have hev : (((s.size : Int) % 4) != 0) = false := by simp; omega
          have HF := hide hf
          have HOO := hide ho
          have HI := hide (pk_inv b64L (dl s) (digit_bd (dl s) hf))
          have HD := hide (digit_bd (dl s) hf)
          clear hf ho
          go_wp2
          go_loopw [8, 9, 10, 11] (fun u b h i wr => ∃ q : Nat, q ≤ n ∧ i = .int .i64 q ∧ b = .int .i64 (pkT b64L (dl s) q).1 ∧ h = .int .i64 (pkT b64L (dl s) q).2.1 ∧ Own wr w.heap.size u (pkT b64L (dl s) q).2.2 ∧ Below w.heap.size w wr) (fun _ _ _ i _ => n - (intOf i).toNat)
          case atStart => exact ⟨0, by omega, rfl, rfl, rfl, Own.nil _ _, Below.refl _ _⟩
          case round =>
            obtain ⟨q, hq, rfl, rfl, rfl, hown, hb⟩ := hrel
            have inv := HI.out q (by rw [HZ.out]; exact hq)
            obtain ⟨st, hst⟩ : ∃ st, st = pkT b64L (dl s) q := ⟨_, rfl⟩
            rw [← hst] at inv hown ⊢
            have HST := hide hst
            clear hst
            obtain ⟨v, h, o⟩ := st
            obtain ⟨hh, v0, v1, ob, ll⟩ := inv
            simp only at hh v0 v1 ob ll hown ⊢
            have HOW := hide hown
            clear hown
            by_cases hlt2 : q < n
            · have hqs : q < s.size := by omega
              have dd := HD.out q (by rw [HZ.out]; exact hlt2)
              have egk := HGT.out q (by rw [HZ.out]; exact hlt2) hqs
              rw [egk] at dd
              obtain ⟨d, hde⟩ : ∃ d, d = pl b64S.data.toList s[q] := ⟨_, rfl⟩
              have dd2 : 0 ≤ d ∧ d ≤ 63 := by rw [hde]; exact dd
              have HE := hide hde
              have HS := hide (show pkT b64L (dl s) (q + 1) = stp (v, h, o) d by rw [pkT_succ _ _ q (by rw [HZ.out]; exact hlt2), ← HST.out, egk, hde]; rfl)
              clear hde egk dd
              obtain ⟨d0, d1⟩ := dd2
              rcases hh with rfl | rfl | rfl | rfl
              · have v2 : v < 1 := by simp at v1; omega
                go_wp2_with (go_at_call 73; refine (place_any b64S _ _ (by show 64 ≤ 1048576; omega)).mono ?_; rintro e w' ⟨rfl, rfl⟩; rw [← HE.out])
                go_roundw
                case rel =>
                  refine ⟨q + 1, by omega, by go_num, ?_, ?_, ?_, hb⟩ <;> rw [HS.out, stp0]
                  · rfl
                  · exact HOW.out
                case measure => simp [intOf]; omega
              · have v2 : v < 4 := by simp at v1; omega
                have hB := hb.size
                have hln : o.length + 1 ≤ 140737488355328 := by omega
                go_wp2_with (first | (go_at_call 73; refine (place_any b64S _ _ (by show 64 ≤ 1048576; omega)).mono ?_; rintro e w' ⟨rfl, rfl⟩; rw [← HE.out]) | (at_builtin; refine step_append rfl rfl rfl (HOW.out.alloc _) (sl_one _ _ (by omega) (by omega)) hln (by simp; omega) ?_))
                intro u2 w2 ho2 hg2 hn2
                have hb2 : Below w.heap.size w w2 := (hb.alloc hb.size _).grown hg2 (by simp; omega) (fun j hj => (World.ownsRow.lt HOW.out j hj).1)
                have HO2 := hide ho2
                clear ho2 hg2 hn2 HOW hb
                go_wp2
                go_roundw
                case rel =>
                  refine ⟨q + 1, by omega, by go_num, ?_, ?_, ?_, hb2⟩ <;> rw [HS.out, stp2]
                  · rfl
                  · have h2 := HO2.out
                    simp only
                    rw [Int.emod_eq_of_lt (by omega) (by omega)]
                    exact h2
                case measure => simp [intOf]; omega
              · have v2 : v < 16 := by simp at v1; omega
                have hB := hb.size
                have hln : o.length + 1 ≤ 140737488355328 := by omega
                go_wp2_with (first | (go_at_call 73; refine (place_any b64S _ _ (by show 64 ≤ 1048576; omega)).mono ?_; rintro e w' ⟨rfl, rfl⟩; rw [← HE.out]) | (at_builtin; refine step_append rfl rfl rfl (HOW.out.alloc _) (sl_one _ _ (by omega) (by omega)) hln (by simp; omega) ?_))
                intro u2 w2 ho2 hg2 hn2
                have hb2 : Below w.heap.size w w2 := (hb.alloc hb.size _).grown hg2 (by simp; omega) (fun j hj => (World.ownsRow.lt HOW.out j hj).1)
                have HO2 := hide ho2
                clear ho2 hg2 hn2 HOW hb
                go_wp2
                go_roundw
                case rel =>
                  refine ⟨q + 1, by omega, by go_num, ?_, ?_, ?_, hb2⟩ <;> rw [HS.out, stp4]
                  · rfl
                  · have h2 := HO2.out
                    simp only
                    rw [Int.emod_eq_of_lt (by omega) (by omega)]
                    exact h2
                case measure => simp [intOf]; omega
              · have v2 : v < 64 := by simp at v1; omega
                have hB := hb.size
                have hln : o.length + 1 ≤ 140737488355328 := by omega
                go_wp2_with (first | (go_at_call 73; refine (place_any b64S _ _ (by show 64 ≤ 1048576; omega)).mono ?_; rintro e w' ⟨rfl, rfl⟩; rw [← HE.out]) | (at_builtin; refine step_append rfl rfl rfl (HOW.out.alloc _) (sl_one _ _ (by omega) (by omega)) hln (by simp; omega) ?_))
                intro u2 w2 ho2 hg2 hn2
                have hb2 : Below w.heap.size w w2 := (hb.alloc hb.size _).grown hg2 (by simp; omega) (fun j hj => (World.ownsRow.lt HOW.out j hj).1)
                have HO2 := hide ho2
                clear ho2 hg2 hn2 HOW hb
                go_wp2
                go_roundw
                case rel =>
                  refine ⟨q + 1, by omega, by go_num, ?_, ?_, ?_, hb2⟩ <;> rw [HS.out, stp6]
                  · rfl
                  · have h2 := HO2.out
                    simp only
                    rw [Int.emod_eq_of_lt (by omega) (by omega)]
                    exact h2
                case measure => simp [intOf]; omega
            · have hqn : q = n := by omega
              subst hqn
              have hlv : lft s = v := by rw [lft, HZ.out, ← HST.out]
              by_cases hl : lft s ≠ 0
              · have E1 : Hid (ubAt s = (q : Int) - 1) := by show _ = _; rw [ubAt, if_neg HF.out, if_neg HOO.out, if_pos hl, HZ.out]
                have E2 : Hid (ubE s = 11) := by show _ = _; rw [ubE, if_pos (.inr (.inr hl))]
                have E3 : Hid (ubB s = []) := by show _ = _; rw [ubB, if_pos (.inr (.inr hl))]
                have hvb : (v != 0) = true := by rw [← hlv]; simp [hl]
                clear hl hlv
                go_wp2
                go_ret3
                rw [E1.out, E2.out, E3.out]
                exact ⟨_, rfl, Own.nil _ _, hb⟩
              · have E1 : Hid (ubAt s = 0) := by show _ = _; rw [ubAt, if_neg HF.out, if_neg HOO.out, if_neg hl]
                have E2 : Hid (ubE s = 0) := by show _ = _; rw [ubE, if_neg (by have h1 := HF.out; have h2 := HOO.out; omega)]
                have E3 : Hid (ubB s = o) := by
                  show _ = _
                  rw [ubB, if_neg (by have h1 := HF.out; have h2 := HOO.out; omega), HZ.out, ← HST.out]
                have hvb : (v != 0) = false := by rw [← hlv]; simp at hl; simp [hl]
                clear hl hlv
                go_wp2
                go_ret3
                rw [E1.out, E2.out, E3.out]
                exact ⟨_, rfl, HOW.out, hb⟩

end Go.Proofs.YtojepbapdjkknaaDoor.Oct
