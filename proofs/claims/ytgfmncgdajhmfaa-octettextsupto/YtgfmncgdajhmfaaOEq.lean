/-
  octet, ported from round 1 (Eq).
-/
import Derived.Test.YtgfmncgdajhmfaaOArr
import Derived.ChangeKeysEq
import Derived.Laws.BytesArg
namespace Go.Proofs.Ytgfmncgdajhmfaa
open Go.RowKit
set_option linter.unusedVariables false

theorem plain5 : Try.prog.plainKey 5 = true := by kernel_rfl
theorem und5 : Try.prog.underlying 5 = some (.int .u8) := by kernel_rfl
theorem und22 : Try.prog.underlying 22 = some (.slice 5) := by kernel_rfl
theorem und9 : Try.prog.underlying 9 = some .string := by kernel_rfl

theorem eqItems_bytes (w : World) (d : Nat) (xs ys : List Int) : ∀ is : List Nat, (∀ i ∈ is, i < xs.length ∧ i < ys.length) →
    (Op.eqItems (d + 1) 5 1 (bs xs) (bs ys) is).run Try.prog w = .ok (is.all fun i => xs.getD i 0 == ys.getD i 0) w
  | [], _ => by simp [Op.eqItems]
  | i :: is, h => by
    have hi := h i (by simp)
    have e1 := run_part_plain (P := Try.prog) w plain5 (show (bs xs)[i * 1]? = some _ from by rw [Nat.mul_one]; exact bs_get xs i hi.1)
    have e2 := run_part_plain (P := Try.prog) w plain5 (show (bs ys)[i * 1]? = some _ from by rw [Nat.mul_one]; exact bs_get ys i hi.2)
    have e3 := run_equalIn_int (P := Try.prog) w d 5 .u8 .u8 (xs.getD i 0) (ys.getD i 0) und5
    have ih := eqItems_bytes w d xs ys is (fun j hj => h j (by simp [hj]))
    simp only [Op.eqItems, Sem.run_bind, e1, e2, e3, Result.andThen_ok, List.all_cons]
    cases (xs.getD i 0 == ys.getD i 0)
    · simp
    · simpa using ih

theorem all_range_eq (xs ys : List Int) (hx : xs.length = 32) (hy : ys.length = 32) : ((List.range 32).all fun i => xs.getD i 0 == ys.getD i 0) = decide (xs = ys) := by
  rw [Bool.eq_iff_iff]
  simp only [List.all_eq_true, List.mem_range, beq_iff_eq, decide_eq_true_eq]
  constructor
  · intro h
    apply List.ext_getElem (by omega)
    intro i h1 h2
    have := h i (by omega)
    simpa [List.getD, h1, h2] using this
  · rintro rfl i _; rfl

theorem eqA {ty : TypeId} (hu : Try.prog.underlying ty = some (.array 32 5)) (w : World) (xs ys : List Int) (hx : xs.length = 32) (hy : ys.length = 32) :
    (Op.equalIn 10000 ty (.agg (bs xs)) (.agg (bs ys))).run Try.prog w = .ok (decide (xs = ys)) w := by
  obtain ⟨i0, hi, _⟩ := info_parts info5b
  have hc : Try.prog.cellsOf 5 = 1 := by kernel_rfl
  rw [run_equalIn_array w 9999 (bs xs) (bs ys) hu hi, hc, eqItems_bytes w 9998 xs ys _ (by intro i hi; simp at hi; omega), all_range_eq xs ys hx hy]

/-- The bytes as a string. -/
def str (xs : List Int) : ByteArray := strOfNums xs

theorem toStr {w : World} {a : Option Addr} {len cap : Nat} {xs : List Int} (h : Sl w a len cap xs) : (convert 22 9 (.slice a len cap)).run Try.prog w = .ok (.string (str xs)) w := by
  cases a with
  | none =>
    have e := h.hnil rfl
    obtain rfl : xs = [] := List.eq_nil_of_length_eq_zero (by rw [h.hlen]; exact e.1)
    exact run_convert_bytes_nil w 22 5 und22 und5 len cap 9 und9
  | some x =>
    by_cases h0 : 0 < len
    · obtain ⟨b, off, e, hc⟩ := h.hcell h0
      obtain rfl := Option.some.inj e
      exact run_convert_bytes_arg w 22 5 und22 und5 b off len cap xs h.hlen hc 9 und9
    · obtain rfl : len = 0 := by omega
      obtain rfl : xs = [] := List.eq_nil_of_length_eq_zero h.hlen
      rw [run_convert_bytes_string w 22 9 5 _ 0 cap und22 und5 und9, run_bytesToString w x 0 cap [] (by simp [loadCells, loadCellsFrom])]
      rfl

theorem eqg25 : Try.prog.eqGuardType Try.prog.depth 25 = false := by kernel_rfl

section
variable {dst : Option Tmp} {ty : TypeId} {pos : String} {aft : Array Edge} {gd : Option (Nat × Bool)} {ops : Array Oper} {rest : List Oper} {a : Act} {w : World} {Q : Exit → Act → World → Prop}

theorem step_toStr {x : Operand} {sa : Option Addr} {m c : Nat} {ys : List Int} (hw : Region.wanted ⟨dst, .convert 22 9 x, ty, pos, aft, gd⟩ (yielded ops a.tmps) = true)
    (hx : a.eval x = .slice sa m c) (hy : Sl w sa m c ys) (h : wpList Try.prog ops Q rest (a.put dst (.string (str ys))) w) :
    wpList Try.prog ops Q (⟨dst, .convert 22 9 x, ty, pos, aft, gd⟩ :: rest) a w :=
  step_run hw (.string (str ys)) w (by simp [execOp, hx, toStr hy, Result.andThen]) h

end

theorem str_append (xs ys : List Int) : str xs ++ str ys = str (xs ++ ys) := by
  apply ByteArray.ext
  simp [str, strOfNums]

theorem str_size (xs : List Int) : (str xs).size = xs.length := strOfNums_size xs
theorem str_90 (xs : List Int) : str xs ++ { data := #[90] } = str (xs ++ [90]) := (str_append xs [90])

theorem str_inj {xs ys : List Int} (hx : isB xs) (hy : isB ys) (h : str xs = str ys) : xs = ys := by
  have e := congrArg (fun s : ByteArray => s.data.toList) h
  simp only [str, strOfNums_data] at e
  have key : ∀ zs : List Int, isB zs → (zs.map fun n => UInt8.ofNat n.toNat).map (fun c => (c.toNat : Int)) = zs := by
    intro zs hz
    rw [List.map_map]
    conv => rhs; rw [← List.map_id zs]
    apply List.map_congr_left
    intro z hzz
    have := hz z hzz
    simp only [Function.comp, UInt8.toNat_ofNat', id]
    omega
  rw [← key xs hx, ← key ys hy, e]

end Go.Proofs.Ytgfmncgdajhmfaa
