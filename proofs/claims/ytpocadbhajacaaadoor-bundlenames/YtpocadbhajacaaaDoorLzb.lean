/-
  What the library reads and writes of texts (out of Wtx and Wnm, for seats without wire): Itoa, Atoi, Cut, TrimPrefix, ReplaceAll.
-/
import Derived.Test.YtpocadbhajacaaaDoorLza
import Derived.Test.YtpocadbhajacaaaDoorShT
import Derived.Lib.AtoiErrMem
import Derived.Lib.LaidTab
namespace Go.Proofs.YtpocadbhajacaaaDoor
open Go.RowKit
set_option linter.unusedVariables false
set_option linter.unusedSimpArgs false

/-- The table of the powers of ten lies there. -/
abbrev PT (w : World) : Prop := Lib.TabIs Tryd.prog w "internal/strconv.uint64pow10" .u64 Lib.pow10Tab
theorem gPT : Tryd.prog.globalNamed "internal/strconv.uint64pow10" = some 0 := by kernel_rfl
theorem PT.lt {w : World} (h : PT w) : 0 < w.heap.size := World.block_lt_of_cell? w _ (h.cell gPT 0 (by rw [Lib.pow10Tab_length]; decide))
theorem PT.below {w w' : World} (h : PT w) (hb : Below w.heap.size w w') : PT w' := by
  have hl := h.lt
  unfold PT Lib.TabIs World.var? at *
  rw [gPT] at h ⊢
  simp only [Option.bind_some] at h ⊢
  rw [hb.block _ hl]
  exact h
theorem below_grow (w : World) (k : Nat) (os : Array Obj) : Below w.heap.size w (Go.Sort.grow (w.drewN k) os) :=
  ⟨rfl, rfl, rfl, by simp [Go.Sort.grow], fun i hi => by
    show (w.heap ++ os)[i]? = w.heap[i]?
    rw [Array.getElem?_append_left hi]⟩
theorem itoa_any (n : Nat) (w : World) (hn : n ≤ 9223372036854775807) (ht : PT w) : Calls Tryd.prog 10 #[.int .i64 (n : Int)] w fun r w' => r = .returned (.string (bA (Lib.decDigits n))) ∧ Below w.heap.size w w' := by
  refine (Tryd.strconv_Itoa (n : Int) (by omega) (by omega) w ht).mono ?_
  rintro e w' ⟨rfl, k, os, rfl⟩
  exact ⟨by rw [Lib.itoa_nonneg]; rfl, below_grow w k os⟩
theorem var_below {w w' : World} {nm : String} {cs : Array Value} (h : w.var? Tryd.prog nm = some cs) (hb : Below w.heap.size w w') : w'.var? Tryd.prog nm = some cs := by
  unfold World.var? at *
  cases hg : Tryd.prog.globalNamed nm with
  | none => rw [hg] at h; cases h
  | some g =>
    rw [hg] at h
    simp only [Option.bind_some] at h ⊢
    by_cases hl : g < w.heap.size
    · rw [hb.block g hl]; exact h
    · rw [Array.getElem?_eq_none (by omega)] at h
      cases h
/-- What the library's readers of text look at lies there. -/
structure EV (w : World) : Prop where
  pt : PT w
  mx : ∃ m, w.cell? ⟨1, 0, none⟩ = some (.int .i64 m)
  es : ∃ tp p, w.var? Tryd.prog "strconv.ErrSyntax" = some #[.iface tp p]
  er : ∃ tp p, w.var? Tryd.prog "strconv.ErrRange" = some #[.iface tp p]
theorem EV.below {w w' : World} (h : EV w) (hb : Below w.heap.size w w') : EV w' :=
  ⟨h.pt.below hb, h.mx.elim fun m hm => ⟨m, cell_kept hm hb⟩, h.es.elim fun tp hp => hp.elim fun p hp => ⟨tp, p, var_below hp hb⟩, h.er.elim fun tp hp => hp.elim fun p hp => ⟨tp, p, var_below hp hb⟩⟩
/-- Strings sliced from a place on. -/
theorem slice_str (l : List UInt8) (k : Nat) (K : Int) (hK : K = (k : Int)) (hk : k ≤ l.length) (v : World) : (Instr.slice 9 (.string (bA l)) (some (.int .i64 K)) none none).run Tryd.prog v = .ok (.string (bA (l.drop k))) v := by
  subst hK
  rw [run_slice_string_from_if v 9 (bA l) .i64 (k : Int) Tryd.underlying9, if_pos ⟨by omega, by rw [bA_size]; omega⟩]
  congr 2
  apply eq_of_strL
  rw [strL_bA]
  show (ByteArray.extract (bA l) (k : Int).toNat (bA l).size).data.toList = _
  rw [ByteArray.data_extract, Array.toList_extract, bA_size, Int.toNat_natCast]
  show List.extract l k l.length = _
  simp only [List.extract]
  exact List.take_of_length_le (by simp)

end Go.Proofs.YtpocadbhajacaaaDoor
