/-
  What the library reads and writes of texts (out of Wtx and Wnm, for seats without wire): Itoa, Atoi, Cut, TrimPrefix, ReplaceAll.
-/
import Derived.Test.YtpocadbhajacaaaGreatDoorLza
import Derived.Test.YtpocadbhajacaaaGreatDoorShT
import Derived.Lib.AtoiErrMem
import Derived.Lib.LaidTab
namespace Go.Proofs.YtpocadbhajacaaaGreatDoor
open Go.RowKit
set_option linter.unusedVariables false
set_option linter.unusedSimpArgs false

/-- The table of the powers of ten lies there. -/
abbrev PT (w : World) : Prop := Lib.TabIs Tryz.prog w "internal/strconv.uint64pow10" .u64 Lib.pow10Tab
theorem gPT : Tryz.prog.globalNamed "internal/strconv.uint64pow10" = some 2 := by kernel_rfl
theorem PT.lt {w : World} (h : PT w) : 2 < w.heap.size := World.block_lt_of_cell? w _ (h.cell gPT 0 (by rw [Lib.pow10Tab_length]; decide))
theorem PT.below {w w' : World} (h : PT w) (hb : Below w.heap.size w w') : PT w' := by
  have hl := h.lt
  unfold PT Lib.TabIs World.var? at *
  rw [gPT] at h ⊢
  simp only [Option.bind_some] at h ⊢
  rw [hb.block _ hl]
  exact h
theorem below_grow (w : World) (k : Nat) (os : Array Obj) : Below w.heap.size w (Go.Sort.grow (w.drewN k) os) :=
  ⟨rfl, rfl, rfl, by simp [Go.Sort.grow], fun i hi => by
    show (w.heap ++ os)[i]? = w.heap[i]?
    rw [Array.getElem?_append_left hi]⟩
theorem itoa_any (n : Nat) (w : World) (hn : n ≤ 9223372036854775807) (ht : PT w) : Calls Tryz.prog 71 #[.int .i64 (n : Int)] w fun r w' => r = .returned (.string (bA (Lib.decDigits n))) ∧ Below w.heap.size w w' := by
  refine (Tryz.strconv_Itoa (n : Int) (by omega) (by omega) w ht).mono ?_
  rintro e w' ⟨rfl, k, os, rfl⟩
  exact ⟨by rw [Lib.itoa_nonneg]; rfl, below_grow w k os⟩
theorem var_below {w w' : World} {nm : String} {cs : Array Value} (h : w.var? Tryz.prog nm = some cs) (hb : Below w.heap.size w w') : w'.var? Tryz.prog nm = some cs := by
  unfold World.var? at *
  cases hg : Tryz.prog.globalNamed nm with
  | none => rw [hg] at h; cases h
  | some g =>
    rw [hg] at h
    simp only [Option.bind_some] at h ⊢
    by_cases hl : g < w.heap.size
    · rw [hb.block g hl]; exact h
    · rw [Array.getElem?_eq_none (by omega)] at h
      cases h
/-- What the library's readers of text look at lies there. -/
structure EV (w : World) : Prop where
  pt : PT w
  mx : ∃ m, w.cell? ⟨3, 0, none⟩ = some (.int .i64 m)
  es : ∃ tp p, w.var? Tryz.prog "strconv.ErrSyntax" = some #[.iface tp p]
  er : ∃ tp p, w.var? Tryz.prog "strconv.ErrRange" = some #[.iface tp p]
theorem EV.below {w w' : World} (h : EV w) (hb : Below w.heap.size w w') : EV w' :=
  ⟨h.pt.below hb, h.mx.elim fun m hm => ⟨m, cell_kept hm hb⟩, h.es.elim fun tp hp => hp.elim fun p hp => ⟨tp, p, var_below hp hb⟩, h.er.elim fun tp hp => hp.elim fun p hp => ⟨tp, p, var_below hp hb⟩⟩
theorem trim_any (s p : List UInt8) (w : World) :
    Calls Tryz.prog 90 #[.string (bA s), .string (bA p)] w fun r w' => r = .returned (.string (bA (Lib.trimPrefix s p))) ∧ w' = w := by
  refine (Tryz.strings_TrimPrefix (bA s) (bA p) w).mono ?_
  rintro e w' ⟨rfl, rfl⟩
  exact ⟨rfl, rfl⟩
theorem atoi_ok (s : List UInt8) (v : Int) (w : World) (hs : s.length ≤ 1048576) (h : Lib.atoiAll s = .ok v) : Calls Tryz.prog 89 #[.string (bA s)] w fun r w' => r = .returned (.tuple #[.int .i64 v, .nilIface]) ∧ Below w.heap.size w w' := by
  refine (Tryz.strconv_Atoi_ok (bA s) (by rw [bA_size]; omega) v h w).mono ?_
  rintro e w' ⟨rfl, rfl | ⟨t, rfl⟩⟩
  · exact ⟨rfl, Below.refl _ _⟩
  · exact ⟨rfl, Lib.bytesWorld_below _ _ _⟩
theorem atoi_no (s : List UInt8) (w : World) (hs : s.length ≤ 1048576) (hv : EV w) (h : ∀ v, Lib.atoiAll s ≠ .ok v) : Calls Tryz.prog 89 #[.string (bA s)] w fun r w' => ∃ x tp p, r = .returned (.tuple #[.int .i64 x, .iface tp p]) ∧ Below w.heap.size w w' := by
  rcases he : Lib.atoiAll s with v | _ | _
  · exact absurd he (h v)
  · obtain ⟨tp, p, hp⟩ := hv.es
    refine (Any.strconv_Atoi_syntax_var Tryz.laysC172 (bA s) (by rw [bA_size]; omega) he tp p w hp).mono ?_
    rintro e w' ⟨N, rfl, _, _, hb⟩
    exact ⟨_, _, _, rfl, hb⟩
  · obtain ⟨tp, p, hp⟩ := hv.er
    refine (Any.strconv_Atoi_range_var Tryz.laysC172 (bA s) (by rw [bA_size]; omega) he tp p w hp).mono ?_
    rintro e w' ⟨N, rfl, _, _, hb⟩
    exact ⟨_, _, _, rfl, hb⟩
end Go.Proofs.YtpocadbhajacaaaGreatDoor
