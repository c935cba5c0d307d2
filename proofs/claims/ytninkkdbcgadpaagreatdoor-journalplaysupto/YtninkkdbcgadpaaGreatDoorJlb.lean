/-
  What the library writes of numbers: Itoa and Repeat; the program's names of generations.
-/
import Derived.Test.YtninkkdbcgadpaaGreatDoorJpa
import Derived.Test.YtninkkdbcgadpaaGreatDoorShJ
import Derived.Lib.LaidTab
namespace Go.Proofs.YtninkkdbcgadpaaGreatDoor
open Go.RowKit
set_option linter.unusedVariables false
set_option linter.unusedSimpArgs false

/-- The table of the powers of ten lies there. -/
abbrev PT (w : World) : Prop := Lib.TabIs Tryz.prog w "internal/strconv.uint64pow10" .u64 Lib.pow10Tab
theorem gPT : Tryz.prog.globalNamed "internal/strconv.uint64pow10" = some 1 := by kernel_rfl
theorem PT.lt {w : World} (h : PT w) : 1 < w.heap.size := World.block_lt_of_cell? w _ (h.cell gPT 0 (by rw [Lib.pow10Tab_length]; decide))
theorem PT.below {w w' : World} (h : PT w) (hb : Below w.heap.size w w') : PT w' := by
  have hl := h.lt
  unfold PT Lib.TabIs World.var? at *
  rw [gPT] at h ⊢
  simp only [Option.bind_some] at h ⊢
  rw [hb.block _ hl]
  exact h
theorem PT.same {w w' : World} (h : PT w) (hb : w'.heap[1]? = w.heap[1]?) : PT w' := by
  unfold PT Lib.TabIs World.var? at *
  rw [gPT] at h ⊢
  simp only [Option.bind_some] at h ⊢
  rw [hb]
  exact h
theorem below_grow (w : World) (k : Nat) (os : Array Obj) : Below w.heap.size w (Go.Sort.grow (w.drewN k) os) :=
  ⟨rfl, rfl, rfl, by simp [Go.Sort.grow], fun i hi => by
    show (w.heap ++ os)[i]? = w.heap[i]?
    rw [Array.getElem?_append_left hi]⟩
theorem itoa_any (n : Nat) (w : World) (hn : n ≤ 9223372036854775807) (ht : PT w) : Calls Tryz.prog 69 #[.int .i64 (n : Int)] w fun r w' => r = .returned (.string (bA (Lib.decDigits n))) ∧ Below w.heap.size w w' := by
  refine (Tryz.strconv_Itoa (n : Int) (by omega) (by omega) w ht).mono ?_
  rintro e w' ⟨rfl, k, os, rfl⟩
  exact ⟨by rw [Lib.itoa_nonneg]; rfl, below_grow w k os⟩
theorem rep_one (c : Nat) : Lib.repeatL [48] c = List.replicate c 48 := by
  induction c with
  | zero => rfl
  | succ c ih => rw [Lib.repeatL, ih, List.replicate_succ]; rfl
theorem rep_any (c : Nat) (w : World) (hc : c ≤ 6) : Calls Tryz.prog 70 #[.string { data := #[48] }, .int .i64 (c : Int)] w fun r w' => r = .returned (.string (bA (List.replicate c 48))) ∧ Below w.heap.size w w' := by
  refine (Tryz.strings_Repeat { data := #[48] } c w (by omega) (by show 1 * c ≤ _; omega)).mono ?_
  rintro e w' ⟨rfl, hb⟩
  refine ⟨?_, hb⟩
  show Ending.returned (.string ⟨(Lib.repeatL [48] c).toArray⟩) = _
  rw [rep_one]
  rfl
theorem bA_pre (l : List UInt8) : (⟨#[106, 111, 117, 114, 110, 97, 108, 45]⟩ : ByteArray) ++ bA l = bA (jPre ++ l) := bA_app jPre l
set_option maxHeartbeats 400000 in
theorem name_any (g : Nat) (w : World) (hg : g ≤ 2147483647) (ht : PT w) : Calls Tryz.prog 37 #[.int .i64 (g : Int)] w fun r w' => r = .returned (.string (jN g)) ∧ Below w.heap.size w w' := by
  have h10 := dec_len10 hg
  have HI := hide (itoa_any g w (by omega) ht)
  obtain ⟨A, HA⟩ : ∃ A, Hid (bA (Lib.decDigits g) = A) := ⟨_, hide rfl⟩
  rw [HA.out] at HI
  have hA : A.size = (Lib.decDigits g).length := by rw [← HA.out, bA_size]
  obtain ⟨n, HN⟩ : ∃ n, Hid ((Lib.decDigits g).length = n) := ⟨_, hide rfl⟩
  rw [HN.out] at hA h10
  obtain ⟨c, HC⟩ : ∃ c, Hid (6 - n = c) := ⟨_, hide rfl⟩
  have hc6 : c ≤ 6 := by rw [← HC.out]; omega
  have HMX : Hid (max (6 - (n : Int)) 0 = (c : Int)) := hide (by rw [← HC.out]; omega)
  have HR := hide (fun V => rep_any c V hc6)
  obtain ⟨Z, HZ⟩ : ∃ Z, Hid (bA (List.replicate c 48) = Z) := ⟨_, hide rfl⟩
  rw [HZ.out] at HR
  have hZ : Z.size = c := by rw [← HZ.out, bA_size, List.length_replicate]
  have HE : Hid (((⟨#[106, 111, 117, 114, 110, 97, 108, 45]⟩ : ByteArray) ++ Z) ++ A = jN g) := hide (by
    rw [← HZ.out, ← HA.out, bA_pre, bA_app]
    unfold jN jD
    rw [HN.out, HC.out, List.append_assoc])
  have hP : (⟨#[106, 111, 117, 114, 110, 97, 108, 45]⟩ : ByteArray).size = 8 := rfl
  obtain ⟨Y, HY⟩ : ∃ Y, Hid ((⟨#[106, 111, 117, 114, 110, 97, 108, 45]⟩ : ByteArray) ++ Z = Y) := ⟨_, hide rfl⟩
  have hY : Y.size = 8 + c := by rw [← HY.out, app_size, hP, hZ]
  rw [HY.out] at HE
  rw [← HE.out]
  have s1 : ¬ 9223372036854775807 < (⟨#[106, 111, 117, 114, 110, 97, 108, 45]⟩ : ByteArray).size + Z.size := by rw [hP, hZ]; omega
  have s2 : ¬ 9223372036854775807 < Y.size + A.size := by rw [hY, hA]; omega
  clear hY hZ hP HE HZ HN h10
  go_enter Tryz.func37, Tryz.ntmps37
  go_wp2_with fail
  refine HI.out.mono ?_
  rintro e w1 ⟨rfl, hb1⟩
  have B1 := hide hb1
  clear hb1
  go_wp2_with fail
  rw [HMX.out]
  refine (HR.out _).mono ?_
  rintro e w2 ⟨rfl, hb2⟩
  have B2 := hide (on_below B1.out hb2)
  have hadd := HY.out
  clear hb2 B1
  go_wp2
  go_ret
  exact ⟨rfl, B2.out⟩
end Go.Proofs.YtninkkdbcgadpaaGreatDoor
