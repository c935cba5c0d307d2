/-
  The document's disk in memory; New, name, find.
-/
import Derived.Test.YtnkjdoghfdnlaaaKqa
import Derived.Test.YtnkjdoghfdnlaaaKqb
namespace Go.Proofs.Ytnkjdoghfdnlaaa
open Go.RowKit
set_option linter.unusedVariables false

def filC (l : List (ByteArray × List Int)) : List Value := l.flatMap fun x => [.string x.1, .string (str x.2)]
theorem filC_app (a b : List (ByteArray × List Int)) : filC (a ++ b) = filC a ++ filC b := by simp [filC]
theorem filC_cons (x : ByteArray × List Int) (b : List (ByteArray × List Int)) : filC (x :: b) = [.string x.1, .string (str x.2)] ++ filC b := by simp [filC]
theorem filC_length (l : List (ByteArray × List Int)) : (filC l).length = l.length * 2 := by
  induction l with
  | nil => rfl
  | cons x r ih => rw [filC_cons]; simp at ih ⊢; omega
theorem filC_take (l : List (ByteArray × List Int)) (k : Nat) : filC (l.take k) = (filC l).take (k * 2) := by
  by_cases hk : k ≤ l.length
  · have e : filC l = filC (l.take k) ++ filC (l.drop k) := by rw [← filC_app, List.take_append_drop]
    rw [e, List.take_left' (by rw [filC_length, List.length_take, Nat.min_eq_left hk])]
  · rw [List.take_of_length_le (by omega), List.take_of_length_le (by rw [filC_length]; omega)]
theorem filC_drop (l : List (ByteArray × List Int)) (k : Nat) : filC (l.drop k) = (filC l).drop (k * 2) := by
  by_cases hk : k ≤ l.length
  · have e : filC l = filC (l.take k) ++ filC (l.drop k) := by rw [← filC_app, List.take_append_drop]
    rw [e, List.drop_left' (by rw [filC_length, List.length_take, Nat.min_eq_left hk])]
  · rw [List.drop_of_length_le (by omega), List.drop_of_length_le (by rw [filC_length]; omega)]
    rfl
theorem filC_one (l : List (ByteArray × List Int)) : ∀ x ∈ filC l, x.oneCell' = true := by
  intro x hx
  simp only [filC, List.mem_flatMap] at hx
  obtain ⟨y, _, hy⟩ := hx
  simp at hy
  rcases hy with rfl | rfl <;> rfl
def fi0 : Value := .agg #[.string ByteArray.empty, .string ByteArray.empty]
theorem rFi : Ro 73 90 2 32 fi0 := ⟨by kernel_rfl, by kernel_rfl, by kernel_rfl, rfl, by decide, by decide, fun w => by kernel_rfl⟩
theorem wFi : Wide 90 2 := ⟨by kernel_rfl, by kernel_rfl⟩
theorem wRk : Wide 76 3 := ⟨by kernel_rfl, by kernel_rfl⟩
def rkC (s : Int) (fv qv : Value) : List Value := [.int .i64 s, fv, qv]
/-- The files of the document's disk in memory. -/
structure FkAt (w : World) (r s : Nat) (fv qv : Value) (l : List (ByteArray × List Int)) : Prop where
  blk : Blk w r 76 (rkC s fv qv)
  row : w.ownsRow 0 90 2 fv l.length (filC l)
section
variable {w w' : World} {r s : Nat} {fv qv : Value} {l : List (ByteArray × List Int)}
theorem FkAt.below (h : FkAt w r s fv qv l) (hb : Below w.heap.size w w') : FkAt w' r s fv qv l :=
  ⟨h.blk.on hb, row_same h.row (fun k hk => by obtain ⟨cs, hc⟩ := row_lies h.row hk; exact hb.block k hc.lt)⟩
/-- A file's two cells. -/
theorem FkAt.file (h : FkAt w r s fv qv l) {k : Nat} {x : ByteArray × List Int} (hx : l[k]? = some x) : ∃ g cap cs, fv = .slice (some ⟨g, 0, none⟩) l.length cap ∧ Blk w g 90 cs ∧ cs.take (l.length * 2) = filC l ∧ l.length * 2 ≤ cs.length ∧ (cs.drop (k * 2)).take 2 = [.string x.1, .string (str x.2)] ∧ cs[k * 2]? = some (.string x.1) ∧ cs[k * 2 + 1]? = some (.string (str x.2)) := by
  have hlt : k < l.length := (List.getElem?_eq_some_iff.1 hx).1
  obtain ⟨g, cap, cs, h1, h2, h3, h4⟩ := row_at h.row (by omega)
  have e1 : l = l.take k ++ (x :: l.drop (k + 1)) := by
    obtain ⟨hlt, rfl⟩ := List.getElem?_eq_some_iff.1 hx
    rw [← List.drop_eq_getElem_cons hlt, List.take_append_drop]
  have e2 : filC l = filC (l.take k) ++ ([.string x.1, .string (str x.2)] ++ filC (l.drop (k + 1))) := by rw [← filC_cons, ← filC_app, ← e1]
  have e3 : (filC (l.take k)).length = k * 2 := by rw [filC_length, List.length_take, Nat.min_eq_left (by omega)]
  have e4 : (cs.drop (k * 2)).take 2 = [.string x.1, .string (str x.2)] := by
    have : ((filC l).drop (k * 2)).take 2 = [.string x.1, .string (str x.2)] := by
      rw [e2, List.drop_left' e3]
      rfl
    rw [← h3, List.drop_take, List.take_take, Nat.min_eq_left (by omega)] at this
    exact this
  refine ⟨g, cap, cs, h1, h2, h3, h4, e4, ?_, ?_⟩
  · have := congrArg (fun z => z[0]?) e4
    simpa [List.getElem?_take, List.getElem?_drop] using this
  · have := congrArg (fun z => z[1]?) e4
    simpa [List.getElem?_take, List.getElem?_drop] using this
end

theorem nameR_any (n : ByteArray) (w : World) : Calls Try.prog 45 #[.string n] w fun e w' => e = .returned (.bool (nmB n)) ∧ w' = w := by
  unfold nmB
  by_cases h1 : 1 ≤ n.size
  · by_cases h2 : n.size ≤ 128
    · go_enter Try.func45, Try.ntmps45
      go_wp2
      go_ret
      exact ⟨by congr; simp [h1, h2]; omega, rfl⟩
    · go_enter Try.func45, Try.ntmps45
      go_wp2
      go_ret
      exact ⟨by congr; simp [h1, h2]; omega, rfl⟩
  · go_enter Try.func45, Try.ntmps45
    go_wp2
    go_ret
    exact ⟨by simp, rfl⟩
/-- Is the file there that find's place shows? -/
theorem FL.found {f : ByteArray → Option (List Int)} {l : List (ByteArray × List Int)} (h : FL f l) (n : ByteArray) {x : ByteArray × List Int} (hx : l[posF l n]? = some x) : (x.1.toList == n.toList) = (f n).isSome := by
  obtain ⟨A, B, rfl, hA, hlt, hB⟩ := h.split n
  have hx2 : B[0]? = some x := by rw [← hA, List.getElem?_append_right (Nat.le_refl _), Nat.sub_self] at hx; exact hx
  rcases hB with ⟨h1, h2⟩ | ⟨xs, B', h1, rfl, h3⟩
  · rw [h1]
    have := h2 x (List.mem_of_getElem? hx2)
    exact beqS_ne (Ne.symm (blt_ne this))
  · simp at hx2
    subst hx2
    rw [h1]
    simp
theorem FL.gone {f : ByteArray → Option (List Int)} {l : List (ByteArray × List Int)} (h : FL f l) (n : ByteArray) (hx : l.length ≤ posF l n) : (f n).isSome = false := by
  obtain ⟨A, B, rfl, hA, hlt, hB⟩ := h.split n
  have hB0 : B = [] := by
    rw [List.length_append] at hx
    exact List.eq_nil_of_length_eq_zero (by omega)
  subst hB0
  rcases hB with ⟨h1, h2⟩ | ⟨xs, B', h1, h2, h3⟩
  · rw [h1]; rfl
  · cases h2
set_option maxRecDepth 100000 in
set_option maxHeartbeats 1000000 in
theorem find_any (r s : Nat) (fv qv : Value) (l : List (ByteArray × List Int)) (f : ByteArray → Option (List Int)) (n : ByteArray) (w : World) (h : FkAt w r s fv qv l) (hf : FL f l) (hl : l.length ≤ 16777216) :
    Calls Try.prog 57 #[.pointer (some ⟨r, 0, none⟩), .string n] w fun e w' => e = .returned (.tuple #[.int .i64 (posF l n : Nat), .bool (f n).isSome]) ∧ Below w.heap.size w w' := by
  obtain ⟨fa, fc, rfl⟩ := row_slice h.row
  have c1 : w.cell? ⟨r, 1, none⟩ = some (.slice fa l.length fc) := by rw [h.blk.cell]; rfl
  have HH := hide h
  have HF := hide hf
  clear h hf
  generalize hL : l.length = L at *
  have HL := hide hL
  clear hL
  go_enter Try.func57, Try.ntmps57
  go_wp2
  go_loopw [6] (fun i wr => ∃ k : Nat, i = .int .i64 (k : Int) ∧ Hid (k ≤ posF l n) ∧ w = wr) (fun i _ => L - (intOf i).toNat)
  case atStart => exact ⟨0, rfl, hide (Nat.zero_le _), rfl⟩
  case round =>
    obtain ⟨k, rfl, HK, rfl⟩ := hrel
    have hkL : k ≤ L := by have h1 := HK.out; have h2 := posF_le l n; have h3 := HL.out; omega
    by_cases hlt : k < L
    · obtain ⟨x, hx⟩ : ∃ x, l[k]? = some x := ⟨_, List.getElem?_eq_getElem (by rw [HL.out]; exact hlt)⟩
      obtain ⟨g, cap, cs, e1, hg, _, _, _, hc0, _⟩ := HH.out.file hx
      injection e1 with e1 _ e3
      subst e1 e3
      have hix := vw_at rFi g L fc k hlt
      have hcell : w.cell? ⟨g, k * 2, none⟩ = some (.string x.1) := by rw [hg.cell]; exact hc0
      have hlti : (k : Int) < (L : Int) := by omega
      have hpos := posF_lt l n k x hx HK.out
      unfold blt at hpos
      have HPOS := hide hpos
      have HX := hide hx
      clear hpos hc0 hg hx
      cases hb : Op.bytesLess x.1.toList n.toList with
      | true =>
        go_wp2
        go_roundw
        case rel => exact ⟨k + 1, by go_num, hide (HPOS.out.1 hb), trivial⟩
        case measure => simp [intOf]; omega
      | false =>
        have hkp : k = posF l n := by
          have h1 := HK.out
          have h2 : ¬ k < posF l n := fun h => by rw [HPOS.out.2 h] at hb; cases hb
          omega
        have HKP := hide hkp
        clear hkp
        go_wp2_with fail
        go_quiet (fail)
        go_wp2
        go_ret2
        rw [← HF.out.found n (by rw [← HKP.out]; exact HX.out), ← HKP.out]
        exact ⟨rfl, below_drewN (Below.refl _ _) _⟩
    · have hlti : ¬ (k : Int) < (L : Int) := by omega
      have hkp : k = posF l n := by have h1 := HK.out; have h2 := posF_le l n; have h3 := HL.out; omega
      have HKP := hide hkp
      clear hkp
      go_wp2_with fail
      go_quiet (fail)
      go_wp2
      go_ret2
      rw [HF.out.gone n (by have h2 := HKP.out; have h3 := HL.out; omega), ← HKP.out]
      exact ⟨rfl, below_drewN (Below.refl _ _) _⟩

end Go.Proofs.Ytnkjdoghfdnlaaa
