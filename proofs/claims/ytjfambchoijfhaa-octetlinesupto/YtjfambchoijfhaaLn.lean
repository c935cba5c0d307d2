/-
  The lines of a text; the document's Lines.
-/
import Derived.Test.YtjfambchoijfhaaProg
import Derived.Test.YtjfambchoijfhaaPlain
import Derived.WalkKit
import Derived.WalkSpells
import Derived.WalkLawsBesides
import Derived.Laws.AppendOwnNone
import Derived.Deep.OwnRows
import Derived.Below
namespace Go.Proofs.Ytjfambchoijfhaa
open Go.RowKit
set_option linter.unusedVariables false

/-- Behind k bytes: the lines that have ended, and where the next one begins. -/
def lu (s : ByteArray) : Nat → List ByteArray × Nat
  | 0 => ([], 0)
  | k + 1 => if (s[k]?.map UInt8.toNat) = some 10 then ((lu s k).1 ++ [s.extract (lu s k).2 k], k + 1) else lu s k
def lns (s : ByteArray) : List ByteArray := if (lu s s.size).2 < s.size then (lu s s.size).1 ++ [s.extract (lu s s.size).2 s.size] else (lu s s.size).1
theorem lu_bd (s : ByteArray) : ∀ k, (lu s k).2 ≤ k ∧ (lu s k).1.length ≤ k
  | 0 => ⟨Nat.le_refl _, Nat.le_refl _⟩
  | k + 1 => by
    have ih := lu_bd s k
    unfold lu
    split
    · simp; omega
    · omega
theorem lu_end (s : ByteArray) (k : Nat) (h : (s[k]?.map UInt8.toNat) = some 10) : lu s (k + 1) = ((lu s k).1 ++ [s.extract (lu s k).2 k], k + 1) := by
  rw [lu, if_pos h]
theorem lu_on (s : ByteArray) (k : Nat) (h : ¬ (s[k]?.map UInt8.toNat) = some 10) : lu s (k + 1) = lu s k := by
  rw [lu, if_neg h]
theorem byte_at (s : ByteArray) (k : Nat) (h : k < s.size) : (s[k]?.map UInt8.toNat) = some (s[k]'h).toNat := by simp [h]

theorem grown_below {w w' : World} {B : Nat} {row : Option Nat} (hg : w.grownBy w' row) (hB : B ≤ w.heap.size) (hr : ∀ k, row = some k → B ≤ k) : Below B w w' := (Below.refl B w).grown hg hB hr
theorem undT : Try.prog.underlying 22 = some (.slice 9) := by kernel_rfl
theorem infoT : (Try.prog.info? 9).map (fun i => (i.zero, i.size, i.bytes)) = some (some (.string ByteArray.empty), 1, 16) := by kernel_rfl
def sts (ls : List ByteArray) : List Value := ls.map Value.string
/-- A slice of texts of the call's own. -/
def TOwn (w : World) (B : Nat) (v : Value) (ls : List ByteArray) : Prop := w.ownsRow B 9 1 v ls.length (sts ls)
theorem TOwn.nil (w : World) (B : Nat) : TOwn w B (.slice none 0 0) [] := World.ownsRow_nil _ _ _ _
theorem TOwn.lt {w : World} {B : Nat} {v : Value} {ls : List ByteArray} (h : TOwn w B v ls) : ∀ k, v.ownBlock = some k → B ≤ k := fun k hk => (World.ownsRow.lt h k hk).1
theorem TOwn.alloc {w : World} {B : Nat} {v : Value} {ls : List ByteArray} (h : TOwn w B v ls) (o : Obj) : TOwn (w.alloc o) B v ls := World.ownsRow.alloc h o
theorem cell_newT (w : World) (s : ByteArray) : (w.alloc (.cells #[.string s] 9)).cell? ⟨w.heap.size, 0, none⟩ = some (.string s) := by
  rw [cell_of_row _ w.heap.size 0 #[.string s] 9 (0, 0) (heap_alloc_new w _)]
  rfl
theorem step_appendT {dst : Option Tmp} {s x : Operand} {ty : TypeId} {pos : String} {aft : Array Edge} {gd : Option (Nat × Bool)} {ops : Array Oper} {rest : List Oper} {a : Act} {w : World} {Q : Exit → Act → World → Prop}
    {B : Nat} {v : Value} {ls : List ByteArray} {g : Nat} {b : ByteArray}
    (hw : Region.wanted ⟨dst, .call { callee := .builtin .append, args := #[s, x], argTypes := #[22, 22] }, ty, pos, aft, gd⟩ (yielded ops a.tmps) = true)
    (hs : a.eval s = v) (hx : a.eval x = .slice (some ⟨g, 0, none⟩) 1 1) (hown : TOwn w B v ls) (hy : w.cell? ⟨g, 0, none⟩ = some (.string b)) (hlen : ls.length ≤ 1048576) (hB : B ≤ w.heap.size)
    (h : ∀ v' w', TOwn w' B v' (ls ++ [b]) → w.grownBy w' v.ownBlock → wpList Try.prog ops Q rest (a.put dst v') w') :
    wpList Try.prog ops Q (⟨dst, .call { callee := .builtin .append, args := #[s, x], argTypes := #[22, 22] }, ty, pos, aft, gd⟩ :: rest) a w := by
  obtain ⟨i0, hi, hz0, hz1, hz2⟩ := info_parts infoT
  refine BigFrame.wpList_want hw fun K hK => ?_
  refine wp_append_own _ s x 22 rfl B 9 i0 (.string ByteArray.empty) 1 16 undT hi hz0 hz1 hz2 rfl (by decide) v _ _ hs hown ⟨g, 0, none⟩ 1 1 [.string b] hx rfl ?_ (by intro u hu; simp at hu; subst hu; rfl) (by unfold maxLen; omega) (by omega) hB ?_
  · intro j u hu
    match j, hu with
    | 0, hu => simp at hu; subst hu; rw [Addr.add_lit]; exact hy
    | j + 1, hu => simp at hu
  · intro v' w' h1 h2 _
    exact hK _ _ (h v' w' (by unfold TOwn; rw [List.length_append]; simpa [sts] using h1) h2)

set_option maxHeartbeats 2000000 in
theorem linesR_any (s : ByteArray) (w : World) (hs : s.size ≤ 1048576) :
    Calls Try.prog 4 #[.string s] w fun e w' => ∃ v, e = .returned v ∧ TOwn w' w.heap.size v (lns s) ∧ Below w.heap.size w w' := by
  go_enter Try.func4, Try.ntmps4
  go_wp2
  go_loopw [3, 4, 5] (fun out from' i wr => ∃ k : Nat, k ≤ s.size ∧ i = .int .i64 k ∧ from' = .int .i64 ((lu s k).2 : Nat) ∧ TOwn wr w.heap.size out (lu s k).1 ∧ Below w.heap.size w wr) (fun _ _ i _ => s.size - (intOf i).toNat)
  case atStart => exact ⟨0, by omega, rfl, rfl, TOwn.nil _ _, Below.refl _ _⟩
  case round =>
    obtain ⟨k, hk, rfl, rfl, ho, hb⟩ := hrel
    have O := hide ho
    have B := hide hb
    have hbd := lu_bd s k
    have HLN : Hid (lns s = if (lu s s.size).2 < s.size then (lu s s.size).1 ++ [s.extract (lu s s.size).2 s.size] else (lu s s.size).1) := hide rfl
    have HE0 : ∀ h : k < s.size, Hid ((s[k]'h).toNat = 10 → lu s (k + 1) = ((lu s k).1 ++ [s.extract (lu s k).2 k], k + 1)) := fun h => hide (fun e => lu_end s k (by rw [byte_at s k h, e]))
    have HN0 : ∀ h : k < s.size, Hid ((s[k]'h).toNat ≠ 10 → lu s (k + 1) = lu s k) := fun h => hide (fun e => lu_on s k (by rw [byte_at s k h]; simpa using e))
    clear ho hb
    by_cases hlt : k < s.size
    · have hlt' : (k : Int) < (s.size : Int) := by omega
      have HE := HE0 hlt
      have HN := HN0 hlt
      obtain ⟨p, hp⟩ : ∃ p, p = lu s k := ⟨_, rfl⟩
      rw [← hp] at hbd O HE HN ⊢
      obtain ⟨ls, f⟩ := p
      simp only at hbd O HE HN ⊢
      have HP := hide hp
      clear hp HE0 HN0
      by_cases h10 : (s[k]'hlt).toNat = 10
      · go_wp2_with (refine step_appendT rfl rfl rfl (O.out.alloc _) (cell_newT _ _) (by omega) (by have := B.out.size; simp; omega) ?_)
        intro v5 w5 ho5 hg5
        have HE' := hide (HE.out h10)
        have B5 := hide ((B.out.alloc B.out.size _).trans (grown_below hg5 (by have := B.out.size; simp; omega) O.out.lt))
        clear hg5
        go_wp2
        go_roundw
        case rel => exact ⟨k + 1, by omega, by go_num, by rw [HE'.out]; go_num, by rw [HE'.out]; exact ho5, B5.out⟩
        case measure => simp [intOf]; omega
      · have HN' := hide (HN.out h10)
        go_wp2
        exact ⟨⟨k + 1, by omega, by go_num, by rw [HN'.out], by rw [HN'.out]; exact O.out, B.out⟩, by simp [intOf]; omega⟩
    · obtain rfl : k = s.size := by omega
      have hlt' : ¬ ((s.size : Int) < (s.size : Int)) := by omega
      revert HLN
      generalize lu s s.size = p at *
      obtain ⟨ls, f⟩ := p
      simp only at hbd O ⊢
      intro HLN
      by_cases hf : f < s.size
      · have hf' : (f : Int) < (s.size : Int) := by omega
        have HL2 := hide (show lns s = ls ++ [s.extract f s.size] by rw [HLN.out, if_pos hf])
        go_wp2_with (refine step_appendT rfl rfl rfl (O.out.alloc _) (cell_newT _ _) (by omega) (by have := B.out.size; simp; omega) ?_)
        intro v5 w5 ho5 hg5
        have B5 := hide ((B.out.alloc B.out.size _).trans (grown_below hg5 (by have := B.out.size; simp; omega) O.out.lt))
        clear hg5
        go_wp2
        go_ret
        exact ⟨_, rfl, by rw [HL2.out]; exact ho5, B5.out⟩
      · have hf' : ¬ ((f : Int) < (s.size : Int)) := by omega
        have HL2 := hide (show lns s = ls by rw [HLN.out, if_neg hf])
        go_wp2
        go_ret
        exact ⟨_, rfl, by rw [HL2.out]; exact O.out, B.out⟩

end Go.Proofs.Ytjfambchoijfhaa
