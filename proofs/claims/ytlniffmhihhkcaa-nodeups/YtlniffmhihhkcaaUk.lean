/-
  The way up from a leaf: the document's, and the program's iterator.
-/
import Derived.Test.YtlniffmhihhkcaaPr
import Derived.Test.YtlniffmhihhkcaaNd
import Derived.Test.YtlniffmhihhkcaaKm
namespace Go.Proofs.Ytlniffmhihhkcaa
open Go.RowKit Go.Shelf
set_option linter.unusedVariables false

/-- The node at that level over a leaf. -/
def upG (leaf k : Nat) : Nat × Nat := (k, leaf / 2 ^ k)
/-- How many there are. -/
def cnt (leaf level : Int) : Nat := if leaf < 0 ∨ 281474976710656 ≤ leaf ∨ level < 0 then 0 else (min level 48).toNat + 1
theorem cnt_le (leaf level : Int) : cnt leaf level ≤ 49 := by unfold cnt; split <;> omega
theorem cnt_pos {leaf level : Int} {k : Nat} (h : k < cnt leaf level) : 0 ≤ leaf ∧ leaf < 281474976710656 ∧ (k : Int) ≤ level ∧ k ≤ 48 := by
  unfold cnt at h
  split at h
  · omega
  · omega
theorem cnt_end {leaf level : Int} (h0 : 0 ≤ leaf) (h1 : leaf < 281474976710656) : level < (cnt leaf level : Int) ∨ cnt leaf level = 49 := by
  unfold cnt
  split
  · omega
  · omega
theorem up_valid (leaf k : Nat) (h : leaf < 281474976710656) (hk : k ≤ 48) : ((leaf / 2 ^ k : Nat) : Int) < 281474976710656 / 2 ^ k := by
  have hp := Nat.two_pow_pos k
  have e1 : ((281474976710656 / 2 ^ k : Nat) : Int) = 281474976710656 / 2 ^ k := by rw [Int.natCast_ediv, Int.natCast_pow]; rfl
  have h2 : leaf / 2 ^ k < 281474976710656 / 2 ^ k := by
    rw [Nat.div_lt_iff_lt_mul hp, Nat.div_mul_cancel]
    · exact h
    · have : (281474976710656 : Nat) = 2 ^ 48 := by decide
      rw [this]
      exact Nat.pow_dvd_pow 2 hk
  rw [← e1]
  omega
theorem up_next (leaf k : Nat) : leaf / 2 ^ k / 2 ^ (k + 1 - k) = leaf / 2 ^ (k + 1) := by
  rw [show k + 1 - k = 1 by omega, Nat.div_div_eq_div_mul, ← Nat.pow_add]
theorem shr_let (a L P : Nat) (HP : Hid (2 ^ L = P)) : ((a : Int)) / (2 ^ L) = (a : Int) / (P : Int) := by
  rw [← HP.out, Int.natCast_pow]
  rfl
def upL (leaf n : Nat) : List (Nat × Nat) := (List.range n).map (upG leaf)
theorem upL_len (leaf n : Nat) : (upL leaf n).length = n := by simp [upL]
theorem upL_succ (leaf n : Nat) : upL leaf (n + 1) = upL leaf n ++ [upG leaf n] := by simp [upL, List.range_succ]
theorem upL_get {leaf n k : Nat} (h : k < n) : (upL leaf n)[k]? = some (upG leaf k) := by simp [upL, h]

theorem upR_out (leaf level : Int) (w : World) (h : leaf < 0 ∨ 281474976710656 ≤ leaf) : Calls Try.prog 21 #[.int .i64 leaf, .int .i64 level] w fun r w' => r = .returned (.slice none 0 0) ∧ w' = w := by
  by_cases h1 : leaf < 0
  · go_enter Try.func21, Try.ntmps21
    go_wp2
    go_ret
    exact ⟨rfl, rfl⟩
  · have h2 : leaf ≥ 281474976710656 := by omega
    go_enter Try.func21, Try.ntmps21
    go_wp2
    go_ret
    exact ⟨rfl, rfl⟩
set_option maxRecDepth 100000 in
set_option maxHeartbeats 1000000 in
theorem upR_in (leaf : Nat) (level : Int) (w : World) (h : leaf < 281474976710656) (hl0 : -9223372036854775808 ≤ level) (hl1 : level ≤ 9223372036854775807) : Calls Try.prog 21 #[.int .i64 (leaf : Int), .int .i64 level] w fun r w' => ∃ v, r = .returned v ∧ OwnM w' w.heap.size v (upL leaf (cnt (leaf : Int) level)) ∧ Below w.heap.size w w' := by
  have k0 : ¬ (leaf : Int) < 0 := by omega
  have k1 : ¬ (leaf : Int) ≥ 281474976710656 := by omega
  obtain ⟨N, HN⟩ : ∃ N, Hid (cnt (leaf : Int) level = N) := ⟨_, hide rfl⟩
  have hN : N ≤ 49 := by rw [← HN.out]; exact cnt_le _ _
  rw [HN.out]
  go_enter Try.func21, Try.ntmps21
  go_wp2_with fail
  go_loopw [5, 6] (fun s5 s6 wr => ∃ k : Nat, s6 = .int .i64 (k : Int) ∧ k ≤ N ∧ Hid (OwnM wr w.heap.size s5 (upL leaf k)) ∧ Hid (Below w.heap.size w wr)) (fun _ s6 _ => N - (intOf s6).toNat)
  case atStart => exact ⟨0, rfl, Nat.zero_le _, hide (OwnM.nil _ _), hide (Below.refl _ _)⟩
  case round =>
    obtain ⟨k, rfl, hk, HO, HB⟩ := hrel
    obtain ⟨a5, l5, c5, rfl⟩ := HO.out.slice
    by_cases hlt : k < N
    · obtain ⟨_, _, p1, p2⟩ := cnt_pos (leaf := (leaf : Int)) (level := level) (by rw [HN.out]; exact hlt)
      have p2' : (k : Int) ≤ 48 := by omega
      have hu : IntKind.u64.wrap (k : Int) = (k : Int) := by rw [IntKind.wrap_u64]; omega
      have hlen : (upL leaf k).length ≤ 1048576 := by rw [upL_len]; omega
      obtain ⟨P, HP⟩ : ∃ P, Hid (2 ^ k = P) := ⟨_, hide rfl⟩
      have hshr := shr_let leaf k P HP
      have HG : Hid (upG leaf k = (k, leaf / P)) := hide (by unfold upG; rw [HP.out])
      go_wp2_with (refine steponeM (n := (k, leaf / P)) rfl rfl ?_)
      intro W1 g5 hg5 hle5 hb5
      have O5 := hide (HO.out.below hb5)
      have Y5 := hide hg5
      have B5 := hide (on_below HB.out hb5)
      clear hg5 hb5 HO HB
      go_wp2_with (refine stepappM (v := .slice a5 l5 c5) rfl rfl rfl O5.out Y5.out hlen B5.out.size ?_)
      intro v6 W6 ho6 hgr6 hat6
      have O6 : Hid (OwnM W6 w.heap.size v6 (upL leaf (k + 1))) := hide (by rw [upL_succ, HG.out]; exact ho6)
      have B6 := hide (B5.out.trans ((Below.refl _ W1).grown hgr6 B5.out.size (fun k hk => (O5.out.lt k hk).1)))
      obtain ⟨a6, l6, c6, rfl⟩ := ho6.slice
      clear ho6 hgr6 hat6 O5 B5 Y5
      go_wp2
      go_roundw
      case rel => exact ⟨k + 1, by simp, hlt, O6, B6⟩
      case measure => simp only [intOf]; omega
    · obtain rfl : k = N := by omega
      rcases cnt_end (leaf := (leaf : Int)) (level := level) (by omega) (by omega) with he | he
      · rw [HN.out] at he
        have he' : ¬ (k : Int) ≤ level := by omega
        go_wp2
        go_ret
        exact ⟨_, rfl, HO.out, HB.out⟩
      · rw [HN.out] at he
        have he' : ¬ (k : Int) ≤ 48 := by omega
        clear he hN hk hlt
        by_cases hle : (k : Int) ≤ level
        · go_wp2
          go_ret
          exact ⟨_, rfl, HO.out, HB.out⟩
        · go_wp2
          go_ret
          exact ⟨_, rfl, HO.out, HB.out⟩

theorem up_any (leaf level : Int) (w : World) : Calls Try.prog 22 #[.int .i64 leaf, .int .i64 level] w fun r w' => ∃ b1 b2, r = .returned (.func (.func 31) #[] #[.pointer (some ⟨b1, 0, none⟩), .pointer (some ⟨b2, 0, none⟩)]) ∧ Blk w' b1 3 [.int .i64 leaf] ∧ Blk w' b2 3 [.int .i64 level] ∧ w.heap.size ≤ b1 ∧ w.heap.size ≤ b2 ∧ Below w.heap.size w w' := by
  go_enter Try.func22, Try.ntmps22
  go_wp2
  go_ret
  have hb1 : Below w.heap.size w (w.alloc (.cells #[.int .i64 leaf] 3)) := (Below.refl _ _).alloc (Nat.le_refl _) _
  have g1 := Blk.made w 3 [.int .i64 leaf]
  refine ⟨_, _, rfl, ?_, ?_, Nat.le_refl _, ?_, ?_⟩
  · exact g1.on ((Below.refl _ _).alloc (Nat.le_refl _) _)
  · have := Blk.made (w.alloc (.cells #[.int .i64 leaf] 3)) 3 [.int .i64 level]
    simpa using this
  · omega
  · exact hb1.alloc hb1.size _

end Go.Proofs.Ytlniffmhihhkcaa
