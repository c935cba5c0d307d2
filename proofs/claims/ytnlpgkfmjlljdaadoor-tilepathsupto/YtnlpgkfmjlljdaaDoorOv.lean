/-
  Bytes that come block by block: the words behind the whole blocks, what is left behind them. No program here.
-/
import Derived.Test.YtnlpgkfmjlljdaaDoorBg
namespace Go.Proofs.YtnlpgkfmjlljdaaDoor
open Go.RowKit
set_option linter.unusedVariables false

/-- The words behind the first k blocks of m, from h on. -/
def ov (h m : List Int) : Nat → List Int
  | 0 => h
  | k + 1 => comp (ov h m k) ((m.drop (64 * k)).take 64)
theorem ov_length (h m : List Int) (hl : h.length = 8) : ∀ k, (ov h m k).length = 8
  | 0 => hl
  | k + 1 => comp_length _ _ (ov_length h m hl k)
/-- How many whole blocks. -/
def bk (m : List Int) : Nat := m.length / 64
/-- What is left behind them. -/
def tl (m : List Int) : List Int := m.drop (64 * bk m)
theorem tl_length (m : List Int) : (tl m).length = m.length % 64 := by simp [tl, bk]; omega
/-- .. in a row of 64. -/
def rs (m : List Int) : List Int := tl m ++ zer (64 - m.length % 64)
theorem rs_length (m : List Int) : (rs m).length = 64 := by simp [rs, tl_length, zer_length]; omega
theorem rs_isB {m : List Int} (h : isB m) : isB (rs m) := (h.drop _).append (zer_isB _)
theorem rs_nil : rs [] = zer 64 := rfl

theorem ov_pre (h m ys : List Int) : ∀ k, 64 * k ≤ m.length → ov h (m ++ ys) k = ov h m k
  | 0, _ => rfl
  | k + 1, hk => by
    rw [ov, ov, ov_pre h m ys k (by omega), List.drop_append_of_le_length (by omega), List.take_append_of_le_length (by simp; omega)]

theorem fill (m ys : List Int) (h : m.length % 64 + ys.length ≤ 64) : splB (rs m) ys (m.length % 64) = (tl m ++ ys) ++ zer (64 - (m.length % 64 + ys.length)) := by
  unfold splB rs
  have ht := tl_length m
  rw [List.take_append_of_le_length (by omega), List.take_of_length_le (by omega)]
  congr 1
  rw [← List.drop_drop, List.drop_append_of_le_length (by omega), List.drop_of_length_le (by omega : (tl m).length ≤ m.length % 64)]
  simp [zer]
  omega

theorem grow_in (h m ys : List Int) (hr : m.length % 64 + ys.length < 64) :
    ov h (m ++ ys) (bk (m ++ ys)) = ov h m (bk m) ∧ rs (m ++ ys) = (tl m ++ ys) ++ zer (64 - (m.length % 64 + ys.length)) := by
  have hb : bk (m ++ ys) = bk m := by simp [bk]; omega
  have hl : 64 * bk m ≤ m.length := by simp [bk]; omega
  refine ⟨by rw [hb]; exact ov_pre h m ys _ hl, ?_⟩
  have ht : tl (m ++ ys) = tl m ++ ys := by
    unfold tl
    rw [hb, List.drop_append_of_le_length hl]
  have hm : (m ++ ys).length % 64 = m.length % 64 + ys.length := by simp; omega
  rw [rs, ht, hm]

theorem grow_on (h m ys : List Int) (hr : m.length % 64 + ys.length = 64) :
    ov h (m ++ ys) (bk (m ++ ys)) = comp (ov h m (bk m)) (tl m ++ ys) ∧ rs (m ++ ys) = zer 64 := by
  have hb : bk (m ++ ys) = bk m + 1 := by simp [bk]; omega
  have hl : 64 * bk m ≤ m.length := by simp [bk]; omega
  have hlen : (m ++ ys).length = 64 * (bk m + 1) := by simp [bk]; omega
  refine ⟨?_, ?_⟩
  · rw [hb, ov, ov_pre h m ys _ hl, List.drop_append_of_le_length hl]
    congr 1
    have := tl_length m
    exact List.take_of_length_le (by simp [tl] at this ⊢; omega)
  · have ht : tl (m ++ ys) = [] := by
      unfold tl
      rw [hb]
      exact List.drop_of_length_le (by omega)
    have hm : (m ++ ys).length % 64 = 0 := by omega
    rw [rs, ht, hm]
    rfl

/-- The cells of a state that began with words h behind n0 bytes, and has had m since. -/
def stM (h : List Int) (n0 : Nat) (m : List Int) : List Value := stC true (ov h m (bk m)) ((n0 + m.length : Nat) : Int) (rs m)

section
variable (t : Bool) (ws : List Int) (n : Int) (rest : List Int)
theorem stC_length (hw : ws.length = 8) (hr : rest.length = 64) : (stC t ws n rest).length = 74 := by simp [stC, u32s_length, u8s_length, hw, hr]
theorem stC_size (hw : ws.length = 8) : (stC t ws n rest)[9]? = some (.int .i64 n) := by
  rw [stC, List.getElem?_cons_succ, List.getElem?_append_right (by simp [u32s_length, hw]), u32s_length, hw]
  rfl
theorem stC_words (hw : ws.length = 8) : ((stC t ws n rest).drop 1).take 8 = u32s ws := by
  rw [stC, List.drop_succ_cons, List.drop_zero, List.take_append_of_le_length (by rw [u32s_length, hw]; exact Nat.le_refl _), List.take_of_length_le (by rw [u32s_length, hw]; exact Nat.le_refl _)]
theorem stC_ten (hw : ws.length = 8) : ∃ hd : List Value, hd.length = 10 ∧ ∀ rest, stC t ws n rest = hd ++ u8s rest :=
  ⟨Value.bool t :: (u32s ws ++ [Value.int .i64 n]), by simp [u32s_length, hw], fun rest => by simp [stC]⟩
theorem stC_rest (hw : ws.length = 8) (hr : rest.length = 64) : ((stC t ws n rest).drop 10).take 64 = u8s rest := by
  obtain ⟨hd, hl, e⟩ := stC_ten t ws n hw
  rw [e rest, ← hl, List.drop_left, List.take_of_length_le (by rw [u8s_length, hr]; exact Nat.le_refl _)]
theorem stC_setSize (hw : ws.length = 8) (x : Int) : (stC t ws n rest).set 9 (.int .i64 x) = stC t ws x rest := by
  rw [stC, List.set_cons_succ, List.set_append_right _ _ (by rw [u32s_length, hw]; exact Nat.le_refl _), u32s_length, hw]
  rfl
theorem stC_setWords (hw : ws.length = 8) (ws' : List Int) (hw' : ws'.length = 8) : spl (stC t ws n rest) (u32s ws') 1 = stC t ws' n rest := by
  unfold spl
  rw [u32s_length, hw', stC, List.take_succ_cons, List.take_zero, show 1 + 8 = 8 + 1 from rfl, List.drop_succ_cons, List.drop_append_of_le_length (by rw [u32s_length, hw]; exact Nat.le_refl _), List.drop_of_length_le (by rw [u32s_length, hw]; exact Nat.le_refl _)]
  rfl
theorem stC_setRest (hw : ws.length = 8) (ys : List Int) (o : Nat) (ho : o + ys.length ≤ rest.length) : spl (stC t ws n rest) (u8s ys) (10 + o) = stC t ws n (splB rest ys o) := by
  obtain ⟨hd, hl, e⟩ := stC_ten t ws n hw
  rw [e rest, e, ← spl_u8]
  unfold spl
  rw [List.take_append, List.drop_append, hl]
  simp only [List.append_assoc]
  rw [List.take_of_length_le (by omega), List.drop_of_length_le (by omega)]
  simp only [List.nil_append]
  rw [show 10 + o - 10 = o by omega, show 10 + o + (u8s ys).length - 10 = o + (u8s ys).length by omega]
end

end Go.Proofs.YtnlpgkfmjlljdaaDoor
