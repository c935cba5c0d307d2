/-
  octet, ported from round 1 (Hex2).
-/
import Derived.Test.YtgfmncgdajhmfaaOApp
import Derived.Test.YtgfmncgdajhmfaaODigit
import Derived.Test.YtgfmncgdajhmfaaOPut
namespace Go.Proofs.Ytgfmncgdajhmfaa
open Go.RowKit
set_option linter.unusedVariables false

def hexT : List Int := [48, 49, 50, 51, 52, 53, 54, 55, 56, 57, 97, 98, 99, 100, 101, 102]
/-- The digit of a number below 16. -/
def hd (x : Int) : Int := hexT.getD x.toNat 0
/-- Two digits a byte. -/
def hexB (xs : List Int) : List Int := xs.flatMap fun x => [hd (x / 16), hd (x % 16)]

theorem hd_fin : ∀ i : Fin 16, ((({ data := #[48, 49, 50, 51, 52, 53, 54, 55, 56, 57, 97, 98, 99, 100, 101, 102] } : ByteArray)[i.val]'i.isLt).toNat : Int) = hd (i.val : Int) := by decide +kernel
theorem hd_get (y : Int) (h0 : 0 ≤ y) (h1 : y < 16) (hp : y.toNat < ({ data := #[48, 49, 50, 51, 52, 53, 54, 55, 56, 57, 97, 98, 99, 100, 101, 102] } : ByteArray).size) :
    ((({ data := #[48, 49, 50, 51, 52, 53, 54, 55, 56, 57, 97, 98, 99, 100, 101, 102] } : ByteArray)[y.toNat]'hp).toNat : Int) = hd y := by
  obtain ⟨n, rfl⟩ := Int.eq_ofNat_of_zero_le h0
  exact hd_fin ⟨n, by omega⟩
theorem hd_bd (y : Int) : 0 ≤ hd y ∧ hd y ≤ 255 := by
  have h : isB hexT := by
    intro x hx
    simp only [hexT, List.mem_cons, List.not_mem_nil, or_false] at hx
    omega
  exact h.get y.toNat

theorem hexB_length (xs : List Int) : (hexB xs).length = 2 * xs.length := by
  induction xs with
  | nil => rfl
  | cons x l ih => simp only [hexB, List.flatMap_cons, List.length_append, List.length_cons, List.length_nil] at ih ⊢; omega
theorem hexB_isB (xs : List Int) : isB (hexB xs) := by
  intro y hy
  simp only [hexB, List.mem_flatMap] at hy
  obtain ⟨x, _, hx⟩ := hy
  simp at hx
  rcases hx with rfl | rfl
  · exact hd_bd _
  · exact hd_bd _
theorem hexB_succ (xs : List Int) (k : Nat) (h : k < xs.length) : hexB (xs.take (k + 1)) = hexB (xs.take k) ++ [hd (xs.getD k 0 / 16), hd (xs.getD k 0 % 16)] := by
  have e : xs.getD k 0 = xs[k] := by simp [List.getD, h]
  rw [List.take_succ_eq_append_getElem h, hexB, List.flatMap_append, e]
  rfl
theorem two_step (X : List Int) (n r : Nat) (hn : X.length = n) (A C : Int) : ((X ++ zer (r + 2)).set n A).set (n + 1) C = X ++ [A, C] ++ zer r := by
  subst hn
  have hz : zer (r + 2) = 0 :: 0 :: zer r := by simp [zer, List.replicate_succ]
  rw [hz, List.set_append_right _ _ (Nat.le_refl _), List.set_append_right _ _ (by omega)]
  simp

set_option maxHeartbeats 400000 in
theorem hex_any (a : Option Addr) (len cap : Nat) (xs : List Int) (w : World) (hs : Sl w a len cap xs) (hl : len ≤ 8388608) :
    Calls Try.prog 8 #[.slice a len cap] w fun e w' => e = .returned (.string (str (hexB xs))) ∧ Below w.heap.size w w' := by
  have HS := hide hs
  clear hs
  go_enter Try.func8, Try.ntmps8
  go_wp2_with (refine step_make (2 * len) rfl rfl rfl (by omega) (by omega) (by omega) ?_)
  intro w1 g hr hg hb
  go_wp2
  go_loopw [11] (fun i wr => ∃ k : Nat, k ≤ len ∧ i = .int .i64 k ∧ Row wr g 5 (hexB (xs.take k) ++ zer (2 * (len - k))) ∧ Below w.heap.size w wr) (fun i _ => len - (intOf i).toNat)
  case atStart => exact ⟨0, by omega, rfl, by simpa [hexB] using hr, hb⟩
  case round =>
    obtain ⟨k, hk, rfl, hr1, hb1⟩ := hrel
    by_cases hlt : k < len
    · obtain ⟨b, off, e, hc⟩ := HS.out.hcell (by omega)
      subst e
      have hck : wr.cell? ⟨b, off + k, none⟩ = some (.int .u8 (xs.getD k 0)) := by
        have := hc k hlt
        rw [hb1.cell (World.block_lt_of_cell? w _ this)]; exact this
      have hne : b ≠ g := by have h := World.block_lt_of_cell? w _ (hc k hlt); simp only at h; omega
      have bx := HS.out.hbyte.get k
      obtain ⟨x, hx⟩ : ∃ x, x = xs.getD k 0 := ⟨_, rfl⟩
      rw [← hx] at bx hck
      have HX := hide hx
      clear hx hc
      obtain ⟨x0, x1⟩ := bx
      have hll : (hexB (xs.take k) ++ zer (2 * (len - k))).length = 2 * len := by
        rw [List.length_append, hexB_length, zer_length, List.length_take, HS.out.hlen]; omega
      have hc0 := hr1.cell (2 * k) (by omega)
      have hf0 := hr1.free (2 * k)
      have hc1 := hr1.cell (2 * k + 1) (by omega)
      have hf1 := hr1.free (2 * k + 1)
      have HE := hide (hexB_succ xs k (by rw [HS.out.hlen]; exact hlt))
      have HL := hide (show (hexB (xs.take k)).length = 2 * k by rw [hexB_length, List.length_take, HS.out.hlen]; omega)
      clear hll
      go_wp2
      go_roundw
      case rel =>
        have q0 := hd_get (x / 16) (by omega) (by omega) (by show _ < 16; omega)
        have q1 := hd_get (x % 16) (by omega) (by omega) (by show _ < 16; omega)
        have e := (hr1.set (2 * k) (hd (x / 16))).set (2 * k + 1) (hd (x % 16))
        have hz : 2 * (len - k) = 2 * (len - (k + 1)) + 2 := by omega
        rw [hz, two_step _ _ _ HL.out, ← q0, ← q1] at e
        refine ⟨k + 1, by omega, by go_num, ?_, (hb1.setCell hg _).setCell hg _⟩
        rw [HE.out, ← HX.out, ← q0, ← q1]
        exact e
      case measure => simp [intOf]; omega
    · have hkl : k = len := by omega
      subst hkl
      have e1 : hexB (xs.take k) ++ zer (2 * (k - k)) = hexB xs := by
        rw [List.take_of_length_le (by rw [HS.out.hlen]; exact Nat.le_refl _), Nat.sub_self]; simp [zer]
      rw [e1] at hr1
      have hln : (hexB xs).length = 2 * k := by rw [hexB_length, HS.out.hlen]
      have sl := hr1.sl (hexB_isB xs) (by omega)
      rw [hln] at sl
      have SL := hide sl
      clear sl hln e1
      go_wp2_with (refine step_toStr rfl rfl SL.out ?_)
      go_ret
      exact ⟨rfl, hb1⟩

end Go.Proofs.Ytgfmncgdajhmfaa
