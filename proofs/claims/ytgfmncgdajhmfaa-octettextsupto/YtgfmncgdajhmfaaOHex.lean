/-
  octet, ported from round 1 (Hex).
-/
import Derived.Test.YtgfmncgdajhmfaaODigit
import Derived.Test.YtgfmncgdajhmfaaOPutD
namespace Go.Proofs.Ytgfmncgdajhmfaa
open Go.RowKit
set_option linter.unusedVariables false

/-- The digits to the base 16. -/
def hexS : ByteArray := { data := #[48, 49, 50, 51, 52, 53, 54, 55, 56, 57, 97, 98, 99, 100, 101, 102] }
def hexL : List UInt8 := hexS.data.toList
def hv (c : UInt8) : Int := pl hexL c
/-- The byte of two digits. -/
def hb (S : List UInt8) (i : Nat) : Int := hv (S.getD (2 * i) 0) * 16 + hv (S.getD (2 * i + 1) 0)
/-- The bytes that a text of digits tells. -/
def unhexB (S : List UInt8) : List Int := (List.range (S.length / 2)).map (hb S)
/-- Unhex's three answers. -/
def uxB (S : List UInt8) : List Int := if fb hexL S < S.length ∨ S.length % 2 ≠ 0 then [] else unhexB S
def uxAt (S : List UInt8) : Nat := if fb hexL S < S.length then fb hexL S else if S.length % 2 ≠ 0 then S.length else 0
def uxE (S : List UInt8) : Int := if fb hexL S < S.length ∨ S.length % 2 ≠ 0 then 11 else 0

theorem hv_bd (S : List UInt8) (h : ¬ fb hexL S < S.length) (i : Nat) (hi : i < S.length) : 0 ≤ hv (S.getD i 0) ∧ hv (S.getD i 0) ≤ 15 := by
  have h1 := pl_bd hexL (S.getD i 0)
  have hl : hexL.length = 16 := rfl
  have h2 : ¬ pl hexL S[i] < 0 := by
    have hlen : fb hexL S = S.length := by
      have := List.findIdx_le_length (p := fun c => decide (pl hexL c < 0)) (xs := S)
      unfold fb at h ⊢
      omega
    unfold fb at hlen
    have := List.findIdx_eq_length.1 hlen S[i] (List.getElem_mem hi)
    simpa using this
  have e : S.getD i 0 = S[i] := by simp [List.getD, hi]
  unfold hv
  rw [e] at h1 ⊢
  omega

theorem hb_bd (S : List UInt8) (h : ¬ fb hexL S < S.length) (i : Nat) (hi : 2 * i + 1 < S.length) : 0 ≤ hb S i ∧ hb S i ≤ 255 := by
  have h1 := hv_bd S h (2 * i) (by omega)
  have h2 := hv_bd S h (2 * i + 1) hi
  unfold hb
  omega

theorem unhexB_isB (S : List UInt8) (h : ¬ fb hexL S < S.length) : isB (unhexB S) := by
  intro x hx
  simp only [unhexB, List.mem_map, List.mem_range] at hx
  obtain ⟨i, hi, rfl⟩ := hx
  exact hb_bd S h i (by omega)

theorem unhexB_length (S : List UInt8) : (unhexB S).length = S.length / 2 := by simp [unhexB]
theorem unhexB_get (S : List UInt8) (k : Nat) (h : k < S.length / 2) : (unhexB S).getD k 0 = hb S k := by simp [unhexB, List.getD, h]

/-- A slice that the call made: nil and empty, or a row of its own. -/
def NewB (w : World) (B : Nat) (v : Value) (xs : List Int) : Prop :=
  (v = .slice none 0 0 ∧ xs = []) ∨ ∃ g, v = .slice (some ⟨g, 0, none⟩) xs.length xs.length ∧ B ≤ g ∧ Row w g 5 xs

theorem i64_in (x : Int) (h0 : -9223372036854775808 ≤ x) (h1 : x ≤ 9223372036854775807) : IntKind.i64.wrap x = x := by
  have e : IntKind.i64.wrap x = wrap64 x := by
    simp [IntKind.wrap, IntKind.bits, IntKind.signed, wrap64]
    split <;> omega
  rw [e]
  exact IntWalk.wrap64_in x ⟨h0, h1⟩

theorem or_hex_fin : ∀ a b : Fin 16, bits BinOp.or IntKind.i64 (wrap64 ((a.val : Int) * 16)) (b.val : Int) % 256 = (a.val : Int) * 16 + b.val := by decide +kernel
theorem or_hex (x y : Int) (h0 : 0 ≤ x) (h1 : x ≤ 15) (h2 : 0 ≤ y) (h3 : y ≤ 15) : bits BinOp.or IntKind.i64 (wrap64 (x * 16)) y % 256 = x * 16 + y := by
  obtain ⟨a, rfl⟩ := Int.eq_ofNat_of_zero_le h0
  obtain ⟨b, rfl⟩ := Int.eq_ofNat_of_zero_le h2
  exact or_hex_fin ⟨a, by omega⟩ ⟨b, by omega⟩

set_option maxHeartbeats 400000 in
theorem unhex_any (s : ByteArray) (w : World) (hs : s.size ≤ 8388608) :
    Calls Try.prog 7 #[.string s] w fun e w' => ∃ v, e = .returned (.tuple #[v, .int .i64 (uxAt s.data.toList), .int .i64 (uxE s.data.toList)]) ∧ NewB w' w.heap.size v (uxB s.data.toList) ∧ Below w.heap.size w w' := by
  have hsz : s.data.toList.length = s.size := by simp
  by_cases hf : fb hexL s.data.toList < s.data.toList.length
  · have e1 : uxAt s.data.toList = fb hexL s.data.toList := by rw [uxAt, if_pos hf]
    have e2 : uxE s.data.toList = 11 := by rw [uxE, if_pos (.inl hf)]
    have e3 : uxB s.data.toList = [] := by rw [uxB, if_pos (.inl hf)]
    have e4 := hide (show fbAt hexL s.data.toList = fb hexL s.data.toList by rw [fbAt, if_pos hf])
    have e5 := hide (show fbF hexL s.data.toList = true by rw [fbF]; exact decide_eq_true hf)
    rw [e1, e2, e3]
    clear e1 e2 e3 hf hsz
    go_enter Try.func7, Try.ntmps7
    go_wp2_with (first | (go_at_call 19; refine (valueAmong_any _ _).mono ?_; rintro e w1 ⟨g, rfl, hg, hb⟩) | (go_at_call 20; refine (firstNoDigit_any hexS s g _ hs hg).mono ?_; rintro e w2 ⟨rfl, rfl⟩; rw [show hexS.data.toList = hexL from rfl, e4.out, e5.out]))
    go_ret3
    exact ⟨_, rfl, .inl ⟨rfl, rfl⟩, hb⟩
  by_cases ho : s.data.toList.length % 2 ≠ 0
  · have e1 : uxAt s.data.toList = s.size := by rw [uxAt, if_neg hf, if_pos ho, hsz]
    have e2 : uxE s.data.toList = 11 := by rw [uxE, if_pos (.inr ho)]
    have e3 : uxB s.data.toList = [] := by rw [uxB, if_pos (.inr ho)]
    have e4 := hide (show fbAt hexL s.data.toList = 0 by rw [fbAt, if_neg hf])
    have e5 := hide (show fbF hexL s.data.toList = false by rw [fbF]; exact decide_eq_false hf)
    have hodd : (((s.size : Int) % 2) != 0) = true := by rw [hsz] at ho; simp; omega
    rw [e1, e2, e3]
    clear e1 e2 e3 hf hsz ho
    go_enter Try.func7, Try.ntmps7
    go_wp2_with (first | (go_at_call 19; refine (valueAmong_any _ _).mono ?_; rintro e w1 ⟨g, rfl, hg, hb⟩) | (go_at_call 20; refine (firstNoDigit_any hexS s g _ hs hg).mono ?_; rintro e w2 ⟨rfl, rfl⟩; rw [show hexS.data.toList = hexL from rfl, e4.out, e5.out]))
    go_ret3
    exact ⟨_, rfl, .inl ⟨rfl, rfl⟩, hb⟩
  · have e1 : uxAt s.data.toList = 0 := by rw [uxAt, if_neg hf, if_neg ho]
    have e2 : uxE s.data.toList = 0 := by rw [uxE, if_neg (by omega)]
    have e3 : uxB s.data.toList = unhexB s.data.toList := by rw [uxB, if_neg (by omega)]
    have e4 := hide (show fbAt hexL s.data.toList = 0 by rw [fbAt, if_neg hf])
    have e5 := hide (show fbF hexL s.data.toList = false by rw [fbF]; exact decide_eq_false hf)
    have hev : (((s.size : Int) % 2) != 0) = false := by rw [hsz] at ho; simp; omega
    obtain ⟨m, hm⟩ : ∃ m, s.size = 2 * m := ⟨s.size / 2, by rw [hsz] at ho; omega⟩
    rw [e1, e2, e3]
    clear e1 e2 e3
    have HF := hide hf
    have HZ := hide hsz
    have HM := hide hm
    have hm1 : 2 * m ≤ s.size := by omega
    have hm2 : s.size ≤ 2 * m := by omega
    clear hf hsz ho hm
    go_enter Try.func7, Try.ntmps7
    go_wp2_with (first | (go_at_call 19; refine (valueAmong_any _ _).mono ?_; rintro e w1 ⟨g, rfl, hg, hb⟩) | (go_at_call 20; refine (firstNoDigit_any hexS s g _ hs hg).mono ?_; rintro e w2 ⟨rfl, rfl⟩; rw [show hexS.data.toList = hexL from rfl, e4.out, e5.out]) | (refine step_make m rfl rfl rfl (by omega) (by omega) (by omega) ?_))
    intro w3 g3 hr3 hg3 hb3
    have hgg := hb3.cell (World.block_lt_of_cell? w1 _ hg)
    rw [hg] at hgg
    have hbw := hb.trans (hb3.mono hb.size)
    have hne : g ≠ g3 := by have h := World.block_lt_of_cell? w1 _ hg; simp only at h; omega
    have HGG := hide hgg
    have hg3' : w.heap.size ≤ g3 := Nat.le_trans hb.size hg3
    clear hg hb hb3 hgg
    go_wp2
    go_loopw [30] (fun i wr => ∃ k : Nat, k ≤ m ∧ i = .int .i64 k ∧ Row wr g3 5 ([] ++ ((unhexB s.data.toList).take k ++ zer (m - k))) ∧ wr.cell? ⟨g, 0, none⟩ = some (.string hexS) ∧ Below w.heap.size w wr) (fun i _ => m - (intOf i).toNat)
    case atStart => exact ⟨0, by omega, rfl, by simpa using hr3, HGG.out, hbw⟩
    case round =>
      obtain ⟨k, hk, rfl, hr1, hc1, hb1⟩ := hrel
      have HC := hide hc1
      clear hc1
      by_cases hlt : k < m
      · have hx : Hid (2 * k + 1 < s.data.toList.length) := by show _ < _; rw [HZ.out]; omega
        have b0 := hv_bd s.data.toList HF.out (2 * k) (by have := hx.out; omega)
        have b1 := hv_bd s.data.toList HF.out (2 * k + 1) hx.out
        have g0 : s.data.toList.getD (2 * k) 0 = s[2 * k]'(by omega) := by
          simp only [List.getD]; rw [List.getElem?_eq_getElem (by have := hx.out; omega)]; rfl
        have g1 : s.data.toList.getD (2 * k + 1) 0 = s[2 * k + 1]'(by omega) := by
          simp only [List.getD]; rw [List.getElem?_eq_getElem hx.out]; rfl
        have HB := hide (show hb s.data.toList k = hv (s[2 * k]'(by omega)) * 16 + hv (s[2 * k + 1]'(by omega)) by rw [hb, g0, g1])
        rw [g0] at b0
        rw [g1] at b1
        obtain ⟨b00, b01⟩ := b0
        obtain ⟨b10, b11⟩ := b1
        have hl1 : ([] ++ ((unhexB s.data.toList).take k ++ zer (m - k))).length = m := by simp [unhexB_length, zer_length, HM.out]; omega
        have hcell := hr1.cell k (by omega)
        have hfree := hr1.free k
        have i0 : (2 * (k : Int)) < s.size := by omega
        have i1 : (2 * (k : Int) + 1) < s.size := by omega
        have hw0 : IntKind.i64.wrap (2 * (k : Int)) = 2 * (k : Int) := i64_in _ (by omega) (by omega)
        have hw1 : IntKind.i64.wrap (2 * (k : Int) + 1) = 2 * (k : Int) + 1 := i64_in _ (by omega) (by omega)
        have ht0 : (2 * (k : Int)).toNat = 2 * k := by omega
        have ht1 : (2 * (k : Int) + 1).toNat = 2 * k + 1 := by omega
        have p0 : (0 : Int) ≤ 2 * (k : Int) := by omega
        have p1 : (0 : Int) ≤ 2 * (k : Int) + 1 := by omega
        clear hl1 g0 g1
        go_wp2
        go_region_with (go_at_call 26; refine (value_any hexS _ g _ (by exact HC.out)).mono ?_; rintro e w' ⟨rfl, rfl⟩)
        all_goals
          go_wp2
          go_roundw
          case rel =>
            have e := hr1.set k (hb s.data.toList k)
            have e2 := fill_step [] (unhexB s.data.toList) 0 m k rfl (by rw [unhexB_length, HZ.out, HM.out]; omega) hlt
            rw [Nat.zero_add, unhexB_get _ k (by rw [HZ.out, HM.out]; omega)] at e2
            rw [e2, HB.out, ← or_hex _ _ b00 b01 b10 b11] at e
            refine ⟨k + 1, by omega, by go_num, e, ?_, (hb1.setCell hg3' _).drew⟩
            exact (World.cell?_of_block (heap_setCell_other _ _ _ _ hne)).trans HC.out
          case measure => simp [intOf]; omega
      · have hkm : k = m := by omega
        subst hkm
        go_wp2
        go_ret3
        have hul : (unhexB s.data.toList).length = k := by rw [unhexB_length, HZ.out, HM.out]; omega
        refine ⟨.slice (some ⟨g3, 0, none⟩) k k, rfl, .inr ⟨g3, by rw [hul], hg3', ?_⟩, hb1⟩
        rw [List.take_of_length_le (by omega), Nat.sub_self] at hr1
        simpa [zer] using hr1

end Go.Proofs.Ytgfmncgdajhmfaa
