/-
  Which tiles may be: the program's Valid.
-/
import Derived.Test.YtlgcjdgcgnlcaaaGreatDoorTc
namespace Go.Proofs.YtlgcjdgcgnlcaaaGreatDoor
open Go.RowKit
set_option linter.unusedVariables false

/-- A tile that may be. -/
def tOK (h l i n : Int) : Prop := ∃ H L I N : Nat, h = (H : Int) ∧ l = (L : Int) ∧ i = (I : Int) ∧ n = (N : Int) ∧ isH H ∧ 1 ≤ N ∧ N ≤ tW H L I 281474976710656
theorem tW_bd {h l i n : Nat} (hh : isH h) (hn : n ≤ 281474976710656) (hw : 0 < tW h l i n) : h * l ≤ 48 ∧ i < 281474976710656 ∧ l ≤ 48 := by
  have h1 : h * l ≤ 48 := by
    rcases Nat.lt_or_ge 48 (h * l) with hg | hg
    · rw [tW_none (tOv_high hn hg)] at hw; omega
    · exact hg
  have h2 : i < 281474976710656 := by
    have hp := hh.pow.1
    have hle := Nat.le_trans (tOv_le h l n) hn
    unfold tW at hw
    have : i * 2 ^ h < tOv h l n := by
      generalize i * 2 ^ h = x at *
      generalize tOv h l n = y at *
      generalize 2 ^ h = z at *
      omega
    have h3 := Nat.mul_le_mul_left i (show 1 ≤ 2 ^ h by omega)
    rw [Nat.mul_one] at h3
    omega
  refine ⟨h1, h2, ?_⟩
  have := Nat.mul_le_mul_right l hh.1
  rw [Nat.one_mul] at this
  omega
set_option maxRecDepth 100000 in
theorem validT_any (h l i n : Int) (hl : l ≤ 9223372036854775807) (hi : i ≤ 9223372036854775807) : ∃ q : Bool, (q = true ↔ tOK h l i n) ∧ ∀ w : World,
    Calls Tryz.prog 46 #[.agg (c4 h l i n).toArray] w fun r w' => r = .returned (.bool q) ∧ Below w.heap.size w w' := by
  by_cases hb : h < 1 ∨ 8 < h ∨ l < 0 ∨ i < 0
  · have he : ¬ wdE h l i 281474976710656 = 0 := by unfold wdE; split <;> decide
    have HW := hide (fun v => width_bad h l i 281474976710656 v (.inl hb))
    generalize wdE h l i 281474976710656 = E at *
    refine ⟨false, ⟨(fun e => by cases e), fun ⟨H, L, I, N, e1, e2, e3, e4, hH, _⟩ => by have := hH.1; have := hH.2; omega⟩, fun w => ?_⟩
    clear hb
    go_enter Tryz.func46, Tryz.ntmps46
    go_wp2_with (first | (refine step_box (cs := c4 h l i n) rfl rfl ?_; intro w1 g1 hg1 hle1 hb1; have HG1 := hide hg1; obtain ⟨c0, c1, c2, _⟩ := hg1.four; clear hg1))
    refine (HW.out _).mono ?_
    rintro r w2 ⟨rfl, hb2⟩
    obtain ⟨_, _, _, c3⟩ := (HG1.out.on hb2).four
    have q2 := on_below hb1 hb2
    clear HG1 hb1 hb2 c0 c1 c2
    go_wp2
    go_ret
    exact ⟨rfl, q2⟩
  · obtain ⟨H, rfl⟩ : ∃ H : Nat, h = (H : Int) := ⟨h.toNat, by omega⟩
    obtain ⟨L, rfl⟩ : ∃ H : Nat, l = (H : Int) := ⟨l.toNat, by omega⟩
    obtain ⟨I, rfl⟩ : ∃ H : Nat, i = (H : Int) := ⟨i.toNat, by omega⟩
    have hH : isH H := ⟨by omega, by omega⟩
    have HW := hide (fun v => width_ok H L I 281474976710656 v hH (by omega) (by omega) (by omega))
    rw [show ((281474976710656 : Nat) : Int) = 281474976710656 from rfl] at HW
    have hiff : tOK (H : Int) (L : Int) (I : Int) n ↔ 1 ≤ n ∧ n ≤ (tW H L I 281474976710656 : Int) := by
      constructor
      · rintro ⟨H', L', I', N, e1, e2, e3, rfl, _, h1, h2⟩
        obtain rfl : H = H' := by omega
        obtain rfl : L = L' := by omega
        obtain rfl : I = I' := by omega
        omega
      · rintro ⟨h1, h2⟩
        exact ⟨H, L, I, n.toNat, rfl, rfl, rfl, by omega, hH, by omega, by omega⟩
    have HIF := hide hiff
    generalize tW H L I 281474976710656 = W at *
    clear hb hiff
    by_cases h1 : 1 ≤ n
    · have h1' : n ≥ 1 := h1
      by_cases h2 : n ≤ (W : Int)
      · refine ⟨true, ⟨fun _ => HIF.out.2 ⟨h1, h2⟩, fun _ => rfl⟩, fun w => ?_⟩
        generalize (H : Int) = h at *
        generalize (L : Int) = l at *
        generalize (I : Int) = i at *
        go_enter Tryz.func46, Tryz.ntmps46
        go_wp2_with (first | (refine step_box (cs := c4 h l i n) rfl rfl ?_; intro w1 g1 hg1 hle1 hb1; have HG1 := hide hg1; obtain ⟨c0, c1, c2, _⟩ := hg1.four; clear hg1))
        refine (HW.out _).mono ?_
        rintro r w2 ⟨rfl, hb2⟩
        obtain ⟨_, _, _, c3⟩ := (HG1.out.on hb2).four
        have q2 := on_below hb1 hb2
        clear HG1 hb1 hb2 c0 c1 c2
        go_wp2
        go_ret
        exact ⟨rfl, q2⟩
      · refine ⟨false, ⟨(fun e => by cases e), fun e => absurd (HIF.out.1 e).2 h2⟩, fun w => ?_⟩
        have h2' : decide (n ≤ (W : Int)) = false := by simp; omega
        generalize (H : Int) = h at *
        generalize (L : Int) = l at *
        generalize (I : Int) = i at *
        go_enter Tryz.func46, Tryz.ntmps46
        go_wp2_with (first | (refine step_box (cs := c4 h l i n) rfl rfl ?_; intro w1 g1 hg1 hle1 hb1; have HG1 := hide hg1; obtain ⟨c0, c1, c2, _⟩ := hg1.four; clear hg1))
        refine (HW.out _).mono ?_
        rintro r w2 ⟨rfl, hb2⟩
        obtain ⟨_, _, _, c3⟩ := (HG1.out.on hb2).four
        have q2 := on_below hb1 hb2
        clear HG1 hb1 hb2 c0 c1 c2
        go_wp2
        go_ret
        exact ⟨rfl, q2⟩
    · refine ⟨false, ⟨(fun e => by cases e), fun e => absurd (HIF.out.1 e).1 h1⟩, fun w => ?_⟩
      have h1' : ¬ n ≥ 1 := h1
      generalize (H : Int) = h at *
      generalize (L : Int) = l at *
      generalize (I : Int) = i at *
      go_enter Tryz.func46, Tryz.ntmps46
      go_wp2_with (first | (refine step_box (cs := c4 h l i n) rfl rfl ?_; intro w1 g1 hg1 hle1 hb1; have HG1 := hide hg1; obtain ⟨c0, c1, c2, _⟩ := hg1.four; clear hg1))
      refine (HW.out _).mono ?_
      rintro r w2 ⟨rfl, hb2⟩
      obtain ⟨_, _, _, c3⟩ := (HG1.out.on hb2).four
      have q2 := on_below hb1 hb2
      clear HG1 hb1 hb2 c0 c1 c2
      go_wp2
      go_ret
      exact ⟨rfl, q2⟩
theorem tOK.n_bd {h l i n : Int} (k : tOK h l i n) : 1 ≤ n ∧ n ≤ 256 := by
  obtain ⟨H, L, I, N, _, _, _, rfl, hH, h1, h2⟩ := k
  have := tW_le H L I 281474976710656
  have := hH.pow.2
  omega

end Go.Proofs.YtlgcjdgcgnlcaaaGreatDoor
