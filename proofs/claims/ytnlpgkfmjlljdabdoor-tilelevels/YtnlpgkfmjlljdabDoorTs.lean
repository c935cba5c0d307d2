/-
  The law's own bytes of a tile in a log.
-/
import Derived.Test.YtnlpgkfmjlljdabDoorTq
import Derived.Test.YtnlpgkfmjlljdabDoorTg
namespace Go.Proofs.YtnlpgkfmjlljdabDoor
open Go.RowKit
set_option linter.unusedVariables false

theorem slice_DgT (g : Nat) (v : World) : (Instr.sliceAt 40 (.pointer (some ⟨g, 0, none⟩)) none none none).run Tryd.prog v = .ok (.slice (some ⟨g, 0, none⟩) 32 32) v := by kernel_rfl
theorem sb_ok {xs : List Int} {n b e : Nat} (h1 : b < e) (h2 : e ≤ n) : sbD xs n (b : Int) (e : Int) = root (sub xs b e) ∧ sbE n (b : Int) (e : Int) = 0 := by
  have h : ¬ ((b : Int) < 0 ∨ (e : Int) ≤ (b : Int) ∨ (n : Int) < (e : Int)) := by omega
  unfold sbD sbE
  rw [if_neg h, if_neg h]
  exact ⟨by simp, rfl⟩
set_option maxRecDepth 100000 in
set_option maxHeartbeats 2000000 in
theorem bytesL_any (a : Option Addr) (N cap : Nat) (xs : List Int) (h lv i wd M s X : Nat) (w : World) (hs : Ds w a N cap xs) (hk : KT w) (hh : isH h) (hM : h * lv = M) (hM48 : M ≤ 48) (hS : 2 ^ M = s) (hX : i * 2 ^ h = X) (hw : wd ≤ 256) (hle : (X + wd) * s ≤ N) :
    Calls Tryd.prog 12 #[.slice a N cap, .agg (c4 (h : Int) (lv : Int) (i : Int) (wd : Int)).toArray] w fun r w' => ∃ v, r = .returned v ∧ Own w' w.heap.size v (chk xs s (X * s) wd) ∧ Below w.heap.size w w' := by
  obtain ⟨h1, h8⟩ := hh.ints
  have hN := hs.hreach
  have hs0 : 0 < s := by rw [← hS]; exact Nat.two_pow_pos _
  have hsb : s ≤ 281474976710656 := by rw [← hS]; exact Nat.pow_le_pow_right (n := 2) (by decide) hM48
  have e1 : (lv : Int) * (h : Int) = (M : Int) := by rw [← hM, Int.natCast_mul, Int.mul_comm]
  have HSW : Hid (wrap64 (2 ^ M) = (s : Int)) := hide (by
    have e : ((2 : Int) ^ M) = (s : Int) := by rw [← hS]; simp [Int.natCast_pow]
    rw [e]
    exact w64 _ (by omega) (by omega))
  have hXs : X ≤ N := by
    have h2 : X * 1 ≤ X * s := Nat.mul_le_mul_left X hs0
    have h3 : X * s ≤ (X + wd) * s := Nat.mul_le_mul_right s (by omega)
    omega
  have e2 : (i : Int) * 2 ^ h = (X : Int) := by rw [← hX, Int.natCast_mul, Int.natCast_pow]; rfl
  have hi : i ≤ X := by
    have h2 := Nat.mul_le_mul_left i (show 1 ≤ 2 ^ h from Nat.two_pow_pos h)
    omega
  have hM' : (M : Int) ≤ 48 := by omega
  have hlv : lv ≤ 48 := by
    have := Nat.mul_le_mul_right lv hh.1
    rw [Nat.one_mul] at this
    omega
  have HS := hide hs
  have HK := hide hk
  have HXL := hide hs.hlen
  have HXB := hide hs.hbyte
  have HLE := hide hle
  have HE2 := hide e2
  clear hs hk hM hS hX hle hh e2
  go_enter Tryd.func12, Tryd.ntmps12
  go_wp2_with (first | (refine step_box (cs := c4 (h : Int) (lv : Int) (i : Int) (wd : Int)) rfl rfl ?_; intro w1 g1 hg1 hle1 hb1; have HG1 := hide hg1; have HB1 := hide hb1; clear hg1 hb1))
  go_loopw [5, 6] (fun o k wr => ∃ j : Nat, k = .int .i64 (j : Int) ∧ j ≤ wd ∧ Hid (Own wr w1.heap.size o (chk xs s (X * s) j)) ∧ Hid (Below w1.heap.size w1 wr)) (fun _ k _ => wd - (intOf k).toNat)
  case atStart => exact ⟨0, rfl, Nat.zero_le _, hide (Own.nil _ _), hide (Below.refl _ _)⟩
  case round =>
    obtain ⟨j, rfl, hj, HO, HB⟩ := hrel
    have GR := hide (HG1.out.on HB.out)
    obtain ⟨c0, c1, c2, c3⟩ := GR.out.four
    by_cases hc : j < wd
    · have hc' : (j : Int) < (wd : Int) := by omega
      have HJ1 : Hid (wrap64 ((j : Int) + 1) = ((j + 1 : Nat) : Int)) := hide (by unfold wrap64; omega)
      obtain ⟨Y, HY⟩ : ∃ Y, Hid (X + j = Y) := ⟨_, hide rfl⟩
      have e3 : (X : Int) + (j : Int) = (Y : Int) := by rw [← HY.out]; omega
      obtain ⟨AT, HAT⟩ : ∃ A, Hid (Y * s = A) := ⟨_, hide rfl⟩
      have e4 : (Y : Int) * (s : Int) = (AT : Int) := by rw [← HAT.out, Int.natCast_mul]
      obtain ⟨E, HE⟩ : ∃ A, Hid (AT + s = A) := ⟨_, hide rfl⟩
      have e5 : (AT : Int) + (s : Int) = (E : Int) := by rw [← HE.out]; omega
      have hYs : Y * s + s ≤ N := by
        have h2 : (Y + 1) * s ≤ (X + wd) * s := Nat.mul_le_mul_right s (by rw [← HY.out]; omega)
        rw [Nat.add_mul, Nat.one_mul] at h2
        have := HLE.out
        omega
      have hE : E ≤ N := by rw [← HE.out, ← HAT.out]; exact hYs
      have hAE : AT < E := by rw [← HE.out]; omega
      have hYb : Y ≤ N := by
        have h2 : Y * 1 ≤ Y * s := Nat.mul_le_mul_left Y hs0
        omega
      obtain ⟨q1, q2⟩ := sb_ok (xs := xs) hAE hE
      have hSub := fun v hv kv => sub_any a N cap (AT : Int) (E : Int) xs v hv kv
      rw [q1, q2] at hSub
      have HSub := hide hSub
      have HCK : Hid (chk xs s (X * s) (j + 1) = chk xs s (X * s) j ++ root (sub xs AT E)) := hide (by
        rw [chk_succ]
        have z1 : X * s + j * s = AT := by rw [← HAT.out, ← HY.out, Nat.add_mul]
        have z2 : X * s + (j + 1) * s = E := by rw [← HE.out, ← z1, Nat.add_mul]; omega
        rw [z1, z2])
      have HRL := hide (root_length (sub_length HXL.out (Nat.le_of_lt hAE) hE) (sub_isB HXB.out _ _))
      have HRB := hide (root_isB (sub_length HXL.out (Nat.le_of_lt hAE) hE) (sub_isB HXB.out AT E))
      have HCL : Hid ((chk xs s (X * s) j).length ≤ 8192) := hide (by
        have hjs : X * s + j * s ≤ N := by
          have h2 : (X + j) * s ≤ (X + wd) * s := Nat.mul_le_mul_right s (by omega)
          rw [Nat.add_mul] at h2
          have := HLE.out
          omega
        rw [chk_length HXL.out HXB.out hjs]
        omega)
      generalize root (sub xs AT E) = R at *
      have HRU : Hid ((u8s R).length = 32) := hide (by rw [u8s_length, HRL.out])
      clear hSub q1 q2 hYs
      have e2 := HE2.out
      go_wp2_with (simp only [HSW.out])
      refine (HSub.out _ ((HS.out.below HB1.out).below HB.out) (HK.out.below (on_below HB1.out HB.out) HK.out.lt)).mono ?_
      rintro r w2 ⟨rfl, hb2⟩
      have O2 := hide (HO.out.below hb2)
      have B2 := hide (on_below HB.out hb2)
      clear hb2 HO HB GR c0 c1 c2 c3 HSub e2
      go_wp2_with (first | (refine step_alloc zD rfl ?_; intro w3 g3 hg3 hle3 hb3; have HG3 := hide hg3; clear hg3; have xsl := slice_DgT g3) | (refine step_storeA wD rfl rfl rfl HG3.out HRU.out (One.u8 _) rfl ?_))
      intro w4 hg4 hbut4
      have hb4 : Below w2.heap.size w2 w4 := hb3.trans (hbut4.below hle3)
      have O4 := hide (O2.out.below hb4)
      have B4 := hide (on_below B2.out hb4)
      have S4 : Hid (Sl w4 (some ⟨g3, 0, none⟩) 32 32 R) := hide (by
        have := hg4.sl0 HRB.out (by rw [HRL.out]; decide)
        rwa [HRL.out] at this)
      clear hb4 hb3 hbut4 hle3 HG3 hg4 O2 B2
      go_wp2_with (refine step_append rfl rfl rfl O4.out S4.out (by have := HCL.out; omega) B4.out.size ?_)
      intro v5 w5 ho5 hg5 hn5
      rw [← HCK.out] at ho5
      have O5 := hide ho5
      have B5 := hide (B4.out.trans (Below.of_grown hg5 B4.out.size O4.out.lt))
      clear ho5 hg5 hn5 O4 B4 S4
      obtain ⟨a6, n6, c6, rfl⟩ : ∃ a n c, v5 = Value.slice a n c := by
        rcases O5.out.2 with ⟨e1, _⟩ | ⟨_, _, _, e1, _⟩ <;> exact ⟨_, _, _, e1⟩
      clear e3 e4 e5 hE hAE hYb HJ1 e1
      go_wp2
      go_roundw
      case rel => exact ⟨j + 1, by simp, hc, O5, B5⟩
      case measure => simp only [intOf]; omega
    · obtain rfl : j = wd := by omega
      go_wp2
      go_ret
      refine ⟨_, rfl, ?_, on_below HB1.out HB.out⟩
      obtain ⟨z1, z2⟩ := HO.out
      refine ⟨z1, ?_⟩
      rcases z2 with z2 | ⟨g, cp, cur, e, hg, r⟩
      · exact .inl z2
      · exact .inr ⟨g, cp, cur, e, Nat.le_trans HB1.out.size hg, r⟩

end Go.Proofs.YtnlpgkfmjlljdabDoor
