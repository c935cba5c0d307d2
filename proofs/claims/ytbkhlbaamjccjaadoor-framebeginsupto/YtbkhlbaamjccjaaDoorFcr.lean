/-
  The sums of bytes: the program's Extend and Sum, and the document's.
-/
import Derived.Test.YtbkhlbaamjccjaaDoorFcn
import Derived.Test.YtbkhlbaamjccjaaDoorFba
namespace Go.Proofs.YtbkhlbaamjccjaaDoor
open Go.RowKit
set_option linter.unusedVariables false

theorem not32 (s : Nat) (hs : s < 4294967296) : bits .xor .u32 IntKind.u32.max (s : Int) = ((4294967295 - s : Nat) : Int) := by
  have h0 : IntKind.u32.max = ((4294967295 : Nat) : Int) := rfl
  rw [h0, u32_xor_nat _ _ (by decide) hs]
  congr 1
  apply Nat.eq_of_testBit_eq
  intro i
  have e1 : (4294967295 : Nat) = 2 ^ 32 - 1 := rfl
  have e2 : 4294967295 - s = 2 ^ 32 - (s + 1) := by omega
  rw [e2, Nat.testBit_two_pow_sub_succ hs, Nat.testBit_xor, e1, Nat.testBit_two_pow_sub_one]
  by_cases hi : i < 32
  · simp [hi]
  · have : s.testBit i = false := Nat.testBit_lt_two_pow (Nat.lt_of_lt_of_le hs (Nat.pow_le_pow_right (show 2 > 0 by decide) (show 32 ≤ i by omega)))
    simp [hi, this]
theorem sh4 (r : Nat) : ((r : Int) / 16) = ((r / 16 : Nat) : Int) := by omega
theorem and15 (r : Nat) (hr : r < 4294967296) : bits .and .u32 (r : Int) 15 = ((r % 16 : Nat) : Int) := by
  have := u32_and_nat r 15 hr (by decide)
  rw [show ((15 : Nat) : Int) = 15 from rfl] at this
  rw [this, Nat.and_two_pow_sub_one_eq_mod r 4]
theorem and1 (r : Nat) (hr : r < 4294967296) : bits .and .u32 (r : Int) 1 = ((r % 2 : Nat) : Int) := by
  have := u32_and_nat r 1 hr (by decide)
  rw [show ((1 : Nat) : Int) = 1 from rfl] at this
  rw [this, Nat.and_two_pow_sub_one_eq_mod r 1]
theorem fd_lt (i : Nat) (h : i < 16) : fdL.getD i 0 < 4294967296 := by
  revert h; revert i; decide
theorem nb_val (r : Nat) (hr : r < 4294967296) : bits .xor .u32 ((r / 16 : Nat) : Int) ((fdL.getD (r % 16) 0 : Nat) : Int) = ((nb r : Nat) : Int) := by
  rw [u32_xor_nat _ _ (by omega) (fd_lt _ (by omega))]; rfl
theorem nb_lt (r : Nat) (hr : r < 4294967296) : nb r < 4294967296 := by rw [nb_is]; exact stN_lt 4 r hr
theorem xor_val (r c : Nat) (hr : r < 4294967296) (hc : c < 256) : bits .xor .u32 (r : Int) (c : Int) = ((r ^^^ c : Nat) : Int) := u32_xor_nat _ _ hr (by omega)
theorem xor_lt (r c : Nat) (hr : r < 4294967296) (hc : c < 256) : r ^^^ c < 4294967296 := Nat.xor_lt_two_pow (n := 32) hr (Nat.lt_trans hc (by decide))
theorem index_F (i : Nat) (I : Int) (hI : I = (i : Int)) (hi : i < 16) (w : World) : (Instr.indexAt 56 (.pointer (some ⟨0, 0, none⟩)) (.int .u32 I)).run Tryd.prog w = .ok (.pointer (some ⟨0, i, none⟩)) w := by
  subst hI
  have hT : Tryd.prog.underlying 56 = some (.array (Tryd.prog.arrayLen 56) (Tryd.prog.elem 56)) := by kernel_rfl
  have hn : Tryd.prog.arrayLen 56 = 16 := by kernel_rfl
  have hz : ∀ w, (sizeOf (Tryd.prog.elem 56)).run Tryd.prog w = .ok 1 w := fun _ => by kernel_rfl
  rw [run_indexAt_array w _ _ .u32 i hT, if_pos ⟨by omega, by rw [hn]; omega⟩, hz]
  simp only [Result.andThen_ok, Int.toNat_natCast, Nat.mul_one]
  rw [Addr.add_lit, Nat.zero_add]
theorem nib_step (r : Nat) (hr : r < 4294967296) : ∃ (h T : Int) (l : Nat), (r : Int) / 16 = h ∧ bits .and .u32 (r : Int) 15 = (l : Int) ∧ l < 16 ∧ kL.getD l 0 = T ∧ bits .xor .u32 h T = ((nb r : Nat) : Int) :=
  ⟨((r / 16 : Nat) : Int), ((fdL.getD (r % 16) 0 : Nat) : Int), r % 16, sh4 r, and15 r hr, by omega, kL_fd _ (by omega), nb_val r hr⟩
theorem crR_take (r : Nat) (xs : List Int) (k : Nat) (h : k < xs.length) : crR r (xs.take (k + 1)) = by8 (crR r (xs.take k)) (xs.getD k 0).toNat := by
  rw [List.take_succ_eq_append_getElem h, crR_snoc]
  simp [List.getD, h]

theorem sgn32 : IntKind.u32.signed = false := rfl
set_option maxHeartbeats 1000000 in
theorem extend_any (s : Nat) (a : Option Addr) (len cap : Nat) (xs : List Int) (w : World) (hsn : s < 4294967296) (hs : Sl w a len cap xs) (hk : KT w) :
    Calls Tryd.prog 11 #[.int .u32 (s : Int), .slice a len cap] w fun e w' => e = .returned (.int .u32 ((crE s xs : Nat) : Int)) ∧ w = w' := by
  have hl := hs.hreach
  have HX := hide hs.hlen
  have hb := hs.hbyte
  have HC := hide hs.hcell
  have hN := not32 s hsn
  have HK := hide hk
  have hsg := sgn32
  have hr0 : 4294967295 - s < 4294967296 := by omega
  obtain ⟨r0, HR0⟩ : ∃ r0, Hid (4294967295 - s = r0) := ⟨_, hide rfl⟩
  have HE : Hid (crE s xs = 4294967295 - crR r0 xs) := hide (by rw [crE, HR0.out])
  rw [HR0.out] at hN hr0
  rw [HE.out]
  clear hs hk HE HR0
  go_enter Tryd.func11, Tryd.ntmps11
  go_wp2
  clear hN
  go_loop [5, 12] (fun r i => ∃ k : Nat, k ≤ len ∧ i = .int .i64 k ∧ r = .int .u32 ((crR r0 (xs.take k) : Nat) : Int)) (fun _ i => len - (intOf i).toNat)
  case atStart => exact ⟨0, Nat.zero_le _, rfl, rfl⟩
  case round =>
    obtain ⟨k, hk, rfl, rfl⟩ := hrel
    have HLT := hide (crR_lt r0 (xs.take k) hr0 (hb.take k))
    by_cases hlt : k < len
    · have HS := hide (crR_take r0 xs k (by rw [HX.out]; exact hlt))
      obtain ⟨b, off, rfl, hce⟩ := HC.out (by omega)
      have hck := hce k hlt
      obtain ⟨c, HCV⟩ : ∃ c : Nat, Hid (xs.getD k 0 = (c : Int)) := by
        have := hb.get k
        exact ⟨(xs.getD k 0).toNat, hide (by omega)⟩
      have hc256 : c < 256 := by have := hb.get k; rw [HCV.out] at this; omega
      rw [HCV.out] at hck
      have HS2 : Hid (crR r0 (xs.take (k + 1)) = by8 (crR r0 (xs.take k)) c) := hide (by rw [HS.out, HCV.out]; rfl)
      obtain ⟨r, HR⟩ : ∃ r, Hid (crR r0 (xs.take k) = r) := ⟨_, hide rfl⟩
      rw [HR.out] at HLT HS2
      rw [HR.out]
      have hlt1 := HLT.out
      have x1 := b_at b off len cap k hlt
      have hwc : IntKind.u32.wrap (c : Int) = (c : Int) := by rw [IntKind.wrap_u32]; omega
      have e1 := xor_val r c hlt1 hc256
      obtain ⟨q, HQ⟩ : ∃ q, Hid (r ^^^ c = q) := ⟨_, hide rfl⟩
      have hq := xor_lt r c hlt1 hc256
      rw [HQ.out] at e1 hq
      obtain ⟨qh, qT, ql, e2, e3, hql, hqT, e4⟩ := nib_step q hq
      have x2 := index_F ql _ rfl hql
      have c2 := HK.out ql hql
      rw [hqT] at c2
      have hq2 := nb_lt q hq
      obtain ⟨p, HP⟩ : ∃ p, Hid (nb q = p) := ⟨_, hide rfl⟩
      rw [HP.out] at e4 hq2
      obtain ⟨ph, pT, pl, f2, f3, hpl, hpT, f4⟩ := nib_step p hq2
      have x3 := index_F pl _ rfl hpl
      have c3 := HK.out pl hpl
      rw [hpT] at c3
      clear hqT hpT
      have HF : Hid (nb p = by8 r c) := hide (by rw [← HP.out, ← HQ.out, nb2])
      obtain ⟨z, HZ⟩ : ∃ z, Hid (nb p = z) := ⟨_, hide rfl⟩
      rw [HZ.out] at f4 HF
      clear hce hb hsg HLT
      go_wp2
      refine ⟨⟨k + 1, by omega, by go_num, by rw [HS2.out, HF.out]⟩, ?_⟩
      simp [intOf]; omega
    · obtain rfl : k = len := by omega
      have hN2 := not32 (crR r0 (xs.take k)) HLT.out
      rw [List.take_of_length_le (by rw [HX.out]; exact Nat.le_refl _)] at hN2 ⊢
      clear HC hb HLT
      go_wp2
      go_ret
      exact ⟨rfl, rfl⟩
set_option maxHeartbeats 400000 in
theorem sum_any (a : Option Addr) (len cap : Nat) (xs : List Int) (w : World) (hs : Sl w a len cap xs) (hk : KT w) :
    Calls Tryd.prog 9 #[.slice a len cap] w fun e w' => e = .returned (.int .u32 ((crE 0 xs : Nat) : Int)) ∧ w = w' := by
  have HS := hide hs
  have HK := hide hk
  clear hs hk
  go_enter Tryd.func9, Tryd.ntmps9
  go_wp2_with (go_at_call 11; refine (extend_any 0 _ _ _ xs _ (by decide) HS.out HK.out).mono ?_; rintro e w' ⟨rfl, rfl⟩)
  go_ret
  exact ⟨rfl, rfl⟩

theorem st1_step (r : Nat) (hr : r < 4294967296) : ∃ (h l : Int), (r : Int) / 2 = h ∧ bits .and .u32 (r : Int) 1 = l ∧ (l = 0 ∨ l = 1) ∧ (l = 0 → h = ((st1 r : Nat) : Int)) ∧ (l = 1 → bits .xor .u32 h 3988292384 = ((st1 r : Nat) : Int)) := by
  refine ⟨((r / 2 : Nat) : Int), ((r % 2 : Nat) : Int), by omega, and1 r hr, by omega, fun h => ?_, fun h => ?_⟩
  · unfold st1
    rw [if_neg (by omega)]
  · have := u32_xor_nat (r / 2) pol (by omega) pol_lt
    unfold st1
    rw [if_pos (by omega), ← this]
    rfl
set_option maxHeartbeats 1000000 in
theorem extendR_any (s : Nat) (a : Option Addr) (len cap : Nat) (xs : List Int) (w : World) (hsn : s < 4294967296) (hs : Sl w a len cap xs) :
    Calls Tryd.prog 12 #[.int .u32 (s : Int), .slice a len cap] w fun e w' => e = .returned (.int .u32 ((crE s xs : Nat) : Int)) ∧ w = w' := by
  have hl := hs.hreach
  have HX := hide hs.hlen
  have hb := hs.hbyte
  have HC := hide hs.hcell
  have hN := not32 s hsn
  have hsg := sgn32
  have hr0 : 4294967295 - s < 4294967296 := by omega
  obtain ⟨r0, HR0⟩ : ∃ r0, Hid (4294967295 - s = r0) := ⟨_, hide rfl⟩
  have HE : Hid (crE s xs = 4294967295 - crR r0 xs) := hide (by rw [crE, HR0.out])
  rw [HR0.out] at hN hr0
  rw [HE.out]
  clear hs HE HR0
  go_enter Tryd.func12, Tryd.ntmps12
  go_wp2
  clear hN
  go_loop [5, 6] (fun r i => ∃ k : Nat, k ≤ len ∧ i = .int .i64 k ∧ r = .int .u32 ((crR r0 (xs.take k) : Nat) : Int)) (fun _ i => len - (intOf i).toNat)
  case atStart => exact ⟨0, Nat.zero_le _, rfl, rfl⟩
  case round =>
    obtain ⟨k, hk, rfl, rfl⟩ := hrel
    have HLT := hide (crR_lt r0 (xs.take k) hr0 (hb.take k))
    by_cases hlt : k < len
    · have HS := hide (crR_take r0 xs k (by rw [HX.out]; exact hlt))
      obtain ⟨b, off, rfl, hce⟩ := HC.out (by omega)
      have hck := hce k hlt
      obtain ⟨c, HCV⟩ : ∃ c : Nat, Hid (xs.getD k 0 = (c : Int)) := by
        have := hb.get k
        exact ⟨(xs.getD k 0).toNat, hide (by omega)⟩
      have hc256 : c < 256 := by have := hb.get k; rw [HCV.out] at this; omega
      rw [HCV.out] at hck
      have HS2 : Hid (crR r0 (xs.take (k + 1)) = by8 (crR r0 (xs.take k)) c) := hide (by rw [HS.out, HCV.out]; rfl)
      obtain ⟨r, HR⟩ : ∃ r, Hid (crR r0 (xs.take k) = r) := ⟨_, hide rfl⟩
      rw [HR.out] at HLT HS2
      rw [HR.out]
      have hlt1 := HLT.out
      have x1 := b_at b off len cap k hlt
      have hwc : IntKind.u32.wrap (c : Int) = (c : Int) := by rw [IntKind.wrap_u32]; omega
      have e1 := xor_val r c hlt1 hc256
      obtain ⟨q, HQ⟩ : ∃ q, Hid (r ^^^ c = q) := ⟨_, hide rfl⟩
      have hq := xor_lt r c hlt1 hc256
      rw [HQ.out] at e1 hq
      have HF : Hid (stN 8 q = by8 r c) := hide (by rw [← HQ.out]; rfl)
      clear hce hb hsg HLT HC HCV
      go_wp2
      clear e1 x1 hck hwc
      go_loop [5, 7] (fun y i => ∃ j : Nat, j ≤ 8 ∧ i = .int .i64 j ∧ y = .int .u32 ((stN j q : Nat) : Int)) (fun _ i => 8 - (intOf i).toNat)
      case atStart => exact ⟨0, by omega, rfl, rfl⟩
      case round =>
        obtain ⟨j, hj, rfl, rfl⟩ := hrel
        by_cases hj8 : j < 8
        · obtain ⟨h, l, g1, g2, g3, g4, g5⟩ := st1_step (stN j q) (stN_lt j q hq)
          have HN : Hid (stN (j + 1) q = st1 (stN j q)) := hide (stN_add j 1 q)
          obtain ⟨y, HY⟩ : ∃ y, Hid (stN j q = y) := ⟨_, hide rfl⟩
          rw [HY.out] at g1 g2 g4 g5 HN
          rw [HY.out]
          rcases g3 with rfl | rfl
          · have G4 := hide (g4 rfl)
            clear g4 g5
            go_wp2
            go_round
            case rel => exact ⟨j + 1, by omega, by go_num, by rw [HN.out, ← G4.out]⟩
            case measure => simp [intOf]; omega
          · have G5 := g5 rfl
            clear g4 g5
            go_wp2
            go_round
            case rel => exact ⟨j + 1, by omega, by go_num, by rw [HN.out]⟩
            case measure => simp [intOf]; omega
        · obtain rfl : j = 8 := by omega
          go_wp2
          go_round
          case rel => exact ⟨k + 1, by omega, by go_num, by rw [HS2.out, HF.out]⟩
          case measure => simp [intOf]; omega
    · obtain rfl : k = len := by omega
      have hN2 := not32 (crR r0 (xs.take k)) HLT.out
      rw [List.take_of_length_le (by rw [HX.out]; exact Nat.le_refl _)] at hN2 ⊢
      clear HC hb HLT
      go_wp2
      go_ret
      exact ⟨rfl, rfl⟩
set_option maxHeartbeats 400000 in
theorem sumR_any (a : Option Addr) (len cap : Nat) (xs : List Int) (w : World) (hs : Sl w a len cap xs) :
    Calls Tryd.prog 10 #[.slice a len cap] w fun e w' => e = .returned (.int .u32 ((crE 0 xs : Nat) : Int)) ∧ w = w' := by
  have HS := hide hs
  clear hs
  go_enter Tryd.func10, Tryd.ntmps10
  go_wp2_with (go_at_call 12; refine (extendR_any 0 _ _ _ xs _ (by decide) HS.out).mono ?_; rintro e w' ⟨rfl, rfl⟩)
  go_ret
  exact ⟨rfl, rfl⟩

end Go.Proofs.YtbkhlbaamjccjaaDoor
