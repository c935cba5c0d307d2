/-
  Contract of the document's Unhex.
-/
import Derived.Test.YtpfpgimhnmnhlaaHex
import Derived.Test.YtpfpgimhnmnhlaaApp
import Derived.Deep.RegionHeld3
namespace Go.Proofs.Ytpfpgimhnmnhlaa
open Go.RowKit
set_option linter.unusedVariables false

theorem unhexB_succ (S : List UInt8) (k : Nat) (h : k < S.length / 2) : (unhexB S).take (k + 1) = (unhexB S).take k ++ [hb S k] := by
  rw [List.take_succ_eq_append_getElem (by rw [unhexB_length]; exact h)]
  have e := unhexB_get S k h
  have hl : k < (unhexB S).length := by rw [unhexB_length]; exact h
  have e2 : (unhexB S).getD k 0 = (unhexB S)[k] := by simp [List.getD, hl]
  rw [← e2, e]

theorem hexS_size : hexS.size ≤ 1048576 := by show 16 ≤ 1048576; omega

set_option maxHeartbeats 1000000 in
theorem refUnhex_any (s : ByteArray) (w : World) (hs : s.size ≤ 1048576) :
    Calls Try.prog 23 #[.string s] w fun e w' => ∃ v, e = .returned (.tuple #[v, .int .i64 (uxAt s.data.toList), .int .i64 (uxE s.data.toList)]) ∧ Own w' w.heap.size v (uxB s.data.toList) ∧ Below w.heap.size w w' := by
  have hsz : s.data.toList.length = s.size := by simp
  have HZ := hide hsz
  clear hsz
  go_enter Try.func23, Try.ntmps23
  go_wp2
  go_loop [5] (fun i => ∃ k : Nat, k ≤ s.size ∧ i = .int .i64 k ∧ ∀ j (h : j < s.data.toList.length), j < k → 0 ≤ pl hexL (s.data.toList[j])) (fun i => s.size - (intOf i).toNat)
  case atStart => exact ⟨0, Nat.zero_le _, rfl, fun j _ h => absurd h (by omega)⟩
  case round =>
    obtain ⟨k, hk, rfl, hbefore⟩ := hrel
    have HB := hide hbefore
    clear hbefore
    by_cases hlt : k < s.size
    · have hgk : s.data.toList[k]'(by rw [HZ.out]; exact hlt) = s[k] := rfl
      have HK := hide hgk
      clear hgk
      by_cases hp : pl hexL s[k] < 0
      · have e : fb hexL s.data.toList = k := by
          rw [fb, List.findIdx_eq (by rw [HZ.out]; exact hlt)]
          exact ⟨decide_eq_true (by rw [HK.out]; exact hp), fun j hj => decide_eq_false (Int.not_lt.2 (HB.out j (by rw [HZ.out]; omega) hj))⟩
        have hf : fb hexL s.data.toList < s.data.toList.length := by rw [e, HZ.out]; exact hlt
        have E1 : Hid (uxAt s.data.toList = k) := by show _ = _; rw [uxAt, if_pos hf, e]
        have E2 : Hid (uxE s.data.toList = 11) := by show _ = _; rw [uxE, if_pos (.inl hf)]
        have E3 : Hid (uxB s.data.toList = []) := by show _ = _; rw [uxB, if_pos (.inl hf)]
        clear e hf
        have hp' : pl hexS.data.toList s[k] < 0 := hp
        clear hp
        go_wp2_with (go_at_call 39; refine (place_any hexS _ _ hexS_size).mono ?_; rintro e w' ⟨rfl, rfl⟩)
        go_ret3
        rw [E1.out, E2.out, E3.out]
        exact ⟨_, rfl, Own.nil _ _, Below.refl _ _⟩
      · have HP := hide (Int.not_lt.1 hp)
        have hp' : 0 ≤ pl hexS.data.toList s[k] := Int.not_lt.1 hp
        clear hp
        go_wp2_with (go_at_call 39; refine (place_any hexS _ _ hexS_size).mono ?_; rintro e w' ⟨rfl, rfl⟩)
        go_round
        case rel =>
          refine ⟨k + 1, by omega, by go_num, fun j h hj => ?_⟩
          by_cases h2 : j < k
          · exact HB.out j h h2
          · obtain rfl : j = k := by omega
            rw [HK.out]
            exact HP.out
        case measure => simp [intOf]; omega
    · have e : fb hexL s.data.toList = s.data.toList.length := by
        rw [fb]
        apply List.findIdx_eq_length.2
        intro x hx
        obtain ⟨j, hj, rfl⟩ := List.getElem_of_mem hx
        exact decide_eq_false (Int.not_lt.2 (HB.out j hj (by rw [HZ.out] at hj; omega)))
      have hf : ¬ fb hexL s.data.toList < s.data.toList.length := by omega
      have HF := hide hf
      clear e HB
      by_cases ho : s.data.toList.length % 2 ≠ 0
      · have E1 : Hid (uxAt s.data.toList = s.size) := by show _ = _; rw [uxAt, if_neg hf, if_pos ho, HZ.out]
        have E2 : Hid (uxE s.data.toList = 11) := by show _ = _; rw [uxE, if_pos (.inr ho)]
        have E3 : Hid (uxB s.data.toList = []) := by show _ = _; rw [uxB, if_pos (.inr ho)]
        have hodd : (((s.size : Int) % 2) != 0) = true := by rw [HZ.out] at ho; simp; omega
        clear ho hf
        go_wp2
        go_ret3
        rw [E1.out, E2.out, E3.out]
        exact ⟨_, rfl, Own.nil _ _, Below.refl _ _⟩
      · have E1 : Hid (uxAt s.data.toList = 0) := by show _ = _; rw [uxAt, if_neg hf, if_neg ho]
        have E2 : Hid (uxE s.data.toList = 0) := by show _ = _; rw [uxE, if_neg (by omega)]
        have E3 : Hid (uxB s.data.toList = unhexB s.data.toList) := by show _ = _; rw [uxB, if_neg (by omega)]
        have hev : (((s.size : Int) % 2) != 0) = false := by rw [HZ.out] at ho; simp; omega
        obtain ⟨m, hm⟩ : ∃ m, s.size = 2 * m := ⟨s.size / 2, by rw [HZ.out] at ho; omega⟩
        have HM := hide hm
        have hm1 : 2 * m ≤ s.size := by omega
        have hm2 : s.size ≤ 2 * m := by omega
        clear ho hf hm
        go_wp2
        go_loopw [6, 7] (fun v i wr => ∃ q : Nat, q ≤ m ∧ i = .int .i64 (2 * q) ∧ Own wr w.heap.size v ((unhexB s.data.toList).take q) ∧ Below w.heap.size w wr) (fun _ i _ => (2 * m - intOf i).toNat)
        case atStart => exact ⟨0, by omega, rfl, Own.nil _ _, Below.refl _ _⟩
        case round =>
          obtain ⟨q, hq, rfl, ho1, hb1⟩ := hrel
          by_cases hlt2 : q < m
          · have hx : Hid (2 * q + 1 < s.data.toList.length) := by show _ < _; rw [HZ.out]; omega
            have b0 := hv_bd s.data.toList HF.out (2 * q) (by have := hx.out; omega)
            have b1 := hv_bd s.data.toList HF.out (2 * q + 1) hx.out
            have g0 : s.data.toList.getD (2 * q) 0 = s[2 * q]'(by omega) := by
              simp only [List.getD]; rw [List.getElem?_eq_getElem (by have := hx.out; omega)]; rfl
            have g1 : s.data.toList.getD (2 * q + 1) 0 = s[2 * q + 1]'(by omega) := by
              simp only [List.getD]; rw [List.getElem?_eq_getElem hx.out]; rfl
            have HBQ := hide (show hb s.data.toList q = hv (s[2 * q]'(by omega)) * 16 + hv (s[2 * q + 1]'(by omega)) by rw [hb, g0, g1])
            rw [g0] at b0
            rw [g1] at b1
            obtain ⟨x, hxe⟩ : ∃ x, x = pl hexS.data.toList (s[2 * q]'(by omega)) := ⟨_, rfl⟩
            obtain ⟨y, hye⟩ : ∃ y, y = pl hexS.data.toList (s[2 * q + 1]'(by omega)) := ⟨_, rfl⟩
            have HX := hide hxe
            have HY := hide hye
            have b00 : 0 ≤ x := by rw [hxe]; exact b0.1
            have b01 : x ≤ 15 := by rw [hxe]; exact b0.2
            have b10 : 0 ≤ y := by rw [hye]; exact b1.1
            have b11 : y ≤ 15 := by rw [hye]; exact b1.2
            have i0 : (2 * (q : Int)) < s.size := by omega
            have i1 : (2 * (q : Int) + 1) < s.size := by omega
            have hw1 : IntKind.i64.wrap (2 * (q : Int) + 1) = 2 * (q : Int) + 1 := i64_in _ (by omega) (by omega)
            have hw2 : IntKind.i64.wrap (x * 16) = x * 16 := i64_in _ (by omega) (by omega)
            have hw3 : IntKind.i64.wrap (x * 16 + y) = x * 16 + y := i64_in _ (by omega) (by omega)
            have hw4 : IntKind.u8.wrap (x * 16 + y) = x * 16 + y := by rw [IntKind.wrap_u8']; omega
            have ht0 : (2 * (q : Int)).toNat = 2 * q := by omega
            have ht1 : (2 * (q : Int) + 1).toNat = 2 * q + 1 := by omega
            have p0 : (0 : Int) ≤ 2 * (q : Int) := by omega
            have p1 : (0 : Int) ≤ 2 * (q : Int) + 1 := by omega
            have hsl := hide ((Row.made wr.drew 5 [x * 16 + y]).sl (by intro z hz; simp at hz; omega) (by simp))
            have HO := hide ho1
            have hB := hb1.size
            have HN := hide (show ((unhexB s.data.toList).take q).length + 1 ≤ 140737488355328 by rw [List.length_take, unhexB_length, HZ.out]; omega)
            clear ho1 g0 g1 b0 b1 hxe hye
            go_wp2
            go_region_held3 (fun _ => True) (trivial) (first | (refine rstep_append rfl rfl rfl rfl (by exact World.ownsRow.alloc (World.ownsRow.drew HO.out) _) (by exact hsl.out) HN.out (by simp; omega) ?_; intro v2 w2 ho2 hg2 hn2) | (go_at_call 39; refine (place_any hexS _ _ hexS_size).mono ?_; rintro e w' ⟨rfl, rfl⟩; first | rw [← HX.out] | rw [← HY.out]))
            all_goals
              have hb2 : Below w.heap.size w w2 := ((hb1.drew.alloc (by exact hB) _).grown hg2 (by simp; omega) (fun j hj => (World.ownsRow.lt HO.out j hj).1))
              have HO2 := hide ho2
              clear ho2 hg2 hn2 HO hsl hb1
              go_wp2
              go_roundw
              case rel =>
                refine ⟨q + 1, by omega, by go_num, ?_, hb2⟩
                rw [unhexB_succ _ q (by rw [HZ.out, HM.out]; omega), HBQ.out]
                have e := HO2.out
                rw [HX.out, HY.out] at e
                exact e
              case measure => simp [intOf]; omega
          · have hqm : q = m := by omega
            subst hqm
            have e1 : (unhexB s.data.toList).take q = unhexB s.data.toList := List.take_of_length_le (by rw [unhexB_length, HZ.out, HM.out]; omega)
            rw [e1] at ho1
            clear e1
            have HO := hide ho1
            clear ho1
            go_wp2
            go_ret3
            rw [E1.out, E2.out, E3.out]
            exact ⟨_, rfl, HO.out, hb1⟩

end Go.Proofs.Ytpfpgimhnmnhlaa
