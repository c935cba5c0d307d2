/-
  All tiles of a log: the document's list, and the program's iterator.
-/
import Derived.Test.YtnlpgkfmjlljdaaTp
import Derived.Test.YtnlpgkfmjlljdaaTu
import Derived.Test.YtnlpgkfmjlljdaaKm
namespace Go.Proofs.Ytnlpgkfmjlljdaa
open Go.RowKit Go.Shelf
set_option linter.unusedVariables false

/-- A tile of a log by level and index. -/
def tT (h n : Nat) (x : Nat × Nat) : Tl := ((h : Int), (x.1 : Int), (x.2 : Int), (tW h x.1 x.2 n : Int))
theorem take_ge {α : Type} {A B : List α} {m : Nat} (h : A <+: B) (hm : m ≤ A.length) : B.take m = A.take m := by
  obtain ⟨r, rfl⟩ := h
  rw [List.take_append_of_le_length hm]
theorem tPre_all {h n l i : Nat} (hi : i ≤ tCt h l n) : tPre h n l i <+: tPre h n (l + 1) 0 := by
  rw [← tPre_row]
  obtain ⟨r, hr⟩ := pre_range hi
  unfold tPre
  rw [← hr, List.map_append, ← List.append_assoc]
  exact List.prefix_append _ _
set_option maxRecDepth 100000 in
set_option maxHeartbeats 2000000 in
theorem allR_ok (h n m : Nat) (w : World) (hh : isH h) (hn : n ≤ 281474976710656) (hm : m ≤ 1000) :
    Calls Try.prog 14 #[.int .i64 (h : Int), .int .i64 (n : Int), .int .i64 (m : Int)] w fun r w' => ∃ v, r = .returned v ∧ OwnT w' w.heap.size v (((tAll h n).take m).map (tT h n)) ∧ Below w.heap.size w w' := by
  have HH := hide hh
  have hLv := tLv_le hh hn
  obtain ⟨L, HL⟩ : ∃ L, Hid (tLv h n = L) := ⟨_, hide rfl⟩
  have HLV := hide (fun v => levelsR_ok h n v hh hn)
  rw [HL.out] at HLV hLv
  clear hh
  go_enter Try.func14, Try.ntmps14
  go_wp2_with (go_at_call 13; refine (HLV.out _).mono ?_; rintro r w' ⟨rfl, rfl⟩)
  go_loopw [7, 10] (fun o k wr => ∃ l : Nat, k = .int .i64 (l : Int) ∧ l ≤ L ∧ OwnT wr w'.heap.size o (((tPre h n l 0).take m).map (tT h n)) ∧ Below w'.heap.size w' wr) (fun _ k _ => L - (intOf k).toNat)
  case atStart => exact ⟨0, rfl, Nat.zero_le _, by rw [tPre_start, List.take_nil]; exact OwnT.nil _ _, Below.refl _ _⟩
  case round =>
    obtain ⟨l, rfl, hl, ho, hb⟩ := hrel
    have HO := hide ho
    have HB := hide hb
    clear ho hb
    by_cases hc : l < L
    · have hc' : (l : Int) < (L : Int) := by omega
      have hl1 : wrap64 ((l : Int) + 1) = ((l + 1 : Nat) : Int) := by unfold wrap64; omega
      obtain ⟨C, HC⟩ : ∃ C, Hid (tCt h l n = C) := ⟨_, hide rfl⟩
      have hCb : C ≤ 281474976710656 := by rw [← HC.out]; exact tCt_le hn
      go_wp2_with fail
      go_loopw [7, 11] (fun o k wr => ∃ i : Nat, k = .int .i64 (i : Int) ∧ i ≤ C ∧ Hid (OwnT wr w'.heap.size o (((tPre h n l i).take m).map (tT h n))) ∧ Hid (Below w'.heap.size w' wr)) (fun _ k _ => C - (intOf k).toNat)
      case atStart => exact ⟨0, rfl, Nat.zero_le _, HO, HB⟩
      case round =>
        obtain ⟨i, rfl, hi, HOi, HBi⟩ := hrel
        clear HO HB
        obtain ⟨k, HK⟩ : ∃ k, Hid ((((tPre h n l i).take m).map (tT h n)).length = k) := ⟨_, hide rfl⟩
        have hk : k = min m (tPre h n l i).length := by rw [← HK.out]; simp
        obtain ⟨a, c, rfl, _⟩ := HOi.out.len
        rw [HK.out] at HOi ⊢
        by_cases hq : (tPre h n l i).length < m
        · have hk2 : (k : Int) < (m : Int) := by omega
          have ht : (tPre h n l i).take m = tPre h n l i := List.take_of_length_le (by omega)
          have HT := hide ht
          obtain ⟨W, HW⟩ : ∃ W, Hid (tW h l i n = W) := ⟨_, hide rfl⟩
          have HWD := hide (fun v => widthR_ok h l i n v HH.out hn (by omega) (by omega))
          rw [HW.out] at HWD
          have hWb : W ≤ 256 := by rw [← HW.out]; exact Nat.le_trans (tW_le h l i n) HH.out.pow.2
          by_cases hiC : i < C
          · have hW0 : ¬ (W : Int) = 0 := by
              have : ¬ W = 0 := by rw [← HW.out, tW_zero, HC.out]; omega
              omega
            have hi1 : wrap64 ((i : Int) + 1) = ((i + 1 : Nat) : Int) := by unfold wrap64; omega
            have HX : Hid (((tPre h n l (i + 1)).take m).map (tT h n) = (((tPre h n l i).take m).map (tT h n)) ++ [((h : Int), (l : Int), (i : Int), (W : Int))]) := hide (by
              rw [HT.out, tPre_step, List.take_of_length_le (by rw [List.length_append]; exact hq), List.map_append]
              simp [tT, HW.out])
            have hlen : (((tPre h n l i).take m).map (tT h n)).length ≤ 1048576 := by rw [HK.out]; omega
            have HLn := hide hlen
            clear hk hq ht hlen
            go_wp2_with (first | (go_at_call 11; refine (HWD.out _).mono ?_; rintro r v ⟨rfl, hv⟩; replace hv := hv.symm; subst hv) | (refine steponeT (n := ((h : Int), (l : Int), (i : Int), (W : Int))) rfl rfl ?_))
            intro W1 g1 hg1 hle1 hb1
            have O1 := hide (HOi.out.below hb1)
            have B1 := hide (on_below HBi.out hb1)
            clear hb1 HOi HBi
            go_wp2_with (refine stepappT rfl rfl rfl O1.out hg1 HLn.out B1.out.size ?_)
            intro v2 W2 ho2 hgr2 _
            have B2 := hide (B1.out.grown hgr2 B1.out.size (fun k hk => (O1.out.lt k hk).1))
            obtain ⟨a2, n2, c2, rfl⟩ := ho2.slice
            have O2 := hide ho2
            rw [← HX.out] at O2
            clear ho2 hgr2 O1 B1 hg1
            go_wp2
            go_roundw
            case rel => exact ⟨i + 1, rfl, hiC, O2, B2⟩
            case measure => simp only [intOf]; omega
          · obtain rfl : i = C := by omega
            obtain rfl : W = 0 := by rw [← HW.out, tW_zero, HC.out]; exact Nat.le_refl _
            have OE : Hid (OwnT wr w'.heap.size (.slice a k c) (((tPre h n (l + 1) 0).take m).map (tT h n))) := hide (by
              have h1 := HOi.out
              rw [← HC.out, tPre_row] at h1
              exact h1)
            have BE := HBi
            clear HOi hk hq ht HT HBi
            go_wp2_with (first | (go_at_call 11; refine (HWD.out _).mono ?_; rintro r v ⟨rfl, hv⟩; replace hv := hv.symm; subst hv))
            go_roundw
            case rel => exact ⟨l + 1, rfl, hc, OE.out, BE.out⟩
            case measure => simp only [intOf]; omega
        · have hk2 : ¬ (k : Int) < (m : Int) := by omega
          have OE : Hid (OwnT wr w'.heap.size (.slice a k c) (((tPre h n (l + 1) 0).take m).map (tT h n))) := hide (by
            have h1 := HOi.out
            rw [← take_ge (tPre_all (by rw [HC.out]; exact hi)) (by omega)] at h1
            exact h1)
          have BE := HBi
          clear HOi hk hq HBi
          go_wp2
          go_roundw
          case rel => exact ⟨l + 1, rfl, hc, OE.out, BE.out⟩
          case measure => simp only [intOf]; omega
    · obtain rfl : l = L := by omega
      have HE : Hid (tPre h n l 0 = tAll h n) := hide (by rw [← HL.out]; exact tPre_end h n)
      go_wp2
      go_ret
      refine ⟨_, rfl, ?_, HB.out⟩
      have := HO.out
      rw [HE.out] at this
      exact this
theorem allR_bad (h n m : Int) (w : World) (hb : (h < 1 ∨ 8 < h) ∨ n < 0 ∨ 281474976710656 < n) :
    Calls Try.prog 14 #[.int .i64 h, .int .i64 n, .int .i64 m] w fun r w' => r = .returned (.slice none 0 0) ∧ Below w.heap.size w w' := by
  have hne : ¬ lvE h n = 0 := by unfold lvE; split <;> decide
  have HL := hide (fun v => levelsR_bad h n v hb)
  generalize lvE h n = E at *
  clear hb
  go_enter Try.func14, Try.ntmps14
  go_wp2_with (go_at_call 13; refine (HL.out _).mono ?_; rintro r w2 ⟨rfl, hb2⟩)
  go_ret
  exact ⟨rfl, hb2⟩

end Go.Proofs.Ytnlpgkfmjlljdaa
