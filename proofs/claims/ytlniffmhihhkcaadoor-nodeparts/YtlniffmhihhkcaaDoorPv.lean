/-
  A span's parts: the document's.
-/
import Derived.Test.YtlniffmhihhkcaaDoorPo
namespace Go.Proofs.YtlniffmhihhkcaaDoor
open Go.RowKit
set_option linter.unusedVariables false

theorem ref_facts (s L : Nat) (hL : L ≤ 48) : ∃ P : Nat, Hid (2 ^ L = P) ∧ wrap64 (2 ^ L) = (P : Int) ∧ ((s : Int)).tmod (P : Int) = ((s % P : Nat) : Int) ∧ ¬ ((P : Int) = 0) ∧ P ≤ 281474976710656 := by
  have hP : 2 ^ L ≤ 281474976710656 := Nat.le_trans (Nat.pow_le_pow_right (by decide) hL) (by decide)
  have hp := Nat.two_pow_pos L
  refine ⟨_, hide rfl, aux_one _ _ (hide rfl) (Nat.le_trans hP (by decide)), ?_, ?_, hP⟩
  · rw [Int.tmod_eq_emod_of_nonneg (by omega), Int.natCast_emod]
  · omega
/-- The search from above. -/
def Dn (s m L : Nat) : Prop := ∀ j, L < j → j ≤ 48 → ¬ (2 ^ j ∣ s ∧ 2 ^ j ≤ m)
theorem Dn.down {s m L : Nat} (h : Dn s m (L + 1)) (hn : ¬ (2 ^ (L + 1) ∣ s ∧ 2 ^ (L + 1) ≤ m)) : Dn s m L := fun j h1 h2 => by
  by_cases hj : j = L + 1
  · subst hj; exact hn
  · exact h j (by omega) h2
theorem Dn.isLev {s m L : Nat} (h : Dn s m L) (h1 : 2 ^ L ∣ s) (h2 : 2 ^ L ≤ m) (hm : m ≤ 281474976710656) (hL : L ≤ 48) : IsLev s m L := by
  refine ⟨h1, h2, fun h3 => ?_⟩
  by_cases hl : L = 48
  · subst hl
    have := h3.2
    rw [show (2 : Nat) ^ (48 + 1) = 562949953421312 by decide] at this
    omega
  · exact h (L + 1) (by omega) (by omega) h3
theorem pos_of {s m L : Nat} (h : ¬ (2 ^ L ∣ s ∧ 2 ^ L ≤ m - s)) (hs : s < m) : ∃ L', L = L' + 1 := by
  cases L with
  | zero => exact absurd ⟨by simp, by simp; omega⟩ h
  | succ L' => exact ⟨L', rfl⟩
theorem cast_sub_one (L' : Nat) : ((L' + 1 : Nat) : Int) - 1 = (L' : Int) := by omega
theorem lv_less {a b : Nat} (h : a < b) : (intOf (.int .i64 (a : Int))).toNat < (intOf (.int .i64 (b : Int))).toNat := by
  simp only [intOf]
  omega
theorem ge_cast {P s e : Nat} (h : s ≤ e) (h2 : P ≤ e - s) : ¬ ((e : Int) - (s : Int) < (P : Int)) := by omega
theorem lt_cast {P s e : Nat} (h : s ≤ e) (h2 : ¬ P ≤ e - s) : (e : Int) - (s : Int) < (P : Int) := by omega
theorem ne_cast {m : Nat} (h : ¬ m = 0) : ¬ ((m : Int) = 0) := fun e => h (by omega)
set_option maxRecDepth 100000 in
set_option maxHeartbeats 1000000 in
theorem partsR_ok (b e : Nat) (w : World) (hbe : b ≤ e) (he : e ≤ 281474976710656) (ht : TT w) :
    Calls Tryd.prog 6 #[.agg #[.int .i64 (b : Int), .int .i64 (e : Int)]] w fun r w' => ∃ v, r = .returned (.tuple #[v, .int .i64 0]) ∧ OwnM w' w.heap.size v (parts b e) ∧ Below w.heap.size w w' := by
  have k0 : ¬ (b : Int) < 0 := by omega
  have k1 : ¬ (b : Int) > (e : Int) := by omega
  have k2 : ¬ (e : Int) > 281474976710656 := by omega
  have T0 := hide ht
  clear ht
  go_enter Tryd.func6, Tryd.ntmps6
  go_wp2_with (refine step_box (cs := c2 (b : Int) (e : Int)) rfl rfl ?_; intro w1 g1 hg1 hle1 hb1; obtain ⟨c0, c1⟩ := hg1.two; have HG0 := hide hg1; clear hg1)
  have T1 := hide (T0.out.on hb1)
  have HB0 := hide hb1
  clear hb1 c0 c1 k0 k1 k2
  go_loopw [4, 5] (fun s4 s5 wr => ∃ k : Nat, k ≤ (parts b e).length ∧ s5 = .int .i64 (pbeg b e k : Int) ∧ Hid (OwnM wr w.heap.size s4 ((parts b e).take k)) ∧ Hid (Blk wr g1 23 (c2 (b : Int) (e : Int))) ∧ Hid (TT wr) ∧ Hid (Below w.heap.size w wr) ∧ Hid (s4.ownBlock ≠ some g1)) (fun _ s5 _ => e - (intOf s5).toNat)
  case atStart => exact ⟨0, Nat.zero_le _, by rw [pbeg_zero], hide (OwnM.nil _ _), HG0, T1, HB0, hide (by simp [Value.ownBlock])⟩
  case round =>
    obtain ⟨k, hk, rfl, HO, HG1, HT, HB, HNE⟩ := hrel
    obtain ⟨a4, l4, k4, rfl⟩ := HO.out.slice
    clear HG0 T1 HB0
    obtain ⟨c0, c1⟩ := HG1.out.two
    obtain ⟨s, HSx⟩ : ∃ s, Hid (pbeg b e k = s) := ⟨_, hide rfl⟩
    rw [HSx.out]
    by_cases hlt : k < (parts b e).length
    · have hse : s < e := by
        obtain ⟨h1, h2, h3⟩ := pbeg_at hbe he (nG_get hlt)
        rw [h2, HSx.out] at h3
        have := Nat.two_pow_pos (nG b e k).1
        omega
      have hlt' : (s : Int) < (e : Int) := by omega
      have hlen9 : ((parts b e).take k).length ≤ 1048576 := by have := parts_98 b e he; rw [List.length_take]; omega
      go_wp2_with fail
      go_loopw [6] (fun l w2 => ∃ L : Nat, l = .int .i64 (L : Int) ∧ L ≤ 48 ∧ Hid (Dn s (e - s) L) ∧ w2 = wr) (fun l _ => (intOf l).toNat)
      case atStart => exact ⟨48, rfl, Nat.le_refl _, hide (fun j h1 h2 => by omega), rfl⟩
      case round =>
        obtain ⟨L, rfl, hL48, HD, rfl⟩ := hrel
        have hu1 : IntKind.u64.wrap (L : Int) = (L : Int) := by rw [IntKind.wrap_u64]; omega
        have hes : e - s ≤ 281474976710656 := Nat.le_trans (Nat.sub_le _ _) he
        obtain ⟨P, HP, hpw0, hrem, hP0, hPm⟩ := ref_facts s L hL48
        have HPW := hide hpw0
        clear hpw0
        by_cases hc1 : s % P = 0
        · rw [hc1] at hrem
          have hrem2 : ((s : Int)).tmod (P : Int) = 0 := hrem
          clear hrem
          by_cases hc2 : P ≤ e - s
          · have hc2' := ge_cast (Nat.le_of_lt hse) hc2
            have HLV := hide (HD.out.isLev (by rw [HP.out]; exact Nat.dvd_of_mod_eq_zero hc1) (by rw [HP.out]; exact hc2) hes hL48)
            obtain ⟨hq, hnx, hle⟩ := px_next hbe he hlt HSx.out HLV.out
            rw [HP.out] at hq hnx hle
            have HGN : Hid (nG b e k = (L, s / P)) := hide (by have := nG_get hlt; rw [hq] at this; exact (Option.some.inj this).symm)
            obtain ⟨u, hu2⟩ : ∃ u, s + P = u := ⟨_, rfl⟩
            rw [hu2] at hnx hle
            have HU := hide hnx.symm
            have hsu : s < u := by rw [← hu2, ← HP.out]; exact Nat.lt_add_of_pos_right (Nat.two_pow_pos L)
            have HAD := hide (show (s : Int) + (P : Int) = (u : Int) by rw [← hu2, Int.natCast_add])
            have hshr := aux_shr s L P HP
            clear hc1 hc2 hq hnx hle hu2
            go_wp2_with (first | (simp only [HPW.out]) | (refine steponeM (n := (L, s / P)) rfl rfl ?_))
            intro W1 g5 hg5 hle5 hb5
            have O5 := hide (HO.out.below hb5)
            have Y5 := hide hg5
            have G5 := hide (HG1.out.on hb5)
            have T5 := hide (HT.out.on hb5)
            have B5 := hide (on_below HB.out hb5)
            clear hg5 hb5 HO HG1 HB HT c1
            go_wp2_with (refine stepappM (v := .slice a4 l4 k4) rfl rfl rfl O5.out Y5.out hlen9 B5.out.size ?_)
            intro v6 W6 ho6 hgr6 hat6
            have O6 : Hid (OwnM W6 w.heap.size v6 ((parts b e).take (k + 1))) := hide (by rw [take_snoc (nG_get hlt), HGN.out]; exact ho6)
            have bel := (Below.refl w.heap.size W1).grown hgr6 B5.out.size (fun k hk => (O5.out.lt k hk).1)
            have G6 := hide (G5.out.grew hgr6 HNE.out)
            have T6 := hide (T5.out.below bel T0.out.lt)
            have B6 := hide (B5.out.trans bel)
            have N6 : Hid (v6.ownBlock ≠ some g1) := hide (fun hk => by
              rcases hat6 g1 hk with h | h
              · exact HNE.out h
              · exact absurd h (Nat.not_le.2 G5.out.lt))
            obtain ⟨a6, l6, k6, rfl⟩ := ho6.slice
            clear ho6 hgr6 hat6 bel O5 G5 T5 B5 Y5
            go_wp2_with (simp only [HPW.out])
            go_roundw
            case rel => exact ⟨k + 1, hlt, by rw [HAD.out, ← HU.out], O6, G6, T6, B6, N6⟩
            case measure => rw [HAD.out]; exact nz_lt hsu hse
          · have hc2' := lt_cast (Nat.le_of_lt hse) hc2
            have hnot : ¬ (2 ^ L ∣ s ∧ 2 ^ L ≤ e - s) := fun h => hc2 (by rw [← HP.out]; exact h.2)
            clear hc1 hc2
            have HNT := hide hnot
            clear hnot
            obtain ⟨L', hL'⟩ := pos_of HNT.out hse
            have D2 : Hid (Dn s (e - s) L') := hide (by have := HD.out; have h2 := HNT.out; rw [hL'] at this h2; exact this.down h2)
            have hsb : (L : Int) - 1 = (L' : Int) := by rw [hL']; exact cast_sub_one L'
            have hle' : L' ≤ 48 := by rw [hL'] at hL48; exact Nat.le_of_succ_le hL48
            have hlt2 : L' < L := by rw [hL']; exact Nat.lt_succ_self L'
            have HL2 := hide hL'
            clear hL'
            go_wp2_with (simp only [HPW.out])
            go_roundw
            case rel => exact ⟨L', by first | rfl | (rw [hsb]), hle', D2, by first | rfl | trivial⟩
            case measure => first | exact lv_less hlt2 | (rw [hsb]; exact lv_less hlt2)
        · have hm0 := ne_cast hc1
          rw [← hrem] at hm0
          have hnot : ¬ (2 ^ L ∣ s ∧ 2 ^ L ≤ e - s) := fun h => hc1 (by rw [← HP.out]; exact Nat.mod_eq_zero_of_dvd h.1)
          clear hc1 hrem
          have HNT := hide hnot
          clear hnot
          obtain ⟨L', hL'⟩ := pos_of HNT.out hse
          have D2 : Hid (Dn s (e - s) L') := hide (by have := HD.out; have h2 := HNT.out; rw [hL'] at this h2; exact this.down h2)
          have hsb : (L : Int) - 1 = (L' : Int) := by rw [hL']; exact cast_sub_one L'
          have hle' : L' ≤ 48 := by rw [hL'] at hL48; exact Nat.le_of_succ_le hL48
          have hlt2 : L' < L := by rw [hL']; exact Nat.lt_succ_self L'
          have HL2 := hide hL'
          clear hL'
          go_wp2_with (simp only [HPW.out])
          go_roundw
          case rel => exact ⟨L', by first | rfl | (rw [hsb]), hle', D2, by first | rfl | trivial⟩
          case measure => first | exact lv_less hlt2 | (rw [hsb]; exact lv_less hlt2)
    · obtain rfl : k = (parts b e).length := by omega
      have hse : s = e := by rw [← HSx.out]; exact pbeg_end hbe he
      have hse' : ¬ ((s : Int) < (e : Int)) := by omega
      have HO2 : Hid (OwnM wr w.heap.size (.slice a4 l4 k4) (parts b e)) := hide (by have := HO.out; rwa [List.take_length] at this)
      go_wp2
      go_ret2
      exact ⟨_, rfl, HO2.out, HB.out⟩

end Go.Proofs.YtlniffmhihhkcaaDoor
