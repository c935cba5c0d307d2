/-
  Contract of the document's Unbase64.
-/
import Derived.Test.YtpfpgimhnmnhlaaUnb
import Derived.Test.YtpfpgimhnmnhlaaHex
import Derived.Deep.CutBlock
import Derived.Deep.CutRange
namespace Go.Proofs.Ytpfpgimhnmnhlaa
open Go.RowKit
set_option linter.unusedVariables false

theorem trim1_get (s : ByteArray) : (trim1 s).data.toList = s.data.toList.take (trim1 s).size := by
  unfold trim1
  split
  · rw [Lib.extract_data]
    simp
  · rw [List.take_of_length_le]
    simp
theorem dl_eq (s : ByteArray) : dl s = s.data.toList.take (digs s).size := by
  unfold dl digs
  rw [trim1_get (trim1 s), trim1_get s, List.take_take, Nat.min_eq_left (trim1_size _)]
theorem trim1_yes {s : ByteArray} (h : ends s = true) : (trim1 s).size = s.size - 1 := by
  have := ends_pos h
  simp [trim1, h]
theorem trim1_no {s : ByteArray} (h : ends s = false) : trim1 s = s := by simp [trim1, h]

theorem get_list (s : ByteArray) (i : Nat) (h : i < s.size) : s.data.toList[i]? = some s[i] := by
  rw [List.getElem?_eq_getElem (by simpa using h)]
  rfl

/-- Whether the first n letters of s, as a text, end with the letter that fills: what is looked at is the letter n - 1 of s. -/
theorem ends_trim (s t : ByteArray) (ht : t.data.toList = s.data.toList.take t.size) (hle : t.size ≤ s.size) (h0 : 0 < t.size) : ends t = ((s[t.size - 1]'(by omega)) == 61) := by
  have e : t[t.size - 1] = s[t.size - 1]'(by omega) := by
    have a := get_list t (t.size - 1) (by omega)
    have b := get_list s (t.size - 1) (by omega)
    rw [ht, List.getElem?_take, if_pos (by omega), b] at a
    exact (Option.some.inj a).symm
  simp [ends, h0, e]
theorem ends_zero {t : ByteArray} (h : t.size = 0) : ends t = false := by simp [ends, h]

theorem beq61 (c : UInt8) : ((c.toNat : Int) == 61) = (c == 61) := by
  rw [Bool.eq_iff_iff]
  simp only [beq_iff_eq]
  constructor
  · intro h
    apply UInt8.toNat_inj.1
    show c.toNat = 61
    omega
  · intro h
    subst h
    rfl

set_option maxRecDepth 100000 in
set_option maxHeartbeats 2000000 in
theorem unbR_any (s : ByteArray) (w : World) (hs : s.size ≤ 1048576) :
    Calls Try.prog 28 #[.string s] w fun e w' => ∃ v, e = .returned (.tuple #[v, .int .i64 (ubAt s), .int .i64 (ubE s)]) ∧ Own w' w.heap.size v (ubB s) ∧ Below w.heap.size w w' := by
  have ts := trim1_size s
  have HT := hide (trim1_get s)
  go_enter Try.func28, Try.ntmps28
  go_upto_block 0 with fail
  go_cut [5] from 6 to 30 (fun n wc => n = .int .i64 (digs s).size ∧ w = wc)
  case first =>
    go_wp2_with fail
    go_loop [5, 6] (fun n i => ∃ t : ByteArray, t.data.toList = s.data.toList.take t.size ∧ t.size ≤ s.size ∧ n = .int .i64 t.size ∧ ((i = .int .i64 0 ∧ digs s = trim1 (trim1 t)) ∨ (i = .int .i64 1 ∧ digs s = trim1 t) ∨ (i = .int .i64 2 ∧ digs s = t))) (fun _ i => 2 - (intOf i).toNat)
    case atStart => exact ⟨s, by rw [List.take_of_length_le (by simp)], Nat.le_refl _, rfl, .inl ⟨rfl, rfl⟩⟩
    case round =>
      obtain ⟨t, ht, hle, rfl, hi⟩ := hrel
      have HTT := hide ht
      have HT2 := hide (show (trim1 t).data.toList = s.data.toList.take (trim1 t).size by rw [trim1_get t, ht, List.take_take, Nat.min_eq_left (trim1_size t)])
      have tt := trim1_size t
      clear ht
      rcases hi with ⟨rfl, hd⟩ | ⟨rfl, hd⟩ | ⟨rfl, hd⟩
      · have HDS := hide hd
        by_cases h0 : 0 < t.size
        · have eb := ends_trim s t HTT.out hle h0
          have i0 : (0 : Int) < t.size := by omega
          have hx : t.size - 1 < s.size := by omega
          cases hE : ends t
          · have e61 : ((((s[t.size - 1]'hx).toNat : Nat) : Int) == 61) = false := by rw [beq61, ← eb, hE]
            have E := hide (show digs s = t from by rw [hd, trim1_no hE, trim1_no hE])
            clear eb hE hd
            go_wp2
            go_meet
            case rel => exact ⟨by rw [E.out], rfl⟩
          · have e61 : ((((s[t.size - 1]'hx).toNat : Nat) : Int) == 61) = true := by rw [beq61, ← eb, hE]
            have E := hide (trim1_yes hE)
            clear eb hE hd
            go_wp2
            go_round
            case rel => exact ⟨trim1 t, HT2.out, by omega, by rw [E.out]; go_num, .inr (.inl ⟨by go_num, HDS.out⟩)⟩
            case measure => simp [intOf]
        · have i0 : ¬ ((0 : Int) < t.size) := by omega
          have hE := ends_zero (t := t) (by omega)
          have E := hide (show digs s = t from by rw [hd, trim1_no hE, trim1_no hE])
          clear hE hd
          go_wp2
          go_meet
          case rel => exact ⟨by rw [E.out], rfl⟩
      · have HDS := hide hd
        by_cases h0 : 0 < t.size
        · have eb := ends_trim s t HTT.out hle h0
          have i0 : (0 : Int) < t.size := by omega
          have hx : t.size - 1 < s.size := by omega
          cases hE : ends t
          · have e61 : ((((s[t.size - 1]'hx).toNat : Nat) : Int) == 61) = false := by rw [beq61, ← eb, hE]
            have E := hide (show digs s = t from by rw [hd, trim1_no hE])
            clear eb hE hd
            go_wp2
            go_meet
            case rel => exact ⟨by rw [E.out], rfl⟩
          · have e61 : ((((s[t.size - 1]'hx).toNat : Nat) : Int) == 61) = true := by rw [beq61, ← eb, hE]
            have E := hide (trim1_yes hE)
            clear eb hE hd
            go_wp2
            go_round
            case rel => exact ⟨trim1 t, HT2.out, by omega, by rw [E.out]; go_num, .inr (.inr ⟨by go_num, HDS.out⟩)⟩
            case measure => simp [intOf]
        · have i0 : ¬ ((0 : Int) < t.size) := by omega
          have hE := ends_zero (t := t) (by omega)
          have E := hide (show digs s = t from by rw [hd, trim1_no hE])
          clear hE hd
          go_wp2
          go_meet
          case rel => exact ⟨by rw [E.out], rfl⟩
      · have E := hide hd
        clear hd
        go_wp2
        go_meet
        case rel => exact ⟨by rw [E.out], rfl⟩
  case rest =>
    obtain ⟨rfl, rfl⟩ := hcut
    have HZ := hide (show (dl s).length = (digs s).size by simp [dl])
    have hds := digs_size s
    have HGT : Hid (∀ j (h : j < (dl s).length) (h2 : j < s.size), (dl s)[j] = s[j]) := by
      intro j h h2
      have a : (dl s)[j]? = some (dl s)[j] := List.getElem?_eq_getElem h
      have b : (dl s)[j]? = some s[j] := by rw [dl_eq, List.getElem?_take, if_pos (by rw [HZ.out] at h; exact h), get_list s j h2]
      rw [a] at b
      exact Option.some.inj b
    obtain ⟨n, hn⟩ : ∃ n, n = (digs s).size := ⟨_, rfl⟩
    rw [← hn] at HZ hds ⊢
    clear hn HT ts
    go_wp2
    go_loop [7] (fun i => ∃ k : Nat, k ≤ n ∧ i = .int .i64 k ∧ ∀ j (h : j < (dl s).length), j < k → 0 ≤ pl b64L ((dl s)[j])) (fun i => n - (intOf i).toNat)
    case atStart => exact ⟨0, Nat.zero_le _, rfl, fun j _ h => absurd h (by omega)⟩
    case round =>
      obtain ⟨k, hk, rfl, hbefore⟩ := hrel
      have HB := hide hbefore
      clear hbefore
      by_cases hlt : k < n
      · have hks : k < s.size := by omega
        have HK := hide (HGT.out k (by rw [HZ.out]; exact hlt) hks)
        by_cases hp : pl b64L s[k] < 0
        · have e : fb b64L (dl s) = k := by
            rw [fb, List.findIdx_eq (by rw [HZ.out]; exact hlt)]
            exact ⟨decide_eq_true (by rw [HK.out]; exact hp), fun j hj => decide_eq_false (Int.not_lt.2 (HB.out j (by rw [HZ.out]; omega) hj))⟩
          have hf : fb b64L (dl s) < (dl s).length := by rw [e, HZ.out]; exact hlt
          have E1 : Hid (ubAt s = k) := by show _ = _; rw [ubAt, if_pos hf, e]
          have E2 : Hid (ubE s = 11) := by show _ = _; rw [ubE, if_pos (.inl hf)]
          have E3 : Hid (ubB s = []) := by show _ = _; rw [ubB, if_pos (.inl hf)]
          clear e hf
          have hp' : pl b64S.data.toList s[k] < 0 := hp
          clear hp
          go_wp2_with (go_at_call 39; refine (place_any b64S _ _ (by show 64 ≤ 1048576; omega)).mono ?_; rintro e w' ⟨rfl, rfl⟩)
          go_ret3
          rw [E1.out, E2.out, E3.out]
          exact ⟨_, rfl, Own.nil _ _, Below.refl _ _⟩
        · have HP := hide (Int.not_lt.1 hp)
          have hp' : 0 ≤ pl b64S.data.toList s[k] := Int.not_lt.1 hp
          clear hp
          go_wp2_with (go_at_call 39; refine (place_any b64S _ _ (by show 64 ≤ 1048576; omega)).mono ?_; rintro e w' ⟨rfl, rfl⟩)
          go_round
          case rel =>
            refine ⟨k + 1, by omega, by go_num, fun j h hj => ?_⟩
            by_cases h2 : j < k
            · exact HB.out j h h2
            · obtain rfl : j = k := by omega
              rw [HK.out]
              exact HP.out
          case measure => simp [intOf]; omega
      · have e : fb b64L (dl s) = (dl s).length := by
          rw [fb]
          apply List.findIdx_eq_length.2
          intro x hx
          obtain ⟨j, hj, rfl⟩ := List.getElem_of_mem hx
          exact decide_eq_false (Int.not_lt.2 (HB.out j hj (by rw [HZ.out] at hj; omega)))
        have hf : ¬ fb b64L (dl s) < (dl s).length := by omega
        clear e HB
        by_cases ho : s.size % 4 ≠ 0
        · have E1 : Hid (ubAt s = s.size) := by show _ = _; rw [ubAt, if_neg hf, if_pos ho]
          have E2 : Hid (ubE s = 11) := by show _ = _; rw [ubE, if_pos (.inr (.inl ho))]
          have E3 : Hid (ubB s = []) := by show _ = _; rw [ubB, if_pos (.inr (.inl ho))]
          have hodd : (((s.size : Int) % 4) != 0) = true := by simp; omega
          clear ho hf
          go_wp2
          go_ret3
          rw [E1.out, E2.out, E3.out]
          exact ⟨_, rfl, Own.nil _ _, Below.refl _ _⟩
        · have hev : (((s.size : Int) % 4) != 0) = false := by simp; omega
          have HF := hide hf
          have HOO := hide ho
          have HI := hide (pk_inv b64L (dl s) (digit_bd (dl s) hf))
          have HD := hide (digit_bd (dl s) hf)
          clear hf ho
          go_wp2
          go_loopw [8, 9, 10, 11] (fun u b h i wr => ∃ q : Nat, q ≤ n ∧ i = .int .i64 q ∧ b = .int .i64 (pkT b64L (dl s) q).1 ∧ h = .int .i64 (pkT b64L (dl s) q).2.1 ∧ Own wr w.heap.size u (pkT b64L (dl s) q).2.2 ∧ Below w.heap.size w wr) (fun _ _ _ i _ => n - (intOf i).toNat)
          case atStart => exact ⟨0, by omega, rfl, rfl, rfl, Own.nil _ _, Below.refl _ _⟩
          case round =>
            obtain ⟨q, hq, rfl, rfl, rfl, hown, hb⟩ := hrel
            have inv := HI.out q (by rw [HZ.out]; exact hq)
            obtain ⟨st, hst⟩ : ∃ st, st = pkT b64L (dl s) q := ⟨_, rfl⟩
            rw [← hst] at inv hown ⊢
            have HST := hide hst
            clear hst
            obtain ⟨v, h, o⟩ := st
            obtain ⟨hh, v0, v1, ob, ll⟩ := inv
            simp only at hh v0 v1 ob ll hown ⊢
            have HOW := hide hown
            clear hown
            by_cases hlt2 : q < n
            · have hqs : q < s.size := by omega
              have dd := HD.out q (by rw [HZ.out]; exact hlt2)
              have egk := HGT.out q (by rw [HZ.out]; exact hlt2) hqs
              rw [egk] at dd
              obtain ⟨d, hde⟩ : ∃ d, d = pl b64S.data.toList s[q] := ⟨_, rfl⟩
              have dd2 : 0 ≤ d ∧ d ≤ 63 := by rw [hde]; exact dd
              have HE := hide hde
              have HS := hide (show pkT b64L (dl s) (q + 1) = stp (v, h, o) d by rw [pkT_succ _ _ q (by rw [HZ.out]; exact hlt2), ← HST.out, egk, hde]; rfl)
              clear hde egk dd
              obtain ⟨d0, d1⟩ := dd2
              rcases hh with rfl | rfl | rfl | rfl
              · have v2 : v < 1 := by simp at v1; omega
                go_wp2_with (go_at_call 39; refine (place_any b64S _ _ (by show 64 ≤ 1048576; omega)).mono ?_; rintro e w' ⟨rfl, rfl⟩; rw [← HE.out])
                go_roundw
                case rel =>
                  refine ⟨q + 1, by omega, by go_num, ?_, ?_, ?_, hb⟩ <;> rw [HS.out, stp0]
                  · rfl
                  · exact HOW.out
                case measure => simp [intOf]; omega
              · have v2 : v < 4 := by simp at v1; omega
                have hB := hb.size
                have hln : o.length + 1 ≤ 140737488355328 := by omega
                go_wp2_with (first | (go_at_call 39; refine (place_any b64S _ _ (by show 64 ≤ 1048576; omega)).mono ?_; rintro e w' ⟨rfl, rfl⟩; rw [← HE.out]) | (at_builtin; refine step_append rfl rfl rfl (HOW.out.alloc _) (sl_one _ _ (by omega) (by omega)) hln (by simp; omega) ?_))
                intro u2 w2 ho2 hg2 hn2
                have hb2 : Below w.heap.size w w2 := (hb.alloc hb.size _).grown hg2 (by simp; omega) (fun j hj => (World.ownsRow.lt HOW.out j hj).1)
                have HO2 := hide ho2
                clear ho2 hg2 hn2 HOW hb
                go_wp2
                go_roundw
                case rel =>
                  refine ⟨q + 1, by omega, by go_num, ?_, ?_, ?_, hb2⟩ <;> rw [HS.out, stp2]
                  · rfl
                  · have h2 := HO2.out
                    simp only
                    rw [Int.emod_eq_of_lt (by omega) (by omega)]
                    exact h2
                case measure => simp [intOf]; omega
              · have v2 : v < 16 := by simp at v1; omega
                have hB := hb.size
                have hln : o.length + 1 ≤ 140737488355328 := by omega
                go_wp2_with (first | (go_at_call 39; refine (place_any b64S _ _ (by show 64 ≤ 1048576; omega)).mono ?_; rintro e w' ⟨rfl, rfl⟩; rw [← HE.out]) | (at_builtin; refine step_append rfl rfl rfl (HOW.out.alloc _) (sl_one _ _ (by omega) (by omega)) hln (by simp; omega) ?_))
                intro u2 w2 ho2 hg2 hn2
                have hb2 : Below w.heap.size w w2 := (hb.alloc hb.size _).grown hg2 (by simp; omega) (fun j hj => (World.ownsRow.lt HOW.out j hj).1)
                have HO2 := hide ho2
                clear ho2 hg2 hn2 HOW hb
                go_wp2
                go_roundw
                case rel =>
                  refine ⟨q + 1, by omega, by go_num, ?_, ?_, ?_, hb2⟩ <;> rw [HS.out, stp4]
                  · rfl
                  · have h2 := HO2.out
                    simp only
                    rw [Int.emod_eq_of_lt (by omega) (by omega)]
                    exact h2
                case measure => simp [intOf]; omega
              · have v2 : v < 64 := by simp at v1; omega
                have hB := hb.size
                have hln : o.length + 1 ≤ 140737488355328 := by omega
                go_wp2_with (first | (go_at_call 39; refine (place_any b64S _ _ (by show 64 ≤ 1048576; omega)).mono ?_; rintro e w' ⟨rfl, rfl⟩; rw [← HE.out]) | (at_builtin; refine step_append rfl rfl rfl (HOW.out.alloc _) (sl_one _ _ (by omega) (by omega)) hln (by simp; omega) ?_))
                intro u2 w2 ho2 hg2 hn2
                have hb2 : Below w.heap.size w w2 := (hb.alloc hb.size _).grown hg2 (by simp; omega) (fun j hj => (World.ownsRow.lt HOW.out j hj).1)
                have HO2 := hide ho2
                clear ho2 hg2 hn2 HOW hb
                go_wp2
                go_roundw
                case rel =>
                  refine ⟨q + 1, by omega, by go_num, ?_, ?_, ?_, hb2⟩ <;> rw [HS.out, stp6]
                  · rfl
                  · have h2 := HO2.out
                    simp only
                    rw [Int.emod_eq_of_lt (by omega) (by omega)]
                    exact h2
                case measure => simp [intOf]; omega
            · have hqn : q = n := by omega
              subst hqn
              have hlv : lft s = v := by rw [lft, HZ.out, ← HST.out]
              by_cases hl : lft s ≠ 0
              · have E1 : Hid (ubAt s = (q : Int) - 1) := by show _ = _; rw [ubAt, if_neg HF.out, if_neg HOO.out, if_pos hl, HZ.out]
                have E2 : Hid (ubE s = 11) := by show _ = _; rw [ubE, if_pos (.inr (.inr hl))]
                have E3 : Hid (ubB s = []) := by show _ = _; rw [ubB, if_pos (.inr (.inr hl))]
                have hvb : (v != 0) = true := by rw [← hlv]; simp [hl]
                clear hl hlv
                go_wp2
                go_ret3
                rw [E1.out, E2.out, E3.out]
                exact ⟨_, rfl, Own.nil _ _, hb⟩
              · have E1 : Hid (ubAt s = 0) := by show _ = _; rw [ubAt, if_neg HF.out, if_neg HOO.out, if_neg hl]
                have E2 : Hid (ubE s = 0) := by show _ = _; rw [ubE, if_neg (by have h1 := HF.out; have h2 := HOO.out; omega)]
                have E3 : Hid (ubB s = o) := by
                  show _ = _
                  rw [ubB, if_neg (by have h1 := HF.out; have h2 := HOO.out; omega), HZ.out, ← HST.out]
                have hvb : (v != 0) = false := by rw [← hlv]; simp at hl; simp [hl]
                clear hl hlv
                go_wp2
                go_ret3
                rw [E1.out, E2.out, E3.out]
                exact ⟨_, rfl, HOW.out, hb⟩

end Go.Proofs.Ytpfpgimhnmnhlaa
