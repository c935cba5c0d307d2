/-
  octet, ported from round 1 (Pack).
-/
import Derived.Test.YtgfmncgdajhmfaaOApp
import Derived.Test.YtgfmncgdajhmfaaODigit
namespace Go.Proofs.Ytgfmncgdajhmfaa
open Go.RowKit
set_option linter.unusedVariables false

/-- One digit more: the bits that fill no byte yet, how many they are, the bytes. -/
def stp (st : Int × Nat × List Int) (d : Int) : Int × Nat × List Int :=
  if st.2.1 = 0 then (st.1 * 64 + d, 6, st.2.2) else ((st.1 * 64 + d) % 2 ^ (st.2.1 - 2), st.2.1 - 2, st.2.2 ++ [(st.1 * 64 + d) / 2 ^ (st.2.1 - 2) % 256])
def pkT (A S : List UInt8) (k : Nat) : Int × Nat × List Int := ((S.take k).map (pl A)).foldl stp (0, 0, [])

theorem pkT_succ (A S : List UInt8) (k : Nat) (h : k < S.length) : pkT A S (k + 1) = stp (pkT A S k) (pl A S[k]) := by
  rw [pkT, List.take_succ_eq_append_getElem h, List.map_append, List.foldl_append]
  rfl

/-- What is always so. -/
structure PkInv (k : Nat) (st : Int × Nat × List Int) : Prop where
  h : st.2.1 = 0 ∨ st.2.1 = 2 ∨ st.2.1 = 4 ∨ st.2.1 = 6
  v0 : 0 ≤ st.1
  v1 : st.1 < 2 ^ st.2.1
  o : isB st.2.2
  l : st.2.2.length * 8 + st.2.1 = 6 * k

theorem PkInv.next {k : Nat} {st : Int × Nat × List Int} (i : PkInv k st) (d : Int) (h0 : 0 ≤ d) (h1 : d ≤ 63) : PkInv (k + 1) (stp st d) := by
  obtain ⟨v, h, o⟩ := st
  obtain ⟨hh, v0, v1, ob, l⟩ := i
  simp only at hh v0 v1 ob l
  have isnoc : ∀ y : Int, 0 ≤ y → y ≤ 255 → isB (o ++ [y]) := fun y y0 y1 => ob.append (by intro x hx; simp at hx; omega)
  rcases hh with rfl | rfl | rfl | rfl
  · refine ⟨by simp [stp], by simp [stp]; omega, by simp [stp]; simp at v1; omega, by simpa [stp] using ob, by simp [stp]; omega⟩
  · refine ⟨by simp [stp], by simp [stp], by simp [stp], ?_, by simp [stp]; omega⟩
    simp only [stp]; exact isnoc _ (by omega) (by omega)
  · refine ⟨by simp [stp], by simp [stp]; omega, by simp [stp]; omega, ?_, by simp [stp]; omega⟩
    simp only [stp]; exact isnoc _ (by omega) (by omega)
  · refine ⟨by simp [stp], by simp [stp]; omega, by simp [stp]; omega, ?_, by simp [stp]; omega⟩
    simp only [stp]; exact isnoc _ (by omega) (by omega)

theorem pk_inv (A S : List UInt8) (hd : ∀ i (h : i < S.length), 0 ≤ pl A S[i] ∧ pl A S[i] ≤ 63) : ∀ k, k ≤ S.length → PkInv k (pkT A S k) := by
  intro k
  induction k with
  | zero => intro _; refine ⟨by simp [pkT], by simp [pkT], by simp [pkT], ?_, by simp [pkT]⟩; intro x hx; simp [pkT] at hx
  | succ k ih =>
    intro hk
    rw [pkT_succ A S k (by omega)]
    exact (ih (by omega)).next _ (hd k (by omega)).1 (hd k (by omega)).2

theorem or6 (v d : Int) (h0 : 0 ≤ v) (h1 : v < 64) (h2 : 0 ≤ d) (h3 : d ≤ 63) : bits BinOp.or IntKind.u32 (v * 64) d = v * 64 + d := by
  rw [u32_or _ _ (by omega) (by omega) (by omega) (by omega), nat_join 6 _ _ (by omega) (by omega)]
  omega

theorem stp0 (v d : Int) (o : List Int) : stp (v, 0, o) d = (v * 64 + d, 6, o) := by simp [stp]
theorem stp2 (v d : Int) (o : List Int) : stp (v, 2, o) d = (0, 0, o ++ [(v * 64 + d) % 256]) := by simp [stp]
theorem stp4 (v d : Int) (o : List Int) : stp (v, 4, o) d = ((v * 64 + d) % 4, 2, o ++ [(v * 64 + d) / 4 % 256]) := by simp [stp]
theorem stp6 (v d : Int) (o : List Int) : stp (v, 6, o) d = ((v * 64 + d) % 16, 4, o ++ [(v * 64 + d) / 16 % 256]) := by simp [stp]

theorem and0 (x : Int) (h0 : 0 ≤ x) (h1 : x < 4294967296) : bits BinOp.and IntKind.u32 x 0 = 0 := by
  rw [u32_and _ _ h0 h1 (by omega) (by omega)]; simp
theorem and3 (x : Int) (h0 : 0 ≤ x) (h1 : x < 4294967296) : bits BinOp.and IntKind.u32 x 3 = x % 4 := by
  rw [u32_and _ _ h0 h1 (by omega) (by omega)]
  have e : (3 : Int).toNat = 3 := rfl
  rw [e, nat_mask2]; omega
theorem and15 (x : Int) (h0 : 0 ≤ x) (h1 : x < 4294967296) : bits BinOp.and IntKind.u32 x 15 = x % 16 := by
  rw [u32_and _ _ h0 h1 (by omega) (by omega)]
  have e : (15 : Int).toNat = 15 := rfl
  rw [e, nat_mask4]; omega

theorem sl_one (w : World) (y : Int) (h0 : 0 ≤ y) (h1 : y ≤ 255) : Sl (w.alloc (.cells #[.int .u8 y] 5)) (some ⟨w.heap.size, 0, none⟩) 1 1 [y] :=
  (Row.made w 5 [y]).sl (by intro x hx; simp at hx; omega) (by simp)

set_option maxHeartbeats 1000000 in
theorem packed_any (A s : ByteArray) (g : Nat) (w : World) (hs : s.size ≤ 8388608) (hg : w.cell? ⟨g, 0, none⟩ = some (.string A)) (hd : ∀ i (h : i < s.data.toList.length), 0 ≤ pl A.data.toList s.data.toList[i] ∧ pl A.data.toList s.data.toList[i] ≤ 63) :
    Calls Try.prog 22 #[.string s, .func (.func 26) #[] #[.pointer (some ⟨g, 0, none⟩)]] w fun e w' =>
      ∃ v, e = .returned (.tuple #[v, .int .u32 (pkT A.data.toList s.data.toList s.size).1]) ∧ Own w' w.heap.size v (pkT A.data.toList s.data.toList s.size).2.2 ∧ v ≠ .slice none 0 0 ∧ Below w.heap.size w w' := by
  have HZ := hide (show s.data.toList.length = s.size by simp)
  have HI := hide (pk_inv A.data.toList s.data.toList hd)
  have HD := hide hd
  have HG := hide hg
  have hgl : g < w.heap.size := World.block_lt_of_cell? w _ hg
  clear hd hg
  obtain ⟨i0, hi, hz0, hz1, hz2⟩ := info_parts info5b
  go_enter Try.func22, Try.ntmps22
  go_wp2_with (at_make; refine wpList_make_own _ rfl _ _ 22 rfl w.heap.size 5 i0 (.int .u8 0) 1 Try.underlying22 hi hz0 hz1 _ _ _ (s.size * 3 / 4) rfl rfl (by omega) (by rw [hz2]; omega) (by unfold maxLen; omega) (Nat.le_refl _) ?_)
  intro w1 ho1 hg1
  have hb1 : Below w.heap.size w w1 := (Below.refl _ _).grown hg1 (Nat.le_refl _) (fun k e => by cases e)
  have HO : Hid (Own w1 w.heap.size (.slice (some ⟨w.heap.size, 0, none⟩) 0 (s.size * 3 / 4)) []) := ho1
  clear ho1 hg1
  go_wp2
  go_loopw [4, 6, 7, 16] (fun v b h i wr => ∃ k : Nat, k ≤ s.size ∧ i = .int .i64 k ∧ b = .int .u32 (pkT A.data.toList s.data.toList k).1 ∧ h = .int .i64 (pkT A.data.toList s.data.toList k).2.1 ∧ Own wr w.heap.size v (pkT A.data.toList s.data.toList k).2.2 ∧ v ≠ .slice none 0 0 ∧ Below w.heap.size w wr) (fun _ _ _ i _ => s.size - (intOf i).toNat)
  case atStart => exact ⟨0, by omega, rfl, rfl, rfl, HO.out, (fun e => by cases e), hb1⟩
  case round =>
    obtain ⟨k, hk, rfl, rfl, rfl, ho, hvn, hb⟩ := hrel
    have inv := HI.out k (by rw [HZ.out]; exact hk)
    obtain ⟨st, hst⟩ : ∃ st, st = pkT A.data.toList s.data.toList k := ⟨_, rfl⟩
    rw [← hst] at inv ho ⊢
    have HST := hide hst
    clear hst
    obtain ⟨v, h, o⟩ := st
    obtain ⟨hh, v0, v1, ob, ll⟩ := inv
    simp only at hh v0 v1 ob ll ho ⊢
    have HOO := hide ho
    have HVN := hide hvn
    clear ho hvn
    by_cases hlt : k < s.size
    · have hc := (hb.cell hgl).trans HG.out
      have HC := hide hc
      clear hc
      have dd := HD.out k (by rw [HZ.out]; exact hlt)
      have egk : s.data.toList[k]'(by rw [HZ.out]; exact hlt) = s[k] := rfl
      rw [egk] at dd
      obtain ⟨d, hde⟩ : ∃ d, d = pl A.data.toList s[k] := ⟨_, rfl⟩
      rw [← hde] at dd
      have HE := hide hde
      have HS := hide (show pkT A.data.toList s.data.toList (k + 1) = stp (v, h, o) d by rw [pkT_succ _ _ k (by rw [HZ.out]; exact hlt), ← HST.out, egk, hde])
      clear hde egk
      obtain ⟨d0, d1⟩ := dd
      rcases hh with rfl | rfl | rfl | rfl
      · have e := or6 v d v0 (by simp at v1; omega) d0 d1
        go_wp2_with (go_at_call 26; refine (value_any A _ g _ HC.out).mono ?_; rintro e w' ⟨rfl, rfl⟩; rw [← HE.out])
        go_roundw
        case rel =>
          refine ⟨k + 1, by omega, by go_num, ?_, ?_, ?_, HVN.out, hb⟩ <;> rw [HS.out, stp0]
          · rfl
          · exact HOO.out
        case measure => simp [intOf]; omega
      · have v2 : v < 4 := by simp at v1; omega
        have e := or6 v d v0 (by omega) d0 d1
        have ea := and0 (v * 64 + d) (by omega) (by omega)
        have hB := hb.size
        have hln : o.length + 1 ≤ 140737488355328 := by omega
        go_wp2_with (first | (go_at_call 26; refine (value_any A _ g _ HC.out).mono ?_; rintro e w' ⟨rfl, rfl⟩; rw [← HE.out]) | (at_builtin; refine step_append rfl rfl rfl (HOO.out.alloc _) (sl_one _ _ (by omega) (by omega)) hln (by simp; omega) ?_))
        intro u2 w2 ho2 hg2 hn2
        have hb2 : Below w.heap.size w w2 := (hb.alloc hb.size _).grown hg2 (by simp; omega) (fun j hj => (World.ownsRow.lt HOO.out j hj).1)
        have HO2 := hide ho2
        have HN2 : Hid (u2 ≠ .slice none 0 0) := fun ee => HVN.out (hn2 ee).1
        clear ho2 hg2 hn2 HOO HC hb
        go_wp2
        go_roundw
        case rel =>
          refine ⟨k + 1, by omega, by go_num, ?_, ?_, ?_, HN2.out, hb2⟩ <;> rw [HS.out, stp2]
          · rfl
          · have h2 := HO2.out
            simp only
            rw [Int.emod_eq_of_lt (by omega) (by omega)]
            exact h2
        case measure => simp [intOf]; omega
      · have v2 : v < 16 := by simp at v1; omega
        have e := or6 v d v0 (by omega) d0 d1
        have ea := and3 (v * 64 + d) (by omega) (by omega)
        have hB := hb.size
        have hln : o.length + 1 ≤ 140737488355328 := by omega
        go_wp2_with (first | (go_at_call 26; refine (value_any A _ g _ HC.out).mono ?_; rintro e w' ⟨rfl, rfl⟩; rw [← HE.out]) | (at_builtin; refine step_append rfl rfl rfl (HOO.out.alloc _) (sl_one _ _ (by omega) (by omega)) hln (by simp; omega) ?_))
        intro u2 w2 ho2 hg2 hn2
        have hb2 : Below w.heap.size w w2 := (hb.alloc hb.size _).grown hg2 (by simp; omega) (fun j hj => (World.ownsRow.lt HOO.out j hj).1)
        have HO2 := hide ho2
        have HN2 : Hid (u2 ≠ .slice none 0 0) := fun ee => HVN.out (hn2 ee).1
        clear ho2 hg2 hn2 HOO HC hb
        go_wp2
        go_roundw
        case rel =>
          refine ⟨k + 1, by omega, by go_num, ?_, ?_, ?_, HN2.out, hb2⟩ <;> rw [HS.out, stp4]
          · rfl
          · have h2 := HO2.out
            simp only
            rw [Int.emod_eq_of_lt (by omega) (by omega)]
            exact h2
        case measure => simp [intOf]; omega
      · have v2 : v < 64 := by simp at v1; omega
        have e := or6 v d v0 (by omega) d0 d1
        have ea := and15 (v * 64 + d) (by omega) (by omega)
        have hB := hb.size
        have hln : o.length + 1 ≤ 140737488355328 := by omega
        go_wp2_with (first | (go_at_call 26; refine (value_any A _ g _ HC.out).mono ?_; rintro e w' ⟨rfl, rfl⟩; rw [← HE.out]) | (at_builtin; refine step_append rfl rfl rfl (HOO.out.alloc _) (sl_one _ _ (by omega) (by omega)) hln (by simp; omega) ?_))
        intro u2 w2 ho2 hg2 hn2
        have hb2 : Below w.heap.size w w2 := (hb.alloc hb.size _).grown hg2 (by simp; omega) (fun j hj => (World.ownsRow.lt HOO.out j hj).1)
        have HO2 := hide ho2
        have HN2 : Hid (u2 ≠ .slice none 0 0) := fun ee => HVN.out (hn2 ee).1
        clear ho2 hg2 hn2 HOO HC hb
        go_wp2
        go_roundw
        case rel =>
          refine ⟨k + 1, by omega, by go_num, ?_, ?_, ?_, HN2.out, hb2⟩ <;> rw [HS.out, stp6]
          · rfl
          · have h2 := HO2.out
            simp only
            rw [Int.emod_eq_of_lt (by omega) (by omega)]
            exact h2
        case measure => simp [intOf]; omega
    · have hks : k = s.size := by omega
      subst hks
      go_wp2
      go_ret2
      rw [← HST.out]
      exact ⟨_, rfl, HOO.out, HVN.out, hb⟩

end Go.Proofs.Ytgfmncgdajhmfaa
