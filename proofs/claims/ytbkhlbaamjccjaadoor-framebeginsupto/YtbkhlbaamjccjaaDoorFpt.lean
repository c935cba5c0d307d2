/-
  A frame behind other bytes: the program's Cost and Put, the document's Frame.
-/
import Derived.Test.YtbkhlbaamjccjaaDoorFsp
import Derived.Laws.MakeOwn
import Derived.Laws.OwnMore
namespace Go.Proofs.YtbkhlbaamjccjaaDoor
open Go.RowKit
set_option linter.unusedVariables false
set_option linter.unusedSimpArgs false

/-- The sum that stands in a frame, and the frame's bytes. -/
def fmC (ys : List Int) : Nat := crE (crE 0 (be (ys.length : Int) 4)) ys
def fmB (ys : List Int) : List Int := be (ys.length : Int) 4 ++ be (fmC ys : Int) 4 ++ ys
theorem fmB_length (ys : List Int) : (fmB ys).length = 8 + ys.length := by simp [fmB, be_length]; omega
theorem fmB_isB (ys : List Int) (h : isB ys) : isB (fmB ys) := ((be_isB _ _).append (be_isB _ _)).append h
theorem fmC_lt (ys : List Int) : fmC ys < 4294967296 := crE_lt _ _

section
variable {dst : Option Tmp} {ty : TypeId} {pos : String} {aft : Array Edge} {gd : Option (Nat × Bool)} {ops : Array Oper} {rest : List Oper} {a : Act} {w : World} {Q : Exit → Act → World → Prop}
/-- make of an empty slice with room. -/
theorem step_make0 {l c : Operand} {C : Int} (n : Nat) (hw : Region.wanted ⟨dst, .makeSlice 23 l c, ty, pos, aft, gd⟩ (yielded ops a.tmps) = true)
    (hl : a.eval l = .int .i64 0) (hc : a.eval c = .int .i64 C) (hC : C = (n : Int)) (hn : n ≤ 281474976710656)
    (h : ∀ w1 g, Own w1 w.heap.size (.slice (some ⟨g, 0, none⟩) 0 n) [] → w.heap.size ≤ g → Below w.heap.size w w1 → wpList Tryd.prog ops Q rest (a.put dst (.slice (some ⟨g, 0, none⟩) 0 n)) w1) :
    wpList Tryd.prog ops Q (⟨dst, .makeSlice 23 l c, ty, pos, aft, gd⟩ :: rest) a w := by
  obtain ⟨i0, hi, hz0, hz1, hz2⟩ := info_parts infoB
  subst hC
  obtain ⟨w', hr, ho, hg⟩ := run_make_own (P := Tryd.prog) w w.heap.size 23 5 i0 (.int .u8 0) 1 undBs hi hz0 hz1 .i64 .i64 n (by rw [hz2]; omega) (by unfold maxLen; omega) (Nat.le_refl _)
  exact step_run hw (.slice (some ⟨w.heap.size, 0, none⟩) 0 n) w' (by simp [execOp, hl, hc, hr, Result.andThen]) (h w' w.heap.size ho (Nat.le_refl _) (Below.of_grown hg (Nat.le_refl _) (fun _ e => by cases e)))
/-- append where there is room. -/
theorem step_fits {s x : Operand} {B g n cap : Nat} {xs : List Int} {sa : Option Addr} {m c : Nat} {ys : List Int}
    (hw : Region.wanted ⟨dst, .call { callee := .builtin .append, args := #[s, x], argTypes := #[23, 23] }, ty, pos, aft, gd⟩ (yielded ops a.tmps) = true)
    (hs : a.eval s = .slice (some ⟨g, 0, none⟩) n cap) (hx : a.eval x = .slice sa m c) (hown : Own w B (.slice (some ⟨g, 0, none⟩) n cap) xs) (hn : xs.length = n) (hy : Sl w sa m c ys)
    (hroom : n + m ≤ cap)
    (h : ∀ w', Own w' B (.slice (some ⟨g, 0, none⟩) (n + m) cap) (xs ++ ys) → w.grownBy w' (some g) → wpList Tryd.prog ops Q rest (a.put dst (.slice (some ⟨g, 0, none⟩) (n + m) cap)) w') :
    wpList Tryd.prog ops Q (⟨dst, .call { callee := .builtin .append, args := #[s, x], argTypes := #[23, 23] }, ty, pos, aft, gd⟩ :: rest) a w := by
  subst hn
  obtain ⟨i0, hi, hz0, hz1, hz2⟩ := info_parts infoB
  cases sa with
  | none =>
    obtain ⟨rfl, rfl⟩ := hy.hnil rfl
    obtain rfl : ys = [] := List.eq_nil_of_length_eq_zero hy.hlen
    have hrun := run_append_owned_none (P := Tryd.prog) (w := w) B 23 ty 5 i0 1 undBs hi _ _ _ hown
    exact step_run hw (.slice (some ⟨g, 0, none⟩) (xs.length + 0) cap) w (by simp [execOp, resolve, invoke, builtin, hs, hx, hrun, Result.andThen]) (h w (by simpa using hown) (World.grownBy.refl _ _))
  | some ad =>
    obtain ⟨w', hrun, ho, hg⟩ := run_append_fits (P := Tryd.prog) w B 23 ty 5 i0 1 undBs hi hz1 g xs.length cap (u8s xs) hown ad m c (u8s ys) (by simp [u8s_length, hy.hlen])
      (by
        intro j u hu
        have hj : j < m := by
          have := (List.getElem?_eq_some_iff.1 hu).1
          simpa [u8s_length, hy.hlen] using this
        obtain ⟨b, off, e, hc⟩ := hy.hcell (by omega)
        obtain rfl := Option.some.inj e
        rw [Addr.add_lit, hc j hj]
        rw [u8s_get ys j (by rw [hy.hlen]; exact hj)] at hu
        exact hu)
      (One.u8 ys) hroom
    have hm : (xs ++ ys).length = xs.length + m := by rw [List.length_append, hy.hlen]
    exact step_run hw _ w' (by simp [execOp, resolve, invoke, builtin, hs, hx, hrun, Result.andThen]) (h w' (by unfold Own; rw [hm, u8s_app]; exact ho) hg)
end

set_option maxHeartbeats 400000 in
theorem cost_ok (n : Int) (w : World) (h0 : 0 ≤ n) (h1 : n ≤ 1048576) :
    Calls Tryd.prog 14 #[.int .i64 n] w fun e w' => e = .returned (.tuple #[.int .i64 (8 + n), .int .i64 0]) ∧ w = w' := by
  go_enter Tryd.func14, Tryd.ntmps14
  go_wp2
  go_ret2
  exact ⟨rfl, rfl⟩
set_option maxHeartbeats 400000 in
theorem cost_big (n : Int) (w : World) (h1 : 1048576 < n) :
    Calls Tryd.prog 14 #[.int .i64 n] w fun e w' => e = .returned (.tuple #[.int .i64 0, .int .i64 3]) ∧ w = w' := by
  have h0 : ¬ n < 0 := by omega
  go_enter Tryd.func14, Tryd.ntmps14
  go_wp2
  go_ret2
  exact ⟨rfl, rfl⟩
set_option maxHeartbeats 400000 in
theorem cost_neg (n : Int) (w : World) (h1 : n < 0) :
    Calls Tryd.prog 14 #[.int .i64 n] w fun e w' => e = .returned (.tuple #[.int .i64 0, .int .i64 2]) ∧ w = w' := by
  go_enter Tryd.func14, Tryd.ntmps14
  go_wp2
  go_ret2
  exact ⟨rfl, rfl⟩

set_option maxHeartbeats 400000 in
theorem put_big (a b : Option Addr) (len cap m c : Nat) (w : World) (hm : 1048576 < m) :
    Calls Tryd.prog 13 #[.slice a len cap, .slice b m c] w fun e w' => e = .returned (.tuple #[.slice none 0 0, .int .i64 3]) ∧ w = w' := by
  go_enter Tryd.func13, Tryd.ntmps13
  go_wp2_with (go_at_call 14; refine (cost_big _ _ (by omega)).mono ?_; rintro e w' ⟨rfl, rfl⟩)
  go_ret2
  exact ⟨rfl, rfl⟩

set_option maxHeartbeats 1000000 in
theorem put_ok (a b : Option Addr) (len cap m c : Nat) (xs ys : List Int) (w : World) (hs : Sl w a len cap xs) (hy : Sl w b m c ys) (hm : m ≤ 1048576) (hk : KT w) :
    Calls Tryd.prog 13 #[.slice a len cap, .slice b m c] w fun e w' => ∃ g, e = .returned (.tuple #[.slice (some ⟨g, 0, none⟩) (len + 8 + m) (len + (8 + m)), .int .i64 0]) ∧ w.heap.size ≤ g ∧ Own w' w.heap.size (.slice (some ⟨g, 0, none⟩) (len + 8 + m) (len + (8 + m))) (xs ++ fmB ys) ∧ Below w.heap.size w w' := by
  have hr := hs.hreach
  have hN : (ys.length : Int) = (m : Int) := by rw [hy.hlen]
  have HX := hide hs.hlen
  have HS := hide hs
  have HY := hide hy
  have HK := hide hk
  have hwm : IntKind.u32.wrap (m : Int) = (m : Int) := by rw [IntKind.wrap_u32]; omega
  have HF : Hid (fmB ys = be (m : Int) 4 ++ be (fmC ys : Int) 4 ++ ys) := hide (by unfold fmB; rw [hN])
  have HC : Hid (fmC ys = crE (crE 0 (be (m : Int) 4)) ys) := hide (by unfold fmC; rw [hN])
  rw [HF.out]
  have hc := fmC_lt ys
  obtain ⟨C, HCC⟩ : ∃ C, Hid (fmC ys = C) := ⟨_, hide rfl⟩
  rw [HCC.out] at hc HC
  rw [HCC.out]
  obtain ⟨hd, HHD⟩ : ∃ hd, Hid (be (m : Int) 4 ++ be (C : Int) 4 = hd) := ⟨_, hide rfl⟩
  rw [HHD.out]
  have hnil : Sl w none 0 0 [] := ⟨rfl, Nat.le_refl _, by omega, by omega, (fun x hx => by cases hx), fun _ => ⟨rfl, rfl⟩, fun h => absurd h (by omega)⟩
  have P1 := hide (putUint32_any none 0 0 [] (m : Int) w hnil (by omega) (by omega))
  clear hs hy hk hN hnil HF HCC
  go_enter Tryd.func13, Tryd.ntmps13
  go_wp2_with fail
  refine (cost_ok _ _ (by omega) (by omega)).mono ?_
  rintro e w0 ⟨rfl, rfl⟩
  go_wp2_with fail
  refine P1.out.mono ?_
  rintro e w1 ⟨g1, rfl, hg1, hr1, hb1⟩
  rw [List.nil_append] at hr1
  have s1 := hr1.sl0 (be_isB _ _) (by rw [be_length]; omega)
  rw [be_length] at s1
  have S1 := hide s1
  have K1 := hide (HK.out.on hb1)
  have Y1 := hide (HY.out.below hb1)
  have CA := hide (sum_any _ _ _ _ w1 S1.out K1.out)
  obtain ⟨t1, HT1⟩ : ∃ t1, Hid (crE 0 (be (m : Int) 4) = t1) := ⟨_, hide rfl⟩
  have ht1 : t1 < 4294967296 := by rw [← HT1.out]; exact crE_lt _ _
  rw [HT1.out] at CA HC
  have CB := hide (extend_any t1 _ _ _ _ w1 ht1 Y1.out K1.out)
  rw [← HC.out] at CB
  have P2 := hide (putUint32_any _ _ _ _ (C : Int) w1 S1.out (by omega) (by omega))
  have B1 := hide hb1
  clear s1 hr1 P1 HC HT1 HK hb1
  go_wp2_with fail
  refine CA.out.mono ?_
  rintro e w' ⟨rfl, rfl⟩
  go_wp2_with fail
  refine CB.out.mono ?_
  rintro e w' ⟨rfl, rfl⟩
  go_wp2_with fail
  refine P2.out.mono ?_
  rintro e w2 ⟨g2, rfl, hg2, hr2, hb2⟩
  have s2 := hr2.sl0 ((be_isB _ _).append (be_isB _ _)) (by simp [be_length])
  have hl8 : (be (m : Int) 4 ++ be (C : Int) 4).length = 4 + 4 := by simp [be_length]
  rw [hl8] at s2
  rw [HHD.out] at s2 hl8
  have S2 := hide s2
  have B2 := hide (on_below B1.out hb2)
  have HL8 := hide hl8
  have lt2 := hr2.lt
  clear P2 s2 hr2 hb2 CA CB S1 K1 Y1 B1 HHD hl8
  go_wp2_with (refine step_make0 (len + (8 + m)) rfl rfl rfl (by omega) (by omega) ?_)
  intro w3 g3 ho3 hg3 hb3
  have O3 := hide ho3
  have B3 := hide (on_below B2.out hb3)
  have S3 := hide (S2.out.below hb3)
  have l2 := B2.out.size
  clear ho3 hb3 S2 B2
  go_wp2_with (refine step_fits rfl rfl rfl O3.out rfl (HS.out.below B3.out) (by omega) ?_)
  intro w4 ho4 hg4
  rw [List.nil_append, Nat.zero_add] at ho4
  have lg3 : w.heap.size ≤ g3 := Nat.le_trans l2 hg3
  have b4 : Below w.heap.size w w4 := B3.out.trans (Below.of_grown hg4 B3.out.size (fun k e => by cases e; exact lg3))
  have S4 := hide (S3.out.chg (Chg.of_grown hg4) (fun _ x e => by cases e; show g2 ≠ g3; omega))
  have B4 := hide b4
  have O4 := hide ho4
  clear b4 ho4 hg4 S3 B3 O3
  go_wp2_with (refine step_fits rfl rfl rfl O4.out HX.out S4.out (by omega) ?_)
  intro w5 ho5 hg5
  have B5 := hide (B4.out.trans (Below.of_grown hg5 B4.out.size (fun k e => by cases e; exact lg3)))
  have O5 := hide ho5
  have Y5 := hide (HY.out.below B5.out)
  have HXL : Hid ((xs ++ hd).length = len + (4 + 4)) := hide (by rw [List.length_append, HX.out, HL8.out])
  clear ho5 hg5 S4 B4 O4
  go_wp2_with (refine step_fits rfl rfl rfl O5.out HXL.out Y5.out (by omega) ?_)
  intro w6 ho6 hg6
  have B6 := hide (B5.out.trans (Below.of_grown hg6 B5.out.size (fun k e => by cases e; exact lg3)))
  rw [List.append_assoc] at ho6
  go_wp2
  go_ret2
  exact ⟨g3, rfl, lg3, ho6.mono l2, B6.out⟩
set_option maxHeartbeats 1000000 in
/-- The document's frame of data that are not too long. -/
theorem frameR_any (b : Option Addr) (m c : Nat) (ys : List Int) (w : World) (hy : Sl w b m c ys) (hm : m ≤ 1048576) :
    Calls Tryd.prog 16 #[.slice b m c] w fun e w' => ∃ v, e = .returned v ∧ Own w' w.heap.size v (fmB ys) ∧ Below w.heap.size w w' := by
  have hN : (ys.length : Int) = (m : Int) := by rw [hy.hlen]
  have HY := hide hy
  have hwm : IntKind.u64.wrap (m : Int) = (m : Int) := by rw [IntKind.wrap_u64]; omega
  have HF : Hid (fmB ys = be (m : Int) 4 ++ be (fmC ys : Int) 4 ++ ys) := hide (by unfold fmB; rw [hN])
  have HC : Hid (fmC ys = crE (crE 0 (be (m : Int) 4)) ys) := hide (by unfold fmC; rw [hN])
  rw [HF.out]
  have hc := fmC_lt ys
  obtain ⟨C, HCC⟩ : ∃ C, Hid (fmC ys = C) := ⟨_, hide rfl⟩
  rw [HCC.out] at hc HC
  rw [HCC.out]
  have hwc : IntKind.u64.wrap (C : Int) = (C : Int) := by rw [IntKind.wrap_u64]; omega
  have P1 := hide (number_ref (m : Int) 4 w (by omega) (by omega) (by omega))
  clear hy hN HF HCC
  go_enter Tryd.func16, Tryd.ntmps16
  go_wp2_with fail
  refine P1.out.mono ?_
  rintro e w1 ⟨g1, rfl, hg1, hr1, hb1⟩
  have s1 := hr1.sl0 (be_isB _ _) (by rw [be_length]; omega)
  rw [be_length] at s1
  have S1 := hide s1
  have O1 := hide (Own.of_blk hr1 hg1 (by rw [be_length]; omega))
  rw [be_length] at O1
  have Y1 := hide (HY.out.below hb1)
  have CA := hide (sumR_any _ _ _ _ w1 S1.out)
  obtain ⟨t1, HT1⟩ : ∃ t1, Hid (crE 0 (be (m : Int) 4) = t1) := ⟨_, hide rfl⟩
  have ht1 : t1 < 4294967296 := by rw [← HT1.out]; exact crE_lt _ _
  rw [HT1.out] at CA HC
  have CB := hide (extendR_any t1 _ _ _ _ w1 ht1 Y1.out)
  rw [← HC.out] at CB
  have P2 := hide (number_ref (C : Int) 4 w1 (by omega) (by omega) (by omega))
  have B1 := hide hb1
  clear s1 hr1 P1 HC HT1 hb1
  go_wp2_with fail
  refine CA.out.mono ?_
  rintro e w' ⟨rfl, rfl⟩
  go_wp2_with fail
  refine CB.out.mono ?_
  rintro e w' ⟨rfl, rfl⟩
  go_wp2_with fail
  refine P2.out.mono ?_
  rintro e w2 ⟨g2, rfl, hg2, hr2, hb2⟩
  have s2 := hr2.sl0 (be_isB _ _) (by rw [be_length]; omega)
  rw [be_length] at s2
  have S2 := hide s2
  have O2 := hide (O1.out.below hb2)
  have B2 := hide (on_below B1.out hb2)
  have l2 := B2.out.size
  clear P2 s2 hr2 hb2 CA CB S1 Y1 B1 O1
  go_wp2_with (refine step_append rfl rfl rfl O2.out S2.out (by simp [be_length]) l2 ?_)
  intro v3 w3 ho3 hg3 _
  have B3 := hide (B2.out.trans (Below.of_grown hg3 B2.out.size O2.out.lt))
  have Y3 := hide (HY.out.below B3.out)
  have O3 := hide ho3
  have l3 := B3.out.size
  clear ho3 hg3 O2 B2 S2
  go_wp2_with (refine step_append rfl rfl rfl O3.out Y3.out (by simp [be_length]; omega) l3 ?_)
  intro v4 w4 ho4 hg4 _
  have B4 := hide (B3.out.trans (Below.of_grown hg4 B3.out.size O3.out.lt))
  go_wp2
  go_ret
  exact ⟨v4, rfl, ho4, B4.out⟩

end Go.Proofs.YtbkhlbaamjccjaaDoor
