/-
  Texts one behind the other: Jfpt Jffb Jma Jmb Jrg Jal Jck Jfm Jfn Jrp Jnn Jso Jgn.
-/
import Derived.Test.YtninkkdbcgadpaaGreatDoorPkA
import Derived.Laws.MakeOwn
import Derived.Laws.OwnMore
import Derived.Test.YtninkkdbcgadpaaGreatDoorJct
import Derived.Test.YtninkkdbcgadpaaGreatDoorJnb
import Derived.Test.YtninkkdbcgadpaaGreatDoorJmk
import Derived.Test.YtninkkdbcgadpaaGreatDoorJls
import Derived.Test.YtninkkdbcgadpaaGreatDoorKql
import Derived.Test.YtninkkdbcgadpaaGreatDoorFrg
import Derived.Test.YtninkkdbcgadpaaGreatDoorPlain
import Derived.Sort.OwnSortedInts
import Derived.Lib.ConvBytes
import Derived.Lib.AtoiErrMem

/-
  A frame behind other bytes: the program's Cost and Put, the document's Frame.
-/
namespace Go.Proofs.YtninkkdbcgadpaaGreatDoor
open Go.RowKit
set_option linter.unusedVariables false
set_option maxRecDepth 100000
set_option linter.unusedSimpArgs false

/-- The sum that stands in a frame, and the frame's bytes. -/
def fmC (ys : List Int) : Nat := crcE (crcE 0 (be (ys.length : Int) 4)) ys
def fmB (ys : List Int) : List Int := be (ys.length : Int) 4 ++ be (fmC ys : Int) 4 ++ ys
theorem fmB_length (ys : List Int) : (fmB ys).length = 8 + ys.length := by simp [fmB, be_length]; omega
theorem fmB_isB (ys : List Int) (h : isB ys) : isB (fmB ys) := ((be_isB _ _).append (be_isB _ _)).append h
theorem fmC_lt (ys : List Int) : fmC ys < 4294967296 := crE_lt _ _

section
variable {dst : Option Tmp} {ty : TypeId} {pos : String} {aft : Array Edge} {gd : Option (Nat × Bool)} {ops : Array Oper} {rest : List Oper} {a : Act} {w : World} {Q : Exit → Act → World → Prop}
/-- make of an empty slice with room. -/
theorem step_make0 {l c : Operand} {C : Int} (n : Nat) (hw : Region.wanted ⟨dst, .makeSlice 39 l c, ty, pos, aft, gd⟩ (yielded ops a.tmps) = true)
    (hl : a.eval l = .int .i64 0) (hc : a.eval c = .int .i64 C) (hC : C = (n : Int)) (hn : n ≤ 281474976710656)
    (h : ∀ w1 g, Own w1 w.heap.size (.slice (some ⟨g, 0, none⟩) 0 n) [] → w.heap.size ≤ g → Below w.heap.size w w1 → wpList Tryz.prog ops Q rest (a.put dst (.slice (some ⟨g, 0, none⟩) 0 n)) w1) :
    wpList Tryz.prog ops Q (⟨dst, .makeSlice 39 l c, ty, pos, aft, gd⟩ :: rest) a w := by
  obtain ⟨i0, hi, hz0, hz1, hz2⟩ := info_parts infoB
  subst hC
  obtain ⟨w', hr, ho, hg⟩ := run_make_own (P := Tryz.prog) w w.heap.size 39 5 i0 (.int .u8 0) 1 undBs hi hz0 hz1 .i64 .i64 n (by rw [hz2]; omega) (by unfold maxLen; omega) (Nat.le_refl _)
  exact step_run hw (.slice (some ⟨w.heap.size, 0, none⟩) 0 n) w' (by simp [execOp, hl, hc, hr, Result.andThen]) (h w' w.heap.size ho (Nat.le_refl _) (Below.of_grown hg (Nat.le_refl _) (fun _ e => by cases e)))
/-- append where there is room. -/
theorem step_fits {s x : Operand} {B g n cap : Nat} {xs : List Int} {sa : Option Addr} {m c : Nat} {ys : List Int}
    (hw : Region.wanted ⟨dst, .call { callee := .builtin .append, args := #[s, x], argTypes := #[39, 39] }, ty, pos, aft, gd⟩ (yielded ops a.tmps) = true)
    (hs : a.eval s = .slice (some ⟨g, 0, none⟩) n cap) (hx : a.eval x = .slice sa m c) (hown : Own w B (.slice (some ⟨g, 0, none⟩) n cap) xs) (hn : xs.length = n) (hy : Sl w sa m c ys)
    (hroom : n + m ≤ cap)
    (h : ∀ w', Own w' B (.slice (some ⟨g, 0, none⟩) (n + m) cap) (xs ++ ys) → w.grownBy w' (some g) → wpList Tryz.prog ops Q rest (a.put dst (.slice (some ⟨g, 0, none⟩) (n + m) cap)) w') :
    wpList Tryz.prog ops Q (⟨dst, .call { callee := .builtin .append, args := #[s, x], argTypes := #[39, 39] }, ty, pos, aft, gd⟩ :: rest) a w := by
  subst hn
  obtain ⟨i0, hi, hz0, hz1, hz2⟩ := info_parts infoB
  cases sa with
  | none =>
    obtain ⟨rfl, rfl⟩ := hy.hnil rfl
    obtain rfl : ys = [] := List.eq_nil_of_length_eq_zero hy.hlen
    have hrun := run_append_owned_none (P := Tryz.prog) (w := w) B 39 ty 5 i0 1 undBs hi _ _ _ hown
    exact step_run hw (.slice (some ⟨g, 0, none⟩) (xs.length + 0) cap) w (by simp [execOp, resolve, invoke, builtin, hs, hx, hrun, Result.andThen]) (h w (by simpa using hown) (World.grownBy.refl _ _))
  | some ad =>
    obtain ⟨w', hrun, ho, hg⟩ := run_append_fits (P := Tryz.prog) w B 39 ty 5 i0 1 undBs hi hz1 g xs.length cap (u8s xs) hown ad m c (u8s ys) (by simp [u8s_length, hy.hlen])
      (by
        intro j u hu
        have hj : j < m := by
          have := (List.getElem?_eq_some_iff.1 hu).1
          simpa [u8s_length, hy.hlen] using this
        obtain ⟨b, off, e, hc⟩ := hy.hcell (by omega)
        obtain rfl := Option.some.inj e
        rw [Addr.add_lit, hc j hj]
        rw [u8s_get ys j (by rw [hy.hlen]; exact hj)] at hu
        exact hu)
      (One.u8 ys) hroom
    have hm : (xs ++ ys).length = xs.length + m := by rw [List.length_append, hy.hlen]
    exact step_run hw _ w' (by simp [execOp, resolve, invoke, builtin, hs, hx, hrun, Result.andThen]) (h w' (by unfold Own; rw [hm, u8s_app]; exact ho) hg)
end

set_option maxHeartbeats 400000 in
theorem cost_ok (n : Int) (w : World) (h0 : 0 ≤ n) (h1 : n ≤ 1048576) :
    Calls Tryz.prog 82 #[.int .i64 n] w fun e w' => e = .returned (.tuple #[.int .i64 (8 + n), .int .i64 0]) ∧ w = w' := by
  go_enter Tryz.func82, Tryz.ntmps82
  go_wp2
  go_ret2
  exact ⟨rfl, rfl⟩
set_option maxHeartbeats 400000 in
theorem cost_big (n : Int) (w : World) (h1 : 1048576 < n) :
    Calls Tryz.prog 82 #[.int .i64 n] w fun e w' => e = .returned (.tuple #[.int .i64 0, .int .i64 3]) ∧ w = w' := by
  have h0 : ¬ n < 0 := by omega
  go_enter Tryz.func82, Tryz.ntmps82
  go_wp2
  go_ret2
  exact ⟨rfl, rfl⟩
set_option maxHeartbeats 400000 in
theorem cost_neg (n : Int) (w : World) (h1 : n < 0) :
    Calls Tryz.prog 82 #[.int .i64 n] w fun e w' => e = .returned (.tuple #[.int .i64 0, .int .i64 2]) ∧ w = w' := by
  go_enter Tryz.func82, Tryz.ntmps82
  go_wp2
  go_ret2
  exact ⟨rfl, rfl⟩

set_option maxHeartbeats 400000 in
theorem put_big (a b : Option Addr) (len cap m c : Nat) (w : World) (hm : 1048576 < m) :
    Calls Tryz.prog 51 #[.slice a len cap, .slice b m c] w fun e w' => e = .returned (.tuple #[.slice none 0 0, .int .i64 3]) ∧ w = w' := by
  go_enter Tryz.func51, Tryz.ntmps51
  go_wp2_with (go_at_call 82; refine (cost_big _ _ (by omega)).mono ?_; rintro e w' ⟨rfl, rfl⟩)
  go_ret2
  exact ⟨rfl, rfl⟩

set_option maxHeartbeats 1000000 in
theorem put_ok (a b : Option Addr) (len cap m c : Nat) (xs ys : List Int) (w : World) (hs : Sl w a len cap xs) (hy : Sl w b m c ys) (hm : m ≤ 1048576) (hk : KT w) :
    Calls Tryz.prog 51 #[.slice a len cap, .slice b m c] w fun e w' => ∃ g, e = .returned (.tuple #[.slice (some ⟨g, 0, none⟩) (len + 8 + m) (len + (8 + m)), .int .i64 0]) ∧ w.heap.size ≤ g ∧ Own w' w.heap.size (.slice (some ⟨g, 0, none⟩) (len + 8 + m) (len + (8 + m))) (xs ++ fmB ys) ∧ Below w.heap.size w w' := by
  have hr := hs.hreach
  have hN : (ys.length : Int) = (m : Int) := by rw [hy.hlen]
  have HX := hide hs.hlen
  have HS := hide hs
  have HY := hide hy
  have HK := hide hk
  have hwm : IntKind.u32.wrap (m : Int) = (m : Int) := by rw [IntKind.wrap_u32]; omega
  have HF : Hid (fmB ys = be (m : Int) 4 ++ be (fmC ys : Int) 4 ++ ys) := hide (by unfold fmB; rw [hN])
  have HC : Hid (fmC ys = crcE (crcE 0 (be (m : Int) 4)) ys) := hide (by unfold fmC; rw [hN])
  rw [HF.out]
  have hc := fmC_lt ys
  obtain ⟨C, HCC⟩ : ∃ C, Hid (fmC ys = C) := ⟨_, hide rfl⟩
  rw [HCC.out] at hc HC
  rw [HCC.out]
  obtain ⟨hd, HHD⟩ : ∃ hd, Hid (be (m : Int) 4 ++ be (C : Int) 4 = hd) := ⟨_, hide rfl⟩
  rw [HHD.out]
  have hnil : Sl w none 0 0 [] := ⟨rfl, Nat.le_refl _, by omega, by omega, (fun x hx => by cases hx), fun _ => ⟨rfl, rfl⟩, fun h => absurd h (by omega)⟩
  have P1 := hide (putUint32_any none 0 0 [] (m : Int) w hnil (by omega) (by omega))
  clear hs hy hk hN hnil HF HCC
  go_enter Tryz.func51, Tryz.ntmps51
  go_wp2_with fail
  refine (cost_ok _ _ (by omega) (by omega)).mono ?_
  rintro e w0 ⟨rfl, rfl⟩
  go_wp2_with fail
  refine P1.out.mono ?_
  rintro e w1 ⟨g1, rfl, hg1, hr1, hb1⟩
  rw [List.nil_append] at hr1
  have s1 := hr1.sl0 (be_isB _ _) (by rw [be_length]; omega)
  rw [be_length] at s1
  have S1 := hide s1
  have K1 := hide (HK.out.on hb1)
  have Y1 := hide (HY.out.below hb1)
  have CA := hide (sum_any _ _ _ _ w1 S1.out K1.out)
  obtain ⟨t1, HT1⟩ : ∃ t1, Hid (crcE 0 (be (m : Int) 4) = t1) := ⟨_, hide rfl⟩
  have ht1 : t1 < 4294967296 := by rw [← HT1.out]; exact crE_lt _ _
  rw [HT1.out] at CA HC
  have CB := hide (extend_any t1 _ _ _ _ w1 ht1 Y1.out K1.out)
  rw [← HC.out] at CB
  have P2 := hide (putUint32_any _ _ _ _ (C : Int) w1 S1.out (by omega) (by omega))
  have B1 := hide hb1
  clear s1 hr1 P1 HC HT1 HK hb1
  go_wp2_with fail
  refine CA.out.mono ?_
  rintro e w' ⟨rfl, rfl⟩
  go_wp2_with fail
  refine CB.out.mono ?_
  rintro e w' ⟨rfl, rfl⟩
  go_wp2_with fail
  refine P2.out.mono ?_
  rintro e w2 ⟨g2, rfl, hg2, hr2, hb2⟩
  have s2 := hr2.sl0 ((be_isB _ _).append (be_isB _ _)) (by simp [be_length])
  have hl8 : (be (m : Int) 4 ++ be (C : Int) 4).length = 4 + 4 := by simp [be_length]
  rw [hl8] at s2
  rw [HHD.out] at s2 hl8
  have S2 := hide s2
  have B2 := hide (on_below B1.out hb2)
  have HL8 := hide hl8
  have lt2 := hr2.lt
  clear P2 s2 hr2 hb2 CA CB S1 K1 Y1 B1 HHD hl8
  go_wp2_with (refine step_make0 (len + (8 + m)) rfl rfl rfl (by omega) (by omega) ?_)
  intro w3 g3 ho3 hg3 hb3
  have O3 := hide ho3
  have B3 := hide (on_below B2.out hb3)
  have S3 := hide (S2.out.below hb3)
  have l2 := B2.out.size
  clear ho3 hb3 S2 B2
  go_wp2_with (refine step_fits rfl rfl rfl O3.out rfl (HS.out.below B3.out) (by omega) ?_)
  intro w4 ho4 hg4
  rw [List.nil_append, Nat.zero_add] at ho4
  have lg3 : w.heap.size ≤ g3 := Nat.le_trans l2 hg3
  have b4 : Below w.heap.size w w4 := B3.out.trans (Below.of_grown hg4 B3.out.size (fun k e => by cases e; exact lg3))
  have S4 := hide (S3.out.chg (Chg.of_grown hg4) (fun _ x e => by cases e; show g2 ≠ g3; omega))
  have B4 := hide b4
  have O4 := hide ho4
  clear b4 ho4 hg4 S3 B3 O3
  go_wp2_with (refine step_fits rfl rfl rfl O4.out HX.out S4.out (by omega) ?_)
  intro w5 ho5 hg5
  have B5 := hide (B4.out.trans (Below.of_grown hg5 B4.out.size (fun k e => by cases e; exact lg3)))
  have O5 := hide ho5
  have Y5 := hide (HY.out.below B5.out)
  have HXL : Hid ((xs ++ hd).length = len + (4 + 4)) := hide (by rw [List.length_append, HX.out, HL8.out])
  clear ho5 hg5 S4 B4 O4
  go_wp2_with (refine step_fits rfl rfl rfl O5.out HXL.out Y5.out (by omega) ?_)
  intro w6 ho6 hg6
  have B6 := hide (B5.out.trans (Below.of_grown hg6 B5.out.size (fun k e => by cases e; exact lg3)))
  rw [List.append_assoc] at ho6
  go_wp2
  go_ret2
  exact ⟨g3, rfl, lg3, ho6.mono l2, B6.out⟩
set_option maxHeartbeats 1000000 in
/-- The document's frame of data that are not too long. -/
theorem frameR_any (b : Option Addr) (m c : Nat) (ys : List Int) (w : World) (hy : Sl w b m c ys) (hm : m ≤ 1048576) :
    Calls Tryz.prog 50 #[.slice b m c] w fun e w' => ∃ v, e = .returned v ∧ Own w' w.heap.size v (fmB ys) ∧ Below w.heap.size w w' := by
  have hN : (ys.length : Int) = (m : Int) := by rw [hy.hlen]
  have HY := hide hy
  have hwm : IntKind.u64.wrap (m : Int) = (m : Int) := by rw [IntKind.wrap_u64]; omega
  have HF : Hid (fmB ys = be (m : Int) 4 ++ be (fmC ys : Int) 4 ++ ys) := hide (by unfold fmB; rw [hN])
  have HC : Hid (fmC ys = crcE (crcE 0 (be (m : Int) 4)) ys) := hide (by unfold fmC; rw [hN])
  rw [HF.out]
  have hc := fmC_lt ys
  obtain ⟨C, HCC⟩ : ∃ C, Hid (fmC ys = C) := ⟨_, hide rfl⟩
  rw [HCC.out] at hc HC
  rw [HCC.out]
  have hwc : IntKind.u64.wrap (C : Int) = (C : Int) := by rw [IntKind.wrap_u64]; omega
  have P1 := hide (number_ref (m : Int) 4 w (by omega) (by omega) (by omega))
  clear hy hN HF HCC
  go_enter Tryz.func50, Tryz.ntmps50
  go_wp2_with fail
  refine P1.out.mono ?_
  rintro e w1 ⟨g1, rfl, hg1, hr1, hb1⟩
  have s1 := hr1.sl0 (be_isB _ _) (by rw [be_length]; omega)
  rw [be_length] at s1
  have S1 := hide s1
  have O1 := hide (Own.of_blkF hr1 hg1 (by rw [be_length]; omega))
  rw [be_length] at O1
  have Y1 := hide (HY.out.below hb1)
  have CA := hide (sumR_any _ _ _ _ w1 S1.out)
  obtain ⟨t1, HT1⟩ : ∃ t1, Hid (crcE 0 (be (m : Int) 4) = t1) := ⟨_, hide rfl⟩
  have ht1 : t1 < 4294967296 := by rw [← HT1.out]; exact crE_lt _ _
  rw [HT1.out] at CA HC
  have CB := hide (extendR_any t1 _ _ _ _ w1 ht1 Y1.out)
  rw [← HC.out] at CB
  have P2 := hide (number_ref (C : Int) 4 w1 (by omega) (by omega) (by omega))
  have B1 := hide hb1
  clear s1 hr1 P1 HC HT1 hb1
  go_wp2_with fail
  refine CA.out.mono ?_
  rintro e w' ⟨rfl, rfl⟩
  go_wp2_with fail
  refine CB.out.mono ?_
  rintro e w' ⟨rfl, rfl⟩
  go_wp2_with fail
  refine P2.out.mono ?_
  rintro e w2 ⟨g2, rfl, hg2, hr2, hb2⟩
  have s2 := hr2.sl0 (be_isB _ _) (by rw [be_length]; omega)
  rw [be_length] at s2
  have S2 := hide s2
  have O2 := hide (O1.out.below hb2)
  have B2 := hide (on_below B1.out hb2)
  have l2 := B2.out.size
  clear P2 s2 hr2 hb2 CA CB S1 Y1 B1 O1
  go_wp2_with (refine step_append rfl rfl rfl O2.out S2.out (by simp [be_length]) l2 ?_)
  intro v3 w3 ho3 hg3 _
  have B3 := hide (B2.out.trans (Below.of_grown hg3 B2.out.size O2.out.lt))
  have Y3 := hide (HY.out.below B3.out)
  have O3 := hide ho3
  have l3 := B3.out.size
  clear ho3 hg3 O2 B2 S2
  go_wp2_with (refine step_append rfl rfl rfl O3.out Y3.out (by simp [be_length]; omega) l3 ?_)
  intro v4 w4 ho4 hg4 _
  have B4 := hide (B3.out.trans (Below.of_grown hg4 B3.out.size O3.out.lt))
  go_wp2
  go_ret
  exact ⟨v4, rfl, ho4, B4.out⟩

end Go.Proofs.YtninkkdbcgadpaaGreatDoor

/-
  Frames one behind the other, and what is read at their places in any beginning of them. No program here but the reading of one.
-/
namespace Go.Proofs.YtninkkdbcgadpaaGreatDoor
open Go.RowKit
set_option linter.unusedVariables false
set_option maxRecDepth 100000

theorem be4_val (v : Int) (h0 : 0 ≤ v) (h1 : v < 4294967296) : beVal (be v 4) = v := by
  have e : be v 4 = [v / 256 ^ 3 % 256, v / 256 ^ 2 % 256, v / 256 ^ 1 % 256, v / 256 ^ 0 % 256] := rfl
  rw [e]
  simp only [beVal, List.foldl]
  omega
/-- The parts of a frame. -/
theorem fmB_head (ys : List Int) : (fmB ys).take 4 = be (ys.length : Int) 4 := by
  unfold fmB
  rw [List.append_assoc, List.take_append_of_le_length (by rw [be_length]; exact Nat.le_refl _), List.take_of_length_le (by rw [be_length]; exact Nat.le_refl _)]
theorem fmB_sum (ys : List Int) : ((fmB ys).drop 4).take 4 = be (fmC ys : Int) 4 := by
  unfold fmB
  rw [List.append_assoc, List.drop_append_of_le_length (by rw [be_length]; exact Nat.le_refl _), List.drop_of_length_le (by rw [be_length]; exact Nat.le_refl _), List.nil_append, List.take_append_of_le_length (by rw [be_length]; exact Nat.le_refl _), List.take_of_length_le (by rw [be_length]; exact Nat.le_refl _)]
theorem fmB_data (ys : List Int) : (fmB ys).drop 8 = ys := by
  unfold fmB
  rw [List.drop_append_of_le_length (by simp [be_length]), List.drop_of_length_le (by simp [be_length]), List.nil_append]
/-- Frames, one behind the other; how many bytes the first ones have. -/
def fmA (ps : List (List Int)) : List Int := (ps.map fmB).flatten
def qL (ps : List (List Int)) (j : Nat) : Nat := (fmA (ps.take j)).length
theorem qL_0 (ps : List (List Int)) : qL ps 0 = 0 := rfl
theorem fmA_succ (ps : List (List Int)) (j : Nat) (h : j < ps.length) : fmA (ps.take (j + 1)) = fmA (ps.take j) ++ fmB (ps.getD j []) := by
  rw [List.take_succ_eq_append_getElem h]
  unfold fmA
  rw [List.map_append, List.flatten_append]
  congr 1
  simp [List.getD, h]
theorem qL_succ (ps : List (List Int)) (j : Nat) (h : j < ps.length) : qL ps (j + 1) = qL ps j + (8 + (ps.getD j []).length) := by
  unfold qL
  rw [fmA_succ ps j h, List.length_append, fmB_length]
theorem fmA_isB (ps : List (List Int)) (h : ∀ p ∈ ps, isB p) : isB (fmA ps) := by
  intro x hx
  obtain ⟨l, hl, hxl⟩ := List.mem_flatten.1 hx
  obtain ⟨p, hp, rfl⟩ := List.mem_map.1 hl
  exact fmB_isB p (h p hp) x hxl
theorem fmA_all (ps : List (List Int)) : (fmA ps).length = qL ps ps.length := by unfold qL; rw [List.take_length]
theorem fmA_len (ps : List (List Int)) : (fmA ps).length = 8 * ps.length + ps.flatten.length := by
  induction ps with
  | nil => rfl
  | cons p ps ih =>
    have e : fmA (p :: ps) = fmB p ++ fmA ps := by simp [fmA]
    rw [e, List.length_append, fmB_length, ih]
    simp
    omega
theorem fmA_split (ps : List (List Int)) (j : Nat) (h : j < ps.length) : fmA ps = fmA (ps.take j) ++ (fmB (ps.getD j []) ++ fmA (ps.drop (j + 1))) := by
  have e : ps = ps.take (j + 1) ++ ps.drop (j + 1) := (List.take_append_drop _ _).symm
  have e2 : fmA ps = fmA (ps.take (j + 1)) ++ fmA (ps.drop (j + 1)) := by
    conv => lhs; rw [e]
    simp only [fmA, List.map_append, List.flatten_append]
  rw [e2, fmA_succ ps j h, List.append_assoc]
theorem fmA_rest (ps : List (List Int)) (c j : Nat) (h : j < ps.length) : ((fmA ps).take c).drop (qL ps j) = (fmB (ps.getD j []) ++ fmA (ps.drop (j + 1))).take (c - qL ps j) := by
  rw [List.drop_take]
  congr 1
  rw [fmA_split ps j h]
  unfold qL
  rw [List.drop_append_of_le_length (Nat.le_refl _), List.drop_length, List.nil_append]
/-- A frame that lies there whole. -/
theorem frR_whole (xs : List Int) (p m : Nat) (y C : List Int) (hx : xs.drop p = (fmB y ++ C).take m) (hl : xs.length = p + m) (hy : y.length ≤ 1048576) (hm : 8 + y.length ≤ m) : frR xs (p : Int) = (y, ((p + (8 + y.length) : Nat) : Int), 0) := by
  have hfl := fmB_length y
  have e0 : (fmB y ++ C).take m = fmB y ++ C.take (m - (8 + y.length)) := by
    rw [List.take_append, hfl, List.take_of_length_le (by rw [hfl]; exact hm)]
  rw [e0] at hx
  have eN : frN xs p = (y.length : Int) := by
    unfold frN
    rw [hx, List.take_append_of_le_length (by rw [hfl]; omega), fmB_head, be4_val _ (by omega) (by omega)]
  have eS : frS xs p = (fmC y : Int) := by
    unfold frS
    rw [← List.drop_drop, hx, List.drop_append_of_le_length (by rw [hfl]; omega), List.take_append_of_le_length (by rw [List.length_drop, hfl]; omega), fmB_sum, be4_val _ (by omega) (by have := fmC_lt y; omega)]
  have eD : frD xs p = y := by
    unfold frD
    rw [eN, Int.toNat_natCast, ← List.drop_drop, hx, List.drop_append_of_le_length (by rw [hfl]; omega), fmB_data, List.take_append_of_le_length (Nat.le_refl _), List.take_length]
  have eC' : frC xs p = (fmC y : Int) := by
    unfold frC
    rw [eD, hx, List.take_append_of_le_length (by rw [hfl]; omega), fmB_head]
    rfl
  unfold frR
  rw [Int.toNat_natCast, eN, eS, eC', eD, if_neg (by omega), if_neg (by omega), if_neg (by omega), if_neg (by omega), if_neg (by simp)]
  simp
  omega
/-- A frame that is torn. -/
theorem frR_torn (xs : List Int) (p m : Nat) (y C : List Int) (hx : xs.drop p = (fmB y ++ C).take m) (hl : xs.length = p + m) (hy : y.length ≤ 1048576) (hm : m < 8 + y.length) : frR xs (p : Int) = ([], 0, 111) := by
  have hfl := fmB_length y
  unfold frR
  rw [if_neg (by omega)]
  by_cases h8 : m < 8
  · rw [if_pos (by omega)]
  rw [if_neg (by omega)]
  have eN : frN xs p = (y.length : Int) := by
    unfold frN
    rw [hx, List.take_take, Nat.min_eq_left (by omega), List.take_append_of_le_length (by rw [hfl]; omega), fmB_head, be4_val _ (by omega) (by omega)]
  rw [Int.toNat_natCast, eN, if_neg (by omega), if_pos (by omega)]
theorem qL_mono (ps : List (List Int)) (j k : Nat) (h : j ≤ k) (hk : k ≤ ps.length) : qL ps j ≤ qL ps k := by
  induction k with
  | zero => obtain rfl : j = 0 := by omega
            exact Nat.le_refl _
  | succ k ih =>
    by_cases e : j = k + 1
    · subst e; exact Nat.le_refl _
    · have := ih (by omega) (by omega)
      have := qL_succ ps k (by omega)
      omega
theorem qL_most (ps : List (List Int)) (c : Nat) : ∀ m, m ≤ ps.length → ∃ K, K ≤ m ∧ qL ps K ≤ c ∧ (K = m ∨ c < qL ps (K + 1)) := by
  intro m
  induction m with
  | zero => intro _; exact ⟨0, Nat.le_refl _, Nat.zero_le _, .inl rfl⟩
  | succ m ih =>
    intro hm
    obtain ⟨K, h1, h2, h3⟩ := ih (by omega)
    by_cases hc : qL ps (m + 1) ≤ c
    · exact ⟨m + 1, Nat.le_refl _, hc, .inl rfl⟩
    · rcases h3 with rfl | h3
      · exact ⟨K, by omega, h2, .inr (by omega)⟩
      · exact ⟨K, by omega, h2, .inr h3⟩
/-- The first frames, with the places behind them. -/
def fxL (ps : List (List Int)) (K : Nat) : List (Int × List Int) := (List.range K).map fun j => ((qL ps (j + 1) : Int), ps.getD j [])
theorem fxL_length (ps : List (List Int)) (K : Nat) : (fxL ps K).length = K := by simp [fxL]
theorem fxL_get (ps : List (List Int)) (K j : Nat) (h : j < K) : (fxL ps K).getD j (0, []) = ((qL ps (j + 1) : Int), ps.getD j []) := by simp [fxL, List.getD, h]
/-- Of any beginning of frames those are told that lie in it whole. -/
theorem frs_cut (ps : List (List Int)) (c : Nat) (hc : c ≤ (fmA ps).length) (hy : ∀ j, j < ps.length → (ps.getD j []).length ≤ 1048576) :
    ∃ K E, K ≤ ps.length ∧ qL ps K ≤ c ∧ (K = ps.length ∨ c < qL ps (K + 1)) ∧ Frs ((fmA ps).take c) (fxL ps K) (qL ps) E ∧ ((qL ps K = c ∧ E = 0) ∨ (qL ps K < c ∧ E = 111)) := by
  obtain ⟨K, h1, h2, h3⟩ := qL_most ps c ps.length (Nat.le_refl _)
  have hl : ((fmA ps).take c).length = c := by rw [List.length_take]; omega
  have hfin : (qL ps K = c ∧ (0 : Int) = 0) ∨ (qL ps K < c ∧ (frR ((fmA ps).take c) (qL ps K : Int)).2.2 = 111) := by
    by_cases e : qL ps K = c
    · exact .inl ⟨e, rfl⟩
    · have hK : K < ps.length := by
        rcases h3 with rfl | h3
        · rw [fmA_all] at hc; omega
        · by_cases hk : K = ps.length
          · subst hk; rw [fmA_all] at hc; omega
          · omega
      have h4 : c < qL ps (K + 1) := by
        rcases h3 with rfl | h3
        · omega
        · exact h3
      rw [qL_succ ps K hK] at h4
      refine .inr ⟨by omega, ?_⟩
      rw [frR_torn _ (qL ps K) (c - qL ps K) (ps.getD K []) _ (fmA_rest ps c K hK) (by rw [hl]; omega) (hy K hK) (by omega)]
  have hstep : ∀ k, k < (fxL ps K).length → qL ps k < ((fmA ps).take c).length ∧ frR ((fmA ps).take c) (qL ps k : Int) = (((fxL ps K).getD k (0, [])).2, (qL ps (k + 1) : Int), 0) ∧ ((fxL ps K).getD k (0, [])).1 = (qL ps (k + 1) : Int) := by
    intro k hk
    rw [fxL_length] at hk
    have hs := qL_succ ps k (by omega)
    have hm := qL_mono ps (k + 1) K (by omega) h1
    rw [fxL_get ps K k hk, hl]
    refine ⟨by omega, ?_, rfl⟩
    rw [frR_whole _ (qL ps k) (c - qL ps k) (ps.getD k []) _ (fmA_rest ps c k (by omega)) (by rw [hl]; omega) (hy k (by omega)) (by omega), ← hs]
  rcases hfin with ⟨e, _⟩ | ⟨e, he⟩
  · exact ⟨K, 0, h1, h2, h3, ⟨qL_0 ps, hstep, .inl ⟨by rw [fxL_length, hl]; exact e, rfl⟩⟩, .inl ⟨e, rfl⟩⟩
  · exact ⟨K, 111, h1, h2, h3, ⟨qL_0 ps, hstep, .inr ⟨by rw [fxL_length, hl]; exact e, by decide, by rw [fxL_length]; exact he⟩⟩, .inr ⟨e, rfl⟩⟩

end Go.Proofs.YtninkkdbcgadpaaGreatDoor

/-
  A journal in memory, beside its disk.
-/
namespace Go.Proofs.YtninkkdbcgadpaaGreatDoor
open Go.RowKit Go.Shelf
set_option linter.unusedVariables false

theorem Cts.mem {W : World} {B : Nat} {vs : List Value} {ds : List (List Int)} (h : Cts W B vs ds) {v : Value} (hv : v ∈ vs) : ∃ d, d ∈ ds ∧ Own W B v d := by
  obtain ⟨i, hi, rfl⟩ := List.mem_iff_getElem.1 hv
  have hd : i < ds.length := by rw [← h.1]; exact hi
  refine ⟨ds[i], List.getElem_mem hd, ?_⟩
  have := h.2 i hd
  simpa [List.getD, hi, hd] using this
theorem Cts.same {W W' : World} {B : Nat} {vs : List Value} {ds : List (List Int)} (h : Cts W B vs ds) (hk : ∀ v ∈ vs, ∀ k, v.ownBlock = some k → W'.heap[k]? = W.heap[k]?) : Cts W' B vs ds :=
  ⟨h.1, fun i hi => (h.2 i hi).same (fun k hb => hk _ (by
    have hv : i < vs.length := by rw [h.1]; exact hi
    simp only [List.getD, List.getElem?_eq_getElem hv, Option.getD_some]
    exact List.getElem_mem hv) k hb)⟩
theorem OwnV.same {T : TypeId} {w w' : World} {B : Nat} {v : Value} {ns : List Value} (h : OwnV T w B v ns) (hk : ∀ k, v.ownBlock = some k → w'.heap[k]? = w.heap[k]?) : OwnV T w' B v ns := ⟨h.1, row_same h.2 hk⟩
theorem OwnV.blk {T : TypeId} {w : World} {B : Nat} {v : Value} {ns : List Value} (h : OwnV T w B v ns) {k : Nat} (hk : v.ownBlock = some k) : ∃ cs, Blk w k T cs := row_lies h.2 hk
/-- What a journal's memory is made of: its leaves' row, and the leaves. -/
structure Jm where
  lv : Value
  vs : List Value
def Jm.own (M : Jm) (j k : Nat) : Prop := k = j ∨ M.lv.ownBlock = some k
def Jm.ro (M : Jm) (k : Nat) : Prop := ∃ v ∈ M.vs, v.ownBlock = some k
/-- A journal in memory. -/
structure JnAt (w : World) (j d g : Nat) (ls : List (List Int)) (M : Jm) : Prop where
  blk : Blk w j 50 (jnC (some ⟨d, 0, none⟩) (g : Int) M.lv)
  row : OwnV 39 w 0 M.lv M.vs
  cts : Cts w 0 M.vs ls
  byt : ∀ l ∈ ls, isB l ∧ l.length ≤ 65535
section
variable {w w' : World} {j d g : Nat} {ls : List (List Int)} {M : Jm}
theorem JnAt.same (h : JnAt w j d g ls M) (hk : ∀ k, M.own j k ∨ M.ro k → w'.heap[k]? = w.heap[k]?) : JnAt w' j d g ls M :=
  ⟨h.blk.same (hk j (.inl (.inl rfl))), h.row.same (fun k e => hk k (.inl (.inr e))), h.cts.same (fun v hv k e => hk k (.inr ⟨v, hv, e⟩)), h.byt⟩
theorem JnAt.kindO (h : JnAt w j d g ls M) {k : Nat} (hk : M.own j k) : ∃ t cs, Blk w k t cs ∧ (t = 50 ∨ t = 39) := by
  rcases hk with rfl | hk
  · exact ⟨_, _, h.blk, .inl rfl⟩
  · obtain ⟨cs, hc⟩ := h.row.blk hk
    exact ⟨_, cs, hc, .inr rfl⟩
theorem JnAt.kindR (h : JnAt w j d g ls M) {k : Nat} (hk : M.ro k) : ∃ cs, Blk w k 5 cs := by
  obtain ⟨v, hv, e⟩ := hk
  obtain ⟨l, _, ho⟩ := h.cts.mem hv
  exact ho.lies e
theorem JnAt.lt (h : JnAt w j d g ls M) {k : Nat} (hk : M.own j k ∨ M.ro k) : k < w.heap.size := by
  rcases hk with hk | hk
  · obtain ⟨t, cs, hc, _⟩ := h.kindO hk; exact hc.lt
  · obtain ⟨cs, hc⟩ := h.kindR hk; exact hc.lt
theorem JnAt.below (h : JnAt w j d g ls M) (hb : Below w.heap.size w w') : JnAt w' j d g ls M := h.same (fun k hk => hb.block k (h.lt hk))
theorem JnAt.c0 (h : JnAt w j d g ls M) : w.cell? ⟨j, 0, none⟩ = some (.pointer (some ⟨d, 0, none⟩)) := by rw [h.blk.cell]; rfl
theorem JnAt.c1 (h : JnAt w j d g ls M) : w.cell? ⟨j, 1, none⟩ = some (.int .i64 (g : Int)) := by rw [h.blk.cell]; rfl
theorem JnAt.c2 (h : JnAt w j d g ls M) : w.cell? ⟨j, 2, none⟩ = some M.lv := by rw [h.blk.cell]; rfl
theorem JnAt.vlen (h : JnAt w j d g ls M) : M.vs.length = ls.length := h.cts.1
theorem JnAt.slice (h : JnAt w j d g ls M) : ∃ a c, M.lv = .slice a ls.length c := by
  obtain ⟨a, c, e⟩ := h.row.slice
  exact ⟨a, c, by rw [e, h.vlen]⟩
end
/-- A disk's own blocks are cells of three kinds, or a map. -/
theorem DkAt.kind {w : World} {d s : Nat} {rs : List Rw} {D : Dm} (h : DkAt w d s rs D) {k : Nat} (hk : D.own d k) {t : TypeId} {cs : List Value} (hc : Blk w k t cs) : t = 59 ∨ t = 113 ∨ t = 5 := by
  have key : ∀ {t' : TypeId} {cs' : List Value}, Blk w k t' cs' → t = t' := fun {t' cs'} h' => by
    apply Classical.byContradiction
    intro hne
    exact hc.apart h' hne rfl
  rcases hk with rfl | rfl | hk | hk
  · exact .inl (key h.blk)
  · exact absurd rfl (h.fil.map.ne hc)
  · obtain ⟨cs', hc'⟩ := row_lies h.row hk
    exact .inr (.inl (key hc'))
  · obtain ⟨cs', hc'⟩ := h.fil.lies hk
    exact .inr (.inr (key hc'))
theorem DkAt.kindR {w : World} {d s : Nat} {rs : List Rw} {D : Dm} (h : DkAt w d s rs D) {k : Nat} (hk : D.ro k) : ∃ cs, Blk w k 5 cs := by
  obtain ⟨x, hx, e⟩ := hk
  exact (h.byt x hx).lies e
/-- A journal over its disk. -/
structure PJ (w : World) (d j s : Nat) (rs : List Rw) (D : Dm) (g : Nat) (ls : List (List Int)) (M : Jm) : Prop where
  dk : DkAt w d s rs D
  jn : JnAt w j d g ls M
  ap : ∀ k, M.ro k → ¬ D.own d k
/-- All their blocks. -/
def JF (d j : Nat) (D : Dm) (M : Jm) (k : Nat) : Prop := D.own d k ∨ D.ro k ∨ M.own j k ∨ M.ro k
section
variable {w w' : World} {d j s : Nat} {rs rs' : List Rw} {D : Dm} {g : Nat} {ls : List (List Int)} {M : Jm}
theorem PJ.lt (h : PJ w d j s rs D g ls M) {k : Nat} (hk : JF d j D M k) : k < w.heap.size := by
  rcases hk with hk | hk | hk | hk
  · exact h.dk.lt (.inl hk)
  · exact h.dk.lt (.inr hk)
  · exact h.jn.lt (.inl hk)
  · exact h.jn.lt (.inr hk)
theorem PJ.below (h : PJ w d j s rs D g ls M) (hb : Below w.heap.size w w') : PJ w' d j s rs D g ls M := ⟨h.dk.below hb, h.jn.below hb, h.ap⟩
theorem PJ.same (h : PJ w d j s rs D g ls M) (hk : ∀ k, JF d j D M k → w'.heap[k]? = w.heap[k]?) : PJ w' d j s rs D g ls M :=
  ⟨h.dk.same (fun k hk' => hk k (hk'.elim .inl (fun h => .inr (.inl h)))), h.jn.same (fun k hk' => hk k (.inr (.inr hk'))), h.ap⟩
theorem PJ.chs {S : Nat → Prop} (h : PJ w d j s rs D g ls M) (hc : Chs S w w') (hn : ∀ k, JF d j D M k → ¬ S k) : PJ w' d j s rs D g ls M := h.same (fun k hk => hc.block k (h.lt hk) (hn k hk))
theorem PJ.jown (h : PJ w d j s rs D g ls M) {k : Nat} (hk : M.own j k) : ¬ D.own d k := fun hd => by
  obtain ⟨t, cs, hc, ht⟩ := h.jn.kindO hk
  have := h.dk.kind hd hc
  rcases ht with rfl | rfl <;> rcases this with e | e | e <;> revert e <;> decide
/-- A call of the disk leaves the journal. -/
theorem PJ.op (h : PJ w d j s rs D g ls M) (ho : OpR w w' d s D rs') : ∃ D', PJ w' d j s rs' D' g ls M ∧ Chs (D.own d) w w' ∧ (∀ k, JF d j D' M k → JF d j D M k ∨ w.heap.size ≤ k) := by
  obtain ⟨D', h1, h2, h3, h4⟩ := ho
  refine ⟨D', ⟨h1, h.jn.same (fun k hk => h2.block k (h.jn.lt hk) (hk.elim h.jown (h.ap k))), fun k hk hd => ?_⟩, h2, fun k hk => ?_⟩
  · rcases h3 k hd with h5 | h5
    · exact h.ap k hk h5
    · have := h.jn.lt (.inr hk); omega
  · rcases hk with hk | hk | hk
    · exact (h3 k hk).imp .inl id
    · exact (h4 k hk).imp (fun h => .inr (.inl h)) id
    · exact .inl (.inr (.inr hk))
end
/-- What a call of the journal leaves. -/
def JR (w w' : World) (d j s : Nat) (D : Dm) (M : Jm) (rs' : List Rw) (g' : Nat) (ls' : List (List Int)) : Prop :=
  ∃ D' M', PJ w' d j s rs' D' g' ls' M' ∧ Chs (JF d j D M) w w' ∧ ∀ k, JF d j D' M' k → JF d j D M k ∨ w.heap.size ≤ k
theorem JR.refl {w : World} {d j s : Nat} {rs : List Rw} {D : Dm} {g : Nat} {ls : List (List Int)} {M : Jm} (h : PJ w d j s rs D g ls M) : JR w w d j s D M rs g ls := ⟨D, M, h, Chs.refl _ _, fun k hk => .inl hk⟩
theorem JR.below {w w' : World} {d j s : Nat} {rs : List Rw} {D : Dm} {g : Nat} {ls : List (List Int)} {M : Jm} (h : PJ w d j s rs D g ls M) (hb : Below w.heap.size w w') : JR w w' d j s D M rs g ls := ⟨D, M, h.below hb, Chs.of_below _ hb, fun k hk => .inl hk⟩

end Go.Proofs.YtninkkdbcgadpaaGreatDoor

/-
  The journal's calls that tell, and Add.
-/
namespace Go.Proofs.YtninkkdbcgadpaaGreatDoor
open Go.RowKit Go.Shelf
set_option linter.unusedVariables false
set_option maxRecDepth 100000

theorem jmade_ok (j d : Nat) (w : World) (h : w.cell? ⟨j, 0, none⟩ = some (.pointer (some ⟨d, 0, none⟩))) : Calls Tryz.prog 47 #[.pointer (some ⟨j, 0, none⟩)] w fun e w' => e = .returned (.bool true) ∧ w' = w := by
  go_enter Tryz.func47, Tryz.ntmps47
  go_wp2
  go_ret
  exact ⟨rfl, rfl⟩
theorem jlen_ok {w : World} {j d g : Nat} {ls : List (List Int)} {M : Jm} (h : JnAt w j d g ls M) : Calls Tryz.prog 18 #[.pointer (some ⟨j, 0, none⟩)] w fun e w' => e = .returned (.int .i64 (ls.length : Int)) ∧ w' = w := by
  have c0 := h.c0
  have c2 := h.c2
  obtain ⟨a, c, e⟩ := h.slice
  rw [e] at c2
  clear h e
  go_enter Tryz.func18, Tryz.ntmps18
  go_wp2_with (go_at_call 47; refine (jmade_ok _ _ _ c0).mono ?_; rintro e w' ⟨rfl, rfl⟩)
  go_ret
  exact ⟨rfl, rfl⟩
theorem jgen_ok {w : World} {j d g : Nat} {ls : List (List Int)} {M : Jm} (h : JnAt w j d g ls M) : Calls Tryz.prog 19 #[.pointer (some ⟨j, 0, none⟩)] w fun e w' => e = .returned (.int .i64 (g : Int)) ∧ w' = w := by
  have c0 := h.c0
  have c1 := h.c1
  clear h
  go_enter Tryz.func19, Tryz.ntmps19
  go_wp2_with (go_at_call 47; refine (jmade_ok _ _ _ c0).mono ?_; rintro e w' ⟨rfl, rfl⟩)
  go_ret
  exact ⟨rfl, rfl⟩
section
variable {L T : TypeId} {z : Value} {by' : Nat} {dst : Option Tmp} {ty : TypeId} {pos : String} {aft : Array Edge} {gd : Option (Nat × Bool)} {a : Act} {w : World} {K : Act → World → Prop} {Q : Exit → Act → World → Prop}
theorem wp_one1 (t : Tin L T z by') {x : Operand} {u : Value} (hu : u.oneCell' = true) (hx : a.eval x = u)
    (h : ∀ w1 g, Blk w1 g T [u] → w.heap.size ≤ g → Below w.heap.size w w1 → K (a.put dst (.slice (some ⟨g, 0, none⟩) 1 1)) w1) :
    Oper.wp Tryz.prog ⟨dst, .buildSlice L 1 #[(0, x)], ty, pos, aft, gd⟩ a w K Q := by
  refine wp_runV (.slice (some ⟨w.heap.size, 0, none⟩) 1 1) (w.alloc (.cells [u].toArray T)) ?_ (h _ _ (Blk.made _ _ _) (Nat.le_refl _) ((Below.refl _ _).alloc (Nat.le_refl _) _))
  unfold execOp
  simp only [List.map_toArray, List.map_cons, List.map_nil, hx]
  simp only [Sem.run_bind, t.build u w hu, Result.andThen_ok, Sem.run_pure]
theorem wp_app1 (t : Tin L T z by') {s x : Operand} {B : Nat} {v u : Value} {ns : List Value} {g c : Nat} (hu : u.oneCell' = true)
    (hs : a.eval s = v) (hx : a.eval x = .slice (some ⟨g, 0, none⟩) 1 c) (hown : OwnV T w B v ns) (hy : Blk w g T [u]) (hlen : ns.length ≤ 1048576) (hB : B ≤ w.heap.size)
    (h : ∀ g' cap w', OwnV T w' B (.slice (some ⟨g', 0, none⟩) (ns.length + 1) cap) (ns ++ [u]) → w.grownBy w' v.ownBlock → (v.ownBlock = some g' ∨ w.heap.size ≤ g') → K (a.put dst (.slice (some ⟨g', 0, none⟩) (ns.length + 1) cap)) w') :
    Oper.wp Tryz.prog ⟨dst, .call { callee := .builtin .append, args := #[s, x], argTypes := #[L, L] }, ty, pos, aft, gd⟩ a w K Q := by
  obtain ⟨i0, hi, hz0, hz1, hz2⟩ := info_some t.info
  have hone : One [u] := fun q hq => by simp at hq; rw [hq]; exact hu
  obtain ⟨g', cap', w', hr, ho, hgr, hat, hlt⟩ := run_append_lies (P := Tryz.prog) w L ty B T i0 z 1 by' t.und hi hz0 hz1 hz2 (by rw [t.one]; rfl) (by decide) v _ _ hown.2 ⟨g, 0, none⟩ 1 c [u] rfl (fun j q hq => by
    rw [Addr.add_lit, Nat.zero_add, hy.cell]
    exact hq) hone (by decide) (by unfold maxLen; omega) (by have := t.few; have : (ns.length + 1) * by' ≤ (ns.length + 1) * 24 := Nat.mul_le_mul_left _ this; omega) hB _ rfl
  refine wp_runV (.slice (some ⟨g', 0, none⟩) (ns.length + 1) cap') w' (by simp [execOp, resolve, invoke, builtin, hs, hx, hr, Result.andThen]) (h _ _ _ ⟨hown.1.app hone, by rw [List.length_append]; exact ho⟩ hgr (hat.imp id (fun h => Nat.le_of_eq h.symm)))
end
theorem Sl.chs {S : Nat → Prop} {w w' : World} {a : Option Addr} {n c : Nat} {xs : List Int} (h : Sl w a n c xs) (hc : Chs S w w') (hn : 0 < n → ∀ x, a = some x → ¬ S x.block) : Sl w' a n c xs := by
  obtain ⟨h1, h2, h3, h4, h5, h6, h7⟩ := h
  refine ⟨h1, h2, h3, h4, h5, h6, fun h0 => ?_⟩
  obtain ⟨b, off, e, hce⟩ := h7 h0
  refine ⟨b, off, e, fun i hi => ?_⟩
  rw [World.cell?_of_block (w := w) (hc.block b (World.block_lt_of_cell? w _ (hce i hi)) (hn h0 ⟨b, off, none⟩ e))]
  exact hce i hi
/-- One leaf more. -/
theorem PJ.push2 {w3 w5 w6 w7 : World} {d j s : Nat} {rs : List Rw} {D : Dm} {g : Nat} {ls : List (List Int)} {M : Jm} {v : Value} {xs : List Int} {g' cap : Nat} (h : PJ w3 d j s rs D g ls M) (hb : Below w3.heap.size w3 w5) {n0 : Nat} (hv : Own w5 n0 v xs) (hnd : ∀ k, v.ownBlock = some k → ¬ D.own d k) (hx : isB xs ∧ xs.length ≤ 65535)
    (hrow : OwnV 39 w6 0 (.slice (some ⟨g', 0, none⟩) (M.vs.length + 1) cap) (M.vs ++ [v])) (hgr : w5.grownBy w6 M.lv.ownBlock) (hat : M.lv.ownBlock = some g' ∨ w5.heap.size ≤ g') (hst : w7 = w6.setCell ⟨j, 2, none⟩ (.slice (some ⟨g', 0, none⟩) (M.vs.length + 1) cap)) :
    ∃ M', PJ w7 d j s rs D g (ls ++ [xs]) M' ∧ Chs (JF d j D M) w3 w7 ∧ (∀ k, M'.own j k ∨ M'.ro k → M.own j k ∨ M.ro k ∨ v.ownBlock = some k ∨ w3.heap.size ≤ k) ∧ M'.lv = .slice (some ⟨g', 0, none⟩) (M.vs.length + 1) cap := by
  have h5 := h.below hb
  have hbut : But j w6 w7 := by rw [hst]; exact But.setCell w6 j 2 _
  have hjl : M.lv.ownBlock ≠ some j := fun e => by
    obtain ⟨cs, hc⟩ := h5.jn.row.blk e
    exact h5.jn.blk.apart hc (by decide) rfl
  have hj6 : Blk w6 j 50 (jnC (some ⟨d, 0, none⟩) (g : Int) M.lv) := h5.jn.blk.same (hgr.block j h5.jn.blk.lt (fun e => hjl e.symm))
  have hgj : g' ≠ j := fun e => by
    subst e
    obtain ⟨cs, hc⟩ := hrow.blk (k := g') rfl
    exact hj6.apart hc (by decide) rfl
  have hs : w3.heap.size ≤ w5.heap.size := hb.size
  have k67 : ∀ k, k ≠ j → w7.heap[k]? = w6.heap[k]? := fun k hk => hbut.block k hk
  have k56 : ∀ k, k < w5.heap.size → M.lv.ownBlock ≠ some k → w6.heap[k]? = w5.heap[k]? := fun k hk hn => hgr.block k hk (fun e => hn e.symm)
  have huk : ∀ {k : Nat} {cs : List Value}, Blk w5 k 5 cs → w7.heap[k]? = w5.heap[k]? := fun {k cs} hc => by
    have hkj : k ≠ j := hc.apart h5.jn.blk (by decide)
    have hkl : M.lv.ownBlock ≠ some k := fun e => by
      obtain ⟨cs', hc'⟩ := h5.jn.row.blk e
      exact hc.apart hc' (by decide) rfl
    exact (k67 k hkj).trans (k56 k hc.lt hkl)
  refine ⟨⟨.slice (some ⟨g', 0, none⟩) (M.vs.length + 1) cap, M.vs ++ [v]⟩, ⟨?_, ⟨?_, ?_, ?_, ?_⟩, ?_⟩, ?_, ?_, rfl⟩
  · refine h5.dk.same (fun k hk => ?_)
    have hkj : k ≠ j := fun e => by
      subst e
      rcases hk with hk | hk
      · exact h5.jown (.inl rfl) hk
      · obtain ⟨cs, hc⟩ := h5.dk.kindR hk
        exact hc.apart h5.jn.blk (by decide) rfl
    have hkl : M.lv.ownBlock ≠ some k := fun e => by
      rcases hk with hk | hk
      · exact h5.jown (.inr e) hk
      · obtain ⟨cs, hc⟩ := h5.dk.kindR hk
        obtain ⟨cs', hc'⟩ := h5.jn.row.blk e
        exact hc.apart hc' (by decide) rfl
    exact (k67 k hkj).trans (k56 k (h5.dk.lt hk) hkl)
  · rw [hst]
    exact hj6.set 2 _
  · exact hrow.same (fun k hk => k67 k (fun e => hgj (by cases hk; exact e)))
  · refine Cts.snoc (h5.jn.cts.same (fun u hu k hk => ?_)) ((hv.mono (Nat.zero_le _)).same (fun k hk => ?_))
    · obtain ⟨cs, hc⟩ := h5.jn.kindR ⟨u, hu, hk⟩
      exact huk hc
    · obtain ⟨cs, hc⟩ := hv.lies hk
      exact huk hc
  · intro l hl
    rcases List.mem_append.1 hl with hl | hl
    · exact h.jn.byt l hl
    · simp at hl; rw [hl]; exact hx
  · rintro k ⟨u, hu, hk⟩ hd
    rcases List.mem_append.1 hu with hu | hu
    · exact h.ap k ⟨u, hu, hk⟩ hd
    · simp at hu
      subst hu
      exact hnd k hk hd
  · refine ⟨?_, ?_, ?_, ?_, fun k hk hn => ?_⟩
    · rw [hbut.os, hgr.os, hb.os]
    · rw [hbut.tape, hgr.tape, hb.tape]
    · rw [hbut.output, hgr.output, hb.output]
    · rw [hbut.size]; exact Nat.le_trans hs hgr.size
    · exact ((k67 k (fun e => hn (.inr (.inr (.inl (.inl e)))))).trans (k56 k (by omega) (fun e => hn (.inr (.inr (.inl (.inr e))))))).trans (hb.block k hk)
  · rintro k ((hk | hk) | ⟨u, hu, hk⟩)
    · exact .inl (.inl hk)
    · cases hk
      rcases hat with h1 | h1
      · exact .inl (.inr h1)
      · exact .inr (.inr (.inr (Nat.le_trans hs h1)))
    · rcases List.mem_append.1 hu with hu | hu
      · exact .inr (.inl ⟨u, hu, hk⟩)
      · simp at hu
        subst hu
        exact .inr (.inr (.inl hk))
theorem PJ.push {w3 w5 w6 w7 : World} {d j s : Nat} {rs : List Rw} {D : Dm} {g : Nat} {ls : List (List Int)} {M : Jm} {v : Value} {xs : List Int} {g' cap : Nat} (h : PJ w3 d j s rs D g ls M) (hb : Below w3.heap.size w3 w5) (hv : Own w5 w3.heap.size v xs) (hx : isB xs ∧ xs.length ≤ 65535)
    (hrow : OwnV 39 w6 0 (.slice (some ⟨g', 0, none⟩) (M.vs.length + 1) cap) (M.vs ++ [v])) (hgr : w5.grownBy w6 M.lv.ownBlock) (hat : M.lv.ownBlock = some g' ∨ w5.heap.size ≤ g') (hst : w7 = w6.setCell ⟨j, 2, none⟩ (.slice (some ⟨g', 0, none⟩) (M.vs.length + 1) cap)) :
    JR w3 w7 d j s D M rs g (ls ++ [xs]) := by
  obtain ⟨M', h1, h2, h3, _⟩ := h.push2 hb hv (fun k hk hd => by have h1 := hv.lt k hk; have h2 := h.dk.lt (.inl hd); omega) hx hrow hgr hat hst
  refine ⟨D, M', h1, h2, fun k hk => ?_⟩
  rcases hk with hk | hk | hk
  · exact .inl (.inl hk)
  · exact .inl (.inr (.inl hk))
  · rcases h3 k hk with h | h | h | h
    · exact .inl (.inr (.inr (.inl h)))
    · exact .inl (.inr (.inr (.inr h)))
    · exact .inr (hv.lt k h)
    · exact .inr h
theorem JR.after {w w1 w2 : World} {d j s : Nat} {D D1 : Dm} {M M1 : Jm} {rs2 : List Rw} {g2 : Nat} {ls2 : List (List Int)} (hc : Chs (JF d j D M) w w1) (hf : ∀ k, JF d j D1 M1 k → JF d j D M k ∨ w.heap.size ≤ k) (h : JR w1 w2 d j s D1 M1 rs2 g2 ls2) : JR w w2 d j s D M rs2 g2 ls2 := by
  obtain ⟨D2, M2, h1, h2, h3⟩ := h
  have hs := hc.size
  refine ⟨D2, M2, h1, hc.after h2 hf, fun k hk => ?_⟩
  rcases h3 k hk with h | h
  · exact hf k h
  · exact .inr (by omega)
theorem Cts.app {W : World} {B : Nat} {vs : List Value} {ds : List (List Int)} {u : Value} {d : List Int} (h : Cts W B vs ds) (hu : Own W B u d) : Cts W B (vs ++ [u]) (ds ++ [d]) := h.snoc hu
set_option maxHeartbeats 400000 in
theorem jadd_big {w : World} {j d g : Nat} {ls : List (List Int)} {M : Jm} (h : JnAt w j d g ls M) (a : Option Addr) (n c : Nat) (hn : 65535 < n) : Calls Tryz.prog 14 #[.pointer (some ⟨j, 0, none⟩), .slice a n c] w fun e w' => e = .returned (.int .i64 3) ∧ w' = w := by
  have c0 := h.c0
  have hn' : (65535 : Int) < (n : Int) := by omega
  clear h
  go_enter Tryz.func14, Tryz.ntmps14
  go_wp2_with (go_at_call 47; refine (jmade_ok _ _ _ c0).mono ?_; rintro e w' ⟨rfl, rfl⟩)
  go_ret
  exact ⟨rfl, rfl⟩
/-- A frame by itself. -/
theorem put0_ok (a : Option Addr) (n c : Nat) (xs : List Int) (w : World) (hx : Sl w a n c xs) (hn : n ≤ 1048576) (hk : KT w) :
    Calls Tryz.prog 51 #[.slice none 0 0, .slice a n c] w fun e w' => ∃ g L, e = .returned (.tuple #[.slice (some ⟨g, 0, none⟩) L L, .int .i64 0]) ∧ L = 8 + n ∧ w.heap.size ≤ g ∧ Own w' w.heap.size (.slice (some ⟨g, 0, none⟩) L L) (fmB xs) ∧ Sl w' (some ⟨g, 0, none⟩) L L (fmB xs) ∧ Below w.heap.size w w' := by
  refine (put_ok none a 0 0 n c [] xs w (Sl.none0 w) hx hn hk).mono ?_
  rintro e w1 ⟨gp, rfl, hgp, hop, hb1⟩
  have e1 : 0 + 8 + n = 8 + n := by omega
  have e2 : 0 + (8 + n) = 8 + n := by omega
  rw [e1, e2] at hop ⊢
  rw [List.nil_append] at hop
  refine ⟨gp, 8 + n, rfl, rfl, hgp, hop, ?_, hb1⟩
  obtain ⟨a', c', e', s'⟩ := hop.sl' (fmB_isB xs hx.hbyte) (by rw [fmB_length, hx.hlen]; omega)
  rw [fmB_length, hx.hlen] at e' s'
  injection e' with e1 e2 e3
  subst e1 e3
  exact s'
set_option maxHeartbeats 2000000 in
theorem jadd_ok (d j s : Nat) (rs : List Rw) (D : Dm) (g : Nat) (ls : List (List Int)) (M : Jm) (w : World) (h : PJ w d j s rs D g ls M) (ht : TT w) (a : Option Addr) (n c : Nat) (xs : List Int) (hx : Sl w a n c xs) (hn : n ≤ 65535) (hg : g ≤ 2147483647) (hf : fE rs (jN g) = 0) (hls : ls.length ≤ 1000000) (hoff : 0 < n → ∀ x, a = some x → ¬ D.own d x.block) (hwt : wt rs + 2 * (8 + n) + 1 ≤ 1099511000000) :
    Calls Tryz.prog 14 #[.pointer (some ⟨j, 0, none⟩), .slice a n c] w fun e w' => e = .returned (.int .i64 0) ∧ JR w w' d j s D M (apS s rs (jN g) (fmB xs)) g (ls ++ [xs]) := by
  have c0 := h.jn.c0
  have hn' : ¬ (65535 : Int) < (n : Int) := by omega
  have HX := hide hx
  have HP := hide (put0_ok a n c xs w hx (by omega) ht.kt)
  have HT := hide ht
  have HH := hide h
  have HF := hide hf
  have HW := hide hwt
  have HLS := hide hls
  have HOFF := hide hoff
  clear h ht hx hf hwt hls hoff
  go_enter Tryz.func14, Tryz.ntmps14
  go_wp2_with (go_at_call 47; refine (jmade_ok _ _ _ c0).mono ?_; rintro e w ⟨rfl, rfl⟩)
  refine HP.out.mono ?_
  rintro e w1 ⟨gp, L, rfl, hL, hgp, hop, hsp, hb1⟩
  have H1 := hide (HH.out.below hb1)
  have T1 := hide (HT.out.on hb1)
  have B1 := hide hb1
  have SP := hide hsp
  have HL := hide hL
  clear hsp hL
  clear hop hb1 HP c0
  go_wp2_with fail
  refine wp_region_noPanic ?_
  have HD := hide (H1.out.below (Below.refl w1.heap.size w1).drew)
  have TD := hide (T1.out.on (Below.refl w1.heap.size w1).drew)
  have SD := hide (SP.out.below (Below.refl w1.heap.size w1).drew)
  refine wp_region_held_drew (S := fun v : World => Blk v j 50 (jnC (some ⟨d, 0, none⟩) (g : Int) M.lv)) (by kernel_rfl) HD.out.jn.blk (fun hHeld => ?_)
  refine takeH 0 22 (.pointer (some ⟨j, 0, none⟩)) hHeld rfl rfl (by kernel_rfl) (by kernel_rfl) (by kernel_rfl) (fun _ _ _ h => h) (Or.inl ⟨by rfl, fun w _ => by go_simp⟩) ?_
  simp only [Act.put, List.setIfInBounds_toArray, List.set_cons_zero, List.set_cons_succ]
  refine takeH 1 23 (.pointer (some ⟨j, 0, none⟩)) hHeld rfl rfl (by kernel_rfl) (by kernel_rfl) (by kernel_rfl) (fun _ _ _ h => h) (Or.inl ⟨by rfl, fun w _ => by go_simp⟩) ?_
  simp only [Act.put, List.setIfInBounds_toArray, List.set_cons_zero, List.set_cons_succ]
  refine takeH 2 24 (.pointer (some ⟨j, 0, none⟩)) hHeld rfl rfl (by kernel_rfl) (by kernel_rfl) (by kernel_rfl) (fun _ _ _ h => h) (Or.inl ⟨by rfl, fun w _ => by go_simp⟩) ?_
  simp only [Act.put, List.setIfInBounds_toArray, List.set_cons_zero, List.set_cons_succ]
  refine takeH 3 25 (.pointer (some ⟨d, 0, none⟩)) hHeld rfl rfl (by kernel_rfl) (by kernel_rfl) (by kernel_rfl) (fun _ _ _ h => h) (Or.inl ⟨by rfl, fun w hw => by have hw' : w.cell? ⟨j, 0, none⟩ = some (.pointer (some ⟨d, 0, none⟩)) := (fun hw => by rw [Blk.cell hw]; rfl) hw; go_simp⟩) ?_
  simp only [Act.put, List.setIfInBounds_toArray, List.set_cons_zero, List.set_cons_succ]
  refine takeH 4 26 (.pointer (some ⟨j, 0, none⟩)) hHeld rfl rfl (by kernel_rfl) (by kernel_rfl) (by kernel_rfl) (fun _ _ _ h => h) (Or.inl ⟨by rfl, fun w _ => by go_simp⟩) ?_
  simp only [Act.put, List.setIfInBounds_toArray, List.set_cons_zero, List.set_cons_succ]
  refine takeH 5 27 (.pointer (some ⟨j, 0, none⟩)) hHeld rfl rfl (by kernel_rfl) (by kernel_rfl) (by kernel_rfl) (fun _ _ _ h => h) (Or.inl ⟨by rfl, fun w _ => by go_simp⟩) ?_
  simp only [Act.put, List.setIfInBounds_toArray, List.set_cons_zero, List.set_cons_succ]
  refine takeH 6 28 (.pointer (some ⟨j, 1, none⟩)) hHeld rfl rfl (by kernel_rfl) (by kernel_rfl) (by kernel_rfl) (fun _ _ _ h => h) (Or.inl ⟨by rfl, fun w _ => by go_simp⟩) ?_
  simp only [Act.put, List.setIfInBounds_toArray, List.set_cons_zero, List.set_cons_succ]
  refine takeH 7 29 (.int .i64 (g : Int)) hHeld rfl rfl (by kernel_rfl) (by kernel_rfl) (by kernel_rfl) (fun _ _ _ h => h) (Or.inl ⟨by rfl, fun w hw => by have hw' : w.cell? ⟨j, 1, none⟩ = some (.int .i64 (g : Int)) := (fun hw => by rw [Blk.cell hw]; rfl) hw; go_simp⟩) ?_
  simp only [Act.put, List.setIfInBounds_toArray, List.set_cons_zero, List.set_cons_succ]
  refine takeH 9 31 (.slice (some ⟨gp, 0, none⟩) L L) hHeld rfl rfl (by kernel_rfl) (by kernel_rfl) (by kernel_rfl) (fun _ _ _ h => h) (Or.inl ⟨by rfl, fun w _ => by go_simp⟩) ?_
  simp only [Act.put, List.setIfInBounds_toArray, List.set_cons_zero, List.set_cons_succ]
  refine wpAnyH_ready (rs := [8]) (by kernel_rfl) (by simp) (AllReadyH.cons rfl (fun K hK => ?_) AllReadyH.nil)
  rw [if_pos (by rfl)]
  go_simp
  refine (name_any g _ hg TD.out.pt).mono ?_
  rintro e w2 ⟨rfl, hb2⟩
  have H2 := hide (HD.out.below hb2)
  have S2 := hide (SD.out.below hb2)
  have B2 := hide (on_below (Below.refl w1.heap.size w1).drew hb2)
  clear hb2 HD SD TD
  refine hK.out _ _ H2.out.jn.blk (fun hHeld => ?_)
  clear hK K
  try simp only [Act.put, List.setIfInBounds_toArray, List.set_cons_zero, List.set_cons_succ]
  refine wpAnyH_ready (rs := [10]) (by kernel_rfl) (by simp) (AllReadyH.cons rfl (fun K hK => ?_) AllReadyH.nil)
  rw [if_pos (by rfl)]
  go_simp
  refine (append_any d s rs D _ H2.out.dk (jN g) _ _ _ (fmB xs) S2.out (by have := HW.out; rw [fmB_length, HX.out.hlen]; omega)).mono ?_
  rw [HF.out]
  rintro e w3 ⟨rfl, hop⟩
  obtain ⟨D2, hP3, hch, hft⟩ := H2.out.op hop
  have P3 := hide hP3
  have B02 := hide (on_below B1.out B2.out)
  have CH3 : Hid (Chs (JF d j D M) w w3) := hide ((Chs.of_below _ B02.out).after (hch.mono (T := JF d j D M) (fun k _ hk => .inl hk)) (fun k hk => .inl hk))
  have FT3 : Hid (∀ k, JF d j D2 M k → JF d j D M k ∨ w.heap.size ≤ k) := hide (fun k hk => (hft k hk).imp id (fun h => Nat.le_trans B02.out.size h))
  have X3 : Hid (Sl w3 a n c xs) := hide ((HX.out.below B02.out).chs hch HOFF.out)
  clear hop hP3 hch hft H2 S2
  refine hK.out _ _ P3.out.jn.blk (fun hHeld => ?_)
  clear hK K
  try simp only [Act.put, List.setIfInBounds_toArray, List.set_cons_zero, List.set_cons_succ]
  refine takeH 11 7 (.int .i64 0) hHeld rfl rfl (by kernel_rfl) (by kernel_rfl) (by kernel_rfl) (fun _ _ _ h => h) (Or.inl ⟨by rfl, fun w _ => by go_simp⟩) ?_
  simp only [Act.put, List.setIfInBounds_toArray, List.set_cons_zero, List.set_cons_succ]
  refine wpAnyH_done (by kernel_rfl) ?_ _
  refine NoPanic.normal ?_
  clear hHeld
  go_wp2_with fail
  refine wp_region_noPanic ?_
  refine wp_region_U (q := 11) (S := fun v : World => Blk v j 50 (jnC (some ⟨d, 0, none⟩) (g : Int) M.lv)) (by kernel_rfl) ?_
  have P4 := hide (P3.out.below (Below.refl w3.heap.size w3).drew)
  have hHeld := P4.out.jn.blk
  refine takeU 11 0 36 (.pointer (some ⟨j, 0, none⟩)) hHeld rfl rfl (by kernel_rfl) (by kernel_rfl) (by kernel_rfl) (by kernel_rfl) (by kernel_rfl) (by kernel_rfl) (fun _ _ _ h => h) (Or.inl ⟨by rfl, fun w _ => by go_simp⟩) ?_
  simp only [Act.put, List.setIfInBounds_toArray, List.set_cons_zero, List.set_cons_succ]
  refine takeU 11 1 37 (.pointer (some ⟨j, 0, none⟩)) hHeld rfl rfl (by kernel_rfl) (by kernel_rfl) (by kernel_rfl) (by kernel_rfl) (by kernel_rfl) (by kernel_rfl) (fun _ _ _ h => h) (Or.inl ⟨by rfl, fun w _ => by go_simp⟩) ?_
  simp only [Act.put, List.setIfInBounds_toArray, List.set_cons_zero, List.set_cons_succ]
  refine takeU 11 2 38 (.pointer (some ⟨j, 0, none⟩)) hHeld rfl rfl (by kernel_rfl) (by kernel_rfl) (by kernel_rfl) (by kernel_rfl) (by kernel_rfl) (by kernel_rfl) (fun _ _ _ h => h) (Or.inl ⟨by rfl, fun w _ => by go_simp⟩) ?_
  simp only [Act.put, List.setIfInBounds_toArray, List.set_cons_zero, List.set_cons_succ]
  refine takeU 11 3 39 (.pointer (some ⟨j, 2, none⟩)) hHeld rfl rfl (by kernel_rfl) (by kernel_rfl) (by kernel_rfl) (by kernel_rfl) (by kernel_rfl) (by kernel_rfl) (fun _ _ _ h => h) (Or.inl ⟨by rfl, fun w _ => by go_simp⟩) ?_
  simp only [Act.put, List.setIfInBounds_toArray, List.set_cons_zero, List.set_cons_succ]
  refine takeU 11 4 40 (M.lv) hHeld rfl rfl (by kernel_rfl) (by kernel_rfl) (by kernel_rfl) (by kernel_rfl) (by kernel_rfl) (by kernel_rfl) (fun _ _ _ h => h) (Or.inl ⟨by rfl, fun w hw => by have hw' : w.cell? ⟨j, 2, none⟩ = some (M.lv) := (fun hw => by rw [Blk.cell hw]; rfl) hw; go_simp⟩) ?_
  simp only [Act.put, List.setIfInBounds_toArray, List.set_cons_zero, List.set_cons_succ]
  refine takeU 11 5 41 (.slice a n c) hHeld rfl rfl (by kernel_rfl) (by kernel_rfl) (by kernel_rfl) (by kernel_rfl) (by kernel_rfl) (by kernel_rfl) (fun _ _ _ h => h) (Or.inl ⟨by rfl, fun w _ => by go_simp⟩) ?_
  simp only [Act.put, List.setIfInBounds_toArray, List.set_cons_zero, List.set_cons_succ]
  refine wpAnyU_ready (rs := [6]) (by kernel_rfl) (by simp) (AllReadyU.cons rfl (fun K hK => ?_) AllReadyU.nil)
  rw [if_pos (by rfl)]
  go_simp
  refine (clone_any _ _ _ xs _ (X3.out.below (Below.refl w3.heap.size w3).drew)).mono ?_
  rintro e w4 ⟨v, rfl, hov, hb4⟩
  have V4 := hide hov
  have B4 := hide hb4
  have one := hide hov.one
  clear hov hb4 hHeld
  refine hK.out _ _ (fun _ => (P4.out.jn.blk.on B4.out)) ?_
  have hHeld := (P4.out.jn.blk.on B4.out)
  clear hK K
  try simp only [Act.put, List.setIfInBounds_toArray, List.set_cons_zero, List.set_cons_succ]
  refine wpAnyU_ready (rs := [7]) (by kernel_rfl) (by simp) (AllReadyU.cons rfl (fun K hK => ?_) AllReadyU.nil)
  rw [if_pos (by rfl)]
  refine wp_one1 tinB one.out rfl ?_
  intro w5 g5 hg5 hle5 hb5
  have B5 := hide (on_below B4.out hb5)
  have V5 := hide (V4.out.below hb5)
  have G5 := hide hg5
  clear hb5 hg5 hle5 hHeld
  refine hK.out _ _ (fun _ => (P4.out.jn.blk.on B5.out)) ?_
  have hHeld := (P4.out.jn.blk.on B5.out)
  clear hK K
  try simp only [Act.put, List.setIfInBounds_toArray, List.set_cons_zero, List.set_cons_succ]
  refine wpAnyU_ready (rs := [8]) (by kernel_rfl) (by simp) (AllReadyU.cons rfl (fun K hK => ?_) AllReadyU.nil)
  rw [if_pos (by rfl)]
  refine wp_app1 tinB one.out rfl rfl (P4.out.below B5.out).jn.row G5.out (by rw [P4.out.jn.vlen]; have := HLS.out; omega) (Nat.zero_le _) ?_
  intro g' cap w6 hrow hgr hat
  have hb6 : Blk w6 j 50 (jnC (some ⟨d, 0, none⟩) (g : Int) M.lv) := (P4.out.jn.blk.on B5.out).same (hgr.block j (P4.out.jn.blk.on B5.out).lt (fun e => by
    obtain ⟨cs, hc⟩ := (P4.out.below B5.out).jn.row.blk e.symm
    exact (P4.out.jn.blk.on B5.out).apart hc (by decide) rfl))
  have HFIN := hide (P4.out.push B5.out (V5.out) ⟨HX.out.hbyte, by rw [HX.out.hlen]; exact hn⟩ hrow hgr hat rfl)
  have c6 : w6.cell? ⟨j, 2, none⟩ = some M.lv := by rw [hb6.cell]; rfl
  have f6 := hb6.free 2
  clear hrow hgr hat hHeld
  refine hK.out _ _ (fun _ => hb6) ?_
  have hHeld := hb6
  clear hK K
  try simp only [Act.put, List.setIfInBounds_toArray, List.set_cons_zero, List.set_cons_succ]
  clear hb6
  refine wpAnyU_ready (rs := [9]) (by kernel_rfl) (by simp) (AllReadyU.cons rfl (fun K hK => ?_) AllReadyU.nil)
  rw [if_pos (by rfl)]
  go_simp
  refine hK.out _ _ (fun _ => hHeld) ?_
  have hHeld := hHeld
  clear hK K
  try simp only [Act.put, List.setIfInBounds_toArray, List.set_cons_zero, List.set_cons_succ]
  refine wpAnyU_ready (rs := [10]) (by kernel_rfl) (by simp) (AllReadyU.cons rfl (fun K hK => ?_) AllReadyU.nil)
  rw [if_pos (by rfl)]
  go_simp
  refine hK.out _ _ (fun _ => hHeld) ?_
  have hHeld := hHeld
  clear hK K
  try simp only [Act.put, List.setIfInBounds_toArray, List.set_cons_zero, List.set_cons_succ]
  refine wpAnyU_ready (rs := [11]) (by kernel_rfl) (by simp) (AllReadyU.cons rfl (fun K hK => ?_) AllReadyU.nil)
  rw [if_pos (by rfl)]
  go_simp
  refine hK.out _ _ (fun h => absurd h (by decide)) ?_
  clear hK K
  refine wpAnyU_done (by kernel_rfl) ?_ _
  refine NoPanic.normal ?_
  clear hHeld c6 f6
  revert HFIN
  generalize w6.setCell ⟨j, 2, none⟩ (.slice (some ⟨g', 0, none⟩) (M.vs.length + 1) cap) = w7
  intro HFIN
  go_wp2
  go_ret
  exact ⟨rfl, JR.after (CH3.out.thenBelow (Below.refl w3.heap.size w3).drew) FT3.out HFIN.out⟩

end Go.Proofs.YtninkkdbcgadpaaGreatDoor

/-
  A range over a function that hands out what lies in memory: the body is told besides where the last round left the world.
-/
namespace Go.Proofs.YtninkkdbcgadpaaGreatDoor
open Go.RowKit Go.Shelf
set_option linter.unusedVariables false

section
variable {F : Fence} {n : Nat} {P : Program}
/-- What a function that is ranged over does: R: what it sees to when it hands out x behind pre, with the world as the last round left it; Kp: what it asks of a round that goes on. -/
def SeqQ {α : Type} (F : Fence) (n : Nat) (P : Program) (g : Nat) (lb : Array Value) (encs : α → Array Value) (R : List α → α → World → World → Prop) (Kp : α → World → World → Prop) (S Sp : List α → Prop) (w : World) : Prop :=
  ∀ (l : Nat) (J Jx : List α → World → Prop) (W : World), Below w.heap.size w W → AbidesFrom W.heap.size J → AbidesFrom W.heap.size Jx →
    (∀ pre x W0 W1, J pre W0 → Below W0.heap.size W0 W1 → J pre W1 → R pre x W0 W1 → YieldAt F (n - 1) P l (encs x) W1 fun e W' => (e = .returned (.bool true) ∧ J (pre ++ [x]) W' ∧ Kp x W1 W') ∨ (e = .returned (.bool false) ∧ Jx (pre ++ [x]) W')) →
    J [] W → CallsIn F n P g (#[.func (.yield l) #[] #[]] ++ lb) W fun e W' => (∃ v, e = .returned v) ∧ ((∃ xs, S xs ∧ J xs W') ∨ (∃ pre, Sp pre ∧ Jx pre W'))

theorem rangeQ {α : Type} {g : Operand} {ps : Array Tmp} {assign body : Code} {Q : Exit → Act → World → Prop} {a : Act} {w : World}
    (hro : F.round = none) (h1 : 1 ≤ n) {gf : Nat} {lb : Array Value} (hg : a.eval g = .func (.func gf) #[] lb) (hFg : F.fn gf) (eg : ∀ args w, (callFunc gf args).run P w = .ok (.enter gf args) w)
    {encs : α → Array Value} {R : List α → α → World → World → Prop} {Kp : α → World → World → Prop} {S Sp : List α → Prop} (hseq : SeqQ F (n - 1) P gf lb encs R Kp S Sp w)
    (hKt : ∀ {x : α} {A B C : World}, Kp x A B → Kp x B C → Kp x A C) (hKb : ∀ (x : α) (W : World) (l : Nat) (o o' : Obj), w.heap.size ≤ l → W.heap[l]? = some o → o.isCells = false → Kp x W (W.putObj l o')) (hps : ∀ x, (encs x).size = ps.size)
    (hR : ∀ pre x W0, OwnFrom w.heap.size (fun (_ : Unit) W => R pre x W0 W))
    (I : List α → World → Prop) (Ix : Code → List α → World → Prop) (hI : OwnFrom w.heap.size I) (hIx : ∀ c, OwnFrom w.heap.size (Ix c)) (h0 : I [] w) (a₁ : α → Act)
    (hassign : ∀ (l : Nat) (x : α) (W : World) (K : Act → World → Prop), K (a₁ x) W →
      assign.wpIn (F.inRound l) (n - 1 - 1) P (Exit.then K (fun _ _ _ => False)) { tmps := (ps.zip (encs x)).foldl (fun t (p, v) => t.setIfInBounds p v) a.tmps, defers := [] } W)
    (hbody : ∀ (l : Nat) (pre : List α) (x : α) (W0 W : World), I pre W0 → (∀ (k : Nat) (o : Obj), W0.heap[k]? = some o → o.isCells = true → W.heap[k]? = some o) → W0.heap.size ≤ W.heap.size → I pre W → R pre x W0 W → body.wpIn (F.inRound l) (n - 1 - 1) P (ownPostG w.heap.size (Kp x) I Ix (pre ++ [x]) W) (a₁ x) W)
    (hdone : ∀ (D : Nat) (xs : List α) (W : World), w.heap.size ≤ D → S xs → I xs W → W.heap[D]? = some (.deferred (some [])) → Q .normal { a with defers := { target := .collected D, args := #[] } :: a.defers } W)
    (hstop : ∀ (D : Nat) (c : Code) (pre : List α) (W : World), w.heap.size ≤ D → Sp pre → Ix c pre W → W.heap[D]? = some (.deferred (some [])) → c.wpIn F n P Q { a with defers := { target := .collected D, args := #[] } :: a.defers } W) :
    (Code.rangeFunc g ps assign body).wpIn F n P Q a w := by
  refine wpIn_rangeFunc fun fn hfn => ?_
  rw [hro]
  obtain ⟨W1, hW1⟩ : ∃ W1, (w.alloc (.deferred (some []))).alloc (.loop (lrec fn a.tmps ps assign body w.heap.size .ready none)) = W1 := ⟨_, rfl⟩
  have B1 : Bk (lrec fn a.tmps ps assign body w.heap.size .ready none) w.heap.size W1 := by rw [← hW1]; exact Bk.new w _
  have b1 : Below w.heap.size w W1 := by rw [← hW1]; exact ((Below.refl _ w).alloc (Nat.le_refl _) _).alloc (by simp) _
  have s1 : w.heap.size ≤ W1.heap.size := b1.size
  have far : ∀ {A : World} {row : Option Nat}, (∀ r, row = some r → W1.heap.size ≤ r ∧ ∃ o : Obj, A.heap[r]? = some o ∧ o.isWalk = true) → ∀ r, row = some r → w.heap.size ≤ r ∧ ∃ o : Obj, A.heap[r]? = some o ∧ o.isCells = false :=
    fun hr r e => by obtain ⟨hb, o, ho, hw⟩ := hr r e; exact ⟨by omega, o, ho, Obj.not_cells_of_walk hw⟩
  refine ⟨w.heap.size + 1, [{ target := .collected w.heap.size, args := #[] }], W1, { target := .fn (.func gf) lb, args := #[.func (.yield (w.heap.size + 1)) #[] #[]] }, W1, gf,
    #[.func (.yield (w.heap.size + 1)) #[] #[]] ++ lb, W1, by rw [← hW1]; exact run_enterLoop_outer _ _ _ _ _, by simp only [resolve, hg]; simp [go_sem], fun f' hf' => by simp [Target.leads] at hf'; subst hf'; exact hFg, by simp [invoke, go_sem, eg], fun _ => h1, ?_⟩
  refine (hseq (w.heap.size + 1) (fun pre W => I pre W ∧ Bk (lrec fn a.tmps ps assign body w.heap.size .ready none) w.heap.size W) (fun pre W => ∃ c, Ix c pre W ∧ Bk (lrec fn a.tmps ps assign body w.heap.size .done (some c)) w.heap.size W) W1 b1
    (fun s A B row hs hg' hr => ⟨hI s A B row hs.1 hg' (far hr), hs.2.abide hg' hr⟩)
    (fun s A B row hs hg' hr => by obtain ⟨c, hc, hb⟩ := hs; exact ⟨c, hIx c s A B row hc hg' (far hr), hb.abide hg' hr⟩) ?_
    ⟨by rw [← hW1]; exact hI.alloc _ (hI.alloc _ h0), B1⟩).mono ?_
  · rintro pre x W0 W ⟨hi0, hB0⟩ hb0 ⟨hi, hB⟩ hr
    refine round_R hfn (hps x) hB (hassign _ x W) ?_
    have hB2 := hB.put (lrec fn a.tmps ps assign body w.heap.size .busy none)
    have hK2 : Kp x W (W.putObj (w.heap.size + 1) (.loop (lrec fn a.tmps ps assign body w.heap.size .busy none))) := hKb x _ _ _ _ (by omega) hB.loop rfl
    refine wpIn_mono (hbody _ pre x W0 _ hi0 (fun k o ho hc => ?_) (Nat.le_trans hb0.size (grownBy_putObj' W _ _).size) (hI.putObj _ hi (by omega) hB.loop rfl) ((hR pre x W0).putObj (s := ()) _ hr (by omega) hB.loop rfl)) ?_
    · have hk : W.heap[k]? = some o := (hb0.block k (Array.getElem?_eq_some_iff.1 ho).1).trans ho
      rw [World.putObj_heap_other (fun e => by
        subst e
        rw [hB.loop] at hk
        injection hk with hk
        subst hk
        cases hc)]
      exact hk
    intro e a3 W3 hp
    cases e with
    | normal =>
      have hB3 := hB2.keep hp.1
      exact ⟨hB3, .inl ⟨rfl, ⟨hI.putObj _ hp.2.2 (by omega) hB3.loop rfl, hB3.put _⟩, hKt hK2 (hKt hp.2.1 (hKb x _ _ _ _ (by omega) hB3.loop rfl))⟩⟩
    | ret =>
      have hB3 := hB2.keep hp.1
      exact ⟨hB3, .inr ⟨rfl, .ret, (hIx _).putObj _ hp.2 (by omega) hB3.loop rfl, hB3.put _⟩⟩
    | exit id =>
      have hB3 := hB2.keep hp.1
      exact ⟨hB3, .inr ⟨rfl, .exit id, (hIx _).putObj _ hp.2 (by omega) hB3.loop rfl, hB3.put _⟩⟩
    | goto u =>
      have hB3 := hB2.keep hp.1
      exact ⟨hB3, .inr ⟨rfl, .goto u, (hIx _).putObj _ hp.2 (by omega) hB3.loop rfl, hB3.put _⟩⟩
    | panic ch => exact hp.elim
    | outgrown => exact hp.elim
  · rintro e W2 ⟨⟨v, rfl⟩, (⟨xs, hS, hi, hB⟩ | ⟨pre, hSp, c, hi, hB⟩)⟩
    · exact ⟨none, _, run_endLoop (P := P) hB.loop (by simp [lrec]), hdone _ xs _ (Nat.le_refl _) hS (hI.putObj _ hi (by omega) hB.loop rfl) ((World.putObj_heap_other (by omega)).trans hB.mark)⟩
    · exact ⟨some c, _, run_endLoop (P := P) hB.loop (by simp [lrec]), hstop _ c pre _ (Nat.le_refl _) hSp ((hIx c).putObj _ hi (by omega) hB.loop rfl) ((World.putObj_heap_other (by omega)).trans hB.mark)⟩
end

end Go.Proofs.YtninkkdbcgadpaaGreatDoor

/-
  The journal's way through its leaves.
-/
namespace Go.Proofs.YtninkkdbcgadpaaGreatDoor
open Go.RowKit Go.Shelf
set_option linter.unusedVariables false
set_option linter.unusedSimpArgs false
set_option maxRecDepth 100000

/-- What is handed out: a number, the slice that holds a leaf, the leaf. -/
abbrev Lx := Int × Value × List Int
def encL (x : Lx) : Array Value := #[.int .i64 x.1, x.2.1]
/-- The next leaf, in memory that was not there when the last round was done. -/
def RJ (ls : List (List Int)) (pre : List Lx) (x : Lx) (W0 W : World) : Prop :=
  pre.length < ls.length ∧ pre.map (·.2.2) = ls.take pre.length ∧ x.1 = (pre.length : Int) ∧ x.2.2 = ls.getD pre.length [] ∧ Own W W0.heap.size x.2.1 x.2.2
/-- A round that goes on leaves the journal's blocks. -/
structure KJ (F : Nat → Prop) (A C : World) : Prop where
  size : A.heap.size ≤ C.heap.size
  keep : ∀ k, F k → C.heap[k]? = A.heap[k]?
theorem KJ.refl (F : Nat → Prop) (A : World) : KJ F A A := ⟨Nat.le_refl _, fun _ _ => rfl⟩
theorem KJ.trans {F : Nat → Prop} {A C D : World} (h : KJ F A C) (k : KJ F C D) : KJ F A D := ⟨Nat.le_trans h.size k.size, fun i hi => (k.keep i hi).trans (h.keep i hi)⟩
theorem KJ.book {F : Nat → Prop} {B : Nat} (hF : ∀ k, F k → k < B) (W : World) (l : Nat) (o' : Obj) (hl : B ≤ l) : KJ F W (W.putObj l o') :=
  ⟨(grownBy_putObj' W l o').size, fun k hk => World.putObj_heap_other (by have := hF k hk; omega)⟩
theorem KJ.under {F : Nat → Prop} {B : Nat} (hF : ∀ k, F k → k < B) {A C : World} (h : Below B A C) : KJ F A C := ⟨h.size, fun k hk => h.block k (hF k hk)⟩
theorem KJ.between {F : Nat → Prop} {w A C : World} (hF : ∀ k, F k → k < w.heap.size) (h1 : Below w.heap.size w A) (h2 : Below w.heap.size w C) (hs : A.heap.size ≤ C.heap.size) : KJ F A C := ⟨hs, fun k hk => (h2.block k (hF k hk)).trans (h1.block k (hF k hk)).symm⟩
theorem rj_own (ls : List (List Int)) (B0 : Nat) (pre : List Lx) (x : Lx) (W0 : World) : OwnFrom B0 (fun (_ : Unit) W => RJ ls pre x W0 W) := fun _ W W' row h hg hr =>
  ⟨h.1, h.2.1, h.2.2.1, h.2.2.2.1, h.2.2.2.2.same (fun k hk => by
    obtain ⟨cs, hc⟩ := h.2.2.2.2.lies hk
    exact hg.block k hc.lt (fun e => by
      obtain ⟨o, ho, hc'⟩ := (hr k e.symm).2
      rw [hc] at ho
      injection ho with ho
      subst ho
      cases hc'))⟩
theorem take_snocN (L : List (List Int)) (k : Nat) (h : k < L.length) : L.take (k + 1) = L.take k ++ [L.getD k []] := by
  rw [List.take_succ_eq_append_getElem h]
  simp [List.getD, h]
set_option maxHeartbeats 1000000 in
theorem jall_seq (Bs j d g : Nat) (ls : List (List Int)) (M : Jm) (w : World) (h : JnAt w j d g ls M) (hBs : Blk w Bs 30 [.pointer (some ⟨j, 0, none⟩)]) (hls : ls.length ≤ 1099511627776) :
    SeqQ Fence.wide 2 Tryz.prog 53 #[.pointer (some ⟨Bs, 0, none⟩)] encL (RJ ls) (fun _ => KJ (fun k => M.own j k ∨ M.ro k)) (fun ys => ys.map (·.2.2) = ls) (fun ys => ∃ n, n ≤ ls.length ∧ ys.map (·.2.2) = ls.take n) w := by
  intro l0 J Jx W hW hJ hJx hY h0
  have hc1 : W.cell? ⟨Bs, 0, none⟩ = some (.pointer (some ⟨j, 0, none⟩)) := by rw [(hBs.on hW).cell]; rfl
  have H0 := hide (h.below hW)
  have c0 := H0.out.c0
  have c2 := H0.out.c2
  obtain ⟨la, lc, hlv⟩ := h.slice
  rw [hlv] at c2
  have HLV := hide hlv
  have HJ0 := hide h0
  clear h hBs hW h0 hlv
  generalize hL : ls.length = L at *
  have HL := hide hL
  clear hL
  refine callsIn_of_wp Tryz.func53 rfl trivial ?_ rfl
  simp only [Tryz.ntmps53, List.size_toArray, List.length_cons, List.length_nil, Nat.reduceAdd, Nat.reduceSub, Array.replicate_succ, Array.replicate_zero, List.push_toArray, List.append_toArray, List.nil_append, List.cons_append]
  gi_wp2_with fail
  refine ⟨trivial, (callsIn_wide.2 (jmade_ok _ _ _ c0)).mono ?_⟩
  rintro e W ⟨rfl, rfl⟩
  gi_wp2_with fail
  try simp only [Act.put]
  gi_loopw [13] (fun p wr => ∃ (k : Nat) (pre : List Lx), k ≤ L ∧ p = .int .i64 (k : Int) ∧ pre.map (·.2.2) = ls.take k ∧ Hid (J pre wr) ∧ Hid (JnAt wr j d g ls M)) (fun p _ => L - (intOf p).toNat)
  case atStart => exact ⟨0, [], Nat.zero_le _, rfl, rfl, HJ0, H0⟩
  case round =>
    clear c0 c2 hc1
    obtain ⟨k, pre, hk, rfl, hpm, HJ, HN⟩ := hrel
    have HPM := hide hpm
    have hpl : pre.length = k := by
      have := congrArg List.length hpm
      rw [List.length_map, List.length_take] at this
      have := HL.out
      omega
    have HPL := hide hpl
    clear hpm hpl
    by_cases hlt : k < L
    · have hlti : (k : Int) < (L : Int) := by omega
      have hrow := HN.out.row
      rw [HLV.out] at hrow
      have hvk : k < M.vs.length := by rw [HN.out.vlen, HL.out]; exact hlt
      obtain ⟨gr, e1, _, hcell⟩ := hrow.cell k hvk
      subst e1
      have hix := tinB.at gr L lc k (k : Int) rfl hlt
      obtain ⟨u, HU⟩ : ∃ u, Hid (M.vs.getD k undef = u) := ⟨_, hide rfl⟩
      have hcell2 : wr.cell? ⟨gr, k, none⟩ = some u := by rw [hcell, List.getElem?_eq_getElem hvk, ← HU.out]; simp [List.getD, hvk]
      obtain ⟨y, HY⟩ : ∃ y, Hid (ls.getD k [] = y) := ⟨_, hide rfl⟩
      have hown : Own wr 0 u y := by
        have := HN.out.cts.2 k (by rw [HL.out]; exact hlt)
        rw [HU.out, HY.out] at this
        exact this
      have hby : isB y ∧ y.length ≤ 65535 := HN.out.byt y (by
        rw [← HY.out]
        have : k < ls.length := by rw [HL.out]; exact hlt
        simp only [List.getD, List.getElem?_eq_getElem this, Option.getD_some]
        exact List.getElem_mem this)
      obtain ⟨ua, uc, rfl, hus⟩ := hown.sl' hby.1 (by omega)
      have CL := hide (clone_any _ _ _ y wr hus)
      clear hrow hcell hown hby hus
      gi_wp2_with fail
      refine ⟨trivial, (callsIn_wide.2 CL.out).mono ?_⟩
      rintro _ w6 ⟨v2, rfl, ho6, hb6⟩
      have HJ6 := hide (hJ _ wr w6 none HJ.out (grown_none hb6) (fun r e => by cases e))
      have HN6 := hide (HN.out.below hb6)
      have HR : Hid (RJ ls pre ((k : Int), v2, y) wr w6) := hide ⟨by rw [HPL.out, HL.out]; exact hlt, by rw [HPL.out]; exact HPM.out, by rw [HPL.out], by rw [HPL.out, HY.out], ho6⟩
      have HM7 : Hid ((pre ++ [((k : Int), v2, y)]).map (·.2.2) = ls.take (k + 1)) := hide (by
        rw [List.map_append, HPM.out, take_snocN ls k (by rw [HL.out]; exact hlt), HY.out]
        rfl)
      have HB6 := hide hb6
      clear ho6 hb6 CL hcell2
      obtain ⟨fn, tmps, assign, body, hy, hR⟩ := hY pre ((k : Int), v2, y) wr w6 HJ.out HB6.out HJ6.out HR.out
      simp only [encL] at hy
      gi_wp2_with fail
      refine hR.mono ?_
      rintro r W7 (⟨rfl, hJ7, hk7⟩ | ⟨rfl, hJx7⟩)
      · have HJ7 := hide hJ7
        have HN7 := hide (HN6.out.same (fun q hq => hk7.keep q hq))
        clear hJ7 hk7 hy hR HJ6 HN6 HR hix
        gi_wp2
        go_roundw
        case rel => exact ⟨k + 1, _, by omega, by go_num, HM7.out, HJ7, HN7⟩
        case measure => simp only [intOf]; omega
      · have HJx7 := hide hJx7
        clear hJx7 hy hR hix
        gi_wp2
        refine bodyPost_ret (results_none rfl _ _ _) rfl ?_
        exact ⟨⟨_, rfl⟩, .inr ⟨_, ⟨k + 1, by omega, HM7.out⟩, HJx7.out⟩⟩
    · have hlti : ¬ (k : Int) < (L : Int) := by omega
      obtain rfl : k = L := by omega
      have hfin := HPM.out
      rw [List.take_of_length_le (by rw [HL.out]; omega)] at hfin
      have HFIN := hide hfin
      clear hfin
      gi_wp2
      go_end0
      exact ⟨⟨_, rfl⟩, .inl ⟨_, HFIN.out, HJ.out⟩⟩

end Go.Proofs.YtninkkdbcgadpaaGreatDoor

/-
  Worlds in which all cells are kept; stores that change nothing; what is kept beside the cells.
-/
namespace Go.Proofs.YtninkkdbcgadpaaGreatDoor
open Go.RowKit Go.Shelf
set_option linter.unusedVariables false
set_option maxRecDepth 100000

/-- All cells are kept. -/
structure CK (A C : World) : Prop where
  size : A.heap.size ≤ C.heap.size
  keep : ∀ (k : Nat) (o : Obj), A.heap[k]? = some o → o.isCells = true → C.heap[k]? = some o
theorem CK.of_grown {A C : World} {row : Option Nat} (hg : A.grownBy C row) (hr : ∀ r, row = some r → ∃ o : Obj, A.heap[r]? = some o ∧ o.isCells = false) : CK A C :=
  ⟨hg.size, fun k o ho hc => by
    rw [hg.block k (Array.getElem?_eq_some_iff.1 ho).1 (fun e => by
      obtain ⟨q, hq, hn⟩ := hr k e.symm
      rw [ho] at hq
      injection hq with hq
      subst hq
      rw [hc] at hn
      cases hn)]
    exact ho⟩
theorem CK.below {A C : World} (h : Below A.heap.size A C) : CK A C := ⟨h.size, fun k o ho _ => (h.block k (Array.getElem?_eq_some_iff.1 ho).1).trans ho⟩
theorem CK.put {V : World} {D : Nat} {o : Obj} (o' : Obj) (h : V.heap[D]? = some o) (hc : o.isCells = false) : CK V (V.putObj D o') :=
  ⟨(grownBy_putObj' V D o').size, fun k q hq hcq => by
    rw [World.putObj_heap_other (fun e => by
      subst e
      rw [h] at hq
      injection hq with hq
      subst hq
      rw [hc] at hcq
      cases hcq)]
    exact hq⟩
theorem Blk.ck {A C : World} {g : Nat} {t : TypeId} {cs : List Value} (h : Blk A g t cs) (hk : CK A C) : Blk C g t cs := hk.keep g _ h rfl
theorem Own.ck {A C : World} {B : Nat} {v : Value} {xs : List Int} (h : Own A B v xs) (hk : CK A C) : Own C B v xs := h.same (fun k e => by
  obtain ⟨cs, hc⟩ := h.lies e
  exact (hc.ck hk).trans hc.symm)
theorem OwnV.ck {T : TypeId} {A C : World} {B : Nat} {v : Value} {ns : List Value} (h : OwnV T A B v ns) (hk : CK A C) : OwnV T C B v ns := h.same (fun k e => by
  obtain ⟨cs, hc⟩ := h.blk e
  exact (hc.ck hk).trans hc.symm)
theorem Cts.ck {A C : World} {B : Nat} {vs : List Value} {ds : List (List Int)} (h : Cts A B vs ds) (hk : CK A C) : Cts C B vs ds := ⟨h.1, fun i hi => (h.2 i hi).ck hk⟩
/-- A store of what is there. -/
theorem set_id {w : World} {g i : Nat} {t : TypeId} {cs : List Value} {v : Value} (h : Blk w g t cs) (hv : cs[i]? = some v) : w.setCell ⟨g, i, none⟩ v = w := by
  have e : w.heap.modify g (fun
      | .cells c elem frozen => .cells (if (⟨g, i, none⟩ : Addr).spot.isSome then c else c.setIfInBounds i v) elem frozen
      | o => o) = w.heap := by
    apply Array.ext_getElem?
    intro k
    rw [Array.getElem?_modify]
    split
    · rename_i hk
      subst hk
      have h' : w.heap[g]? = some (.cells cs.toArray t) := h
      rw [h']
      obtain ⟨hi, rfl⟩ := List.getElem?_eq_some_iff.1 hv
      simp
    · rfl
  exact congrArg (fun H => ({ w with heap := H } : World)) e
theorem keepsO_below {A B : World} (h : Below A.heap.size A B) : KeepsOthers A B := ⟨h.size, fun k o hk _ => (h.block k (Array.getElem?_eq_some_iff.1 hk).1).trans hk⟩
theorem keepsO_but {A B : World} {g : Nat} {t : TypeId} {cs : List Value} (h : But g A B) (hg : Blk A g t cs) : KeepsOthers A B := ⟨Nat.le_of_eq h.size.symm, fun k o hk hc => (h.block k (fun e => by
  subst e
  rw [hg] at hk
  injection hk with hk
  subst hk
  cases hc)).trans hk⟩
theorem keepsO_grown {A B : World} {row : Option Nat} (h : A.grownBy B row) (hr : ∀ g, row = some g → ∃ t cs, Blk A g t cs) : KeepsOthers A B := ⟨h.size, fun k o hk hc => (h.block k (Array.getElem?_eq_some_iff.1 hk).1 (fun e => by
  obtain ⟨t, cs, hg⟩ := hr k e.symm
  rw [hg] at hk
  injection hk with hk
  subst hk
  cases hc)).trans hk⟩
section
variable {F : Fence} {n : Nat} {L T : TypeId} {z : Value} {by' : Nat} {dst : Option Tmp} {ty : TypeId} {pos : String} {aft : Array Edge} {gd : Option (Nat × Bool)} {ops : Array Oper} {rest : List Oper} {a : Act} {w : World} {Q : Exit → Act → World → Prop}
theorem istep_one1 (hF : WideF F) (t : Tin L T z by') {x : Operand} {u : Value} (hu : u.oneCell' = true) (hw : Region.wanted ⟨dst, .buildSlice L 1 #[(0, x)], ty, pos, aft, gd⟩ (yielded ops a.tmps) = true) (hx : a.eval x = u)
    (h : ∀ w1 g, Blk w1 g T [u] → w.heap.size ≤ g → Below w.heap.size w w1 → wpListIn F n Tryz.prog ops Q rest (a.put dst (.slice (some ⟨g, 0, none⟩) 1 1)) w1) :
    wpListIn F n Tryz.prog ops Q (⟨dst, .buildSlice L 1 #[(0, x)], ty, pos, aft, gd⟩ :: rest) a w :=
  istep hF (fun c => by simp) hw fun K hK => wp_one1 t hu hx (fun w1 g h1 h2 h3 => hK _ _ (h w1 g h1 h2 h3))
theorem istep_app1 (hF : WideF F) (t : Tin L T z by') {s x : Operand} {B : Nat} {v u : Value} {ns : List Value} {g c : Nat} (hu : u.oneCell' = true) (hw : Region.wanted ⟨dst, .call { callee := .builtin .append, args := #[s, x], argTypes := #[L, L] }, ty, pos, aft, gd⟩ (yielded ops a.tmps) = true)
    (hs : a.eval s = v) (hx : a.eval x = .slice (some ⟨g, 0, none⟩) 1 c) (hown : OwnV T w B v ns) (hy : Blk w g T [u]) (hlen : ns.length ≤ 1048576) (hB : B ≤ w.heap.size)
    (h : ∀ g' cap w', OwnV T w' B (.slice (some ⟨g', 0, none⟩) (ns.length + 1) cap) (ns ++ [u]) → w.grownBy w' v.ownBlock → (v.ownBlock = some g' ∨ w.heap.size ≤ g') → wpListIn F n Tryz.prog ops Q rest (a.put dst (.slice (some ⟨g', 0, none⟩) (ns.length + 1) cap)) w') :
    wpListIn F n Tryz.prog ops Q (⟨dst, .call { callee := .builtin .append, args := #[s, x], argTypes := #[L, L] }, ty, pos, aft, gd⟩ :: rest) a w :=
  istep hF (fun c => by simp) hw fun K hK => wp_app1 t hu hs hx hown hy hlen hB (fun g' cap w' h1 h2 h3 => hK _ _ (h g' cap w' h1 h2 h3))
theorem istep_appB (hF : WideF F) {s x : Operand} {B : Nat} {v : Value} {xs : List Int} {sa : Option Addr} {m c : Nat} {ys : List Int} (hw : Region.wanted ⟨dst, .call { callee := .builtin .append, args := #[s, x], argTypes := #[39, 39] }, ty, pos, aft, gd⟩ (yielded ops a.tmps) = true)
    (hs : a.eval s = v) (hx : a.eval x = .slice sa m c) (hown : Own w B v xs) (hy : Sl w sa m c ys) (hm : 0 < m) (hlen : xs.length + m ≤ 140737488355328) (hB : B ≤ w.heap.size)
    (h : ∀ g cap w', Own w' B (.slice (some ⟨g, 0, none⟩) (xs.length + m) cap) (xs ++ ys) → w.grownBy w' v.ownBlock → (v.ownBlock = some g ∨ g = w.heap.size) → wpListIn F n Tryz.prog ops Q rest (a.put dst (.slice (some ⟨g, 0, none⟩) (xs.length + m) cap)) w') :
    wpListIn F n Tryz.prog ops Q (⟨dst, .call { callee := .builtin .append, args := #[s, x], argTypes := #[39, 39] }, ty, pos, aft, gd⟩ :: rest) a w :=
  istep hF (fun c => by simp) hw fun K hK => wp_appendL rfl hs hx hown hy hm hlen hB (fun g cap w' h1 h2 h3 => hK _ _ (h g cap w' h1 h2 h3))
end

end Go.Proofs.YtninkkdbcgadpaaGreatDoor

/-
  The leaves from the k-th on, and their frames: from.
-/
namespace Go.Proofs.YtninkkdbcgadpaaGreatDoor
open Go.RowKit Go.Shelf
set_option linter.unusedVariables false
set_option linter.unusedSimpArgs false
set_option maxRecDepth 100000

/-- What stands in from: its variables, what it has gathered. -/
structure FI (w W : World) (B b3 b4 b5 b6 : Nat) (kk : Int) (lv fv : Value) (vs : List Value) (ds : List (List Int)) : Prop where
  c3 : Blk W b3 3 [.int .i64 kk]
  c4 : Blk W b4 48 [lv]
  c5 : Blk W b5 39 [fv]
  c6 : Blk W b6 31 [.int .i64 0]
  l3 : w.heap.size ≤ b3 ∧ b3 < B
  l4 : w.heap.size ≤ b4 ∧ b4 < B
  l5 : w.heap.size ≤ b5 ∧ b5 < B
  l6 : w.heap.size ≤ b6 ∧ b6 < B
  row : OwnV 39 W B lv vs
  cts : Cts W B vs ds
  frm : Own W B fv (fmA ds)
  ap : ∀ v ∈ vs, ∀ k, v.ownBlock = some k → fv.ownBlock ≠ some k
  bel : Below w.heap.size w W
  sz : B ≤ W.heap.size
section
variable {w W W' : World} {B b3 b4 b5 b6 : Nat} {kk : Int} {lv fv : Value} {vs : List Value} {ds : List (List Int)}
theorem FI.ck (h : FI w W B b3 b4 b5 b6 kk lv fv vs ds) (hk : CK W W') (hb : Below w.heap.size w W') : FI w W' B b3 b4 b5 b6 kk lv fv vs ds :=
  ⟨h.c3.ck hk, h.c4.ck hk, h.c5.ck hk, h.c6.ck hk, h.l3, h.l4, h.l5, h.l6, h.row.ck hk, h.cts.ck hk, h.frm.ck hk, h.ap, hb, Nat.le_trans h.sz hk.size⟩
theorem FI.on (h : FI w W B b3 b4 b5 b6 kk lv fv vs ds) (hb : Below W.heap.size W W') : FI w W' B b3 b4 b5 b6 kk lv fv vs ds := h.ck (CK.below hb) (on_below h.bel hb)
/-- One leaf more, and its frame. -/
theorem FI.push {w5 w6 w7 w8 w9 : World} {v : Value} {d : List Int} {g4 cap4 g5 L5 cap5 : Nat} (h : FI w W B b3 b4 b5 b6 kk lv fv vs ds) (hB : B ≤ W.heap.size) {n0 : Nat} (hv : Own W n0 v d) (hBn : B ≤ n0) (hn0 : ∀ k, fv.ownBlock = some k → k < n0) (h5 : Below W.heap.size W w5)
    (hrow : OwnV 39 w6 B (.slice (some ⟨g4, 0, none⟩) (vs.length + 1) cap4) (vs ++ [v])) (hg6 : w5.grownBy w6 lv.ownBlock)
    (h7 : w7 = w6.setCell ⟨b4, 0, none⟩ (.slice (some ⟨g4, 0, none⟩) (vs.length + 1) cap4))
    (hfr : Own w8 B (.slice (some ⟨g5, 0, none⟩) L5 cap5) (fmA ds ++ fmB d)) (hg8 : w7.grownBy w8 fv.ownBlock) (hat : fv.ownBlock = some g5 ∨ g5 = w7.heap.size)
    (h9 : w9 = w8.setCell ⟨b5, 0, none⟩ (.slice (some ⟨g5, 0, none⟩) L5 cap5)) :
    FI w w9 B b3 b4 b5 b6 kk (.slice (some ⟨g4, 0, none⟩) (vs.length + 1) cap4) (.slice (some ⟨g5, 0, none⟩) L5 cap5) (vs ++ [v]) (ds ++ [d]) ∧ KeepsOthers W w9 := by
  have hb4 : But b4 w6 w7 := by rw [h7]; exact But.setCell w6 b4 0 _
  have hb5 : But b5 w8 w9 := by rw [h9]; exact But.setCell w8 b5 0 _
  have F5 := h.on h5
  have hs5 := h5.size
  have hlvB : ∀ k, lv.ownBlock = some k → B ≤ k := fun k hk => (F5.row.lt k hk).1
  have hfvB : ∀ k, fv.ownBlock = some k → B ≤ k := fun k hk => F5.frm.lt k hk
  have k56 : ∀ k, k < w5.heap.size → lv.ownBlock ≠ some k → w6.heap[k]? = w5.heap[k]? := fun k hk hn => hg6.block k hk (fun e => hn e.symm)
  have k67 : ∀ k, k ≠ b4 → w7.heap[k]? = w6.heap[k]? := fun k hk => hb4.block k hk
  have s67 : w7.heap.size = w6.heap.size := hb4.size
  have k78 : ∀ k, k < w7.heap.size → fv.ownBlock ≠ some k → w8.heap[k]? = w7.heap[k]? := fun k hk hn => hg8.block k hk (fun e => hn e.symm)
  have k89 : ∀ k, k ≠ b5 → w9.heap[k]? = w8.heap[k]? := fun k hk => hb5.block k hk
  have s56 := hg6.size
  have s78 := hg8.size
  have l3 := h.l3
  have l4 := h.l4
  have l5 := h.l5
  have l6 := h.l6
  have var : ∀ b, b < B → b ≠ b4 → b ≠ b5 → w9.heap[b]? = w5.heap[b]? := fun b hb h4 h5' => by
    rw [k89 b h5', k78 b (by omega) (fun e => by have := hfvB b e; omega), k67 b h4, k56 b (by omega) (fun e => by have := hlvB b e; omega)]
  have n34 : b3 ≠ b4 := h.c3.apart h.c4 (by decide)
  have n35 : b3 ≠ b5 := h.c3.apart h.c5 (by decide)
  have n64 : b6 ≠ b4 := h.c6.apart h.c4 (by decide)
  have n65 : b6 ≠ b5 := h.c6.apart h.c5 (by decide)
  have n45 : b4 ≠ b5 := h.c4.apart h.c5 (by decide)
  have byte : ∀ {k : Nat} {cs : List Value}, Blk w5 k 5 cs → fv.ownBlock ≠ some k → w9.heap[k]? = w5.heap[k]? := fun {k cs} hc hn => by
    have e4 : k ≠ b4 := hc.apart F5.c4 (by decide)
    have e5 : k ≠ b5 := hc.apart F5.c5 (by decide)
    have hl := hc.lt
    rw [k89 k e5, k78 k (by omega) hn, k67 k e4, k56 k hl (fun e => by
      obtain ⟨cs', hc'⟩ := F5.row.blk e
      exact hc.apart hc' (by decide) rfl)]
  have hv5 := hv.below h5
  have g4B : B ≤ g4 := (hrow.lt g4 rfl).1
  have g4l : g4 < w6.heap.size := (hrow.lt g4 rfl).2
  have g5B : B ≤ g5 := hfr.lt g5 rfl
  have s89 : w9.heap.size = w8.heap.size := hb5.size
  refine ⟨⟨?_, ?_, ?_, ?_, l3, l4, l5, l6, ?_, ?_, ?_, ?_, ?_, by omega⟩, ?_⟩
  · exact F5.c3.same (var b3 l3.2 n34 n35)
  · have h1 : Blk w6 b4 48 [lv] := F5.c4.same (k56 b4 (by omega) (fun e => by have := hlvB b4 e; omega))
    have h2 : Blk w7 b4 48 [.slice (some ⟨g4, 0, none⟩) (vs.length + 1) cap4] := by rw [h7]; exact h1.set 0 _
    exact h2.same (by rw [k89 b4 n45, k78 b4 (by omega) (fun e => by have := hfvB b4 e; omega)])
  · have h1 : Blk w8 b5 39 [fv] := F5.c5.same (by rw [k78 b5 (by omega) (fun e => by have := hfvB b5 e; omega), k67 b5 (fun e => n45 e.symm), k56 b5 (by omega) (fun e => by have := hlvB b5 e; omega)])
    rw [h9]
    exact h1.set 0 _
  · exact F5.c6.same (var b6 l6.2 n64 n65)
  · refine hrow.same (fun k hk => ?_)
    have ekg : g4 = k := by cases hk; rfl
    subst ekg
    obtain ⟨cs, hc⟩ := hrow.blk (k := g4) rfl
    have e4 : g4 ≠ b4 := by omega
    have e5 : g4 ≠ b5 := by omega
    rw [k89 g4 e5, k78 g4 (by omega) (fun e => by
      obtain ⟨cs', hc'⟩ := F5.frm.lies e
      have hf6 : Blk w6 g4 5 cs' := hc'.same (k56 g4 hc'.lt (fun e2 => by
        obtain ⟨cs2, hc2⟩ := F5.row.blk e2
        exact hc'.apart hc2 (by decide) rfl))
      exact hf6.apart hc (by decide) rfl), k67 g4 e4]
  · refine Cts.snoc (F5.cts.same (fun u hu k hk => ?_)) ((hv5.mono hBn).same (fun k hk => ?_))
    · obtain ⟨l, _, ho⟩ := F5.cts.mem hu
      obtain ⟨cs, hc⟩ := ho.lies hk
      exact byte hc (h.ap u hu k hk)
    · obtain ⟨cs, hc⟩ := hv5.lies hk
      exact byte hc (fun e => by have h1 := hn0 k e; have h2 := hv5.lt k hk; omega)
  · have e : fmA (ds ++ [d]) = fmA ds ++ fmB d := by simp [fmA]
    rw [e]
    refine hfr.same (fun k hk => ?_)
    have ekg : g5 = k := by cases hk; rfl
    subst ekg
    exact k89 g5 (by omega)
  · intro u hu k hk hf
    have ekg : g5 = k := by cases hf; rfl
    subst ekg
    rcases List.mem_append.1 hu with hu | hu
    · rcases hat with e | e
      · exact h.ap u hu g5 hk e
      · obtain ⟨l, _, ho⟩ := F5.cts.mem hu
        obtain ⟨cs, hc⟩ := ho.lies hk
        have := hc.lt
        omega
    · simp at hu
      subst hu
      rcases hat with e | e
      · have h1 := hn0 g5 e
        have h2 := hv5.lt g5 hk
        omega
      · obtain ⟨cs, hc⟩ := hv5.lies hk
        have := hc.lt
        omega
  · have b6' : Below w.heap.size w w6 := F5.bel.grown hg6 F5.bel.size (fun r e => by have := hlvB r e; omega)
    have b7 := b6'.trans (hb4.below l4.1)
    have b8 : Below w.heap.size w w8 := b7.grown hg8 b7.size (fun r e => by have := hfvB r e; omega)
    exact b8.trans (hb5.below l5.1)
  · have c4' : Blk w6 b4 48 [lv] := F5.c4.same (k56 b4 (by omega) (fun e => by have := hlvB b4 e; omega))
    have c5' : Blk w8 b5 39 [fv] := F5.c5.same (by rw [k78 b5 (by omega) (fun e => by have := hfvB b5 e; omega), k67 b5 (fun e => n45 e.symm), k56 b5 (by omega) (fun e => by have := hlvB b5 e; omega)])
    refine (((keepsO_below h5).trans (keepsO_grown hg6 (fun g e => ?_))).trans (keepsO_but hb4 c4')).trans ((keepsO_grown hg8 (fun g e => ?_)).trans (keepsO_but hb5 c5'))
    · obtain ⟨cs, hc⟩ := F5.row.blk e
      exact ⟨_, cs, hc⟩
    · obtain ⟨cs, hc⟩ := F5.frm.lies e
      refine ⟨_, cs, hc.same ?_⟩
      rw [k67 g (hc.apart F5.c4 (by decide)), k56 g hc.lt (fun e2 => by
        obtain ⟨cs2, hc2⟩ := F5.row.blk e2
        exact hc.apart hc2 (by decide) rfl)]
end
theorem fmA_app (a b : List (List Int)) : fmA (a ++ b) = fmA a ++ fmA b := by simp [fmA]
theorem fmA_part (ls : List (List Int)) (i k : Nat) : (fmA ((ls.take i).drop k)).length ≤ (fmA ls).length := by
  have e1 : fmA ls = fmA (ls.take i) ++ fmA (ls.drop i) := by rw [← fmA_app, List.take_append_drop]
  have e2 : fmA (ls.take i) = fmA ((ls.take i).take k) ++ fmA ((ls.take i).drop k) := by rw [← fmA_app, List.take_append_drop]
  rw [e1, e2]
  simp only [List.length_append]
  omega
theorem drop_take_succ (ls : List (List Int)) (k i : Nat) (hi : i < ls.length) (hk : k ≤ i) : (ls.take (i + 1)).drop k = (ls.take i).drop k ++ [ls.getD i []] := by
  rw [take_snocN ls i hi, List.drop_append_of_le_length (by rw [List.length_take]; omega)]

end Go.Proofs.YtninkkdbcgadpaaGreatDoor

/-
  The walk of from.
-/
namespace Go.Proofs.YtninkkdbcgadpaaGreatDoor
open Go.RowKit Go.Shelf
set_option linter.unusedVariables false
set_option linter.unusedSimpArgs false
set_option maxRecDepth 100000

/-- What from tells: slices of its own with the leaves from the k-th on, and with their frames. -/
structure FrO (w W : World) (lv fv : Value) (vs : List Value) (ds : List (List Int)) : Prop where
  row : OwnV 39 W w.heap.size lv vs
  cts : Cts W w.heap.size vs ds
  frm : Own W w.heap.size fv (fmA ds)
  bel : Below w.heap.size w W
theorem FI.out {w W : World} {B b3 b4 b5 b6 : Nat} {kk : Int} {lv fv : Value} {vs : List Value} {ds : List (List Int)} (h : FI w W B b3 b4 b5 b6 kk lv fv vs ds) (hB : w.heap.size ≤ B) : FrO w W lv fv vs ds :=
  ⟨h.row.mono hB, ⟨h.cts.1, fun i hi => (h.cts.2 i hi).mono hB⟩, h.frm.mono hB, h.bel⟩
theorem zLL : Zeroed 48 [.slice none 0 0] := fun _ _ _ _ _ _ _ => by kernel_rfl
theorem zBB : Zeroed 39 [.slice none 0 0] := fun _ _ _ _ _ _ _ => by kernel_rfl
theorem zEr : Zeroed 31 [.int .i64 0] := fun _ _ _ _ _ _ _ => by kernel_rfl
/-- The variables of from, as they are made. -/
def fr4 (w : World) (k : Int) : World := (((w.alloc (.cells #[.int .i64 k] 3)).alloc (.cells #[.slice none 0 0] 48)).alloc (.cells #[.slice none 0 0] 39)).alloc (.cells #[.int .i64 0] 31)
theorem fr4_bel (w : World) (k : Int) : Below w.heap.size w (fr4 w k) := ((((Below.refl _ _).alloc (Nat.le_refl _) _).alloc (by simp) _).alloc (by simp; omega) _).alloc (by simp; omega) _
theorem fr4_size (w : World) (k : Int) : (fr4 w k).heap.size = w.heap.size + 4 := by simp [fr4]
theorem fr4_fi (w : World) (k : Int) : FI w (fr4 w k) (w.heap.size + 4) w.heap.size (w.heap.size + 1) (w.heap.size + 1 + 1) (w.heap.size + 1 + 1 + 1) k (.slice none 0 0) (.slice none 0 0) [] [] := by
  have s1 : (w.alloc (.cells #[.int .i64 k] 3)).heap.size = w.heap.size + 1 := World.size_alloc _ _
  have s2 : ((w.alloc (.cells #[.int .i64 k] 3)).alloc (.cells #[.slice none 0 0] 48)).heap.size = w.heap.size + 1 + 1 := by rw [World.size_alloc, s1]
  have s3 : (((w.alloc (.cells #[.int .i64 k] 3)).alloc (.cells #[.slice none 0 0] 48)).alloc (.cells #[.slice none 0 0] 39)).heap.size = w.heap.size + 1 + 1 + 1 := by rw [World.size_alloc, s2]
  have a1 := Blk.made w 3 [.int .i64 k]
  have a2 := Blk.made (w.alloc (.cells #[.int .i64 k] 3)) 48 [.slice none 0 0]
  have a3 := Blk.made ((w.alloc (.cells #[.int .i64 k] 3)).alloc (.cells #[.slice none 0 0] 48)) 39 [.slice none 0 0]
  have a4 := Blk.made (((w.alloc (.cells #[.int .i64 k] 3)).alloc (.cells #[.slice none 0 0] 48)).alloc (.cells #[.slice none 0 0] 39)) 31 [.int .i64 0]
  rw [s1] at a2
  rw [s2] at a3
  rw [s3] at a4
  have nx : ∀ (v : World) (o : Obj), Below v.heap.size v (v.alloc o) := fun v o => (Below.refl _ _).alloc (Nat.le_refl _) _
  exact ⟨((a1.on (nx _ _)).on (nx _ _)).on (nx _ _), (a2.on (nx _ _)).on (nx _ _), a3.on (nx _ _), a4, by omega, by omega, by omega, by omega, OwnV.nil _ _ _, Cts.nil _ _, ⟨rfl, .inl ⟨rfl, rfl⟩⟩, (fun v hv => by cases hv), fr4_bel w k, by rw [fr4_size]; exact Nat.le_refl _⟩
set_option maxHeartbeats 4000000 in
theorem from_any (j d g : Nat) (ls : List (List Int)) (M : Jm) (w : World) (h : JnAt w j d g ls M) (ht : TT w) (k : Nat) (hk : k ≤ ls.length) (hls : ls.length ≤ 1000000) (hfl : (fmA ls).length ≤ 1099511627776) :
    Calls Tryz.prog 48 #[.pointer (some ⟨j, 0, none⟩), .int .i64 (k : Int)] w fun e w' => ∃ lv fv vs, e = .returned (.tuple #[lv, fv, .int .i64 0]) ∧ FrO w w' lv fv vs (ls.drop k) := by
  have HH := hide h
  have HT := hide ht
  have HFL := hide hfl
  have HLS := hide hls
  have HKL := hide hk
  clear h ht hfl hls hk
  refine (callsIn_wide (n := 3)).1 ?_
  refine callsIn_of_wp_marks Tryz.func48 rfl trivial ?_ rfl
  refine wpIn_wide.2 ?_
  simp only [Tryz.ntmps48, List.size_toArray, List.length_cons, List.length_nil, Nat.reduceAdd, Nat.reduceSub, Array.replicate_succ, Array.replicate_zero, List.push_toArray, List.append_toArray, List.nil_append, List.cons_append]
  go_wp2_with fail
  have F0 := fr4_fi w (k : Int)
  have S0 := fr4_size w (k : Int)
  unfold fr4 at F0 S0
  revert F0 S0
  generalize (((w.alloc (.cells #[.int .i64 (k : Int)] 3)).alloc (.cells #[.slice none 0 0] 48)).alloc (.cells #[.slice none 0 0] 39)).alloc (.cells #[.int .i64 0] 31) = W4
  obtain ⟨B, hB⟩ : ∃ B, w.heap.size + 4 = B := ⟨_, rfl⟩
  obtain ⟨b6, hb6⟩ : ∃ b6, w.heap.size + 1 + 1 + 1 = b6 := ⟨_, rfl⟩
  obtain ⟨b5, hb5⟩ : ∃ b5, w.heap.size + 1 + 1 = b5 := ⟨_, rfl⟩
  obtain ⟨b4, hb4⟩ : ∃ b4, w.heap.size + 1 = b4 := ⟨_, rfl⟩
  rw [hB, hb6, hb5, hb4]
  clear hb6 hb5 hb4
  intro F0 S0
  have HF0 := hide F0
  have hwB : w.heap.size ≤ B := by omega
  clear F0 hB
  refine (jall_any _ _).mono ?_
  rintro r W5 ⟨rfl, rfl⟩
  have hbB : Below W4.heap.size W4 (W4.alloc (.cells #[.pointer (some ⟨j, 0, none⟩)] 30)) := (Below.refl _ _).alloc (Nat.le_refl _) _
  have BX : Blk (W4.alloc (.cells #[.pointer (some ⟨j, 0, none⟩)] 30)) W4.heap.size 30 [.pointer (some ⟨j, 0, none⟩)] := Blk.made _ _ _
  have F5 := hide (HF0.out.on hbB)
  revert F5 BX
  generalize hW5 : W4.alloc (.cells #[.pointer (some ⟨j, 0, none⟩)] 30) = W5
  have S5 : B ≤ W5.heap.size := by rw [← hW5]; simp; omega
  generalize W4.heap.size = bx
  intro BX F5
  clear hW5 S0 HF0 hbB
  have N5 := hide (HH.out.below F5.out.bel)
  have HSQ := hide (jall_seq bx j d g ls M W5 N5.out BX (by have := HLS.out; omega))
  have HJL : Hid (∀ q, M.own j q ∨ M.ro q → q < w.heap.size) := hide (fun q hq => HH.out.lt hq)
  have T5 := hide (HT.out.on F5.out.bel)
  clear BX N5
  go_wp2_with fail
  refine (wpIn_wide (n := 3)).1 ?_
  refine rangeQ rfl (by decide) (gf := 53) (lb := #[.pointer (some ⟨bx, 0, none⟩)]) rfl trivial (enters_of Tryz.func53 (by kernel_rfl) rfl)
    HSQ.out KJ.trans (fun x W l o o' hl h hc => KJ.book (B := w.heap.size) HJL.out W l o' (by omega)) (fun _ => rfl) (fun pre x W0 => rj_own _ _ pre x W0)
    (fun pre W => ∃ lv fv vs, FI w W B w.heap.size b4 b5 b6 (k : Int) lv fv vs ((ls.take pre.length).drop k)) (fun _ _ _ => False)
    (fun _ A C row h hg hr => by
      obtain ⟨lv, fv, vs, hf⟩ := h
      exact ⟨lv, fv, vs, hf.ck (CK.of_grown hg (fun r e => (hr r e).2)) (hf.bel.grown hg hf.bel.size (fun r e => by have := (hr r e).1; omega))⟩) (fun c _ A C row h hg hr => h) ⟨_, _, _, by simpa using F5.out⟩ ?act ?assign ?body ?done ?stop
  case assign =>
    rintro l x W K hK
    have hsem := Oper.semAt_some
    simp only [encL]
    gi_wp2
    exact hK
  case stop =>
    rintro D c pre W hD hSp hF2 hK2
    exact hF2.elim
  case body =>
    rintro l pre ⟨i0, v, y⟩ W0 W ⟨lv0, fv0, vs0, hf0⟩ hck hsz ⟨lv, fv, vs, hf⟩ ⟨h1, h2, h3, h4, h5⟩
    have hsem := Oper.semAt_some
    obtain ⟨i, HI⟩ : ∃ i, Hid (pre.length = i) := ⟨_, hide rfl⟩
    have HP1 : Hid ((pre ++ [((i : Int), v, y)]).length = i + 1) := hide (by rw [List.length_append, HI.out]; rfl)
    simp only at h3 h4 h5
    rw [HI.out] at h1 h3 h4 hf hf0
    subst h3
    have HF := hide hf
    have HV := hide h5
    have HY := hide h4
    have efv : fv0 = fv := by
      have c0 := (Blk.ck hf0.c5 ⟨hsz, hck⟩).cell (i := 0)
      have c1 := hf.c5.cell (i := 0)
      rw [c0] at c1
      simpa using c1
    have HN0 : Hid (∀ q, fv.ownBlock = some q → q < W0.heap.size) := hide (fun q hq => by
      rw [← efv] at hq
      obtain ⟨cs, hc⟩ := hf0.frm.lies hq
      exact hc.lt)
    have HB0 : Hid (B ≤ W0.heap.size) := hide hf0.sz
    have d3 : W.cell? ⟨w.heap.size, 0, none⟩ = some (.int .i64 (k : Int)) := by rw [hf.c3.cell]; rfl
    have hby : isB y ∧ y.length ≤ 65535 := HH.out.byt y (by
      rw [h4]
      simp only [List.getD, List.getElem?_eq_getElem h1, Option.getD_some]
      exact List.getElem_mem h1)
    obtain ⟨av, cv, ev, sv⟩ := h5.sl' hby.1 (by omega)
    subst ev
    have HBY := hide hby
    have KB : Hid (∀ {C : World}, Below w.heap.size W C → KJ (fun q => M.own j q ∨ M.ro q) W C) := hide (fun hb => KJ.under HJL.out hb)
    by_cases hik : i < k
    · have hik' : (i : Int) < (k : Int) := by omega
      have HE : Hid ((ls.take (i + 1)).drop k = (ls.take i).drop k) := hide (by
        rw [List.drop_of_length_le (by rw [List.length_take]; omega), List.drop_of_length_le (by rw [List.length_take]; omega)])
      clear hf hf0 h2 h4 h5 hck efv hby sv
      gi_wp2
      refine ⟨(keepsO_below (Below.refl _ _)).from _, KJ.refl _ _, ?_⟩
      show ∃ lv fv vs, FI w W B w.heap.size b4 b5 b6 (k : Int) lv fv vs ((ls.take (pre ++ [((i : Int), Value.slice av y.length cv, y)]).length).drop k)
      rw [HP1.out, HE.out]
      exact ⟨lv, fv, vs, HF.out⟩
    · have hik' : ¬ (i : Int) < (k : Int) := by omega
      have HE : Hid ((ls.take (i + 1)).drop k = (ls.take i).drop k ++ [y]) := hide (by rw [h4]; exact drop_take_succ ls k i h1 (by omega))
      have HPT := hide (put0_ok av y.length cv y W sv (by omega) (HT.out.kt.on hf.bel))
      clear hf hf0 h2 h4 h5 hck efv hby sv
      gi_wp2_with fail
      refine ⟨trivial, (calls_round (WideF.round l) HPT.out).mono ?_⟩
      rintro _ W6 ⟨gp, Lp, rfl, hLp, hgp, hop, hsp, hb6⟩
      have HSP := hide hsp
      have HOP := hide hop
      have HLP := hide hLp
      have HB6 := hide hb6
      have F6 := hide (HF.out.on hb6)
      have d4 : W6.cell? ⟨b4, 0, none⟩ = some lv := by rw [F6.out.c4.cell]; rfl
      have f4 := F6.out.c4.free 0
      clear hop hsp hb6 hLp hgp HPT
      gi_wp2_with (refine istep_one1 (u := .slice av y.length cv) (WideF.round l) tinB rfl rfl rfl ?_)
      intro w7 g7 hg7 hle7 hb7
      have HB7 := hide (on_below HB6.out hb7)
      have F7 := hide (HF.out.on HB7.out)
      have HG7 := hide hg7
      have HVL : Hid (vs.length ≤ 1048576) := hide (by
        rw [HF.out.cts.1, List.length_drop, List.length_take]
        have := HLS.out
        omega)
      have SP7 := hide (HSP.out.below hb7)
      have OP7 := hide (HOP.out.below hb7)
      clear hg7 hle7 hb7 d4 f4 F6 HSP HOP
      gi_wp2_with (refine istep_app1 (u := .slice av y.length cv) (WideF.round l) tinB rfl rfl rfl rfl F7.out.row HG7.out HVL.out F7.out.sz ?_)
      intro g4 cap4 w8 hrow hgr hat
      have hlvB : ∀ q, lv.ownBlock = some q → B ≤ q := fun q hq => (F7.out.row.lt q hq).1
      have l4 := F7.out.l4
      have l5 := F7.out.l5
      have n45 : b4 ≠ b5 := F7.out.c4.apart F7.out.c5 (by decide)
      have c48 : Blk w8 b4 48 [lv] := F7.out.c4.same (hgr.block b4 F7.out.c4.lt (fun e => by have := hlvB b4 e.symm; omega))
      have c58 : Blk w8 b5 39 [fv] := F7.out.c5.same (hgr.block b5 F7.out.c5.lt (fun e => by have := hlvB b5 e.symm; omega))
      obtain ⟨n4, HX4⟩ : ∃ n4, Hid (vs.length + 1 = n4) := ⟨_, hide rfl⟩
      have hbut4 : But b4 w8 (w8.setCell ⟨b4, 0, none⟩ (.slice (some ⟨g4, 0, none⟩) n4 cap4)) := But.setCell w8 b4 0 _
      have d4 : w8.cell? ⟨b4, 0, none⟩ = some lv := by rw [c48.cell]; rfl
      have f4 := c48.free 0
      have d5 : (w8.setCell ⟨b4, 0, none⟩ (.slice (some ⟨g4, 0, none⟩) n4 cap4)).cell? ⟨b5, 0, none⟩ = some fv := by rw [(c58.but hbut4 (fun e => n45 e.symm)).cell]; rfl
      have OF8 : Own (w8.setCell ⟨b4, 0, none⟩ (.slice (some ⟨g4, 0, none⟩) n4 cap4)) B fv (fmA ((ls.take i).drop k)) := F7.out.frm.same (fun q hq => by
        obtain ⟨cs, hc⟩ := F7.out.frm.lies hq
        rw [hbut4.block q (hc.apart F7.out.c4 (by decide)), hgr.block q hc.lt (fun e => by
          obtain ⟨cs', hc'⟩ := F7.out.row.blk e.symm
          exact hc.apart hc' (by decide) rfl)])
      have SP8 : Sl (w8.setCell ⟨b4, 0, none⟩ (.slice (some ⟨g4, 0, none⟩) n4 cap4)) (some ⟨gp, 0, none⟩) Lp Lp (fmB y) := SP7.out.same (fun x hx => by
        obtain rfl : (⟨gp, 0, none⟩ : Addr) = x := Option.some.inj hx
        obtain ⟨cs, hc⟩ := OP7.out.lies (k := gp) rfl
        show (w8.setCell ⟨b4, 0, none⟩ (.slice (some ⟨g4, 0, none⟩) n4 cap4)).heap[gp]? = w7.heap[gp]?
        rw [hbut4.block gp (hc.apart F7.out.c4 (by decide)), hgr.block gp hc.lt (fun e => by
          obtain ⟨cs', hc'⟩ := F7.out.row.blk e.symm
          exact hc.apart hc' (by decide) rfl)])
      have hsz8 : B ≤ (w8.setCell ⟨b4, 0, none⟩ (.slice (some ⟨g4, 0, none⟩) n4 cap4)).heap.size := by
        rw [hbut4.size]
        have h1 := F7.out.sz
        have h2 := hgr.size
        omega
      have HO8 := hide OF8
      have HS8 := hide SP8
      have HZ8 := hide hsz8
      have HLN : Hid ((fmA ((ls.take i).drop k)).length + Lp ≤ 140737488355328) := hide (by
        have h1 := HLP.out
        have h2 := HBY.out.2
        have h3 := fmA_part ls i k
        have h4 := HFL.out
        omega)
      have HR8 := hide hrow
      have HG8 := hide hgr
      have hLp0 : Hid (0 < Lp) := hide (by have := HLP.out; omega)
      clear OF8 SP8 hsz8 hrow hgr hat hlvB l4 l5 c48 c58 hbut4
      rw [HX4.out]
      gi_wp2_with (refine istep_appB (WideF.round l) rfl rfl rfl HO8.out HS8.out hLp0.out HLN.out HZ8.out ?_)
      intro g5 cap5 w9 hfr hg9 hat9
      have hfvB : ∀ q, fv.ownBlock = some q → B ≤ q := fun q hq => HO8.out.lt q hq
      have l5 := F7.out.l5
      have c59 : Blk w9 b5 39 [fv] := by
        have hb8 : Blk w8 b5 39 [fv] := F7.out.c5.same (HG8.out.block b5 F7.out.c5.lt (fun e => by have := (F7.out.row.lt b5 e.symm).1; omega))
        have hb8' := hb8.but (But.setCell w8 b4 0 (.slice (some ⟨g4, 0, none⟩) n4 cap4)) (fun e => n45 e.symm)
        exact hb8'.same (hg9.block b5 hb8'.lt (fun e => by have := hfvB b5 e.symm; omega))
      have d59 : w9.cell? ⟨b5, 0, none⟩ = some fv := by rw [c59.cell]; rfl
      have f59 := c59.free 0
      obtain ⟨L5, hL5⟩ : ∃ L5, (fmA ((ls.take i).drop k)).length + Lp = L5 := ⟨_, rfl⟩
      rw [hL5] at hfr
      rw [hL5]
      have HFIN := hide (HF.out.push (Nat.le_trans HB0.out hsz) HV.out HB0.out HN0.out HB7.out HR8.out HG8.out (show w8.setCell ⟨b4, 0, none⟩ (.slice (some ⟨g4, 0, none⟩) n4 cap4) = w8.setCell ⟨b4, 0, none⟩ (.slice (some ⟨g4, 0, none⟩) (vs.length + 1) cap4) by rw [HX4.out]) hfr hg9 hat9 rfl)
      clear hfr hg9 hat9 hL5 hfvB l5 c59 d4 f4 d5
      gi_wp2
      refine ⟨HFIN.out.2.from _, KJ.between HJL.out HF.out.bel HFIN.out.1.bel HFIN.out.2.size, ?_⟩
      show ∃ lv fv vs, FI w _ B w.heap.size b4 b5 b6 (k : Int) lv fv vs ((ls.take (pre ++ [((i : Int), Value.slice av y.length cv, y)]).length).drop k)
      rw [HP1.out, HE.out]
      exact ⟨_, _, _, HFIN.out.1⟩
  case done =>
    rintro D ys W hD hS ⟨lv, fv, vs, hf⟩ hK2
    have hyl : ys.length = ls.length := by rw [← hS, List.length_map]
    rw [hyl, List.take_length] at hf
    have HF := hide hf
    have HDK := hide hK2
    obtain ⟨la, lc, hla⟩ := hf.row.slice
    obtain ⟨fa, fc, hfa⟩ := hf.frm.slice
    subst hla hfa
    clear hf hK2 hS hyl F5 HSQ
    go_wp2_with fail
    refine wp_region_noPanic ?_
    have FD := hide (HF.out.on (Below.refl W.heap.size W).drew)
    have KD := hide (mark_below HDK.out (Below.refl W.heap.size W).drew)
    clear HF HDK
    refine wp_region_held_drew (S := fun v : World => v = W.drew) (by kernel_rfl) rfl (fun hHeld => ?_)
    revert FD KD hHeld
    generalize W.drew = V
    intro FD KD hHeld
    have d4 : V.cell? ⟨b4, 0, none⟩ = some (.slice la vs.length lc) := by rw [FD.out.c4.cell]; rfl
    have d5 : V.cell? ⟨b5, 0, none⟩ = some (.slice fa (fmA (ls.drop k)).length fc) := by rw [FD.out.c5.cell]; rfl
    have d6 : V.cell? ⟨b6, 0, none⟩ = some (.int .i64 0) := by rw [FD.out.c6.cell]; rfl
    have f4 := FD.out.c4.free 0
    have f5 := FD.out.c5.free 0
    have f6 := FD.out.c6.free 0
    have i4 := set_id FD.out.c4 (i := 0) rfl
    have i5 := set_id FD.out.c5 (i := 0) rfl
    have i6 := set_id FD.out.c6 (i := 0) rfl
    refine takeH 0 33 (.slice la vs.length lc) hHeld rfl rfl (by kernel_rfl) (by kernel_rfl) (by kernel_rfl) (fun _ _ _ h => h) (Or.inl ⟨by rfl, fun w hw => by have hw' : w.cell? ⟨b4, 0, none⟩ = some (.slice la vs.length lc) := (fun hw => by rw [hw]; exact d4) hw; go_simp⟩) ?_
    simp only [Act.put, List.setIfInBounds_toArray, List.set_cons_zero, List.set_cons_succ]
    refine takeH 1 34 (.slice fa (fmA (ls.drop k)).length fc) hHeld rfl rfl (by kernel_rfl) (by kernel_rfl) (by kernel_rfl) (fun _ _ _ h => h) (Or.inl ⟨by rfl, fun w hw => by have hw' : w.cell? ⟨b5, 0, none⟩ = some (.slice fa (fmA (ls.drop k)).length fc) := (fun hw => by rw [hw]; exact d5) hw; go_simp⟩) ?_
    simp only [Act.put, List.setIfInBounds_toArray, List.set_cons_zero, List.set_cons_succ]
    refine wpAnyH_ready (rs := [2]) (by kernel_rfl) (by simp) (AllReadyH.cons rfl (fun K hK => ?_) AllReadyH.nil)
    rw [if_pos (by rfl)]
    go_simp
    refine hK.out _ _ (rfl) (fun hHeld => ?_)
    clear hK K
    try simp only [Act.put, List.setIfInBounds_toArray, List.set_cons_zero, List.set_cons_succ]
    refine wpAnyH_ready (rs := [3]) (by kernel_rfl) (by simp) (AllReadyH.cons rfl (fun K hK => ?_) AllReadyH.nil)
    rw [if_pos (by rfl)]
    go_simp
    refine hK.out _ _ (rfl) (fun hHeld => ?_)
    clear hK K
    try simp only [Act.put, List.setIfInBounds_toArray, List.set_cons_zero, List.set_cons_succ]
    refine wpAnyH_ready (rs := [4]) (by kernel_rfl) (by simp) (AllReadyH.cons rfl (fun K hK => ?_) AllReadyH.nil)
    rw [if_pos (by rfl)]
    go_simp
    refine hK.out _ _ (rfl) (fun hHeld => ?_)
    clear hK K
    try simp only [Act.put, List.setIfInBounds_toArray, List.set_cons_zero, List.set_cons_succ]
    refine wpAnyH_done (by kernel_rfl) ?_ _
    refine NoPanic.normal ?_
    clear hHeld d4 d5 d6 f4 f5 f6 i4 i5 i6
    go_wp2
    refine ⟨by simp, .inl ⟨_, _, rfl, run_takeDeferred KD.out, ?_⟩⟩
    have FE := FD.out.ck (CK.put (.deferred none) KD.out rfl) (FD.out.bel.trans (belowK_b (w := w) (Nat.le_refl _) _ D _ (.deferred none) (by omega) KD.out rfl rfl))
    have e4 : (V.putObj D (.deferred none)).cell? ⟨b4, 0, none⟩ = some (.slice la vs.length lc) := by rw [FE.c4.cell]; rfl
    have e5 : (V.putObj D (.deferred none)).cell? ⟨b5, 0, none⟩ = some (.slice fa (fmA (ls.drop k)).length fc) := by rw [FE.c5.cell]; rfl
    have e6 : (V.putObj D (.deferred none)).cell? ⟨b6, 0, none⟩ = some (.int .i64 0) := by rw [FE.c6.cell]; rfl
    have HFE := hide FE
    clear FE FD KD
    refine ⟨.tuple #[.slice la vs.length lc, .slice fa (fmA (ls.drop k)).length fc, .int .i64 0], by simp [results, Tryz.f48, go_sem, e4, e5, e6], ?_⟩
    exact ⟨_, _, rfl, vs, HFE.out.out hwB⟩

end Go.Proofs.YtninkkdbcgadpaaGreatDoor

/-
  The next generation's file in the old one's place: refusal, replace, Clear.
-/
namespace Go.Proofs.YtninkkdbcgadpaaGreatDoor
open Go.RowKit Go.Shelf
set_option linter.unusedVariables false
set_option linter.unusedSimpArgs false
set_option maxRecDepth 100000

/-- What Clear writes. -/
def clS (s : Nat) (rs : List Rw) (g : Nat) (b : List Int) : List Rw := rmS (apS s (crS rs (jN (g + 1))) (jN (g + 1)) b) (jN g)
theorem jN_nm {g : Nat} (h : g ≤ 2147483647) : nmB (jN g) = true := by
  have := jN_size h
  simp [nmB]
  omega
theorem play_cr {rs : List Rw} {n : ByteArray} (h : crE rs n = 0) : play (crS rs n) = upd (play rs) n (some []) := by
  simp only [crS, h, if_true]
  rw [play_snoc, do_cr]
theorem play_ap {s : Nat} (hs : 1 ≤ s) {rs : List Rw} {n : ByteArray} {b : List Int} (hb : isB b) (h : fE rs n = 0) : play (apS s rs n b) = upd (play rs) n (some (fl (play rs) n ++ b)) := by
  by_cases hb0 : b = []
  · subst hb0
    have e : apS s rs n [] = rs := by simp [apS]
    have hn : (play rs n).isSome = true := by
      unfold fE at h
      split at h
      · split at h
        · assumption
        · cases h
      · cases h
    rw [e, List.append_nil]
    funext x
    unfold upd
    split
    · rename_i hx
      subst hx
      cases hp : play rs x with
      | none => rw [hp] at hn; cases hn
      | some y => simp [fl, hp]
    · rfl
  · have hn : nmB n = true := by
      unfold fE at h
      split at h
      · assumption
      · cases h
    obtain ⟨xs, hxs⟩ : ∃ xs, play rs n = some xs := by
      unfold fE at h
      rw [if_pos hn] at h
      split at h
      · rename_i hh
        exact Option.isSome_iff_exists.1 hh
      · cases h
    have e : apS s rs n b = rs ++ expd s ⟨rAp n b, rs.length, (fl (play rs) n).length⟩ := by
      simp only [apS, h]
      rw [if_pos ⟨trivial, hb0⟩]
    rw [e, play_app]
    have := (expd_does hs (f := play rs) (e := ⟨rAp n b, rs.length, (fl (play rs) n).length⟩) (.inr (.inl ⟨n, b, xs, rfl, hn, hxs, hb0, hb⟩)) rfl).1
    rw [this]
    exact do_ap _ _ _
theorem play_rm {rs : List Rw} {n : ByteArray} (h : fE rs n = 0) : play (rmS rs n) = upd (play rs) n none := by
  simp only [rmS, h, if_true]
  rw [play_snoc, do_rm]
theorem play_cu {rs : List Rw} {n : ByteArray} {k : Int} (h : cuE rs n k = 0) : play (cuS rs n k) = upd (play rs) n (some ((fl (play rs) n).take k.toNat)) ∨ (cuS rs n k = rs ∧ ((fl (play rs) n).length : Int) ≤ k) := by
  unfold cuS
  split
  · left; rw [play_snoc, do_cu]
  · rename_i hh
    right
    refine ⟨rfl, ?_⟩
    have : ¬ k < ((fl (play rs) n).length : Int) := fun hk => hh ⟨h, hk⟩
    omega
theorem fE_some {rs : List Rw} {n : ByteArray} {xs : List Int} (hn : nmB n = true) (h : play rs n = some xs) : fE rs n = 0 := by simp [fE, hn, h]
theorem fE_none {rs : List Rw} {n : ByteArray} (hn : nmB n = true) (h : play rs n = none) : fE rs n = 121 := by simp [fE, hn, h]
theorem crE_none {rs : List Rw} {n : ByteArray} (hn : nmB n = true) (h : play rs n = none) : crE rs n = 0 := by simp [crE, hn, h]
/-- The generations of a disk, rising. -/
structure Gens (f : ByteArray → Option (List Int)) (gl : List Nat) : Prop where
  srt : gl.Pairwise (· < ·)
  mem : ∀ g, g ∈ gl ↔ (1 ≤ g ∧ g ≤ 2147483647 ∧ (f (jN g)).isSome = true)
theorem Gens.one {f : ByteArray → Option (List Int)} {g : Nat} (h : Gens f [g]) : 1 ≤ g ∧ g ≤ 2147483647 ∧ (∃ xs, f (jN g) = some xs) ∧ ∀ k, 1 ≤ k → k ≤ 2147483647 → k ≠ g → f (jN k) = none := by
  obtain ⟨h1, h2, h3⟩ := (h.mem g).1 (by simp)
  refine ⟨h1, h2, Option.isSome_iff_exists.1 h3, fun k k1 k2 hk => ?_⟩
  cases hf : f (jN k) with
  | none => rfl
  | some y =>
    have := (h.mem k).2 ⟨k1, k2, by rw [hf]; rfl⟩
    exact absurd (by simpa using this) hk
theorem Gens.mk1 {f : ByteArray → Option (List Int)} {g : Nat} (h1 : 1 ≤ g) (h2 : g ≤ 2147483647) {xs : List Int} (h3 : f (jN g) = some xs) (h4 : ∀ k, 1 ≤ k → k ≤ 2147483647 → k ≠ g → f (jN k) = none) : Gens f [g] :=
  ⟨List.pairwise_singleton _ _, fun k => ⟨fun hk => by
    obtain rfl : k = g := by simpa using hk
    exact ⟨h1, h2, by rw [h3]; rfl⟩, fun ⟨k1, k2, k3⟩ => by
    apply Classical.byContradiction
    intro hne
    rw [h4 k k1 k2 (fun e => hne (by simp [e]))] at k3
    cases k3⟩⟩
/-- A disk's state as a journal keeps it: what Clear's calls answer, and what they leave. -/
theorem clear_pure {s : Nat} (hs : 1 ≤ s) {rs : List Rw} {g : Nat} {b : List Int} (hb : isB b) (h : Gens (play rs) [g]) (hg : g < 2147483647) :
    crE rs (jN (g + 1)) = 0 ∧ fE rs (jN (g + 1)) = 121 ∧ fE rs (jN g) = 0 ∧ fE (crS rs (jN (g + 1))) (jN (g + 1)) = 0 ∧ fE (apS s (crS rs (jN (g + 1))) (jN (g + 1)) b) (jN g) = 0 ∧ play (clS s rs g b) = upd (upd (play rs) (jN (g + 1)) (some b)) (jN g) none ∧ Gens (play (clS s rs g b)) [g + 1] := by
  obtain ⟨h1, h2, ⟨xs, h3⟩, h4⟩ := h.one
  have n0 := jN_nm (g := g) (by omega)
  have n1 := jN_nm (g := g + 1) (by omega)
  have hne : jN g ≠ jN (g + 1) := jN_ne (by omega)
  have e1 := h4 (g + 1) (by omega) (by omega) (by omega)
  have c1 := crE_none n1 e1
  have p1 := play_cr c1
  have f1 : play (crS rs (jN (g + 1))) (jN (g + 1)) = some [] := by rw [p1, upd_same]
  have f1' := fE_some n1 f1
  have p2 := play_ap hs hb f1'
  have l1 : fl (play (crS rs (jN (g + 1)))) (jN (g + 1)) = [] := by simp [fl, f1]
  rw [l1, p1, upd_upd, List.nil_append] at p2
  have f2 : play (apS s (crS rs (jN (g + 1))) (jN (g + 1)) b) (jN g) = some xs := by rw [p2, upd_ne _ _ hne, h3]
  have f2' := fE_some n0 f2
  have p3 := play_rm f2'
  rw [p2] at p3
  refine ⟨c1, fE_none n1 e1, fE_some n0 h3, f1', f2', p3, ?_⟩
  unfold clS
  rw [p3]
  refine Gens.mk1 (by omega) (by omega) (xs := b) (by rw [upd_ne _ _ hne.symm, upd_same]) (fun k k1 k2 hk => ?_)
  by_cases hkg : k = g
  · subst hkg; rw [upd_same]
  · rw [upd_ne _ _ (jN_ne hkg), upd_ne _ _ (jN_ne hk), h4 k k1 k2 hkg]
theorem wt_clS {s : Nat} (hs : 1 ≤ s) (rs : List Rw) (g : Nat) (b : List Int) : wt (clS s rs g b) ≤ wt rs + 2 * b.length + 3 := by
  have h1 : wt (crS rs (jN (g + 1))) ≤ wt rs + 1 := by
    unfold crS
    split
    · rw [wt_app]; simp [wt, rCr]
    · omega
  have h2 : wt (apS s (crS rs (jN (g + 1))) (jN (g + 1)) b) ≤ wt (crS rs (jN (g + 1))) + 2 * b.length + 1 := by
    unfold apS
    split
    · rw [wt_app]
      have := expd_wt hs ⟨rAp (jN (g + 1)) b, (crS rs (jN (g + 1))).length, (fl (play (crS rs (jN (g + 1)))) (jN (g + 1))).length⟩
      have e : (rAp (jN (g + 1)) b).b = b := rfl
      simp only [e] at this
      omega
    · omega
  have h3 : ∀ r n, wt (rmS r n) ≤ wt r + 1 := fun r n => by
    unfold rmS
    split
    · rw [wt_app]; simp [wt, rRm]
    · omega
  have := h3 (apS s (crS rs (jN (g + 1))) (jN (g + 1)) b) (jN g)
  unfold clS
  omega

end Go.Proofs.YtninkkdbcgadpaaGreatDoor

/-
  Numbers as cells.
-/
namespace Go.Proofs.YtninkkdbcgadpaaGreatDoor
open Go.RowKit
set_option linter.unusedVariables false

/-- Numbers as cells. -/
def nI (l : List Nat) : List Value := l.map fun g : Nat => .int .i64 (g : Int)
theorem nI_app (a b : List Nat) : nI (a ++ b) = nI a ++ nI b := by simp [nI]
theorem nI_length (a : List Nat) : (nI a).length = a.length := by simp [nI]

end Go.Proofs.YtninkkdbcgadpaaGreatDoor

/-
  Numbers sorted by the library; digits that may be a generation's.
-/
namespace Go.Proofs.YtninkkdbcgadpaaGreatDoor
open Go.RowKit Go.Shelf Go.Sort
set_option linter.unusedVariables false
set_option linter.unusedSimpArgs false
set_option maxRecDepth 100000

/-- A list that is rising, of the same numbers. -/
structure Rise (a b : List Nat) : Prop where
  perm : b.Perm a
  srt : b.Pairwise (· ≤ ·)
theorem Rise.strict {a b : List Nat} (h : Rise a b) (hn : a.Nodup) : b.Pairwise (· < ·) := by
  have hb : b.Nodup := h.perm.nodup_iff.2 hn
  have := List.Pairwise.and h.srt hb
  exact this.imp (fun {x y} ⟨h1, h2⟩ => Nat.lt_of_le_of_ne h1 h2)
theorem rise_ex (a : List Nat) : ∃ b : List Nat, Rise a b ∧ ((a.map fun g : Nat => (g : Int)).mergeSort fun x y => decide (x ≤ y)) = b.map fun g : Nat => (g : Int) := by
  obtain ⟨zs, hzs⟩ : ∃ zs, (a.map fun g : Nat => (g : Int)).mergeSort (fun x y => decide (x ≤ y)) = zs := ⟨_, rfl⟩
  have hp : zs.Perm (a.map fun g : Nat => (g : Int)) := by rw [← hzs]; exact List.mergeSort_perm _ _
  have hs : zs.Pairwise (fun x y => decide (x ≤ y) = true) := by
    rw [← hzs]
    exact List.pairwise_mergeSort (fun a b c h1 h2 => by simp at *; omega) (fun a b => by simp; omega) _
  have hnn : ∀ z ∈ zs, 0 ≤ z := fun z hz => by
    obtain ⟨g, _, rfl⟩ := List.mem_map.1 (hp.mem_iff.1 hz)
    omega
  have e : zs = (zs.map Int.toNat).map fun g : Nat => (g : Int) := by
    rw [List.map_map]
    conv => lhs; rw [← List.map_id zs]
    apply List.map_congr_left
    intro z hz
    have := hnn z hz
    show z = ((z.toNat : Nat) : Int)
    omega
  refine ⟨zs.map Int.toNat, ⟨?_, ?_⟩, by rw [hzs]; exact e⟩
  · have h1 := hp.map Int.toNat
    rw [List.map_map] at h1
    refine h1.trans (List.Perm.of_eq ?_)
    conv => rhs; rw [← List.map_id a]
    apply List.map_congr_left
    intro g _
    show ((g : Int)).toNat = g
    omega
  · rw [List.pairwise_map]
    refine hs.imp (fun {x y} h => ?_)
    simp at h
    omega
theorem sortI_any (v : Value) (fs : List Nat) (B : Nat) (w : World) (h : OwnV 3 w B v (nI fs)) (hl : fs.length ≤ 1099511627776) :
    Calls Tryz.prog 65 #[v] w fun e w' => e = .returned (.tuple #[]) ∧ ∃ gs, Rise fs gs ∧ OwnV 3 w' B v (nI gs) ∧ w.grownBy w' v.ownBlock := by
  obtain ⟨h0, h1, h2⟩ := h
  rcases h2 with ⟨rfl, h3⟩ | ⟨g, cap, cur, rfl, hg, hh, r1, r2, r3, r4⟩
  · have hfs : fs = [] := by
      have : (nI fs).length = 0 := h3
      rw [nI_length] at this
      exact List.eq_nil_of_length_eq_zero this
    subst hfs
    refine (AnyM.slices_Sort_int_none Tryz.lSortI none 0 w).mono ?_
    rintro e w' ⟨rfl, rfl⟩
    exact ⟨rfl, [], ⟨List.Perm.refl _, List.Pairwise.nil⟩, OwnV.nil _ _ _, World.grownBy.refl _ _⟩
  · have hlen : (nI fs).length = (fs.map fun g : Nat => (g : Int)).length := by simp [nI]
    have henc : nI fs = (fs.map fun g : Nat => (g : Int)).map (Value.int .i64) := by simp [nI]
    rw [Nat.mul_one, henc, List.length_map] at r4
    rw [hlen] at r1 ⊢
    obtain ⟨gs, hr, hm⟩ := rise_ex fs
    have hH := holds_of_blockI hh r4
    refine (AnyM.slices_Sort_int Tryz.lSortI g 0 cap (fs.map fun g : Nat => (g : Int)) w hH (Array.getElem?_eq_some_iff.1 hh).1 (by rw [List.length_map]; omega)).mono ?_
    rintro e w' ⟨rfl, n, os, rfl⟩
    rw [hm]
    have hgl : (gs.map fun g : Nat => (g : Int)).length = (fs.map fun g : Nat => (g : Int)).length := by rw [List.length_map, List.length_map]; exact hr.perm.length_eq
    refine ⟨rfl, gs, hr, ⟨?_, ?_⟩, grownBy_sortedI _⟩
    · intro x hx
      simp [nI] at hx
      obtain ⟨a, _, rfl⟩ := hx
      rfl
    · have := ownsRow_sortedI (n := n) (os := os) hgl hg hh r1 r2 r3
      rw [List.length_map] at this
      have e2 : (nI gs).length = fs.length := by rw [nI_length]; exact hr.perm.length_eq
      have e3 : nI gs = (gs.map fun g : Nat => (g : Int)).map (Value.int .i64) := by simp [nI]
      rw [e2, e3, List.length_map]
      exact this
/-- Six digits, or more without a nought ahead, as the program looks at them. -/
theorem padded_any (l : List UInt8) (w : World) : Calls Tryz.prog 64 #[.string (bA l)] w fun e w' => ∃ p : Bool, e = .returned (.bool p) ∧ (p = true ↔ jPad l) ∧ w' = w := by
  have hsz : (bA l).size = l.length := bA_size l
  by_cases h6 : l.length = 6
  · have h1 : (((bA l).size : Int) == 6) = true := by rw [hsz, h6]; rfl
    have HP : Hid (jPad l) := hide (.inl h6)
    clear hsz h6
    go_enter Tryz.func64, Tryz.ntmps64
    go_wp2
    go_ret
    exact ⟨true, rfl, ⟨fun _ => HP.out, fun _ => rfl⟩, rfl⟩
  · have h1 : (((bA l).size : Int) == 6) = false := by rw [hsz, beq_eq_false_iff_ne]; omega
    by_cases h7 : 6 < l.length
    · have h2 : (6 : Int) < ((bA l).size : Int) := by omega
      have h0 : 0 < (bA l).size := by omega
      have h0' : (0 : Int) < ((bA l).size : Int) := by omega
      obtain ⟨a, t, rfl⟩ : ∃ a t, l = a :: t := by
        cases l with
        | nil => simp at h7
        | cons a t => exact ⟨a, t, rfl⟩
      have hget : (bA (a :: t))[0]'h0 = a := rfl
      have HP : Hid (jPad (a :: t) ↔ a ≠ 48) := hide ⟨fun hp => by
        rcases hp with hp | hp
        · exact absurd hp h6
        · simpa using hp.2, fun ha => .inr ⟨h7, by simpa using ha⟩⟩
      obtain ⟨p, HPP⟩ : ∃ p : Bool, Hid ((!((a.toNat : Int) == 48)) = p) := ⟨_, hide rfl⟩
      have hne : (((((bA (a :: t))[0]'h0).toNat : Nat) : Int) != 48) = p := by rw [hget, ← HPP.out]; rfl
      have HPQ : Hid (p = true ↔ a ≠ 48) := hide (by
        rw [← HPP.out]
        simp only [Bool.not_eq_true', beq_eq_false_iff_ne, ne_eq]
        constructor
        · intro h e
          subst e
          exact h rfl
        · intro h e
          exact h (UInt8.toNat_inj.1 (by
            have : a.toNat = 48 := by omega
            rw [this]; rfl)))
      clear hsz h6 h7 hget HPP
      go_enter Tryz.func64, Tryz.ntmps64
      go_wp2
      go_ret
      exact ⟨p, rfl, HPQ.out.trans HP.out.symm, rfl⟩
    · have h2 : ¬ (6 : Int) < ((bA l).size : Int) := by omega
      have HP : Hid (¬ jPad l) := hide (fun hp => by
        rcases hp with hp | hp
        · exact h6 hp
        · exact h7 hp.1)
      clear hsz h6 h7
      go_enter Tryz.func64, Tryz.ntmps64
      go_wp2
      go_ret
      exact .inl ⟨rfl, HP.out, rfl⟩
theorem cutp_any (n : ByteArray) (w : World) : Calls Tryz.prog 63 #[.string n, .string ⟨#[106, 111, 117, 114, 110, 97, 108, 45]⟩] w fun e w' => e = .returned (.tuple #[.string (bA (Lib.trimPrefix (strL n) jPre)), .bool (Lib.hasPrefix (strL n) jPre)]) ∧ w' = w := by
  refine (Tryz.strings_CutPrefix n ⟨#[106, 111, 117, 114, 110, 97, 108, 45]⟩ w).mono ?_
  rintro e w' ⟨rfl, rfl⟩
  exact ⟨rfl, rfl⟩

end Go.Proofs.YtninkkdbcgadpaaGreatDoor

/-
  The generations of a disk: the walk.
-/
namespace Go.Proofs.YtninkkdbcgadpaaGreatDoor
open Go.RowKit Go.Shelf
set_option linter.unusedVariables false
set_option linter.unusedSimpArgs false
set_option maxRecDepth 100000

theorem fl_upd {f : ByteArray → Option (List Int)} {l : List (ByteArray × List Int)} (h : FL f l) (n : ByteArray) (v : Option (List Int)) : ∃ l', FL (upd f n v) l' := by
  obtain ⟨A, B, rfl, _, hA, h2⟩ := h.split n
  rcases h2 with ⟨hn, hB⟩ | ⟨xs, B', hn, rfl, hB⟩
  · cases v with
    | none =>
      have e : upd f n none = f := by rw [← hn]; exact upd_self f n
      exact ⟨_, by rw [e]; exact h⟩
    | some ys => exact ⟨_, h.put hA hB ys⟩
  · cases v with
    | none => exact ⟨_, h.turn hA hB⟩
    | some ys => exact ⟨_, h.set hA hB ys⟩
theorem fl_play (rs : List Rw) : ∃ l, FL (play rs) l := by
  have key : ∀ (rs : List Rw) (f : ByteArray → Option (List Int)), (∃ l, FL f l) → ∃ l, FL (rs.foldl doR f) l := by
    intro rs
    induction rs with
    | nil => exact fun f h => h
    | cons r t ih =>
      intro f ⟨l, hl⟩
      refine ih (doR f r) ?_
      unfold doR
      split
      · exact fl_upd hl _ _
      split
      · exact fl_upd hl _ _
      split
      · exact fl_upd hl _ _
      split
      · exact fl_upd hl _ _
      split
      · obtain ⟨l1, h1⟩ := fl_upd hl r.t (some (fl f r.n))
        exact fl_upd h1 _ _
      · exact ⟨l, hl⟩
  exact key rs _ ⟨[], FL.nil⟩

theorem val_nm13 {s : Nat} : ∀ (rs : List Rw) (f : ByteArray → Option (List Int)), Val s f rs → (∀ n xs, f n = some xs → nmB n = true) → ∀ n xs, (rs.foldl doR f) n = some xs → nmB n = true
  | [], f, _, h => h
  | r :: t, f, hv, h => by
    refine val_nm13 t (doR f r) hv.2 (fun n xs hn => ?_)
    have key : ∀ (g : ByteArray → Option (List Int)) (m : ByteArray) (u : Option (List Int)), (∀ n xs, g n = some xs → nmB n = true) → (u = none ∨ nmB m = true) → ∀ n xs, upd g m u n = some xs → nmB n = true := by
      intro g m u h1 h2 n xs hn
      unfold upd at hn
      split at hn
      · rename_i e
        rcases h2 with h2 | h2
        · rw [h2] at hn; cases hn
        · rw [e]; exact h2
      · exact h1 n xs hn
    rcases hv.1.1 with ⟨m, rfl, hm, _⟩ | ⟨m, b, ys, rfl, hm, _⟩ | ⟨m, k, ys, rfl, hm, _⟩ | ⟨m, ys, rfl, hm, _⟩ | ⟨m, u, ys, rfl, hm, hu, _⟩
    · rw [do_cr] at hn; exact key _ _ _ h (.inr hm) n xs hn
    · rw [do_ap] at hn; exact key _ _ _ h (.inr hm) n xs hn
    · rw [do_cu] at hn; exact key _ _ _ h (.inr hm) n xs hn
    · rw [do_rm] at hn; exact key _ _ _ h (.inr hm) n xs hn
    · rw [do_rn] at hn; exact key _ _ _ (key _ _ _ h (.inr hu)) (.inr hm) n xs hn
theorem DkAt.val13 {w : World} {d s : Nat} {rs : List Rw} {D : Dm} (h : DkAt w d s rs D) : Val s (fun _ => none) rs := by
  have := h.rok.val h.s1 (D.es.map (·.1)).length (Nat.le_refl _)
  rwa [List.take_length, h.raw] at this
theorem DkAt.nm {w : World} {d s : Nat} {rs : List Rw} {D : Dm} (h : DkAt w d s rs D) {n : ByteArray} {xs : List Int} (hn : play rs n = some xs) : nmB n = true := val_nm13 rs _ h.val13 (fun n xs h => by cases h) n xs hn
section
variable {F : Fence} {n : Nat} {dst : Option Tmp} {ty : TypeId} {pos : String} {aft : Array Edge} {gd : Option (Nat × Bool)} {ops : Array Oper} {rest : List Oper} {a : Act} {w : World} {Q : Exit → Act → World → Prop}
/-- []byte of a string, inside a round. -/
theorem istep_toB (hF : WideF F) {x : Operand} {s : ByteArray} (hw : Region.wanted ⟨dst, .convert 9 39 x, ty, pos, aft, gd⟩ (yielded ops a.tmps) = true) (hx : a.eval x = .string s)
    (h : ∀ w1 g cap, (∀ j, j < s.size → w1.cell? ⟨g, j, none⟩ = some (.int .u8 (s.data.toList.getD j 0).toNat)) → w.heap.size ≤ g → Below w.heap.size w w1 → wpListIn F n Tryz.prog ops Q rest (a.put dst (.slice (some ⟨g, 0, none⟩) s.size cap)) w1) :
    wpListIn F n Tryz.prog ops Q (⟨dst, .convert 9 39 x, ty, pos, aft, gd⟩ :: rest) a w :=
  istep_run hF (fun c => by simp) hw (.slice (some ⟨w.heap.size, 0, none⟩) s.size (grownCap w s.size 0 5)) (Lib.bytesWorld w 5 s) (by
    have := Lib.run_convert_string_bytes (P := Tryz.prog) w 9 39 5 s undS undBs undB
    simp [execOp, hx, this, Result.andThen]) (h _ _ _ (fun j hj => Lib.bytesWorld_cell w 5 s j hj) (Nat.le_refl _) (Lib.bytesWorld_below _ _ _))
end
/-- What stands in generations: the numbers found so far. -/
structure GI (w W : World) (B b3 : Nat) (fv : Value) (fs : List Nat) (pre : List ByteArray) : Prop where
  c3 : Blk W b3 77 [fv]
  row : OwnV 3 W B fv (nI fs)
  l3 : w.heap.size ≤ b3 ∧ b3 < B
  bel : Below w.heap.size w W
  sz : B ≤ W.heap.size
  nd : fs.Nodup
  len : fs.length ≤ pre.length
  mem : ∀ g, g ∈ fs ↔ (1 ≤ g ∧ g ≤ 2147483647 ∧ jN g ∈ pre)
section
variable {w W W' : World} {B b3 : Nat} {fv : Value} {fs : List Nat} {pre : List ByteArray} {x : ByteArray}
theorem GI.ck (h : GI w W B b3 fv fs pre) (hk : CK W W') (hb : Below w.heap.size w W') : GI w W' B b3 fv fs pre := ⟨h.c3.ck hk, h.row.ck hk, h.l3, hb, Nat.le_trans h.sz hk.size, h.nd, h.len, h.mem⟩
theorem GI.on (h : GI w W B b3 fv fs pre) (hb : Below W.heap.size W W') : GI w W' B b3 fv fs pre := h.ck (CK.below hb) (on_below h.bel hb)
theorem GI.skip (h : GI w W B b3 fv fs pre) (hx : GnOf x 0) : GI w W B b3 fv fs (pre ++ [x]) := by
  refine ⟨h.c3, h.row, h.l3, h.bel, h.sz, h.nd, by have := h.len; simp; omega, fun g => (h.mem g).trans ⟨fun ⟨h1, h2, h3⟩ => ⟨h1, h2, by simp [h3]⟩, fun ⟨h1, h2, h3⟩ => ⟨h1, h2, ?_⟩⟩⟩
  rcases List.mem_append.1 h3 with h3 | h3
  · exact h3
  · rcases hx with ⟨h4, _⟩ | ⟨_, h4⟩
    · omega
    · simp at h3
      exact absurd h3.symm (h4 g h1 h2)
theorem GI.push {w3 w4 w5 : World} {g m cap : Nat} (h : GI w W B b3 fv fs pre) (hx : GnOf x m) (hm : 0 < m) (hnew : x ∉ pre) (h3 : Below W.heap.size W w3) (hrow : OwnV 3 w4 B (.slice (some ⟨g, 0, none⟩) ((nI fs).length + 1) cap) (nI fs ++ [.int .i64 (m : Int)])) (hgr : w3.grownBy w4 fv.ownBlock)
    (h5 : w5 = w4.setCell ⟨b3, 0, none⟩ (.slice (some ⟨g, 0, none⟩) ((nI fs).length + 1) cap)) : GI w w5 B b3 (.slice (some ⟨g, 0, none⟩) ((nI fs).length + 1) cap) (fs ++ [m]) (pre ++ [x]) ∧ KS W w5 ∧ KeepsOthers W w5 := by
  have H3 := h.on h3
  have hbut : But b3 w4 w5 := by rw [h5]; exact But.setCell w4 b3 0 _
  have hfB : ∀ k, fv.ownBlock = some k → B ≤ k := fun k hk => (H3.row.lt k hk).1
  have l3 := h.l3
  have hs3 := h3.size
  have c4 : Blk w4 b3 77 [fv] := H3.c3.same (hgr.block b3 H3.c3.lt (fun e => by have := hfB b3 e.symm; omega))
  have hx1 : 1 ≤ m ∧ m ≤ 2147483647 ∧ x = jN m := by
    rcases hx with hx | ⟨hx, _⟩
    · exact hx
    · omega
  have hmf : m ∉ fs := fun hf => by
    have := (h.mem m).1 hf
    exact hnew (by rw [hx1.2.2]; exact this.2.2)
  refine ⟨⟨?_, ?_, l3, ?_, ?_, ?_, ?_, ?_⟩, ?_, ?_⟩
  · rw [h5]; exact c4.set 0 _
  · have hgB : B ≤ g := (hrow.lt g rfl).1
    have := hrow.same (w' := w5) (fun k hk => by
      have ek : g = k := by cases hk; rfl
      subst ek
      exact hbut.block g (by omega))
    rw [nI_app]
    exact this
  · have b4 : Below w.heap.size w w4 := H3.bel.grown hgr H3.bel.size (fun r e => by have := hfB r e; omega)
    exact b4.trans (hbut.below l3.1)
  · rw [hbut.size]
    have := hgr.size
    have := h.sz
    omega
  · rw [List.nodup_append]
    refine ⟨h.nd, by simp, fun a ha b hb => ?_⟩
    simp at hb
    rw [hb]
    exact fun e => hmf (by rw [← e]; exact ha)
  · have := h.len; simp; omega
  · intro q
    rw [List.mem_append]
    constructor
    · rintro (hq | hq)
      · obtain ⟨h1, h2, h3⟩ := (h.mem q).1 hq
        exact ⟨h1, h2, by simp [h3]⟩
      · simp at hq
        subst hq
        exact ⟨hx1.1, hx1.2.1, by rw [hx1.2.2]; simp⟩
    · rintro ⟨h1, h2, h3⟩
      rcases List.mem_append.1 h3 with h3 | h3
      · exact .inl ((h.mem q).2 ⟨h1, h2, h3⟩)
      · right
        simp at h3
        rw [hx1.2.2] at h3
        simp [jN_inj h3]
  · refine (KS.below h3).trans ((KS.grown hgr (fun g e => ?_)).trans (KS.but hbut c4 (by decide)))
    obtain ⟨cs, hc⟩ := H3.row.blk e
    exact ⟨_, cs, hc, by decide⟩
  · refine (keepsO_below h3).trans ((keepsO_grown hgr (fun g e => ?_)).trans (keepsO_but hbut c4))
    obtain ⟨cs, hc⟩ := H3.row.blk e
    exact ⟨_, cs, hc⟩
end
theorem rl_own (ls : List (ByteArray × List Int)) (B : Nat) (pre : List ByteArray) (x : ByteArray) : OwnFrom B (fun (_ : Unit) W => RL ls pre x W) := fun _ W W' row h hg hr => h
theorem rl_new {f : ByteArray → Option (List Int)} {ls : List (ByteArray × List Int)} (hl : FL f ls) {pre : List ByteArray} {x : ByteArray} {W : World} (h : RL ls pre x W) : x ∉ pre := by
  obtain ⟨h1, ys, h2⟩ := h
  intro hx
  rw [h1] at hx
  obtain ⟨y, hy, rfl⟩ := List.mem_map.1 hx
  obtain ⟨i, hi, he⟩ := List.mem_iff_getElem.1 hy
  rw [List.length_take] at hi
  obtain ⟨hp, h2⟩ := List.getElem?_eq_some_iff.1 h2
  have hs := List.pairwise_iff_getElem.1 hl.srt i pre.length (by omega) hp (by omega)
  rw [List.getElem_take] at he
  rw [he, h2] at hs
  exact blt_ne hs rfl

end Go.Proofs.YtninkkdbcgadpaaGreatDoor
