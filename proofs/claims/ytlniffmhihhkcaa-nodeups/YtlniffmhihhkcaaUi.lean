/-
  The iterator of the way up.
-/
import Derived.Test.YtlniffmhihhkcaaUk
namespace Go.Proofs.Ytlniffmhihhkcaa
open Go.RowKit Go.Shelf
set_option linter.unusedVariables false

/-- One block that the loop's body turns. -/
def M1 (g : Nat) : World → Nat → Prop := fun A k => k = g ∧ k < A.heap.size
theorem km_blk {g x : Nat} {t : TypeId} {cs : List Value} {A B : World} (h : KM (M1 g) A B) (hb : Blk A x t cs) (hne : x ≠ g) : Blk B x t cs := h.keep x _ hb rfl (fun hm => hne hm.1)
/-- How many levels are left. -/
def lvLeft (N : Nat) (p : Value) (wr : World) : Nat := match p with
  | .pointer (some a) => N + 1 - (intOf ((wr.cell? a).getD undef)).toNat
  | _ => 0
theorem lvLeft_at {N k g : Nat} {x : Int} {wr : World} (h : Blk wr g 23 (c2 (k : Int) x)) : lvLeft N (.pointer (some ⟨g, 0, none⟩)) wr = N + 1 - k := by
  show N + 1 - (intOf ((wr.cell? ⟨g, 0, none⟩).getD undef)).toNat = N + 1 - k
  rw [h.two.1]
  simp [intOf]
/-- What the iterator reads. -/
structure UK (g b1 b2 : Nat) (leaf level : Int) (W : World) : Prop where
  c1 : Blk W b1 3 [.int .i64 leaf]
  c2 : Blk W b2 3 [.int .i64 level]
  n1 : b1 ≠ g
  n2 : b2 ≠ g
theorem UK.on {g b1 b2 : Nat} {leaf level : Int} {W W' : World} (h : UK g b1 b2 leaf level W) (hb : Below W.heap.size W W') : UK g b1 b2 leaf level W' := ⟨h.c1.on hb, h.c2.on hb, h.n1, h.n2⟩
theorem UK.km {g b1 b2 : Nat} {leaf level : Int} {W W' : World} (h : UK g b1 b2 leaf level W) (hk : KM (M1 g) W W') : UK g b1 b2 leaf level W' := ⟨km_blk hk h.c1 h.n1, km_blk hk h.c2 h.n2, h.n1, h.n2⟩

set_option maxRecDepth 100000 in
set_option maxHeartbeats 1000000 in
theorem up_stops_out (g b1 b2 : Nat) (leaf level : Int) (w : World) (hg : g < w.heap.size) (hu : UK g b1 b2 leaf level w) (hl : leaf < 0 ∨ 281474976710656 ≤ leaf) :
    SeqStopsK Fence.wide 2 Try.prog 31 #[.pointer (some ⟨b1, 0, none⟩), .pointer (some ⟨b2, 0, none⟩)] (fun i : Nat => #[Value.agg (qC (upG leaf.toNat i)).toArray]) (KM (M1 g)) (fun xs => xs = List.range 0) (fun pre => pre <+: List.range 0) 0 w := by
  have HNV : Hid (¬ V 0 leaf) := hide (fun h => by
    obtain ⟨_, _, h3, h4⟩ := h
    simp at h4
    omega)
  intro l J Jx W hW hJ hJx hY h0
  have U0 := hide (hu.on hW)
  have hnW : g < W.heap.size := Nat.lt_of_lt_of_le hg hW.size
  have cl : W.cell? ⟨b1, 0, none⟩ = some (.int .i64 leaf) := by rw [U0.out.c1.cell]; rfl
  have HJ0 := hide h0
  clear hu hW h0
  refine callsIn_of_wp Try.func31 rfl trivial ?_ rfl
  simp only [Try.ntmps31, List.size_toArray, List.length_cons, List.length_nil, Nat.reduceAdd, Nat.reduceSub, Array.replicate_succ, Array.replicate_zero, List.push_toArray, List.append_toArray, List.nil_append, List.cons_append]
  gi_wp2_with (refine istep_alloc .wide zN rfl ?_)
  intro W2 g4 hg4 hle4 hb4
  gi_wp2_with (refine istep_storeA .wide wN rfl rfl rfl hg4 rfl (One.c2 0 leaf) rfl ?_)
  intro W3 hg43 hbut
  have hb3 : Below W.heap.size W W3 := hb4.trans (hbut.below hle4)
  have G4 : Hid (Blk W3 g4 23 (c2 0 leaf)) := hide hg43
  have U3 := hide (U0.out.on hb3)
  have HJ3 := hide (hJ _ W W3 none HJ0.out (grown_none hb3) (fun r e => by cases e))
  have hne4 : g4 ≠ g := by omega
  have hn3 : g < W3.heap.size := Nat.lt_of_lt_of_le hnW hb3.size
  clear hg4 hb4 hbut hg43 hb3 U0 HJ0 cl
  gi_wp2_with fail
  simp only [Act.put]
  gi_loopw [4] (fun p wr => p = .pointer (some ⟨g4, 0, none⟩) ∧ Hid (J [] wr) ∧ Hid (Blk wr g4 23 (c2 0 leaf))) (fun _ _ => 0)
  case atStart => exact ⟨rfl, HJ3, G4⟩
  case round =>
    obtain ⟨rfl, HJ, GG⟩ := hrel
    obtain ⟨c0, c1⟩ := GG.out.two
    gi_wp2_with fail
    refine ⟨trivial, (callsIn_wide.2 (valid_no 0 leaf _ HNV.out)).mono ?_⟩
    rintro r w5 ⟨rfl, hb5⟩
    have HJ5 := hide (hJ _ wr w5 none HJ.out (grown_none hb5) (fun r e => by cases e))
    clear hb5 HJ
    gi_wp2
    go_end0
    exact ⟨⟨_, rfl⟩, .inl ⟨[], rfl, HJ5.out⟩⟩

set_option maxRecDepth 100000 in
set_option maxHeartbeats 1000000 in
theorem up_stops_in (g b1 b2 leaf : Nat) (level : Int) (w : World) (hg : g < w.heap.size) (hu : UK g b1 b2 (leaf : Int) level w) (hl : leaf < 281474976710656) (hl0 : -9223372036854775808 ≤ level) (hl1 : level ≤ 9223372036854775807) :
    SeqStopsK Fence.wide 2 Try.prog 31 #[.pointer (some ⟨b1, 0, none⟩), .pointer (some ⟨b2, 0, none⟩)] (fun i : Nat => #[Value.agg (qC (upG leaf i)).toArray]) (KM (M1 g)) (fun xs => xs = List.range (cnt (leaf : Int) level)) (fun pre => pre <+: List.range (cnt (leaf : Int) level)) (cnt (leaf : Int) level) w := by
  obtain ⟨N, HN⟩ : ∃ N, Hid (cnt (leaf : Int) level = N) := ⟨_, hide rfl⟩
  have hN : N ≤ 49 := by rw [← HN.out]; exact cnt_le _ _
  rw [HN.out]
  intro l J Jx W hW hJ hJx hY h0
  have U0 := hide (hu.on hW)
  have hnW : g < W.heap.size := Nat.lt_of_lt_of_le hg hW.size
  have cl : W.cell? ⟨b1, 0, none⟩ = some (.int .i64 (leaf : Int)) := by rw [U0.out.c1.cell]; rfl
  have HJ0 := hide h0
  clear hu hW h0
  refine callsIn_of_wp Try.func31 rfl trivial ?_ rfl
  simp only [Try.ntmps31, List.size_toArray, List.length_cons, List.length_nil, Nat.reduceAdd, Nat.reduceSub, Array.replicate_succ, Array.replicate_zero, List.push_toArray, List.append_toArray, List.nil_append, List.cons_append]
  gi_wp2_with (refine istep_alloc .wide zN rfl ?_)
  intro W2 g4 hg4 hle4 hb4
  gi_wp2_with (refine istep_storeA .wide wN rfl rfl rfl hg4 rfl (One.c2 0 (leaf : Int)) rfl ?_)
  intro W3 hg43 hbut
  have hb3 : Below W.heap.size W W3 := hb4.trans (hbut.below hle4)
  have G4 : Hid (Blk W3 g4 23 (c2 0 (leaf : Int))) := hide hg43
  have U3 := hide (U0.out.on hb3)
  have HJ3 := hide (hJ _ W W3 none HJ0.out (grown_none hb3) (fun r e => by cases e))
  have hne4 : g4 ≠ g := by omega
  have hn3 : g < W3.heap.size := Nat.lt_of_lt_of_le hnW hb3.size
  clear hg4 hb4 hbut hg43 hb3 U0 HJ0 cl
  have G3 : Hid (Blk W3 g4 23 (qC (upG leaf 0))) := hide (by unfold upG; rw [Nat.pow_zero, Nat.div_one]; exact G4.out)
  clear G4
  gi_wp2_with fail
  simp only [Act.put]
  gi_loopw [4] (fun p wr => ∃ k gn : Nat, p = .pointer (some ⟨gn, 0, none⟩) ∧ k ≤ N ∧ Hid (J (List.range k) wr) ∧ Hid (Blk wr gn 23 (qC (upG leaf k))) ∧ Hid (UK g b1 b2 (leaf : Int) level wr) ∧ gn ≠ g ∧ g < wr.heap.size) (fun p wr => lvLeft N p wr)
  case atStart => exact ⟨0, g4, rfl, Nat.zero_le _, HJ3, G3, U3, hne4, hn3⟩
  case round =>
    obtain ⟨k, gn, rfl, hk, HJ, GG, UU, hne, hnr⟩ := hrel
    clear HJ3 G3 U3 hne4 hn3 hnW
    obtain ⟨X, HX⟩ : ∃ X, Hid (leaf / 2 ^ k = X) := ⟨_, hide rfl⟩
    have GX : Hid (Blk wr gn 23 (c2 (k : Int) (X : Int))) := hide (by have := GG.out; unfold upG at this; rw [HX.out] at this; exact this)
    have HM := hide (lvLeft_at (N := N) GX.out)
    clear GG
    obtain ⟨c0, c1⟩ := GX.out.two
    have cv : wr.cell? ⟨b2, 0, none⟩ = some (.int .i64 level) := by rw [UU.out.c2.cell]; rfl
    by_cases hlt : k < N
    · obtain ⟨_, _, p1, p2⟩ := cnt_pos (leaf := (leaf : Int)) (level := level) (by rw [HN.out]; exact hlt)
      have HV := hide (fun v => valid_yes k X v (by omega) (by rw [← HX.out]; exact up_valid leaf k hl p2))
      gi_wp2_with fail
      refine ⟨trivial, (callsIn_wide.2 (HV.out _)).mono ?_⟩
      rintro r w5 ⟨rfl, hb5⟩
      have HJ5 := hide (hJ _ wr w5 none HJ.out (grown_none hb5) (fun r e => by cases e))
      have G5 := hide (GX.out.on hb5)
      have U5 := hide (UU.out.on hb5)
      have hn5 : g < w5.heap.size := Nat.lt_of_lt_of_le hnr hb5.size
      clear hb5 HJ GX UU c0 c1 cv
      obtain ⟨c0, c1⟩ := G5.out.two
      have cv : w5.cell? ⟨b2, 0, none⟩ = some (.int .i64 level) := by rw [U5.out.c2.cell]; rfl
      obtain ⟨fn, tmps, assign, body, hy, hR⟩ := hY (List.range k) k w5 HJ5.out (by rw [List.length_range]; exact hlt)
      simp only [upG, HX.out, qC, c2] at hy
      have hnx := HX.out
      have HA := hide (fun v => above_any k X (k + 1) v (by omega) (by have h9 : X ≤ leaf := (by rw [← hnx]; exact Nat.div_le_self _ _); omega) (by omega) (by omega))
      have hX2 : X / 2 ^ (k + 1 - k) = leaf / 2 ^ (k + 1) := by rw [← hnx]; exact up_next leaf k
      rw [hX2] at HA
      obtain ⟨Y, HY⟩ : ∃ Y, Hid (leaf / 2 ^ (k + 1) = Y) := ⟨_, hide rfl⟩
      rw [HY.out, Int.natCast_add, Int.natCast_one] at HA
      clear hnx hX2
      gi_wp2_with fail
      refine hR.mono ?_
      rintro r W6 (⟨rfl, hJ6, hk6⟩ | ⟨rfl, hJx6⟩)
      · have HJ6 := hide (show J (List.range (k + 1)) W6 by rw [List.range_succ]; exact hJ6)
        have G6 := hide (km_blk hk6 G5.out hne)
        have U6 := hide (U5.out.km hk6)
        have hn6 : g < W6.heap.size := Nat.lt_of_lt_of_le hn5 hk6.size
        clear hJ6 hk6 hy hR HJ5 G5 U5 c0 c1 cv hn5 hY
        obtain ⟨c0, c1⟩ := G6.out.two
        gi_wp2_with (refine istep_alloc .wide zN rfl ?_)
        intro W7 g7 hg7 hle7 hb7
        gi_wp2_with (refine istep_storeA .wide wN rfl rfl rfl hg7 rfl (One.c2 (k : Int) (X : Int)) rfl ?_)
        intro W8 hg8 hbut8
        have hb8 : Below W6.heap.size W6 W8 := hb7.trans (hbut8.below hle7)
        have G8 : Hid (Blk W8 g7 23 (c2 (k : Int) (X : Int))) := hide hg8
        have B8 := hide hb8
        have hne7 : g7 ≠ g := by omega
        clear hg7 hb7 hg8 hbut8 hb8 G6 c0 c1
        obtain ⟨c0, c1⟩ := G8.out.two
        gi_wp2_with fail
        refine ⟨trivial, (callsIn_wide.2 (HA.out _)).mono ?_⟩
        rintro r W9 ⟨rfl, hb9⟩
        have G9 := hide (G8.out.on hb9)
        have B9 := hide (on_below B8.out hb9)
        clear hb9 G8 B8 c0 c1
        gi_wp2_with (refine istep_storeA .wide wN rfl rfl rfl G9.out rfl (One.c2 ((k : Int) + 1) (Y : Int)) rfl ?_)
        intro Wa hga hbuta
        have Ba : Below W6.heap.size W6 Wa := B9.out.trans (hbuta.below hle7)
        have Ua := hide (U6.out.on Ba)
        have HJa := hide (hJ _ W6 Wa none HJ6.out (grown_none Ba) (fun r e => by cases e))
        have hna : g < Wa.heap.size := Nat.lt_of_lt_of_le hn6 Ba.size
        have Ga : Hid (Blk Wa g7 23 (qC (upG leaf (k + 1)))) := hide (by unfold upG; rw [HY.out]; exact hga)
        have HMa := hide (lvLeft_at (N := N) (k := k + 1) (x := (Y : Int)) hga)
        clear hga hbuta Ba B9 G9 U6 HJ6 hn6
        gi_wp2
        simp only [Act.put]
        go_roundw
        case rel => exact ⟨k + 1, g7, rfl, hlt, HJa, Ga, Ua, hne7, hna⟩
        case measure =>
          show lvLeft N (.pointer (some ⟨g7, 0, none⟩)) Wa < lvLeft N (.pointer (some ⟨gn, 0, none⟩)) wr
          rw [HMa.out, HM.out]
          omega
      · have HJx6 := hide hJx6
        clear hJx6
        gi_wp2
        refine bodyPost_ret (results_none rfl _ _ _) rfl ?_
        exact ⟨⟨_, rfl⟩, .inr ⟨_, by rw [← List.range_succ]; exact range_pre (by omega), HJx6.out⟩⟩
    · obtain rfl : k = N := by omega
      have HJN : Hid (J (List.range k) wr) := HJ
      rcases cnt_end (leaf := (leaf : Int)) (level := level) (by omega) (by omega) with he | he
      · rw [HN.out] at he
        by_cases hk48 : k ≤ 48
        · have he' : ¬ (k : Int) ≤ level := by omega
          have HV := hide (fun v => valid_yes k X v (by omega) (by rw [← HX.out]; exact up_valid leaf k hl hk48))
          gi_wp2_with fail
          refine ⟨trivial, (callsIn_wide.2 (HV.out _)).mono ?_⟩
          rintro r w5 ⟨rfl, hb5⟩
          have HJ5 := hide (hJ _ wr w5 none HJ.out (grown_none hb5) (fun r e => by cases e))
          have G5 := hide (GX.out.on hb5)
          have U5 := hide (UU.out.on hb5)
          clear hb5 HJ GX UU c0 c1 cv
          obtain ⟨c0, c1⟩ := G5.out.two
          have cv : w5.cell? ⟨b2, 0, none⟩ = some (.int .i64 level) := by rw [U5.out.c2.cell]; rfl
          gi_wp2
          go_end0
          exact ⟨⟨_, rfl⟩, .inl ⟨_, rfl, HJ5.out⟩⟩
        · have HNV : Hid (¬ V (k : Int) (X : Int)) := hide (fun h => by have := h.2.1; omega)
          gi_wp2_with fail
          refine ⟨trivial, (callsIn_wide.2 (valid_no (k : Int) (X : Int) _ HNV.out)).mono ?_⟩
          rintro r w5 ⟨rfl, hb5⟩
          have HJ5 := hide (hJ _ wr w5 none HJ.out (grown_none hb5) (fun r e => by cases e))
          clear hb5
          gi_wp2
          go_end0
          exact ⟨⟨_, rfl⟩, .inl ⟨_, rfl, HJ5.out⟩⟩
      · rw [HN.out] at he
        have HNV : Hid (¬ V (k : Int) (X : Int)) := hide (fun h => by have := h.2.1; omega)
        clear he hN hk hlt
        gi_wp2_with fail
        refine ⟨trivial, (callsIn_wide.2 (valid_no (k : Int) (X : Int) _ HNV.out)).mono ?_⟩
        rintro r w5 ⟨rfl, hb5⟩
        have HJ5 := hide (hJ _ wr w5 none HJ.out (grown_none hb5) (fun r e => by cases e))
        clear hb5
        gi_wp2
        go_end0
        exact ⟨⟨_, rfl⟩, .inl ⟨_, rfl, HJ5.out⟩⟩

end Go.Proofs.Ytlniffmhihhkcaa
