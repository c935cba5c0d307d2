/-
  The iterator over all tiles of a log.
-/
import Derived.Test.YtnlpgkfmjlljdabDoorTv
namespace Go.Proofs.YtnlpgkfmjlljdabDoor
open Go.RowKit Go.Shelf
set_option linter.unusedVariables false

theorem all_any (h n : Int) (w : World) : Calls Tryd.prog 14 #[.int .i64 h, .int .i64 n] w fun r w' => ∃ b1 b2, r = .returned (.func (.func 27) #[] #[.pointer (some ⟨b1, 0, none⟩), .pointer (some ⟨b2, 0, none⟩)]) ∧ Blk w' b1 3 [.int .i64 h] ∧ Blk w' b2 3 [.int .i64 n] ∧ w.heap.size ≤ b1 ∧ w.heap.size ≤ b2 ∧ Below w.heap.size w w' := by
  go_enter Tryd.func14, Tryd.ntmps14
  go_wp2
  go_ret
  have hb1 : Below w.heap.size w (w.alloc (.cells #[.int .i64 h] 3)) := (Below.refl _ _).alloc (Nat.le_refl _) _
  have g1 := Blk.made w 3 [.int .i64 h]
  refine ⟨_, _, rfl, ?_, ?_, Nat.le_refl _, ?_, ?_⟩
  · exact g1.on ((Below.refl _ _).alloc (Nat.le_refl _) _)
  · have := Blk.made (w.alloc (.cells #[.int .i64 h] 3)) 3 [.int .i64 n]
    simpa using this
  · omega
  · exact hb1.alloc hb1.size _

/-- What the iterator reads, apart from what the loop's body owns. -/
structure TK (M : World → Nat → Prop) (b1 b2 : Nat) (h n : Int) (W : World) : Prop where
  c1 : Blk W b1 3 [.int .i64 h]
  c2 : Blk W b2 3 [.int .i64 n]
  n1 : ¬ M W b1
  n2 : ¬ M W b2
theorem TK.on {n₀ : Nat} {M : World → Nat → Prop} {b1 b2 : Nat} {h n : Int} {W W' : World} (hM : Mine n₀ M) (hn : n₀ ≤ W.heap.size) (k : TK M b1 b2 h n W) (hb : Below W.heap.size W W') : TK M b1 b2 h n W' :=
  ⟨k.c1.on hb, k.c2.on hb, fun hm => k.n1 (hM.below W W' hn hb b1 k.c1.lt hm), fun hm => k.n2 (hM.below W W' hn hb b2 k.c2.lt hm)⟩
theorem TK.km {M : World → Nat → Prop} {b1 b2 : Nat} {h n : Int} {W W' : World} (k : TK M b1 b2 h n W) (hk : KM M W W') : TK M b1 b2 h n W' :=
  ⟨hk.keep _ _ k.c1 rfl k.n1, hk.keep _ _ k.c2 rfl k.n2, fun hm => k.n1 (hk.mine b1 k.c1.lt hm), fun hm => k.n2 (hk.mine b2 k.c2.lt hm)⟩

set_option maxRecDepth 100000 in
set_option maxHeartbeats 1000000 in
theorem all_stops_out (n₀ : Nat) (M : World → Nat → Prop) (hM : Mine n₀ M) (b1 b2 : Nat) (h n : Int) (w : World) (hn0 : n₀ ≤ w.heap.size) (hu : TK M b1 b2 h n w) (hb : (h < 1 ∨ 8 < h) ∨ n < 0 ∨ 281474976710656 < n) (f : Nat × Nat → Tl) :
    SeqStopsK Fence.wide 2 Tryd.prog 27 #[.pointer (some ⟨b1, 0, none⟩), .pointer (some ⟨b2, 0, none⟩)] (fun x : Nat × Nat => #[Value.agg (tC (f x)).toArray]) (KM M) (fun xs => xs = []) (fun pre => pre <+: []) 0 w := by
  have HLV := hide (fun v => levels_bad h n v hb)
  generalize lvE h n = E at *
  intro l0 J Jx W hW hJ hJx hY h0
  have hnW : n₀ ≤ W.heap.size := Nat.le_trans hn0 hW.size
  have U0 := hide (hu.on hM hn0 hW)
  have cl : W.cell? ⟨b1, 0, none⟩ = some (.int .i64 h) := by rw [U0.out.c1.cell]; rfl
  have cn : W.cell? ⟨b2, 0, none⟩ = some (.int .i64 n) := by rw [U0.out.c2.cell]; rfl
  have HJ0 := hide h0
  clear hu hW h0
  refine callsIn_of_wp Tryd.func27 rfl trivial ?_ rfl
  simp only [Tryd.ntmps27, List.size_toArray, List.length_cons, List.length_nil, Nat.reduceAdd, Nat.reduceSub, Array.replicate_succ, Array.replicate_zero, List.push_toArray, List.append_toArray, List.nil_append, List.cons_append]
  gi_wp2_with fail
  refine ⟨trivial, (callsIn_wide.2 (HLV.out _)).mono ?_⟩
  rintro r w5 ⟨rfl, hb5⟩
  have HJ5 := hide (hJ _ W w5 none HJ0.out (grown_none hb5) (fun r e => by cases e))
  clear hb5 HJ0 U0 cl cn
  gi_wp2_with fail
  try simp only [Act.put]
  gi_loopw [17] (fun k wr => k = .int .i64 0 ∧ Hid (J [] wr)) (fun _ _ => 0)
  case atStart => exact ⟨rfl, HJ5⟩
  case round =>
    obtain ⟨rfl, HJ⟩ := hrel
    gi_wp2
    go_end0
    exact ⟨⟨_, rfl⟩, .inl ⟨[], rfl, HJ.out⟩⟩
set_option maxRecDepth 100000 in
set_option maxHeartbeats 1000000 in
theorem all_stops_in (n₀ : Nat) (M : World → Nat → Prop) (hM : Mine n₀ M) (b1 b2 h n : Nat) (w : World) (hn0 : n₀ ≤ w.heap.size) (hu : TK M b1 b2 (h : Int) (n : Int) w) (hh : isH h) (hn : n ≤ 281474976710656) :
    SeqStopsK Fence.wide 2 Tryd.prog 27 #[.pointer (some ⟨b1, 0, none⟩), .pointer (some ⟨b2, 0, none⟩)] (fun x : Nat × Nat => #[Value.agg (tC (tT h n x)).toArray]) (KM M) (fun xs => xs = tAll h n) (fun pre => pre <+: tAll h n) (tAll h n).length w := by
  have HH := hide hh
  have hLv := tLv_le hh hn
  obtain ⟨L, HL⟩ : ∃ L, Hid (tLv h n = L) := ⟨_, hide rfl⟩
  have HLV := hide (fun v => levels_ok h n v hh hn)
  rw [HL.out] at HLV hLv
  clear hh
  intro l0 J Jx W hW hJ hJx hY h0
  have hnW : n₀ ≤ W.heap.size := Nat.le_trans hn0 hW.size
  have U0 := hide (hu.on hM hn0 hW)
  have cl : W.cell? ⟨b1, 0, none⟩ = some (.int .i64 (h : Int)) := by rw [U0.out.c1.cell]; rfl
  have cn : W.cell? ⟨b2, 0, none⟩ = some (.int .i64 (n : Int)) := by rw [U0.out.c2.cell]; rfl
  have HJ0 := hide h0
  clear hu hW h0
  refine callsIn_of_wp Tryd.func27 rfl trivial ?_ rfl
  simp only [Tryd.ntmps27, List.size_toArray, List.length_cons, List.length_nil, Nat.reduceAdd, Nat.reduceSub, Array.replicate_succ, Array.replicate_zero, List.push_toArray, List.append_toArray, List.nil_append, List.cons_append]
  gi_wp2_with fail
  refine ⟨trivial, (callsIn_wide.2 (HLV.out _)).mono ?_⟩
  rintro r w5 ⟨rfl, hv⟩
  replace hv := hv.symm
  subst hv
  clear cl cn
  gi_wp2_with fail
  try simp only [Act.put]
  gi_loopw [17] (fun k wr => ∃ l : Nat, k = .int .i64 (l : Int) ∧ l ≤ L ∧ Hid (J (tPre h n l 0) wr) ∧ Hid (TK M b1 b2 (h : Int) (n : Int) wr) ∧ n₀ ≤ wr.heap.size) (fun k _ => L - (intOf k).toNat)
  case atStart => exact ⟨0, rfl, Nat.zero_le _, HJ0, U0, hnW⟩
  case round =>
    obtain ⟨l, rfl, hl, HJl, Ul, hnl⟩ := hrel
    clear HJ0 U0 hnW
    by_cases hc : l < L
    · have hc' : (l : Int) < (L : Int) := by omega
      have hl1 : wrap64 ((l : Int) + 1) = ((l + 1 : Nat) : Int) := by unfold wrap64; omega
      obtain ⟨C, HC⟩ : ∃ C, Hid (tCt h l n = C) := ⟨_, hide rfl⟩
      have hCb : C ≤ 281474976710656 := by rw [← HC.out]; exact tCt_le hn
      gi_wp2_with fail
      try simp only [Act.put]
      gi_loopw [7] (fun k wr => ∃ i : Nat, k = .int .i64 (i : Int) ∧ i ≤ C ∧ Hid (J (tPre h n l i) wr) ∧ Hid (TK M b1 b2 (h : Int) (n : Int) wr) ∧ n₀ ≤ wr.heap.size) (fun k _ => C - (intOf k).toNat)
      case atStart => exact ⟨0, rfl, Nat.zero_le _, HJl, Ul, hnl⟩
      case round =>
        obtain ⟨i, rfl, hi, HJi, Ui, hni⟩ := hrel
        clear HJl Ul hnl
        have cl : wr.cell? ⟨b1, 0, none⟩ = some (.int .i64 (h : Int)) := by rw [Ui.out.c1.cell]; rfl
        have cn : wr.cell? ⟨b2, 0, none⟩ = some (.int .i64 (n : Int)) := by rw [Ui.out.c2.cell]; rfl
        obtain ⟨Wd, HW⟩ : ∃ W, Hid (tW h l i n = W) := ⟨_, hide rfl⟩
        have HWD := hide (fun v => width_ok h l i n v HH.out hn (by omega) (by omega))
        rw [HW.out] at HWD
        gi_wp2_with fail
        refine ⟨trivial, (callsIn_wide.2 (HWD.out _)).mono ?_⟩
        rintro r w6 ⟨rfl, hb6⟩
        have HJ6 := hide (hJ _ wr w6 none HJi.out (grown_none hb6) (fun r e => by cases e))
        have U6 := hide (Ui.out.on hM hni hb6)
        have hn6 : n₀ ≤ w6.heap.size := Nat.le_trans hni hb6.size
        clear hb6 HJi Ui hni cl cn
        have cl : w6.cell? ⟨b1, 0, none⟩ = some (.int .i64 (h : Int)) := by rw [U6.out.c1.cell]; rfl
        by_cases hiC : i < C
        · have hW0 : ¬ (Wd : Int) = 0 := by
            have : ¬ Wd = 0 := by rw [← HW.out, tW_zero, HC.out]; omega
            omega
          have hW0b : ((Wd : Int) == 0) = false := by simp; omega
          have hi1 : wrap64 ((i : Int) + 1) = ((i + 1 : Nat) : Int) := by unfold wrap64; omega
          obtain ⟨fn, tmps, assign, body, hy, hR⟩ := hY (tPre h n l i) (l, i) w6 HJ6.out (tPre_lt (by rw [HL.out]; exact hc) (by rw [HC.out]; exact hiC))
          simp only [tT, HW.out, tC, c4] at hy
          gi_wp2_with fail
          refine hR.mono ?_
          rintro r W7 (⟨rfl, hJ7, hk7⟩ | ⟨rfl, hJx7⟩)
          · have HJ7 := hide (show J (tPre h n l (i + 1)) W7 by rw [tPre_step]; exact hJ7)
            have U7 := hide (U6.out.km hk7)
            have hn7 : n₀ ≤ W7.heap.size := Nat.le_trans hn6 hk7.size
            clear hJ7 hk7 hy hR HJ6 U6 cl hn6 hY
            gi_wp2
            try simp only [Act.put]
            go_roundw
            case rel => exact ⟨i + 1, rfl, hiC, HJ7, U7, hn7⟩
            case measure => simp only [intOf]; omega
          · have HJx7 := hide hJx7
            have HPR := hide (show tPre h n l i ++ [(l, i)] <+: tAll h n by rw [← tPre_step]; exact tPre_pre (by rw [HL.out]; exact hc) (by rw [HC.out]; exact hiC))
            clear hJx7
            gi_wp2
            refine bodyPost_ret (results_none rfl _ _ _) rfl ?_
            exact ⟨⟨_, rfl⟩, .inr ⟨_, HPR.out, HJx7.out⟩⟩
        · obtain rfl : i = C := by omega
          obtain rfl : Wd = 0 := by rw [← HW.out, tW_zero, HC.out]; exact Nat.le_refl _
          have HJ7 := hide (show J (tPre h n (l + 1) 0) w6 by rw [← tPre_row, HC.out]; exact HJ6.out)
          clear HJ6 cl
          gi_wp2
          try simp only [Act.put]
          go_roundw
          case rel => exact ⟨l + 1, rfl, hc, HJ7, U6, hn6⟩
          case measure => simp only [intOf]; omega
    · obtain rfl : l = L := by omega
      have HE : Hid (tPre h n l 0 = tAll h n) := hide (by rw [← HL.out]; exact tPre_end h n)
      gi_wp2
      go_end0
      exact ⟨⟨_, rfl⟩, .inl ⟨_, rfl, by rw [← HE.out]; exact HJl.out⟩⟩

end Go.Proofs.YtnlpgkfmjlljdabDoor
