/-
  A tile's bytes as digests; their root; a node's digest out of them: the program's placeOf, digests, Root, Digest.
-/
import Derived.Test.YtnlpgkfmjlljdabDoorTe
namespace Go.Proofs.YtnlpgkfmjlljdabDoor
open Go.RowKit
set_option linter.unusedVariables false

theorem zP : Zeroed 61 (c2 0 0) := fun _ _ _ _ _ _ _ => by kernel_rfl
theorem wP : Wide 61 2 := ⟨by kernel_rfl, by kernel_rfl⟩
set_option maxRecDepth 100000 in
theorem placeOf_any (h l i n : Int) (w : World) : Calls Tryd.prog 23 #[.agg (c4 h l i n).toArray] w fun r w' => r = .returned (.agg (c2 l i).toArray) ∧ Below w.heap.size w w' := by
  go_enter Tryd.func23, Tryd.ntmps23
  go_wp2_with (first | (refine step_box (cs := c4 h l i n) rfl rfl ?_; intro w1 g1 hg1 hle1 hb1; have HG1 := hide hg1; clear hg1) | (refine step_alloc zP rfl ?_; intro w2 g2 hg2 hle2 hb2; have HG2 := hide hg2; clear hg2; obtain ⟨_, c1, c2, _⟩ := (HG1.out.on hb2).four) | (refine step_storeA wP rfl rfl rfl HG2.out rfl (One.c2 l i) rfl ?_; intro w4 hg4 hbut4))
  refine bodyPost_ret (results_wide rfl wP _ _ rfl hg4 rfl) rfl ⟨rfl, ?_⟩
  exact (hb1.trans (hb2.mono hb1.size)).trans (hbut4.below (Nat.le_trans hb1.size hle2))

theorem undByte : Tryd.prog.underlying 43 = some (.slice (Tryd.prog.elem 43)) := by kernel_rfl
theorem elemByte : Tryd.prog.elem 43 = 5 := by kernel_rfl
theorem sizeByte (w : World) : (sizeOf 5).run Tryd.prog w = .ok 1 w := by kernel_rfl
theorem b_mid (b o n cap k h : Nat) (K H : Int) (hK : K = (k : Int)) (hH : H = (h : Int)) (hk : k < h) (hc : h ≤ cap) (v : World) : (Instr.slice 43 (.slice (some ⟨b, o, none⟩) n cap) (some (.int .i64 K)) (some (.int .i64 H)) none).run Tryd.prog v = .ok (.slice (some ⟨b, o + k, none⟩) (h - k) (cap - k)) v := by
  subst hK hH
  rw [run_slice_lh v _ _ _ _ undByte .i64 .i64 k h (by omega) (by omega) (by omega), elemByte, sizeByte]
  have hne : ¬ cap = k := by omega
  simp [sliced, hne, Addr.add_lit]

theorem zcellT (n i : Nat) (h : i < n) : (u8s (zer n)).toArray[i]! = .int .u8 0 := by
  rw [getElem!_pos _ _ (by simpa [u8s, zer] using h)]
  simp [u8s, zer]
theorem madeT_zer (n : Nat) : madeCells (u8s (zer 32)).toArray n = (u8s (zer n)).toArray := by
  apply Array.ext
  · simp [size_madeCells, u8s_length, zer_length]
  · intro i h1 h2
    have hi : i % 32 < 32 := Nat.mod_lt _ (by decide)
    simp only [madeCells, Array.getElem_map, Array.getElem_range]
    have hsz : (u8s (zer 32)).toArray.size = 32 := by simp [u8s_length, zer_length]
    rw [hsz]
    have e1 : (u8s (zer 32)).toArray[i % 32]! = .int .u8 0 := zcellT 32 _ hi
    rw [e1]
    simp [u8s, zer]
section
variable {dst : Option Tmp} {ty : TypeId} {pos : String} {aft : Array Edge} {gd : Option (Nat × Bool)} {ops : Array Oper} {rest : List Oper} {a : Act} {w : World} {Q : Exit → Act → World → Prop}
theorem step_makeT {l c : Operand} {L C : Int} (n : Nat) (hw : Region.wanted ⟨dst, .makeSlice 31 l c, ty, pos, aft, gd⟩ (yielded ops a.tmps) = true)
    (hl : a.eval l = .int .i64 L) (hc : a.eval c = .int .i64 C) (hL : L = (n : Int)) (hC : C = (n : Int)) (hn : n ≤ 4398046511104)
    (h : ∀ w1 g, Blk w1 g 40 (u8s (zer (n * 32))) → w.heap.size ≤ g → Below w.heap.size w w1 → wpList Tryd.prog ops Q rest (a.put dst (.slice (some ⟨g, 0, none⟩) n n)) w1) :
    wpList Tryd.prog ops Q (⟨dst, .makeSlice 31 l c, ty, pos, aft, gd⟩ :: rest) a w := by
  obtain ⟨i0, hi, hz0, hz1, hz2⟩ := info_parts infoD
  subst hL hC
  refine step_run hw (.slice (some ⟨w.heap.size, 0, none⟩) n n) (w.alloc (.cells (u8s (zer (n * 32))).toArray 40)) ?_ (h _ _ (Blk.made _ _ _) (Nat.le_refl _) ((Below.refl _ _).alloc (Nat.le_refl _) _))
  have hr := run_make (P := Tryd.prog) w 31 40 i0 _ undDl hi hz0 .i64 .i64 (n : Int) (n : Int) (by omega) (Int.le_refl _) (by rw [hz2]; omega) (by omega)
  rw [hz1] at hr
  simp only [Value.cells, Int.toNat_natCast, madeT_zer] at hr
  simp [execOp, hl, hc, hr, Result.andThen]
end
theorem splT_then (cs vs us : List Value) (h : vs.length + us.length ≤ cs.length) : spl (spl cs vs 0) us vs.length = spl cs (vs ++ us) 0 := by
  unfold spl
  simp only [List.take_zero, List.nil_append, Nat.zero_add]
  rw [List.take_left, ← List.drop_drop, List.drop_left, List.drop_drop, List.length_append, List.append_assoc]
theorem takeT_more (ys : List Int) (k : Nat) : ys.take (32 * (k + 1)) = ys.take (32 * k) ++ (ys.drop (32 * k)).take 32 := by
  rw [show 32 * (k + 1) = 32 * k + 32 by omega, List.take_add]
theorem splT_dig (xs : List Int) (n k : Nat) (hk : k < n) (hx : xs.length = 32 * n) :
    spl (spl (u8s (zer (n * 32))) (u8s (xs.take (32 * k))) 0) (u8s ((xs.drop (32 * k)).take 32)) (32 * k) = spl (u8s (zer (n * 32))) (u8s (xs.take (32 * (k + 1)))) 0 := by
  have h1 : (u8s (xs.take (32 * k))).length = 32 * k := by rw [u8s_length, List.length_take]; omega
  have h2 : (u8s ((xs.drop (32 * k)).take 32)).length = 32 := by rw [u8s_length, List.length_take, List.length_drop]; omega
  have e := splT_then (u8s (zer (n * 32))) (u8s (xs.take (32 * k))) (u8s ((xs.drop (32 * k)).take 32)) (by rw [h1, h2, u8s_length, zer_length]; omega)
  rw [h1] at e
  rw [e, takeT_more, ← u8s_app]
set_option maxRecDepth 100000 in
set_option maxHeartbeats 2000000 in
theorem digests_any (b o n cap : Nat) (len : Nat) (xs : List Int) (w : World) (hs : Sl w (some ⟨b, o, none⟩) len cap xs) (hl : len = 32 * n) (hn : n ≤ 256) :
    Calls Tryd.prog 25 #[.slice (some ⟨b, o, none⟩) len cap] w fun r w' => ∃ g, r = .returned (.slice (some ⟨g, 0, none⟩) n n) ∧ Ds w' (some ⟨g, 0, none⟩) n n xs ∧ Below w.heap.size w w' := by
  have HS := hide hs
  have hx := hs.hlen
  have HX := hide (show xs.length = 32 * n by omega)
  have hq : (len : Int) / 32 = (n : Int) := by omega
  have hlen : (len : Int) ≤ 8192 := by omega
  have HLN := hide hl
  clear hs hx hl
  go_enter Tryd.func25, Tryd.ntmps25
  go_wp2_with (refine step_makeT n rfl rfl rfl rfl rfl (by omega) ?_)
  intro w1 g hg hle hb
  have HG := hide hg
  have HB := hide hb
  clear hg hb
  go_wp2_with fail
  go_loopw [11] (fun k wr => ∃ j : Nat, k = .int .i64 (j : Int) ∧ j ≤ n ∧ Hid (Blk wr g 40 (spl (u8s (zer (n * 32))) (u8s (xs.take (32 * j))) 0)) ∧ Hid (Below w.heap.size w wr)) (fun k _ => n - (intOf k).toNat)
  case atStart => exact ⟨0, rfl, Nat.zero_le _, hide (by simpa [spl, u8s] using HG.out), HB⟩
  case round =>
    obtain ⟨j, rfl, hj, HGj, HBj⟩ := hrel
    clear HG HB
    by_cases hc : j < n
    · have hc' : (j : Int) < (n : Int) := by omega
      have hj1 : wrap64 ((j : Int) + 1) = ((j + 1 : Nat) : Int) := by unfold wrap64; omega
      have hj2 : (j : Int) * 32 = ((32 * j : Nat) : Int) := by omega
      have hj3 : wrap64 ((32 * j : Nat) : Int) = ((32 * j : Nat) : Int) := by unfold wrap64; omega
      obtain ⟨J, HJ⟩ : ∃ J, Hid (32 * j = J) := ⟨_, hide rfl⟩
      rw [HJ.out] at hj2 hj3
      have HO := hide (octD_ok b o len cap xs J wr (HS.out.below HBj.out) (by rw [← HJ.out, HLN.out]; omega))
      have xa := d_at g 0 n n j (j : Int) rfl hc
      have HUL : Hid ((u8s ((xs.drop J).take 32)).length = 32) := hide (by rw [u8s_length, List.length_take, List.length_drop, HX.out, ← HJ.out]; omega)
      rw [Nat.zero_add, HJ.out] at xa
      have HSP : Hid (spl (spl (u8s (zer (n * 32))) (u8s (xs.take (32 * j))) 0) (u8s ((xs.drop J).take 32)) J = spl (u8s (zer (n * 32))) (u8s (xs.take (32 * (j + 1)))) 0) := hide (by rw [← HJ.out]; exact splT_dig xs n j hc HX.out)
      have HLL : Hid (J + 32 ≤ (spl (u8s (zer (n * 32))) (u8s (xs.take (32 * j))) 0).length) := hide (by
        unfold spl
        rw [List.take_zero, List.nil_append, List.length_append, List.length_drop, u8s_length, u8s_length, zer_length, List.length_take, HX.out, ← HJ.out]
        omega)
      go_wp2_with (first | (go_at_call 38; refine (HO.out).mono ?_; rintro r w2 ⟨rfl, hb2⟩; have G2 := hide (HGj.out.on hb2); have B2 := hide (on_below HBj.out hb2)) | (refine step_store wD rfl rfl rfl G2.out HUL.out (One.u8 _) HLL.out ?_))
      intro w3 hg3 hbut3
      rw [HSP.out] at hg3
      have G3 := hide hg3
      have B3 := hide (B2.out.trans (hbut3.below hle))
      clear hg3 hbut3 G2 B2 HGj HBj hb2
      go_wp2
      go_roundw
      case rel => exact ⟨j + 1, rfl, hc, G3, B3⟩
      case measure => simp only [intOf]; omega
    · obtain rfl : j = n := by omega
      have HE : Hid (spl (u8s (zer (j * 32))) (u8s (xs.take (32 * j))) 0 = u8s xs) := hide (by
        rw [List.take_of_length_le (by rw [HX.out]; exact Nat.le_refl _)]
        exact spl_full (by rw [u8s_length, u8s_length, zer_length, HX.out]; omega))
      go_wp2
      go_ret
      refine ⟨g, rfl, ?_, HBj.out⟩
      have h1 := HGj.out
      rw [HE.out] at h1
      have hbx := HS.out.hbyte
      have h2 := h1.sl 0 (32 * j) xs (by rw [List.drop_zero, List.take_of_length_le (by rw [u8s_length]; exact Nat.le_refl _)]) hbx (by rw [HX.out]; omega) (by rw [HX.out]; exact Nat.le_refl _) (by omega)
      rw [HX.out] at h2
      exact ⟨Nat.le_refl _, by omega, (fun e => by cases e), h2⟩

/-- What Root tells. -/
def RtR (h l i n : Int) (len : Nat) (xs ds : List Int) (e : Int) : Prop := ChE h l i n len e ∧ ((¬ e = 0 ∧ ds = zer 32) ∨ (e = 0 ∧ ds = root xs))
set_option maxRecDepth 100000 in
set_option maxHeartbeats 2000000 in
theorem rootT_any (h l i n : Int) (hl : l ≤ 9223372036854775807) (hi : i ≤ 9223372036854775807) (len : Nat) (xs : List Int) (hx : xs.length = len) (hlen : len ≤ 140737488355328) (hxb : isB xs) : ∃ (ds : List Int) (e : Int), RtR h l i n len xs ds e ∧ ∀ (a : Option Addr) (cap : Nat) (w : World), Sl w a len cap xs → KT w →
    Calls Tryd.prog 15 #[.agg (c4 h l i n).toArray, .slice a len cap] w fun r w' => r = .returned (.tuple #[.agg (u8s ds).toArray, .int .i64 e]) ∧ Below w.heap.size w w' := by
  obtain ⟨e, he, hc⟩ := check_any h l i n hl hi len hlen
  have HC := hide hc
  clear hc
  by_cases h0 : e = 0
  · subst h0
    have hk : ∃ N : Nat, len = 32 * N ∧ 1 ≤ N ∧ N ≤ 256 := by
      rcases he with ⟨h1, _⟩ | ⟨hk, ⟨h1, _⟩ | ⟨_, h2⟩⟩
      · cases h1
      · cases h1
      · have := hk.n_bd
        exact ⟨n.toNat, by omega, by omega, by omega⟩
    obtain ⟨N, hN, hN1, hN2⟩ := hk
    refine ⟨root xs, 0, ⟨he, .inr ⟨rfl, rfl⟩⟩, fun a cap w hs hkt => ?_⟩
    have HS := hide hs
    have HK := hide hkt
    have HRL : Hid ((u8s (root xs)).length = 32) := hide (by rw [u8s_length, root_length (n := N) (by rw [hx, hN]) hxb])
    obtain ⟨b, o, rfl, _⟩ := hs.hcell (by omega)
    have HN := hide hN
    clear hs hkt he hx hN
    go_enter Tryd.func15, Tryd.ntmps15
    go_wp2_with (first | (refine step_box (cs := c4 h l i n) rfl rfl ?_; intro w1 g1 hg1 hle1 hb1; have HG1 := hide hg1; clear hg1) | (refine step_alloc zD rfl ?_; intro w2 g2 hg2 hle2 hb2; have HG2 := hide hg2; clear hg2; have HG3 := hide (HG1.out.on hb2)) | (refine step_loadA wT rfl rfl HG3.out rfl ?_))
    refine (HC.out _ _ _).mono ?_
    rintro r w3 ⟨rfl, hb3⟩
    have q3 := on_below (on_below hb1 hb2) hb3
    have G3 := hide (HG2.out.on hb3)
    clear hb3 HG2 HG1 HG3 HC
    have l2 : w.heap.size ≤ g2 := Nat.le_trans hb1.size hle2
    clear hb1 hb2 hle1 hle2
    have HD := hide (digests_any b o N cap len xs w3 (HS.out.below q3) HN.out hN2)
    go_wp2_with fail
    refine (HD.out).mono ?_
    rintro r w4 ⟨g4, rfl, hd4, hb4⟩
    have HD4 := hide hd4
    have q4 := on_below q3 hb4
    have G4 := hide (G3.out.on hb4)
    clear hd4 hb4 G3 q3 HD
    go_wp2_with fail
    refine (root_any N _ N N xs w4 (Nat.le_refl _) HD4.out (HK.out.below q4 HK.out.lt)).mono ?_
    rintro r w5 ⟨rfl, hb5⟩
    have q5 := on_below q4 hb5
    have G5 := hide (G4.out.on hb5)
    clear hb5 q4 G4 HD4
    go_wp2_with (refine step_storeA wD rfl rfl rfl G5.out HRL.out (One.u8 _) rfl ?_)
    intro w6 hg6 hbut6
    go_wp2
    refine bodyPost_ret (results_wide2 rfl wD _ _ rfl hg6 HRL.out) rfl ⟨rfl, ?_⟩
    exact q5.trans (hbut6.below l2)
  · refine ⟨zer 32, e, ⟨he, .inl ⟨h0, rfl⟩⟩, fun a cap w hs hkt => ?_⟩
    have h0b : (e == 0) = false := by simp [h0]
    clear hs hkt he
    go_enter Tryd.func15, Tryd.ntmps15
    go_wp2_with (first | (refine step_box (cs := c4 h l i n) rfl rfl ?_; intro w1 g1 hg1 hle1 hb1; have HG1 := hide hg1; clear hg1) | (refine step_alloc zD rfl ?_; intro w2 g2 hg2 hle2 hb2; have HG2 := hide hg2; clear hg2; have HG3 := hide (HG1.out.on hb2)) | (refine step_loadA wT rfl rfl HG3.out rfl ?_))
    refine (HC.out _ _ _).mono ?_
    rintro r w3 ⟨rfl, hb3⟩
    have q3 := on_below (on_below hb1 hb2) hb3
    have G3 := hide (HG2.out.on hb3)
    clear hb3 HG2 HG1 HG3 HC
    have l2 : w.heap.size ≤ g2 := Nat.le_trans hb1.size hle2
    clear hb1 hb2 hle1 hle2
    go_wp2_with (first | (refine step_buildD rfl ?_) | (refine step_storeA wD rfl rfl rfl G3.out rfl (One.u8 _) rfl ?_; intro w4 hg4 hbut4))
    refine bodyPost_ret (results_wide2 rfl wD _ _ rfl hg4 rfl) rfl ⟨rfl, ?_⟩
    exact q3.trans (hbut4.below l2)

end Go.Proofs.YtnlpgkfmjlljdabDoor
