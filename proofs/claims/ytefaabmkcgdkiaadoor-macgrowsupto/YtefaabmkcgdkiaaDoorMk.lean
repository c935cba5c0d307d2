/-
  A key's block, and a block under a mask.
-/
import Derived.Test.YtefaabmkcgdkiaaDoorSm
import Derived.Test.YtefaabmkcgdkiaaDoorBu
namespace Go.Proofs.YtefaabmkcgdkiaaDoor
open Go.RowKit
set_option linter.unusedVariables false

theorem zBl : Zeroed 63 (u8s (zer 64)) := fun _ _ _ _ _ _ _ => by kernel_rfl
theorem index_Bl (g i : Nat) (I : Int) (hI : I = (i : Int)) (hi : i < 64) (w : World) : (Instr.indexAt 63 (.pointer (some ⟨g, 0, none⟩)) (.int .i64 I)).run Tryd.prog w = .ok (.pointer (some ⟨g, i, none⟩)) w :=
  index_at (by kernel_rfl) (by kernel_rfl) (fun _ => by kernel_rfl) g i I hI hi w

/-- A byte under a mask. -/
def xb (m x : Int) : Int := bits .xor .u8 x m
theorem xb_bd (m x : Int) (hm : 0 ≤ m ∧ m ≤ 255) (hx : 0 ≤ x ∧ x ≤ 255) : 0 ≤ xb m x ∧ xb m x ≤ 255 := by
  unfold xb
  rw [u8_xor x m (by omega) (by omega) (by omega) (by omega)]
  have h1 : x.toNat ^^^ m.toNat < 2 ^ 8 := Nat.xor_lt_two_pow (by omega) (by omega)
  omega
/-- Bytes under a mask. -/
def mk (m : Int) (b : List Int) : List Int := b.map (xb m)
theorem mk_length (m : Int) (b : List Int) : (mk m b).length = b.length := by simp [mk]
theorem mk_isB (m : Int) (b : List Int) (hm : 0 ≤ m ∧ m ≤ 255) (hb : isB b) : isB (mk m b) := by
  intro y hy
  obtain ⟨x, hx, rfl⟩ := List.mem_map.1 hy
  exact xb_bd m x hm (hb x hx)
/-- .. the first k of them alone. -/
def mkd (m : Int) (b : List Int) (k : Nat) : List Int := mk m (b.take k) ++ b.drop k
theorem mkd_zero (m : Int) (b : List Int) : mkd m b 0 = b := rfl
theorem mkd_all (m : Int) (b : List Int) (k : Nat) (h : b.length ≤ k) : mkd m b k = mk m b := by
  rw [mkd, List.take_of_length_le h, List.drop_of_length_le h, List.append_nil]
theorem mkd_length (m : Int) (b : List Int) (k : Nat) : (mkd m b k).length = b.length := by
  simp [mkd, mk]; omega
theorem mkd_get (m : Int) (b : List Int) (k : Nat) (h : k < b.length) : (mkd m b k).getD k 0 = b.getD k 0 := by
  have hl : (mk m (b.take k)).length = k := by rw [mk_length, List.length_take]; omega
  simp [mkd, List.getD, List.getElem?_append, hl]
theorem mkd_succ (m : Int) (b : List Int) (k : Nat) (h : k < b.length) : (mkd m b k).set k (xb m (b.getD k 0)) = mkd m b (k + 1) := by
  have hl : (mk m (b.take k)).length = k := by rw [mk_length, List.length_take]; omega
  have e1 : mk m (b.take (k + 1)) = mk m (b.take k) ++ [xb m (b.getD k 0)] := by
    rw [List.take_succ_eq_append_getElem h]
    unfold mk
    rw [List.map_append]
    simp only [List.map_cons, List.map_nil, List.getD, List.getElem?_eq_getElem h, Option.getD_some]
  have e2 : b.drop k = b.getD k 0 :: b.drop (k + 1) := by
    rw [List.drop_eq_getElem_cons h]
    simp [List.getD, h]
  unfold mkd
  rw [e1, List.set_append_right _ _ (by omega), hl, Nat.sub_self]
  rw [show (b.drop k).set 0 (xb m (b.getD k 0)) = xb m (b.getD k 0) :: b.drop (k + 1) by rw [e2]; rfl]
  simp

set_option maxHeartbeats 1000000 in
theorem masked_any (b : List Int) (m : Int) (w : World) (hb : b.length = 64) :
    Calls Tryd.prog 49 #[.agg (u8s b).toArray, .int .u8 m] w fun e w' => e = .returned (.agg (u8s (mk m b)).toArray) ∧ Below w.heap.size w w' := by
  have HL := hide hb
  clear hb
  go_enter Tryd.func49, Tryd.ntmps49
  go_wp2_with (refine step_box rfl rfl ?_)
  intro w1 g1 hg1 hle1 hb1
  go_wp2_with (refine step_alloc zBl rfl ?_)
  intro w2 g2 hg2 hle2 hb2
  have HB := hide (hb1.trans (hb2.mono hb1.size))
  have G1 := hide (hg1.below hb2 hg1.lt)
  have G2 := hide hg2
  have hne : g2 ≠ g1 := by have := hg1.lt; omega
  have hl2 : w.heap.size ≤ g2 := Nat.le_trans hb1.size hle2
  clear hg1 hg2 hb1 hb2 hle2
  go_wp2
  go_loopw [6] (fun i wr => ∃ k : Nat, k ≤ 64 ∧ i = .int .i64 k ∧ Blk wr g1 63 (u8s (mkd m b k)) ∧ But g1 w2 wr) (fun i _ => 64 - (intOf i).toNat)
  case atStart => exact ⟨0, by omega, rfl, G1.out, But.refl _ _⟩
  case round =>
    obtain ⟨k, hk, rfl, hg, hbut⟩ := hrel
    have HG := hide hg
    have HBut := hide hbut
    clear hg hbut G1
    by_cases hlt : k < 64
    · have hcell : wr.cell? ⟨g1, k, none⟩ = some (.int .u8 (b.getD k 0)) := by
        rw [HG.out.cell, ← mkd_get m b k (by rw [HL.out]; exact hlt)]
        exact u8s_get _ _ (by rw [mkd_length, HL.out]; exact hlt)
      have hfree : wr.frozen? ⟨g1, k, none⟩ = false := HG.out.free k
      have hx := index_Bl g1 k (k : Int) rfl hlt
      have hlt' : (k : Int) < 64 := by omega
      have HS := hide (mkd_succ m b k (by rw [HL.out]; exact hlt))
      have HN : Hid (Blk (wr.setCell ⟨g1, k, none⟩ (.int .u8 (xb m (b.getD k 0)))) g1 63 (u8s (mkd m b (k + 1)))) := hide (by
        have h := HG.out.set k (.int .u8 (xb m (b.getD k 0)))
        rw [u8s_set, HS.out] at h
        exact h)
      revert hcell HN
      clear HS
      generalize hxe : b.getD k 0 = x
      clear hxe
      intro hcell HN
      go_wp2
      go_roundw
      case rel => exact ⟨k + 1, by omega, by go_num, HN.out, HBut.out.trans (But.setCell _ _ _ _)⟩
      case measure => simp [intOf]; omega
    · obtain rfl : k = 64 := by omega
      have HF := hide HG.out
      rw [mkd_all m b 64 (by rw [HL.out]; exact Nat.le_refl _)] at HF
      have HML := hide (show (u8s (mk m b)).length = 64 by rw [u8s_length, mk_length, HL.out])
      have H2 := hide (G2.out.but HBut.out hne)
      go_wp2_with (first | (refine step_loadA wB64 rfl rfl HF.out HML.out ?_) | (refine step_storeA wB64 rfl rfl rfl H2.out HML.out (One.u8 _) rfl ?_; intro w4 hg4 hbut4))
      refine bodyPost_ret (results_wide rfl wB64 _ _ rfl hg4 HML.out) rfl ⟨rfl, ?_⟩
      exact HB.out.trans ((HBut.out.below hle1).trans (hbut4.below hl2))

/-- The key's block. -/
def kb (xs : List Int) : List Int := if 64 < xs.length then dg bL 0 xs ++ zer 32 else xs ++ zer (64 - xs.length)
theorem kb_length (xs : List Int) : (kb xs).length = 64 := by
  unfold kb
  split
  · rw [List.length_append, dg_length _ _ _ rfl, zer_length]
  · rw [List.length_append, zer_length]; omega
theorem dg_isB (h : List Int) (n0 : Nat) (m : List Int) : isB (dg h n0 m) := wb_isB _
theorem kb_isB (xs : List Int) (hb : isB xs) : isB (kb xs) := by
  unfold kb
  split
  · exact (dg_isB _ _ _).append (zer_isB _)
  · exact hb.append (zer_isB _)
theorem splB_zer (xs : List Int) (n : Nat) (h : xs.length ≤ n) : splB (zer n) xs 0 = xs ++ zer (n - xs.length) := by
  simp [splB, zer]

theorem slice_Bl (g : Nat) (v : World) : (Instr.sliceAt 63 (.pointer (some ⟨g, 0, none⟩)) none none none).run Tryd.prog v = .ok (.slice (some ⟨g, 0, none⟩) 64 64) v := by kernel_rfl
theorem slice_Dg (g : Nat) (v : World) : (Instr.sliceAt 46 (.pointer (some ⟨g, 0, none⟩)) none none none).run Tryd.prog v = .ok (.slice (some ⟨g, 0, none⟩) 32 32) v := by kernel_rfl

set_option maxHeartbeats 2000000 in
theorem keyBlock_any (a : Option Addr) (len cap : Nat) (xs : List Int) (w : World) (hs : Sl w a len cap xs) (hk : KT w) :
    Calls Tryd.prog 48 #[.slice a len cap] w fun e w' => e = .returned (.agg (u8s (kb xs)).toArray) ∧ Below w.heap.size w w' := by
  have HS := hide hs
  have HK := hide hk
  have HX := hide hs.hlen
  have HXB := hide hs.hbyte
  have HKL := hide (show (u8s (kb xs)).length = 64 by rw [u8s_length, kb_length])
  clear hs hk
  go_enter Tryd.func48, Tryd.ntmps48
  go_wp2_with (refine step_alloc zBl rfl ?_)
  intro w1 g2 hg1 hle1 hb1
  go_wp2_with (refine step_alloc zBl rfl ?_)
  intro w2 g3 hg2 hle2 hb2
  have HB := hide (hb1.trans (hb2.mono hb1.size))
  have G2 := hide (hg1.below hb2 hg1.lt)
  have G3 := hide hg2
  have hne : g2 ≠ g3 := by have := hg1.lt; omega
  have hl3 : w.heap.size ≤ g3 := Nat.le_trans hb1.size hle2
  have S2 := hide (HS.out.below HB.out)
  have K2 := hide (HK.out.below HB.out HK.out.lt)
  have AP := hide (HS.out.apart hl3)
  have hsB := slice_Bl g3
  clear hg1 hg2 hb1 hb2 hle2
  by_cases hlt : 64 < len
  · have hlt' : (64 : Int) < (len : Int) := by omega
    have EK : Hid (kb xs = dg bL 0 xs ++ zer 32) := hide (by rw [kb, if_pos (by rw [HX.out]; exact hlt)])
    have HD := hide (dg_length bL 0 xs rfl)
    go_wp2_with fail
    refine (sum_any _ _ _ xs _ S2.out K2.out).mono ?_
    rintro e w3 ⟨rfl, hb3⟩
    have G23 := hide (G2.out.below hb3 G2.out.lt)
    have G33 := hide (G3.out.below hb3 G3.out.lt)
    have HB3 := hide (HB.out.trans (hb3.mono HB.out.size))
    clear hb3 G2 G3
    go_wp2_with (first | (refine step_alloc zD rfl ?_; intro w4 g4 hg4 hle4 hb4; have G4 := hide hg4; clear hg4) | (refine step_storeA wD rfl rfl rfl G4.out (by rw [u8s_length]; exact HD.out) (One.u8 _) rfl ?_; intro w5 hg5 hbut5))
    have hb45 : Below w3.heap.size w3 w5 := hb4.trans (hbut5.below hle4)
    have HB5 := hide (HB3.out.trans (hb45.mono HB3.out.size))
    have G25 := hide (G23.out.below hb45 G23.out.lt)
    have G35 := hide (G33.out.below hb45 G33.out.lt)
    have SD := hide ((hg5.sl0 (dg_isB _ _ _) (by rw [HD.out]; omega)).below ((Below.refl _ _).drew))
    rw [HD.out] at SD
    have hsD := slice_Dg g4
    clear hb45 hb4 hbut5 hg5 G4 G23 G33 HB3
    go_wp2_with fail
    go_region_law (refine rstep_copy rfl rfl rfl rfl SD.out g3 0 32 (by omega) (by exact G35.out) (fun _ => rfl) (by simp [u8s_length, zer_length]) ?_; intro w6 hg6 hbut6)
    have E6 : Hid (spl (u8s (zer 64)) (u8s (List.take 32 (dg bL 0 xs))) 0 = u8s (kb xs)) := hide (by
      rw [List.take_of_length_le (by rw [HD.out]; exact Nat.le_refl _), spl_u8, splB_zer _ _ (by rw [HD.out]; omega), HD.out, EK.out])
    rw [E6.out] at hg6
    have G36 := hide hg6
    have G26 := hide ((G25.out.below ((Below.refl _ _).drew) G25.out.lt).but hbut6 hne)
    have HB6 := hide ((HB5.out.drew).trans (hbut6.below hl3))
    clear hg6 hbut6 G25 G35 SD HB5
    go_wp2_with (first | (refine step_loadA wB64 rfl rfl G36.out HKL.out ?_) | (refine step_storeA wB64 rfl rfl rfl G26.out HKL.out (One.u8 _) rfl ?_; intro w7 hg7 hbut7))
    refine bodyPost_ret (results_wide rfl wB64 _ _ rfl hg7 HKL.out) rfl ⟨rfl, ?_⟩
    exact HB6.out.trans (hbut7.below hle1)
  · have hlt' : ¬ ((64 : Int) < (len : Int)) := by omega
    have EK : Hid (kb xs = xs ++ zer (64 - len)) := hide (by rw [kb, if_neg (by rw [HX.out]; exact hlt), HX.out])
    have E6 : Hid (spl (u8s (zer 64)) (u8s (List.take len xs)) 0 = u8s (kb xs)) := hide (by
      rw [List.take_of_length_le (by rw [HX.out]; exact Nat.le_refl _), spl_u8, splB_zer _ _ (by rw [HX.out]; omega), HX.out, EK.out])
    go_wp2_with (first | (refine step_copy rfl rfl rfl S2.out g3 0 len (by omega) G3.out (fun _ => rfl) (by simp [u8s_length, zer_length]; omega) ?_; intro w6 hg6 hbut6; rw [E6.out] at hg6; have G36 := hide hg6; have G26 := hide (G2.out.but hbut6 hne); have HB6 := hide (HB.out.trans (hbut6.below hl3)); clear hg6 hbut6) | (refine step_loadA wB64 rfl rfl G36.out HKL.out ?_) | (refine step_storeA wB64 rfl rfl rfl G26.out HKL.out (One.u8 _) rfl ?_; intro w7 hg7 hbut7))
    refine bodyPost_ret (results_wide rfl wB64 _ _ rfl hg7 HKL.out) rfl ⟨rfl, ?_⟩
    exact HB6.out.trans (hbut7.below hle1)

end Go.Proofs.YtefaabmkcgdkiaaDoor
