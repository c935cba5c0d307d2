/-
  mac.Expand.
-/
import Derived.Test.YtefaabmkcgdkiaaDoorKd
namespace Go.Proofs.YtefaabmkcgdkiaaDoor
open Go.RowKit
set_option linter.unusedVariables false

/-- T1, T2, .. -/
def tk (key info : List Int) : Nat → List Int
  | 0 => []
  | i + 1 => mc key (tk key info i ++ (info ++ [((i + 1 : Nat) : Int)]))
theorem tk_length (key info : List Int) (i : Nat) : (tk key info (i + 1)).length = 32 := mc_length _ _
theorem tk_le (key info : List Int) : ∀ i, (tk key info i).length ≤ 32
  | 0 => by simp [tk]
  | i + 1 => by rw [tk_length]; exact Nat.le_refl _
theorem tk_isB (key info : List Int) : ∀ i, isB (tk key info i)
  | 0 => by intro x hx; simp [tk] at hx
  | i + 1 => mc_isB _ _
/-- All of them, up to the k-th. -/
def exl (key info : List Int) : Nat → List Int
  | 0 => []
  | k + 1 => exl key info k ++ tk key info (k + 1)
theorem exl_length (key info : List Int) : ∀ k, (exl key info k).length = 32 * k
  | 0 => rfl
  | k + 1 => by rw [exl, List.length_append, exl_length key info k, tk_length]; omega
theorem exl_isB (key info : List Int) : ∀ k, isB (exl key info k)
  | 0 => by intro x hx; simp [exl] at hx
  | k + 1 => (exl_isB key info k).append (tk_isB _ _ _)
/-- What lies in the n bytes behind k rounds. -/
def ob (key info : List Int) (n k : Nat) : List Int := (exl key info k ++ zer (n - 32 * k)).take n
theorem ob_length (key info : List Int) (n k : Nat) : (ob key info n k).length = n := by
  rw [ob, List.length_take, List.length_append, exl_length, zer_length]; omega
theorem ob_zero (key info : List Int) (n : Nat) : ob key info n 0 = zer n := by
  simp [ob, exl, zer]
theorem ob_isB (key info : List Int) (n k : Nat) : isB (ob key info n k) := ((exl_isB _ _ _).append (zer_isB _)).take _
theorem ob_all (key info : List Int) (n k : Nat) (h : n ≤ 32 * k) : ob key info n k = (exl key info k).take n := by
  rw [ob, List.take_append_of_le_length (by rw [exl_length]; exact h)]
theorem ob_succ (key info : List Int) (n k : Nat) (h : 32 * k < n) : spl (u8s (ob key info n k)) (u8s ((tk key info (k + 1)).take (min 32 (n - 32 * k)))) (32 * k) = u8s (ob key info n (k + 1)) := by
  have e0 : ob key info n k = exl key info k ++ zer (n - 32 * k) := by
    rw [ob, List.take_of_length_le]
    rw [List.length_append, exl_length, zer_length]; omega
  have hl := exl_length key info k
  have ht := tk_length key info k
  rw [spl_u8, e0]
  congr 1
  unfold splB
  rw [← hl, List.take_left, List.length_take, ht, hl]
  have e1 : (exl key info k ++ zer (n - 32 * k)).drop (32 * k + min (min 32 (n - 32 * k)) 32) = zer (n - 32 * k - min 32 (n - 32 * k)) := by
    rw [List.drop_append, List.drop_of_length_le (by omega), hl]
    simp only [List.nil_append, zer, List.drop_replicate]
    congr 1
    omega
  rw [e1]
  unfold ob
  rw [exl, List.take_append, List.take_append, List.length_append, hl, ht]
  by_cases hc : 32 * (k + 1) ≤ n
  · rw [show min 32 (n - 32 * k) = 32 by omega, List.take_of_length_le (l := exl key info k) (by omega), List.take_of_length_le (l := tk key info (k + 1)) (i := 32) (by omega), List.take_of_length_le (l := tk key info (k + 1)) (by omega), List.take_of_length_le (l := zer _) (by rw [zer_length]; omega)]
    rw [show n - 32 * k - 32 = n - 32 * (k + 1) by omega]
  · rw [show min 32 (n - 32 * k) = n - 32 * k by omega, List.take_of_length_le (l := exl key info k) (by omega)]
    rw [show n - 32 * (k + 1) = 0 by omega, Nat.sub_self]
    simp [zer]

set_option maxHeartbeats 2000000 in
theorem expanded_any (ds : List Int) (a : Option Addr) (len cap : Nat) (ls : List Int) (a1 : Option Addr) (len1 cap1 : Nat) (xs : List Int) (q : Int) (w : World) (hd : ds.length = 32) (hdb : isB ds) (hs : Sl w a len cap ls) (hl : len ≤ 32) (hs1 : Sl w a1 len1 cap1 xs) (hq : 0 ≤ q ∧ q ≤ 255) (hk : KT w) :
    Calls Tryd.prog 53 #[.agg (u8s ds).toArray, .slice a len cap, .slice a1 len1 cap1, .int .u8 q] w fun e w' => e = .returned (.agg (u8s (mc ds (ls ++ (xs ++ [q])))).toArray) ∧ Below w.heap.size w w' := by
  have HS := hide hs
  have HS1 := hide hs1
  have HK := hide hk
  have HD := hide hd
  have HDB := hide hdb
  have HLB := hide hs.hbyte
  have HXB := hide hs1.hbyte
  have HL := hide hs.hlen
  have HX := hide hs1.hlen
  have hr := hs1.hreach
  have HML := hide (show (u8s (mc ds (ls ++ (xs ++ [q])))).length = 32 by rw [u8s_length, mc_length])
  clear hs hs1 hk hd hdb
  go_enter Tryd.func53, Tryd.ntmps53
  go_wp2_with (refine step_box rfl rfl ?_)
  intro w1 g4 hg1 hle1 hb1
  go_wp2_with (refine step_alloc zD rfl ?_)
  intro w2 g8 hg2 hle2 hb2
  have HB2 := hide (hb1.trans (hb2.mono hb1.size))
  have G8 := hide hg2
  have SD := hide ((hg1.below hb2 hg1.lt).sl0 HDB.out (by rw [HD.out]; omega))
  rw [HD.out] at SD
  have K2 := hide (HK.out.below HB2.out HK.out.lt)
  have hl8 : w.heap.size ≤ g8 := Nat.le_trans hb1.size hle2
  have hsl := slice_Dg g4
  clear hg1 hg2 hb1 hb2 hle1 hle2
  go_wp2_with fail
  refine (macNew_any _ _ _ ds _ SD.out K2.out).mono ?_
  rintro e w3 ⟨k, g, rfl, hlk, hlg, hkd, hb3⟩
  have HB3 := hide (HB2.out.trans (hb3.mono HB2.out.size))
  have G83 := hide (G8.out.below hb3 G8.out.lt)
  have KD3 := hide hkd
  have hwg : w.heap.size ≤ g := Nat.le_trans HB2.out.size hlg
  have hg0 : g ≠ 0 := by have := HK.out.lt; omega
  have h8g : g8 ≠ g := by have := G8.out.lt; omega
  have A0 := hide (HS.out.apart hwg)
  have A1 := hide (HS1.out.apart hwg)
  clear hkd hb3 hlk hlg G8
  go_wp2_with fail
  refine (kdWrite_any k g ds [] _ _ _ ls _ KD3.out HDB.out (by intro x hx; simp at hx) (HS.out.below HB3.out) A0.out (HK.out.below HB3.out HK.out.lt) hg0 (by simp; omega)).mono ?_
  rintro e w4 ⟨rfl, hkd4, hc4⟩
  rw [List.nil_append] at hkd4
  have KD4 := hide hkd4
  have HB4 := hide (HB3.out.trans (hc4.below hwg HB3.out.size))
  have G84 := hide (G83.out.chg hc4 h8g)
  clear hkd4 hc4 KD3 G83
  go_wp2_with fail
  refine (kdWrite_any k g ds ls _ _ _ xs _ KD4.out HDB.out HLB.out (HS1.out.below HB4.out) A1.out (HK.out.below HB4.out HK.out.lt) hg0 (by rw [HL.out]; omega)).mono ?_
  rintro e w5 ⟨rfl, hkd5, hc5⟩
  have KD5 := hide hkd5
  have HB5 := hide (HB4.out.trans (hc5.below hwg HB4.out.size))
  have G85 := hide (G84.out.chg hc5 h8g)
  clear hkd5 hc5 KD4 G84
  have hq0 : Sl (w5.alloc (.cells #[.int .u8 q] 5)) (some ⟨w5.heap.size, 0, none⟩) 1 1 [q] := (Blk.made w5 5 (u8s [q])).sl0 (by intro y hy; simp at hy; omega) (by simp)
  have SQ := hide hq0
  have B6 := hide ((Below.refl w5.heap.size w5).alloc (Nat.le_refl _) (.cells #[.int .u8 q] 5))
  have AQ : Hid (0 < 1 → Apart g (some ⟨w5.heap.size, 0, none⟩)) := hide (fun _ x hx => by cases hx; have := KD5.out.st.lt; show w5.heap.size ≠ g; omega)
  clear hq0
  go_wp2_with fail
  refine (kdWrite_any k g ds (ls ++ xs) _ _ _ [q] _ (KD5.out.below B6.out) HDB.out (HLB.out.append HXB.out) SQ.out AQ.out ((HK.out.below HB5.out HK.out.lt).below B6.out (by have := HK.out.lt; have := HB5.out.size; omega)) hg0 (by rw [List.length_append, HL.out, HX.out]; omega)).mono ?_
  rintro e w7 ⟨rfl, hkd7, hc7⟩
  rw [List.append_assoc] at hkd7
  have KD7 := hide hkd7
  have HB6 := hide (HB5.out.trans (B6.out.mono HB5.out.size))
  have HB7 := hide (HB6.out.trans (hc7.below hwg HB6.out.size))
  have G87 := hide ((G85.out.below B6.out G85.out.lt).chg hc7 h8g)
  clear hkd7 hc7 KD5 G85 SQ AQ B6
  go_wp2_with (first | (go_at_call 25; refine (kdSum_any k g ds (ls ++ (xs ++ [q])) _ KD7.out HDB.out (HLB.out.append (HXB.out.append (by intro y hy; simp at hy; omega))) (HK.out.below HB7.out HK.out.lt) (by rw [List.length_append, List.length_append, HL.out, HX.out]; simp; omega)).mono ?_; rintro e w8 ⟨rfl, hb8⟩; have G88 := hide (G87.out.below hb8 G87.out.lt)) | (refine step_storeA wD rfl rfl rfl G88.out HML.out (One.u8 _) rfl ?_; intro w9 hg9 hbut9))
  refine bodyPost_ret (results_wide rfl wD _ _ rfl hg9 HML.out) rfl ⟨rfl, ?_⟩
  exact HB7.out.trans ((hb8.mono HB7.out.size).trans (hbut9.below hl8))

theorem expand_bad (ds : List Int) (a : Option Addr) (len cap : Nat) (n e : Int) (w : World) (he : (n < 0 ∧ e = 2) ∨ (8160 < n ∧ e = 3)) :
    Calls Tryd.prog 27 #[.agg (u8s ds).toArray, .slice a len cap, .int .i64 n] w fun r w' => r = .returned (.tuple #[.slice none 0 0, .int .i64 e]) ∧ Below w.heap.size w w' := by
  rcases he with ⟨h, rfl⟩ | ⟨h, rfl⟩
  · go_enter Tryd.func27, Tryd.ntmps27
    go_wp2_with (refine step_box rfl rfl ?_; intro w1 g3 hg1 hle1 hb1)
    go_ret2
    exact ⟨rfl, hb1⟩
  · have h0 : ¬ n < 0 := by omega
    go_enter Tryd.func27, Tryd.ntmps27
    go_wp2_with (refine step_box rfl rfl ?_; intro w1 g3 hg1 hle1 hb1)
    go_ret2
    exact ⟨rfl, hb1⟩

/-- b[k:] of a whole row, within it. -/
theorem sl_at (g n k : Nat) (K : Int) (hK : K = (k : Int)) (hk : k < n) (v : World) : (Instr.slice 27 (.slice (some ⟨g, 0, none⟩) n n) (some (.int .i64 K)) none none).run Tryd.prog v = .ok (.slice (some ⟨g, k, none⟩) (n - k) (n - k)) v := by
  subst hK
  rw [run_slice_l v _ _ _ _ und22 .i64 k (by omega) (by omega), elem22, sizeB]
  have : ¬ n = k := by omega
  simp [sliced, Addr.add_lit, this]

set_option maxRecDepth 100000 in
set_option maxHeartbeats 4000000 in
theorem expand_any (ds : List Int) (a : Option Addr) (len cap : Nat) (xs : List Int) (n : Nat) (w : World) (hd : ds.length = 32) (hdb : isB ds) (hs : Sl w a len cap xs) (hn : n ≤ 8160) (hk : KT w) :
    Calls Tryd.prog 27 #[.agg (u8s ds).toArray, .slice a len cap, .int .i64 n] w fun r w' => ∃ g, r = .returned (.tuple #[.slice (some ⟨g, 0, none⟩) n n, .int .i64 0]) ∧ w.heap.size ≤ g ∧ Blk w' g 5 (u8s ((exl ds xs ((n + 31) / 32)).take n)) ∧ Below w.heap.size w w' := by
  have HS := hide hs
  have HK := hide hk
  have HD := hide hd
  have HDB := hide hdb
  have h0 : ¬ ((n : Int) < 0) := by omega
  have h1 : ¬ ((8160 : Int) < (n : Int)) := by omega
  clear hs hk hd hdb
  go_enter Tryd.func27, Tryd.ntmps27
  go_wp2_with (refine step_box rfl rfl ?_)
  intro w1 g3 hg1 hle1 hb1
  go_wp2_with (refine step_make n rfl rfl rfl (by rfl) (by rfl) (by omega) ?_)
  intro w2 g8 hg2 hle2 hb2
  have HB2 := hide (hb1.trans (hb2.mono hb1.size))
  have G3 := hide (hg1.below hb2 hg1.lt)
  have G8 := hide hg2
  have hl8 : w.heap.size ≤ g8 := Nat.le_trans hb1.size hle2
  have h38 : g3 ≠ g8 := by have := hg1.lt; omega
  have h80 : g8 ≠ 0 := by have := HK.out.lt; omega
  have S2 := hide (HS.out.below HB2.out)
  have K2 := hide (HK.out.below HB2.out HK.out.lt)
  have A8 := hide (HS.out.apart hl8)
  have HDL := hide (show (u8s ds).length = 32 by rw [u8s_length, HD.out])
  clear hg1 hg2 hb1 hb2 hle1 hle2
  go_wp2
  go_loopw [9, 22] (fun l i wr => ∃ k : Nat, k ≤ (n + 31) / 32 ∧ i = .int .i64 k ∧ Blk wr g8 5 (u8s (ob ds xs n k)) ∧ (∃ aL cL, l = .slice aL (tk ds xs k).length cL ∧ Sl wr aL (tk ds xs k).length cL (tk ds xs k)) ∧ Blk wr g3 46 (u8s ds) ∧ Below w.heap.size w wr) (fun _ i _ => (n + 31) / 32 - (intOf i).toNat)
  case atStart => exact ⟨0, by omega, rfl, by rw [ob_zero]; exact G8.out, ⟨none, 0, rfl, ⟨rfl, Nat.le_refl _, by omega, by simp [tk], by intro x hx; simp [tk] at hx, fun _ => ⟨rfl, rfl⟩, fun h => absurd h (by simp [tk])⟩⟩, G3.out, HB2.out⟩
  case round =>
    obtain ⟨k, hk, rfl, hg8, ⟨aL, cL, rfl, hL⟩, hg3, hb⟩ := hrel
    have B := hide hb
    have GO := hide hg8
    have GD := hide hg3
    have SL := hide hL
    clear hb hg8 hg3 hL G3 G8
    by_cases hlt : k < (n + 31) / 32
    · have hlt' : (k : Int) < ((n : Int) + 32 - 1) / 32 := by omega
      have hq : ((k : Int) + 1) % 256 = (k : Int) + 1 := by omega
      have hz : IntKind.i64.wrap ((k : Int) * 32) = (k : Int) * 32 := wrap_in _ (by omega) (by omega)
      have hkn : 32 * k < n := by omega
      have HT := hide (tk_le ds xs k)
      have HTL := hide (tk_length ds xs k)
      have HTD := hide (show (u8s (tk ds xs (k + 1))).length = 32 by rw [u8s_length, tk_length])
      have HOS := hide (ob_succ ds xs n k hkn)
      have HOL := hide (show (u8s (ob ds xs n k)).length = n by rw [u8s_length, ob_length])
      have EN : Hid (mc ds (tk ds xs k ++ (xs ++ [(k : Int) + 1])) = tk ds xs (k + 1)) := hide (by
        show _ = mc ds (tk ds xs k ++ (xs ++ [((k + 1 : Nat) : Int)]))
        rw [Int.natCast_add]; rfl)
      have Sr := hide (HS.out.below B.out)
      have Kr := hide (HK.out.below B.out HK.out.lt)
      go_wp2_with (refine step_loadA wD rfl rfl GD.out HDL.out ?_)
      refine (expanded_any ds _ _ _ (tk ds xs k) _ _ _ xs _ _ HD.out HDB.out SL.out HT.out Sr.out (by omega) Kr.out).mono ?_
      rintro e wa ⟨rfl, hba⟩
      rw [EN.out]
      have Ba := hide (B.out.trans (hba.mono B.out.size))
      have GOa := hide (GO.out.below hba GO.out.lt)
      have GDa := hide (GD.out.below hba GD.out.lt)
      clear hba GO GD SL Sr Kr B
      go_wp2_with (refine step_alloc zD rfl ?_)
      intro wb1 g11 hgb hleb hbb
      go_wp2_with (refine step_storeA wD rfl rfl rfl hgb HTD.out (One.u8 _) rfl ?_)
      intro wc hgc hbutc
      have hbac := hbb.trans (hbutc.below hleb)
      have Bc := hide (Ba.out.trans (hbac.mono Ba.out.size))
      have GOc := hide (GOa.out.below hbac GOa.out.lt)
      have GDc := hide (GDa.out.below hbac GDa.out.lt)
      have h11 : g11 ≠ g8 := by have := GOa.out.lt; omega
      have SDc := hide (hgc.sl0 (tk_isB ds xs (k + 1)) (by rw [HTL.out]; omega))
      rw [HTL.out] at SDc
      have SDd := hide (SDc.out.below ((Below.refl _ _).drew))
      have hs1 := slice_Dg g11
      have hs2 := sl_at g8 n (32 * k) ((k : Int) * 32) (by omega) hkn
      clear hbb hgb hleb hgc hbutc hbac GOa GDa Ba
      go_wp2_with fail
      go_region_law (refine rstep_copy rfl rfl rfl rfl SDd.out g8 (32 * k) (min 32 (n - 32 * k)) (by omega) (by exact GOc.out) (fun _ => rfl) (by rw [HOL.out]; omega) ?_; intro wd hgd hbutd)
      rw [HOS.out] at hgd
      have Bd := hide ((Bc.out.drew).trans (hbutd.below hl8))
      have GDd := hide ((GDc.out.below ((Below.refl _ _).drew) GDc.out.lt).but hbutd h38)
      have SDe := hide (SDd.out.but hbutd (fun _ x hx => by cases hx; exact h11))
      have GOd := hide hgd
      clear hgd hbutd GOc GDc SDc SDd Bc
      go_wp2
      go_roundw
      case rel => exact ⟨k + 1, by omega, by go_num, GOd.out, ⟨some ⟨g11, 0, none⟩, 32, by rw [HTL.out], by rw [HTL.out]; exact SDe.out⟩, GDd.out, Bd.out⟩
      case measure => simp [intOf]; omega
    · obtain rfl : k = (n + 31) / 32 := by omega
      have hlt' : ¬ ((((n + 31) / 32 : Nat) : Int) < ((n : Int) + 32 - 1) / 32) := by omega
      have EO := hide (ob_all ds xs n ((n + 31) / 32) (by omega))
      rw [EO.out] at GO
      go_wp2
      go_ret2
      exact ⟨g8, rfl, hl8, GO.out, B.out⟩

end Go.Proofs.YtefaabmkcgdkiaaDoor
