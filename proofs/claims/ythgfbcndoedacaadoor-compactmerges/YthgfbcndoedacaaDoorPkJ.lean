/-
  Texts one behind the other: Ob Od Tz Rx Is.
-/
import Derived.Test.YthgfbcndoedacaaDoorPkC
import Derived.Test.YthgfbcndoedacaaDoorPkE
import Derived.Test.YthgfbcndoedacaaDoorPkF
import Derived.Deep.RegionLaw
import Derived.Test.YthgfbcndoedacaaDoorPkD
import Derived.Test.YthgfbcndoedacaaDoorPkG
import Derived.Test.YthgfbcndoedacaaDoorPkB
import Derived.Lib.TrailingZeros
import Derived.Test.YthgfbcndoedacaaDoorPkI
import Derived.Test.YthgfbcndoedacaaDoorPkA
import Derived.RangeFuncNested
import Derived.RangeFuncBound
import Derived.RangeFuncCalls
import Derived.RangeFuncLeaves
import Derived.Shelf.Abstract
import Derived.Shelf.RegionOpen
import Derived.WalkKit
import Derived.OwnWalkIn
import Derived.TacticsInMore
import Derived.LoopNIn
import Derived.LoopIn

/-
  Contracts of octet's functions: room, number, Uint64, Digest; widened, putNumber, PutUint64, PutDigest.
-/
namespace Go.Proofs.YthgfbcndoedacaaDoor
open Go.RowKit
set_option linter.unusedVariables false

set_option maxHeartbeats 400000 in
theorem room_any (a : Option Addr) (len cap : Nat) (p : Int) (n : Nat) (w : World) (hl : len ≤ 140737488355328) (hn : n ≤ 32) :
    Calls Tryd.prog 58 #[.slice a len cap, .int .i64 p, .int .i64 n] w fun e w' => e = .returned (.int .i64 (rdE len p n)) ∧ w = w' := by
  by_cases h : p < 0
  · have e : rdE len p n = 2 := by simp [rdE, h]
    rw [e]
    go_enter Tryd.func58, Tryd.ntmps58
    go_wp2
    go_ret
    exact ⟨rfl, rfl⟩
  by_cases h' : (len : Int) < p
  · have e : rdE len p n = 2 := by simp [rdE, h']
    rw [e]
    clear e
    go_enter Tryd.func58, Tryd.ntmps58
    go_wp2
    go_ret
    exact ⟨rfl, rfl⟩
  by_cases h2 : (len : Int) - p < n
  · have e : rdE len p n = 10 := by simp [rdE, h, h', h2]
    rw [e]
    clear e
    go_enter Tryd.func58, Tryd.ntmps58
    go_wp2
    go_ret
    exact ⟨rfl, rfl⟩
  · have e : rdE len p n = 0 := by simp [rdE, h, h', h2]
    rw [e]
    clear e
    go_enter Tryd.func58, Tryd.ntmps58
    go_wp2
    go_ret
    exact ⟨rfl, rfl⟩
set_option maxHeartbeats 400000 in
theorem number_any (a : Option Addr) (len cap : Nat) (xs : List Int) (p : Int) (n : Nat) (w : World) (hs : Sl w a len cap xs) (hn : n ≤ 8) (hn0 : 0 < n) :
    Calls Tryd.prog 65 #[.slice a len cap, .int .i64 p, .int .i64 n] w fun e w' => e = .returned (.tuple #[.int .u64 (rdV xs p n), .int .i64 (rdN len p n), .int .i64 (rdE len p n)]) ∧ w = w' := by
  obtain ⟨hx, _, _, hl, hb, _, hc⟩ := hs
  by_cases h : p < 0 ∨ (len : Int) < p ∨ (len : Int) - p < n
  · have e1 : rdV xs p n = 0 := by simp [rdV, hx]; omega
    have e2 : rdN len p n = 0 := by simp [rdN]; omega
    have e3 : rdE len p n = 2 ∨ rdE len p n = 10 := by
      by_cases h1 : p < 0 ∨ (len : Int) < p
      · left; simp [rdE, h1]
      · right; have h2 : (len : Int) - p < n := by omega
        simp [rdE, h1, h2]
    rw [e1, e2]
    have hne : (rdE len p n != 0) = true := by simp; omega
    clear e1 e2 hc e3
    go_enter Tryd.func65, Tryd.ntmps65
    go_wp2_with (go_at_call 58; refine (room_any _ _ _ _ _ _ hl (by omega)).mono ?_; rintro e w' ⟨rfl, rfl⟩)
    go_ret3
    exact ⟨rfl, rfl⟩
  · obtain ⟨p, rfl⟩ := Int.eq_ofNat_of_zero_le (show 0 ≤ p by omega)
    obtain ⟨b, off, rfl, hce⟩ := hc (by omega)
    clear hc
    have e1 : rdV xs p n = beVal ((xs.drop p).take n) := by simp only [rdV, hx]; rw [if_pos (by omega)]; simp
    have e2 : rdN len p n = p + n := by simp [rdN]; omega
    have e3 : rdE len p n = 0 := by simp [rdE]; omega
    rw [e1, e2, e3]
    have E3 : Hid (rdE len p n = 0) := e3
    clear e1 e2 e3
    go_enter Tryd.func65, Tryd.ntmps65
    go_wp2_with (go_at_call 58; refine (room_any _ _ _ _ _ _ hl (by omega)).mono ?_; rintro e w' ⟨rfl, rfl⟩; rw [E3.out])
    go_loop [6, 19] (fun v i => ∃ k : Nat, k ≤ n ∧ i = .int .i64 k ∧ v = .int .u64 (beVal ((xs.drop p).take k))) (fun _ i => n - (intOf i).toNat)
    case atStart => exact ⟨0, Nat.zero_le _, rfl, by simp [beVal]⟩
    case round =>
      obtain ⟨k, hk, rfl, rfl⟩ := hrel
      by_cases hlt : k < n
      · have hck := hce (p + k) (by omega)
        have HS : Hid _ := beVal_step xs p k (by omega)
        have H2 : Hid _ := hb.get (p + k)
        have H3 : Hid _ := beVal_take_bd xs hb p k (by omega) (by omega)
        go_wp2
        go_round
        case rel =>
          refine ⟨k + 1, by omega, by go_num, ?_⟩
          rw [HS.out, ← or_step _ _ H3.out.1 H3.out.2 H2.out.1 H2.out.2]
          rfl
        case measure => simp [intOf]; omega
      · have hkn : k = n := by omega
        subst hkn
        clear hce
        go_wp2
        go_ret3
        exact ⟨rfl, rfl⟩
set_option maxHeartbeats 400000 in
theorem uint64_any (a : Option Addr) (len cap : Nat) (xs : List Int) (p : Int) (w : World) (hs : Sl w a len cap xs) :
    Calls Tryd.prog 54 #[.slice a len cap, .int .i64 p] w fun e w' => e = .returned (.tuple #[.int .u64 (rdV xs p 8), .int .i64 (rdN len p 8), .int .i64 (rdE len p 8)]) ∧ w = w' := by
  go_enter Tryd.func54, Tryd.ntmps54
  go_wp2_with (go_at_call 65; refine (number_any _ _ _ xs _ 8 _ hs (by omega) (by omega)).mono ?_; rintro e w' ⟨rfl, rfl⟩)
  go_ret3
  exact ⟨rfl, rfl⟩

theorem spl_zer (ys : List Int) (n m : Nat) (h : ys.length = m) : spl (u8s (zer (m + n))) (u8s (ys.take m)) 0 = u8s (ys ++ zer n) := by
  rw [spl_u8, ← h, List.take_length]
  congr 1
  simp [splB, zer]
set_option maxHeartbeats 400000 in
theorem widened_any (a : Option Addr) (len cap : Nat) (xs : List Int) (n : Nat) (w : World) (hs : Sl w a len cap xs) (hn : n ≤ 64) :
    Calls Tryd.prog 62 #[.slice a len cap, .int .i64 n] w fun e w' => ∃ g, e = .returned (.slice (some ⟨g, 0, none⟩) (len + n) (len + n)) ∧ w.heap.size ≤ g ∧ Blk w' g 5 (u8s (xs ++ zer n)) ∧ Below w.heap.size w w' := by
  have hr := hs.hreach
  have HS := hide hs
  clear hs
  go_enter Tryd.func62, Tryd.ntmps62
  go_wp2_with (refine step_make (len + n) rfl rfl rfl (by omega) (by omega) (by omega) ?_)
  intro w1 g hrow hg hb
  go_wp2_with (refine step_copy rfl rfl rfl (HS.out.below hb) g 0 len (by omega) hrow (fun _ => rfl) (by rw [u8s_length, zer_length]; omega) ?_)
  intro w2 hrow2 hbut
  rw [spl_zer xs n len HS.out.hlen] at hrow2
  go_wp2
  go_ret
  exact ⟨g, rfl, hg, hrow2, hb.trans (hbut.below hg)⟩
/-- One byte more of B laid over noughts. -/
theorem fill_step (xs B : List Int) (len n k : Nat) (hx : xs.length = len) (hB : B.length = n) (hk : k < n) :
    (xs ++ (B.take k ++ zer (n - k))).set (len + k) (B.getD k 0) = xs ++ (B.take (k + 1) ++ zer (n - (k + 1))) := by
  subst hx
  rw [List.set_append_right _ _ (by omega), Nat.add_sub_cancel_left]
  congr 1
  have hz : zer (n - k) = 0 :: zer (n - (k + 1)) := by
    have : n - k = (n - (k + 1)) + 1 := by omega
    rw [this]; simp [zer, List.replicate_succ]
  rw [List.set_append_right _ _ (by simp; omega), hz]
  have e : k - (B.take k).length = 0 := by simp; omega
  have e2 : B.getD k 0 = B[k] := by simp [List.getD, hB, hk]
  rw [e, e2, List.take_succ_eq_append_getElem (by omega), List.append_assoc]
  rfl
set_option maxHeartbeats 400000 in
theorem putNumber_any (a : Option Addr) (len cap : Nat) (xs : List Int) (v : Int) (n : Nat) (w : World) (hs : Sl w a len cap xs) (hn : n ≤ 8) (hv : 0 ≤ v) (hv2 : v < 18446744073709551616) :
    Calls Tryd.prog 61 #[.slice a len cap, .int .u64 v, .int .i64 n] w fun e w' => ∃ g, e = .returned (.slice (some ⟨g, 0, none⟩) (len + n) (len + n)) ∧ w.heap.size ≤ g ∧ Blk w' g 5 (u8s (xs ++ be v n)) ∧ Below w.heap.size w w' := by
  have hr := hs.hreach
  have HS := hide hs
  clear hs
  go_enter Tryd.func61, Tryd.ntmps61
  go_wp2_with (go_at_call 62; refine (widened_any _ _ _ xs n _ HS.out (by omega)).mono ?_; rintro e w1 ⟨g, rfl, hg, hrow, hb⟩)
  go_loopw [13] (fun i wr => ∃ k : Nat, k ≤ n ∧ i = .int .i64 k ∧ Blk wr g 5 (u8s (xs ++ ((be v n).take k ++ zer (n - k)))) ∧ Below w.heap.size w wr) (fun i _ => n - (intOf i).toNat)
  case atStart => exact ⟨0, by omega, rfl, by simpa using hrow, hb⟩
  case round =>
    obtain ⟨k, hk, rfl, hr1, hb1⟩ := hrel
    by_cases hlt : k < n
    · have hl1 : (xs ++ ((be v n).take k ++ zer (n - k))).length = len + n := by simp [be_length, zer_length, HS.out.hlen]; omega
      have hcell : wr.cell? ⟨g, len + k, none⟩ = some (.int .u8 ((xs ++ ((be v n).take k ++ zer (n - k))).getD (len + k) 0)) := by rw [hr1.cell, u8s_get _ _ (by omega)]
      have hfree := hr1.free (len + k)
      clear hl1
      have HE := hide (fill_step xs (be v n) len n k HS.out.hlen (be_length v n) hlt)
      have HR := hide hr1
      clear hr1
      go_wp2
      go_roundw
      case rel =>
        have e := HR.out.set (len + k) (.int .u8 ((be v n).getD k 0))
        rw [u8s_set, HE.out, be_get v n k hlt, ← pow2_8] at e
        exact ⟨k + 1, by omega, by go_num, e, hb1.setCell hg _⟩
      case measure => simp [intOf]; omega
    · have hkn : k = n := by omega
      subst hkn
      go_wp2
      go_ret
      refine ⟨g, rfl, hg, ?_, hb1⟩
      have e : xs ++ (List.take k (be v k) ++ zer (k - k)) = xs ++ be v k := by
        rw [List.take_of_length_le (by rw [be_length]; exact Nat.le_refl _)]; simp [zer]
      rw [e] at hr1
      exact hr1
set_option maxHeartbeats 400000 in
theorem putUint64_any (a : Option Addr) (len cap : Nat) (xs : List Int) (v : Int) (w : World) (hs : Sl w a len cap xs) (hv : 0 ≤ v) (hv2 : v < 18446744073709551616) :
    Calls Tryd.prog 45 #[.slice a len cap, .int .u64 v] w fun e w' => ∃ g, e = .returned (.slice (some ⟨g, 0, none⟩) (len + 8) (len + 8)) ∧ w.heap.size ≤ g ∧ Blk w' g 5 (u8s (xs ++ be v 8)) ∧ Below w.heap.size w w' := by
  have HS := hide hs
  clear hs
  go_enter Tryd.func45, Tryd.ntmps45
  go_wp2_with (go_at_call 61; refine (putNumber_any _ _ _ xs v 8 _ HS.out (by omega) hv hv2).mono ?_; rintro e w1 ⟨g, rfl, hg, hrow, hb⟩)
  go_ret
  exact ⟨g, rfl, hg, hrow, hb⟩
theorem spl_tail (xs ds : List Int) (len : Nat) (hx : xs.length = len) (hd : ds.length = 32) : spl (u8s (xs ++ zer 32)) (u8s (ds.take 32)) len = u8s (xs ++ ds) := by
  subst hx
  rw [spl_u8, List.take_of_length_le (by omega)]
  congr 1
  simp only [splB, hd, List.take_left]
  rw [List.drop_eq_nil_of_le (by simp [zer])]
  simp
set_option maxHeartbeats 400000 in
theorem putDigest_any (a : Option Addr) (len cap : Nat) (xs ds : List Int) (w : World) (hs : Sl w a len cap xs) (hd : ds.length = 32) (hdb : isB ds) :
    Calls Tryd.prog 46 #[.slice a len cap, .agg (u8s ds).toArray] w fun e w' => ∃ g, e = .returned (.slice (some ⟨g, 0, none⟩) (len + 32) (len + 32)) ∧ w.heap.size ≤ g ∧ Blk w' g 5 (u8s (xs ++ ds)) ∧ Below w.heap.size w w' := by
  have HS := hide hs
  have HD := hide hd
  have hreach := hs.hreach
  clear hs hd
  go_enter Tryd.func46, Tryd.ntmps46
  go_wp2_with (refine step_box rfl rfl ?_)
  intro w1 g1 hr1 hg1 hb1
  go_wp2_with (go_at_call 62; refine (widened_any _ _ _ xs 32 _ (HS.out.below hb1) (by omega)).mono ?_; rintro e w2 ⟨g2, rfl, hg2, hr2, hb2⟩)
  have hr1' := hr1.below hb2 hr1.lt
  have hsl := hide (hr1'.sl 0 32 ds (by rw [List.drop_zero, List.take_of_length_le (by rw [u8s_length]; exact Nat.le_refl _)]) hdb (by rw [HD.out]; omega) (by rw [HD.out]; omega) (by omega))
  rw [HD.out] at hsl
  have hll : Hid ((u8s (xs ++ zer 32)).length = len + 32) := by show _ = _; simp [u8s_length, zer, HS.out.hlen]
  have hle : (len : Int) ≤ (len : Int) + 32 := by omega
  have hsl2 := hide (hsl.out.below ((Below.refl _ _).drew))
  go_region_law (refine rstep_copy rfl rfl rfl rfl hsl2.out g2 len 32 (by omega) hr2 (fun _ => rfl) (by rw [hll.out]; omega) ?_; intro w3 hr3 hbut3)
  rw [spl_tail xs ds len HS.out.hlen HD.out] at hr3
  have hb3 : Below w.heap.size w w3 := ((hb1.trans (hb2.mono hb1.size)).drew).trans (hbut3.below (Nat.le_trans hb1.size hg2))
  clear hr1 hr1' hr2 hsl hsl2 hbut3 hll
  go_wp2
  go_ret
  exact ⟨g2, rfl, Nat.le_trans hb1.size hg2, hr3, hb3⟩

end Go.Proofs.YthgfbcndoedacaaDoor

/-
  octet.Digest; compact.readSpan.
-/
namespace Go.Proofs.YthgfbcndoedacaaDoor
open Go.RowKit
set_option linter.unusedVariables false

set_option maxHeartbeats 400000 in
theorem octD_bad (a : Option Addr) (len cap : Nat) (p : Int) (w : World) (hl : len ≤ 140737488355328) (h : p < 0 ∨ (len : Int) < p ∨ (len : Int) - p < 32) :
    Calls Tryd.prog 38 #[.slice a len cap, .int .i64 p] w fun e w' => (∃ E, E ≠ 0 ∧ e = .returned (.tuple #[.agg (u8s (zer 32)).toArray, .int .i64 0, .int .i64 E])) ∧ Below w.heap.size w w' := by
  have e3 : rdE len p 32 = 2 ∨ rdE len p 32 = 10 := by
    by_cases h1 : p < 0 ∨ (len : Int) < p
    · left; simp [rdE, h1]
    · right; have h2 : (len : Int) - p < 32 := by omega
      simp [rdE, h1, h2]
  have hne0 : rdE len p 32 ≠ 0 := by omega
  have hne : (rdE len p 32 != 0) = true := by simp; omega
  have HNE := hide hne0
  clear e3 h hne0
  go_enter Tryd.func38, Tryd.ntmps38
  go_wp2_with (refine step_alloc zD rfl ?_)
  intro w1 g1 hr1 hg1 hb1
  have G1 := hide hr1
  clear hr1
  go_wp2_with (first | (go_at_call 58; refine (room_any _ _ _ _ 32 _ hl (by omega)).mono ?_; rintro e w' ⟨rfl, rfl⟩) | (refine step_buildD rfl ?_) | (refine step_storeA wD rfl rfl rfl G1.out rfl (One.u8 _) rfl ?_; intro w2 hg2 hbut))
  refine bodyPost_ret (results_wide3 rfl wD _ _ rfl hg2 rfl) rfl ⟨⟨_, HNE.out, rfl⟩, ?_⟩
  exact hb1.trans (hbut.below hg1)

theorem spl_full {cs vs : List Value} (h : vs.length = cs.length) : spl cs vs 0 = vs := by
  unfold spl
  rw [List.drop_of_length_le (by omega)]
  simp
set_option maxHeartbeats 400000 in
theorem octD_ok (b off len cap : Nat) (xs : List Int) (p : Nat) (w : World) (hs : Sl w (some ⟨b, off, none⟩) len cap xs) (h : p + 32 ≤ len) :
    Calls Tryd.prog 38 #[.slice (some ⟨b, off, none⟩) len cap, .int .i64 (p : Int)] w fun e w' => e = .returned (.tuple #[.agg (u8s ((xs.drop p).take 32)).toArray, .int .i64 (p + 32 : Int), .int .i64 0]) ∧ Below w.heap.size w w' := by
  have hl := hs.hreach
  have hcap := hs.hcap
  have HS := hide hs
  obtain ⟨ys, HYE⟩ : ∃ ys, Hid ((xs.drop p).take 32 = ys) := ⟨_, hide rfl⟩
  have HY : Hid (ys.length = 32) := hide (by rw [← HYE.out]; simp; have := hs.hlen; omega)
  have HUL : Hid ((u8s ys).length = 32) := hide (by rw [u8s_length, HY.out])
  rw [HYE.out]
  have E3 : Hid (rdE len p 32 = 0) := by show _ = _; simp [rdE]; omega
  clear hs
  go_enter Tryd.func38, Tryd.ntmps38
  go_wp2_with (refine step_alloc zD rfl ?_)
  intro w1 g1 hr1 hg1 hb1
  go_wp2_with (go_at_call 58; refine (room_any _ _ _ _ 32 _ hl (by omega)).mono ?_; rintro e w' ⟨rfl, rfl⟩; rw [E3.out])
  have hpl : p ≤ len := by omega
  have hpc : ¬ cap = p := by omega
  have HD := hide ((((HS.out.below hb1).drop p hpl)).below ((Below.refl _ _).drew))
  go_region_law (refine rstep_copy rfl rfl rfl rfl HD.out g1 0 32 (by omega) hr1 (fun _ => rfl) (by simp [u8s_length, zer_length]) ?_; intro w3 hr3 hbut3)
  rw [HYE.out, spl_full (by rw [HUL.out]; rfl)] at hr3
  have G3 := hide hr3
  have hb3 : Below w.heap.size w w3 := hb1.drew.trans (hbut3.below hg1)
  clear hr1 hr3 hbut3 HD
  go_wp2_with (first | (refine step_loadA wD rfl rfl G3.out HUL.out ?_) | (refine step_storeA wD rfl rfl rfl G3.out HUL.out (One.u8 _) HUL.out ?_))
  intro w5 hr5 hbut5
  go_wp2
  refine bodyPost_ret (results_wide3 rfl wD _ _ rfl hr5 HUL.out) rfl ⟨?_, hb3.trans (hbut5.below hg1)⟩
  simp

/-- Is there a span that a range can have? -/
def rsOK (xs : List Int) : Prop := 16 ≤ xs.length ∧ rdV xs 0 8 ≤ rdV xs 8 8 ∧ rdV xs 8 8 ≤ 281474976710656
set_option maxHeartbeats 1000000 in
theorem rs_bad (a : Option Addr) (len cap : Nat) (xs : List Int) (w : World) (hs : Sl w a len cap xs) (h : ¬ rsOK xs) :
    Calls Tryd.prog 36 #[.slice a len cap] w fun r w' => r = .returned (.tuple #[.agg #[.int .i64 0, .int .i64 0], .int .i64 0, .bool false]) ∧ Below w.heap.size w w' := by
  have HS := hide hs
  have hx := hs.hlen
  have hl := hs.hreach
  have hbd0 := rdV_bd xs hs.hbyte 0 8
  have hbd8 := rdV_bd xs hs.hbyte 8 8
  clear hs
  by_cases h8 : len < 8
  · have hne : (rdE len 0 8 != 0) = true := by simp [rdE]; omega
    clear h hbd0 hbd8 hx
    go_enter Tryd.func36, Tryd.ntmps36
    go_wp2_with (refine step_alloc zSp rfl ?_)
    intro w1 g1 hg1 hle1 hb1
    have G1 := hide hg1
    clear hg1
    go_wp2_with fail
    refine (uint64_any a len cap xs 0 _ (HS.out.below hb1)).mono ?_
    rintro r w' ⟨rfl, rfl⟩
    go_wp2_with (refine step_storeA wSpn rfl rfl rfl G1.out rfl (One.two 0 0) rfl ?_; intro w2 hg2 hbut)
    refine bodyPost_ret (results_wide3 rfl wSpn _ _ rfl hg2 rfl) rfl ⟨rfl, hb1.trans (hbut.below hle1)⟩
  have E0 : rdE len 0 8 = 0 := by simp [rdE]; omega
  have N0 : rdN len 0 8 = 8 := by simp [rdN]; omega
  by_cases h16 : len < 16
  · have hne : (rdE len 8 8 != 0) = true := by simp [rdE]; omega
    clear h hbd0 hbd8 hx
    go_enter Tryd.func36, Tryd.ntmps36
    go_wp2_with (refine step_alloc zSp rfl ?_)
    intro w1 g1 hg1 hle1 hb1
    have G1 := hide hg1
    clear hg1
    go_wp2_with fail
    refine (uint64_any a len cap xs 0 _ (HS.out.below hb1)).mono ?_
    rintro r w' ⟨rfl, rfl⟩
    rw [E0, N0]
    go_wp2_with fail
    refine (uint64_any a len cap xs 8 _ (HS.out.below hb1)).mono ?_
    rintro r w' ⟨rfl, rfl⟩
    go_wp2_with (refine step_storeA wSpn rfl rfl rfl G1.out rfl (One.two 0 0) rfl ?_; intro w2 hg2 hbut)
    refine bodyPost_ret (results_wide3 rfl wSpn _ _ rfl hg2 rfl) rfl ⟨rfl, hb1.trans (hbut.below hle1)⟩
  have E8 : rdE len 8 8 = 0 := by simp [rdE]; omega
  by_cases hbe : rdV xs 8 8 < rdV xs 0 8
  · obtain ⟨vb, hvb⟩ : ∃ v, rdV xs 0 8 = v := ⟨_, rfl⟩
    obtain ⟨ve, hve⟩ : ∃ v, rdV xs 8 8 = v := ⟨_, rfl⟩
    rw [hvb, hve] at hbe
    have HVB := hide hvb
    have HVE := hide hve
    clear h hbd0 hbd8 hx hvb hve
    go_enter Tryd.func36, Tryd.ntmps36
    go_wp2_with (refine step_alloc zSp rfl ?_)
    intro w1 g1 hg1 hle1 hb1
    have G1 := hide hg1
    clear hg1
    go_wp2_with fail
    refine (uint64_any a len cap xs 0 _ (HS.out.below hb1)).mono ?_
    rintro r w' ⟨rfl, rfl⟩
    rw [E0, N0, HVB.out]
    go_wp2_with fail
    refine (uint64_any a len cap xs 8 _ (HS.out.below hb1)).mono ?_
    rintro r w' ⟨rfl, rfl⟩
    rw [E8, HVE.out]
    go_wp2_with (refine step_storeA wSpn rfl rfl rfl G1.out rfl (One.two 0 0) rfl ?_; intro w2 hg2 hbut)
    refine bodyPost_ret (results_wide3 rfl wSpn _ _ rfl hg2 rfl) rfl ⟨rfl, hb1.trans (hbut.below hle1)⟩
  have hmx : 281474976710656 < rdV xs 8 8 := by
    apply Int.not_le.1
    intro hc
    exact h ⟨by omega, by omega, hc⟩
  · obtain ⟨vb, hvb⟩ : ∃ v, rdV xs 0 8 = v := ⟨_, rfl⟩
    obtain ⟨ve, hve⟩ : ∃ v, rdV xs 8 8 = v := ⟨_, rfl⟩
    rw [hvb, hve] at hbe
    rw [hve] at hmx
    have HVB := hide hvb
    have HVE := hide hve
    clear h hbd0 hbd8 hx hvb hve
    go_enter Tryd.func36, Tryd.ntmps36
    go_wp2_with (refine step_alloc zSp rfl ?_)
    intro w1 g1 hg1 hle1 hb1
    have G1 := hide hg1
    clear hg1
    go_wp2_with fail
    refine (uint64_any a len cap xs 0 _ (HS.out.below hb1)).mono ?_
    rintro r w' ⟨rfl, rfl⟩
    rw [E0, N0, HVB.out]
    go_wp2_with fail
    refine (uint64_any a len cap xs 8 _ (HS.out.below hb1)).mono ?_
    rintro r w' ⟨rfl, rfl⟩
    rw [E8, HVE.out]
    go_wp2_with (refine step_storeA wSpn rfl rfl rfl G1.out rfl (One.two 0 0) rfl ?_; intro w2 hg2 hbut)
    refine bodyPost_ret (results_wide3 rfl wSpn _ _ rfl hg2 rfl) rfl ⟨rfl, hb1.trans (hbut.below hle1)⟩
set_option maxHeartbeats 1000000 in
theorem rs_ok (a : Option Addr) (len cap : Nat) (xs : List Int) (w : World) (hs : Sl w a len cap xs) (h : rsOK xs) :
    Calls Tryd.prog 36 #[.slice a len cap] w fun r w' => r = .returned (.tuple #[.agg #[.int .i64 (rdV xs 0 8), .int .i64 (rdV xs 8 8)], .int .i64 16, .bool true]) ∧ Below w.heap.size w w' := by
  have HS := hide hs
  have hx := hs.hlen
  have hl := hs.hreach
  obtain ⟨h16, hbe, hmx⟩ := h
  have hbd0 := (rdV_bd xs hs.hbyte 0 8).1
  have E0 : rdE len 0 8 = 0 := by simp [rdE]; omega
  have N0 : rdN len 0 8 = 8 := by simp [rdN]; omega
  have E8 : rdE len 8 8 = 0 := by simp [rdE]; omega
  have N8 : rdN len 8 8 = 16 := by simp [rdN]; omega
  obtain ⟨vb, hvb⟩ : ∃ v, rdV xs 0 8 = v := ⟨_, rfl⟩
  obtain ⟨ve, hve⟩ : ∃ v, rdV xs 8 8 = v := ⟨_, rfl⟩
  rw [hvb, hve] at hbe ⊢
  rw [hve] at hmx
  rw [hvb] at hbd0
  have HVB := hide hvb
  have HVE := hide hve
  have hbe' : ¬ ve < vb := by omega
  have hmx' : ¬ 281474976710656 < ve := by omega
  have w1' : wrap64 vb = vb := by unfold wrap64; omega
  have w2' : wrap64 ve = ve := by unfold wrap64; omega
  clear hs hx hvb hve h16
  go_enter Tryd.func36, Tryd.ntmps36
  go_wp2_with (refine step_alloc zSp rfl ?_)
  intro w1 g1 hg1 hle1 hb1
  have G1 := hide hg1
  clear hg1
  go_wp2_with fail
  refine (uint64_any a len cap xs 0 _ (HS.out.below hb1)).mono ?_
  rintro r w' ⟨rfl, rfl⟩
  rw [E0, N0, HVB.out]
  go_wp2_with fail
  refine (uint64_any a len cap xs 8 _ (HS.out.below hb1)).mono ?_
  rintro r w' ⟨rfl, rfl⟩
  rw [E8, N8, HVE.out]
  go_wp2_with (refine step_storeA wSpn rfl rfl rfl G1.out rfl (One.two vb ve) rfl ?_; intro w2 hg2 hbut)
  refine bodyPost_ret (results_wide3 rfl wSpn _ _ rfl hg2 rfl) rfl ⟨rfl, hb1.trans (hbut.below hle1)⟩

end Go.Proofs.YthgfbcndoedacaaDoor

/-
  bits.TrailingZeros over its table; the level at which a span's next part stands.
-/
namespace Go.Proofs.YthgfbcndoedacaaDoor
open Go.RowKit
set_option linter.unusedVariables false

/-- The table lies in its place. -/
def TT (w : World) : Prop := ∀ i, i < 64 → w.cell? ⟨1, i, none⟩ = some (.int .u8 (Lib.deBruijn64tab.getD i 0 : Int))
theorem TT.lt {w : World} (h : TT w) : 1 < w.heap.size := World.block_lt_of_cell? w _ (h 0 (by decide))
theorem TT.block {w w' : World} (h : TT w) (hb : w'.heap[1]? = w.heap[1]?) : TT w' := fun i hi => by
  rw [World.cell?_of_block (w := w) hb]; exact h i hi
theorem TT.below {w w' : World} {B : Nat} (h : TT w) (hb : Below B w w') (hB : 1 < B) : TT w' := h.block (hb.block _ hB)

theorem and_nat (a b : Nat) (ha : a < 2 ^ 64) (hb : b < 2 ^ 64) : bits .and .u64 (a : Int) (b : Int) = ((a &&& b : Nat) : Int) := by
  have hx : a &&& b < 2 ^ 64 := Nat.and_lt_two_pow _ hb
  have h1 : (BitVec.ofInt 64 (a : Int)).toNat = a := by rw [BitVec.ofInt_natCast, BitVec.toNat_ofNat]; exact Nat.mod_eq_of_lt ha
  have h2 : (BitVec.ofInt 64 (b : Int)).toNat = b := by rw [BitVec.ofInt_natCast, BitVec.toNat_ofNat]; exact Nat.mod_eq_of_lt hb
  show IntKind.u64.wrap ((BitVec.ofInt 64 (a : Int) &&& BitVec.ofInt 64 (b : Int)).toNat : Int) = _
  rw [BitVec.toNat_and, h1, h2, IntKind.wrap_u64]
  omega
/-- Which place of the table is asked. -/
theorem tz_place (x P : Nat) (hx : x < 2 ^ 64) (h0 : x ≠ 0) (hP : x &&& (2 ^ 64 - x) = P) : IntKind.u64.wrap (bits BinOp.and IntKind.u64 (x : Int) (IntKind.u64.wrap (-(x : Int))) * 285870213051353865) / 288230376151711744 = ((P * 285870213051353865 % 18446744073709551616 / 288230376151711744 : Nat) : Int) := by
  have e1 : IntKind.u64.wrap (-(x : Int)) = ((2 ^ 64 - x : Nat) : Int) := by rw [IntKind.wrap_u64]; omega
  rw [e1, and_nat x _ hx (by omega), hP, IntKind.wrap_u64]
  omega

set_option maxHeartbeats 1000000 in
theorem tz64_at (x k idx : Nat) (w : World) (h0 : ((x : Int) == 0) = false) (key : IntKind.u64.wrap (bits BinOp.and IntKind.u64 (x : Int) (IntKind.u64.wrap (-(x : Int))) * 285870213051353865) / 288230376151711744 = (idx : Int)) (hi : idx < 64) (hk : k < 64)
    (hc : w.cell? ⟨1, idx, none⟩ = some (.int .u8 (k : Int))) :
    Calls Tryd.prog 67 #[.int .u64 (x : Int)] w fun e w' => e = .returned (.int .i64 (k : Int)) ∧ w' = w := by
  go_enter Tryd.func67, Tryd.ntmps67
  go_wp2_with (simp only [key])
  go_ret
  exact ⟨rfl, rfl⟩
theorem tz64_any (x : Nat) (w : World) (hx : x < 2 ^ 64) (ht : TT w) : Calls Tryd.prog 67 #[.int .u64 (x : Int)] w fun e w' => e = .returned (.int .i64 (Lib.ctz 64 x : Int)) ∧ w' = w := by
  by_cases h0 : x = 0
  · subst h0
    go_enter Tryd.func67, Tryd.ntmps67
    go_wp2
    go_ret
    exact ⟨rfl, rfl⟩
  · obtain ⟨h1, h2⟩ := Lib.lowest_bit 64 x h0 hx
    obtain ⟨h3, h4⟩ := Lib.deBruijn64_at _ h2
    have hc := ht _ h3
    rw [h4] at hc
    exact tz64_at x _ _ w (by simp; omega) (tz_place x _ hx h0 h1) h3 h2 hc
theorem tz_any (x : Nat) (w : World) (hx : x < 2 ^ 64) (ht : TT w) : Calls Tryd.prog 56 #[.int .u64 (x : Int)] w fun e w' => e = .returned (.int .i64 (Lib.ctz 64 x : Int)) ∧ w' = w := by
  have hw : IntKind.u64.wrap (x : Int) = (x : Int) := by rw [IntKind.wrap_u64]; omega
  go_enter Tryd.func56, Tryd.ntmps56
  go_wp2_with (go_at_call 67; refine (tz64_any x _ hx ht).mono ?_; rintro e w' ⟨rfl, rfl⟩)
  go_ret
  exact ⟨rfl, rfl⟩

/-- The level of the next part. -/
theorem lev_min (a n : Nat) (ha : a < 2 ^ 64) (h0 : 0 < n) (hn : n ≤ 2 ^ 48) : IsLev a n (min (Lib.ctz 64 a) (Lib.bitLen n - 1)) := by
  obtain ⟨b1, b2, b3⟩ := bitLen_pow n n (Nat.le_refl _) h0 (Nat.lt_of_le_of_lt hn (by decide))
  have hc : ∀ j, j ≤ 49 → (2 ^ j ∣ a ↔ j ≤ Lib.ctz 64 a) := by
    intro j hj
    by_cases ha0 : a = 0
    · subst ha0
      exact ⟨fun _ => Nat.le_trans hj (by decide), fun _ => Nat.dvd_zero _⟩
    · obtain ⟨m, hm, hk⟩ := Lib.ctzFrom_spec 64 a (by omega) ha
      have e : Lib.ctz 64 a = Lib.ctzFrom 64 a := by simp [Lib.ctz, ha0]
      rw [e]
      generalize Lib.ctzFrom 64 a = c at *
      constructor
      · intro hd
        apply Nat.le_of_not_lt
        intro hl
        have h1 : 2 ^ (c + 1) ∣ 2 ^ c * (2 * m + 1) := by rw [← hm]; exact Nat.dvd_trans (Nat.pow_dvd_pow 2 hl) hd
        rw [Nat.pow_succ] at h1
        have h2 := Nat.dvd_of_mul_dvd_mul_left (Nat.two_pow_pos c) h1
        omega
      · intro hl
        rw [hm]
        exact Nat.dvd_trans (Nat.pow_dvd_pow 2 hl) (Nat.dvd_mul_right _ _)
  have hl49 : Lib.bitLen n - 1 ≤ 48 := by
    apply Nat.le_of_not_lt
    intro hl
    have h1 : 2 ^ 49 ≤ 2 ^ (Lib.bitLen n - 1) := Nat.pow_le_pow_right (by decide) hl
    have h2 : (2 : Nat) ^ 48 < 2 ^ 49 := by decide
    omega
  refine ⟨(hc _ (by omega)).2 (Nat.min_le_left _ _), Nat.le_trans (Nat.pow_le_pow_right (by decide) (Nat.min_le_right _ _)) b2, ?_⟩
  rintro ⟨d1, d2⟩
  have h1 := (hc _ (by omega)).1 d1
  have h2 : min (Lib.ctz 64 a) (Lib.bitLen n - 1) + 1 ≤ Lib.bitLen n - 1 := by
    apply Nat.le_of_lt_succ
    have h3 : 2 ^ (min (Lib.ctz 64 a) (Lib.bitLen n - 1) + 1) < 2 ^ Lib.bitLen n := Nat.lt_of_le_of_lt d2 b3
    have h4 := (Nat.pow_lt_pow_iff_right (a := 2) (by decide)).1 h3
    omega
  omega

end Go.Proofs.YthgfbcndoedacaaDoor

/-
  A range in memory; AppendNode and Append where they take what they are given.
-/
namespace Go.Proofs.YthgfbcndoedacaaDoor
open Go.RowKit Go.Shelf
set_option linter.unusedVariables false

/-- What belongs to a range. -/
def Foot (g : Nat) (v : Value) : Nat → Prop := fun k => k = g ∨ v.ownBlock = some k
/-- A range in memory: at g, its parts in v. -/
structure Rg (w : World) (B g b e : Nat) (v : Value) (ps : List Pt) : Prop where
  blk : Blk w g 54 (rgC b e v)
  own : POwn w B v ps
  good : GoodL ps
  nodes : ps.map Prod.fst = parts b e
  le : b ≤ e
  max : e ≤ 281474976710656
theorem Rg.below {w w' : World} {B g b e : Nat} {v : Value} {ps : List Pt} (h : Rg w B g b e v ps) (hb : Below w.heap.size w w') : Rg w' B g b e v ps := ⟨h.blk.below hb h.blk.lt, h.own.below hb, h.good, h.nodes, h.le, h.max⟩
theorem Rg.chs {S : Nat → Prop} {w w' : World} {B g b e : Nat} {v : Value} {ps : List Pt} (h : Rg w B g b e v ps) (hc : Chs S w w') (hS : ∀ k, Foot g v k → ¬ S k) : Rg w' B g b e v ps :=
  ⟨h.blk.chs hc (hS g (.inl rfl)), h.own.chs hc (fun k hk => hS k (.inr hk)), h.good, h.nodes, h.le, h.max⟩
theorem Rg.count {w : World} {B g b e : Nat} {v : Value} {ps : List Pt} (h : Rg w B g b e v ps) : ps.length ≤ 98 := by
  have := parts_98 b e h.max
  rw [← h.nodes] at this
  simpa using this

theorem mul_div_pow {e L : Nat} (h : 2 ^ L ∣ e) : e / 2 ^ L * 2 ^ L = e := Nat.div_mul_cancel h
/-- Nodes one behind the other, the last one first. -/
def AbutN : List (Nat × Nat) → Nat → Prop
  | [], _ => True
  | q :: st, s => (q.2 + 1) * 2 ^ q.1 = s ∧ AbutN st (q.2 * 2 ^ q.1)
theorem abut_of : ∀ (ps : List Pt) (s : Nat), AbutN (ps.map Prod.fst) s → Abut ps s
  | [], _, _ => trivial
  | q :: ps, s, h => ⟨h.1, abut_of ps _ h.2⟩
theorem abutN_snoc (n : Nat × Nat) : ∀ (st : List (Nat × Nat)) (s b : Nat), AbutN st s → (st = [] → s = b) → (∀ q, st.getLast? = some q → q.2 * 2 ^ q.1 = b) → (n.2 + 1) * 2 ^ n.1 = b → AbutN (st ++ [n]) s
  | [], s, b, _, h1, _, h3 => by
    have := h1 rfl
    subst this
    exact ⟨h3, trivial⟩
  | q :: st, s, b, h, _, h2, h3 => by
    refine ⟨h.1, abutN_snoc n st _ b h.2 ?_ ?_ h3⟩
    · intro e
      subst e
      exact h2 q rfl
    · intro q' hq'
      apply h2 q'
      cases st with
      | nil => cases hq'
      | cons a st => rw [List.getLast?_cons_cons]; exact hq'
theorem parts_abut (n : Nat) : ∀ (b e : Nat), e - b ≤ n → b ≤ e → e ≤ 2 ^ 48 → AbutN (parts b e).reverse e ∧ (∀ q, (parts b e).reverse.getLast? = some q → q.2 * 2 ^ q.1 = b) ∧ ((parts b e).reverse = [] → e = b) := by
  induction n with
  | zero =>
    intro b e hn hbe hm
    obtain rfl : b = e := by omega
    rw [parts_nil (Nat.le_refl _)]
    exact ⟨trivial, (fun q hq => by cases hq), fun _ => rfl⟩
  | succ n ih =>
    intro b e hn hbe hm
    by_cases hlt : b < e
    · have hk := lv_isLev (b := b) (n := e - b) (by omega) (by omega)
      rw [parts_step hk hm]
      generalize lv b (e - b) = k at *
      have hp := Nat.two_pow_pos k
      have hkl := hk.le
      obtain ⟨h1, h2, h3⟩ := ih (b + 2 ^ k) e (by omega) (by omega) hm
      have e1 := mul_div_pow hk.dvd
      rw [List.reverse_cons]
      refine ⟨abutN_snoc _ _ _ (b + 2 ^ k) h1 (fun e0 => h3 e0) h2 (by simp only [Nat.add_mul, e1]; omega), ?_, ?_⟩
      · intro q hq
        rw [List.getLast?_concat] at hq
        injection hq with hq
        subst hq
        exact e1
      · intro e0
        simp at e0
    · obtain rfl : b = e := by omega
      rw [parts_nil (Nat.le_refl _)]
      exact ⟨trivial, (fun q hq => by cases hq), fun _ => rfl⟩
theorem Rg.abut {w : World} {B g b e : Nat} {v : Value} {ps : List Pt} (h : Rg w B g b e v ps) : Abut ps.reverse e := by
  refine abut_of _ _ ?_
  rw [List.map_reverse, h.nodes]
  exact (parts_abut (e - b) b e (Nat.le_refl _) h.le h.max).1
/-- The nodes behind a put. -/
theorem putL_nodes {ps : List Pt} {b e L : Nat} {d : List Int} (h : ps.map Prod.fst = parts b e) (hbe : b ≤ e) (hd : 2 ^ L ∣ e) (hm : e + 2 ^ L ≤ 281474976710656) : (putL ps ((L, e / 2 ^ L), d)).map Prod.fst = parts b (e + 2 ^ L) := by
  unfold putL
  rw [List.map_reverse, putS_nodes, List.map_reverse, h]
  exact parts_put (e - b) b e L (Nat.le_refl _) hbe hd hm

theorem aux_rem (e P L : Nat) (hdv : 2 ^ L ∣ e) (HP : Hid (2 ^ L = P)) : ((e : Int)).tmod (P : Int) = 0 := by
  rw [← HP.out]
  obtain ⟨c, rfl⟩ := hdv
  rw [Int.natCast_mul, Int.mul_tmod_right]
theorem aux_quo (e P : Nat) : ((e : Int)).tdiv (P : Int) = ((e / P : Nat) : Int) := by
  rw [Int.tdiv_eq_ediv_of_nonneg (by omega), Int.natCast_ediv]
theorem aux_pow (P L : Nat) (HP : Hid (2 ^ L = P)) (h : P ≤ 281474976710656) : wrap64 (2 ^ L) = (P : Int) := by
  have e1 : ((2 : Int) ^ L) = (P : Int) := by rw [← HP.out]; simp [Int.natCast_pow]
  rw [e1]
  unfold wrap64
  omega
theorem aux_sub (e : Nat) (h : e ≤ 281474976710656) : wrap64 (281474976710656 - (e : Int)) = 281474976710656 - (e : Int) := by unfold wrap64; omega
theorem aux_wq (e P : Nat) (h : e ≤ 281474976710656) : IntKind.i64.wrap ((e / P : Nat) : Int) = ((e / P : Nat) : Int) := by
  have hdE : e / P ≤ e := Nat.div_le_self _ _
  generalize e / P = q at *
  rw [IntKind.wrap_i64]; omega
theorem aux_add (e P : Nat) (h : e + P ≤ 281474976710656) : IntKind.i64.wrap ((e : Int) + (P : Int)) = ((e + P : Nat) : Int) := by rw [IntKind.wrap_i64]; omega

set_option maxRecDepth 100000 in
set_option maxHeartbeats 400000 in
theorem appN_ok (B g b e L : Nat) (v : Value) (ps : List Pt) (d : List Int) (w : World) (hr : Rg w B g b e v ps) (hB : B ≤ w.heap.size) (hk : KT w) (hkg : 2 < g) (hkB : 2 < B) (hL : L ≤ 48) (hdv : 2 ^ L ∣ e) (hm : e + 2 ^ L ≤ 281474976710656) (hdl : d.length = 32) (hdb : isB d) :
    Calls Tryd.prog 11 #[.pointer (some ⟨g, 0, none⟩), .int .i64 (L : Int), .agg (u8s d).toArray] w fun r w' => ∃ v', r = .returned (.int .i64 0) ∧ Rg w' B g b (e + 2 ^ L) v' (putL ps ((L, e / 2 ^ L), d)) ∧ Chs (Foot g v) w w' ∧ (∀ k, v'.ownBlock = some k → v.ownBlock = some k ∨ w.heap.size ≤ k) := by
  have HR := hide hr
  have HK := hide hk
  have HDL := hide (show (u8s d).length = 32 by rw [u8s_length, hdl])
  have HDV := hide hdv
  have HB := hide hB
  have hp := Nat.two_pow_pos L
  obtain ⟨P, HP⟩ : ∃ P, Hid (2 ^ L = P) := ⟨_, hide rfl⟩
  rw [HP.out] at hp hm
  have hmax := hr.max
  have hrem := aux_rem e P L hdv HP
  have hquo := aux_quo e P
  have hpw := aux_pow P L HP (Nat.le_trans (Nat.le_add_left _ _) hm)
  have hsub := aux_sub e hmax
  have hwq := aux_wq e P hmax
  have hadd := aux_add e P hm
  clear hr hk hdv hB
  have HD0 := hide hdl
  have HGD : Hid (Good ((L, e / P), d)) := hide ⟨hdl, hdb, by simp; omega, by have : e / P ≤ e := Nat.div_le_self _ _; simp; omega⟩
  have HME : Hid (e / P * 2 ^ L = e) := hide (by rw [← HP.out]; exact mul_div_pow HDV.out)
  have HAB : Hid (Abut ps.reverse (e / P * 2 ^ L)) := hide (by rw [HME.out]; exact HR.out.abut)
  have HBD : Hid ((e / P + 1) * 2 ^ L ≤ 281474976710656) := hide (by rw [Nat.add_mul, HME.out, Nat.one_mul, HP.out]; exact hm)
  clear hdl hdb
  have hP0 : ¬ (P : Int) = 0 := by omega
  have hl0 : ¬ (L : Int) < 0 := by omega
  have hl1 : ¬ (48 : Int) < (L : Int) := by omega
  have hgt : ¬ (281474976710656 - (e : Int)) < (P : Int) := by omega
  go_enter Tryd.func11, Tryd.ntmps11
  go_wp2_with (refine step_box rfl rfl ?_)
  intro w1 g5 hg5 hle5 hb1
  have G5 := hide hg5
  have R1 := hide (HR.out.below hb1)
  have c0 : w1.cell? ⟨g, 0, none⟩ = some (.bool true) := by rw [R1.out.blk.cell]; rfl
  have c2 : w1.cell? ⟨g, 2, none⟩ = some (.int .i64 (e : Int)) := by rw [R1.out.blk.cell]; rfl
  clear hg5
  go_wp2_with (go_at_call 29; refine (made_is _ _ c0).mono ?_; rintro e w' ⟨rfl, rfl⟩)
  have hP0n : ¬ P = 0 := by omega
  have hwq2 : IntKind.i64.wrap ((e : Int) / (P : Int)) = (e : Int) / (P : Int) := by rw [← Int.natCast_ediv]; exact hwq
  obtain ⟨dD, huD, hdD⟩ := wD.und
  have hg5g : g5 ≠ g := (R1.out.blk.apart G5.out (by decide)).symm
  have HS1 : ∀ W : World, Blk W g 54 (rgC b e v) → Blk W g5 34 (u8s d) → W.cell? ⟨g, 2, none⟩ = some (.int .i64 (e : Int)) ∧ W.rangeAt g5 0 (u8s d) := fun W h1 h2 => ⟨by rw [h1.cell]; rfl, h2.range 0 _ (by rw [List.drop_zero, List.take_of_length_le (Nat.le_refl _)])⟩
  refine wp_region_noPanic ?_
  have bd := (Below.refl w1.heap.size w1).drew
  have R2 := hide (R1.out.below bd)
  have G52 := hide (G5.out.below bd G5.out.lt)
  have HB2 := hide (hb1.trans (bd.mono hb1.size))
  refine wp_region_held_drew (S := fun v : World => v.cell? ⟨g, 2, none⟩ = some (.int .i64 (e : Int)) ∧ v.rangeAt g5 0 (u8s d)) (by kernel_rfl) (HS1 _ R2.out.blk G52.out) (fun hHeld => ?_)
  refine takeH 0 35 (.pointer (some ⟨g, 0, none⟩)) hHeld rfl rfl (by kernel_rfl) (by kernel_rfl) (by kernel_rfl) (fun _ _ _ h => h) (Or.inl ⟨by rfl, fun w _ => by go_simp⟩) ?_
  simp only [Act.put, List.setIfInBounds_toArray, List.set_cons_zero, List.set_cons_succ]
  refine takeH 1 36 (.int .i64 (L : Int)) hHeld rfl rfl (by kernel_rfl) (by kernel_rfl) (by kernel_rfl) (fun _ _ _ h => h) (Or.inl ⟨by rfl, fun w _ => by go_simp⟩) ?_
  simp only [Act.put, List.setIfInBounds_toArray, List.set_cons_zero, List.set_cons_succ]
  refine takeH 2 37 (.pointer (some ⟨g, 0, none⟩)) hHeld rfl rfl (by kernel_rfl) (by kernel_rfl) (by kernel_rfl) (fun _ _ _ h => h) (Or.inl ⟨by rfl, fun w _ => by go_simp⟩) ?_
  simp only [Act.put, List.setIfInBounds_toArray, List.set_cons_zero, List.set_cons_succ]
  refine takeH 3 38 (.pointer (some ⟨g, 0, none⟩)) hHeld rfl rfl (by kernel_rfl) (by kernel_rfl) (by kernel_rfl) (fun _ _ _ h => h) (Or.inl ⟨by rfl, fun w _ => by go_simp⟩) ?_
  simp only [Act.put, List.setIfInBounds_toArray, List.set_cons_zero, List.set_cons_succ]
  refine takeH 4 39 (.pointer (some ⟨g, 1, none⟩)) hHeld rfl rfl (by kernel_rfl) (by kernel_rfl) (by kernel_rfl) (fun _ _ _ h => h) (Or.inl ⟨by rfl, fun w _ => by go_simp⟩) ?_
  simp only [Act.put, List.setIfInBounds_toArray, List.set_cons_zero, List.set_cons_succ]
  refine takeH 5 40 (.pointer (some ⟨g, 2, none⟩)) hHeld rfl rfl (by kernel_rfl) (by kernel_rfl) (by kernel_rfl) (fun _ _ _ h => h) (Or.inl ⟨by rfl, fun w _ => by go_simp⟩) ?_
  simp only [Act.put, List.setIfInBounds_toArray, List.set_cons_zero, List.set_cons_succ]
  refine takeH 6 41 (.int .i64 (e : Int)) hHeld rfl rfl (by kernel_rfl) (by kernel_rfl) (by kernel_rfl) (fun _ _ _ h => h) (Or.inl ⟨by rfl, fun w hw => by have hw' : w.cell? ⟨g, 2, none⟩ = some (.int .i64 (e : Int)) := (fun h => h.1) hw; go_simp⟩) ?_
  simp only [Act.put, List.setIfInBounds_toArray, List.set_cons_zero, List.set_cons_succ]
  refine takeH 7 42 (.int .i64 (P : Int)) hHeld rfl rfl (by kernel_rfl) (by kernel_rfl) (by kernel_rfl) (fun _ _ _ h => h) (Or.inl ⟨by rfl, fun w _ => by go_simp⟩) ?_
  simp only [Act.put, List.setIfInBounds_toArray, List.set_cons_zero, List.set_cons_succ]
  refine takeH 8 43 (.int .i64 ((e / P : Nat) : Int)) hHeld rfl rfl (by kernel_rfl) (by kernel_rfl) (by kernel_rfl) (fun _ _ _ h => h) (Or.inl ⟨by rfl, fun w _ => by go_simp⟩) ?_
  simp only [Act.put, List.setIfInBounds_toArray, List.set_cons_zero, List.set_cons_succ]
  refine takeH 9 44 (.agg (nC (L, e / P)).toArray) hHeld rfl rfl (by kernel_rfl) (by kernel_rfl) (by kernel_rfl) (fun _ _ _ h => h) (Or.inl ⟨by rfl, fun w _ => by go_simp; simp [nC]⟩) ?_
  simp only [Act.put, List.setIfInBounds_toArray, List.set_cons_zero, List.set_cons_succ]
  refine takeH 10 45 (.agg (u8s d).toArray) hHeld rfl rfl (by kernel_rfl) (by kernel_rfl) (by kernel_rfl) (fun _ _ _ h => h) (yieldsIf_load_mid (by rfl) _ _ rfl g5 0 rfl _ _ (fun w h => h.2) huD hdD (by rw [wD.size, HDL.out])) ?_
  simp only [Act.put, List.setIfInBounds_toArray, List.set_cons_zero, List.set_cons_succ]
  refine takeH 11 46 (.agg (pc ((L, e / P), d)).toArray) hHeld rfl rfl (by kernel_rfl) (by kernel_rfl) (by kernel_rfl) (fun _ _ _ h => h) (Or.inl ⟨by rfl, fun w _ => run_buildP rfl rfl HD0.out⟩) ?_
  simp only [Act.put, List.setIfInBounds_toArray, List.set_cons_zero, List.set_cons_succ]
  refine wpAnyH_ready (rs := [12]) (by kernel_rfl) (by simp) (AllReadyH.cons rfl (fun K hK => ?_) AllReadyH.nil)
  rw [if_pos (by rfl)]
  go_simp
  refine (put_any g B b e v ps ((L, e / P), d) _ R2.out.blk R2.out.own R2.out.good HGD.out (Nat.le_trans HB.out HB2.out.size) (by have := R2.out.count; omega) (HK.out.below HB2.out HK.out.lt) hkg hkB HAB.out HBD.out).mono ?_
  rintro r W3 ⟨u3, v3, rfl, hg3, ho3, hgl3, hch3, hnb3⟩
  have hG53 := G52.out.chs hch3 (by
    rintro (e1 | e1)
    · exact hg5g e1
    · exact (R2.out.own.apart G52.out (by decide)) e1)
  refine hK.out _ _ ⟨by rw [hg3.cell]; rfl, hG53.range 0 _ (by rw [List.drop_zero, List.take_of_length_le (Nat.le_refl _)])⟩ (fun hHeld => ?_)
  clear hK K
  refine wpAnyH_done (by kernel_rfl) ?_ _
  refine NoPanic.normal ?_
  clear hHeld
  have HG3 := hide hg3
  have HO3 := hide ho3
  have HCH := hide hch3
  have HNB := hide hnb3
  have HGL3 := hide hgl3
  have c23 : W3.cell? ⟨g, 2, none⟩ = some (.int .i64 (e : Int)) := by rw [hg3.cell]; rfl
  have f23 : W3.frozen? ⟨g, 2, none⟩ = false := hg3.free 2
  clear hg3 ho3 hch3 hnb3 hgl3 hG53
  go_wp2
  go_ret
  have hbut := But.setCell W3 g 2 (.int .i64 ((e + P : Nat) : Int))
  refine ⟨v3, rfl, ?_, ?_, fun k hk => (HNB.out k hk).imp id (fun h => Nat.le_trans HB2.out.size h)⟩
  · rw [HP.out]
    refine ⟨HG3.out.set 2 _, HO3.out.but hbut (HO3.out.apart HG3.out (by decide)), HGL3.out, ?_, Nat.le_trans HR.out.le (Nat.le_add_right _ _), hm⟩
    have := putL_nodes (d := d) HR.out.nodes HR.out.le HDV.out (by rw [HP.out]; exact hm)
    rwa [HP.out] at this
  · have h1 : Chs (Foot g v) w w1.drew := (Chs.refl _ _).thenBelow HB2.out
    exact (h1.trans HCH.out).thenBut hbut (.inl (.inl rfl))

end Go.Proofs.YthgfbcndoedacaaDoor

/-
  Steps of a walk inside a round of a range over a function.
-/
namespace Go.Proofs.YthgfbcndoedacaaDoor
open Go.RowKit Go.Shelf
set_option linter.unusedVariables false

/-- The fence that shuts nothing out, inside a round or not. -/
def WideF (F : Fence) : Prop := F = Fence.wide ∨ ∃ l, F = Fence.wide.inRound l
theorem WideF.wide : WideF Fence.wide := .inl rfl
theorem WideF.round (l : Nat) : WideF (Fence.wide.inRound l) := .inr ⟨l, rfl⟩
theorem WideF.fn {F : Fence} (h : WideF F) (f : FuncId) : F.fn f := by rcases h with rfl | ⟨l, rfl⟩ <;> trivial
theorem WideF.depth {F : Fence} (h : WideF F) : F.depth = none := by rcases h with rfl | ⟨l, rfl⟩ <;> rfl
theorem calls_round {F : Fence} {n : Nat} {P : Program} {f : FuncId} {args : Array Value} {w : World} {R : Ending → World → Prop} (hF : WideF F) (h : Calls P f args w R) : CallsIn F n P f args w R := by
  rcases hF with rfl | ⟨l, rfl⟩
  · exact (callsIn_wide (n := n)).2 h
  · exact (callsIn_wide (n := n)).2 h

/-- What an operation does inside a round is what it does everywhere. -/
theorem lift_op {F : Fence} {n : Nat} {P : Program} {o : Oper} {a : Act} {w : World} {K : Act → World → Prop} {Q : Exit → Act → World → Prop} (hF : WideF F) (hd : ∀ c, o.op ≠ .defer c) (h : Oper.wp P o a w K Q) : Oper.wpIn F n P o a w K Q := by
  refine ⟨fun f hf => hF.fn f, ?_⟩
  rw [Oper.semAt_plain _ _ _ hd]
  unfold Oper.wp at h
  cases hr : (execOp a.eval o).run P w with
  | ok r w' =>
    rw [hr] at h
    cases r with
    | enter f args => exact ⟨(fun hx => by rw [hF.depth] at hx; cases hx), calls_round hF h⟩
    | round => exact h.elim
    | row row args => 
      refine ⟨(fun hx => by rw [hF.depth] at hx; cases hx), ?_⟩
      rcases hF with rfl | ⟨l, rfl⟩
      · exact fun c cs _ => let ⟨v, w', r, s⟩ := h c cs; ⟨v, w', r, stepsIn_wide.2 s⟩
      · exact fun c cs _ => let ⟨v, w', r, s⟩ := h c cs; ⟨v, w', r, stepsIn_wide.2 s⟩
    | _ => exact h
  | halt x w' =>
    rw [hr] at h
    cases x <;> exact h

section
variable {F : Fence} {n : Nat} {dst : Option Tmp} {ty : TypeId} {pos : String} {aft : Array Edge} {gd : Option (Nat × Bool)} {ops : Array Oper} {rest : List Oper} {a : Act} {w : World} {Q : Exit → Act → World → Prop}
theorem istep {P : Program} {o : Oper} (hF : WideF F) (hd : ∀ c, o.op ≠ .defer c) (hw : Region.wanted o (yielded ops a.tmps) = true)
    (h : ∀ K : Act → World → Prop, (∀ a w, wpListIn F n P ops Q rest a w → K a w) → Oper.wp P o a w K Q) : wpListIn F n P ops Q (o :: rest) a w :=
  BigFrame.wpListIn_want hw fun K hK => lift_op hF hd (h K hK)
theorem istep_run {P : Program} {o : Oper} (hF : WideF F) (hd : ∀ c, o.op ≠ .defer c) (hw : Region.wanted o (yielded ops a.tmps) = true) (v : Value) (w' : World) (hrun : (execOp a.eval o).run P w = .ok (.value v) w')
    (h : wpListIn F n P ops Q rest (a.put o.dst v) w') : wpListIn F n P ops Q (o :: rest) a w :=
  istep hF hd hw fun K hK => by
    unfold Oper.wp
    rw [hrun, Oper.upon_value]
    exact hK _ _ h
theorem istep_alloc (hF : WideF F) {T : TypeId} {cs : List Value} (hz : Zeroed T cs) (hw : Region.wanted ⟨dst, .alloc T, ty, pos, aft, gd⟩ (yielded ops a.tmps) = true)
    (h : ∀ w1 g, Blk w1 g T cs → w.heap.size ≤ g → Below w.heap.size w w1 → wpListIn F n Tryd.prog ops Q rest (a.put dst (.pointer (some ⟨g, 0, none⟩))) w1) :
    wpListIn F n Tryd.prog ops Q (⟨dst, .alloc T, ty, pos, aft, gd⟩ :: rest) a w :=
  istep_run hF (fun c => by simp) hw _ _ (hz a.eval dst ty pos aft gd w) (h _ _ (Blk.made _ _ _) (Nat.le_refl _) ((Below.refl _ _).alloc (Nat.le_refl _) _))
theorem istep_load (hF : WideF F) {T : TypeId} {k : Nat} (hT : Wide T k) {x : Operand} (hw : Region.wanted ⟨dst, .load T x, ty, pos, aft, gd⟩ (yielded ops a.tmps) = true) {g off : Nat} {t : TypeId} {cs : List Value} (hx : a.eval x = .pointer (some ⟨g, off, none⟩)) (hg : Blk w g t cs)
    (vs : List Value) (hn : vs.length = k) (he : (cs.drop off).take k = vs) (h : wpListIn F n Tryd.prog ops Q rest (a.put dst (.agg vs.toArray)) w) :
    wpListIn F n Tryd.prog ops Q (⟨dst, .load T x, ty, pos, aft, gd⟩ :: rest) a w :=
  istep hF (fun c => by simp) hw fun _ hK => wp_loadW hT rfl hx hg vs hn he (hK _ _ h)
theorem istep_loadA (hF : WideF F) {T : TypeId} {k : Nat} (hT : Wide T k) {x : Operand} (hw : Region.wanted ⟨dst, .load T x, ty, pos, aft, gd⟩ (yielded ops a.tmps) = true) {g : Nat} {t : TypeId} {cs : List Value} (hx : a.eval x = .pointer (some ⟨g, 0, none⟩)) (hg : Blk w g t cs)
    (hn : cs.length = k) (h : wpListIn F n Tryd.prog ops Q rest (a.put dst (.agg cs.toArray)) w) :
    wpListIn F n Tryd.prog ops Q (⟨dst, .load T x, ty, pos, aft, gd⟩ :: rest) a w :=
  istep_load hF hT hw hx hg cs hn (by rw [List.drop_zero, List.take_of_length_le (by omega)]) h
theorem istep_storeA (hF : WideF F) {T : TypeId} {k : Nat} (hT : Wide T k) {x y : Operand} (hw : Region.wanted ⟨dst, .store T x y, ty, pos, aft, gd⟩ (yielded ops a.tmps) = true) {g : Nat} {t : TypeId} {cs vs : List Value} (hx : a.eval x = .pointer (some ⟨g, 0, none⟩)) (hy : a.eval y = .agg vs.toArray) (hg : Blk w g t cs)
    (hn : vs.length = k) (h1 : One vs) (hl : cs.length = k) (h : ∀ w1, Blk w1 g t vs → But g w w1 → wpListIn F n Tryd.prog ops Q rest (a.put dst undef) w1) :
    wpListIn F n Tryd.prog ops Q (⟨dst, .store T x y, ty, pos, aft, gd⟩ :: rest) a w :=
  istep hF (fun c => by simp) hw fun _ hK => wp_storeW hT rfl hx hy hg hn h1 (by omega) fun w1 hb hbut => hK _ _ (h w1 (by
    have e : spl cs vs 0 = vs := by
      unfold spl
      rw [List.drop_of_length_le (by omega)]
      simp
    rwa [e] at hb) hbut)
theorem istep_loadR (hF : WideF F) {T : TypeId} {k : Nat} (hT : Wide T k) {x : Operand} (hw : Region.wanted ⟨dst, .load T x, ty, pos, aft, gd⟩ (yielded ops a.tmps) = true) {g off : Nat} (hx : a.eval x = .pointer (some ⟨g, off, none⟩))
    (vs : List Value) (hr : w.rangeAt g off vs) (hn : vs.length = k) (h : wpListIn F n Tryd.prog ops Q rest (a.put dst (.agg vs.toArray)) w) :
    wpListIn F n Tryd.prog ops Q (⟨dst, .load T x, ty, pos, aft, gd⟩ :: rest) a w := by
  refine istep hF (fun c => by simp) hw fun _ hK => ?_
  obtain ⟨d, hu, hd⟩ := hT.und
  subst hn
  exact wp_load_mid T x rfl g off hx vs d hr hu hd hT.size (hK _ _ h)
end

end Go.Proofs.YthgfbcndoedacaaDoor
