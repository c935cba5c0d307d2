/-
  Contracts of octet's functions: room, number, Uint64, Digest; widened, putNumber, PutUint64, PutDigest.
-/
import Derived.Test.YtojepbapdjkknaaDoorNm
import Derived.Test.YtojepbapdjkknaaDoorSc
import Derived.Test.YtojepbapdjkknaaDoorTd
import Derived.Deep.RegionLaw
namespace Go.Proofs.YtojepbapdjkknaaDoor
open Go.RowKit
set_option linter.unusedVariables false

set_option maxHeartbeats 400000 in
theorem room_any (a : Option Addr) (len cap : Nat) (p : Int) (n : Nat) (w : World) (hl : len ≤ 140737488355328) (hn : n ≤ 32) :
    Calls Tryd.prog 118 #[.slice a len cap, .int .i64 p, .int .i64 n] w fun e w' => e = .returned (.int .i64 (rdE len p n)) ∧ w = w' := by
  by_cases h : p < 0
  · have e : rdE len p n = 2 := by simp [rdE, h]
    rw [e]
    go_enter Tryd.func118, Tryd.ntmps118
    go_wp2
    go_ret
    exact ⟨rfl, rfl⟩
  by_cases h' : (len : Int) < p
  · have e : rdE len p n = 2 := by simp [rdE, h']
    rw [e]
    clear e
    go_enter Tryd.func118, Tryd.ntmps118
    go_wp2
    go_ret
    exact ⟨rfl, rfl⟩
  by_cases h2 : (len : Int) - p < n
  · have e : rdE len p n = 10 := by simp [rdE, h, h', h2]
    rw [e]
    clear e
    go_enter Tryd.func118, Tryd.ntmps118
    go_wp2
    go_ret
    exact ⟨rfl, rfl⟩
  · have e : rdE len p n = 0 := by simp [rdE, h, h', h2]
    rw [e]
    clear e
    go_enter Tryd.func118, Tryd.ntmps118
    go_wp2
    go_ret
    exact ⟨rfl, rfl⟩
set_option maxHeartbeats 400000 in
theorem number_any (a : Option Addr) (len cap : Nat) (xs : List Int) (p : Int) (n : Nat) (w : World) (hs : Sl w a len cap xs) (hn : n ≤ 8) (hn0 : 0 < n) :
    Calls Tryd.prog 120 #[.slice a len cap, .int .i64 p, .int .i64 n] w fun e w' => e = .returned (.tuple #[.int .u64 (rdV xs p n), .int .i64 (rdN len p n), .int .i64 (rdE len p n)]) ∧ w = w' := by
  obtain ⟨hx, _, _, hl, hb, _, hc⟩ := hs
  by_cases h : p < 0 ∨ (len : Int) < p ∨ (len : Int) - p < n
  · have e1 : rdV xs p n = 0 := by simp [rdV, hx]; omega
    have e2 : rdN len p n = 0 := by simp [rdN]; omega
    have e3 : rdE len p n = 2 ∨ rdE len p n = 10 := by
      by_cases h1 : p < 0 ∨ (len : Int) < p
      · left; simp [rdE, h1]
      · right; have h2 : (len : Int) - p < n := by omega
        simp [rdE, h1, h2]
    rw [e1, e2]
    have hne : (rdE len p n != 0) = true := by simp; omega
    clear e1 e2 hc e3
    go_enter Tryd.func120, Tryd.ntmps120
    go_wp2_with (go_at_call 118; refine (room_any _ _ _ _ _ _ hl (by omega)).mono ?_; rintro e w' ⟨rfl, rfl⟩)
    go_ret3
    exact ⟨rfl, rfl⟩
  · obtain ⟨p, rfl⟩ := Int.eq_ofNat_of_zero_le (show 0 ≤ p by omega)
    obtain ⟨b, off, rfl, hce⟩ := hc (by omega)
    clear hc
    have e1 : rdV xs p n = beVal ((xs.drop p).take n) := by simp only [rdV, hx]; rw [if_pos (by omega)]; simp
    have e2 : rdN len p n = p + n := by simp [rdN]; omega
    have e3 : rdE len p n = 0 := by simp [rdE]; omega
    rw [e1, e2, e3]
    have E3 : Hid (rdE len p n = 0) := e3
    clear e1 e2 e3
    go_enter Tryd.func120, Tryd.ntmps120
    go_wp2_with (go_at_call 118; refine (room_any _ _ _ _ _ _ hl (by omega)).mono ?_; rintro e w' ⟨rfl, rfl⟩; rw [E3.out])
    go_loop [6, 19] (fun v i => ∃ k : Nat, k ≤ n ∧ i = .int .i64 k ∧ v = .int .u64 (beVal ((xs.drop p).take k))) (fun _ i => n - (intOf i).toNat)
    case atStart => exact ⟨0, Nat.zero_le _, rfl, by simp [beVal]⟩
    case round =>
      obtain ⟨k, hk, rfl, rfl⟩ := hrel
      by_cases hlt : k < n
      · have hck := hce (p + k) (by omega)
        have HS : Hid _ := beVal_step xs p k (by omega)
        have H2 : Hid _ := hb.get (p + k)
        have H3 : Hid _ := beVal_take_bd xs hb p k (by omega) (by omega)
        go_wp2
        go_round
        case rel =>
          refine ⟨k + 1, by omega, by go_num, ?_⟩
          rw [HS.out, ← or_step _ _ H3.out.1 H3.out.2 H2.out.1 H2.out.2]
          rfl
        case measure => simp [intOf]; omega
      · have hkn : k = n := by omega
        subst hkn
        clear hce
        go_wp2
        go_ret3
        exact ⟨rfl, rfl⟩
set_option maxHeartbeats 400000 in
theorem uint64_any (a : Option Addr) (len cap : Nat) (xs : List Int) (p : Int) (w : World) (hs : Sl w a len cap xs) :
    Calls Tryd.prog 98 #[.slice a len cap, .int .i64 p] w fun e w' => e = .returned (.tuple #[.int .u64 (rdV xs p 8), .int .i64 (rdN len p 8), .int .i64 (rdE len p 8)]) ∧ w = w' := by
  go_enter Tryd.func98, Tryd.ntmps98
  go_wp2_with (go_at_call 120; refine (number_any _ _ _ xs _ 8 _ hs (by omega) (by omega)).mono ?_; rintro e w' ⟨rfl, rfl⟩)
  go_ret3
  exact ⟨rfl, rfl⟩

theorem spl_zer (ys : List Int) (n m : Nat) (h : ys.length = m) : spl (u8s (zer (m + n))) (u8s (ys.take m)) 0 = u8s (ys ++ zer n) := by
  rw [spl_u8, ← h, List.take_length]
  congr 1
  simp [splB, zer]
set_option maxHeartbeats 400000 in
theorem widened_any (a : Option Addr) (len cap : Nat) (xs : List Int) (n : Nat) (w : World) (hs : Sl w a len cap xs) (hn : n ≤ 64) :
    Calls Tryd.prog 61 #[.slice a len cap, .int .i64 n] w fun e w' => ∃ g, e = .returned (.slice (some ⟨g, 0, none⟩) (len + n) (len + n)) ∧ w.heap.size ≤ g ∧ Blk w' g 5 (u8s (xs ++ zer n)) ∧ Below w.heap.size w w' := by
  have hr := hs.hreach
  have HS := hide hs
  clear hs
  go_enter Tryd.func61, Tryd.ntmps61
  go_wp2_with (refine step_make (len + n) rfl rfl rfl (by omega) (by omega) (by omega) ?_)
  intro w1 g hrow hg hb
  go_wp2_with (refine step_copy rfl rfl rfl (HS.out.below hb) g 0 len (by omega) hrow (fun _ => rfl) (by rw [u8s_length, zer_length]; omega) ?_)
  intro w2 hrow2 hbut
  rw [spl_zer xs n len HS.out.hlen] at hrow2
  go_wp2
  go_ret
  exact ⟨g, rfl, hg, hrow2, hb.trans (hbut.below hg)⟩
/-- One byte more of B laid over noughts. -/
theorem fill_step (xs B : List Int) (len n k : Nat) (hx : xs.length = len) (hB : B.length = n) (hk : k < n) :
    (xs ++ (B.take k ++ zer (n - k))).set (len + k) (B.getD k 0) = xs ++ (B.take (k + 1) ++ zer (n - (k + 1))) := by
  subst hx
  rw [List.set_append_right _ _ (by omega), Nat.add_sub_cancel_left]
  congr 1
  have hz : zer (n - k) = 0 :: zer (n - (k + 1)) := by
    have : n - k = (n - (k + 1)) + 1 := by omega
    rw [this]; simp [zer, List.replicate_succ]
  rw [List.set_append_right _ _ (by simp; omega), hz]
  have e : k - (B.take k).length = 0 := by simp; omega
  have e2 : B.getD k 0 = B[k] := by simp [List.getD, hB, hk]
  rw [e, e2, List.take_succ_eq_append_getElem (by omega), List.append_assoc]
  rfl
set_option maxHeartbeats 400000 in
theorem putNumber_any (a : Option Addr) (len cap : Nat) (xs : List Int) (v : Int) (n : Nat) (w : World) (hs : Sl w a len cap xs) (hn : n ≤ 8) (hv : 0 ≤ v) (hv2 : v < 18446744073709551616) :
    Calls Tryd.prog 60 #[.slice a len cap, .int .u64 v, .int .i64 n] w fun e w' => ∃ g, e = .returned (.slice (some ⟨g, 0, none⟩) (len + n) (len + n)) ∧ w.heap.size ≤ g ∧ Blk w' g 5 (u8s (xs ++ be v n)) ∧ Below w.heap.size w w' := by
  have hr := hs.hreach
  have HS := hide hs
  clear hs
  go_enter Tryd.func60, Tryd.ntmps60
  go_wp2_with (go_at_call 61; refine (widened_any _ _ _ xs n _ HS.out (by omega)).mono ?_; rintro e w1 ⟨g, rfl, hg, hrow, hb⟩)
  go_loopw [13] (fun i wr => ∃ k : Nat, k ≤ n ∧ i = .int .i64 k ∧ Blk wr g 5 (u8s (xs ++ ((be v n).take k ++ zer (n - k)))) ∧ Below w.heap.size w wr) (fun i _ => n - (intOf i).toNat)
  case atStart => exact ⟨0, by omega, rfl, by simpa using hrow, hb⟩
  case round =>
    obtain ⟨k, hk, rfl, hr1, hb1⟩ := hrel
    by_cases hlt : k < n
    · have hl1 : (xs ++ ((be v n).take k ++ zer (n - k))).length = len + n := by simp [be_length, zer_length, HS.out.hlen]; omega
      have hcell : wr.cell? ⟨g, len + k, none⟩ = some (.int .u8 ((xs ++ ((be v n).take k ++ zer (n - k))).getD (len + k) 0)) := by rw [hr1.cell, u8s_get _ _ (by omega)]
      have hfree := hr1.free (len + k)
      clear hl1
      have HE := hide (fill_step xs (be v n) len n k HS.out.hlen (be_length v n) hlt)
      have HR := hide hr1
      clear hr1
      go_wp2
      go_roundw
      case rel =>
        have e := HR.out.set (len + k) (.int .u8 ((be v n).getD k 0))
        rw [u8s_set, HE.out, be_get v n k hlt, ← pow2_8] at e
        exact ⟨k + 1, by omega, by go_num, e, hb1.setCell hg _⟩
      case measure => simp [intOf]; omega
    · have hkn : k = n := by omega
      subst hkn
      go_wp2
      go_ret
      refine ⟨g, rfl, hg, ?_, hb1⟩
      have e : xs ++ (List.take k (be v k) ++ zer (k - k)) = xs ++ be v k := by
        rw [List.take_of_length_le (by rw [be_length]; exact Nat.le_refl _)]; simp [zer]
      rw [e] at hr1
      exact hr1
set_option maxHeartbeats 400000 in
theorem putUint64_any (a : Option Addr) (len cap : Nat) (xs : List Int) (v : Int) (w : World) (hs : Sl w a len cap xs) (hv : 0 ≤ v) (hv2 : v < 18446744073709551616) :
    Calls Tryd.prog 28 #[.slice a len cap, .int .u64 v] w fun e w' => ∃ g, e = .returned (.slice (some ⟨g, 0, none⟩) (len + 8) (len + 8)) ∧ w.heap.size ≤ g ∧ Blk w' g 5 (u8s (xs ++ be v 8)) ∧ Below w.heap.size w w' := by
  have HS := hide hs
  clear hs
  go_enter Tryd.func28, Tryd.ntmps28
  go_wp2_with (go_at_call 60; refine (putNumber_any _ _ _ xs v 8 _ HS.out (by omega) hv hv2).mono ?_; rintro e w1 ⟨g, rfl, hg, hrow, hb⟩)
  go_ret
  exact ⟨g, rfl, hg, hrow, hb⟩
theorem spl_tail (xs ds : List Int) (len : Nat) (hx : xs.length = len) (hd : ds.length = 32) : spl (u8s (xs ++ zer 32)) (u8s (ds.take 32)) len = u8s (xs ++ ds) := by
  subst hx
  rw [spl_u8, List.take_of_length_le (by omega)]
  congr 1
  simp only [splB, hd, List.take_left]
  rw [List.drop_eq_nil_of_le (by simp [zer])]
  simp
set_option maxHeartbeats 400000 in
theorem putDigest_any (a : Option Addr) (len cap : Nat) (xs ds : List Int) (w : World) (hs : Sl w a len cap xs) (hd : ds.length = 32) (hdb : isB ds) :
    Calls Tryd.prog 29 #[.slice a len cap, .agg (u8s ds).toArray] w fun e w' => ∃ g, e = .returned (.slice (some ⟨g, 0, none⟩) (len + 32) (len + 32)) ∧ w.heap.size ≤ g ∧ Blk w' g 5 (u8s (xs ++ ds)) ∧ Below w.heap.size w w' := by
  have HS := hide hs
  have HD := hide hd
  have hreach := hs.hreach
  clear hs hd
  go_enter Tryd.func29, Tryd.ntmps29
  go_wp2_with (refine step_box rfl rfl ?_)
  intro w1 g1 hr1 hg1 hb1
  go_wp2_with (go_at_call 61; refine (widened_any _ _ _ xs 32 _ (HS.out.below hb1) (by omega)).mono ?_; rintro e w2 ⟨g2, rfl, hg2, hr2, hb2⟩)
  have hr1' := hr1.below hb2 hr1.lt
  have hsl := hide (hr1'.sl 0 32 ds (by rw [List.drop_zero, List.take_of_length_le (by rw [u8s_length]; exact Nat.le_refl _)]) hdb (by rw [HD.out]; omega) (by rw [HD.out]; omega) (by omega))
  rw [HD.out] at hsl
  have hll : Hid ((u8s (xs ++ zer 32)).length = len + 32) := by show _ = _; simp [u8s_length, zer, HS.out.hlen]
  have hle : (len : Int) ≤ (len : Int) + 32 := by omega
  have hsl2 := hide (hsl.out.below ((Below.refl _ _).drew))
  go_region_law (refine rstep_copy rfl rfl rfl rfl hsl2.out g2 len 32 (by omega) hr2 (fun _ => rfl) (by rw [hll.out]; omega) ?_; intro w3 hr3 hbut3)
  rw [spl_tail xs ds len HS.out.hlen HD.out] at hr3
  have hb3 : Below w.heap.size w w3 := ((hb1.trans (hb2.mono hb1.size)).drew).trans (hbut3.below (Nat.le_trans hb1.size hg2))
  clear hr1 hr1' hr2 hsl hsl2 hbut3 hll
  go_wp2
  go_ret
  exact ⟨g2, rfl, Nat.le_trans hb1.size hg2, hr3, hb3⟩

end Go.Proofs.YtojepbapdjkknaaDoor
