/-
  Contracts of octet.PutDigest and of the law's own helpers spoil and put.
-/
import Derived.Test.YtpfpgimhnmnhlaaPut
namespace Go.Proofs.Ytpfpgimhnmnhlaa
open Go.RowKit
set_option linter.unusedVariables false

theorem splice_tail (xs ds : List Int) (len : Nat) (hx : xs.length = len) (hd : ds.length = 32) : splice (xs ++ zer 32) len (ds.take 32) = xs ++ ds := by
  subst hx
  rw [List.take_of_length_le (by omega)]
  simp only [splice, hd, List.take_left]
  rw [List.drop_eq_nil_of_le (by simp [zer])]
  simp

set_option maxHeartbeats 400000 in
theorem putDigest_any (a : Option Addr) (len cap : Nat) (xs ds : List Int) (w : World) (hs : Sl w a len cap xs) (hd : ds.length = 32) (hdb : isB ds) :
    Calls Try.prog 14 #[.slice a len cap, .agg (bs ds)] w fun e w' => ∃ g, e = .returned (.slice (some ⟨g, 0, none⟩) (len + 32) (len + 32)) ∧ w.heap.size ≤ g ∧ Row w' g 5 (xs ++ ds) ∧ Below w.heap.size w w' := by
  have HS := hide hs
  have HD := hide hd
  have hreach := hs.hreach
  clear hs hd
  go_enter Try.func14, Try.ntmps14
  go_wp2_with (refine step_box25 rfl rfl ?_)
  intro w1 g1 hr1 hg1 hb1
  go_wp2_with (go_at_call 34; refine (widened_any _ _ _ xs 32 _ (HS.out.below hb1) (by omega)).mono ?_; rintro e w2 ⟨g2, rfl, hg2, hr2, hb2⟩)
  have hr1' := hr1.below hb2 hr1.lt
  have hsl := hide (hr1'.sl hdb (by rw [HD.out]; omega))
  rw [HD.out] at hsl
  have hll : Hid ((xs ++ zer 32).length = len + 32) := by show _ = _; simp [zer, HS.out.hlen]
  have hle : (len : Int) ≤ (len : Int) + 32 := by omega
  have hsl2 := hide (hsl.out.below ((Below.refl _ _).drew))
  go_region_law (refine rstep_copy rfl rfl rfl rfl hsl2.out g2 len 32 (by omega) hr2 (fun _ => rfl) (by rw [hll.out]; omega) ?_; intro w3 hr3 hbut3)
  rw [splice_tail xs ds len HS.out.hlen HD.out] at hr3
  have hb3 : Below w.heap.size w w3 := ((hb1.trans (hb2.mono hb1.size)).drew).trans (hbut3.below (Nat.le_trans hb1.size hg2))
  clear hr1 hr1' hr2 hsl hsl2 hbut3 hll
  go_wp2
  go_ret
  exact ⟨g2, rfl, Nat.le_trans hb1.size hg2, hr3, hb3⟩

set_option maxHeartbeats 400000 in
theorem spoil_any (g n : Nat) (xs : List Int) (w : World) (hr : Row w g 5 xs) (hx : xs.length = n) (hn : n ≤ 140737488355328) :
    Calls Try.prog 26 #[.slice (some ⟨g, 0, none⟩) n n] w fun e w' => e = .returned (.tuple #[]) ∧ But g w w' := by
  go_enter Try.func26, Try.ntmps26
  go_wp2
  go_loopw [2] (fun i wr => ∃ k : Nat, k ≤ n ∧ i = .int .i64 k ∧ (∃ ys, Row wr g 5 ys ∧ ys.length = n) ∧ But g w wr) (fun i _ => n - (intOf i).toNat)
  case atStart => exact ⟨0, by omega, rfl, ⟨xs, hr, hx⟩, But.refl _ _⟩
  case round =>
    obtain ⟨k, hk, rfl, ⟨ys, hr1, hy⟩, hb1⟩ := hrel
    have HY := hide hy
    clear hy
    by_cases hlt : k < n
    · have hcell := hr1.cell k (by rw [HY.out]; omega)
      have hfree := hr1.free k
      go_wp2
      go_roundw
      case rel => exact ⟨k + 1, by omega, by go_num, ⟨_, hr1.set k _, by rw [List.length_set]; exact HY.out⟩, hb1.trans (But.setCell _ _ _ _)⟩
      case measure => simp [intOf]; omega
    · go_wp2
      go_end0
      exact ⟨rfl, hb1⟩

theorem str_beq (xs : List Int) : ((str xs).toList == (str xs).toList) = true := by simp

set_option maxRecDepth 100000 in
set_option maxHeartbeats 400000 in
theorem put_any (gx n : Nat) (ya ba ha : Option Addr) (yc bl bc hl hc : Nat) (xs bb hh : List Int) (w : World) (hr : Row w gx 5 xs) (hxb : isB xs) (hx : xs.length = n) (hn : n ≤ 140737488355328) (hxs : xs = bb ++ hh)
    (sy : Sl w ya n yc xs) (sb : Sl w ba bl bc bb) (sh : Sl w ha hl hc hh) (hya : 0 < n → Apart gx ya) :
    Calls Try.prog 9 #[.slice (some ⟨gx, 0, none⟩) n n, .slice ya n yc, .slice ba bl bc, .slice ha hl hc] w fun e w' => e = .returned (.bool true) ∧ But gx w w' := by
  have SX := hide (hr.sl hxb (by omega))
  rw [hx] at SX
  have SY := hide sy
  have SB := hide sb
  have SH := hide sh
  have HX := hide hx
  have e1 : str bb ++ str hh = str xs := by rw [str_append, hxs]
  have e2 : (str bb).size + (str hh).size ≤ 9223372036854775807 := by
    rw [str_size, str_size]
    have : xs.length = bb.length + hh.length := by rw [hxs, List.length_append]
    omega
  clear hxs hx sy sb sh
  go_enter Try.func9, Try.ntmps9
  go_wp2_with (first | (refine step_toStr rfl rfl SB.out ?_) | (refine step_toStr rfl rfl SH.out ?_) | (refine step_toStr rfl rfl SX.out ?_) | (go_at_call 26; refine (spoil_any gx n xs _ hr HX.out hn).mono ?_; rintro e w2 ⟨rfl, hbut⟩; have SY2 := hide (SY.out.but hbut hya)) | (refine step_toStr rfl rfl SY2.out ?_))
  go_ret
  exact ⟨rfl, hbut⟩

end Go.Proofs.Ytpfpgimhnmnhlaa
