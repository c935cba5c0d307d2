/-
  octet's widened, PutDigest, PutUint64.
-/
import Derived.Test.YtefaabmkcgdkiaaDoorNm
import Derived.Test.YtefaabmkcgdkiaaDoorBg
namespace Go.Proofs.YtefaabmkcgdkiaaDoor
open Go.RowKit
set_option linter.unusedVariables false

theorem spl_widen (xs : List Int) (n : Nat) : spl (u8s (zer (xs.length + n))) (u8s (xs.take xs.length)) 0 = u8s (xs ++ zer n) := by
  rw [List.take_of_length_le (Nat.le_refl _), spl_u8]
  simp [splB, zer]

set_option maxHeartbeats 400000 in
theorem widened_any (a : Option Addr) (len cap : Nat) (xs : List Int) (n : Nat) (w : World) (hs : Sl w a len cap xs) (hn : n ≤ 64) :
    Calls Tryd.prog 62 #[.slice a len cap, .int .i64 n] w fun e w' => ∃ g, e = .returned (.slice (some ⟨g, 0, none⟩) (len + n) (len + n)) ∧ w.heap.size ≤ g ∧ Blk w' g 5 (u8s (xs ++ zer n)) ∧ Below w.heap.size w w' := by
  have hr := hs.hreach
  have HS := hide hs
  have HE : Hid (spl (u8s (zer (len + n))) (u8s (xs.take len)) 0 = u8s (xs ++ zer n)) := hide (by have := spl_widen xs n; rwa [hs.hlen] at this)
  clear hs
  go_enter Tryd.func62, Tryd.ntmps62
  go_wp2_with (refine step_make (len + n) rfl rfl rfl (by omega) (by omega) (by omega) ?_)
  intro w1 g hrow hg hb
  go_wp2_with (refine step_copy rfl rfl rfl (HS.out.below hb) g 0 len (by omega) hrow (fun _ => rfl) (by rw [u8s_length, zer_length]; omega) ?_)
  intro w2 hrow2 hbut
  rw [HE.out] at hrow2
  go_wp2
  go_ret
  exact ⟨g, rfl, hg, hrow2, hb.trans (hbut.below hg)⟩

theorem spl_tail (xs ds : List Int) (len : Nat) (hx : xs.length = len) (hd : ds.length = 32) : spl (u8s (xs ++ zer 32)) (u8s (ds.take 32)) len = u8s (xs ++ ds) := by
  subst hx
  rw [List.take_of_length_le (by omega), spl_u8]
  simp only [splB, hd, List.take_left]
  rw [List.drop_eq_nil_of_le (by simp [zer])]
  simp

set_option maxHeartbeats 400000 in
theorem putDigest_any (a : Option Addr) (len cap : Nat) (xs ds : List Int) (w : World) (hs : Sl w a len cap xs) (hd : ds.length = 32) (hdb : isB ds) :
    Calls Tryd.prog 52 #[.slice a len cap, .agg (u8s ds).toArray] w fun e w' => ∃ g, e = .returned (.slice (some ⟨g, 0, none⟩) (len + 32) (len + 32)) ∧ w.heap.size ≤ g ∧ Blk w' g 5 (u8s (xs ++ ds)) ∧ Below w.heap.size w w' := by
  have HS := hide hs
  have HD := hide hd
  have HDB := hide hdb
  have hreach := hs.hreach
  clear hs hd hdb
  go_enter Tryd.func52, Tryd.ntmps52
  go_wp2_with (refine step_box rfl rfl ?_)
  intro w1 g1 hr1 hg1 hb1
  go_wp2_with (go_at_call 62; refine (widened_any _ _ _ xs 32 _ (HS.out.below hb1) (by omega)).mono ?_; rintro e w2 ⟨g2, rfl, hg2, hr2, hb2⟩)
  have hr1' := hr1.below hb2 hr1.lt
  have hsl := hide (hr1'.sl0 HDB.out (by rw [HD.out]; omega))
  rw [HD.out] at hsl
  have hll : Hid ((u8s (xs ++ zer 32)).length = len + 32) := by show _ = _; rw [u8s_length]; simp [zer, HS.out.hlen]
  have hle : (len : Int) ≤ (len : Int) + 32 := by omega
  have hsl2 := hide (hsl.out.below ((Below.refl _ _).drew))
  go_region_law (refine rstep_copy rfl rfl rfl rfl hsl2.out g2 len 32 (by omega) hr2 (fun _ => rfl) (by rw [hll.out]; omega) ?_; intro w3 hr3 hbut3)
  rw [spl_tail xs ds len HS.out.hlen HD.out] at hr3
  have hb3 : Below w.heap.size w w3 := ((hb1.trans (hb2.mono hb1.size)).drew).trans (hbut3.below (Nat.le_trans hb1.size hg2))
  clear hr1 hr1' hr2 hsl hsl2 hbut3 hll
  go_wp2
  go_ret
  exact ⟨g2, rfl, Nat.le_trans hb1.size hg2, hr3, hb3⟩

end Go.Proofs.YtefaabmkcgdkiaaDoor
