/-
  The walk of OctetReads.
-/
import Derived.Test.YtpfpgimhnmnhlaaDig
import Derived.Test.YtpfpgimhnmnhlaaEq
namespace Go.Proofs.Ytpfpgimhnmnhlaa
open Go.RowKit
set_option linter.unusedVariables false

theorem Below.of_grown {w w' : World} {B : Nat} {row : Option Nat} (hg : w.grownBy w' row) (hB : B ≤ w.heap.size) (hr : ∀ k, row = some k → B ≤ k) : Below B w w' :=
  (Below.refl B w).grown hg hB hr

theorem Own.lt {w : World} {B : Nat} {v : Value} {xs : List Int} (h : Own w B v xs) : ∀ k, v.ownBlock = some k → B ≤ k := fun k hk => (World.ownsRow.lt h k hk).1

set_option maxRecDepth 100000 in
set_option maxHeartbeats 1000000 in
theorem reads_walk (a : Option Addr) (len cap : Nat) (xs : List Int) (p : Int) (w : World) (hs : Sl w a len cap xs) (hl : cap ≤ 140737488351232) :
    Calls Try.prog 4 #[.slice a len cap, .int .i64 p] w fun e w' => e = .returned (.bool true) ∧ Below w.heap.size w w' := by
  have HS := hide hs
  have hcap := hs.hcap
  have hlen := hs.hlen
  have HV2 := hide (rdV_bd xs hs.hbyte p 2)
  have HV4 := hide (rdV_bd xs hs.hbyte p 4)
  clear hs
  have ho0 : Own (w.alloc (.cells #[] 5)) w.heap.size (.slice (some ⟨w.heap.size, 0, none⟩) 0 0) [] :=
    World.ownsRow_made w #[] 0 (Nat.le_refl _) (Nat.zero_le _) rfl
  have hb0 : Below w.heap.size w (w.alloc (.cells #[] 5)) := (Below.refl _ _).alloc (Nat.le_refl _) _
  go_enter Try.func4, Try.ntmps4
  go_wp2_with (refine step_append rfl rfl rfl ho0 (HS.out.below hb0) (by simp; omega) (by simp) ?_)
  intro v1 w1 ho1 hg1 hn1
  have hb1 : Below w.heap.size w w1 := hb0.trans (Below.of_grown hg1 hb0.size ho0.lt)
  have hv1 : v1 ≠ .slice none 0 0 := fun e => by have e2 := (hn1 e).1; cases e2
  clear hg1 hn1 ho0 hb0
  have hr2 : Sl (w1.alloc (.cells #[.int .u8 90] 5)) (some ⟨w1.heap.size, 0, none⟩) 1 1 [90] := (Row.made w1 5 [90]).sl (by simp [isB]) (by simp)
  go_wp2_with (refine step_append rfl rfl rfl (ho1.alloc _) hr2 (by simp; omega) (by have := hb1.size; simp; omega) ?_)
  intro v2 w2 ho2 hg2 hn2
  have hb2 : Below w.heap.size w w2 := (hb1.alloc hb1.size _).trans (Below.of_grown hg2 (by have := hb1.size; simp; omega) ho1.lt)
  have hv2 : v2 ≠ .slice none 0 0 := fun e => hv1 (hn2 e).1
  clear hg2 hn2 ho1 hr2
  rw [List.nil_append] at ho2
  obtain ⟨g, cap2, rfl, hgB, hin⟩ := ho2.sl (HS.out.hbyte.append (by simp [isB])) (by simp; omega) hv2
  clear hv1 hv2 ho2 hb1
  have hown : Sl w2 (some ⟨g, 0, none⟩) len cap2 xs := by have := hin.pre; rwa [hlen] at this
  have hbb : Sl w2 a len cap xs := HS.out.below hb2
  have hin' : Sl w2 (some ⟨g, 0, none⟩) (len + 1) cap2 (xs ++ [90]) := by have := hin; simpa [hlen] using this
  have hc2 : len + 1 ≤ cap2 := hin'.hcap
  have hc3 : cap2 ≤ 9223372036854775807 := hin'.hmax
  have hlx : (xs ++ [90]).length = len + 1 := by simp [hlen]
  rw [hlx]
  have H1 := hide hin'
  have H2 := hide hown
  have H3 := hide hbb
  clear hin hin' hown hbb hlx
  go_wp2_with (go_at_call 15; refine (uint16_any _ _ _ xs _ _ H2.out).mono ?_; rintro e w' ⟨rfl, rfl⟩)
  refine (read_any _ _ _ xs _ 2 _ H3.out (by omega) (by omega)).mono ?_
  rintro e w' ⟨rfl, rfl⟩
  have hv20 : 0 ≤ rdV xs p 2 := HV2.out.1
  have hv21 : rdV xs p 2 < 65536 := HV2.out.2
  have hv40 : 0 ≤ rdV xs p 4 := HV4.out.1
  have hv41 : rdV xs p 4 < 4294967296 := HV4.out.2
  go_wp2_with (go_at_call 17; refine (uint32_any _ _ _ xs _ _ H2.out).mono ?_; rintro e w' ⟨rfl, rfl⟩)
  refine (read_any _ _ _ xs _ 4 _ H3.out (by omega) (by omega)).mono ?_
  rintro e w' ⟨rfl, rfl⟩
  go_wp2_with (go_at_call 18; refine (uint64_any _ _ _ xs _ _ H2.out).mono ?_; rintro e w' ⟨rfl, rfl⟩)
  refine (read_any _ _ _ xs _ 8 _ H3.out (by omega) (by omega)).mono ?_
  rintro e w' ⟨rfl, rfl⟩
  go_wp2_with fail
  refine (digest_any _ _ _ xs _ _ H2.out).mono ?_
  rintro e w3 ⟨rfl, hb3⟩
  go_wp2_with (refine step_alloc25 rfl ?_)
  intro w4 g4 hr4 hg4 hb4
  go_wp2_with (refine step_storeA info25 rfl rfl rfl hr4 rfl (rdD_length _ _) ?_)
  intro w5 hr5 hb5 ho5
  have hb25 : Below w2.heap.size w2 w5 := (hb3.trans (hb4.mono hb3.size)).trans (hb5.mono (Nat.le_trans hb3.size hg4))
  have H1b := hide (H1.out.below hb25)
  have H3b := hide (H3.out.below hb25)
  have hbw5 : Below w.heap.size w w5 := hb2.trans (hb25.mono hb2.size)
  clear H1 H2 H3 hb2 hb3 hb4 hb5 ho5 hr4 hg4 hb25
  go_wp2_with fail
  refine (refDigest_any _ _ _ xs _ _ H3b.out).mono ?_
  rintro e w6 ⟨rfl, hb6⟩
  go_wp2_with (refine step_alloc24 rfl ?_)
  intro w7 g7 hr7 hg7 hb7
  go_wp2_with (refine step_storeA info24 rfl rfl rfl hr7 rfl (rdD_length _ _) ?_)
  intro w8 hr8 hb8 ho8
  have hb58 : Below w5.heap.size w5 w8 := (hb6.trans (hb7.mono hb6.size)).trans (hb8.mono (Nat.le_trans hb6.size hg7))
  have H1c := hide (H1b.out.below hb58)
  have H3c := hide (H3b.out.below hb58)
  have hbw8 : Below w.heap.size w w8 := hbw5.trans (hb58.mono hbw5.size)
  have hr58 := hr5.below hb58 hr5.lt
  clear H1b H3b hb6 hb7 hb8 ho8 hr7 hg7 hb58 hbw5
  have hss : (str xs).size ≤ 140737488351232 := by rw [str_size]; omega
  have hse := str_90 xs
  go_wp2_with (first | (refine step_loadA und25 info25 rfl rfl hr58 (rdD_length _ _) ?_) | (refine step_loadA und24 info24 rfl rfl hr8 (rdD_length _ _) ?_) | (refine step_eqA25 rfl rfl rfl (rdD_length _ _) (rdD_length _ _) ?_) | (refine step_toStr rfl rfl H1c.out ?_) | (refine step_toStr rfl rfl H3c.out ?_) | (go_at_call 21; refine (names_any _).mono ?_; rintro e w' ⟨rfl, rfl⟩))
  go_ret
  exact ⟨rfl, hbw8⟩

end Go.Proofs.Ytpfpgimhnmnhlaa
