/-
  The walk of OctetHex.
-/
import Derived.Test.YtpfpgimhnmnhlaaHex2
import Derived.Test.YtpfpgimhnmnhlaaHex3
namespace Go.Proofs.Ytpfpgimhnmnhlaa
open Go.RowKit
set_option linter.unusedVariables false

theorem uxB_isB (S : List UInt8) : isB (uxB S) := by
  unfold uxB
  split
  · intro x hx; simp at hx
  · exact unhexB_isB S (by omega)
theorem uxB_length (S : List UInt8) : (uxB S).length ≤ S.length := by
  unfold uxB
  split
  · simp
  · rw [unhexB_length]; omega

theorem NewB.sl {w : World} {B : Nat} {v : Value} {xs : List Int} (h : NewB w B v xs) (hb : isB xs) (hl : xs.length ≤ 140737488355328) : ∃ a cap, v = .slice a xs.length cap ∧ Sl w a xs.length cap xs := by
  rcases h with ⟨rfl, rfl⟩ | ⟨g, rfl, _, hr⟩
  · exact ⟨none, 0, rfl, rfl, by simp, by omega, hl, hb, fun _ => ⟨rfl, rfl⟩, fun h => absurd h (by simp)⟩
  · exact ⟨_, _, rfl, hr.sl hb hl⟩
theorem NewB.below {w w' : World} {B : Nat} {v : Value} {xs : List Int} (h : NewB w B v xs) (hb : Below w.heap.size w w') : NewB w' B v xs := by
  rcases h with h | ⟨g, e, hg, hr⟩
  · exact .inl h
  · exact .inr ⟨g, e, hg, hr.below hb hr.lt⟩

/-- spoil of a slice that the call made: only its own row turns. -/
theorem spoil_new (v : Value) (xs : List Int) (B : Nat) (w : World) (h : NewB w B v xs) (hn : xs.length ≤ 140737488355328) :
    Calls Try.prog 26 #[v] w fun e w' => e = .returned (.tuple #[]) ∧ Below B w w' ∧ ∀ a len cap ys, Sl w a len cap ys → (∀ x, a = some x → v.ownBlock ≠ some x.block) → Sl w' a len cap ys := by
  rcases h with ⟨rfl, rfl⟩ | ⟨g, rfl, hg, hr⟩
  · go_enter Try.func26, Try.ntmps26
    go_wp2
    refine wp_loop_rounds 1 ?_
    rw [rounds_succ]
    go_wp2
    go_end0
    exact ⟨rfl, Below.refl _ _, fun a len cap ys h _ => h⟩
  · refine (spoil_any g xs.length xs w hr rfl hn).mono ?_
    rintro e w' ⟨rfl, hbut⟩
    refine ⟨rfl, hbut.below hg, fun a len cap ys hs ha => hs.but hbut (fun _ x hx => ?_)⟩
    have := ha x hx
    simpa [Value.ownBlock, eq_comm] using this

set_option maxRecDepth 100000 in
set_option maxHeartbeats 1000000 in
theorem hex_walk (a : Option Addr) (len cap : Nat) (xs : List Int) (s : ByteArray) (w : World) (hs : Sl w a len cap xs) (hlc : cap ≤ 1048576) (hz : s.size ≤ 1048576) :
    Calls Try.prog 5 #[.slice a len cap, .string s] w fun e w' => e = .returned (.bool true) ∧ Below w.heap.size w w' := by
  have HS := hide hs
  have hl : len ≤ 1048576 := by have := hs.hcap; omega
  clear hs hlc
  have HU := hide (show (uxB s.data.toList).length ≤ 140737488355328 by
    have := uxB_length s.data.toList
    have e : s.data.toList.length = s.size := by simp
    omega)
  go_enter Try.func5, Try.ntmps5
  go_wp2_with fail
  refine (unhex_any s w hz).mono ?_
  rintro e w1 ⟨x, rfl, hx, hb1⟩
  go_wp2_with fail
  refine (unhex_any s w1 hz).mono ?_
  rintro e w2 ⟨y, rfl, hy, hb2⟩
  go_wp2_with fail
  refine (refUnhex_any s w2 hz).mono ?_
  rintro e w3 ⟨v, rfl, hv, hb3⟩
  have b12 : Below w1.heap.size w1 w2 := hb2
  have b13 : Below w1.heap.size w1 w3 := hb2.trans (hb3.mono hb2.size)
  have bw3 : Below w.heap.size w w3 := hb1.trans (b13.mono hb1.size)
  have hx3 := hx.below b13
  have hy3 := hy.below hb3
  obtain ⟨xa, xc, ex, sx⟩ := hx3.sl (uxB_isB _) HU.out
  obtain ⟨ya, yc, ey, sy⟩ := hy3.sl (uxB_isB _) HU.out
  obtain ⟨va, vc, ev, sv⟩ := hv.sl' (uxB_isB _) HU.out
  have HX := hide ex
  have apy : Hid (∀ z, ya = some z → x.ownBlock ≠ some z.block) := by
    intro z hzz
    rcases hx with ⟨rfl, _⟩ | ⟨g, rfl, hg, hr⟩
    · simp [Value.ownBlock]
    · rcases hy with ⟨e, _⟩ | ⟨g2, e, hg2, hr2⟩
      · rw [ey] at e
        injection e with e1
        rw [e1] at hzz
        cases hzz
      · rw [ey] at e
        injection e with e1
        rw [e1] at hzz
        cases hzz
        have := hr.lt
        simp only [Value.ownBlock]
        intro h
        cases h
        omega
  have apv : Hid (∀ z, va = some z → x.ownBlock ≠ some z.block) := by
    intro z hzz
    rcases hx with ⟨rfl, _⟩ | ⟨g, rfl, hg, hr⟩
    · simp [Value.ownBlock]
    · have hlt := hr.lt
      have hge := World.ownsRow.lt hv
      rw [ev] at hge
      subst hzz
      have h2 := (hge z.block rfl).1
      have h3 := b12.size
      simp only [Value.ownBlock]
      intro h
      cases h
      omega
  have HX3 := hide hx3
  have SX := hide sx
  have SY := hide sy
  have SV := hide sv
  have HSB := hide (HS.out.below bw3)
  subst ex ey ev
  clear hx hy hv hx3 hy3 sx sy sv b12 b13 hb1 hb2 hb3 HX
  go_wp2_with (first | (refine step_toStr rfl rfl SX.out ?_) | (refine step_toStr rfl rfl SV.out ?_) | (go_at_call 24; refine (hex_any _ _ _ xs _ HSB.out hl).mono ?_; rintro e w4 ⟨rfl, hb4⟩))
  have HSC := hide (HSB.out.below hb4)
  refine (refHex_any _ _ _ xs _ HSC.out hl).mono ?_
  rintro e w5 ⟨rfl, hb5⟩
  have b35 : Below w3.heap.size w3 w5 := hb4.trans (hb5.mono hb4.size)
  have HX5 := hide (HX3.out.below b35)
  have SY5 := hide (SY.out.below b35)
  have SV5 := hide (SV.out.below b35)
  have bw5 : Below w.heap.size w w5 := bw3.trans (b35.mono bw3.size)
  clear HX3 SX SY SV HSB HSC hb4 hb5 b35 bw3
  go_wp2_with (first | (go_at_call 26; refine (spoil_new _ _ _ _ HX5.out HU.out).mono ?_; rintro e w6 ⟨rfl, hb6, hk6⟩; have SY6 := hide (hk6 _ _ _ _ SY5.out apy.out); have SV6 := hide (hk6 _ _ _ _ SV5.out apv.out); have bw6 := hide (bw5.trans hb6); clear hk6) | (refine step_toStr rfl rfl SY6.out ?_) | (refine step_toStr rfl rfl SV6.out ?_) | (go_at_call 21; refine (names_any _).mono ?_; rintro e w' ⟨rfl, rfl⟩))
  go_ret
  exact ⟨rfl, bw6.out⟩

end Go.Proofs.Ytpfpgimhnmnhlaa
