/-
  A span's parts: the program's, and the document's.
-/
import Derived.Test.YtlniffmhihhkcaaDoorPr
import Derived.Test.YtlniffmhihhkcaaDoorTz
import Derived.Test.YtlniffmhihhkcaaDoorPq
namespace Go.Proofs.YtlniffmhihhkcaaDoor
open Go.RowKit
set_option linter.unusedVariables false

/-- The i-th node. -/
def nG (b e i : Nat) : Nat × Nat := (parts b e).getD i (0, 0)
theorem nz_lt {s u e : Nat} (h : s < u) (h2 : s < e) : e - (intOf (.int .i64 (u : Int))).toNat < e - (intOf (.int .i64 (s : Int))).toNat := by
  simp only [intOf]
  omega
/-- The numbers of a round. -/
theorem nz_facts {b e k at' : Nat} (hbe : b ≤ e) (he : e ≤ 281474976710656) (hk : k < (parts b e).length) (hat : at' = pbeg b e k) :
    ∃ c l L P : Nat, Hid (Lib.ctz 64 at' = c) ∧ Hid (Lib.bitLen (e - at') = l) ∧ min (c : Int) ((l : Int) - 1) = (L : Int) ∧ Hid (2 ^ L = P) ∧ Hid (nG b e k = (L, at' / P)) ∧ at' + P = pbeg b e (k + 1) ∧ at' + P ≤ e ∧ at' < e ∧ (c ≤ 64 ∧ l ≤ 64 ∧ L ≤ 48) ∧ P ≤ 281474976710656 := by
  obtain ⟨q, hq⟩ : ∃ q, (parts b e)[k]? = some q := ⟨_, List.getElem?_eq_getElem hk⟩
  obtain ⟨h1, h2, h3⟩ := pbeg_at hbe he hq
  have hlt : at' < e := by rw [hat]; rw [h2] at h3; have := Nat.two_pow_pos q.1; omega
  have h64 : at' < 2 ^ 64 := Nat.lt_of_lt_of_le hlt (Nat.le_trans he (by decide))
  have hlv := lev_min at' (e - at') h64 (by omega) (Nat.le_trans (Nat.sub_le _ _) he)
  -- the part at k is the first part of what is left
  have hfirst : (parts at' e)[0]? = some q := by
    have := parts_drop b e k he
    rw [← hat] at this
    rw [← this, List.getElem?_drop]
    exact hq
  rw [parts_step hlv he] at hfirst
  simp only [List.getElem?_cons_zero, Option.some.injEq] at hfirst
  refine ⟨_, _, min (Lib.ctz 64 at') (Lib.bitLen (e - at') - 1), _, hide rfl, hide rfl, ?_, hide rfl, hide ?_, ?_, ?_, hlt, ⟨?_, ?_, ?_⟩, ?_⟩
  · have hl0 := (bitLen_pow (e - at') (e - at') (Nat.le_refl _) (by omega) (Nat.lt_of_le_of_lt (Nat.le_trans (Nat.sub_le _ _) he) (by decide))).1
    generalize Lib.ctz 64 at' = c at *
    generalize Lib.bitLen (e - at') = l at *
    omega
  · unfold nG
    rw [List.getD, hq, ← hfirst]
    rfl
  · rw [h2, ← hfirst, hat]
  · rw [h2, ← hfirst, ← hat] at h3
    exact h3
  · by_cases h0 : at' = 0
    · rw [h0]; decide
    · exact Nat.le_of_lt (Lib.lowest_bit 64 at' h0 h64).2
  · exact Lib.bitLen_le _ 64 (Nat.le_refl _) (Nat.lt_of_le_of_lt (Nat.le_trans (Nat.sub_le _ _) he) (by decide))
  · exact lev_le hlv (Nat.le_trans (Nat.sub_le _ _) he)
  · exact Nat.le_trans (Nat.pow_le_pow_right (by decide) (lev_le hlv (Nat.le_trans (Nat.sub_le _ _) he))) (by decide)

theorem aux_addW (s P u : Nat) (h : s + P = u) (hu : u ≤ 281474976710656) : wrap64 ((s : Int) + (P : Int)) = (u : Int) := by
  unfold wrap64
  omega
theorem aux_shr (a L P : Nat) (HP : Hid (2 ^ L = P)) : ((a : Int)) / (2 ^ L) = (a : Int) / (P : Int) := by
  rw [← HP.out, Int.natCast_pow]
  rfl

theorem aux_one (P L : Nat) (HP : Hid (2 ^ L = P)) (h : P ≤ 562949953421312) : wrap64 (2 ^ L) = (P : Int) := by
  have e1 : ((2 : Int) ^ L) = (P : Int) := by rw [← HP.out]; simp [Int.natCast_pow]
  rw [e1]
  unfold wrap64
  omega
theorem take_snoc {α : Type} {l : List α} {k : Nat} {x : α} (h : l[k]? = some x) : l.take (k + 1) = l.take k ++ [x] := by
  obtain ⟨h1, h2⟩ := List.getElem?_eq_some_iff.1 h
  rw [List.take_succ_eq_append_getElem h1, h2]
theorem px_next {b e k s L : Nat} (hbe : b ≤ e) (he : e ≤ 281474976710656) (hk : k < (parts b e).length) (hs : pbeg b e k = s) (hl : IsLev s (e - s) L) :
    (parts b e)[k]? = some (L, s / 2 ^ L) ∧ pbeg b e (k + 1) = s + 2 ^ L ∧ s + 2 ^ L ≤ e := by
  obtain ⟨q, hq⟩ : ∃ q, (parts b e)[k]? = some q := ⟨_, List.getElem?_eq_getElem hk⟩
  obtain ⟨h1, h2, h3⟩ := pbeg_at hbe he hq
  have hfirst : (parts s e)[0]? = some q := by
    have := parts_drop b e k he
    rw [hs] at this
    rw [← this, List.getElem?_drop]
    exact hq
  rw [parts_step hl he] at hfirst
  simp only [List.getElem?_cons_zero, Option.some.injEq] at hfirst
  subst hfirst
  rw [h2, hs] at h3
  exact ⟨hq, by rw [h2, hs], h3⟩
theorem px_meas {s u e : Nat} (h : s < u) (h2 : s < e) : e - (intOf (.int .i64 (u : Int))).toNat < e - (intOf (.int .i64 (s : Int))).toNat := by
  simp only [intOf]
  omega
theorem px_lv {L : Nat} (h : L < 48) : 48 - (intOf (.int .i64 ((L : Int) + 1))).toNat < 48 - (intOf (.int .i64 (L : Int))).toNat := by
  simp only [intOf]
  omega

theorem TT.on {w w' : World} (h : TT w) (hb : Below w.heap.size w w') : TT w' := h.below hb h.lt
theorem nG_get {b e k : Nat} (h : k < (parts b e).length) : (parts b e)[k]? = some (nG b e k) := by simp [nG, List.getD, h]
theorem parts_bad (b e : Int) (w : World) (h : b < 0 ∨ e < b ∨ 281474976710656 < e) : Calls Tryd.prog 5 #[.agg #[.int .i64 b, .int .i64 e]] w fun r w' => r = .returned (.tuple #[.slice none 0 0, .int .i64 40]) ∧ Below w.heap.size w w' := by
  by_cases h1 : b < 0
  · skip
    go_enter Tryd.func5, Tryd.ntmps5
    go_wp2_with (refine step_box (cs := c2 b e) rfl rfl ?_; intro w1 g1 hg1 hle1 hb1; obtain ⟨c0, c1⟩ := hg1.two; clear hg1)
    go_ret2
    exact ⟨rfl, hb1⟩
  · by_cases h2 : b > e
    · skip
      go_enter Tryd.func5, Tryd.ntmps5
      go_wp2_with (refine step_box (cs := c2 b e) rfl rfl ?_; intro w1 g1 hg1 hle1 hb1; obtain ⟨c0, c1⟩ := hg1.two; clear hg1)
      go_ret2
      exact ⟨rfl, hb1⟩
    · have h3 : e > 281474976710656 := by omega
      go_enter Tryd.func5, Tryd.ntmps5
      go_wp2_with (refine step_box (cs := c2 b e) rfl rfl ?_; intro w1 g1 hg1 hle1 hb1; obtain ⟨c0, c1⟩ := hg1.two; clear hg1)
      go_ret2
      exact ⟨rfl, hb1⟩
theorem partsR_bad (b e : Int) (w : World) (h : b < 0 ∨ e < b ∨ 281474976710656 < e) : Calls Tryd.prog 6 #[.agg #[.int .i64 b, .int .i64 e]] w fun r w' => r = .returned (.tuple #[.slice none 0 0, .int .i64 40]) ∧ Below w.heap.size w w' := by
  by_cases h1 : b < 0
  · skip
    go_enter Tryd.func6, Tryd.ntmps6
    go_wp2_with (refine step_box (cs := c2 b e) rfl rfl ?_; intro w1 g1 hg1 hle1 hb1; obtain ⟨c0, c1⟩ := hg1.two; clear hg1)
    go_ret2
    exact ⟨rfl, hb1⟩
  · by_cases h2 : b > e
    · skip
      go_enter Tryd.func6, Tryd.ntmps6
      go_wp2_with (refine step_box (cs := c2 b e) rfl rfl ?_; intro w1 g1 hg1 hle1 hb1; obtain ⟨c0, c1⟩ := hg1.two; clear hg1)
      go_ret2
      exact ⟨rfl, hb1⟩
    · have h3 : e > 281474976710656 := by omega
      go_enter Tryd.func6, Tryd.ntmps6
      go_wp2_with (refine step_box (cs := c2 b e) rfl rfl ?_; intro w1 g1 hg1 hle1 hb1; obtain ⟨c0, c1⟩ := hg1.two; clear hg1)
      go_ret2
      exact ⟨rfl, hb1⟩

set_option maxRecDepth 100000 in
set_option maxHeartbeats 1000000 in
theorem parts_ok (b e : Nat) (w : World) (hbe : b ≤ e) (he : e ≤ 281474976710656) (ht : TT w) :
    Calls Tryd.prog 5 #[.agg #[.int .i64 (b : Int), .int .i64 (e : Int)]] w fun r w' => ∃ v, r = .returned (.tuple #[v, .int .i64 0]) ∧ OwnM w' w.heap.size v (parts b e) ∧ Below w.heap.size w w' := by
  have k0 : ¬ (b : Int) < 0 := by omega
  have k1 : ¬ (b : Int) > (e : Int) := by omega
  have k2 : ¬ (e : Int) > 281474976710656 := by omega
  have T0 := hide ht
  clear ht
  go_enter Tryd.func5, Tryd.ntmps5
  go_wp2_with (refine step_box (cs := c2 (b : Int) (e : Int)) rfl rfl ?_; intro w1 g1 hg1 hle1 hb1; obtain ⟨c0, c1⟩ := hg1.two; have HG0 := hide hg1; clear hg1)
  have T1 := hide (T0.out.on hb1)
  have HB0 := hide hb1
  clear hb1 c0 c1 k0 k1 k2
  go_loopw [4, 5] (fun s4 s5 wr => ∃ k : Nat, k ≤ (parts b e).length ∧ s5 = .int .i64 (pbeg b e k : Int) ∧ Hid (OwnM wr w.heap.size s4 ((parts b e).take k)) ∧ Hid (Blk wr g1 23 (c2 (b : Int) (e : Int))) ∧ Hid (TT wr) ∧ Hid (Below w.heap.size w wr) ∧ Hid (s4.ownBlock ≠ some g1)) (fun _ s5 _ => e - (intOf s5).toNat)
  case atStart => exact ⟨0, Nat.zero_le _, by rw [pbeg_zero], hide (OwnM.nil _ _), HG0, T1, HB0, hide (by simp [Value.ownBlock])⟩
  case round =>
    obtain ⟨k, hk, rfl, HO, HG1, HT, HB, HNE⟩ := hrel
    obtain ⟨a4, l4, k4, rfl⟩ := HO.out.slice
    clear HG0 T1 HB0
    obtain ⟨c0, c1⟩ := HG1.out.two
    obtain ⟨s, HSx⟩ : ∃ s, Hid (pbeg b e k = s) := ⟨_, hide rfl⟩
    rw [HSx.out]
    by_cases hlt : k < (parts b e).length
    · obtain ⟨c, l', L, P, HC, HL, hmin, HP, HGN, hu, hue, hse, hcl, hPm⟩ := nz_facts hbe he hlt HSx.out.symm
      have hlt' : (s : Int) < (e : Int) := by omega
      have hlen9 : ((parts b e).take k).length ≤ 1048576 := by have := parts_98 b e he; rw [List.length_take]; omega
      obtain ⟨m, hm⟩ : ∃ m, e - s = m := ⟨_, rfl⟩
      rw [hm] at HL
      have hwm : IntKind.u64.wrap (m : Int) = (m : Int) := by rw [IntKind.wrap_u64]; omega
      have hws : IntKind.u64.wrap (s : Int) = (s : Int) := by rw [IntKind.wrap_u64]; omega
      have hsub2 : IntKind.i64.wrap ((e : Int) - (s : Int)) = (m : Int) := by rw [IntKind.wrap_i64]; omega
      have hl2 : IntKind.i64.wrap ((l' : Int) - 1) = (l' : Int) - 1 := by rw [IntKind.wrap_i64]; omega
      have HTZ : Hid (∀ q, Calls Tryd.prog 10 #[.int .u64 (s : Int)] (wr.drewN q) fun e w' => e = .returned (.int .i64 (c : Int)) ∧ w' = wr.drewN q) := hide (fun q => by
        have := tz_any s (wr.drewN q) (by omega) (fun i hi => HT.out i hi)
        rwa [HC.out] at this)
      have HLN : Hid (∀ q, Calls Tryd.prog 11 #[.int .u64 (m : Int)] (wr.drewN q) fun e w' => e = .returned (.int .i64 (l' : Int)) ∧ w' = wr.drewN q) := hide (fun q => by
        have := len_any (m : Int) (wr.drewN q) (by omega) (by omega)
        rwa [Int.toNat_natCast, HL.out] at this)
      obtain ⟨u, hu2⟩ : ∃ u, s + P = u := ⟨_, rfl⟩
      rw [hu2] at hu hue
      have hL48 : L ≤ 48 := by omega
      have hL0 : ¬ (L : Int) < 0 := by omega
      have hsu : s < u := by rw [← hu2, ← HP.out]; exact Nat.lt_add_of_pos_right (Nat.two_pow_pos L)
      have HAD := hide (show (s : Int) + (P : Int) = (u : Int) by rw [← hu2, Int.natCast_add])
      have HU := hide hu
      have hshr := aux_shr s L P HP
      have HPW := hide (aux_one P L HP (Nat.le_trans hPm (by decide)))
      clear hm hu hcl hu2
      go_wp2_with fail
      go_quiet (first | (go_at_call 10; exact Calls.quiet_of_same (HTZ.out _)) | (go_at_call 11; exact Calls.quiet_of_same (HLN.out _)))
      have HO' : Hid (OwnM (wr.drewN nq) w.heap.size (.slice a4 l4 k4) ((parts b e).take k)) := hide (HO.out.below (below_drews (Below.refl _ _) nq))
      have HG' : Hid (Blk (wr.drewN nq) g1 23 (c2 (b : Int) (e : Int))) := HG1
      have HT' : Hid (TT (wr.drewN nq)) := HT
      have HB' : Hid (Below w.heap.size w (wr.drewN nq)) := hide (below_drews HB.out nq)
      clear HO HG1 HT HB c0 c1 HTZ HLN hsub2 hl2 hwm hws hmin HC HL
      revert HO' HG' HT' HB'
      generalize wr.drewN nq = W
      intro HO HG1 HT HB
      have c1 := HG1.out.two.2
      go_wp2_with (refine steponeM (n := (L, s / P)) rfl rfl ?_)
      intro W1 g5 hg5 hle5 hb5
      have O5 := hide (HO.out.below hb5)
      have Y5 := hide hg5
      have G5 := hide (HG1.out.on hb5)
      have T5 := hide (HT.out.on hb5)
      have B5 := hide (on_below HB.out hb5)
      clear hg5 hb5 HO HG1 HB HT c1
      go_wp2_with (refine stepappM (v := .slice a4 l4 k4) rfl rfl rfl O5.out Y5.out hlen9 B5.out.size ?_)
      intro v6 W6 ho6 hgr6 hat6
      have O6 : Hid (OwnM W6 w.heap.size v6 ((parts b e).take (k + 1))) := hide (by rw [take_snoc (nG_get hlt), HGN.out]; exact ho6)
      have bel := (Below.refl w.heap.size W1).grown hgr6 B5.out.size (fun k hk => (O5.out.lt k hk).1)
      have G6 := hide (G5.out.grew hgr6 HNE.out)
      have T6 := hide (T5.out.below bel T0.out.lt)
      have B6 := hide (B5.out.trans bel)
      have N6 : Hid (v6.ownBlock ≠ some g1) := hide (fun hk => by
        rcases hat6 g1 hk with h | h
        · exact HNE.out h
        · exact absurd h (Nat.not_le.2 G5.out.lt))
      obtain ⟨a6, l6, k6, rfl⟩ := ho6.slice
      clear ho6 hgr6 hat6 bel O5 G5 T5 B5 Y5
      go_wp2_with (simp only [HPW.out])
      go_roundw
      case rel => exact ⟨k + 1, hlt, by rw [HAD.out, ← HU.out], O6, G6, T6, B6, N6⟩
      case measure => rw [HAD.out]; exact nz_lt hsu hse
    · obtain rfl : k = (parts b e).length := by omega
      have hse : s = e := by rw [← HSx.out]; exact pbeg_end hbe he
      have hse' : ¬ ((s : Int) < (e : Int)) := by omega
      have HO2 : Hid (OwnM wr w.heap.size (.slice a4 l4 k4) (parts b e)) := hide (by have := HO.out; rwa [List.take_length] at this)
      go_wp2
      go_ret2
      exact ⟨_, rfl, HO2.out, HB.out⟩

end Go.Proofs.YtlniffmhihhkcaaDoor
