/-
  Contracts of the two Digest functions: reading 32 bytes at a place.
-/
import Derived.Test.YtpfpgimhnmnhlaaArr
import Derived.Deep.RegionLaw
namespace Go.Proofs.Ytpfpgimhnmnhlaa
open Go.RowKit
set_option linter.unusedVariables false

/-- The first k bytes of ys laid over noughts. -/
def fillTo (ys : List Int) (k : Nat) : List Int := ys.take k ++ zs32.drop k
theorem fillTo_zero (ys : List Int) : fillTo ys 0 = zs32 := by simp [fillTo]
theorem fillTo_full (ys : List Int) (h : ys.length = 32) : fillTo ys 32 = ys := by
  simp [fillTo, zs32, ← h]
theorem fillTo_length (ys : List Int) (h : ys.length = 32) (k : Nat) (hk : k ≤ 32) : (fillTo ys k).length = 32 := by
  simp [fillTo, zs32]; omega
theorem fillTo_step (ys : List Int) (h : ys.length = 32) (k : Nat) (hk : k < 32) : (fillTo ys k).set k (ys.getD k 0) = fillTo ys (k + 1) := by
  apply List.ext_getElem?
  intro i
  simp only [fillTo, zs32]
  rcases Nat.lt_trichotomy i k with hi | hi | hi
  · rw [List.getElem?_set_ne (by omega), List.getElem?_append_left (by simp; omega), List.getElem?_append_left (by simp; omega)]
    simp [hi, show i < k + 1 by omega]
  · subst hi
    rw [List.getElem?_set_self (by simp; omega), List.getElem?_append_left (by simp; omega)]
    simp [List.getD, h, hk]
  · rw [List.getElem?_set_ne (by omega), List.getElem?_append_right (by simp; omega), List.getElem?_append_right (by simp; omega)]
    simp only [List.length_take, h, List.getElem?_drop]
    congr 1
    omega

set_option maxHeartbeats 400000 in
theorem refDigest_bad (a : Option Addr) (len cap : Nat) (p : Int) (w : World) (hl : len ≤ 140737488355328) (h : p < 0 ∨ (len : Int) < p ∨ (len : Int) - p < 32) :
    Calls Try.prog 20 #[.slice a len cap, .int .i64 p] w fun e w' => e = .returned (.tuple #[.agg (bs zs32), .int .i64 0, .int .i64 (rdE len p 32)]) ∧ Below w.heap.size w w' := by
  have key : ∀ E, ((p < 0 ∧ E = 2) ∨ (¬ p < 0 ∧ (len : Int) < p ∧ E = 2) ∨ (¬ p < 0 ∧ ¬ (len : Int) < p ∧ (len : Int) - p < 32 ∧ E = 10)) → Calls Try.prog 20 #[.slice a len cap, .int .i64 p] w fun e w' => e = .returned (.tuple #[.agg (bs zs32), .int .i64 0, .int .i64 E]) ∧ Below w.heap.size w w' := by
    rintro E (⟨h1, rfl⟩ | ⟨h1, h2, rfl⟩ | ⟨h1, h2, h3, rfl⟩)
    all_goals
      clear h
      go_enter Try.func20, Try.ntmps20
      go_wp2_with (refine step_alloc24 rfl ?_)
      intro w1 g1 hr1 hg1 hb1
      go_wp2_with (refine step_alloc24 rfl ?_)
      intro w2 g2 hr2 hg2 hb2
      have hr1' := hr1.below hb2 hr1.lt
      go_wp2_with (first | (refine step_loadA und24 info24 rfl rfl hr2 rfl ?_) | (refine step_storeA info24 rfl rfl rfl hr1' rfl rfl ?_))
      intro w3 hr3 hb3 ho3
      go_wp2
      refine bodyPost_ret (results_row3 rfl und24 info24 _ _ rfl hr3 rfl) rfl ⟨rfl, ?_⟩
      exact (hb1.trans (hb2.mono hb1.size)).trans (hb3.mono hg1)
  refine key _ ?_
  by_cases h1 : p < 0
  · left; simp [rdE, h1]
  · by_cases h2 : (len : Int) < p
    · right; left; simp [rdE, h2]; omega
    · right; right; have h3 : (len : Int) - p < 32 := by omega
      simp [rdE, h1, h2, h3]

set_option maxHeartbeats 400000 in
theorem refDigest_ok (b off len cap : Nat) (xs : List Int) (p : Nat) (w : World) (hx : xs.length = len) (hl : len ≤ 140737488355328) (h : p + 32 ≤ len)
    (hc : ∀ i, i < len → w.cell? ⟨b, off + i, none⟩ = some (.int .u8 (xs.getD i 0))) :
    Calls Try.prog 20 #[.slice (some ⟨b, off, none⟩) len cap, .int .i64 p] w fun e w' => e = .returned (.tuple #[.agg (bs ((xs.drop p).take 32)), .int .i64 (p + 32 : Int), .int .i64 0]) ∧ Below w.heap.size w w' := by
  have h1 : ¬ ((p : Int) < 0) := by omega
  have h2 : ¬ ((len : Int) < p) := by omega
  have h3 : ¬ ((len : Int) - p < 32) := by omega
  obtain ⟨ys, hys⟩ : ∃ ys, ys = (xs.drop p).take 32 := ⟨_, rfl⟩
  have hyl : ys.length = 32 := by subst hys; simp; omega
  have hyk : ∀ k, k < 32 → ys.getD k 0 = xs.getD (p + k) 0 := by
    intro k hk; subst hys; simp [List.getD, hk]
  rw [← hys]
  have HY := hide hyl
  have HK := hide hyk
  clear hys hyl hyk
  go_enter Try.func20, Try.ntmps20
  go_wp2_with (refine step_alloc24 rfl ?_)
  intro w1 g1 hr1 hg1 hb1
  go_wp2_with (refine step_alloc24 rfl ?_)
  intro w2 g2 hr2 hg2 hb2
  have hr1' := hr1.below hb2 hr1.lt
  have hb2' : Below w.heap.size w w2 := hb1.trans (hb2.mono hb1.size)
  have h12 : g1 ≠ g2 := by have := hr1.lt; omega
  have hg2' : w.heap.size ≤ g2 := Nat.le_trans hb1.size hg2
  clear hr1 hb1 hb2 hg2
  go_wp2
  go_loopw [8] (fun i wr => ∃ k : Nat, k ≤ 32 ∧ i = .int .i64 k ∧ Row wr g2 24 (fillTo ys k) ∧ Row wr g1 24 zs32 ∧ Below w.heap.size w wr) (fun i _ => 32 - (intOf i).toNat)
  case atStart => exact ⟨0, by omega, rfl, by rw [fillTo_zero]; exact hr2, hr1', hb2'⟩
  case round =>
    obtain ⟨k, hk, rfl, hr, hr1, hb⟩ := hrel
    by_cases hlt : k < 32
    · have hck : wr.cell? ⟨b, off + (p + k), none⟩ = some (.int .u8 (xs.getD (p + k) 0)) := by
        have := hc (p + k) (by omega)
        rw [hb.cell (World.block_lt_of_cell? w _ this)]; exact this
      have hcell := hr.cell k (by rw [fillTo_length ys HY.out k (by omega)]; omega)
      have hfree := hr.free k
      go_wp2
      go_roundw
      case rel =>
        have e := hr.set k (ys.getD k 0)
        rw [fillTo_step ys HY.out k hlt, HK.out k hlt] at e
        exact ⟨k + 1, by omega, by go_num, e, hr1.other (fun i hi => heap_setCell_other _ _ _ _ hi) h12, hb.setCell hg2' _⟩
      case measure => simp [intOf]; omega
    · have hk32 : k = 32 := by omega
      subst hk32
      rw [fillTo_full ys HY.out] at hr
      go_wp2_with (first | (refine step_loadA und24 info24 rfl rfl hr HY.out ?_) | (refine step_storeA info24 rfl rfl rfl hr1 rfl HY.out ?_))
      intro w3 hr3 hb3 ho3
      go_wp2
      refine bodyPost_ret (results_row3 rfl und24 info24 _ _ rfl hr3 HY.out) rfl ⟨rfl, ?_⟩
      exact hb.trans (hb3.mono hg1)

set_option maxHeartbeats 400000 in
theorem digest_bad (a : Option Addr) (len cap : Nat) (p : Int) (w : World) (hl : len ≤ 140737488355328) (h : p < 0 ∨ (len : Int) < p ∨ (len : Int) - p < 32) :
    Calls Try.prog 19 #[.slice a len cap, .int .i64 p] w fun e w' => e = .returned (.tuple #[.agg (bs zs32), .int .i64 0, .int .i64 (rdE len p 32)]) ∧ Below w.heap.size w w' := by
  have e3 : rdE len p 32 = 2 ∨ rdE len p 32 = 10 := by
    by_cases h1 : p < 0 ∨ (len : Int) < p
    · left; simp [rdE, h1]
    · right; have h2 : (len : Int) - p < 32 := by omega
      simp [rdE, h1, h2]
  have hne : (rdE len p 32 != 0) = true := by simp; omega
  clear e3 h
  go_enter Try.func19, Try.ntmps19
  go_wp2_with (refine step_alloc25 rfl ?_)
  intro w1 g1 hr1 hg1 hb1
  go_wp2_with (first | (go_at_call 36; refine (room_any _ _ _ _ 32 _ hl (by omega)).mono ?_; rintro e w' ⟨rfl, rfl⟩) | (refine step_build25 rfl ?_) | (refine step_storeA info25 rfl rfl rfl hr1 rfl rfl ?_))
  intro w3 hr3 hb3 ho3
  go_wp2
  refine bodyPost_ret (results_row3 rfl und25 info25 _ _ rfl hr3 rfl) rfl ⟨rfl, ?_⟩
  exact hb1.trans (hb3.mono hg1)

theorem info5 : (Try.prog.info? 5).map (·.size) = some 1 := by kernel_rfl

set_option maxHeartbeats 400000 in
theorem digest_ok (b off len cap : Nat) (xs : List Int) (p : Nat) (w : World) (hx : xs.length = len) (hl : len ≤ 140737488355328) (h : p + 32 ≤ len) (hcap : len ≤ cap) (hcm : cap ≤ 9223372036854775807)
    (hc : ∀ i, i < len → w.cell? ⟨b, off + i, none⟩ = some (.int .u8 (xs.getD i 0))) :
    Calls Try.prog 19 #[.slice (some ⟨b, off, none⟩) len cap, .int .i64 p] w fun e w' => e = .returned (.tuple #[.agg (bs ((xs.drop p).take 32)), .int .i64 (p + 32 : Int), .int .i64 0]) ∧ Below w.heap.size w w' := by
  obtain ⟨ys, hys⟩ : ∃ ys, ys = (xs.drop p).take 32 := ⟨_, rfl⟩
  have hyl : ys.length = 32 := by subst hys; simp; omega
  have hyk : ∀ k, k < 32 → ys.getD k 0 = xs.getD (p + k) 0 := by
    intro k hk; subst hys; simp [List.getD, hk]
  rw [← hys]
  have HY := hide hyl
  have HK := hide hyk
  have E3 : Hid (rdE len p 32 = 0) := by show _ = _; simp [rdE]; omega
  clear hys hyl hyk
  go_enter Try.func19, Try.ntmps19
  go_wp2_with (refine step_alloc25 rfl ?_)
  intro w1 g1 hr1 hg1 hb1
  have HC : Hid (∀ i, i < len → w1.cell? ⟨b, off + i, none⟩ = some (.int .u8 (xs.getD i 0))) := by
    intro i hi
    have := hc i hi
    rw [hb1.cell (World.block_lt_of_cell? w _ this)]; exact this
  clear hc
  go_wp2_with (go_at_call 36; refine (room_any _ _ _ _ 32 _ hl (by omega)).mono ?_; rintro e w' ⟨rfl, rfl⟩; rw [E3.out])
  have hpl : p ≤ len := by omega
  have hpc : ¬ cap = p := by omega
  have HN : Hid ((ys.map (Value.int .u8)).length = Nat.min (len - p) 32) := by show _ = _; rw [List.length_map, HY.out]; exact (Nat.min_eq_right (by omega)).symm
  have HP : Hid (∀ j v, (ys.map (Value.int .u8))[j]? = some v → w1.cell? ((⟨b, off + p, none⟩ : Addr).add j) = some v) := by
    intro j v hj
    have hj32 : j < 32 := by
      have := (List.getElem?_eq_some_iff.1 hj).1
      simpa [HY.out] using this
    rw [Addr.add_lit, Nat.add_assoc, HC.out (p + j) (by omega)]
    have e : (ys.map (Value.int .u8))[j]? = some (.int .u8 (ys.getD j 0)) := by simp [List.getD, HY.out, hj32]
    rw [e, HK.out j hj32] at hj
    exact hj
  go_region_law (refine step_copy_splice rfl (.tmp 16) (.tmp 19) 22 22 rfl 5 Try.underlying22 info5 (some ⟨g1, 0, none⟩) (some ⟨b, off + p, none⟩) 32 32 (len - p) (cap - p) (by simp [Act.eval, Act.put]) (by simp [Act.eval, Act.put]) g1 0 (zs32.map (Value.int .u8)) 25 hr1 (ys.map (Value.int .u8)) HN.out (fun _ => ⟨rfl, _, rfl, HP.out⟩) (by simp [HY.out, zs32]) (bs_one _) w.heap.size w hb1.drew hg1 ?_; intro w4 hg4 hb4)
  have hr4 : Row w4 g1 25 ys := by
    have e := hg4.out
    have e2 : splice (zs32.map (Value.int .u8)) 0 (ys.map (Value.int .u8)) = ys.map (Value.int .u8) := by
      simp [splice, zs32, HY.out]
    rw [e2] at e
    exact e
  clear hg4 hr1 hb1 HC HP
  go_wp2_with (first | (refine step_loadA und25 info25 rfl rfl hr4 HY.out ?_) | (refine step_storeA info25 rfl rfl rfl hr4 HY.out HY.out ?_))
  intro w5 hr5 hb5 ho5
  go_wp2
  refine bodyPost_ret (results_row3 rfl und25 info25 _ _ rfl hr5 HY.out) rfl ⟨?_, ?_⟩
  · simp
    rw [HY.out]
    exact IntWalk.wrap64_in _ (by omega)
  · exact hb4.trans (hb5.mono hg1)

theorem digest_any (a : Option Addr) (len cap : Nat) (xs : List Int) (p : Int) (w : World) (hs : Sl w a len cap xs) :
    Calls Try.prog 19 #[.slice a len cap, .int .i64 p] w fun e w' => e = .returned (.tuple #[.agg (bs (rdD xs p)), .int .i64 (rdN len p 32), .int .i64 (rdE len p 32)]) ∧ Below w.heap.size w w' := by
  obtain ⟨hx, hcap, hcm, hl, hb, _, hc⟩ := hs
  by_cases h : p < 0 ∨ (len : Int) < p ∨ (len : Int) - p < 32
  · have e1 : rdD xs p = zs32 := by rw [rdD, if_neg (by rw [hx]; omega)]
    have e2 : rdN len p 32 = 0 := by rw [rdN, if_neg (by omega)]
    rw [e1, e2]
    exact digest_bad a len cap p w hl h
  · obtain ⟨p, rfl⟩ := Int.eq_ofNat_of_zero_le (show 0 ≤ p by omega)
    obtain ⟨b, off, rfl, hce⟩ := hc (by omega)
    have e1 : rdD xs p = (xs.drop p).take 32 := by rw [rdD, if_pos (by rw [hx]; omega)]; simp
    have e2 : rdN len p 32 = p + 32 := by rw [rdN, if_pos (by omega)]; rfl
    have e3 : rdE len p 32 = 0 := by rw [rdE, if_neg (by omega), if_neg (by omega)]
    rw [e1, e2, e3]
    exact digest_ok b off len cap xs p w hx hl (by omega) hcap hcm hce

theorem refDigest_any (a : Option Addr) (len cap : Nat) (xs : List Int) (p : Int) (w : World) (hs : Sl w a len cap xs) :
    Calls Try.prog 20 #[.slice a len cap, .int .i64 p] w fun e w' => e = .returned (.tuple #[.agg (bs (rdD xs p)), .int .i64 (rdN len p 32), .int .i64 (rdE len p 32)]) ∧ Below w.heap.size w w' := by
  obtain ⟨hx, hcap, hcm, hl, hb, _, hc⟩ := hs
  by_cases h : p < 0 ∨ (len : Int) < p ∨ (len : Int) - p < 32
  · have e1 : rdD xs p = zs32 := by rw [rdD, if_neg (by rw [hx]; omega)]
    have e2 : rdN len p 32 = 0 := by rw [rdN, if_neg (by omega)]
    rw [e1, e2]
    exact refDigest_bad a len cap p w hl h
  · obtain ⟨p, rfl⟩ := Int.eq_ofNat_of_zero_le (show 0 ≤ p by omega)
    obtain ⟨b, off, rfl, hce⟩ := hc (by omega)
    have e1 : rdD xs p = (xs.drop p).take 32 := by rw [rdD, if_pos (by rw [hx]; omega)]; simp
    have e2 : rdN len p 32 = p + 32 := by rw [rdN, if_pos (by omega)]; rfl
    have e3 : rdE len p 32 = 0 := by rw [rdE, if_neg (by omega), if_neg (by omega)]
    rw [e1, e2, e3]
    exact refDigest_ok b off len cap xs p w hx hl (by omega) hce

end Go.Proofs.Ytpfpgimhnmnhlaa
