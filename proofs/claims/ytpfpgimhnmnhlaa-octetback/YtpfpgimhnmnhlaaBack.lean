/-
  The walk of OctetBack: what is put is read again.
-/
import Derived.Test.YtpfpgimhnmnhlaaPuts
namespace Go.Proofs.Ytpfpgimhnmnhlaa
open Go.RowKit
set_option linter.unusedVariables false

theorem be_succ (v : Int) (n : Nat) : be v (n + 1) = be (v / 256) n ++ [v % 256] := by
  simp only [be, List.range_succ, List.map_append, List.map_cons, List.map_nil]
  congr 1
  · apply List.map_congr_left
    intro i hi
    have hi2 : i < n := List.mem_range.1 hi
    have e : n + 1 - 1 - i = (n - 1 - i) + 1 := by omega
    rw [e, Int.pow_succ, Int.mul_comm, ← Int.ediv_ediv_of_nonneg (by decide)]
  · simp

theorem beVal_be (n : Nat) : ∀ v : Int, 0 ≤ v → v < 256 ^ n → beVal (be v n) = v := by
  induction n with
  | zero => intro v h0 h1; simp at h1; simp [be, beVal]; omega
  | succ n ih =>
    intro v h0 h1
    rw [be_succ, beVal_snoc, ih (v / 256) (by omega) (by rw [Int.pow_succ] at h1; omega)]
    omega

theorem rdV_mid (X M R : List Int) (p : Int) (n : Nat) (hp : p = X.length) (hn : n = M.length) : rdV (X ++ (M ++ R)) p n = beVal M := by
  subst hp hn
  rw [rdV, if_pos (by simp only [List.length_append]; omega)]
  simp
theorem rdD_mid (X M R : List Int) (p : Int) (hp : p = X.length) (hn : M.length = 32) : rdD (X ++ (M ++ R)) p = M := by
  subst hp
  rw [rdD, if_pos (by simp only [List.length_append]; omega)]
  simp [← hn]
theorem rdE_ok (len : Nat) (p : Int) (n : Nat) (h0 : 0 ≤ p) (h : p + n ≤ len) : rdE len p n = 0 := by
  rw [rdE, if_neg (by omega), if_neg (by omega)]
theorem rdN_ok (len : Nat) (p : Int) (n : Nat) (h0 : 0 ≤ p) (h : p + n ≤ len) : rdN len p n = p + n := by
  rw [rdN, if_pos (by omega)]

set_option maxRecDepth 100000 in
set_option maxHeartbeats 2000000 in
theorem back_walk (a : Option Addr) (len cap : Nat) (xs : List Int) (v : Int) (ds : List Int) (w : World) (hs : Sl w a len cap xs) (hl : cap ≤ 140737488351232) (hv0 : 0 ≤ v) (hv1 : v < 18446744073709551616) (hd : ds.length = 32) (hdb : isB ds) :
    Calls Try.prog 8 #[.slice a len cap, .int .u64 v, .agg (bs ds)] w fun e w' => e = .returned (.bool true) ∧ Below w.heap.size w w' := by
  have HS := hide hs
  have hcap := hs.hcap
  have hlen := hs.hlen
  have HD := hide hd
  clear hs hd
  go_enter Try.func8, Try.ntmps8
  go_wp2_with (refine step_box25 rfl rfl ?_)
  intro u gd hrd hgd hbu
  go_wp2
  have hrd2 : Row u.drew gd 25 ds := hrd
  have hk2 := range_next hrd2 (Below.refl _ _)
  have hsu : Sl u.drew a len cap xs := (HS.out.below hbu).below ((Below.refl _ _).drew)
  have HSU := hide hsu
  clear hsu
  have hi25 : (Try.prog.info? 25).map (·.size) = some (ds.map (Value.int .u8)).length := by rw [List.length_map, HD.out]; exact info25
  refine wp_region_noPanic ?_
  refine wp_region_held_drew (S := fun w' => w'.rangeAt gd 0 (ds.map (Value.int .u8))) (by kernel_rfl) hk2 (fun hHeld => ?_)
  refine takeH 0 20 (.slice a len cap) hHeld rfl rfl (by kernel_rfl) (by kernel_rfl) (by kernel_rfl) (fun _ _ _ h => h) (Or.inl ⟨by rfl, fun w _ => by go_simp⟩) ?_
  simp only [Act.put, List.setIfInBounds_toArray, List.set_cons_zero, List.set_cons_succ]
  refine takeH 1 21 (.int .u64 v) hHeld rfl rfl (by kernel_rfl) (by kernel_rfl) (by kernel_rfl) (fun _ _ _ h => h) (Or.inl ⟨by rfl, fun w _ => by go_simp⟩) ?_
  simp only [Act.put, List.setIfInBounds_toArray, List.set_cons_zero, List.set_cons_succ]
  refine takeH 2 22 (.int .u16 (v % 65536)) hHeld rfl rfl (by kernel_rfl) (by kernel_rfl) (by kernel_rfl) (fun _ _ _ h => h) (Or.inl ⟨by rfl, fun w _ => by go_simp; exact IntKind.wrap_u16 v⟩) ?_
  simp only [Act.put, List.setIfInBounds_toArray, List.set_cons_zero, List.set_cons_succ]
  refine takeH 4 24 (.int .u64 v) hHeld rfl rfl (by kernel_rfl) (by kernel_rfl) (by kernel_rfl) (fun _ _ _ h => h) (Or.inl ⟨by rfl, fun w _ => by go_simp⟩) ?_
  simp only [Act.put, List.setIfInBounds_toArray, List.set_cons_zero, List.set_cons_succ]
  refine takeH 5 25 (.int .u32 (v % 4294967296)) hHeld rfl rfl (by kernel_rfl) (by kernel_rfl) (by kernel_rfl) (fun _ _ _ h => h) (Or.inl ⟨by rfl, fun w _ => by go_simp; exact IntKind.wrap_u32' v⟩) ?_
  simp only [Act.put, List.setIfInBounds_toArray, List.set_cons_zero, List.set_cons_succ]
  refine takeH 7 27 (.int .u64 v) hHeld rfl rfl (by kernel_rfl) (by kernel_rfl) (by kernel_rfl) (fun _ _ _ h => h) (Or.inl ⟨by rfl, fun w _ => by go_simp⟩) ?_
  simp only [Act.put, List.setIfInBounds_toArray, List.set_cons_zero, List.set_cons_succ]
  refine takeH 9 29 (.agg (bs ds)) hHeld rfl rfl (by kernel_rfl) (by kernel_rfl) (by kernel_rfl) (fun _ _ _ h => h) (yieldsIf_load_mid (by rfl) _ _ rfl gd 0 rfl _ _ (fun w h => h) und25 rfl hi25) ?_
  simp only [Act.put, List.setIfInBounds_toArray, List.set_cons_zero, List.set_cons_succ]
  refine wpAnyH_ready (rs := [3]) (by kernel_rfl) (by simp) (AllReadyH.cons rfl (fun K hK => ?_) AllReadyH.nil)
  rw [if_pos (by rfl)]
  go_simp
  refine (putUint16_any _ _ _ xs (v % 65536) _ HSU.out (by omega) (by omega)).mono ?_
  rintro e w1 ⟨g1, rfl, hg1, hr1, hb1⟩
  refine hK.out _ _ (range_next hrd2 hb1) (fun hHeld => ?_)
  clear hK K
  have hl1 : Hid ((xs ++ be (v % 65536) 2).length = len + 2) := by show _ = _; rw [List.length_append, be_length, hlen]
  have s1 := hr1.sl (HS.out.hbyte.append (be_isB _ _)) (by rw [hl1.out]; omega)
  rw [hl1.out] at s1
  refine wpAnyH_ready (rs := [6]) (by kernel_rfl) (by simp) (AllReadyH.cons rfl (fun K hK => ?_) AllReadyH.nil)
  rw [if_pos (by rfl)]
  go_simp
  refine (putUint32_any _ _ _ _ (v % 4294967296) _ s1 (by omega) (by omega)).mono ?_
  rintro e w2 ⟨g2, rfl, hg2, hr2, hb2⟩
  have b2 := hb1.trans (hb2.mono hb1.size)
  refine hK.out _ _ (range_next hrd2 b2) (fun hHeld => ?_)
  clear hK K
  have hl2 : Hid ((xs ++ be (v % 65536) 2 ++ be (v % 4294967296) 4).length = len + 2 + 4) := by show _ = _; rw [List.length_append, hl1.out, be_length]
  have s2 := hr2.sl ((HS.out.hbyte.append (be_isB _ _)).append (be_isB _ _)) (by rw [hl2.out]; omega)
  rw [hl2.out] at s2
  refine wpAnyH_ready (rs := [8]) (by kernel_rfl) (by simp) (AllReadyH.cons rfl (fun K hK => ?_) AllReadyH.nil)
  rw [if_pos (by rfl)]
  go_simp
  refine (putUint64_any _ _ _ _ v _ s2 hv0 hv1).mono ?_
  rintro e w3 ⟨g3, rfl, hg3, hr3, hb3⟩
  have b3 := b2.trans (hb3.mono b2.size)
  refine hK.out _ _ (range_next hrd2 b3) (fun hHeld => ?_)
  clear hK K
  have hl3 : Hid ((xs ++ be (v % 65536) 2 ++ be (v % 4294967296) 4 ++ be v 8).length = len + 2 + 4 + 8) := by show _ = _; rw [List.length_append, hl2.out, be_length]
  have s3 := hr3.sl (((HS.out.hbyte.append (be_isB _ _)).append (be_isB _ _)).append (be_isB _ _)) (by rw [hl3.out]; omega)
  rw [hl3.out] at s3
  refine wpAnyH_ready (rs := [10]) (by kernel_rfl) (by simp) (AllReadyH.cons rfl (fun K hK => ?_) AllReadyH.nil)
  rw [if_pos (by rfl)]
  go_simp
  refine (putDigest_any _ _ _ _ ds _ s3 HD.out hdb).mono ?_
  rintro e w4 ⟨g4, rfl, hg4, hr4, hb4⟩
  have b4 := b3.trans (hb4.mono b3.size)
  refine hK.out _ _ (range_next hrd2 b4) (fun hHeld => ?_)
  clear hK K
  have hl4 : Hid ((xs ++ be (v % 65536) 2 ++ be (v % 4294967296) 4 ++ be v 8 ++ ds).length = len + 2 + 4 + 8 + 32) := by show _ = _; rw [List.length_append, hl3.out, HD.out]
  have s4 := hr4.sl ((((HS.out.hbyte.append (be_isB _ _)).append (be_isB _ _)).append (be_isB _ _)).append hdb) (by rw [hl4.out]; omega)
  rw [hl4.out] at s4
  refine takeH 11 7 (.slice (some ⟨g4, 0, none⟩) (len + 2 + 4 + 8 + 32) (len + 2 + 4 + 8 + 32)) hHeld rfl rfl (by kernel_rfl) (by kernel_rfl) (by kernel_rfl) (fun _ _ _ h => h) (Or.inl ⟨by rfl, fun w _ => by go_simp⟩) ?_
  simp only [Act.put, List.setIfInBounds_toArray, List.set_cons_zero, List.set_cons_succ]
  refine wpAnyH_done (by kernel_rfl) ?_ _
  refine NoPanic.normal ?_
  obtain ⟨ALL, hALL⟩ : ∃ ALL, ALL = xs ++ be (v % 65536) 2 ++ be (v % 4294967296) 4 ++ be v 8 ++ ds := ⟨_, rfl⟩
  have R2 : Hid (rdV ALL len 2 = v % 65536) := by
    show _ = _
    rw [hALL, List.append_assoc, List.append_assoc, List.append_assoc, rdV_mid _ _ _ _ 2 (by omega) (be_length _ _).symm, beVal_be 2 _ (by omega) (by omega)]
  have R4 : Hid (rdV ALL (len + 2) 4 = v % 4294967296) := by
    show _ = _
    rw [hALL, List.append_assoc, List.append_assoc, rdV_mid _ _ _ _ 4 (by rw [hl1.out]; omega) (be_length _ _).symm, beVal_be 4 _ (by omega) (by omega)]
  have R8 : Hid (rdV ALL (len + 2 + 4) 8 = v) := by
    show _ = _
    rw [hALL, List.append_assoc, rdV_mid _ _ _ _ 8 (by rw [hl2.out]; omega) (be_length _ _).symm, beVal_be 8 _ (by omega) (by omega)]
  have RD : Hid (rdD ALL (len + 2 + 4 + 8) = ds) := by
    show _ = _
    have e := rdD_mid (xs ++ be (v % 65536) 2 ++ be (v % 4294967296) 4 ++ be v 8) ds [] ((len : Int) + 2 + 4 + 8) (by rw [hl3.out]; omega) HD.out
    rw [List.append_nil] at e
    rw [hALL]
    exact e
  rw [← hALL] at s4
  have S4 := hide s4
  have hr5 : Row w4 gd 25 ds := hrd2.below b4 hrd2.lt
  have hbw : Below w.heap.size w w4 := (hbu.trans ((Below.refl _ _).drew)).trans (b4.mono hbu.size)
  clear hALL s4 s3 s2 s1 hl1 hl2 hl3 hl4 hHeld hr1 hr2 hr3 hr4 hb1 hb2 hb3 hb4 b2 b3 b4 hg1 hg2 hg3 hg4 hrd hrd2 hk2 HSU hi25 hgd hbu
  go_wp2_with (go_at_call 15; refine (uint16_any _ _ _ ALL _ _ S4.out).mono ?_; rintro e w' ⟨rfl, rfl⟩; rw [R2.out, rdE_ok _ _ 2 (by omega) (by omega), rdN_ok _ _ 2 (by omega) (by omega)])
  refine (uint32_any _ _ _ ALL _ _ S4.out).mono ?_
  rintro e w' ⟨rfl, rfl⟩
  rw [R4.out, rdE_ok _ _ 4 (by omega) (by omega), rdN_ok _ _ 4 (by omega) (by omega)]
  go_wp2_with fail
  refine (uint64_any _ _ _ ALL _ _ S4.out).mono ?_
  rintro e w' ⟨rfl, rfl⟩
  rw [R8.out, rdE_ok _ _ 8 (by omega) (by omega), rdN_ok _ _ 8 (by omega) (by omega)]
  go_wp2_with fail
  refine (digest_any _ _ _ ALL _ _ S4.out).mono ?_
  rintro e w5 ⟨rfl, hb5⟩
  rw [show rdD ALL _ = ds from RD.out, rdE_ok _ _ 32 (by omega) (by omega), rdN_ok _ _ 32 (by omega) (by omega)]
  have hr6 := hr5.below hb5 hr5.lt
  have hbw5 := hbw.trans (hb5.mono hbw.size)
  clear hr5 hb5 hbw
  go_wp2_with (refine step_alloc25 rfl ?_)
  intro w6 g6 hr7 hg6 hb6
  have hr8 := hr6.below hb6 hr6.lt
  go_wp2_with (refine step_storeA info25 rfl rfl rfl hr7 rfl HD.out ?_)
  intro w7 hr9 hb7 ho7
  have hr10 := hr8.other ho7.out (by have := hr6.lt; omega)
  have hbw7 := (hbw5.trans (hb6.mono hbw5.size)).trans (hb7.mono (Nat.le_trans hbw5.size hg6))
  clear hr6 hr7 hr8 ho7 hb6 hb7 hbw5
  have hw16 := IntKind.wrap_u16 v
  have h46 : ((len : Int) + 2 + 4 + 8 + 32 == (len : Int) + 46) = true := by simp; omega
  go_wp2_with (first | (refine step_loadA und25 info25 rfl rfl hr9 HD.out ?_) | (refine step_loadA und25 info25 rfl rfl hr10 HD.out ?_) | (refine step_eqA25 rfl rfl rfl HD.out HD.out ?_))
  go_ret
  exact ⟨rfl, hbw7⟩

end Go.Proofs.Ytpfpgimhnmnhlaa
