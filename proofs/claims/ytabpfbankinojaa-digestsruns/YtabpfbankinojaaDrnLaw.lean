/-
  The walk of DigestsRuns.
-/
import Derived.Test.YtabpfbankinojaaDgh
import Derived.Test.YtabpfbankinojaaJkr
import Derived.Deep.Cut
namespace Go.Proofs.Ytabpfbankinojaa
open Go.RowKit
set_option linter.unusedVariables false
set_option linter.unusedSimpArgs false
set_option maxRecDepth 100000

theorem and64 (r : Nat) (h : r ≤ 4398046511104) (h1 : 1 ≤ r) (h0 : r &&& (r - 1) = 0) : bits .and .i64 (r : Int) ((r : Int) - 1) = 0 := by
  have e : (2 : Int) ^ 62 = 4611686018427387904 := by decide
  have e2 : 2 ^ 62 = 4611686018427387904 := by decide
  have h9 := (bits_nat .i64 62 (by decide) (fun n ha hb => wrap_in n (by omega) (by omega)) r (r - 1) (by omega) (by omega)).1
  rw [h0] at h9
  have h8 : ((r - 1 : Nat) : Int) = (r : Int) - 1 := by omega
  rw [h8] at h9
  exact h9
/-- What stands through the digests. -/
structure RW (w W : World) (g : Nat) (v : Value) (us : List Value) (rs : List (List Ent)) (xs : List Int) (i n : Nat) : Prop where
  ix : IxA W g v us rs
  bel : Below w.heap.size w W
  lt : w.heap.size ≤ g
  pl : PL xs i rs
  cn : cnt rs = n
  nle : n ≤ i
theorem RW.on {w W W' : World} {g : Nat} {v : Value} {us : List Value} {rs : List (List Ent)} {xs : List Int} {i n : Nat} (h : RW w W g v us rs xs i n) (hb : Below W.heap.size W W') : RW w W' g v us rs xs i n := ⟨h.ix.on hb, on_below h.bel hb, h.lt, h.pl, h.cn, h.nle⟩
set_option maxHeartbeats 4000000 in
theorem druns_walk (a : Option Addr) (len cap : Nat) (xs : List Int) (w : World) (hs : Ds w a len cap xs) (hc : cap ≤ 4398046510976) :
    Calls Try.prog 5 #[.slice a len cap] w fun e w' => e = .returned (.bool true) ∧ Below w.heap.size w w' := by
  have HS := hide hs
  have hlc := hs.hcap
  clear hs
  go_enter Try.func5, Try.ntmps5
  go_wp2_with fail
  refine (new_any w).mono ?_
  rintro e w1 ⟨g, rfl, hix, hg, hb⟩
  have H0 : Hid (RW w w1 g (.slice none 0 0) [] [] xs 0 0) := hide ⟨hix, hb, hg, PL.zero xs, rfl, Nat.le_refl _⟩
  clear hix hb hg
  go_wp2
  go_loopw [4, 5] (fun s4 s5 wr => ∃ (i n : Nat) (v : Value) (us : List Value) (rs : List (List Ent)), i ≤ len ∧ s4 = .int .i64 n ∧ s5 = .int .i64 i ∧ Hid (RW w wr g v us rs xs i n)) (fun _ s5 _ => len - (intOf s5).toNat)
  case atStart => exact ⟨0, 0, _, _, _, Nat.zero_le _, rfl, rfl, H0⟩
  case round =>
    obtain ⟨i, n, v, us, rs, hi, rfl, rfl, HW⟩ := hrel
    have hnl : n ≤ 4398046510976 := by have := HW.out.nle; omega
    by_cases hlt : i < len
    · have hlt' : (i : Int) < (len : Int) := by omega
      obtain ⟨b, o, rfl⟩ := HS.out.place (by omega)
      have HSW := hide (HS.out.below HW.out.bel)
      obtain ⟨x, hxd, hxp⟩ : ∃ x : Ent, x.d = dat xs i ∧ x.p = (i : Int) := ⟨⟨dat xs i, i, dat_length HS.out.hlen hlt, dat_isB HS.out.hbyte i⟩, rfl, rfl⟩
      have HXD := hide hxd
      have HXP := hide hxp
      have HRG := hide (HSW.out.range i hlt)
      have hix := fun W => d_at b o len cap i (i : Int) rfl hlt W
      have HRL : Hid ((u8s (dat xs i)).length = 32) := hide (by rw [u8s_length]; exact dat_length HS.out.hlen hlt)
      have hnc : cnt rs < 4398046511104 := by rw [HW.out.cn]; omega
      clear hxd hxp
      cases hf : fnd rs (dat xs i) with
      | some p =>
        have HAD := hide (add_there g v us rs (dat xs i) (i : Int) wr HW.out.ix (dat_length HS.out.hlen hlt) (dat_isB HS.out.hbyte i) hnc (by omega) hf)
        have HPL := hide (HW.out.pl.there hf)
        clear hf
        go_upto_region 6 with fail
        go_wp2_with (refine step_loadR wideD rfl rfl (u8s (dat xs i)) HRG.out HRL.out ?_)
        refine HAD.out.mono ?_
        rintro e w3 ⟨rfl, hb3⟩
        have HV : Hid (RW w w3 g v us rs xs (i + 1) n) := hide ⟨HW.out.ix.on hb3, on_below HW.out.bel hb3, HW.out.lt, HPL.out, HW.out.cn, by have := HW.out.nle; omega⟩
        clear hb3 HAD HW HSW HRG
        have HSV := hide (HS.out.below HV.out.bel)
        have HRG2 := hide (HSV.out.range i hlt)
        obtain ⟨j, hji, hfj, hdj⟩ := HV.out.pl.find
        have hfew := HV.out.ix.ok.few (by rw [HV.out.cn]; omega)
        have HFN := hide (find_any g _ _ _ (dat xs i) _ HV.out.ix.hd HV.out.ix.rv HV.out.ix.ok.sk (dat_length HS.out.hlen hlt) (dat_isB HS.out.hbyte i) (fun r hr => by have := cnt_le hr; rw [HV.out.cn] at this; omega) (by omega))
        rw [hfj] at HFN
        have HDJ := hide hdj
        have hjl : j < len := by omega
        clear hfj hdj hfew
        go_upto_region 8 with fail
        go_wp2_with (refine step_loadR wideD rfl rfl (u8s (dat xs i)) HRG2.out HRL.out ?_)
        refine HFN.out.mono ?_
        rintro e w5 ⟨rfl, hb5⟩
        unfold fO
        simp only [Option.getD_some, Option.isSome_some]
        have HV5 := hide (HV.out.on hb5)
        have HS5 := hide (HS.out.below HV5.out.bel)
        have hji2 : ¬ (i : Int) < (j : Int) := by omega
        have hix2 := fun W => d_at b o len cap j (j : Int) rfl hjl W
        have HIX := hide hix
        have HIX2 := hide hix2
        clear hb5 HV HSV HRG2 HFN hix hix2
        go_upto_region 9 with fail
        refine wp_region_noPanic ?_
        have BD := hide (Below.refl w5.heap.size w5).drew
        refine wp_region_held_drew (S := fun V : World => Below w5.heap.size w5 V) (by kernel_rfl) BD.out (fun hHeld => ?_)
        have HX1 : Hid ((Try.prog.info? 24).map (·.size) = some (u8s (dat xs i)).length) := hide (by rw [wideD.size, HRL.out])
        have HX2 : Hid ((Try.prog.info? 24).map (·.size) = some (u8s (dat xs j)).length) := hide (by rw [HDJ.out]; exact HX1.out)
        have hu := aDd.und
        refine takeH 0 37 (.bool true) hHeld rfl rfl (by kernel_rfl) (by kernel_rfl) (by kernel_rfl) (fun _ _ _ h => h) (Or.inl ⟨by rfl, fun w _ => by go_simp⟩) ?_
        simp only [Act.put, List.setIfInBounds_toArray, List.set_cons_zero, List.set_cons_succ]
        refine takeH 1 38 (.bool false) hHeld rfl rfl (by kernel_rfl) (by kernel_rfl) (by kernel_rfl) (fun _ _ _ h => h) (Or.inl ⟨by rfl, fun w _ => by go_simp⟩) ?_
        simp only [Act.put, List.setIfInBounds_toArray, List.set_cons_zero, List.set_cons_succ]
        refine takeH 2 39 (.bool false) hHeld rfl rfl (by kernel_rfl) (by kernel_rfl) (by kernel_rfl) (fun _ _ _ h => h) (Or.inl ⟨by rfl, fun w _ => by go_simp⟩) ?_
        simp only [Act.put, List.setIfInBounds_toArray, List.set_cons_zero, List.set_cons_succ]
        refine takeH 3 40 (.int .i64 (j : Int)) hHeld rfl rfl (by kernel_rfl) (by kernel_rfl) (by kernel_rfl) (fun _ _ _ h => h) (Or.inl ⟨by rfl, fun w _ => by go_simp⟩) ?_
        simp only [Act.put, List.setIfInBounds_toArray, List.set_cons_zero, List.set_cons_succ]
        refine takeH 4 41 (.int .i64 (i : Int)) hHeld rfl rfl (by kernel_rfl) (by kernel_rfl) (by kernel_rfl) (fun _ _ _ h => h) (Or.inl ⟨by rfl, fun w _ => by go_simp⟩) ?_
        simp only [Act.put, List.setIfInBounds_toArray, List.set_cons_zero, List.set_cons_succ]
        refine takeH 5 42 (.bool false) hHeld rfl rfl (by kernel_rfl) (by kernel_rfl) (by kernel_rfl) (fun _ _ _ h => h) (Or.inl ⟨by rfl, fun w _ => by go_simp⟩) ?_
        simp only [Act.put, List.setIfInBounds_toArray, List.set_cons_zero, List.set_cons_succ]
        refine takeH 6 43 (.bool false) hHeld rfl rfl (by kernel_rfl) (by kernel_rfl) (by kernel_rfl) (fun _ _ _ h => h) (Or.inl ⟨by rfl, fun w _ => by go_simp⟩) ?_
        simp only [Act.put, List.setIfInBounds_toArray, List.set_cons_zero, List.set_cons_succ]
        refine takeH 7 44 (.bool false) hHeld rfl rfl (by kernel_rfl) (by kernel_rfl) (by kernel_rfl) (fun _ _ _ h => h) (Or.inl ⟨by rfl, fun w _ => by go_simp⟩) ?_
        simp only [Act.put, List.setIfInBounds_toArray, List.set_cons_zero, List.set_cons_succ]
        refine takeH 8 45 (.slice (some ⟨b, o, none⟩) len cap) hHeld rfl rfl (by kernel_rfl) (by kernel_rfl) (by kernel_rfl) (fun _ _ _ h => h) (Or.inl ⟨by rfl, fun w _ => by go_simp⟩) ?_
        simp only [Act.put, List.setIfInBounds_toArray, List.set_cons_zero, List.set_cons_succ]
        refine takeH 9 46 (.int .i64 (j : Int)) hHeld rfl rfl (by kernel_rfl) (by kernel_rfl) (by kernel_rfl) (fun _ _ _ h => h) (Or.inl ⟨by rfl, fun w _ => by go_simp⟩) ?_
        simp only [Act.put, List.setIfInBounds_toArray, List.set_cons_zero, List.set_cons_succ]
        refine takeH 10 47 (.pointer (some ⟨b, o + 32 * j, none⟩)) hHeld rfl rfl (by kernel_rfl) (by kernel_rfl) (by kernel_rfl) (fun _ _ _ h => h) (Or.inl ⟨by rfl, fun w _ => run_op rfl (HIX2.out w)⟩) ?_
        simp only [Act.put, List.setIfInBounds_toArray, List.set_cons_zero, List.set_cons_succ]
        refine takeH 11 48 (.agg (u8s (dat xs j)).toArray) hHeld rfl rfl (by kernel_rfl) (by kernel_rfl) (by kernel_rfl) (fun _ _ _ h => h) (yieldsIf_load_mid (by rfl) _ _ rfl b (o + 32 * j) rfl _ _ (fun V h => (HS5.out.below h).range j hjl) hu rfl HX2.out) ?_
        simp only [Act.put, List.setIfInBounds_toArray, List.set_cons_zero, List.set_cons_succ]
        refine takeH 12 49 (.slice (some ⟨b, o, none⟩) len cap) hHeld rfl rfl (by kernel_rfl) (by kernel_rfl) (by kernel_rfl) (fun _ _ _ h => h) (Or.inl ⟨by rfl, fun w _ => by go_simp⟩) ?_
        simp only [Act.put, List.setIfInBounds_toArray, List.set_cons_zero, List.set_cons_succ]
        refine takeH 13 50 (.int .i64 (i : Int)) hHeld rfl rfl (by kernel_rfl) (by kernel_rfl) (by kernel_rfl) (fun _ _ _ h => h) (Or.inl ⟨by rfl, fun w _ => by go_simp⟩) ?_
        simp only [Act.put, List.setIfInBounds_toArray, List.set_cons_zero, List.set_cons_succ]
        refine takeH 14 51 (.pointer (some ⟨b, o + 32 * i, none⟩)) hHeld rfl rfl (by kernel_rfl) (by kernel_rfl) (by kernel_rfl) (fun _ _ _ h => h) (Or.inl ⟨by rfl, fun w _ => run_op rfl (HIX.out w)⟩) ?_
        simp only [Act.put, List.setIfInBounds_toArray, List.set_cons_zero, List.set_cons_succ]
        refine takeH 15 52 (.agg (u8s (dat xs i)).toArray) hHeld rfl rfl (by kernel_rfl) (by kernel_rfl) (by kernel_rfl) (fun _ _ _ h => h) (yieldsIf_load_mid (by rfl) _ _ rfl b (o + 32 * i) rfl _ _ (fun V h => (HS5.out.below h).range i hlt) hu rfl HX1.out) ?_
        simp only [Act.put, List.setIfInBounds_toArray, List.set_cons_zero, List.set_cons_succ]
        refine takeH 16 53 (.bool (!decide (dat xs j = dat xs i))) hHeld rfl rfl (by kernel_rfl) (by kernel_rfl) (by kernel_rfl) (fun _ _ _ h => h) (Or.inl ⟨by rfl, fun v _ => run_neA aDd _ rfl rfl (dat_length HS.out.hlen hjl) (dat_length HS.out.hlen hlt)⟩) ?_
        simp only [Act.put, List.setIfInBounds_toArray, List.set_cons_zero, List.set_cons_succ]
        refine takeH 17 54 (.bool (!decide (dat xs j = dat xs i))) hHeld rfl rfl (by kernel_rfl) (by kernel_rfl) (by kernel_rfl) (fun _ _ _ h => h) (Or.inl ⟨by rfl, fun w _ => by go_simp⟩) ?_
        simp only [Act.put, List.setIfInBounds_toArray, List.set_cons_zero, List.set_cons_succ]
        refine wpAnyH_done (by kernel_rfl) ?_ _
        refine NoPanic.normal ?_
        have HV6 := hide (HV5.out.on BD.out)
        have hdd : decide (dat xs j = dat xs i) = true := decide_eq_true HDJ.out
        rw [hdd]
        clear hHeld hdd HV5 HS5
        go_wp2
        exact ⟨⟨i + 1, n, v, us, rs, by omega, rfl, by go_num, HV6⟩, by simp [intOf]; omega⟩
      | none =>
        have HAD := hide (add_ok g v us rs x wr HW.out.ix hnc (by rw [HXP.out]; omega) (by rw [HXD.out]; exact hf))
        rw [HXD.out, HXP.out] at HAD
        have HPL := hide (HW.out.pl.add HXD.out HXP.out)
        clear hf
        go_upto_region 6 with fail
        go_wp2_with (refine step_loadR wideD rfl rfl (u8s (dat xs i)) HRG.out HRL.out ?_)
        refine HAD.out.mono ?_
        rintro e w3 ⟨rfl, hob, v2, us2, hix2⟩
        have HV : Hid (RW w w3 g v2 us2 (addR rs x) xs (i + 1) (n + 1)) := hide ⟨hix2, HW.out.bel.trans (hob.below HW.out.lt HW.out.bel.size), HW.out.lt, HPL.out, by rw [cnt_add, HW.out.cn], by have := HW.out.nle; omega⟩
        clear hob hix2 HAD HW HSW HRG hnc
        have HSV := hide (HS.out.below HV.out.bel)
        have HRG2 := hide (HSV.out.range i hlt)
        obtain ⟨j, hji, hfj, hdj⟩ := HV.out.pl.find
        have hfew := HV.out.ix.ok.few (by rw [HV.out.cn]; omega)
        have HFN := hide (find_any g _ _ _ (dat xs i) _ HV.out.ix.hd HV.out.ix.rv HV.out.ix.ok.sk (dat_length HS.out.hlen hlt) (dat_isB HS.out.hbyte i) (fun r hr => by have := cnt_le hr; rw [HV.out.cn] at this; omega) (by omega))
        rw [hfj] at HFN
        have HDJ := hide hdj
        have hjl : j < len := by omega
        clear hfj hdj hfew
        go_upto_region 8 with fail
        go_wp2_with (refine step_loadR wideD rfl rfl (u8s (dat xs i)) HRG2.out HRL.out ?_)
        refine HFN.out.mono ?_
        rintro e w5 ⟨rfl, hb5⟩
        unfold fO
        simp only [Option.getD_some, Option.isSome_some]
        have HV5 := hide (HV.out.on hb5)
        have HS5 := hide (HS.out.below HV5.out.bel)
        have hji2 : ¬ (i : Int) < (j : Int) := by omega
        have hix2 := fun W => d_at b o len cap j (j : Int) rfl hjl W
        have HIX := hide hix
        have HIX2 := hide hix2
        clear hb5 HV HSV HRG2 HFN hix hix2
        go_upto_region 9 with fail
        refine wp_region_noPanic ?_
        have BD := hide (Below.refl w5.heap.size w5).drew
        refine wp_region_held_drew (S := fun V : World => Below w5.heap.size w5 V) (by kernel_rfl) BD.out (fun hHeld => ?_)
        have HX1 : Hid ((Try.prog.info? 24).map (·.size) = some (u8s (dat xs i)).length) := hide (by rw [wideD.size, HRL.out])
        have HX2 : Hid ((Try.prog.info? 24).map (·.size) = some (u8s (dat xs j)).length) := hide (by rw [HDJ.out]; exact HX1.out)
        have hu := aDd.und
        refine takeH 0 37 (.bool true) hHeld rfl rfl (by kernel_rfl) (by kernel_rfl) (by kernel_rfl) (fun _ _ _ h => h) (Or.inl ⟨by rfl, fun w _ => by go_simp⟩) ?_
        simp only [Act.put, List.setIfInBounds_toArray, List.set_cons_zero, List.set_cons_succ]
        refine takeH 1 38 (.bool false) hHeld rfl rfl (by kernel_rfl) (by kernel_rfl) (by kernel_rfl) (fun _ _ _ h => h) (Or.inl ⟨by rfl, fun w _ => by go_simp⟩) ?_
        simp only [Act.put, List.setIfInBounds_toArray, List.set_cons_zero, List.set_cons_succ]
        refine takeH 2 39 (.bool false) hHeld rfl rfl (by kernel_rfl) (by kernel_rfl) (by kernel_rfl) (fun _ _ _ h => h) (Or.inl ⟨by rfl, fun w _ => by go_simp⟩) ?_
        simp only [Act.put, List.setIfInBounds_toArray, List.set_cons_zero, List.set_cons_succ]
        refine takeH 3 40 (.int .i64 (j : Int)) hHeld rfl rfl (by kernel_rfl) (by kernel_rfl) (by kernel_rfl) (fun _ _ _ h => h) (Or.inl ⟨by rfl, fun w _ => by go_simp⟩) ?_
        simp only [Act.put, List.setIfInBounds_toArray, List.set_cons_zero, List.set_cons_succ]
        refine takeH 4 41 (.int .i64 (i : Int)) hHeld rfl rfl (by kernel_rfl) (by kernel_rfl) (by kernel_rfl) (fun _ _ _ h => h) (Or.inl ⟨by rfl, fun w _ => by go_simp⟩) ?_
        simp only [Act.put, List.setIfInBounds_toArray, List.set_cons_zero, List.set_cons_succ]
        refine takeH 5 42 (.bool false) hHeld rfl rfl (by kernel_rfl) (by kernel_rfl) (by kernel_rfl) (fun _ _ _ h => h) (Or.inl ⟨by rfl, fun w _ => by go_simp⟩) ?_
        simp only [Act.put, List.setIfInBounds_toArray, List.set_cons_zero, List.set_cons_succ]
        refine takeH 6 43 (.bool false) hHeld rfl rfl (by kernel_rfl) (by kernel_rfl) (by kernel_rfl) (fun _ _ _ h => h) (Or.inl ⟨by rfl, fun w _ => by go_simp⟩) ?_
        simp only [Act.put, List.setIfInBounds_toArray, List.set_cons_zero, List.set_cons_succ]
        refine takeH 7 44 (.bool false) hHeld rfl rfl (by kernel_rfl) (by kernel_rfl) (by kernel_rfl) (fun _ _ _ h => h) (Or.inl ⟨by rfl, fun w _ => by go_simp⟩) ?_
        simp only [Act.put, List.setIfInBounds_toArray, List.set_cons_zero, List.set_cons_succ]
        refine takeH 8 45 (.slice (some ⟨b, o, none⟩) len cap) hHeld rfl rfl (by kernel_rfl) (by kernel_rfl) (by kernel_rfl) (fun _ _ _ h => h) (Or.inl ⟨by rfl, fun w _ => by go_simp⟩) ?_
        simp only [Act.put, List.setIfInBounds_toArray, List.set_cons_zero, List.set_cons_succ]
        refine takeH 9 46 (.int .i64 (j : Int)) hHeld rfl rfl (by kernel_rfl) (by kernel_rfl) (by kernel_rfl) (fun _ _ _ h => h) (Or.inl ⟨by rfl, fun w _ => by go_simp⟩) ?_
        simp only [Act.put, List.setIfInBounds_toArray, List.set_cons_zero, List.set_cons_succ]
        refine takeH 10 47 (.pointer (some ⟨b, o + 32 * j, none⟩)) hHeld rfl rfl (by kernel_rfl) (by kernel_rfl) (by kernel_rfl) (fun _ _ _ h => h) (Or.inl ⟨by rfl, fun w _ => run_op rfl (HIX2.out w)⟩) ?_
        simp only [Act.put, List.setIfInBounds_toArray, List.set_cons_zero, List.set_cons_succ]
        refine takeH 11 48 (.agg (u8s (dat xs j)).toArray) hHeld rfl rfl (by kernel_rfl) (by kernel_rfl) (by kernel_rfl) (fun _ _ _ h => h) (yieldsIf_load_mid (by rfl) _ _ rfl b (o + 32 * j) rfl _ _ (fun V h => (HS5.out.below h).range j hjl) hu rfl HX2.out) ?_
        simp only [Act.put, List.setIfInBounds_toArray, List.set_cons_zero, List.set_cons_succ]
        refine takeH 12 49 (.slice (some ⟨b, o, none⟩) len cap) hHeld rfl rfl (by kernel_rfl) (by kernel_rfl) (by kernel_rfl) (fun _ _ _ h => h) (Or.inl ⟨by rfl, fun w _ => by go_simp⟩) ?_
        simp only [Act.put, List.setIfInBounds_toArray, List.set_cons_zero, List.set_cons_succ]
        refine takeH 13 50 (.int .i64 (i : Int)) hHeld rfl rfl (by kernel_rfl) (by kernel_rfl) (by kernel_rfl) (fun _ _ _ h => h) (Or.inl ⟨by rfl, fun w _ => by go_simp⟩) ?_
        simp only [Act.put, List.setIfInBounds_toArray, List.set_cons_zero, List.set_cons_succ]
        refine takeH 14 51 (.pointer (some ⟨b, o + 32 * i, none⟩)) hHeld rfl rfl (by kernel_rfl) (by kernel_rfl) (by kernel_rfl) (fun _ _ _ h => h) (Or.inl ⟨by rfl, fun w _ => run_op rfl (HIX.out w)⟩) ?_
        simp only [Act.put, List.setIfInBounds_toArray, List.set_cons_zero, List.set_cons_succ]
        refine takeH 15 52 (.agg (u8s (dat xs i)).toArray) hHeld rfl rfl (by kernel_rfl) (by kernel_rfl) (by kernel_rfl) (fun _ _ _ h => h) (yieldsIf_load_mid (by rfl) _ _ rfl b (o + 32 * i) rfl _ _ (fun V h => (HS5.out.below h).range i hlt) hu rfl HX1.out) ?_
        simp only [Act.put, List.setIfInBounds_toArray, List.set_cons_zero, List.set_cons_succ]
        refine takeH 16 53 (.bool (!decide (dat xs j = dat xs i))) hHeld rfl rfl (by kernel_rfl) (by kernel_rfl) (by kernel_rfl) (fun _ _ _ h => h) (Or.inl ⟨by rfl, fun v _ => run_neA aDd _ rfl rfl (dat_length HS.out.hlen hjl) (dat_length HS.out.hlen hlt)⟩) ?_
        simp only [Act.put, List.setIfInBounds_toArray, List.set_cons_zero, List.set_cons_succ]
        refine takeH 17 54 (.bool (!decide (dat xs j = dat xs i))) hHeld rfl rfl (by kernel_rfl) (by kernel_rfl) (by kernel_rfl) (fun _ _ _ h => h) (Or.inl ⟨by rfl, fun w _ => by go_simp⟩) ?_
        simp only [Act.put, List.setIfInBounds_toArray, List.set_cons_zero, List.set_cons_succ]
        refine wpAnyH_done (by kernel_rfl) ?_ _
        refine NoPanic.normal ?_
        have HV6 := hide (HV5.out.on BD.out)
        have hdd : decide (dat xs j = dat xs i) = true := decide_eq_true HDJ.out
        rw [hdd]
        clear hHeld hdd HV5 HS5
        go_wp2
        exact ⟨⟨i + 1, n + 1, v2, us2, addR rs x, by omega, by go_num, by go_num, HV6⟩, by simp [intOf]; omega⟩
    · obtain rfl : i = len := by omega
      have hlt' : ¬ (i : Int) < (i : Int) := by omega
      have hfew := HW.out.ix.ok.few (by rw [HW.out.cn]; omega)
      have HRU := hide (runs_any g v us rs wr HW.out.ix (by omega))
      have HLN := hide HW.out.ix.ok.lens
      obtain ⟨k, hk⟩ : ∃ k, rs.length = k := ⟨_, rfl⟩
      have HK := hide hk
      rw [hk] at HRU hfew HLN
      clear hk
      go_wp2_with fail
      refine HRU.out.mono ?_
      rintro e w3 ⟨gr, rfl, hgr, hgl, hb3⟩
      have HG := hide hgr
      have HV := hide (HW.out.on hb3)
      have hkk : (lens rs).length = k := by simp [lens, HK.out]
      have HKK := hide hkk
      clear hgr hb3 hkk HRU HW
      go_wp2_with fail
      try simp only [Act.put]
      go_loopw [9, 10] (fun s9 s10 wq => ∃ j s : Nat, j ≤ k ∧ s9 = .int .i64 s ∧ s10 = .int .i64 j ∧ Hid (s = ((lens rs).take j).sum) ∧ Hid (Below w3.heap.size w3 wq)) (fun _ s10 _ => k - (intOf s10).toNat)
      case atStart => exact ⟨0, 0, Nat.zero_le _, rfl, rfl, hide rfl, hide (Below.refl _ _)⟩
      case round =>
        obtain ⟨j, s, hj, rfl, rfl, HS2, HB2⟩ := hrel
        by_cases hjk : j < k
        · have hjk' : (j : Int) < (k : Int) := by omega
          obtain ⟨e, he⟩ := HLN.out.1 j hjk
          obtain ⟨r, hr⟩ : ∃ r, (lens rs).getD j 0 = r := ⟨_, rfl⟩
          have hr1 : 1 ≤ r := by rw [← hr, he]; exact Nat.two_pow_pos e
          have HAND : Hid (r &&& (r - 1) = 0) := hide (by rw [← hr, he]; exact pow_and e)
          have hjl : j < (lens rs).length := by rw [HKK.out]; exact hjk
          have HCR : Hid (∀ V : World, Below w3.heap.size w3 V → V.cell? ⟨gr, j, none⟩ = some (.int .i64 (r : Int))) := hide fun V hV => by rw [(HG.out.on hV).cell, ns_at _ j hjl, hr]
          have HIJ := hide (fun V => n_at gr k k j (j : Int) rfl hjk V)
          have hrb : r ≤ 4398046510976 := by
            have : r ∈ lens rs := by rw [← hr, getD_lt hjl]; exact List.getElem_mem hjl
            have h2 := le_sumL this
            have h3 := HV.out.cn
            unfold cnt at h3
            unfold lens at h2
            omega
          have HRR := hide hr
          clear he hr
          go_upto_region 16 with fail
          refine wp_region_noPanic ?_
          have BD := hide (Below.refl wr.heap.size wr).drew
          have BW := hide (on_below HB2.out BD.out)
          refine wp_region_held_drew (S := fun V : World => Below w3.heap.size w3 V) (by kernel_rfl) BW.out (fun hHeld => ?_)
          have hl1 : ¬ (r : Int) < 1 := by omega
          have hwr : IntKind.i64.wrap ((r : Int) - 1) = (r : Int) - 1 := wrap_in _ (by omega) (by omega)
          have hand := and64 r (by omega) hr1 HAND.out
          refine takeH 0 63 (.slice (some ⟨gr, 0, none⟩) k k) hHeld rfl rfl (by kernel_rfl) (by kernel_rfl) (by kernel_rfl) (fun _ _ _ h => h) (Or.inl ⟨by rfl, fun w _ => by go_simp⟩) ?_
          simp only [Act.put, List.setIfInBounds_toArray, List.set_cons_zero, List.set_cons_succ]
          refine takeH 1 64 (.int .i64 (j : Int)) hHeld rfl rfl (by kernel_rfl) (by kernel_rfl) (by kernel_rfl) (fun _ _ _ h => h) (Or.inl ⟨by rfl, fun w _ => by go_simp⟩) ?_
          simp only [Act.put, List.setIfInBounds_toArray, List.set_cons_zero, List.set_cons_succ]
          refine takeH 2 65 (.pointer (some ⟨gr, j, none⟩)) hHeld rfl rfl (by kernel_rfl) (by kernel_rfl) (by kernel_rfl) (fun _ _ _ h => h) (Or.inl ⟨by rfl, fun w _ => run_op rfl (HIJ.out w)⟩) ?_
          simp only [Act.put, List.setIfInBounds_toArray, List.set_cons_zero, List.set_cons_succ]
          refine takeH 3 66 (.int .i64 (r : Int)) hHeld rfl rfl (by kernel_rfl) (by kernel_rfl) (by kernel_rfl) (fun _ _ _ h => h) (Or.inl ⟨by rfl, fun w hw => by have hw' : w.cell? ⟨gr, j, none⟩ = some (.int .i64 (r : Int)) := (fun hw => HCR.out _ hw) hw; go_simp⟩) ?_
          simp only [Act.put, List.setIfInBounds_toArray, List.set_cons_zero, List.set_cons_succ]
          refine takeH 4 67 (.bool false) hHeld rfl rfl (by kernel_rfl) (by kernel_rfl) (by kernel_rfl) (fun _ _ _ h => h) (Or.inl ⟨by rfl, fun w _ => by go_simp⟩) ?_
          simp only [Act.put, List.setIfInBounds_toArray, List.set_cons_zero, List.set_cons_succ]
          refine takeH 5 68 (.bool false) hHeld rfl rfl (by kernel_rfl) (by kernel_rfl) (by kernel_rfl) (fun _ _ _ h => h) (Or.inl ⟨by rfl, fun w _ => by go_simp⟩) ?_
          simp only [Act.put, List.setIfInBounds_toArray, List.set_cons_zero, List.set_cons_succ]
          refine takeH 6 69 (.slice (some ⟨gr, 0, none⟩) k k) hHeld rfl rfl (by kernel_rfl) (by kernel_rfl) (by kernel_rfl) (fun _ _ _ h => h) (Or.inl ⟨by rfl, fun w _ => by go_simp⟩) ?_
          simp only [Act.put, List.setIfInBounds_toArray, List.set_cons_zero, List.set_cons_succ]
          refine takeH 7 70 (.int .i64 (j : Int)) hHeld rfl rfl (by kernel_rfl) (by kernel_rfl) (by kernel_rfl) (fun _ _ _ h => h) (Or.inl ⟨by rfl, fun w _ => by go_simp⟩) ?_
          simp only [Act.put, List.setIfInBounds_toArray, List.set_cons_zero, List.set_cons_succ]
          refine takeH 8 71 (.pointer (some ⟨gr, j, none⟩)) hHeld rfl rfl (by kernel_rfl) (by kernel_rfl) (by kernel_rfl) (fun _ _ _ h => h) (Or.inl ⟨by rfl, fun w _ => run_op rfl (HIJ.out w)⟩) ?_
          simp only [Act.put, List.setIfInBounds_toArray, List.set_cons_zero, List.set_cons_succ]
          refine takeH 9 72 (.int .i64 (r : Int)) hHeld rfl rfl (by kernel_rfl) (by kernel_rfl) (by kernel_rfl) (fun _ _ _ h => h) (Or.inl ⟨by rfl, fun w hw => by have hw' : w.cell? ⟨gr, j, none⟩ = some (.int .i64 (r : Int)) := (fun hw => HCR.out _ hw) hw; go_simp⟩) ?_
          simp only [Act.put, List.setIfInBounds_toArray, List.set_cons_zero, List.set_cons_succ]
          refine takeH 10 73 (.slice (some ⟨gr, 0, none⟩) k k) hHeld rfl rfl (by kernel_rfl) (by kernel_rfl) (by kernel_rfl) (fun _ _ _ h => h) (Or.inl ⟨by rfl, fun w _ => by go_simp⟩) ?_
          simp only [Act.put, List.setIfInBounds_toArray, List.set_cons_zero, List.set_cons_succ]
          refine takeH 11 74 (.int .i64 (j : Int)) hHeld rfl rfl (by kernel_rfl) (by kernel_rfl) (by kernel_rfl) (fun _ _ _ h => h) (Or.inl ⟨by rfl, fun w _ => by go_simp⟩) ?_
          simp only [Act.put, List.setIfInBounds_toArray, List.set_cons_zero, List.set_cons_succ]
          refine takeH 12 75 (.pointer (some ⟨gr, j, none⟩)) hHeld rfl rfl (by kernel_rfl) (by kernel_rfl) (by kernel_rfl) (fun _ _ _ h => h) (Or.inl ⟨by rfl, fun w _ => run_op rfl (HIJ.out w)⟩) ?_
          simp only [Act.put, List.setIfInBounds_toArray, List.set_cons_zero, List.set_cons_succ]
          refine takeH 13 76 (.int .i64 (r : Int)) hHeld rfl rfl (by kernel_rfl) (by kernel_rfl) (by kernel_rfl) (fun _ _ _ h => h) (Or.inl ⟨by rfl, fun w hw => by have hw' : w.cell? ⟨gr, j, none⟩ = some (.int .i64 (r : Int)) := (fun hw => HCR.out _ hw) hw; go_simp⟩) ?_
          simp only [Act.put, List.setIfInBounds_toArray, List.set_cons_zero, List.set_cons_succ]
          refine takeH 14 77 (.int .i64 ((r : Int) - 1)) hHeld rfl rfl (by kernel_rfl) (by kernel_rfl) (by kernel_rfl) (fun _ _ _ h => h) (Or.inl ⟨by rfl, fun w _ => by go_simp⟩) ?_
          simp only [Act.put, List.setIfInBounds_toArray, List.set_cons_zero, List.set_cons_succ]
          refine takeH 15 78 (.int .i64 0) hHeld rfl rfl (by kernel_rfl) (by kernel_rfl) (by kernel_rfl) (fun _ _ _ h => h) (Or.inl ⟨by rfl, fun w _ => by go_simp⟩) ?_
          simp only [Act.put, List.setIfInBounds_toArray, List.set_cons_zero, List.set_cons_succ]
          refine takeH 16 79 (.bool false) hHeld rfl rfl (by kernel_rfl) (by kernel_rfl) (by kernel_rfl) (fun _ _ _ h => h) (Or.inl ⟨by rfl, fun w _ => by go_simp⟩) ?_
          simp only [Act.put, List.setIfInBounds_toArray, List.set_cons_zero, List.set_cons_succ]
          refine takeH 17 80 (.bool false) hHeld rfl rfl (by kernel_rfl) (by kernel_rfl) (by kernel_rfl) (fun _ _ _ h => h) (Or.inl ⟨by rfl, fun w _ => by go_simp⟩) ?_
          simp only [Act.put, List.setIfInBounds_toArray, List.set_cons_zero, List.set_cons_succ]
          refine takeH 18 81 (.bool false) hHeld rfl rfl (by kernel_rfl) (by kernel_rfl) (by kernel_rfl) (fun _ _ _ h => h) (Or.inl ⟨by rfl, fun w _ => by go_simp⟩) ?_
          simp only [Act.put, List.setIfInBounds_toArray, List.set_cons_zero, List.set_cons_succ]
          refine takeH 19 82 (.int .i64 (j : Int)) hHeld rfl rfl (by kernel_rfl) (by kernel_rfl) (by kernel_rfl) (fun _ _ _ h => h) (Or.inl ⟨by rfl, fun w _ => by go_simp⟩) ?_
          simp only [Act.put, List.setIfInBounds_toArray, List.set_cons_zero, List.set_cons_succ]
          have HS3 : Hid (s + r = ((lens rs).take (j + 1)).sum) := hide (by
            rw [List.take_succ_eq_append_getElem hjl, List.sum_append, ← HS2.out, ← HRR.out, List.getD_eq_getElem?_getD, List.getElem?_eq_getElem hjl, Option.getD_some]
            simp)
          have hsb : s + r ≤ 4398046510976 := by
            rw [HS3.out]
            have h1 : ((lens rs).take (j + 1)).sum + ((lens rs).drop (j + 1)).sum = cnt rs := by
              rw [← List.sum_append, List.take_append_drop]
              rfl
            have := HV.out.cn
            omega
          by_cases hj0 : 0 < j
          · have hj0' : (0 : Int) < (j : Int) := by omega
            obtain ⟨j1, hj1⟩ : ∃ j1, j = j1 + 1 := ⟨j - 1, by omega⟩
            have hjw : IntKind.i64.wrap ((j : Int) - 1) = (j1 : Int) := by rw [wrap_in _ (by omega) (by omega)]; omega
            obtain ⟨r1, hr1'⟩ : ∃ r1, (lens rs).getD j1 0 = r1 := ⟨_, rfl⟩
            have hlt9 : r < r1 := by
              have := HLN.out.2 j1 (by omega)
              rw [← hj1, HRR.out, hr1'] at this
              exact this
            have hj1k : j1 < k := by omega
            have hj1l : j1 < (lens rs).length := by omega
            have HCR1 : Hid (∀ V : World, Below w3.heap.size w3 V → V.cell? ⟨gr, j1, none⟩ = some (.int .i64 (r1 : Int))) := hide fun V hV => by rw [(HG.out.on hV).cell, ns_at _ j1 hj1l, hr1']
            have HIJ1 := hide (fun V => n_at gr k k j1 (j1 : Int) rfl hj1k V)
            have hge : ¬ (r1 : Int) ≤ (r : Int) := by omega
            clear hj1 hr1'
            refine takeH 20 83 (.bool true) hHeld rfl rfl (by kernel_rfl) (by kernel_rfl) (by kernel_rfl) (fun _ _ _ h => h) (Or.inl ⟨by rfl, fun w _ => by go_simp⟩) ?_
            simp only [Act.put, List.setIfInBounds_toArray, List.set_cons_zero, List.set_cons_succ]
            refine takeH 21 84 (.bool true) hHeld rfl rfl (by kernel_rfl) (by kernel_rfl) (by kernel_rfl) (fun _ _ _ h => h) (Or.inl ⟨by rfl, fun w _ => by go_simp⟩) ?_
            simp only [Act.put, List.setIfInBounds_toArray, List.set_cons_zero, List.set_cons_succ]
            refine takeH 22 85 (.slice (some ⟨gr, 0, none⟩) k k) hHeld rfl rfl (by kernel_rfl) (by kernel_rfl) (by kernel_rfl) (fun _ _ _ h => h) (Or.inl ⟨by rfl, fun w _ => by go_simp⟩) ?_
            simp only [Act.put, List.setIfInBounds_toArray, List.set_cons_zero, List.set_cons_succ]
            refine takeH 23 86 (.int .i64 (j : Int)) hHeld rfl rfl (by kernel_rfl) (by kernel_rfl) (by kernel_rfl) (fun _ _ _ h => h) (Or.inl ⟨by rfl, fun w _ => by go_simp⟩) ?_
            simp only [Act.put, List.setIfInBounds_toArray, List.set_cons_zero, List.set_cons_succ]
            refine takeH 24 87 (.pointer (some ⟨gr, j, none⟩)) hHeld rfl rfl (by kernel_rfl) (by kernel_rfl) (by kernel_rfl) (fun _ _ _ h => h) (Or.inl ⟨by rfl, fun w _ => run_op rfl (HIJ.out w)⟩) ?_
            simp only [Act.put, List.setIfInBounds_toArray, List.set_cons_zero, List.set_cons_succ]
            refine takeH 25 88 (.int .i64 (r : Int)) hHeld rfl rfl (by kernel_rfl) (by kernel_rfl) (by kernel_rfl) (fun _ _ _ h => h) (Or.inl ⟨by rfl, fun w hw => by have hw' : w.cell? ⟨gr, j, none⟩ = some (.int .i64 (r : Int)) := (fun hw => HCR.out _ hw) hw; go_simp⟩) ?_
            simp only [Act.put, List.setIfInBounds_toArray, List.set_cons_zero, List.set_cons_succ]
            refine takeH 26 89 (.slice (some ⟨gr, 0, none⟩) k k) hHeld rfl rfl (by kernel_rfl) (by kernel_rfl) (by kernel_rfl) (fun _ _ _ h => h) (Or.inl ⟨by rfl, fun w _ => by go_simp⟩) ?_
            simp only [Act.put, List.setIfInBounds_toArray, List.set_cons_zero, List.set_cons_succ]
            refine takeH 27 90 (.int .i64 (j : Int)) hHeld rfl rfl (by kernel_rfl) (by kernel_rfl) (by kernel_rfl) (fun _ _ _ h => h) (Or.inl ⟨by rfl, fun w _ => by go_simp⟩) ?_
            simp only [Act.put, List.setIfInBounds_toArray, List.set_cons_zero, List.set_cons_succ]
            refine takeH 28 91 (.int .i64 (j1 : Int)) hHeld rfl rfl (by kernel_rfl) (by kernel_rfl) (by kernel_rfl) (fun _ _ _ h => h) (Or.inl ⟨by rfl, fun w _ => by go_simp⟩) ?_
            simp only [Act.put, List.setIfInBounds_toArray, List.set_cons_zero, List.set_cons_succ]
            refine takeH 29 92 (.pointer (some ⟨gr, j1, none⟩)) hHeld rfl rfl (by kernel_rfl) (by kernel_rfl) (by kernel_rfl) (fun _ _ _ h => h) (Or.inl ⟨by rfl, fun w _ => run_op rfl (HIJ1.out w)⟩) ?_
            simp only [Act.put, List.setIfInBounds_toArray, List.set_cons_zero, List.set_cons_succ]
            refine takeH 30 93 (.int .i64 (r1 : Int)) hHeld rfl rfl (by kernel_rfl) (by kernel_rfl) (by kernel_rfl) (fun _ _ _ h => h) (Or.inl ⟨by rfl, fun w hw => by have hw' : w.cell? ⟨gr, j1, none⟩ = some (.int .i64 (r1 : Int)) := (fun hw => HCR1.out _ hw) hw; go_simp⟩) ?_
            simp only [Act.put, List.setIfInBounds_toArray, List.set_cons_zero, List.set_cons_succ]
            refine takeH 31 94 (.bool false) hHeld rfl rfl (by kernel_rfl) (by kernel_rfl) (by kernel_rfl) (fun _ _ _ h => h) (Or.inl ⟨by rfl, fun w _ => by go_simp⟩) ?_
            simp only [Act.put, List.setIfInBounds_toArray, List.set_cons_zero, List.set_cons_succ]
            refine takeH 32 95 (.bool false) hHeld rfl rfl (by kernel_rfl) (by kernel_rfl) (by kernel_rfl) (fun _ _ _ h => h) (Or.inl ⟨by rfl, fun w _ => by go_simp⟩) ?_
            simp only [Act.put, List.setIfInBounds_toArray, List.set_cons_zero, List.set_cons_succ]
            refine takeH 33 96 (.bool false) hHeld rfl rfl (by kernel_rfl) (by kernel_rfl) (by kernel_rfl) (fun _ _ _ h => h) (Or.inl ⟨by rfl, fun w _ => by go_simp⟩) ?_
            simp only [Act.put, List.setIfInBounds_toArray, List.set_cons_zero, List.set_cons_succ]
            refine wpAnyH_done (by kernel_rfl) ?_ _
            refine NoPanic.normal ?_
            have hix := HIJ.out
            have hcr := HCR.out _ BW.out
            clear hHeld hand hwr
            go_wp2
            exact ⟨⟨j + 1, s + r, by omega, by go_num, by go_num, HS3, BW⟩, by simp [intOf]; omega⟩
          · have hj0' : ¬ (0 : Int) < (j : Int) := by omega
            refine takeH 20 83 (.bool false) hHeld rfl rfl (by kernel_rfl) (by kernel_rfl) (by kernel_rfl) (fun _ _ _ h => h) (Or.inl ⟨by rfl, fun w _ => by go_simp⟩) ?_
            simp only [Act.put, List.setIfInBounds_toArray, List.set_cons_zero, List.set_cons_succ]
            refine takeH 21 84 (.bool false) hHeld rfl rfl (by kernel_rfl) (by kernel_rfl) (by kernel_rfl) (fun _ _ _ h => h) (Or.inl ⟨by rfl, fun w _ => by go_simp⟩) ?_
            simp only [Act.put, List.setIfInBounds_toArray, List.set_cons_zero, List.set_cons_succ]
            refine takeH 22 85 undef hHeld rfl rfl (by kernel_rfl) (by kernel_rfl) (by kernel_rfl) (fun _ _ _ h => h) (Or.inr ⟨by rfl, rfl⟩) ?_
            simp only [Act.put, List.setIfInBounds_toArray, List.set_cons_zero, List.set_cons_succ]
            refine takeH 23 86 undef hHeld rfl rfl (by kernel_rfl) (by kernel_rfl) (by kernel_rfl) (fun _ _ _ h => h) (Or.inr ⟨by rfl, rfl⟩) ?_
            simp only [Act.put, List.setIfInBounds_toArray, List.set_cons_zero, List.set_cons_succ]
            refine takeH 24 87 undef hHeld rfl rfl (by kernel_rfl) (by kernel_rfl) (by kernel_rfl) (fun _ _ _ h => h) (Or.inr ⟨by rfl, rfl⟩) ?_
            simp only [Act.put, List.setIfInBounds_toArray, List.set_cons_zero, List.set_cons_succ]
            refine takeH 25 88 undef hHeld rfl rfl (by kernel_rfl) (by kernel_rfl) (by kernel_rfl) (fun _ _ _ h => h) (Or.inr ⟨by rfl, rfl⟩) ?_
            simp only [Act.put, List.setIfInBounds_toArray, List.set_cons_zero, List.set_cons_succ]
            refine takeH 26 89 undef hHeld rfl rfl (by kernel_rfl) (by kernel_rfl) (by kernel_rfl) (fun _ _ _ h => h) (Or.inr ⟨by rfl, rfl⟩) ?_
            simp only [Act.put, List.setIfInBounds_toArray, List.set_cons_zero, List.set_cons_succ]
            refine takeH 27 90 undef hHeld rfl rfl (by kernel_rfl) (by kernel_rfl) (by kernel_rfl) (fun _ _ _ h => h) (Or.inr ⟨by rfl, rfl⟩) ?_
            simp only [Act.put, List.setIfInBounds_toArray, List.set_cons_zero, List.set_cons_succ]
            refine takeH 28 91 undef hHeld rfl rfl (by kernel_rfl) (by kernel_rfl) (by kernel_rfl) (fun _ _ _ h => h) (Or.inr ⟨by rfl, rfl⟩) ?_
            simp only [Act.put, List.setIfInBounds_toArray, List.set_cons_zero, List.set_cons_succ]
            refine takeH 29 92 undef hHeld rfl rfl (by kernel_rfl) (by kernel_rfl) (by kernel_rfl) (fun _ _ _ h => h) (Or.inr ⟨by rfl, rfl⟩) ?_
            simp only [Act.put, List.setIfInBounds_toArray, List.set_cons_zero, List.set_cons_succ]
            refine takeH 30 93 undef hHeld rfl rfl (by kernel_rfl) (by kernel_rfl) (by kernel_rfl) (fun _ _ _ h => h) (Or.inr ⟨by rfl, rfl⟩) ?_
            simp only [Act.put, List.setIfInBounds_toArray, List.set_cons_zero, List.set_cons_succ]
            refine takeH 31 94 undef hHeld rfl rfl (by kernel_rfl) (by kernel_rfl) (by kernel_rfl) (fun _ _ _ h => h) (Or.inr ⟨by rfl, rfl⟩) ?_
            simp only [Act.put, List.setIfInBounds_toArray, List.set_cons_zero, List.set_cons_succ]
            refine takeH 32 95 (.bool false) hHeld rfl rfl (by kernel_rfl) (by kernel_rfl) (by kernel_rfl) (fun _ _ _ h => h) (Or.inl ⟨by rfl, fun w _ => by go_simp⟩) ?_
            simp only [Act.put, List.setIfInBounds_toArray, List.set_cons_zero, List.set_cons_succ]
            refine takeH 33 96 (.bool false) hHeld rfl rfl (by kernel_rfl) (by kernel_rfl) (by kernel_rfl) (fun _ _ _ h => h) (Or.inl ⟨by rfl, fun w _ => by go_simp⟩) ?_
            simp only [Act.put, List.setIfInBounds_toArray, List.set_cons_zero, List.set_cons_succ]
            refine wpAnyH_done (by kernel_rfl) ?_ _
            refine NoPanic.normal ?_
            have hix := HIJ.out
            have hcr := HCR.out _ BW.out
            clear hHeld hand hwr
            go_wp2
            exact ⟨⟨j + 1, s + r, by omega, by go_num, by go_num, HS3, BW⟩, by simp [intOf]; omega⟩
        · obtain rfl : j = k := by omega
          have hjk' : ¬ (j : Int) < (j : Int) := by omega
          have HSN : Hid (s = n) := hide (by
            rw [HS2.out, List.take_of_length_le (by rw [HKK.out]; exact Nat.le_refl _), ← HV.out.cn]
            rfl)
          have HV2 := hide (HV.out.on HB2.out)
          have HLE := hide (len_any g v us rs wr HV2.out.ix (by rw [HV2.out.cn]; omega))
          rw [HV2.out.cn] at HLE
          obtain rfl : s = n := HSN.out
          have HPI : Hid (0 < i → 0 < s) := hide (fun h => by
            have h2 := HV2.out.pl.pos h
            rw [HV2.out.cn] at h2
            exact h2)
          have HNI := hide HV2.out.nle
          have HDB : Hid ((decide (0 < s) == decide (0 < i)) = true) := hide (by
            have : decide (0 < s) = decide (0 < i) := by
              rw [decide_eq_decide]
              constructor
              · intro h
                have := HNI.out
                omega
              · intro h
                exact HPI.out h
            rw [this]
            exact beq_self_eq_true _)
          go_wp2_with fail
          refine HLE.out.mono ?_
          rintro e w5 ⟨rfl, hb5⟩
          have HB5 := hide (on_below HV2.out.bel hb5)
          clear hb5
          go_wp2
          go_ret
          refine ⟨?_, HB5.out⟩
          rw [← HDB.out]
          rfl

end Go.Proofs.Ytabpfbankinojaa
