/-
  Find.
-/
import Derived.Test.YtabpfbankinojaaDgf
import Derived.Test.YtabpfbankinojaaDgs
import Derived.Test.YtabpfbankinojaaJkr
namespace Go.Proofs.Ytabpfbankinojaa
open Go.RowKit
set_option linter.unusedVariables false
set_option linter.unusedSimpArgs false
set_option maxRecDepth 100000

theorem aDd : Arr 24 5 .u8 32 := ⟨by kernel_rfl, by kernel_rfl, by kernel_rfl, by kernel_rfl, by kernel_rfl, by kernel_rfl⟩
/-- Is the entry not below? -/
theorem isnt_any (b7 b3 : Nat) (u : Value) (r : List Ent) (d : List Int) (i : Nat) (w : World) (h7 : Blk w b7 59 [u]) (h3 : Blk w b3 24 (u8s d)) (hr : Rn w u r) (hi : i < r.length) (hl : d.length = 32) (hb : isB d) :
    Calls Try.prog 26 #[.int .i64 (i : Int), .pointer (some ⟨b7, 0, none⟩), .pointer (some ⟨b3, 0, none⟩)] w fun e w' => e = .returned (.bool (!decide (kE r[i] < kD d))) ∧ Below w.heap.size w w' := by
  obtain ⟨g, o, hix, hrg⟩ := hr.at hi
  have HIX := hide hix
  have HRG : Hid (∀ V : World, Below w.heap.size w V → V.rangeAt g o (u8s r[i].d)) := hide fun V hV => rangeAt_d (hrg V (hr.on hV))
  have H7 := hide h7
  have H3 := hide h3
  have HC := hide (fun v => isBelow_any r[i].d d v r[i].hl hl r[i].hb hb)
  have hu := aDd.und
  have HX : Hid ((Try.prog.info? 24).map (·.size) = some (u8s r[i].d).length) := hide (by rw [wideD.size, u8s_length, r[i].hl])
  have HY : Hid ((Try.prog.info? 24).map (·.size) = some (u8s d).length) := hide (by rw [wideD.size, u8s_length, hl])
  have HKE : Hid (kD r[i].d = kE r[i]) := hide rfl
  obtain ⟨y, hy⟩ : ∃ y, r[i].d = y := ⟨_, rfl⟩
  rw [hy] at HRG HX HC HKE
  clear h7 h3 hix hrg hr hy
  go_enter Try.func26, Try.ntmps26
  go_wp2_with fail
  refine wp_region_noPanic ?_
  have BD := hide (Below.refl w.heap.size w).drew
  refine wp_region_held_drew (S := fun V : World => Below w.heap.size w V) (by kernel_rfl) BD.out (fun hHeld => ?_)
  refine takeH 0 5 (u) hHeld rfl rfl (by kernel_rfl) (by kernel_rfl) (by kernel_rfl) (fun _ _ _ h => h) (Or.inl ⟨by rfl, fun w hw => by have hw' : w.cell? ⟨b7, 0, none⟩ = some (u) := (fun hw => by rw [(H7.out.on hw).cell]; rfl) hw; go_simp⟩) ?_
  simp only [Act.put, List.setIfInBounds_toArray, List.set_cons_zero, List.set_cons_succ]
  refine takeH 1 6 (.int .i64 (i : Int)) hHeld rfl rfl (by kernel_rfl) (by kernel_rfl) (by kernel_rfl) (fun _ _ _ h => h) (Or.inl ⟨by rfl, fun w _ => by go_simp⟩) ?_
  simp only [Act.put, List.setIfInBounds_toArray, List.set_cons_zero, List.set_cons_succ]
  refine takeH 2 7 (.pointer (some ⟨g, o, none⟩)) hHeld rfl rfl (by kernel_rfl) (by kernel_rfl) (by kernel_rfl) (fun _ _ _ h => h) (Or.inl ⟨by rfl, fun w _ => run_op rfl (HIX.out w)⟩) ?_
  simp only [Act.put, List.setIfInBounds_toArray, List.set_cons_zero, List.set_cons_succ]
  refine takeH 3 8 (.pointer (some ⟨g, o, none⟩)) hHeld rfl rfl (by kernel_rfl) (by kernel_rfl) (by kernel_rfl) (fun _ _ _ h => h) (Or.inl ⟨by rfl, fun w _ => by go_simp⟩) ?_
  simp only [Act.put, List.setIfInBounds_toArray, List.set_cons_zero, List.set_cons_succ]
  refine takeH 4 9 (.agg (u8s y).toArray) hHeld rfl rfl (by kernel_rfl) (by kernel_rfl) (by kernel_rfl) (fun _ _ _ h => h) (yieldsIf_load_mid (by rfl) _ _ rfl g (o) rfl _ _ (fun V h => HRG.out V h) hu rfl HX.out) ?_
  simp only [Act.put, List.setIfInBounds_toArray, List.set_cons_zero, List.set_cons_succ]
  refine takeH 5 10 (.agg (u8s d).toArray) hHeld rfl rfl (by kernel_rfl) (by kernel_rfl) (by kernel_rfl) (fun _ _ _ h => h) (yieldsIf_load_mid (by rfl) _ _ rfl b3 0 rfl _ _ (fun V h => (H3.out.on h).range 0 _ (by simp)) hu rfl HY.out) ?_
  simp only [Act.put, List.setIfInBounds_toArray, List.set_cons_zero, List.set_cons_succ]
  refine wpAnyH_ready (rs := [6]) (by kernel_rfl) (by simp) (AllReadyH.cons rfl (fun K hK => ?_) AllReadyH.nil)
  rw [if_pos (by rfl)]
  go_simp
  refine (HC.out _).mono ?_
  rintro e w2 ⟨rfl, hb2⟩
  have B2 := hide (on_below BD.out hb2)
  clear hb2 hHeld
  refine hK.out _ _ (B2.out) (fun hHeld => ?_)
  clear hK K
  try simp only [Act.put, List.setIfInBounds_toArray, List.set_cons_zero, List.set_cons_succ]
  refine takeH 7 12 (.bool (!decide (kD y < kD d))) hHeld rfl rfl (by kernel_rfl) (by kernel_rfl) (by kernel_rfl) (fun _ _ _ h => h) (Or.inl ⟨by rfl, fun w _ => by go_simp⟩) ?_
  simp only [Act.put, List.setIfInBounds_toArray, List.set_cons_zero, List.set_cons_succ]
  refine takeH 8 4 (.bool (!decide (kD y < kD d))) hHeld rfl rfl (by kernel_rfl) (by kernel_rfl) (by kernel_rfl) (fun _ _ _ h => h) (Or.inl ⟨by rfl, fun w _ => by go_simp⟩) ?_
  simp only [Act.put, List.setIfInBounds_toArray, List.set_cons_zero, List.set_cons_succ]
  refine wpAnyH_done (by kernel_rfl) ?_ _
  refine NoPanic.normal ?_
  go_wp2
  go_ret
  refine ⟨?_, B2.out⟩
  rw [← HKE.out]
  rfl
set_option maxHeartbeats 2000000 in
theorem find_any (g0 : Nat) (v : Value) (us : List Value) (rs : List (List Ent)) (d : List Int) (w : World) (hp : PI w g0 true v) (hr : RunsV w v us rs) (hs : ∀ r ∈ rs, SK kE r) (hl : d.length = 32) (hb : isB d) (hlen : ∀ r ∈ rs, r.length ≤ 4398046511104) (hn : rs.length ≤ 1048576) :
    Calls Try.prog 14 #[.pointer (some ⟨g0, 0, none⟩), .agg (u8s d).toArray] w fun e w' => e = .returned (fO (fnd rs d)) ∧ Below w.heap.size w w' := by
  have HP := hide hp
  have HR := hide hr
  have HS := hide hs
  have HLE := hide hlen
  have HL := hide hl
  have HB := hide hb
  clear hp hr hs hlen hl hb
  go_enter Try.func14, Try.ntmps14
  go_wp2_with (refine step_box (cs := u8s d) rfl rfl ?_)
  intro w1 b3 hb3 hle3 hbb3
  have H3 := hide hb3
  have B1 := hide hbb3
  have H1 := hide (made_at g0 true v w1 (Blk.on HP.out hbb3))
  clear hb3 hbb3
  go_wp2_with fail
  go_step3
  have hc1 : w1.cell? ⟨g0, 1, none⟩ = some v := by rw [Blk.cell (Blk.on HP.out B1.out)]; rfl
  obtain ⟨av, cv, rfl⟩ := HR.out.slice
  obtain ⟨n, hnn⟩ : ∃ n, rs.length = n := ⟨_, rfl⟩
  rw [hnn] at hc1 HP HR hn
  have NN := hide hnn
  go_wp2_with (go_at_call 18; refine H1.out.mono ?_; rintro r w' ⟨rfl, hw'⟩; subst w')
  clear hc1 H1
  go_step3
  have hc1 : w1.cell? ⟨g0, 1, none⟩ = some (.slice av n cv) := by rw [Blk.cell (Blk.on HP.out B1.out)]; rfl
  go_wp2_with fail
  clear hc1
  try simp only [Act.put]
  go_loopw [4, 5, 17] (fun s4 s5 s17 wr => ∃ i : Nat, i ≤ n ∧ s4 = .int .i64 0 ∧ s5 = .bool false ∧ s17 = .int .i64 i ∧ Hid (fnd (rs.take i) d = none) ∧ Hid (Below w1.heap.size w1 wr)) (fun _ _ s17 _ => n - (intOf s17).toNat)
  case atStart => exact ⟨0, Nat.zero_le _, rfl, rfl, rfl, hide rfl, hide (Below.refl _ _)⟩
  case round =>
    obtain ⟨i, hi, rfl, rfl, rfl, HF, HW⟩ := hrel
    by_cases hlt : i < n
    · have hlt' : (i : Int) < (n : Int) := by omega
      have hir : i < rs.length := by omega
      obtain ⟨g, o, hix, hce⟩ := HR.out.at hir
      have HWw := hide (on_below B1.out HW.out)
      have hcu := hce wr (HR.out.vw.on HWw.out)
      obtain ⟨r, hrr⟩ : ∃ r, rs.getD i [] = r := ⟨_, rfl⟩
      obtain ⟨a, c, hu⟩ := HR.out.at' hir
      have hrn := HR.out.rn i hir
      rw [hrr] at hu hrn
      rw [hu] at hcu hrn
      have HRN := hide hrn
      have HRR := hide hrr
      obtain ⟨m, hm⟩ : ∃ m, r.length = m := ⟨_, rfl⟩
      have HM := hide hm
      rw [hm] at hcu HRN
      clear hce hu hrn hrr hm
      go_wp2_with fail
      have C7 : Blk (wr.alloc (.cells #[.slice a m c] 59)) wr.heap.size 59 [.slice a m c] := Blk.made wr _ [.slice a m c]
      have hb7 : Below wr.heap.size wr (wr.alloc (.cells #[.slice a m c] 59)) := (Below.refl _ _).alloc (Nat.le_refl _) _
      have HW2 := hide (on_below HW.out hb7)
      have HC7 := hide C7
      clear C7 hb7 hcu
      revert HC7 HW2
      generalize wr.alloc (.cells #[.slice a m c] 59) = w2
      generalize wr.heap.size = b7
      intro HW2 HC7
      have HR2 : Hid (Rn w2 (.slice a m c) r) := hide (HRN.out.on (on_below B1.out HW2.out))
      have HSK : Hid (SK kE r) := hide (HS.out r (by rw [← HRR.out, List.getD_eq_getElem?_getD, List.getElem?_eq_getElem hir, Option.getD_some]; exact List.getElem_mem hir))
      have hm9 : m ≤ 4398046511104 := by
        rw [← HM.out]
        exact HLE.out r (by rw [← HRR.out, List.getD_eq_getElem?_getD, List.getElem?_eq_getElem hir, Option.getD_some]; exact List.getElem_mem hir)
      refine (search_any m 26 [.pointer (some ⟨b7, 0, none⟩), .pointer (some ⟨b3, 0, none⟩)] (pB r d) w2 (by omega) (fun x v => enters_of Try.func26 (by kernel_rfl) rfl _ _) (fun j hj W hW => ?_) (fun x y h1 h2 h3 => pB_mono HSK.out x y h1 (by rw [HM.out]; exact h2) h3)).mono ?_
      · have hj' : j < r.length := by rw [HM.out]; exact hj
        rw [pB_at hj']
        exact isnt_any b7 b3 _ r d j W (HC7.out.on hW) (H3.out.on (on_below HW2.out hW)) (HR2.out.on hW) hj' HL.out HB.out
      rintro e w3 ⟨k, hk, rfl, hk1, hk2, hb3⟩
      have HLO := hide (pB_lo hk1)
      have HHI : Hid (∀ i (h : i < r.length), k ≤ i → ¬ kE r[i] < kD d) := hide (pB_hi (fun i h1 h2 => hk2 i h1 (by rw [← HM.out]; exact h2)))
      have HW3 := hide (on_below HW2.out hb3)
      have HC3 := hide (HC7.out.on hb3)
      have HR3 := hide (HR2.out.on hb3)
      have hc7 : w3.cell? ⟨b7, 0, none⟩ = some (.slice a m c) := by rw [HC3.out.cell]; rfl
      clear hk1 hk2 hb3 HW HW2 HWw HC7 HR2 HRN
      by_cases hkm : k = m
      · subst hkm
        have HF1 : Hid (fnd (rs.take (i + 1)) d = none) := hide (fnd_take rs d hir HF.out (by rw [HRR.out]; exact fndR_end HLO.out HM.out.symm))
        go_wp2
        exact ⟨⟨i + 1, by omega, rfl, rfl, by go_num, HF1, HW3⟩, by simp [intOf]; omega⟩
      · have hkr : k < r.length := by rw [HM.out]; omega
        have hne : ((k : Int) == (m : Int)) = false := by rw [beq_eq_false_iff_ne]; omega
        obtain ⟨gk, ok, hik, hrk⟩ := HR3.out.at hkr
        have HIK := hide hik
        have HRK : Hid (∀ V : World, Below w3.heap.size w3 V → V.rangeAt gk ok (pc r[k])) := hide fun V hV => hrk V (HR3.out.on hV)
        obtain ⟨x, hx⟩ : ∃ x, r[k] = x := ⟨_, rfl⟩
        rw [hx] at HRK
        have HXX := hide hx
        have hu := aDd.und
        have HX : Hid ((Try.prog.info? 24).map (·.size) = some (u8s x.d).length) := hide (by rw [wideD.size, u8s_length, x.hl])
        have HY : Hid ((Try.prog.info? 24).map (·.size) = some (u8s d).length) := hide (by rw [wideD.size, u8s_length, HL.out])
        have H33 := hide (H3.out.on HW3.out)
        clear hik hrk hx
        go_wp2_with fail
        refine wp_region_noPanic ?_
        have BD := hide (Below.refl w3.heap.size w3).drew
        refine wp_region_held_drew (S := fun V : World => Below w3.heap.size w3 V) (by kernel_rfl) BD.out (fun hHeld => ?_)
        refine takeH 0 31 (.slice a m c) hHeld rfl rfl (by kernel_rfl) (by kernel_rfl) (by kernel_rfl) (fun _ _ _ h => h) (Or.inl ⟨by rfl, fun w hw => by have hw' : w.cell? ⟨b7, 0, none⟩ = some (.slice a m c) := (fun hw => by rw [(HC3.out.on hw).cell]; rfl) hw; go_simp⟩) ?_
        simp only [Act.put, List.setIfInBounds_toArray, List.set_cons_zero, List.set_cons_succ]
        refine takeH 1 32 (.int .i64 (k : Int)) hHeld rfl rfl (by kernel_rfl) (by kernel_rfl) (by kernel_rfl) (fun _ _ _ h => h) (Or.inl ⟨by rfl, fun w _ => by go_simp⟩) ?_
        simp only [Act.put, List.setIfInBounds_toArray, List.set_cons_zero, List.set_cons_succ]
        refine takeH 2 33 (.pointer (some ⟨gk, ok, none⟩)) hHeld rfl rfl (by kernel_rfl) (by kernel_rfl) (by kernel_rfl) (fun _ _ _ h => h) (Or.inl ⟨by rfl, fun w _ => run_op rfl (HIK.out w)⟩) ?_
        simp only [Act.put, List.setIfInBounds_toArray, List.set_cons_zero, List.set_cons_succ]
        refine takeH 3 34 (.pointer (some ⟨gk, ok, none⟩)) hHeld rfl rfl (by kernel_rfl) (by kernel_rfl) (by kernel_rfl) (fun _ _ _ h => h) (Or.inl ⟨by rfl, fun w _ => by go_simp⟩) ?_
        simp only [Act.put, List.setIfInBounds_toArray, List.set_cons_zero, List.set_cons_succ]
        refine takeH 4 35 (.agg (u8s x.d).toArray) hHeld rfl rfl (by kernel_rfl) (by kernel_rfl) (by kernel_rfl) (fun _ _ _ h => h) (yieldsIf_load_mid (by rfl) _ _ rfl gk (ok) rfl _ _ (fun V h => rangeAt_d (HRK.out V h)) hu rfl HX.out) ?_
        simp only [Act.put, List.setIfInBounds_toArray, List.set_cons_zero, List.set_cons_succ]
        refine takeH 5 36 (.agg (u8s d).toArray) hHeld rfl rfl (by kernel_rfl) (by kernel_rfl) (by kernel_rfl) (fun _ _ _ h => h) (yieldsIf_load_mid (by rfl) _ _ rfl b3 0 rfl _ _ (fun V h => (H33.out.on h).range 0 _ (by simp)) hu rfl HY.out) ?_
        simp only [Act.put, List.setIfInBounds_toArray, List.set_cons_zero, List.set_cons_succ]
        refine takeH 6 37 (.bool (decide (x.d = d))) hHeld rfl rfl (by kernel_rfl) (by kernel_rfl) (by kernel_rfl) (fun _ _ _ h => h) (Or.inl ⟨by rfl, fun v _ => run_eqA aDd _ rfl rfl x.hl HL.out⟩) ?_
        simp only [Act.put, List.setIfInBounds_toArray, List.set_cons_zero, List.set_cons_succ]
        refine takeH 7 30 (.bool (decide (x.d = d))) hHeld rfl rfl (by kernel_rfl) (by kernel_rfl) (by kernel_rfl) (fun _ _ _ h => h) (Or.inl ⟨by rfl, fun w _ => by go_simp⟩) ?_
        simp only [Act.put, List.setIfInBounds_toArray, List.set_cons_zero, List.set_cons_succ]
        refine wpAnyH_done (by kernel_rfl) ?_ _
        refine NoPanic.normal ?_
        clear hc7
        by_cases he : x.d = d
        · have hdc : decide (x.d = d) = true := decide_eq_true he
          rw [hdc]
          have HF1 : Hid (fnd rs d = some x.p) := hide (fnd_here rs d hir HF.out (by rw [HRR.out, ← HXX.out]; exact fndR_here HLO.out hkr (by rw [HXX.out]; exact he)))
          have hc7 : w3.drew.cell? ⟨b7, 0, none⟩ = some (.slice a m c) := by rw [(HC3.out.on BD.out).cell]; rfl
          have hpl : w3.drew.cell? ⟨gk, ok + 32, none⟩ = some (.int .i64 x.p) := rangeAt_p (HRK.out _ BD.out)
          have hik := HIK.out
          clear hdc he hHeld
          go_wp2
          simp only [Exit.noGoto]
          go_ret2
          refine ⟨?_, on_below B1.out (on_below HW3.out BD.out)⟩
          rw [HF1.out]
          rfl
        · have hdc : decide (x.d = d) = false := decide_eq_false he
          rw [hdc]
          have HF1 : Hid (fnd (rs.take (i + 1)) d = none) := hide (fnd_take rs d hir HF.out (by rw [HRR.out]; exact fndR_not HSK.out HLO.out HHI.out hkr (by rw [HXX.out]; exact he)))
          have HW4 := hide (on_below HW3.out BD.out)
          clear hdc he hHeld
          go_wp2
          exact ⟨⟨i + 1, by omega, rfl, rfl, by go_num, HF1, HW4⟩, by simp [intOf]; omega⟩
    · obtain rfl : i = n := by omega
      have hlt' : ¬ (i : Int) < (i : Int) := by omega
      go_wp2
      go_ret2
      refine ⟨?_, on_below B1.out HW.out⟩
      have := HF.out
      rw [← hnn, List.take_length] at this
      rw [this]
      rfl

end Go.Proofs.Ytabpfbankinojaa
