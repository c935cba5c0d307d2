/-
  The walk of TreeFolds.
-/
import Derived.Test.YtmgabnlobeienabDoorBo
namespace Go.Proofs.YtmgabnlobeienabDoor
open Go.RowKit
set_option linter.unusedVariables false

theorem folds_0 (a : Option Addr) (cap : Nat) (i : Int) (w : World) :
    Calls Tryd.prog 3 #[.slice a 0 cap, .int .i64 i] w fun e w' => e = .returned (.bool true) ∧ Below w.heap.size w w' := by
  go_enter Tryd.func3, Tryd.ntmps3
  go_wp2
  go_ret
  exact ⟨rfl, Below.refl _ _⟩
theorem into (i : Int) (n : Nat) (h0 : 0 < n) (hn : n ≤ 4398046511104) : ∃ j : Nat, j < n ∧ (wrap64 (i.tmod n + n)).tmod n = (j : Int) := by
  have hp : (0 : Int) < (n : Int) := by omega
  have h1 := Int.tmod_lt_of_pos i hp
  have h2 := Int.lt_tmod_of_pos i hp
  generalize i.tmod n = r at *
  have e : wrap64 (r + n) = r + n := by unfold wrap64; omega
  rw [e, Int.tmod_eq_emod_of_nonneg (by omega)]
  have h3 := Int.emod_nonneg (r + n) (show (n : Int) ≠ 0 by omega)
  have h4 := Int.emod_lt_of_pos (r + n) hp
  exact ⟨((r + n) % n).toNat, by omega, by omega⟩
theorem bits_int (I : Int) (N : Nat) (w : World) (hI : I = (N : Int)) (hN : N ≤ 4398046511104) : Calls Tryd.prog 5 #[.int .i64 I] w fun e w' => e = .returned (.int .i64 (Lib.bitLen N : Int)) ∧ w' = w := by
  subst hI
  exact bits_any N w hN
theorem DOwn.dsB {w : World} {B : Nat} {v : Value} {n : Nat} {xs : List Int} (h : DOwn w B v n xs) (hb : isB xs) (hn : n ≤ 4398046511104) :
    ∃ a cap, v = .slice a n cap ∧ Ds w a n cap xs ∧ ∀ x, a = some x → ∃ cs, Blk w x.block 28 cs := by
  obtain ⟨a, cap, rfl, hd, _⟩ := h.ds hb hn
  refine ⟨a, cap, rfl, hd, fun x hx => ?_⟩
  rcases h.2 with ⟨e, _⟩ | ⟨g, c, cur, e, hB, hh, _⟩
  · cases e; cases hx
  · cases e
    cases hx
    exact ⟨cur.toList, by unfold Blk; simpa using hh⟩
/-- What the loops keep: the proof, the digest so far. -/
structure FM (w wr : World) (g7 : Nat) (ap : Option Addr) (q cp : Nat) (P D : List Int) : Prop where
  ds : Ds wr ap q cp P
  pb : ∀ x, ap = some x → (∃ cs, Blk wr x.block 28 cs) ∧ x.block ≠ g7
  d : Blk wr g7 28 (u8s D)
  bel : Below w.heap.size w wr
theorem FM.below {w wr w' : World} {g7 : Nat} {ap : Option Addr} {q cp : Nat} {P D : List Int} (h : FM w wr g7 ap q cp P D) (hb : Below wr.heap.size wr w') : FM w w' g7 ap q cp P D :=
  ⟨h.ds.below hb, fun x hx => by obtain ⟨⟨cs, hcs⟩, hn⟩ := h.pb x hx; exact ⟨⟨cs, hcs.below hb hcs.lt⟩, hn⟩, h.d.below hb h.d.lt, h.bel.trans (hb.mono h.bel.size)⟩
theorem FM.grown {w wr w' : World} {g7 : Nat} {ap : Option Addr} {q cp : Nat} {P D : List Int} {v : Value} {bs : List Bool} (h : FM w wr g7 ap q cp P D) (ho : BOwn wr w.heap.size v bs) (hg : wr.grownBy w' v.ownBlock) : FM w w' g7 ap q cp P D :=
  ⟨h.ds.grown ho hg (fun x hx => (h.pb x hx).1), fun x hx => by obtain ⟨⟨cs, hcs⟩, hn⟩ := h.pb x hx; exact ⟨⟨cs, hcs.grownO ho hg⟩, hn⟩, h.d.grownO ho hg, h.bel.trans (Below.of_grown hg h.bel.size ho.lt)⟩
theorem FM.set {w wr w' : World} {g7 : Nat} {ap : Option Addr} {q cp : Nat} {P D D' : List Int} (h : FM w wr g7 ap q cp P D) (hb : But g7 wr w') (hd : Blk w' g7 28 (u8s D')) (hg : w.heap.size ≤ g7) : FM w w' g7 ap q cp P D' :=
  ⟨⟨h.ds.hcap, h.ds.hmax, h.ds.hnil, h.ds.sl.but hb (fun _ x hx => (h.pb x hx).2)⟩, fun x hx => by obtain ⟨⟨cs, hcs⟩, hn⟩ := h.pb x hx; exact ⟨⟨cs, hcs.but hb hn⟩, hn⟩, hd, h.bel.trans (hb.below hg)⟩
theorem cell_new (w : World) (b : Bool) : (w.alloc (.cells #[.bool b] 4)).cell? ⟨w.heap.size, 0, none⟩ = some (.bool b) := by
  rw [show (w.alloc (.cells #[.bool b] 4)).cell? ⟨w.heap.size, 0, none⟩ = [Value.bool b][0]? from (Blk.made w 4 [.bool b]).cell 0]
  rfl
theorem o_at (b n cap i : Nat) (I : Int) (hI : I = (i : Int)) (hi : i < n) (v : World) : (Instr.indexAt 29 (.slice (some ⟨b, 0, none⟩) n cap) (.int .i64 I)).run Tryd.prog v = .ok (.pointer (some ⟨b, i, none⟩)) v := by
  subst hI
  rw [run_indexAt_slice v _ _ _ _ .i64 i undOs, if_pos ⟨by omega, by omega⟩, elemO, sizeO]
  simp only [Result.andThen_ok, Int.toNat_natCast, Nat.mul_one]
  rw [Addr.add_lit, Nat.zero_add]
theorem wp_loadWG {dst : Option Tmp} {ty : TypeId} {pos : String} {aft : Array Edge} {gd : Option (Nat × Bool)} {a : Act} {w : World} {K : Act → World → Prop} {Q : Exit → Act → World → Prop} {T : TypeId} {n : Nat} (hT : Wide T n) {x : Operand} {g : Nat} {t : TypeId} {cs : List Value} (hx : a.eval x = .pointer (some ⟨g, 0, none⟩)) (hg : Blk w g t cs) (hn : cs.length = n)
    (h : K (a.put dst (.agg cs.toArray)) w) : Oper.wp Tryd.prog ⟨dst, .load T x, ty, pos, aft, gd⟩ a w K Q :=
  wp_loadW hT rfl hx hg cs hn (by rw [List.drop_zero, List.take_of_length_le (by omega)]) h

theorem spl_same (xs ys : List Int) (hx : xs.length = 32) (hy : ys.length = 32) : spl (u8s xs) (u8s ys) 0 = u8s ys := by
  unfold spl
  rw [List.drop_of_length_le (by rw [u8s_length, u8s_length]; omega)]
  simp
set_option maxRecDepth 100000 in
set_option maxHeartbeats 4000000 in
theorem folds_walk (a : Option Addr) (n cap : Nat) (xs : List Int) (i : Int) (w : World) (hs : Ds w a n cap xs) (hc : cap ≤ 4398046510976) (hi : (Lit.int .i64 i).wf = true) (hk : KT w) :
    Calls Tryd.prog 3 #[.slice a n cap, .int .i64 i] w fun e w' => e = .returned (.bool true) ∧ Below w.heap.size w w' := by
  by_cases h0 : n = 0
  · subst h0; exact folds_0 a cap i w
  have HK := hide hk
  have HS := hide hs
  have hcap := hs.hcap
  have HXL := hide hs.hlen
  have HXB := hide hs.hbyte
  have hib := bounds_i64 hi
  have hn0 : ¬ ((n : Int) = 0) := by omega
  obtain ⟨j, hj, hj2⟩ := into i n (by omega) (by omega)
  have HJ := hide hj2
  obtain ⟨b, o, rfl⟩ := hs.place (by omega)
  have EE := hide (show inE n (j : Int) (n : Int) = 0 by unfold inE; rw [if_neg (by omega)])
  have EP := hide (show inP xs n (j : Int) (n : Int) = path xs j by
    unfold inP
    rw [if_neg (by omega)]
    have e : sub xs 0 ((n : Int).toNat) = xs := by unfold sub; rw [Nat.mul_zero, List.drop_zero, List.take_of_length_le (by have := HXL.out; omega)]
    rw [e, Int.toNat_natCast])
  obtain ⟨⟨q, hq, hqT⟩, hPB⟩ := path_bd n n j xs (Nat.le_refl _) (by omega) HXL.out (by omega) HXB.out hj
  obtain ⟨T, HT⟩ : ∃ T, Hid (Lib.bitLen (n - 1) = T) := ⟨_, hide rfl⟩
  rw [HT.out] at hqT
  have hT : T ≤ 64 := by rw [← HT.out]; exact Lib.bitLen_le _ 64 (Nat.le_refl _) (by omega)
  have HQ := hide hq
  have HPB := hide hPB
  have HDL := hide (dat_length HXL.out hj)
  have HDB := hide (dat_isB HXB.out j)
  have HUL := hide (show (u8s (dat xs j)).length = 32 by rw [u8s_length, HDL.out])
  have HRL := hide (root_length HXL.out HXB.out)
  have hat := d_at b o n cap j (j : Int) rfl hj
  have hn1 : (n : Int) - 1 = ((n - 1 : Nat) : Int) := by omega
  have HN1 := hide hn1
  clear hs hk hi hj2 hq hPB hn1
  go_enter Tryd.func3, Tryd.ntmps3
  go_wp2_with fail
  rw [HJ.out]
  refine (incl_any _ _ _ xs (j : Int) (n : Int) _ HS.out HK.out).mono ?_
  rintro r w1 ⟨v, rfl, ⟨q', ho1⟩, hb1⟩
  rw [EE.out]
  rw [EP.out] at ho1
  obtain rfl : q' = q := by have := ho1.len; have := HQ.out; omega
  obtain ⟨ap, cp, rfl, hap, hbp⟩ := ho1.dsB HPB.out (by omega)
  have DP := hide hap
  have HBP := hide hbp
  have B1 := hide hb1
  have hqT' : ¬ ((T : Int) < (q' : Int)) := by omega
  clear ho1 hap hbp hb1
  go_wp2_with fail
  refine (bits_int _ (n - 1) _ HN1.out (by omega)).mono ?_
  rintro r w2 ⟨rfl, rfl⟩
  rw [HT.out]
  have HRG := hide ((HS.out.below B1.out).range j hj)
  go_wp2_with (first | (refine step_loadR wD rfl rfl _ HRG.out HUL.out ?_) | (refine step_alloc zD rfl ?_))
  intro w3 g7 hr3 hl3 hb3
  have G3 := hide hr3
  clear hr3
  go_wp2_with (refine step_storeA wD rfl rfl rfl G3.out HUL.out (One.u8 _) rfl ?_)
  intro w4 hg4 hbut4
  have B24 := hide (hb3.trans (hbut4.below hl3))
  have hg7 : w.heap.size ≤ g7 := Nat.le_trans B1.out.size hl3
  have F4 := hide (show FM w w4 g7 ap q' cp (path xs j) (dat xs j) from ⟨DP.out.below B24.out, fun x hx => by
    obtain ⟨cs, hcs⟩ := HBP.out x hx
    exact ⟨⟨cs, hcs.below B24.out hcs.lt⟩, by have := hcs.lt; omega⟩, hg4, B1.out.trans (B24.out.mono B1.out.size)⟩)
  have HW0 := hide (Way.start HXL.out hj)
  clear hb3 hbut4 hg4 G3 B24 DP HBP B1 HRG hat hqT' hl3
  go_wp2
  go_loopw [8, 9, 10] (fun lo hi lf wr => ∃ (b' e' : Nat) (st : List (Bool × List Int)), lo = .int .i64 b' ∧ hi = .int .i64 e' ∧ Hid (Way xs n j b' e' st) ∧ BOwn wr w.heap.size lf (st.map (·.1)) ∧ FM w wr g7 ap q' cp (path xs j) (dat xs j)) (fun lo hi _ _ => (intOf hi - intOf lo).toNat)
  case atStart => exact ⟨0, n, [], rfl, rfl, HW0, BOwn.nil _ _, F4.out⟩
  case round =>
    obtain ⟨b', e', st, rfl, rfl, HWAY, ho, hf4⟩ := hrel
    have O := hide ho
    have F := hide hf4
    obtain ⟨hw1, hw2, hw3, hEach, _, hPath⟩ := HWAY.out
    have hsl : 32 * st.length ≤ (path xs j).length := by rw [hPath, List.length_append, beside_length st hEach]; omega
    have hst : st.length ≤ q' := by have := HQ.out; omega
    have HLN := hide (show (st.map (·.1)).length = st.length by simp)
    clear ho hf4 F4 HW0 hEach hPath hsl
    by_cases hgt : 1 < e' - b'
    · have hgt' : (1 : Int) < (e' : Int) - (b' : Int) := by omega
      have hbd := hf_bd (e' - b') (by omega) (by omega)
      obtain ⟨k, HKE⟩ : ∃ k, Hid (hf (e' - b') = k) := ⟨_, hide rfl⟩
      rw [HKE.out] at hbd
      have hsub : (e' : Int) - (b' : Int) = ((e' - b' : Nat) : Int) := by omega
      have HSUB := hide hsub
      clear hsub
      have hk1 : ¬ ((k : Int) < 1) := by omega
      go_wp2_with fail
      refine (split_int _ (e' - b') _ HSUB.out (by omega) (by omega)).mono ?_
      rintro r w5 ⟨rfl, rfl⟩
      rw [HKE.out]
      by_cases hlt : j < b' + k
      · have hlt' : (j : Int) < (b' : Int) + (k : Int) := by omega
        have HW2 := hide (HWAY.out.low HXL.out HXB.out (by omega) (by omega) (by rw [HKE.out]; omega))
        rw [HKE.out] at HW2
        go_wp2_with (refine step_appendO (b := true) rfl rfl rfl (O.out.alloc _) (cell_new _ _) (by rw [HLN.out]; omega) (by have := F.out.bel.size; simp; omega) ?_)
        intro v5 w5 ho5 hg5
        skip
        have F5 := hide ((F.out.below ((Below.refl _ _).alloc (Nat.le_refl _) _)).grown (O.out.alloc _) hg5)
        clear hg5
        go_wp2
        go_roundw
        case rel => exact ⟨b', (b' + k), _, by first | rfl | go_num, by first | rfl | go_num, HW2, by rw [List.map_append]; exact ho5, F5.out⟩
        case measure => simp [intOf]; omega
      · have hlt' : ¬ ((j : Int) < (b' : Int) + (k : Int)) := by omega
        have HDEC : Hid (decide ((j : Int) < (b' : Int) + (k : Int)) = false) := hide (decide_eq_false hlt')
        have HW2 := hide (HWAY.out.high HXL.out HXB.out (by omega) (by omega) (by rw [HKE.out]; omega))
        rw [HKE.out] at HW2
        go_wp2_with (refine step_appendO (b := (decide ((j : Int) < (b' : Int) + (k : Int)))) rfl rfl rfl (O.out.alloc _) (cell_new _ _) (by rw [HLN.out]; omega) (by have := F.out.bel.size; simp; omega) ?_)
        intro v5 w5 ho5 hg5
        rw [HDEC.out] at ho5
        have F5 := hide ((F.out.below ((Below.refl _ _).alloc (Nat.le_refl _) _)).grown (O.out.alloc _) hg5)
        clear hg5
        go_wp2
        go_roundw
        case rel => exact ⟨(b' + k), e', _, by first | rfl | go_num, by first | rfl | go_num, HW2, by rw [List.map_append]; exact ho5, F5.out⟩
        case measure => simp [intOf]; omega
    · have hgt' : ¬ ((1 : Int) < (e' : Int) - (b' : Int)) := by omega
      obtain ⟨hPs, hUp⟩ := HWAY.out.last HXL.out (by omega)
      have hE2 : Each st := HWAY.out.2.2.2.1
      have hqs : st.length = q' := by
        have := beside_length st hE2
        rw [← hPs, HQ.out] at this
        omega
      have HUP := hide hUp
      have HES := hide hE2
      have HPS := hide hPs
      obtain ⟨al, cal, rfl, hcl⟩ := O.out.at
      rw [HLN.out, hqs] at hcl O ⊢
      have HCL := hide hcl
      have HQS := hide hqs
      clear hcl hqs hUp hE2 hPs hst
      go_wp2
      go_loopw [13] (fun kk wr => ∃ t : Nat, t ≤ q' ∧ kk = .int .i64 t ∧ BOwn wr w.heap.size (.slice al q' cal) (st.map (·.1)) ∧ FM w wr g7 ap q' cp (path xs j) (up (st.drop (q' - t)) (dat xs j))) (fun kk _ => q' - (intOf kk).toNat)
      case atStart => exact ⟨0, by omega, rfl, O.out, by
        have e0 : st.drop (q' - 0) = [] := by rw [Nat.sub_zero, ← HQS.out, List.drop_length]
        rw [e0]
        exact F.out⟩
      case round =>
        obtain ⟨t, ht, rfl, hoR, hfR⟩ := hrel
        have OR := hide hoR
        have FR := hide hfR
        clear hoR hfR O F
        by_cases htq : t < q'
        · have htq' : (t : Int) < (q' : Int) := by omega
          have HSP := hide (up_step st (dat xs j) t (by rw [HQS.out]; exact htq))
          rw [HQS.out] at HSP
          obtain ⟨pb, po, rfl⟩ := FR.out.ds.place (by omega)
          obtain ⟨a9, c9, e9, hc9⟩ := OR.out.at
          obtain ⟨gL, hgL, hcL⟩ := hc9 (q' - 1 - t) (by rw [HLN.out, HQS.out]; omega)
          have eal : al = some ⟨gL, 0, none⟩ := by cases e9; exact hgL
          subst eal
          clear e9 hc9 hgL
          have hbv : (st.map (·.1)).getD (q' - 1 - t) false = (st.getD (q' - 1 - t) (false, [])).1 := by
            have h9 : q' - 1 - t < st.length := by rw [HQS.out]; omega
            simp [List.getD, h9]
          rw [hbv] at hcL
          have HF := hide (beside_at st HES.out t (by rw [HQS.out]; exact htq))
          rw [HQS.out, ← HPS.out] at HF
          have hmem : (st.getD (q' - 1 - t) (false, [])) ∈ st := by
            have h9 : q' - 1 - t < st.length := by rw [HQS.out]; omega
            simp [List.getD, h9]
          have HFL := hide (HES.out _ hmem).1
          have HFB := hide (HES.out _ hmem).2
          obtain ⟨hdl, hdb⟩ := up_bd (st.drop (q' - t)) (dat xs j) HDL.out HDB.out
          have HDD := hide hdl
          have HDDB := hide hdb
          clear hbv hmem hdl hdb
          revert HSP hcL HF HFL HFB HDD HDDB
          generalize st.getD (q' - 1 - t) (false, []) = pr
          obtain ⟨bv, F⟩ := pr
          generalize hD : up (st.drop (q' - t)) (dat xs j) = D at FR
          intro HSP hcL HF HFL HFB HDD HDDB
          have HST : Hid (up (st.drop (q' - (t + 1))) (dat xs j) = comb bv F D) := HSP
          have hrg : ∀ v : World, Ds v (some ⟨pb, po, none⟩) q' cp (path xs j) → v.rangeAt pb (po + 32 * t) (u8s F) := fun v hv => by
            have := hv.range t htq
            rw [HF.out] at this
            exact this
          have hu := aD.und
          have HI1 : Hid ((Tryd.prog.info? 28).map (·.size) = some (u8s F).length) := hide (by rw [wD.size, u8s_length, HFL.out])
          have hix := o_at gL q' cal (q' - 1 - t) ((q' : Int) - 1 - (t : Int)) (by omega) (by omega)
          cases bv with
          | true =>
            have HBV : Hid (comb true F D = nd D F) := hide rfl
            have HN2 := hide (show up (st.drop (q' - (t + 1))) (dat xs j) = nd D F by rw [HST.out, HBV.out])
            go_wp2_with fail
            refine wp_region_noPanic ?_
            have R0 := hide (FR.out.below ((Below.refl _ _).drew))
            have O0 := hide (OR.out.below ((Below.refl _ _).drew))
            refine wp_region_held_drew (S := fun v : World => v.rangeAt pb (po + 32 * t) (u8s F)) (by kernel_rfl) (hrg _ R0.out.ds) (fun hHeld => ?_)
            refine takeH 1 104 (.slice (some ⟨pb, po, none⟩) q' cp) hHeld rfl rfl (by kernel_rfl) (by kernel_rfl) (by kernel_rfl) (fun _ _ _ h => h) (Or.inl ⟨by rfl, fun w _ => by go_simp⟩) ?_
            simp only [Act.put, List.setIfInBounds_toArray, List.set_cons_zero, List.set_cons_succ]
            refine takeH 2 105 (.int .i64 (t : Int)) hHeld rfl rfl (by kernel_rfl) (by kernel_rfl) (by kernel_rfl) (fun _ _ _ h => h) (Or.inl ⟨by rfl, fun w _ => by go_simp⟩) ?_
            simp only [Act.put, List.setIfInBounds_toArray, List.set_cons_zero, List.set_cons_succ]
            refine takeH 3 106 (.pointer (some ⟨pb, po + 32 * t, none⟩)) hHeld rfl rfl (by kernel_rfl) (by kernel_rfl) (by kernel_rfl) (fun _ _ _ h => h) (Or.inl ⟨by rfl, fun w _ => run_op rfl (d_at pb po q' cp t (t : Int) rfl htq w)⟩) ?_
            simp only [Act.put, List.setIfInBounds_toArray, List.set_cons_zero, List.set_cons_succ]
            refine takeH 4 107 (.agg (u8s F).toArray) hHeld rfl rfl (by kernel_rfl) (by kernel_rfl) (by kernel_rfl) (fun _ _ _ h => h) (yieldsIf_load_mid (by rfl) _ _ rfl pb (po + 32 * t) rfl _ _ (fun w h => h) hu rfl HI1.out) ?_
            simp only [Act.put, List.setIfInBounds_toArray, List.set_cons_zero, List.set_cons_succ]
            refine wpAnyH_ready (rs := [0]) (by kernel_rfl) (by simp) (AllReadyH.cons rfl (fun K hK => ?_) AllReadyH.nil)
            rw [if_pos (by rfl)]
            refine wp_loadWG wD rfl R0.out.d (by rw [u8s_length]; exact HDD.out) ?_
            refine hK.out _ _ (hrg _ R0.out.ds) (fun hHeld => ?_)
            clear hK K
            simp only [Act.put]
            refine wpAnyH_ready (rs := [5]) (by kernel_rfl) (by simp) (AllReadyH.cons rfl (fun K hK => ?_) AllReadyH.nil)
            rw [if_pos (by rfl)]
            go_simp
            refine (node_any D F _ HDD.out HDDB.out HFL.out HFB.out (HK.out.below R0.out.bel HK.out.lt)).mono ?_
            rintro r v1 ⟨rfl, hv1⟩
            have R1 := hide (R0.out.below hv1)
            have O1 := hide (O0.out.below hv1)
            refine hK.out _ _ (hrg _ R1.out.ds) (fun hHeld => ?_)
            clear hK K
            refine wpAnyH_ready (rs := [6]) (by kernel_rfl) (by simp) (AllReadyH.cons rfl (fun K hK => ?_) AllReadyH.nil)
            rw [if_pos (by rfl)]
            refine wp_storeW wD rfl rfl rfl R1.out.d (by rw [u8s_length]; exact nd_length _ _) (One.u8 _) (by rw [u8s_length, HDD.out]; omega) ?_
            intro v2 hgs hbuts
            rw [spl_same _ _ HDD.out (nd_length _ _)] at hgs
            have O2 := hide (O1.out.but R1.out.d hbuts)
            have R2 := hide (R1.out.set hbuts hgs hg7)
            refine hK.out _ _ (hrg _ R2.out.ds) (fun hHeld => ?_)
            clear hK K
            simp only [Act.put]
            refine wpAnyH_done (by kernel_rfl) ?_ _
            refine NoPanic.normal ?_
            clear hHeld hrg hu
            go_wp2
            exact ⟨⟨t + 1, by omega, by go_num, O2.out, by rw [HN2.out]; exact R2.out⟩, by simp [intOf]; omega⟩
          | false =>
            have HBV : Hid (comb false F D = nd F D) := hide rfl
            have HN2 := hide (show up (st.drop (q' - (t + 1))) (dat xs j) = nd F D by rw [HST.out, HBV.out])
            go_wp2_with fail
            refine wp_region_noPanic ?_
            have R0 := hide (FR.out.below ((Below.refl _ _).drew))
            have O0 := hide (OR.out.below ((Below.refl _ _).drew))
            refine wp_region_held_drew (S := fun v : World => v.rangeAt pb (po + 32 * t) (u8s F)) (by kernel_rfl) (hrg _ R0.out.ds) (fun hHeld => ?_)
            refine takeH 0 109 (.slice (some ⟨pb, po, none⟩) q' cp) hHeld rfl rfl (by kernel_rfl) (by kernel_rfl) (by kernel_rfl) (fun _ _ _ h => h) (Or.inl ⟨by rfl, fun w _ => by go_simp⟩) ?_
            simp only [Act.put, List.setIfInBounds_toArray, List.set_cons_zero, List.set_cons_succ]
            refine takeH 1 110 (.int .i64 (t : Int)) hHeld rfl rfl (by kernel_rfl) (by kernel_rfl) (by kernel_rfl) (fun _ _ _ h => h) (Or.inl ⟨by rfl, fun w _ => by go_simp⟩) ?_
            simp only [Act.put, List.setIfInBounds_toArray, List.set_cons_zero, List.set_cons_succ]
            refine takeH 2 111 (.pointer (some ⟨pb, po + 32 * t, none⟩)) hHeld rfl rfl (by kernel_rfl) (by kernel_rfl) (by kernel_rfl) (fun _ _ _ h => h) (Or.inl ⟨by rfl, fun w _ => run_op rfl (d_at pb po q' cp t (t : Int) rfl htq w)⟩) ?_
            simp only [Act.put, List.setIfInBounds_toArray, List.set_cons_zero, List.set_cons_succ]
            refine takeH 3 112 (.agg (u8s F).toArray) hHeld rfl rfl (by kernel_rfl) (by kernel_rfl) (by kernel_rfl) (fun _ _ _ h => h) (yieldsIf_load_mid (by rfl) _ _ rfl pb (po + 32 * t) rfl _ _ (fun w h => h) hu rfl HI1.out) ?_
            simp only [Act.put, List.setIfInBounds_toArray, List.set_cons_zero, List.set_cons_succ]
            refine wpAnyH_ready (rs := [4]) (by kernel_rfl) (by simp) (AllReadyH.cons rfl (fun K hK => ?_) AllReadyH.nil)
            rw [if_pos (by rfl)]
            refine wp_loadWG wD rfl R0.out.d (by rw [u8s_length]; exact HDD.out) ?_
            refine hK.out _ _ (hrg _ R0.out.ds) (fun hHeld => ?_)
            clear hK K
            simp only [Act.put]
            refine wpAnyH_ready (rs := [5]) (by kernel_rfl) (by simp) (AllReadyH.cons rfl (fun K hK => ?_) AllReadyH.nil)
            rw [if_pos (by rfl)]
            go_simp
            refine (node_any F D _ HFL.out HFB.out HDD.out HDDB.out (HK.out.below R0.out.bel HK.out.lt)).mono ?_
            rintro r v1 ⟨rfl, hv1⟩
            have R1 := hide (R0.out.below hv1)
            have O1 := hide (O0.out.below hv1)
            refine hK.out _ _ (hrg _ R1.out.ds) (fun hHeld => ?_)
            clear hK K
            refine wpAnyH_ready (rs := [6]) (by kernel_rfl) (by simp) (AllReadyH.cons rfl (fun K hK => ?_) AllReadyH.nil)
            rw [if_pos (by rfl)]
            refine wp_storeW wD rfl rfl rfl R1.out.d (by rw [u8s_length]; exact nd_length _ _) (One.u8 _) (by rw [u8s_length, HDD.out]; omega) ?_
            intro v2 hgs hbuts
            rw [spl_same _ _ HDD.out (nd_length _ _)] at hgs
            have O2 := hide (O1.out.but R1.out.d hbuts)
            have R2 := hide (R1.out.set hbuts hgs hg7)
            refine hK.out _ _ (hrg _ R2.out.ds) (fun hHeld => ?_)
            clear hK K
            simp only [Act.put]
            refine wpAnyH_done (by kernel_rfl) ?_ _
            refine NoPanic.normal ?_
            clear hHeld hrg hu
            go_wp2
            exact ⟨⟨t + 1, by omega, by go_num, O2.out, by rw [HN2.out]; exact R2.out⟩, by simp [intOf]; omega⟩
        · obtain rfl : t = q' := by omega
          have htq' : ¬ ((t : Int) < (t : Int)) := by omega
          have e0 : st.drop (t - t) = st := by rw [Nat.sub_self, List.drop_zero]
          rw [e0, HUP.out] at FR
          have HRU := hide (show (u8s (root xs)).length = 32 by rw [u8s_length]; exact HRL.out)
          have hu := aD.und
          have HI1 : Hid ((Tryd.prog.info? 28).map (·.size) = some (u8s (root xs)).length) := hide (by rw [wD.size, HRU.out])
          go_wp2_with fail
          refine wp_region_noPanic ?_
          have R0 := hide (FR.out.below ((Below.refl _ _).drew))
          refine wp_region_held_drew (S := fun v : World => v.rangeAt g7 0 (u8s (root xs))) (by kernel_rfl) (R0.out.d.range 0 _ (by simp)) (fun hHeld => ?_)
          refine takeH 0 115 (.agg (u8s (root xs)).toArray) hHeld rfl rfl (by kernel_rfl) (by kernel_rfl) (by kernel_rfl) (fun _ _ _ h => h) (yieldsIf_load_mid (by rfl) _ _ rfl g7 0 rfl _ _ (fun w h => h) hu rfl HI1.out) ?_
          simp only [Act.put, List.setIfInBounds_toArray, List.set_cons_zero, List.set_cons_succ]
          refine takeH 1 116 (.slice (some ⟨b, o, none⟩) n cap) hHeld rfl rfl (by kernel_rfl) (by kernel_rfl) (by kernel_rfl) (fun _ _ _ h => h) (Or.inl ⟨by rfl, fun w _ => by go_simp⟩) ?_
          simp only [Act.put, List.setIfInBounds_toArray, List.set_cons_zero, List.set_cons_succ]
          refine wpAnyH_ready (rs := [2]) (by kernel_rfl) (by simp) (AllReadyH.cons rfl (fun K hK => ?_) AllReadyH.nil)
          rw [if_pos (by rfl)]
          go_simp
          refine (root_any n _ _ _ xs _ (Nat.le_refl _) (HS.out.below R0.out.bel) (HK.out.below R0.out.bel HK.out.lt)).mono ?_
          rintro r v1 ⟨rfl, hv1⟩
          have R1 := hide (R0.out.below hv1)
          refine hK.out _ _ (R1.out.d.range 0 _ (by simp)) (fun hHeld => ?_)
          clear hK K
          refine takeH 3 118 (.bool true) hHeld rfl rfl (by kernel_rfl) (by kernel_rfl) (by kernel_rfl) (fun _ _ _ h => h) (Or.inl ⟨by rfl, fun v _ => run_eqT aD _ rfl rfl HRL.out⟩) ?_
          simp only [Act.put, List.setIfInBounds_toArray, List.set_cons_zero, List.set_cons_succ]
          refine takeH 4 4 (.bool true) hHeld rfl rfl (by kernel_rfl) (by kernel_rfl) (by kernel_rfl) (fun _ _ _ h => h) (Or.inl ⟨by rfl, fun w _ => by go_simp⟩) ?_
          simp only [Act.put, List.setIfInBounds_toArray, List.set_cons_zero, List.set_cons_succ]
          refine wpAnyH_done (by kernel_rfl) ?_ _
          refine NoPanic.normal ?_
          clear hHeld
          go_wp2
          go_ret
          exact ⟨rfl, R1.out.bel⟩

end Go.Proofs.YtmgabnlobeienabDoor
