/-
  Texts one behind the other: Zti Zlp Zph Jpl Zlw ShpLaw.
-/
import Derived.Test.YtlgcjdgcgnlcaaaGreatDoorPkF
import Derived.Test.YtlgcjdgcgnlcaaaGreatDoorPkG
import Derived.Test.YtlgcjdgcgnlcaaaGreatDoorPkE
import Derived.Test.YtlgcjdgcgnlcaaaGreatDoorPkA
import Derived.Test.YtlgcjdgcgnlcaaaGreatDoorPkB
import Derived.Test.YtlgcjdgcgnlcaaaGreatDoorKmh
import Derived.Test.YtlgcjdgcgnlcaaaGreatDoorKmi
import Derived.Test.YtlgcjdgcgnlcaaaGreatDoorPkD
import Derived.OwnWalk
import Derived.Deep.Cut
import Derived.Deep.CutRange
import Derived.Deep.CutBlock

/-
  The document's Trim.
-/
namespace Go.Proofs.YtlgcjdgcgnlcaaaGreatDoor
open Go.RowKit Go.Shelf
set_option linter.unusedVariables false
set_option linter.unusedSimpArgs false
set_option maxRecDepth 100000

/-- How many raw writes there are. -/
def qLenW (r : Nat) (w : World) : Nat := match w.cell? ⟨r, 2, none⟩ with
  | some (.slice _ n _) => n
  | _ => 0
theorem RkAt.qn {w : World} {r s : Nat} {rs : List Rw} {R : Rm} (h : RkAt w r s rs R) : qLenW r w = rs.length := by
  obtain ⟨a, c, e⟩ := row_slice h.row
  have e2 : R.qs.length = rs.length := by rw [← h.raw, List.length_map]
  rw [e2] at e
  have : w.cell? ⟨r, 2, none⟩ = some (.slice a rs.length c) := by rw [h.fk.blk.cell, ← e]; rfl
  unfold qLenW
  rw [this]
theorem trR_len (H L : Nat) (rs : List Rw) (is : List Nat) : (trR H L rs is).length = rs.length + is.length := by simp [trR]
/-- The document's cut. -/
theorem trS_cut {H L n : Nat} {rs : List Rw} {js : List Nat} {c : Nat} (hF : Nmd (play rs)) (k : Cn (play rs) H L c) (hn : n ≤ c) (hi : TrI (play rs) H L n js) :
    (n % 2 ^ H = 0 → play (trR H L rs js) (sN H L (n / 2 ^ H)) = none) ∧
    (n % 2 ^ H ≠ 0 → tFB H L (n / 2 ^ H) = true ∧ (play (trR H L rs js) (sN H L (n / 2 ^ H))).isSome = true ∧ 32 * (n % 2 ^ H) ≤ (fl (play (trR H L rs js)) (sN H L (n / 2 ^ H))).length ∧
      cuE (trR H L rs js) (sN H L (n / 2 ^ H)) (((n % 2 ^ H) * 32 : Nat) : Int) = 0) := by
  have hp := Nat.two_pow_pos H
  have e := Nat.div_add_mod n (2 ^ H)
  have hm := Nat.mod_lt n hp
  rw [Nat.mul_comm] at e
  constructor
  · intro h0
    by_cases hmem : sN H L (n / 2 ^ H) ∈ js.map (sN H L)
    · exact (trR_play H L rs js _).1 hmem
    · rw [(trR_play H L rs js _).2 hmem]
      cases hp : play rs (sN H L (n / 2 ^ H)) with
      | none => rfl
      | some xs =>
        exfalso
        have hb : tFB H L (n / 2 ^ H) = true := by
          cases hb : tFB H L (n / 2 ^ H) with
          | true => rfl
          | false => have := hF _ (sN_no hb); rw [hp] at this; cases this
        exact hmem (List.mem_map_of_mem ((hi.mem _).2 ⟨hb, by rw [hp]; rfl, by omega⟩))
  · intro h0
    obtain ⟨h1, h2⟩ := k.cutAt hF hn h0
    have hnot : sN H L (n / 2 ^ H) ∉ js.map (sN H L) := fun hm => by
      obtain ⟨i, h3, h4⟩ := List.mem_map.1 hm
      have e2 := (sN_inj h1 h4.symm).2.2
      have := ((hi.mem i).1 h3).2.2
      subst e2
      omega
    have hp2 := (trR_play H L rs js _).2 hnot
    have hfl : fl (play (trR H L rs js)) (sN H L (n / 2 ^ H)) = fl (play rs) (sN H L (n / 2 ^ H)) := by unfold fl; rw [hp2]
    have hs : (play (trR H L rs js) (sN H L (n / 2 ^ H))).isSome = true := by
      rw [hp2]
      cases hc : play rs (sN H L (n / 2 ^ H)) with
      | some _ => rfl
      | none =>
        rw [fl_none hc] at h2
        simp at h2
        omega
    refine ⟨h1, hs, by rw [hfl]; exact h2, ?_⟩
    have := tmE_ok hF k hn hi
    unfold tmE at this
    rw [if_neg h0] at this
    exact this
theorem cuS_none {rs : List Rw} {n : ByteArray} {k : Int} (h : ¬ k < ((fl (play rs) n).length : Int)) : cuS rs n k = rs := by
  unfold cuS
  rw [if_neg (fun hh => h hh.2)]
section
variable (r s : Nat) (rs : List Rw) (R : Rm) (w : World) (hr : RkAt w r s rs R)
include hr
set_option maxHeartbeats 1000000 in
theorem trimL_bad (h l n : Int) (c : Nat) (hn : smE h l 0 = 0 → Cn (play rs) h.toNat l.toNat c) (hwt : wt rs ≤ 1099511000000) (hb : smE h l 0 = 0 → n < 0 ∨ (c : Int) < n) :
    Calls Tryz.prog 12 #[.pointer (some ⟨r, 0, none⟩), .int .i64 h, .int .i64 l, .int .i64 n] w fun e w' => e = .returned (.int .i64 (if smE h l 0 = 0 then 40 else 2)) ∧ Below w.heap.size w w' := by
  have HCU := hide (countL_any r s rs R w hr h l c hn hwt)
  by_cases he : smE h l 0 = 0
  · have hb := hb he
    rw [he] at HCU
    rw [if_pos he]
    simp only [if_true] at HCU
    by_cases h0 : n < 0
    · clear hr hn hb he
      go_enter Tryz.func12, Tryz.ntmps12
      go_wp2_with fail
      refine HCU.out.mono ?_
      rintro e w2 ⟨rfl, hb2⟩
      go_wp2
      go_ret
      exact ⟨rfl, hb2⟩
    · have h1 : (c : Int) < n := by omega
      clear hr hn hb he
      go_enter Tryz.func12, Tryz.ntmps12
      go_wp2_with fail
      refine HCU.out.mono ?_
      rintro e w2 ⟨rfl, hb2⟩
      go_wp2
      go_ret
      exact ⟨rfl, hb2⟩
  · have e2 := (lvl_bad he).2
    rw [if_neg he, e2] at HCU
    rw [if_neg he]
    clear hr hn hb he e2
    go_enter Tryz.func12, Tryz.ntmps12
    go_wp2_with fail
    refine HCU.out.mono ?_
    rintro e w2 ⟨rfl, hb2⟩
    go_wp2
    go_ret
    exact ⟨rfl, hb2⟩
end
/-- What stands in the round over the names. -/
structure TI (wo W : World) (H L n k : Nat) (F : ByteArray → Option (List Int)) (ls : List (ByteArray × List Int)) (b p : Int) : Prop where
  bst : Bst F H L n ((ls.take k).map (·.1)) b p
  bel : Below wo.heap.size wo W
theorem map_take_succ {ls : List (ByteArray × List Int)} {k : Nat} {x : ByteArray × List Int} (h : ls[k]? = some x) : (ls.take (k + 1)).map (·.1) = (ls.take k).map (·.1) ++ [x.1] := by
  rw [List.take_add_one, h, List.map_append]
  rfl
theorem nmsC_at {ls : List (ByteArray × List Int)} {k : Nat} {x : ByteArray × List Int} (h : ls[k]? = some x) : (nmsC ls)[k]? = some (.string x.1) := by
  unfold nmsC
  rw [List.getElem?_map, h]
  rfl
set_option maxHeartbeats 8000000 in
theorem trimL_ok (r s : Nat) (rs : List Rw) (R : Rm) (w : World) (hr : RkAt w r s rs R) (H L c n : Nat) (js : List Nat) (hv : tFB H L 0 = true) (hc : Cn (play rs) H L c) (hn : n ≤ c) (hi : TrI (play rs) H L n js) (hwt : wt rs + js.length + 2 ≤ 1099511000000) :
    Calls Tryz.prog 12 #[.pointer (some ⟨r, 0, none⟩), .int .i64 (H : Int), .int .i64 (L : Int), .int .i64 (n : Int)] w fun e w' => e = .returned (.int .i64 0) ∧ RoP w w' r s R (trS H L n rs js) := by
  have hh := (tFB_is hv).1
  have hF := Nmd.play hr.val
  have hcut := trS_cut hF hc hn hi
  have hnw := hc.wt hr.val
  have e0 : smE (H : Int) (L : Int) 0 = 0 := by
    have h : smB (H : Int) (L : Int) 0 = true := (smB_nat H L 0).trans hv
    unfold smE
    rw [if_pos h]
  have HCU := hide (fun (W : World) (hW : RkAt W r s rs R) => countL_any r s rs R W hW (H : Int) (L : Int) c (fun _ => hc) (by omega))
  simp only [e0, if_true] at HCU
  obtain ⟨P, HP⟩ : ∃ P, Hid (2 ^ H = P) := ⟨_, hide rfl⟩
  have HFU := hide (fun W : World => full_any H P W hh HP.out)
  have hP := hh.pow
  rw [HP.out] at hP
  have HLI := hide (fun (W : World) (hW : RkAt W r s rs R) => listR_any r s rs R W hW (by omega))
  have HR := hide hr
  have HI := hide hi
  have HH := hide hh
  have HLS := hide hr.fls
  have HNMS : Hid (∀ (k : Nat) (x : ByteArray × List Int), R.l[k]? = some x → x.1.size ≤ 128) := hide (fun k x hx => by
    have h1 := (hr.fls.mem x.1 x.2).2 (List.mem_of_getElem? hx)
    have h2 : nmB x.1 = true := by
      cases hb : nmB x.1 with
      | true => rfl
      | false => rw [hF _ hb] at h1; cases h1
    simp [nmB] at h2
    omega)
  have hw9 : ∀ m, wt (trR H L rs (js.take m)) + 2 ≤ 1099511000000 := fun m => by
    have h1 := trR_wt H L rs (js.take m)
    rw [List.length_take] at h1
    omega
  have HW9 := hide hw9
  have HAL : Hid (∀ (m : Nat) (W : World) (R1 : Rm) (nm : ByteArray), RkAt W r s (trR H L rs (js.take m)) R1 → Calls Tryz.prog 37 #[.pointer (some ⟨r, 0, none⟩), .string nm] W fun e w' => e = .returned (.tuple #[.string (str (fl (play (trR H L rs (js.take m))) nm)), .bool (play (trR H L rs (js.take m)) nm).isSome]) ∧ Below W.heap.size W w') := hide (fun m W R1 nm hW => all_any r s _ R1 W hW nm (by have := HW9.out m; omega))
  have HRM : Hid (∀ (m q : Nat) (W : World) (R1 : Rm), js[m]? = some q → RkAt W r s (trR H L rs (js.take m)) R1 → Calls Tryz.prog 43 #[.pointer (some ⟨r, 0, none⟩), .string (sN H L q)] W fun e w' => e = .returned (.int .i64 0) ∧ RoP W w' r s R1 (trR H L rs (js.take (m + 1)))) := hide (fun m q W R1 hq hW => by
    have := removeR_any r s _ R1 W hW (sN H L q) (by have := HW9.out m; omega)
    have hfe := trR_fE hi hq
    have hrs : rmS (trR H L rs (js.take m)) (sN H L q) = trR H L rs (js.take (m + 1)) := by
      rw [takeQ hq, trR_snoc]
      unfold rmS
      rw [if_pos hfe]
    rw [hfe, hrs] at this
    exact this)
  have hfew := hr.few
  have hlw := len_wt rs
  have HLW : Hid (R.l.length ≤ 1099511000000) := hide (by omega)
  have hnc : ¬ (c : Int) < (n : Int) := by omega
  have hn0 : ¬ (n : Int) < 0 := by omega
  have hn9 : n ≤ 1099511000000 := by omega
  have HCUT := hide hcut
  clear hr hv hc hn hi hwt hF hcut hnw e0 hh hw9 hfew hlw
  go_enter Tryz.func12, Tryz.ntmps12
  go_wp2_with fail
  refine (HCU.out _ HR.out).mono ?_
  rintro e w1 ⟨rfl, hb1⟩
  have HB1 := hide hb1
  clear hb1 HCU
  go_wp2_with fail
  refine (HFU.out _).mono ?_
  rintro e w1 ⟨rfl, rfl⟩
  go_wp2_with fail
  refine (HLI.out _ (HR.out.below HB1.out)).mono ?_
  rintro e w3 ⟨v, rfl, hrow, hb3⟩
  have HB3 := hide (on_below HB1.out hb3)
  obtain ⟨a, cp, hv2⟩ := row_slice hrow
  subst hv2
  have HRW := hide hrow
  obtain ⟨len, HLN⟩ : ∃ len, Hid (R.l.length = len) := ⟨_, hide rfl⟩
  have hlen := HLW.out
  rw [HLN.out] at HRW hlen ⊢
  clear hrow hb3 HFU HLI HLW
  obtain ⟨M, HM⟩ : ∃ M, Hid (rs.length + js.length + 1 = M) := ⟨_, hide rfl⟩
  go_wp2
  go_loopw [14] (fun _ wo => ∃ m : Nat, m ≤ js.length ∧ Hid (RoP w3 wo r s R (trR H L rs (js.take m)))) (fun _ wo => M - qLenW r wo)
  case atStart => exact ⟨0, Nat.zero_le _, hide (by rw [List.take_zero, trR_nil]; exact RoP.below (HR.out.below HB3.out) (Below.refl _ _))⟩
  case round =>
    obtain ⟨m, hm, HOP⟩ := hrel
    obtain ⟨wo, hwo⟩ : ∃ wo, wo = wr := ⟨_, rfl⟩
    subst hwo
    obtain ⟨R1, o1, o2, o3, o4⟩ := HOP.out
    have HR1 := hide o1
    have HX := hide (And.intro o2 (And.intro o3 o4))
    have HROW : Hid (wo.ownsRow w1.heap.size 9 1 (.slice a len cp) len (nmsC R.l)) := hide (row_same HRW.out (fun k e => by
      obtain ⟨cs, hcb⟩ := row_lies HRW.out e
      refine o2.block k hcb.lt (fun hk => ?_)
      have h1 := HR.out.lt (.inl hk)
      have h2 := row_ge HRW.out e
      have h3 := HB1.out.size
      omega))
    have hq1 := HR1.out.qn
    rw [trR_len, List.length_take, Nat.min_eq_left hm] at hq1
    have HQ1 := hide hq1
    clear o1 o2 o3 o4 hq1
    go_wp2
    go_loopw [13, 14, 15] (fun b p i wi => ∃ (k : Nat) (bz pz : Int), b = .int .i64 bz ∧ p = .int .i64 pz ∧ i = .int .i64 (k : Int) ∧ k ≤ len ∧ Hid (TI wo wi H L n k (play (trR H L rs (js.take m))) R.l bz pz)) (fun _ _ i _ => len - (intOf i).toNat)
    case atStart => exact ⟨0, -1, -1, rfl, rfl, rfl, Nat.zero_le _, hide ⟨by rw [List.take_zero]; exact Bst.nil, Below.refl _ _⟩⟩
    case round =>
      obtain ⟨k, bz, pz, rfl, rfl, rfl, hk, HT⟩ := hrel
      obtain ⟨wi, hwi⟩ : ∃ wi, wi = wr := ⟨_, rfl⟩
      subst hwi
      by_cases hlt : k < len
      · have hlti : (k : Int) < (len : Int) := by omega
        obtain ⟨x, hx⟩ : ∃ x, R.l[k]? = some x := ⟨_, List.getElem?_eq_getElem (by rw [HLN.out]; exact hlt)⟩
        obtain ⟨g, cap, cs, e1, hg, hcs, hcl⟩ := row_at HROW.out (by omega)
        injection e1 with e1 e2 e3
        subst e1 e3
        have hix := vw_at rSt g len cp k hlt
        have hsz := HNMS.out k x hx
        obtain ⟨ss, hss⟩ := bA_of x.1
        have HCELL : Hid (∀ V : World, Below wo.heap.size wo V → V.cell? ⟨g, k, none⟩ = some (.string (bA ss))) := hide (fun V hV => by
          rw [(hg.on hV).cell]
          have h1 : (cs.take (len * 1))[k]? = some (.string x.1) := by
            rw [hcs]
            exact nmsC_at hx
          rw [List.getElem?_take, if_pos (by omega), hss] at h1
          exact h1)
        rw [hss, bA_size] at hsz
        obtain ⟨h', l', i', w', e, hpr, hcall⟩ := parseR_any ss (by omega)
        have HCALL := hide hcall
        have hst := HT.out.bst.step HP.out HH.out hpr rfl (C := decide (e = 0 ∧ (play (trR H L rs (js.take m)) (bA ss)).isSome = true ∧ h' = (H : Int) ∧ l' = (L : Int) ∧ w' = (P : Int) ∧ (n : Int) ≤ i' * (P : Int) ∧ bz < i')) decide_eq_true_iff
        rw [← hss, ← map_take_succ hx, hss] at hst
        have hml : ((R.l.take k).map (·.1)).length = k := by rw [List.length_map, List.length_take, HLN.out]; omega
        rw [hml] at hst
        have HPOS : Hid ((e = 0 ∧ (play (trR H L rs (js.take m)) (bA ss)).isSome = true ∧ h' = (H : Int) ∧ l' = (L : Int) ∧ w' = (P : Int) ∧ (n : Int) ≤ i' * (P : Int) ∧ bz < i') → Bst (play (trR H L rs (js.take m))) H L n ((R.l.take (k + 1)).map (·.1)) i' (k : Int)) := hide (fun h => hst.1 (decide_eq_true h))
        have HNEG : Hid (¬ (e = 0 ∧ (play (trR H L rs (js.take m)) (bA ss)).isSome = true ∧ h' = (H : Int) ∧ l' = (L : Int) ∧ w' = (P : Int) ∧ (n : Int) ≤ i' * (P : Int) ∧ bz < i') → Bst (play (trR H L rs (js.take m))) H L n ((R.l.take (k + 1)).map (·.1)) bz pz) := hide (fun h => hst.2 (decide_eq_false h))
        have HTOK : Hid (e = 0 → h' = (H : Int) → l' = (L : Int) → w' = (P : Int) → wrap64 (i' * (P : Int)) = i' * (P : Int)) := hide (fun h1 h2 h3 h4 => by
          rcases hpr with ⟨_, htok, _⟩ | ⟨h5, _⟩
          · subst h2 h3 h4
            obtain ⟨H', L', I, N', e1, e2, rfl, e4, hH', hN1, hN2⟩ := htok
            obtain rfl : H = H' := by omega
            obtain rfl : L = L' := by omega
            obtain rfl : P = N' := by omega
            have htf : tFB H L I = true := tFB_of HH.out (by rw [HP.out]; exact hN2)
            have hIb := (tFB_bd htf).2.2.2.1
            rw [HP.out, Nat.add_mul] at hIb
            have h9 : ((I * P : Nat) : Int) = (I : Int) * (P : Int) := Int.natCast_mul I P
            unfold wrap64
            omega
          · omega)
        have HB := hide HT.out.bel
        have hcell := HCELL.out _ HB.out
        have hkm : k ≤ 1099511000000 := by omega
        clear hpr hcall hst hml hg hcs hcl hsz hss hx HT
        go_wp2_with fail
        refine (HCALL.out _).mono ?_
        rintro _ V ⟨rfl, hbV⟩
        have HBV := hide (on_below HB.out hbV)
        clear hbV hcell
        go_wp2_with (refine step_alloc zT rfl ?_)
        intro V1 g16 hg16 hle16 hb16
        go_wp2_with (refine step_storeA wT rfl rfl rfl hg16 rfl (One.c4 _ _ _ _) rfl ?_)
        intro V2 hg2 hbut2
        have HB2 := hide (on_below HBV.out (hb16.trans (hbut2.below hle16)))
        have HG2 := hide hg2
        have hcell := HCELL.out _ HB2.out
        clear hg16 hle16 hb16 hg2 hbut2 HBV HB
        go_wp2_with fail
        refine (HAL.out m _ R1 (bA ss) (HR1.out.below HB2.out)).mono ?_
        rintro _ V3 ⟨rfl, hb3'⟩
        obtain ⟨c0, c1, c2, c3⟩ := (HG2.out.on hb3').four
        have HB3 := hide (on_below HB2.out hb3')
        clear hb3' hcell HB2 HG2
        generalize str (fl (play (trR H L rs (js.take m))) (bA ss)) = X
        obtain ⟨t, HTT⟩ : ∃ t, Hid ((play (trR H L rs (js.take m)) (bA ss)).isSome = t) := ⟨_, hide rfl⟩
        rw [HTT.out] at HPOS HNEG ⊢
        by_cases q1 : e = 0
        rotate_left
        · as_aux_lemma =>
          have HTN : Hid (TI wo V3 H L n (k + 1) (play (trR H L rs (js.take m))) R.l bz pz) := hide ⟨HNEG.out (fun hh9 => q1 hh9.1), HB3.out⟩
          go_wp2
          go_roundw
          case rel => exact ⟨k + 1, bz, pz, rfl, rfl, by go_num, by omega, HTN⟩
          case measure => simp only [intOf]; omega
        subst q1
        cases t
        · as_aux_lemma =>
          have HTN : Hid (TI wo V3 H L n (k + 1) (play (trR H L rs (js.take m))) R.l bz pz) := hide ⟨HNEG.out (fun hh9 => absurd hh9.2.1 (by decide)), HB3.out⟩
          go_wp2
          go_roundw
          case rel => exact ⟨k + 1, bz, pz, rfl, rfl, by go_num, by omega, HTN⟩
          case measure => simp only [intOf]; omega
        by_cases q3 : h' = (H : Int)
        rotate_left
        · as_aux_lemma =>
          have HTN : Hid (TI wo V3 H L n (k + 1) (play (trR H L rs (js.take m))) R.l bz pz) := hide ⟨HNEG.out (fun hh9 => q3 hh9.2.2.1), HB3.out⟩
          go_wp2
          go_roundw
          case rel => exact ⟨k + 1, bz, pz, rfl, rfl, by go_num, by omega, HTN⟩
          case measure => simp only [intOf]; omega
        by_cases q4 : l' = (L : Int)
        rotate_left
        · as_aux_lemma =>
          have HTN : Hid (TI wo V3 H L n (k + 1) (play (trR H L rs (js.take m))) R.l bz pz) := hide ⟨HNEG.out (fun hh9 => q4 hh9.2.2.2.1), HB3.out⟩
          go_wp2
          go_roundw
          case rel => exact ⟨k + 1, bz, pz, rfl, rfl, by go_num, by omega, HTN⟩
          case measure => simp only [intOf]; omega
        by_cases q5 : w' = (P : Int)
        rotate_left
        · as_aux_lemma =>
          have HTN : Hid (TI wo V3 H L n (k + 1) (play (trR H L rs (js.take m))) R.l bz pz) := hide ⟨HNEG.out (fun hh9 => q5 hh9.2.2.2.2.1), HB3.out⟩
          go_wp2
          go_roundw
          case rel => exact ⟨k + 1, bz, pz, rfl, rfl, by go_num, by omega, HTN⟩
          case measure => simp only [intOf]; omega
        have hwz := HTOK.out rfl q3 q4 q5
        subst q3 q4 q5
        obtain ⟨z, HZ⟩ : ∃ z, Hid (i' * (P : Int) = z) := ⟨_, hide rfl⟩
        rw [HZ.out] at hwz HPOS HNEG
        have hmz := HZ.out
        by_cases q6 : (n : Int) ≤ z
        rotate_left
        · as_aux_lemma =>
          have HTN : Hid (TI wo V3 H L n (k + 1) (play (trR H L rs (js.take m))) R.l bz pz) := hide ⟨HNEG.out (fun hh9 => q6 hh9.2.2.2.2.2.1), HB3.out⟩
          go_wp2
          go_roundw
          case rel => exact ⟨k + 1, bz, pz, rfl, rfl, by go_num, by omega, HTN⟩
          case measure => simp only [intOf]; omega
        by_cases q7 : bz < i'
        rotate_left
        · as_aux_lemma =>
          have HTN : Hid (TI wo V3 H L n (k + 1) (play (trR H L rs (js.take m))) R.l bz pz) := hide ⟨HNEG.out (fun hh9 => q7 hh9.2.2.2.2.2.2), HB3.out⟩
          go_wp2
          go_roundw
          case rel => exact ⟨k + 1, bz, pz, rfl, rfl, by go_num, by omega, HTN⟩
          case measure => simp only [intOf]; omega
        as_aux_lemma =>
        have HTN : Hid (TI wo V3 H L n (k + 1) (play (trR H L rs (js.take m))) R.l i' (k : Int)) := hide ⟨HPOS.out ⟨rfl, rfl, rfl, rfl, rfl, q6, q7⟩, HB3.out⟩
        go_wp2
        go_roundw
        case rel => exact ⟨k + 1, i', (k : Int), rfl, rfl, by go_num, by omega, HTN⟩
        case measure => simp only [intOf]; omega
      · as_aux_lemma =>
        have hlti : ¬ (k : Int) < (len : Int) := by omega
        have hbst := HT.out.bst
        have e9 : R.l.take k = R.l := List.take_of_length_le (by rw [HLN.out]; omega)
        rw [e9] at hbst
        have HBI := hide HT.out.bel
        rcases Bst.end HLS.out HI.out hbst with ⟨hle, rfl⟩ | ⟨q, j, hq, rfl, hj⟩
        · have hmj : m = js.length := by omega
          subst hmj
          clear hbst hle HT HROW HQ1
          have HOP2 := hide (RoP.pre HB3.out (RoP.post HOP.out HBI.out))
          have e8 : js.take js.length = js := List.take_of_length_le (Nat.le_refl _)
          rw [e8] at HOP2
          obtain ⟨R2, p1, p2, p3, p4⟩ := HOP2.out
          have HR2 := hide p1
          have HX2 := hide (And.intro p2 (And.intro p3 p4))
          clear p1 p2 p3 p4 HOP HX HR1 HBI HAL HRM
          have hcut := HCUT.out
          rw [HP.out] at hcut
          obtain ⟨hcut0, hcut1⟩ := hcut
          obtain ⟨Q, HQ⟩ : ∃ Q, Hid (n / P = Q) := ⟨_, hide rfl⟩
          obtain ⟨rr, HRR⟩ : ∃ rr, Hid (n % P = rr) := ⟨_, hide rfl⟩
          rw [HQ.out, HRR.out] at hcut0 hcut1
          have hP1 := hP.1
          have hP2 := hP.2
          have hdq : (n : Int).tdiv (P : Int) = (Q : Int) := by rw [← HQ.out]; exact (Int.ofNat_tdiv n P).symm
          have hrem : (n : Int).tmod (P : Int) = (rr : Int) := by rw [← HRR.out]; exact (Int.ofNat_tmod n P).symm
          have hQb : Q ≤ 1099511000000 := by rw [← HQ.out]; have := Nat.div_le_self n P; omega
          have hrb : rr ≤ 256 := by rw [← HRR.out]; have := Nat.mod_lt n (show 0 < P by omega); omega
          have hpne : ¬ (P : Int) = 0 := by omega
          have hnm := fun W : World => snameR_any (H : Int) (L : Int) (Q : Int) W
          rw [smP_nat] at hnm
          have hal := fun (W : World) (hW : RkAt W r s (trR H L rs js) R2) => all_any r s (trR H L rs js) R2 W hW (sN H L Q) (by have := HW9.out js.length; rw [e8] at this; omega)
          have hcu := fun (W : World) (k : Int) (hW : RkAt W r s (trR H L rs js) R2) => cutR_any r s (trR H L rs js) R2 W hW (sN H L Q) k (by have := HW9.out js.length; rw [e8] at this; omega)
          by_cases h0 : rr = 0
          · have e1 : trS H L n rs js = trR H L rs js := by unfold trS; rw [HP.out, HRR.out, if_pos h0]
            rw [hcut0 h0] at hal
            simp only [Option.isSome_none] at hal
            have HAL := hide hal
            have HNM := hide hnm
            have HE1 := hide e1
            generalize str (fl (play (trR H L rs js)) (sN H L Q)) = X at HAL
            generalize sN H L Q = nm at *
            obtain ⟨er, HER⟩ : ∃ er, Hid (smE (H : Int) (L : Int) (Q : Int) = er) := ⟨_, hide rfl⟩
            rw [HER.out] at HNM
            clear hcut0 hcut1 hcu hal hnm e1 h0 e8
            go_wp2_with fail
            refine (HNM.out _).mono ?_
            rintro _ w5 ⟨rfl, hb5⟩
            have HB5 := hide hb5
            clear hb5
            go_wp2_with fail
            refine (HAL.out _ (HR2.out.below HB5.out)).mono ?_
            rintro _ w6 ⟨rfl, hb6⟩
            have HB6 := hide (on_below HB5.out hb6)
            clear hb6 HNM HAL
            by_cases hz : er = 0
            · subst hz
              go_wp2
              go_ret
              exact ⟨rfl, by rw [HE1.out]; exact RoP.post HOP2.out HB6.out⟩
            · go_wp2
              go_ret
              exact ⟨rfl, by rw [HE1.out]; exact RoP.post HOP2.out HB6.out⟩
          · obtain ⟨g1, g2, g3, g4⟩ := hcut1 h0
            have e1 : trS H L n rs js = cuS (trR H L rs js) (sN H L Q) ((rr * 32 : Nat) : Int) := by unfold trS; rw [HP.out, HRR.out, HQ.out, if_neg h0]
            have er : smE (H : Int) (L : Int) (Q : Int) = 0 := by unfold smE; rw [smB_nat, if_pos g1]
            rw [er] at hnm
            rw [g2] at hal
            have hsz := str_size (fl (play (trR H L rs js)) (sN H L Q))
            have hfw := play_wt (trR H L rs js) (sN H L Q)
            have hfw2 : (fl (play (trR H L rs js)) (sN H L Q)).length ≤ 1099511000000 := by have := HW9.out js.length; rw [e8] at this; omega
            obtain ⟨ln, HLEN⟩ : ∃ ln, Hid ((fl (play (trR H L rs js)) (sN H L Q)).length = ln) := ⟨_, hide rfl⟩
            obtain ⟨K, HKK⟩ : ∃ K, Hid (rr * 32 = K) := ⟨_, hide rfl⟩
            have hmk : (32 : Int) * (rr : Int) = (K : Int) := by rw [← HKK.out]; omega
            have hK9 : K ≤ 8192 := by rw [← HKK.out]; omega
            have h3 : K ≤ ln := by rw [← HKK.out, ← HLEN.out]; omega
            rw [HKK.out] at e1 g4
            rw [HLEN.out] at hsz hfw2
            have HAL := hide hal
            have HNM := hide hnm
            have HE1 := hide e1
            by_cases hgt : K < ln
            · have hgti : (K : Int) < (ln : Int) := by omega
              have hcK := fun (W : World) (hW : RkAt W r s (trR H L rs js) R2) => hcu W (K : Int) hW
              rw [g4] at hcK
              have HCK := hide hcK
              generalize str (fl (play (trR H L rs js)) (sN H L Q)) = X at *
              obtain ⟨nm, HNN⟩ : ∃ nm, Hid (sN H L Q = nm) := ⟨_, hide rfl⟩
              rw [HNN.out] at HAL HNM HE1 HCK
              clear hcut0 hcut1 hcu hcK hal hnm e1 h0 e8 g1 g2 g3 g4 er hfw HLEN h3
              go_wp2_with fail
              refine (HNM.out _).mono ?_
              rintro _ w5 ⟨rfl, hb5⟩
              have HB5 := hide hb5
              clear hb5
              go_wp2_with fail
              refine (HAL.out _ (HR2.out.below HB5.out)).mono ?_
              rintro _ w6 ⟨rfl, hb6⟩
              have HB6 := hide (on_below HB5.out hb6)
              clear hb6 HNM HAL
              go_wp2_with fail
              refine (HCK.out _ (HR2.out.below HB6.out)).mono ?_
              rintro _ w7 ⟨rfl, hro⟩
              have HRO := hide (RoP.comp HX2.out.1 HX2.out.2.1 HX2.out.2.2 (RoP.pre HB6.out hro))
              clear hro
              go_wp2
              go_ret
              exact ⟨rfl, by rw [HE1.out]; exact HRO.out⟩
            · have hgti : ¬ (K : Int) < (ln : Int) := by omega
              have e2 : cuS (trR H L rs js) (sN H L Q) (K : Int) = trR H L rs js := cuS_none (by rw [HLEN.out]; exact hgti)
              rw [e2] at HE1
              generalize str (fl (play (trR H L rs js)) (sN H L Q)) = X at *
              obtain ⟨nm, HNN⟩ : ∃ nm, Hid (sN H L Q = nm) := ⟨_, hide rfl⟩
              rw [HNN.out] at HAL HNM
              clear hcut0 hcut1 hcu hal hnm e1 e2 h0 e8 g1 g2 g3 g4 er hfw HLEN
              go_wp2_with fail
              refine (HNM.out _).mono ?_
              rintro _ w5 ⟨rfl, hb5⟩
              have HB5 := hide hb5
              clear hb5
              go_wp2_with fail
              refine (HAL.out _ (HR2.out.below HB5.out)).mono ?_
              rintro _ w6 ⟨rfl, hb6⟩
              have HB6 := hide (on_below HB5.out hb6)
              clear hb6 HNM HAL
              go_wp2
              go_ret
              exact ⟨rfl, by rw [HE1.out]; exact RoP.post HOP2.out HB6.out⟩
        · have hjl : j < len := by
            have := (List.getElem?_eq_some_iff.1 hj).1
            rw [List.length_map, HLN.out] at this
            exact this
          have hjn : ¬ (j : Int) < 0 := by omega
          obtain ⟨g, cap, cs, e1, hg, hcs, hcl⟩ := row_at HROW.out (by omega)
          injection e1 with e1 e2 e3
          subst e1 e3
          have hix := vw_at rSt g len cp j hjl
          have hcell : wi.cell? ⟨g, j, none⟩ = some (.string (sN H L q)) := by
            rw [(hg.on HBI.out).cell]
            obtain ⟨y, hy1, hy2⟩ : ∃ y, R.l[j]? = some y ∧ y.1 = sN H L q := by
              rw [List.getElem?_map] at hj
              cases hy : R.l[j]? with
              | none => rw [hy] at hj; cases hj
              | some y => rw [hy] at hj; exact ⟨y, rfl, Option.some.inj hj⟩
            have h1 : (cs.take (len * 1))[j]? = some (.string y.1) := by
              rw [hcs]
              exact nmsC_at hy1
            rw [List.getElem?_take, if_pos (by omega), hy2] at h1
            exact h1
          have HRQ := hide (HRM.out m q wi R1 hq (HR1.out.below HBI.out))
          have hmlt : m < js.length := (List.getElem?_eq_some_iff.1 hq).1
          have hqn0 : qLenW r wo = rs.length + m := HQ1.out
          clear hbst hj hg hcs hcl HT hq
          go_wp2_with fail
          refine HRQ.out.mono ?_
          rintro _ w9 ⟨rfl, hro⟩
          have HOPN := hide (RoP.comp HX.out.1 HX.out.2.1 HX.out.2.2 (RoP.pre HBI.out hro))
          have hqn1 : qLenW r w9 = rs.length + (m + 1) := by
            obtain ⟨R9, r1, _⟩ := hro
            have := r1.qn
            rw [trR_len, List.length_take, Nat.min_eq_left (by omega)] at this
            exact this
          clear hro HRQ
          go_wp2
          go_roundw
          case rel => exact ⟨m + 1, by omega, HOPN⟩
          case measure => rw [hqn0, hqn1, ← HM.out]; omega
end Go.Proofs.YtlgcjdgcgnlcaaaGreatDoor

/-
  What the law's laid makes of its files, without any program.
-/
namespace Go.Proofs.YtlgcjdgcgnlcaaaGreatDoor
open Go.RowKit Go.Shelf
set_option linter.unusedVariables false
set_option linter.unusedSimpArgs false

theorem Sl.chs {S : Nat → Prop} {w w' : World} {a : Option Addr} {n c : Nat} {xs : List Int} (h : Sl w a n c xs) (hc : Chs S w w') (hn : 0 < n → ∀ x, a = some x → ¬ S x.block) : Sl w' a n c xs := by
  obtain ⟨h1, h2, h3, h4, h5, h6, h7⟩ := h
  refine ⟨h1, h2, h3, h4, h5, h6, fun h0 => ?_⟩
  obtain ⟨b, off, e, hce⟩ := h7 h0
  refine ⟨b, off, e, fun i hi => ?_⟩
  rw [World.cell?_of_block (w := w) (hc.block b (World.block_lt_of_cell? w _ (hce i hi)) (hn h0 ⟨b, off, none⟩ e))]
  exact hce i hi
/-- One leaf more. -/
theorem play_cr {rs : List Rw} {n : ByteArray} (h : crE rs n = 0) : play (crS rs n) = upd (play rs) n (some []) := by
  simp only [crS, h, if_true]
  rw [play_snoc, do_cr]
theorem play_ap {s : Nat} (hs : 1 ≤ s) {rs : List Rw} {n : ByteArray} {b : List Int} (hb : isB b) (h : fE rs n = 0) : play (apS s rs n b) = upd (play rs) n (some (fl (play rs) n ++ b)) := by
  by_cases hb0 : b = []
  · subst hb0
    have e : apS s rs n [] = rs := by simp [apS]
    have hn : (play rs n).isSome = true := by
      unfold fE at h
      split at h
      · split at h
        · assumption
        · cases h
      · cases h
    rw [e, List.append_nil]
    funext x
    unfold upd
    split
    · rename_i hx
      subst hx
      cases hp : play rs x with
      | none => rw [hp] at hn; cases hn
      | some y => simp [fl, hp]
    · rfl
  · have hn : nmB n = true := by
      unfold fE at h
      split at h
      · assumption
      · cases h
    obtain ⟨xs, hxs⟩ : ∃ xs, play rs n = some xs := by
      unfold fE at h
      rw [if_pos hn] at h
      split at h
      · rename_i hh
        exact Option.isSome_iff_exists.1 hh
      · cases h
    have e : apS s rs n b = rs ++ expd s ⟨rAp n b, rs.length, (fl (play rs) n).length⟩ := by
      simp only [apS, h]
      rw [if_pos ⟨trivial, hb0⟩]
    rw [e, play_app]
    have := (expd_does hs (f := play rs) (e := ⟨rAp n b, rs.length, (fl (play rs) n).length⟩) (.inr (.inl ⟨n, b, xs, rfl, hn, hxs, hb0, hb⟩)) rfl).1
    rw [this]
    exact do_ap _ _ _
/-- How much files that weigh m have made, of which there are k. -/
structure Lw (rs : List Rw) (m k : Nat) : Prop where
  len : ∀ n, (fl (play rs) n).length ≤ m
  cnt : ∃ l, FL (play rs) l ∧ l.length ≤ k
  wt : wt rs ≤ 2 * m
theorem Lw.nil : Lw [] 0 0 := ⟨fun n => by simp [play, fl], ⟨[], FL.nil, Nat.le_refl _⟩, by simp [Go.Proofs.YtlgcjdgcgnlcaaaGreatDoor.wt]⟩
theorem Lw.all {rs : List Rw} {m k : Nat} (h : Lw rs m k) : ∀ l, FL (play rs) l → l.length ≤ k := fun l hl => by
  obtain ⟨l0, h0, h1⟩ := h.cnt
  have := (FL.ext hl h0).2 rfl
  rw [this]
  exact h1
theorem fl_put {f : ByteArray → Option (List Int)} {l : List (ByteArray × List Int)} (h : FL f l) (n : ByteArray) (ys : List Int) : ∃ l', FL (upd f n (some ys)) l' ∧ l'.length ≤ l.length + 1 ∧ ((f n).isSome = true → l'.length ≤ l.length) := by
  obtain ⟨A, B, rfl, _, hA, h2⟩ := h.split n
  rcases h2 with ⟨hn, hB⟩ | ⟨xs, B', hn, rfl, hB⟩
  · exact ⟨_, h.put hA hB ys, by simp; omega, fun e => by rw [hn] at e; cases e⟩
  · exact ⟨_, h.set hA hB ys, by simp, fun _ => by simp⟩
theorem crS_no {rs : List Rw} {n : ByteArray} (h : crE rs n ≠ 0) : crS rs n = rs := by simp [crS, h]
theorem apS_no {s : Nat} {rs : List Rw} {n : ByteArray} {b : List Int} (h : fE rs n ≠ 0) : apS s rs n b = rs := by simp [apS, h]
theorem wt_crL (rs : List Rw) (n : ByteArray) : wt (crS rs n) ≤ wt rs + 1 := by
  unfold crS
  split
  · rw [wt_app]; simp [wt, rCr]
  · omega
theorem wt_apL {s : Nat} (hs : 1 ≤ s) (rs : List Rw) (n : ByteArray) (b : List Int) : wt (apS s rs n b) ≤ wt rs + 2 * b.length + 1 := by
  unfold apS
  split
  · rw [wt_app]
    have := expd_wt hs ⟨rAp n b, rs.length, (fl (play rs) n).length⟩
    have e : (rAp n b).b = b := rfl
    simp only [e] at this
    omega
  · omega
/-- One file more. -/
theorem Lw.add {s : Nat} (hs : 1 ≤ s) {rs : List Rw} {m k : Nat} (h : Lw rs m k) (n : ByteArray) {b : List Int} (hb : isB b) : Lw (apS s (crS rs n) n b) (m + (b.length + 3)) (k + 1) := by
  have w1 := wt_crL rs n
  have w2 := wt_apL hs (crS rs n) n b
  have hw := h.wt
  have h1 : (∀ x, (fl (play (crS rs n)) x).length ≤ m) ∧ ∃ l, FL (play (crS rs n)) l ∧ l.length ≤ k + 1 := by
    obtain ⟨l, hl, hk⟩ := h.cnt
    by_cases hc : crE rs n = 0
    · rw [play_cr hc]
      obtain ⟨l', h3, h4, _⟩ := fl_put hl n []
      refine ⟨fun x => ?_, l', h3, by omega⟩
      by_cases hx : x = n
      · subst hx
        simp [fl, upd_same]
      · have := h.len x
        simpa [fl, upd_ne _ _ hx] using this
    · rw [crS_no hc]
      exact ⟨h.len, l, hl, by omega⟩
  obtain ⟨h2, l, hl, hk⟩ := h1
  refine ⟨?_, ?_, by omega⟩
  · by_cases hf : fE (crS rs n) n = 0
    · rw [play_ap hs hb hf]
      intro x
      by_cases hx : x = n
      · subst hx
        have := h2 x
        simp only [fl, upd_same, List.length_append] at this ⊢
        simp only [Option.getD_some, List.length_append]
        omega
      · have := h2 x
        have e : fl (upd (play (crS rs n)) n (some (fl (play (crS rs n)) n ++ b))) x = fl (play (crS rs n)) x := by simp [fl, upd_ne _ _ hx]
        rw [e]
        omega
    · rw [apS_no hf]
      intro x
      have := h2 x
      omega
  · by_cases hf : fE (crS rs n) n = 0
    · rw [play_ap hs hb hf]
      obtain ⟨l', h3, _, h5⟩ := fl_put hl n (fl (play (crS rs n)) n ++ b)
      refine ⟨l', h3, ?_⟩
      have hsome : (play (crS rs n) n).isSome = true := by
        unfold fE at hf
        split at hf
        · split at hf
          · assumption
          · cases hf
        · cases hf
      have := h5 hsome
      omega
    · rw [apS_no hf]
      exact ⟨l, hl, hk⟩

end Go.Proofs.YtlgcjdgcgnlcaaaGreatDoor

/-
  How much acts can have made: files and raw writes.
-/
namespace Go.Proofs.YtlgcjdgcgnlcaaaGreatDoor
open Go.RowKit Go.Shelf
set_option linter.unusedVariables false
set_option linter.unusedSimpArgs false
set_option maxRecDepth 100000

theorem trS_some {H L n : Nat} {rs : List Rw} {js : List Nat} {c : Nat} (hF : Nmd (play rs)) (k : Cn (play rs) H L c) (hn : n ≤ c) (hi : TrI (play rs) H L n js) (x : ByteArray) : (play (trS H L n rs js) x).isSome = (play (trR H L rs js) x).isSome := by
  unfold trS
  split
  · rfl
  · rename_i h0
    obtain ⟨h1, h2, h3, h4⟩ := (trS_cut hF k hn hi).2 h0
    unfold cuS
    split
    · rw [play_snoc, do_cu]
      by_cases e : x = sN H L (n / 2 ^ H)
      · subst e
        rw [upd_same, h2]
        rfl
      · rw [upd_ne _ _ e]
    · rfl
/-- How many files there are, and how much the raw writes weigh. -/
def Fb (rs : List Rw) (f g : Nat) : Prop := ∃ l, FL (play rs) l ∧ l.length ≤ f ∧ wt rs + l.length ≤ g
theorem Fb.mono {rs : List Rw} {f g f' g' : Nat} (h : Fb rs f g) (h1 : f ≤ f') (h2 : g ≤ g') : Fb rs f' g' := by
  obtain ⟨l, a, b, c⟩ := h
  exact ⟨l, a, by omega, by omega⟩
theorem Fb.wt {rs : List Rw} {f g : Nat} (h : Fb rs f g) : Go.Proofs.YtlgcjdgcgnlcaaaGreatDoor.wt rs ≤ g := by
  obtain ⟨l, a, b, c⟩ := h
  omega
theorem Fb.all {rs : List Rw} {f g : Nat} (h : Fb rs f g) {l : List (ByteArray × List Int)} (hl : FL (play rs) l) : l.length ≤ f := by
  obtain ⟨l0, a, b, c⟩ := h
  have := (FL.ext hl a).2 rfl
  rw [this]
  exact b
theorem Fb.new {rs : List Rw} {m k : Nat} (h : Lw rs m k) : Fb rs k (2 * m + k) := by
  obtain ⟨l, h1, h2⟩ := h.cnt
  have := h.wt
  exact ⟨l, h1, h2, by omega⟩
theorem Fb.put {s : Nat} (hs : 1 ≤ s) {rs : List Rw} {f g : Nat} (hv : Val s (fun _ => none) rs) (h : Fb rs f g) (hh l i : Int) (n : Nat) {x : List Int} (hx : x.length = 32) (hxb : isB x) : Fb (puS s rs hh l i n x) (f + 1) (g + 67) := by
  unfold puS
  split
  · rename_i h0
    have he : smE hh l (i / 2 ^ hh.toNat) = 0 := by
      unfold puE at h0
      split at h0
      · split at h0
        · assumption
        · cases h0
      · cases h0
    obtain ⟨_, h2, h3⟩ := puW_play hs hv (smE_nm he) (x := x) (fun e => by rw [e] at hx; simp at hx) hxb
    obtain ⟨l0, a, b, c⟩ := h
    obtain ⟨l', g1, g2, _⟩ := fl_put a (bA (smP hh l (i / 2 ^ hh.toNat))) (fl (play rs) (bA (smP hh l (i / 2 ^ hh.toNat))) ++ x)
    exact ⟨l', by rw [h2]; exact g1, by omega, by omega⟩
  · exact h.mono (by omega) (by omega)
theorem Fb.trim {H L n c : Nat} {rs : List Rw} {js : List Nat} {f g : Nat} (hF : Nmd (play rs)) (k : Cn (play rs) H L c) (hn : n ≤ c) (hi : TrI (play rs) H L n js) (h : Fb rs f g) : Fb (trS H L n rs js) (f + 1) (g + 67) := by
  obtain ⟨l, a, b, cc⟩ := h
  obtain ⟨l', hl'⟩ := FL.play_ex (trS H L n rs js)
  have hsome := trS_some hF k hn hi
  have hmem : ∀ x, x ∈ l'.map (·.1) → (play (trR H L rs js) x).isSome = true := fun x hx => by
    obtain ⟨⟨m, xs⟩, h1, rfl⟩ := List.mem_map.1 hx
    have h2 := (hl'.mem m xs).2 h1
    rw [← hsome, h2]
    rfl
  have key := sub_len (l'.map (·.1) ++ js.map (sN H L)) (l.map (·.1)) (by
    refine List.nodup_append.2 ⟨hl'.nodup, ?_, ?_⟩
    · unfold List.Nodup
      rw [List.pairwise_map]
      refine List.Pairwise.imp_of_mem ?_ hi.desc
      intro x y hx hy hlt e
      have := (sN_inj ((hi.mem x).1 hx).1 e).2.2
      omega
    · intro x hx y hy e
      subst e
      have h1 := hmem x hx
      rw [(trR_play H L rs js x).1 hy] at h1
      cases h1) (fun x hx => by
    have hin : (play rs x).isSome = true := by
      rcases List.mem_append.1 hx with hx | hx
      · have h1 := hmem x hx
        by_cases hm : x ∈ js.map (sN H L)
        · rw [(trR_play H L rs js x).1 hm] at h1
          cases h1
        · rw [(trR_play H L rs js x).2 hm] at h1
          exact h1
      · obtain ⟨i, h1, rfl⟩ := List.mem_map.1 hx
        exact ((hi.mem i).1 h1).2.1
    obtain ⟨xs, hxs⟩ := Option.isSome_iff_exists.1 hin
    exact List.mem_map.2 ⟨_, (a.mem _ _).1 hxs, rfl⟩)
  rw [List.length_append, List.length_map, List.length_map, List.length_map] at key
  have hw := trS_wt H L n rs js
  exact ⟨l', hl', by omega, by omega⟩

/-! ### the program's Trim where it refuses -/
section
variable (d s : Nat) (rs : List Rw) (D : Dm) (w : World) (hd : DkAt w d s rs D)
include hd
set_option maxHeartbeats 1000000 in
theorem trim_bad (h l n : Int) (c : Nat) (hl : l ≤ 9223372036854775807) (ht : PT w) (hn : smE h l 0 = 0 → Cn (play rs) h.toNat l.toNat c) (hwt : wt rs ≤ 1099511000000) (hb : smE h l 0 = 0 → n < 0 ∨ (c : Int) < n) :
    Calls Tryz.prog 11 #[.pointer (some ⟨d, 0, none⟩), .int .i64 h, .int .i64 l, .int .i64 n] w fun e w' => e = .returned (.int .i64 (if smE h l 0 = 0 then 40 else 2)) ∧ Below w.heap.size w w' := by
  have HCU := hide (scount_any d s rs D w hd h l c hl ht hn hwt)
  by_cases he : smE h l 0 = 0
  · have hb := hb he
    rw [he] at HCU
    rw [if_pos he]
    simp only [if_true] at HCU
    by_cases h0 : n < 0
    · clear hd ht hn hb he hl
      go_enter Tryz.func11, Tryz.ntmps11
      go_wp2_with fail
      refine HCU.out.mono ?_
      rintro e w2 ⟨rfl, hb2⟩
      go_wp2
      go_ret
      exact ⟨rfl, hb2⟩
    · have h1 : (c : Int) < n := by omega
      clear hd ht hn hb he hl
      go_enter Tryz.func11, Tryz.ntmps11
      go_wp2_with fail
      refine HCU.out.mono ?_
      rintro e w2 ⟨rfl, hb2⟩
      go_wp2
      go_ret
      exact ⟨rfl, hb2⟩
  · have e2 := (lvl_bad he).2
    rw [if_neg he, e2] at HCU
    rw [if_neg he]
    clear hd ht hn hb he e2 hl
    go_enter Tryz.func11, Tryz.ntmps11
    go_wp2_with fail
    refine HCU.out.mono ?_
    rintro e w2 ⟨rfl, hb2⟩
    go_wp2
    go_ret
    exact ⟨rfl, hb2⟩
end

end Go.Proofs.YtlgcjdgcgnlcaaaGreatDoor

/-
  The two disks beside each other, in the law's laid.
-/
namespace Go.Proofs.YtlgcjdgcgnlcaaaGreatDoor
open Go.RowKit
set_option linter.unusedVariables false

theorem DkAt.chL {a b : World} {d s : Nat} {rs : List Rw} {D : Dm} {S : Nat → Prop} (h : DkAt a d s rs D) (hc : Chs S a b) (hn : ∀ k, D.own d k ∨ D.ro k → ¬ S k) : DkAt b d s rs D := h.same (fun k hk => hc.block k (h.lt hk) (hn k hk))
/-- All blocks that the two disks look at. -/
def Foot (d r : Nat) (D : Dm) (R : Rm) (k : Nat) : Prop := (D.own d k ∨ D.ro k) ∨ (R.own r k ∨ R.ro k)
/-- The program's disk and the document's, with the same raw writes, in memory of their own. -/
structure LP (w W : World) (d r s : Nat) (rs : List Rw) (D : Dm) (R : Rm) : Prop where
  dk : DkAt W d s rs D
  rk : RkAt W r s rs R
  ap : ∀ k, D.own d k ∨ D.ro k → ¬ (R.own r k ∨ R.ro k)
  lo : ∀ k, Foot d r D R k → w.heap.size ≤ k
  bel : Below w.heap.size w W
section
variable {w W W1 W2 : World} {d r s : Nat} {rs rs' : List Rw} {D : Dm} {R : Rm}
theorem LP.lt (h : LP w W d r s rs D R) {k : Nat} (hk : Foot d r D R k) : k < W.heap.size := hk.elim h.dk.lt h.rk.lt
theorem LP.on (h : LP w W d r s rs D R) (hb : Below W.heap.size W W1) : LP w W1 d r s rs D R := ⟨h.dk.below hb, h.rk.below hb, h.ap, h.lo, on_below h.bel hb⟩
/-- Behind the program's call the document's disk is as it was. -/
theorem LP.chs1 {S : Nat → Prop} (h : LP w W d r s rs D R) (hc : Chs S W W1) (hS : ∀ k, S k → D.own d k) : RkAt W1 r s rs R ∧ Below w.heap.size w W1 :=
  ⟨h.rk.chs hc (fun k hk hs => h.ap k (.inl (hS k hs)) hk), h.bel.trans (hc.below (fun k hk ho => by have := h.lo k (.inl (.inl (hS k ho))); omega) h.bel.size)⟩
theorem LP.op1 (h : LP w W d r s rs D R) (ho : OpR W W1 d s D rs') : RkAt W1 r s rs R ∧ Below w.heap.size w W1 := by
  obtain ⟨D', _, hc, _, _⟩ := ho
  exact h.chs1 hc (fun k hk => hk)
theorem LP.keep1 (h : LP w W d r s rs D R) (ho : OpR W W1 d s D rs') {g : Nat} {t : TypeId} {cs : List Value} (hg : Blk W g t cs) (hn : ¬ Foot d r D R g) : Blk W1 g t cs := by
  obtain ⟨D', _, hc, _, _⟩ := ho
  exact hg.chs hc (fun h => hn (.inl (.inl h)))
theorem LP.keep2 (hr : RoP W1 W2 r s R rs') {g : Nat} {t : TypeId} {cs : List Value} (hg : Blk W1 g t cs) (hn : ¬ Foot d r D R g) : Blk W2 g t cs := by
  obtain ⟨R', _, hc, _, _⟩ := hr
  exact hg.chs hc (fun h => hn (.inr (.inl h)))
/-- Both calls, one behind the other. -/
theorem LP.both (h : LP w W d r s rs D R) (ho : OpR W W1 d s D rs') (hr : RoP W1 W2 r s R rs') :
    ∃ D' R', LP w W2 d r s rs' D' R' ∧ ∀ k, Foot d r D' R' k → Foot d r D R k ∨ W.heap.size ≤ k := by
  have hb1 := (h.op1 ho).2
  obtain ⟨D', dk', ch1, own1, ro1⟩ := ho
  obtain ⟨R', rk', ch2, own2, ro2⟩ := hr
  have hs0 := h.bel.size
  have hs1 := ch1.size
  have fD : ∀ k, D'.own d k ∨ D'.ro k → (D.own d k ∨ D.ro k) ∨ W.heap.size ≤ k := fun k hk => by
    rcases hk with hk | hk
    · exact (own1 k hk).imp .inl id
    · exact (ro1 k hk).imp .inr id
  have fR : ∀ k, R'.own r k ∨ R'.ro k → (R.own r k ∨ R.ro k) ∨ W1.heap.size ≤ k := fun k hk => by
    rcases hk with hk | hk
    · exact (own2 k hk).imp .inl id
    · exact (ro2 k hk).imp .inr id
  have nR : ∀ k, D'.own d k ∨ D'.ro k → ¬ (R.own r k ∨ R.ro k) := fun k hk hR => by
    rcases fD k hk with e | e
    · exact h.ap k e hR
    · have := h.rk.lt hR; omega
  have ft : ∀ k, Foot d r D' R' k → Foot d r D R k ∨ W.heap.size ≤ k := fun k hk => by
    rcases hk with hk | hk
    · exact (fD k hk).imp .inl id
    · rcases fR k hk with e | e
      · exact .inl (.inr e)
      · exact .inr (by omega)
  refine ⟨D', R', ⟨dk'.chL ch2 (fun k hk hR => nR k hk (.inl hR)), rk', fun k hk hR => ?_, fun k hk => ?_, hb1.trans (ch2.below (fun k hk ho => by have := h.lo k (.inr (.inl ho)); omega) hb1.size)⟩, ft⟩
  · rcases fR k hR with e | e
    · exact nR k hk e
    · have := dk'.lt hk; omega
  · rcases ft k hk with e | e
    · exact h.lo k e
    · omega
theorem LP.new {m g : Nat} (h1 : 1 ≤ s) (h2 : s ≤ 4096) (hN : New0 w W1 d m s) (hR : RkAt W2 g s [] rm0) (hg : W1.heap.size ≤ g) (hb : Below W1.heap.size W1 W2) : LP w W2 d g s [] ⟨m, .slice none 0 0, [], []⟩ rm0 := by
  have dk := hN.dkAt h1 h2
  have hs := hN.bel.size
  have hr : ∀ k, rm0.own g k ∨ rm0.ro k → W1.heap.size ≤ k := fun k hk => by
    rcases hk with hk | ⟨x, hx, _⟩
    · exact rm0_own hg k hk
    · cases hx
  refine ⟨dk.below hb, hR, ?_, ?_, on_below hN.bel hb⟩
  · intro k hk hq
    have h3 := dk.lt hk
    have h4 := hr k hq
    omega
  · intro k hk
    rcases hk with (hk | ⟨x, hx, _⟩) | hk
    · exact hN.own k hk
    · cases hx
    · have := hr k hk; omega
end

end Go.Proofs.YtlgcjdgcgnlcaaaGreatDoor

/-
  The law's laid.
-/
namespace Go.Proofs.YtlgcjdgcgnlcaaaGreatDoor
open Go.RowKit Go.Shelf
set_option linter.unusedVariables false
set_option linter.unusedSimpArgs false
set_option maxRecDepth 100000

theorem wFw : Wide 74 2 := ⟨by kernel_rfl, by kernel_rfl⟩
theorem zFw : Zeroed 74 (fwC ByteArray.empty (.slice none 0 0)) := fun _ _ _ _ _ _ _ => by kernel_rfl
theorem fw_at (b o n cap i : Nat) (hi : i < n) (v : World) : (Instr.indexAt 22 (.slice (some ⟨b, o, none⟩) n cap) (.int .i64 (i : Int))).run Tryz.prog v = .ok (.pointer (some ⟨b, o + i * 2, none⟩)) v := by
  have hu : Tryz.prog.underlying 22 = some (.slice (Tryz.prog.elem 22)) := by kernel_rfl
  have he : Tryz.prog.elem 22 = 74 := by kernel_rfl
  have hz : ∀ v : World, (sizeOf 74).run Tryz.prog v = .ok 2 v := fun _ => by kernel_rfl
  rw [run_indexAt_slice v _ _ _ _ .i64 i hu, if_pos ⟨by omega, by omega⟩, he, hz]
  simp only [Result.andThen_ok, Int.toNat_natCast]
  rw [Addr.add_lit]
theorem sec14 (sec : Int) : ∃ s : Nat, wrap64 (1 + (wrap64 (sec.tmod 64 + 64)).tmod 64) = (s : Int) ∧ 1 ≤ s ∧ s ≤ 64 := by
  obtain ⟨c, h1, h2⟩ := mod_cutS sec 63 (by omega)
  have e : ((63 + 1 : Nat) : Int) = 64 := rfl
  rw [e] at h1
  rw [h1]
  exact ⟨c + 1, by unfold wrap64; omega, by omega, by omega⟩
/-- Beside the two disks: the world's own variable. -/
structure LV (w W : World) (b1 : Nat) (k : Int) (a : Option Addr) (n c : Nat) (d r s : Nat) (rs : List Rw) (D : Dm) (R : Rm) : Prop where
  pl : LP w W d r s rs D R
  c1 : Blk W b1 24 [.int .i64 k, .slice a n c]
  nf : ¬ Foot d r D R b1
section
variable {w W W1 W2 : World} {b1 : Nat} {k : Int} {a : Option Addr} {n c d r s : Nat} {rs rs' : List Rw} {D : Dm} {R : Rm}
theorem LV.on (h : LV w W b1 k a n c d r s rs D R) (hb : Below W.heap.size W W1) : LV w W1 b1 k a n c d r s rs D R := ⟨h.pl.on hb, h.c1.on hb, h.nf⟩
theorem LV.two (h : LV w W b1 k a n c d r s rs D R) : W.cell? ⟨b1, 0, none⟩ = some (.int .i64 k) ∧ W.cell? ⟨b1, 1, none⟩ = some (.slice a n c) := ⟨by rw [h.c1.cell]; rfl, by rw [h.c1.cell]; rfl⟩
theorem LV.both (h : LV w W b1 k a n c d r s rs D R) (ho : OpR W W1 d s D rs') (hr : RoP W1 W2 r s R rs') : ∃ D' R', LV w W2 b1 k a n c d r s rs' D' R' ∧ ∀ j, Foot d r D' R' j → Foot d r D R j ∨ W.heap.size ≤ j := by
  obtain ⟨D', R', hp, hf⟩ := h.pl.both ho hr
  refine ⟨D', R', ⟨hp, LP.keep2 hr (h.pl.keep1 ho h.c1 h.nf) h.nf, fun hb => ?_⟩, hf⟩
  rcases hf b1 hb with e | e
  · exact h.nf e
  · have := h.c1.lt; omega
end
set_option maxHeartbeats 4000000 in
theorem laid_any (sec : Int) (a : Option Addr) (n c : Nat) (L : List Fw) (w : World) (hL : Fws w a n c L) :
    Calls Tryz.prog 6 #[.agg #[.int .i64 sec, .slice a n c]] w fun e w' => ∃ s d r rs D R, e = .returned (.tuple #[.pointer (some ⟨d, 0, none⟩), .pointer (some ⟨r, 0, none⟩), .bool true]) ∧ 1 ≤ s ∧ s ≤ 64 ∧ LP w w' d r s rs D R ∧ Lw rs (fbulk L) L.length := by
  have HL := hide hL
  have hsum := hL.hsum
  have hlen := hL.hlen
  have hlf := len_fbulk L
  clear hL
  obtain ⟨s, hs, hs1, hs2⟩ := sec14 sec
  have HS := hide hs
  clear hs
  go_enter Tryz.func6, Tryz.ntmps6
  go_wp2_with (refine step_box (cs := [.int .i64 sec, .slice a n c]) rfl rfl ?_)
  intro w1 b1 hg1 hl1 hb1
  have d0 : w1.cell? ⟨b1, 0, none⟩ = some (.int .i64 sec) := by rw [hg1.cell]; rfl
  have G1 := hide hg1
  have B1 := hide hb1
  have LB1 := hide hl1
  clear hg1 hb1 hl1
  go_wp2_with fail
  rw [HS.out]
  refine (new_ok _ _ (by omega) (by omega)).mono ?_
  rintro e w2 ⟨d, m, rfl, hN⟩
  have HN := hide hN
  clear hN d0
  go_wp2_with fail
  refine (newR_ok s _ hs1 (by omega)).mono ?_
  rintro e w3 ⟨r, rfl, hR, hgR, hbR⟩
  have P0 : Hid (LV w w3 b1 sec a n c d r s [] ⟨m, .slice none 0 0, [], []⟩ rm0) := hide (by
    have hp := LP.new hs1 (by omega) HN.out hR hgR hbR
    have s0 := B1.out.size
    have hlt := G1.out.lt
    refine ⟨⟨hp.dk, hp.rk, hp.ap, fun k hk => by have := hp.lo k hk; omega, on_below B1.out hp.bel⟩, G1.out.on hp.bel, fun hf => ?_⟩
    have := hp.lo b1 hf
    omega)
  clear hR hgR hbR HN B1 G1
  go_wp2_with fail
  clear HS
  go_loopw [10] (fun i wr => ∃ (k : Nat) (rs : List Rw) (D : Dm) (R : Rm), i = .int .i64 (k : Int) ∧ k ≤ n ∧ Hid (Lw rs (fbulk (L.take k)) k) ∧ Hid (LV w wr b1 sec a n c d r s rs D R)) (fun i _ => n - (intOf i).toNat)
  case atStart => exact ⟨0, [], _, _, rfl, Nat.zero_le _, hide Lw.nil, P0⟩
  case round =>
    clear P0
    obtain ⟨k, rs, D, R, rfl, hkl, HLW, P⟩ := hrel
    obtain ⟨k0, k1⟩ := P.out.two
    have hkn : k ≤ 349525 := by omega
    have hnn : n ≤ 349525 := by omega
    by_cases hlt : k < n
    · have hlti : (k : Int) < (n : Int) := by omega
      obtain ⟨x, hx⟩ : ∃ x, L[k]? = some x := ⟨_, List.getElem?_eq_getElem (by omega)⟩
      obtain ⟨b0, o0, rfl, hrg⟩ := HL.out.hcell k x hx
      have hix := fw_at b0 o0 n c k hlt
      have HRG := hide (rangeAt_below hrg P.out.pl.bel)
      have HXI := hide ((HL.out.hin k x hx).below P.out.pl.bel)
      have HXO : Hid (∀ y, x.a = some y → x.xs ≠ [] → y.block < w.heap.size) := hide (fun y hy hne => by
        have h0 : 0 < x.l := by rw [← (HL.out.hin k x hx).hlen]; exact List.length_pos_iff.2 hne
        exact (HL.out.hin k x hx).lt h0 y hy)
      have HF1 : Hid (fbulk (L.take (k + 1)) = fbulk (L.take k) + (x.xs.length + 3) ∧ fbulk (L.take (k + 1)) ≤ 1048576) := hide (by
        have h1 := fbulk_succ L k x hx
        have h2 := fbulk_take L (k + 1)
        unfold Fw.bulk at h1
        exact ⟨h1, by omega⟩)
      have HW1 : Hid (wt rs + 2 * x.xs.length + 4 ≤ 4194304) := hide (by have h1 := HLW.out.wt; have h2 := HF1.out; omega)
      clear hrg hx hsum hlf hlen
      go_wp2_with (first | (refine step_loadR wFw rfl rfl x.cells HRG.out rfl ?_) | (refine step_alloc zFw rfl ?_))
      intro w8 g11 hr8 hl8 hb8
      go_wp2_with (refine step_storeA wFw rfl rfl rfl hr8 rfl (Fw.one _) rfl ?_)
      intro w9 hg9 hbut9
      have hb9 := hb8.trans (hbut9.below hl8)
      have P9 := hide (P.out.on hb9)
      have GX : Hid (Blk w9 g11 74 (fwC x.n (.slice x.a x.l x.c))) := hide hg9
      have NF : Hid (¬ Foot d r D R g11) := hide (fun h => by have := P.out.pl.lt h; omega)
      have X9 := hide (HXI.out.below hb9)
      clear hr8 hl8 hb8 hg9 hbut9 hb9 hix HRG P k0 k1 HXI
      obtain ⟨rs1, HR1⟩ : ∃ rs1, Hid (crS rs x.n = rs1) := ⟨_, hide rfl⟩
      have HWT1 : Hid (wt rs1 ≤ wt rs + 1) := hide (by rw [← HR1.out]; exact wt_crL rs x.n)
      have HLW2 : Hid (Lw (apS s rs1 x.n x.xs) (fbulk (L.take (k + 1))) (k + 1)) := hide (by
        rw [← HR1.out, HF1.out.1]
        exact HLW.out.add hs1 x.n X9.out.hbyte)
      have HC0 : Hid (∀ v : World, Blk v g11 74 (fwC x.n (.slice x.a x.l x.c)) → v.cell? ⟨g11, 0, none⟩ = some (.string x.n)) := hide (fun v hv => by rw [hv.cell]; rfl)
      have HC1 : Hid (∀ v : World, Blk v g11 74 (fwC x.n (.slice x.a x.l x.c)) → v.cell? ⟨g11, 1, none⟩ = some (.slice x.a x.l x.c)) := hide (fun v hv => by rw [hv.cell]; rfl)
      go_wp2_with fail
      refine wp_region_noPanic ?_
      have PD := hide (P9.out.on (Below.refl w9.heap.size w9).drew)
      have XD := hide (X9.out.below (Below.refl w9.heap.size w9).drew)
      refine wp_region_held_drew (S := fun v : World => Blk v g11 74 (fwC x.n (.slice x.a x.l x.c))) (by kernel_rfl) (GX.out.on (Below.refl w9.heap.size w9).drew) (fun hHeld => ?_)
      refine takeH 0 46 (.pointer (some ⟨d, 0, none⟩)) hHeld rfl rfl (by kernel_rfl) (by kernel_rfl) (by kernel_rfl) (fun _ _ _ h => h) (Or.inl ⟨by rfl, fun w _ => by go_simp⟩) ?_
      simp only [Act.put, List.setIfInBounds_toArray, List.set_cons_zero, List.set_cons_succ]
      refine takeH 1 47 (.pointer (some ⟨g11, 0, none⟩)) hHeld rfl rfl (by kernel_rfl) (by kernel_rfl) (by kernel_rfl) (fun _ _ _ h => h) (Or.inl ⟨by rfl, fun w _ => by go_simp⟩) ?_
      simp only [Act.put, List.setIfInBounds_toArray, List.set_cons_zero, List.set_cons_succ]
      refine takeH 2 48 (.string x.n) hHeld rfl rfl (by kernel_rfl) (by kernel_rfl) (by kernel_rfl) (fun _ _ _ h => h) (Or.inl ⟨by rfl, fun w hw => by have hw' : w.cell? ⟨g11, 0, none⟩ = some (.string x.n) := (HC0.out w) hw; go_simp⟩) ?_
      simp only [Act.put, List.setIfInBounds_toArray, List.set_cons_zero, List.set_cons_succ]
      refine takeH 4 50 (.pointer (some ⟨r, 0, none⟩)) hHeld rfl rfl (by kernel_rfl) (by kernel_rfl) (by kernel_rfl) (fun _ _ _ h => h) (Or.inl ⟨by rfl, fun w _ => by go_simp⟩) ?_
      simp only [Act.put, List.setIfInBounds_toArray, List.set_cons_zero, List.set_cons_succ]
      refine takeH 5 51 (.pointer (some ⟨g11, 0, none⟩)) hHeld rfl rfl (by kernel_rfl) (by kernel_rfl) (by kernel_rfl) (fun _ _ _ h => h) (Or.inl ⟨by rfl, fun w _ => by go_simp⟩) ?_
      simp only [Act.put, List.setIfInBounds_toArray, List.set_cons_zero, List.set_cons_succ]
      refine takeH 6 52 (.string x.n) hHeld rfl rfl (by kernel_rfl) (by kernel_rfl) (by kernel_rfl) (fun _ _ _ h => h) (Or.inl ⟨by rfl, fun w hw => by have hw' : w.cell? ⟨g11, 0, none⟩ = some (.string x.n) := (HC0.out w) hw; go_simp⟩) ?_
      simp only [Act.put, List.setIfInBounds_toArray, List.set_cons_zero, List.set_cons_succ]
      refine wpAnyH_ready (rs := [3]) (by kernel_rfl) (by simp) (AllReadyH.cons rfl (fun K hK => ?_) AllReadyH.nil)
      rw [if_pos (by rfl)]
      go_simp
      refine (create_any d s rs D _ PD.out.pl.dk x.n (by have := HW1.out; omega)).mono ?_
      rintro e wa ⟨rfl, hop⟩
      have HOP := hide hop
      have GA := hide (PD.out.pl.keep1 hop hHeld NF.out)
      clear hop
      refine hK.out _ _ GA.out (fun hHeld => ?_)
      clear hK K
      try simp only [Act.put, List.setIfInBounds_toArray, List.set_cons_zero, List.set_cons_succ]
      refine wpAnyH_ready (rs := [7]) (by kernel_rfl) (by simp) (AllReadyH.cons rfl (fun K hK => ?_) AllReadyH.nil)
      rw [if_pos (by rfl)]
      go_simp
      refine (createR_any r s rs R _ (PD.out.pl.op1 HOP.out).1 x.n (by have := HW1.out; omega)).mono ?_
      rintro e wb ⟨rfl, hrp⟩
      have GB := hide (LP.keep2 hrp GA.out NF.out)
      obtain ⟨D2, R2, hp2, hft⟩ := PD.out.both HOP.out hrp
      rw [HR1.out] at hp2
      have P2 := hide hp2
      have NF2 : Hid (¬ Foot d r D2 R2 g11) := hide (fun hf => by
        rcases hft g11 hf with e | e
        · exact NF.out e
        · have h1 := GX.out.lt
          have : w9.drew.heap.size = w9.heap.size := rfl
          omega)
      have X2 : Hid (Sl wb x.a x.l x.c x.xs) := hide (by
        obtain ⟨_, _, h1, _, _⟩ := HOP.out
        obtain ⟨_, _, h2, _, _⟩ := hrp
        have hnot : ∀ S : Nat → Prop, (∀ k, S k → w.heap.size ≤ k) → 0 < x.l → ∀ y, x.a = some y → ¬ S y.block := fun S hS h0 y hy hc => by
          have h3 := HXO.out y hy (by intro e; rw [← X9.out.hlen, e] at h0; cases h0)
          have h4 := hS _ hc
          omega
        exact (XD.out.chs h1 (hnot _ (fun k hk => PD.out.pl.lo k (.inl (.inl hk))))).chs h2 (hnot _ (fun k hk => PD.out.pl.lo k (.inr (.inl hk)))))
      clear hp2 hft HOP hrp PD XD GA X9 P9 GX
      refine hK.out _ _ GB.out (fun hHeld => ?_)
      clear hK K
      try simp only [Act.put, List.setIfInBounds_toArray, List.set_cons_zero, List.set_cons_succ]
      have hne0 : (crE rs x.n != crE rs x.n) = false := by simp
      refine takeH 8 54 (.bool false) hHeld rfl rfl (by kernel_rfl) (by kernel_rfl) (by kernel_rfl) (fun _ _ _ h => h) (Or.inl ⟨by rfl, fun w _ => by go_simp⟩) ?_
      simp only [Act.put, List.setIfInBounds_toArray, List.set_cons_zero, List.set_cons_succ]
      refine takeH 9 55 (.bool false) hHeld rfl rfl (by kernel_rfl) (by kernel_rfl) (by kernel_rfl) (fun _ _ _ h => h) (Or.inl ⟨by rfl, fun w _ => by go_simp⟩) ?_
      simp only [Act.put, List.setIfInBounds_toArray, List.set_cons_zero, List.set_cons_succ]
      refine takeH 10 56 (.pointer (some ⟨d, 0, none⟩)) hHeld rfl rfl (by kernel_rfl) (by kernel_rfl) (by kernel_rfl) (fun _ _ _ h => h) (Or.inl ⟨by rfl, fun w _ => by go_simp⟩) ?_
      simp only [Act.put, List.setIfInBounds_toArray, List.set_cons_zero, List.set_cons_succ]
      refine takeH 11 57 (.pointer (some ⟨g11, 0, none⟩)) hHeld rfl rfl (by kernel_rfl) (by kernel_rfl) (by kernel_rfl) (fun _ _ _ h => h) (Or.inl ⟨by rfl, fun w _ => by go_simp⟩) ?_
      simp only [Act.put, List.setIfInBounds_toArray, List.set_cons_zero, List.set_cons_succ]
      refine takeH 12 58 (.string x.n) hHeld rfl rfl (by kernel_rfl) (by kernel_rfl) (by kernel_rfl) (fun _ _ _ h => h) (Or.inl ⟨by rfl, fun w hw => by have hw' : w.cell? ⟨g11, 0, none⟩ = some (.string x.n) := (HC0.out w) hw; go_simp⟩) ?_
      simp only [Act.put, List.setIfInBounds_toArray, List.set_cons_zero, List.set_cons_succ]
      refine takeH 13 59 (.pointer (some ⟨g11, 1, none⟩)) hHeld rfl rfl (by kernel_rfl) (by kernel_rfl) (by kernel_rfl) (fun _ _ _ h => h) (Or.inl ⟨by rfl, fun w _ => by go_simp⟩) ?_
      simp only [Act.put, List.setIfInBounds_toArray, List.set_cons_zero, List.set_cons_succ]
      refine takeH 14 60 (.slice x.a x.l x.c) hHeld rfl rfl (by kernel_rfl) (by kernel_rfl) (by kernel_rfl) (fun _ _ _ h => h) (Or.inl ⟨by rfl, fun w hw => by have hw' : w.cell? ⟨g11, 1, none⟩ = some (.slice x.a x.l x.c) := (HC1.out w) hw; go_simp⟩) ?_
      simp only [Act.put, List.setIfInBounds_toArray, List.set_cons_zero, List.set_cons_succ]
      refine takeH 16 62 (.pointer (some ⟨r, 0, none⟩)) hHeld rfl rfl (by kernel_rfl) (by kernel_rfl) (by kernel_rfl) (fun _ _ _ h => h) (Or.inl ⟨by rfl, fun w _ => by go_simp⟩) ?_
      simp only [Act.put, List.setIfInBounds_toArray, List.set_cons_zero, List.set_cons_succ]
      refine takeH 17 63 (.pointer (some ⟨g11, 0, none⟩)) hHeld rfl rfl (by kernel_rfl) (by kernel_rfl) (by kernel_rfl) (fun _ _ _ h => h) (Or.inl ⟨by rfl, fun w _ => by go_simp⟩) ?_
      simp only [Act.put, List.setIfInBounds_toArray, List.set_cons_zero, List.set_cons_succ]
      refine takeH 18 64 (.string x.n) hHeld rfl rfl (by kernel_rfl) (by kernel_rfl) (by kernel_rfl) (fun _ _ _ h => h) (Or.inl ⟨by rfl, fun w hw => by have hw' : w.cell? ⟨g11, 0, none⟩ = some (.string x.n) := (HC0.out w) hw; go_simp⟩) ?_
      simp only [Act.put, List.setIfInBounds_toArray, List.set_cons_zero, List.set_cons_succ]
      refine takeH 19 65 (.pointer (some ⟨g11, 1, none⟩)) hHeld rfl rfl (by kernel_rfl) (by kernel_rfl) (by kernel_rfl) (fun _ _ _ h => h) (Or.inl ⟨by rfl, fun w _ => by go_simp⟩) ?_
      simp only [Act.put, List.setIfInBounds_toArray, List.set_cons_zero, List.set_cons_succ]
      refine takeH 20 66 (.slice x.a x.l x.c) hHeld rfl rfl (by kernel_rfl) (by kernel_rfl) (by kernel_rfl) (fun _ _ _ h => h) (Or.inl ⟨by rfl, fun w hw => by have hw' : w.cell? ⟨g11, 1, none⟩ = some (.slice x.a x.l x.c) := (HC1.out w) hw; go_simp⟩) ?_
      simp only [Act.put, List.setIfInBounds_toArray, List.set_cons_zero, List.set_cons_succ]
      refine wpAnyH_ready (rs := [15]) (by kernel_rfl) (by simp) (AllReadyH.cons rfl (fun K hK => ?_) AllReadyH.nil)
      rw [if_pos (by rfl)]
      go_simp
      refine (append_any d s rs1 D2 _ P2.out.pl.dk x.n _ _ _ x.xs X2.out (by have := HW1.out; have := HWT1.out; omega)).mono ?_
      rintro e wc ⟨rfl, hop⟩
      have HOP := hide hop
      have GC := hide (P2.out.pl.keep1 hop hHeld NF2.out)
      have X3 : Hid (Sl wc x.a x.l x.c x.xs) := hide (by
        obtain ⟨_, _, h1, _, _⟩ := hop
        refine X2.out.chs h1 (fun h0 y hy hc => ?_)
        have h3 := HXO.out y hy (by intro e; rw [← X2.out.hlen, e] at h0; cases h0)
        have h4 := P2.out.pl.lo _ (.inl (.inl hc))
        omega)
      have HOFF : Hid (x.xs ≠ [] → ∀ y, x.a = some y → ¬ R2.own r y.block ∧ y.block < wc.heap.size) := hide (fun hne y hy => by
        have h3 := HXO.out y hy hne
        refine ⟨fun hc => by have := P2.out.pl.lo _ (.inr (.inl hc)); omega, ?_⟩
        have := (P2.out.pl.op1 hop).2.size
        omega)
      clear hop
      refine hK.out _ _ GC.out (fun hHeld => ?_)
      clear hK K
      try simp only [Act.put, List.setIfInBounds_toArray, List.set_cons_zero, List.set_cons_succ]
      refine wpAnyH_ready (rs := [21]) (by kernel_rfl) (by simp) (AllReadyH.cons rfl (fun K hK => ?_) AllReadyH.nil)
      rw [if_pos (by rfl)]
      go_simp
      refine (appendR_any r s rs1 R2 _ (P2.out.pl.op1 HOP.out).1 x.n _ _ _ x.xs X3.out HOFF.out (by have := HW1.out; have := HWT1.out; omega)).mono ?_
      rintro e wd ⟨rfl, hrp⟩
      have GD := hide (LP.keep2 hrp GC.out NF2.out)
      obtain ⟨D3, R3, hp3, _⟩ := P2.out.both HOP.out hrp
      have P3 := hide hp3
      clear hp3 HOP hrp GC X2 X3 HOFF P2
      refine hK.out _ _ GD.out (fun hHeld => ?_)
      clear hK K
      try simp only [Act.put, List.setIfInBounds_toArray, List.set_cons_zero, List.set_cons_succ]
      refine takeH 22 68 (.bool false) hHeld rfl rfl (by kernel_rfl) (by kernel_rfl) (by kernel_rfl) (fun _ _ _ h => h) (Or.inl ⟨by rfl, fun w _ => by go_simp⟩) ?_
      simp only [Act.put, List.setIfInBounds_toArray, List.set_cons_zero, List.set_cons_succ]
      refine takeH 23 69 (.bool false) hHeld rfl rfl (by kernel_rfl) (by kernel_rfl) (by kernel_rfl) (fun _ _ _ h => h) (Or.inl ⟨by rfl, fun w _ => by go_simp⟩) ?_
      simp only [Act.put, List.setIfInBounds_toArray, List.set_cons_zero, List.set_cons_succ]
      refine wpAnyH_done (by kernel_rfl) ?_ _
      refine NoPanic.normal ?_
      clear hHeld GB GD HC0 HC1 NF NF2
      go_wp2
      go_roundw
      case rel => exact ⟨k + 1, _, D3, R3, by go_num, by omega, HLW2, P3⟩
      case measure => simp [intOf]; omega
    · have hlti : ¬ (k : Int) < (n : Int) := by omega
      obtain rfl : k = n := by omega
      have HLF : Hid (Lw rs (fbulk L) L.length) := hide (by
        have := HLW.out
        rw [List.take_of_length_le (by omega)] at this
        rwa [hlen])
      have HWB : Hid (wt rs ≤ 1000000000000) := hide (by have h1 := HLF.out.wt; omega)
      clear hlf
      go_wp2_with fail
      refine (disks_any d r s rs D R _ P.out.pl.dk P.out.pl.rk HWB.out).mono ?_
      rintro e w4 ⟨rfl, hb4⟩
      have P4 := hide (P.out.on hb4)
      clear hb4 k0 k1 P
      go_wp2
      go_ret3
      exact ⟨s, d, r, rs, D, R, rfl, hs1, hs2, P4.out.pl, HLF.out⟩

end Go.Proofs.YtlgcjdgcgnlcaaaGreatDoor

/-
  The walk of ShelfPlays.
-/
namespace Go.Proofs.YtlgcjdgcgnlcaaaGreatDoor
open Go.RowKit Go.Shelf
set_option linter.unusedVariables false
set_option linter.unusedSimpArgs false
set_option maxRecDepth 100000

theorem wWd4 : Wide 24 2 := ⟨by kernel_rfl, by kernel_rfl⟩
theorem wAs : Wide 34 38 := ⟨by kernel_rfl, by kernel_rfl⟩
theorem zAs : Zeroed 34 (asC 0 0 0 0 false (zer 32) 0) := fun _ _ _ _ _ _ _ => by kernel_rfl
theorem as_at (b o n cap i : Nat) (hi : i < n) (v : World) : (Instr.indexAt 25 (.slice (some ⟨b, o, none⟩) n cap) (.int .i64 (i : Int))).run Tryz.prog v = .ok (.pointer (some ⟨b, o + i * 38, none⟩)) v := by
  have hu : Tryz.prog.underlying 25 = some (.slice (Tryz.prog.elem 25)) := by kernel_rfl
  have he : Tryz.prog.elem 25 = 34 := by kernel_rfl
  have hz : ∀ v : World, (sizeOf 34).run Tryz.prog v = .ok 38 v := fun _ => by kernel_rfl
  rw [run_indexAt_slice v _ _ _ _ .i64 i hu, if_pos ⟨by omega, by omega⟩, he, hz]
  simp only [Result.andThen_ok, Int.toNat_natCast]
  rw [Addr.add_lit]
theorem asC_len (k h l i : Int) (b : Bool) (x : List Int) (wd : Int) (hx : x.length = 32) : (asC k h l i b x wd).length = 38 := by
  unfold asC
  simp [u8s_length, hx]
theorem as_one (k h l i : Int) (b : Bool) (x : List Int) (wd : Int) : One (asC k h l i b x wd) := by
  intro v hv
  unfold asC at hv
  rcases List.mem_append.1 hv with hv | hv
  · rcases List.mem_append.1 hv with hv | hv
    · simp at hv
      rcases hv with rfl | rfl | rfl | rfl | rfl <;> rfl
    · exact One.u8 _ v hv
  · simp at hv
    subst hv
    rfl
theorem asC_set (k h l i j : Int) (b : Bool) (x : List Int) (wd : Int) : (asC k h l i b x wd).set 3 (.int .i64 j) = asC k h l j b x wd := rfl
theorem names14_anyS (w : World) : Calls Tryz.prog 7 #[] w fun e w' => e = .returned (.bool true) ∧ w' = w := by
  go_enter Tryz.func7, Tryz.ntmps7
  go_wp2
  go_ret
  exact ⟨rfl, rfl⟩
theorem TrI.lenS {F : ByteArray → Option (List Int)} {H L n : Nat} {is : List Nat} {l : List (ByteArray × List Int)} (hl : FL F l) (h : TrI F H L n is) : is.length ≤ l.length := by
  have key := sub_len (is.map (sN H L)) (l.map (·.1)) (by
    unfold List.Nodup
    rw [List.pairwise_map]
    refine List.Pairwise.imp_of_mem ?_ h.desc
    intro x y hx hy hlt e
    have := (sN_inj ((h.mem x).1 hx).1 e).2.2
    omega) (fun x hx => by
    obtain ⟨i, h1, rfl⟩ := List.mem_map.1 hx
    obtain ⟨xs, hxs⟩ := Option.isSome_iff_exists.1 ((h.mem i).1 h1).2.1
    exact List.mem_map.2 ⟨_, (hl.mem _ _).1 hxs, rfl⟩)
  simpa using key
theorem trims_any {w W : World} {d r s : Nat} {rs : List Rw} {D : Dm} {R : Rm} (hp : LP w W d r s rs D R) (he : EV w) (h l i : Int) (hl : l ≤ 9223372036854775807) {f g : Nat} (hfb : Fb rs f g) (hf : f ≤ 900000) (hg : g ≤ 20000000) :
    ∃ E : Int, Calls Tryz.prog 11 #[.pointer (some ⟨d, 0, none⟩), .int .i64 h, .int .i64 l, .int .i64 i] W fun e w' => e = .returned (.int .i64 E) ∧ ∃ rs', OpR W w' d s D rs' ∧ Fb rs' (f + 1) (g + 67) ∧
      ∀ W', RkAt W' r s rs R → Calls Tryz.prog 12 #[.pointer (some ⟨r, 0, none⟩), .int .i64 h, .int .i64 l, .int .i64 i] W' fun e w'' => e = .returned (.int .i64 E) ∧ RoP W' w'' r s R rs' := by
  have hwt := hfb.wt
  have hpt : PT W := (he.below hp.bel).pt
  have hF := Nmd.play hp.dk.valS
  obtain ⟨c, hcn⟩ : ∃ m, smE h l 0 = 0 → Cn (play rs) h.toNat l.toNat m := by
    obtain ⟨m, hm⟩ := Cn.have hF h.toNat l.toNat
    exact ⟨m, fun _ => hm⟩
  by_cases hok : smE h l 0 = 0 ∧ 0 ≤ i ∧ i ≤ (c : Int)
  · obtain ⟨h0, h1, h2⟩ := hok
    obtain ⟨H, L, rfl, rfl, hh, hL, hv, hb⟩ := lvl_nat h0
    obtain ⟨n, rfl⟩ : ∃ n : Nat, i = (n : Int) := ⟨i.toNat, by omega⟩
    have hc := hcn h0
    simp only [Int.toNat_natCast] at hc
    have hnw := hc.wt hp.dk.valS
    obtain ⟨ls, hls⟩ := FL.play_ex rs
    have hlf := hfb.all hls
    refine ⟨0, (trim_ok d s rs D ls H L c n w W he hp.bel (fun k hk => hp.lo k (.inl (.inl hk))) hp.dk hls hv hc (by omega) (by omega) (by omega) (by omega)).mono ?_⟩
    rintro e w' ⟨is, hi, rfl, ho⟩
    have e1 := tmE_ok hF hc (by omega) hi
    have hil := hi.lenS hls
    refine ⟨by rw [e1], _, ho, Fb.trim hF hc (by omega) hi hfb, fun W' hW' => ?_⟩
    exact trimL_ok r s rs R W' hW' H L c n is hv hc (by omega) hi (by omega)
  · refine ⟨(if smE h l 0 = 0 then 40 else 2), (trim_bad d s rs D W hp.dk h l i c hl hpt hcn (by omega) (fun h0 => ?_)).mono ?_⟩
    · apply Classical.byContradiction
      intro hno
      exact hok ⟨h0, by omega, by omega⟩
    · rintro e w' ⟨rfl, hb⟩
      refine ⟨rfl, rs, OpR.below hp.dk hb, hfb.mono (by omega) (by omega), fun W' hW' => ?_⟩
      refine (trimL_bad r s rs R W' hW' h l i c hcn (by omega) (fun h0 => ?_)).mono ?_
      · apply Classical.byContradiction
        intro hno
        exact hok ⟨h0, by omega, by omega⟩
      · rintro e w'' ⟨rfl, hb2⟩
        exact ⟨rfl, RoP.below hW' hb2⟩
/-- An act, beside both disks. -/
structure PA (w W : World) (d r s : Nat) (rs : List Rw) (D : Dm) (R : Rm) (b : Nat) (cs : List Value) : Prop where
  pl : LP w W d r s rs D R
  blk : Blk W b 34 cs
  nf : ¬ Foot d r D R b
  lo : w.heap.size ≤ b
section
variable {w W W1 W2 : World} {d r s : Nat} {rs rs' : List Rw} {D : Dm} {R : Rm} {b : Nat} {cs : List Value}
theorem PA.on (h : PA w W d r s rs D R b cs) (hb : Below W.heap.size W W1) : PA w W1 d r s rs D R b cs := ⟨h.pl.on hb, h.blk.on hb, h.nf, h.lo⟩
theorem PA.mid (h : PA w W d r s rs D R b cs) (h1 : OpR W W1 d s D rs') : Blk W1 b 34 cs := h.pl.keep1 h1 h.blk h.nf
theorem PA.both (h : PA w W d r s rs D R b cs) (h1 : OpR W W1 d s D rs') (h2 : RoP W1 W2 r s R rs') : ∃ D' R', PA w W2 d r s rs' D' R' b cs := by
  obtain ⟨D', R', hp, hf⟩ := h.pl.both h1 h2
  refine ⟨D', R', hp, LP.keep2 h2 (h.mid h1) h.nf, fun hb => ?_, h.lo⟩
  rcases hf b hb with e | e
  · exact h.nf e
  · have := h.blk.lt; omega
theorem PA.set (h : PA w W d r s rs D R b cs) (k : Nat) (v : Value) : PA w (W.setCell ⟨b, k, none⟩ v) d r s rs D R b (cs.set k v) := by
  have hbut := But.setCell W b k v
  refine ⟨⟨h.pl.dk.same (fun j hj => hbut.block j (fun e => h.nf (e ▸ .inl hj))), h.pl.rk.same (fun j hj => hbut.block j (fun e => h.nf (e ▸ .inr hj))), h.pl.ap, h.pl.lo, h.pl.bel.trans (hbut.below h.lo)⟩, h.blk.set k v, h.nf, h.lo⟩
end
set_option maxHeartbeats 8000000 in
theorem splays_walk (sec : Int) (a : Option Addr) (n c : Nat) (L : List Fw) (a1 : Option Addr) (n1 c1 : Nat) (A : List As) (w : World) (hL : Fws w a n c L) (hA : Ass w a1 n1 c1 A) (h6 : 6 * A.length ≤ 1048576) (he : EV w) :
    Calls Tryz.prog 3 #[.agg #[.int .i64 sec, .slice a n c], .slice a1 n1 c1] w fun e w' => e = .returned (.bool true) ∧ Below w.heap.size w w' := by
  have HL := hide hL
  have HA := hide hA
  have HE := hide he
  have HFL : Hid (fbulk L ≤ 1048576 ∧ 3 * L.length ≤ fbulk L) := hide ⟨hL.hsum, len_fbulk L⟩
  have hn1 : 6 * n1 ≤ 1048576 := by rw [← hA.hlen]; exact h6
  have HPT : Hid (∀ W : World, Below w.heap.size w W → PT W) := hide (fun W hW => (he.below hW).pt)
  clear hL hA he h6
  go_enter Tryz.func3, Tryz.ntmps3
  go_wp2_with (first | (refine step_box (cs := [.int .i64 sec, .slice a n c]) rfl rfl ?_))
  intro w1 b1 hg1 hl1 hb1
  have RG : Hid (w1.rangeAt b1 0 [.int .i64 sec, .slice a n c]) := hide (hg1.range 0 _ rfl)
  have B1 := hide hb1
  clear hg1 hl1 hb1
  go_wp2_with (refine step_loadR wWd4 rfl rfl [.int .i64 sec, .slice a n c] RG.out rfl ?_)
  go_wp2_with fail
  refine (laid_any sec a n c L w1 (HL.out.below B1.out)).mono ?_
  rintro e w2 ⟨s, d, r, rs, D, R, rfl, hs1, hs2, hp, hlw⟩
  have P0 : Hid (LP w w2 d r s rs D R) := hide ⟨hp.dk, hp.rk, hp.ap, fun k hk => Nat.le_trans B1.out.size (hp.lo k hk), on_below B1.out hp.bel⟩
  have F0 := hide (Fb.new hlw)
  clear hp hlw RG
  go_wp2_with fail
  refine (names14_anyS _).mono ?_
  rintro e w2 ⟨rfl, rfl⟩
  go_wp2_with fail
  go_loopw [8] (fun i wr => ∃ (k : Nat) (rs : List Rw) (D : Dm) (R : Rm), i = .int .i64 (k : Int) ∧ k ≤ n1 ∧ Hid (LP w wr d r s rs D R) ∧ Hid (Fb rs (L.length + k) (2 * fbulk L + L.length + 67 * k))) (fun i _ => n1 - (intOf i).toNat)
  case atStart => exact ⟨0, rs, D, R, rfl, Nat.zero_le _, P0, F0⟩
  case round =>
    clear P0 F0
    obtain ⟨k, rs, D, R, rfl, hkl, P, HFB⟩ := hrel
    have hlenA := HA.out.hlen
    by_cases hlt : k < n1
    · have hlti : (k : Int) < (n1 : Int) := by omega
      obtain ⟨x, hx⟩ : ∃ x, A[k]? = some x := ⟨_, List.getElem?_eq_getElem (by omega)⟩
      obtain ⟨b0, o0, rfl, hrg⟩ := HA.out.hcell k x hx
      have hix := as_at b0 o0 n1 c1 k hlt
      have HRG := hide (rangeAt_below hrg P.out.bel)
      have HXI := hide (HA.out.hin k x hx)
      have HCL : Hid (x.cells.length = 38) := hide (asC_len _ _ _ _ _ _ _ HXI.out.len)
      have HWT : Hid (wt rs ≤ 20000000) := hide (by have h1 := HFB.out.wt; have h2 := HFL.out; omega)
      have HVAL := hide P.out.dk.valS
      have hcn : ∃ m, smE x.h x.l 0 = 0 → Cn (play rs) x.h.toNat x.l.toNat m := by
        obtain ⟨m, hm⟩ := Cn.have (Nmd.play HVAL.out) x.h.toNat x.l.toNat
        exact ⟨m, fun _ => hm⟩
      obtain ⟨m, hm⟩ := hcn
      have HCN := hide hm
      have HI1 : Hid ((Tryz.prog.info? 32).map (·.size) = some (u8s x.x).length) := hide (by rw [wDs.size, u8s_length, HXI.out.len])
      clear hrg hx hlenA hm
      go_wp2_with (first | (refine step_loadR wAs rfl rfl x.cells HRG.out HCL.out ?_) | (refine step_alloc zAs rfl ?_))
      intro w8 g10 hr8 hl8 hb8
      go_wp2_with (refine step_storeA wAs rfl rfl rfl hr8 HCL.out (as_one _ _ _ _ _ _ _) rfl ?_)
      intro w9 hg9 hbut9
      have hb9 := hb8.trans (hbut9.below hl8)
      have P9 : Hid (PA w w9 d r s rs D R g10 (asC x.k x.h x.l x.i x.b x.x x.wd)) := hide ⟨P.out.on hb9, hg9, fun h => by have := P.out.lt h; omega, Nat.le_trans P.out.bel.size hl8⟩
      clear hr8 hl8 hb8 hg9 hbut9 hb9 hix HRG P HCL
      obtain ⟨kd, HKD⟩ : ∃ kd, Hid (x.k = kd) := ⟨_, hide rfl⟩
      rw [HKD.out] at P9
      have c0 : w9.cell? ⟨g10, 0, none⟩ = some (.int .i64 kd) := by rw [P9.out.blk.cell]; rfl
      go_upto_block 2 with fail
      go_cut [10, 11, 12, 13, 14] from 39 to 124 (fun _ _ _ _ _ W => ∃ (rs : List Rw) (D : Dm) (R : Rm) (i : Int), Hid (PA w W d r s rs D R g10 (asC kd x.h x.l i x.b x.x x.wd)) ∧ Hid (Fb rs (L.length + (k + 1)) (2 * fbulk L + L.length + 67 * (k + 1))))
      case first =>
        clear c0
        by_cases h0 : kd = 0
        · subst h0
          as_aux_lemma =>
          obtain ⟨xb, HXB⟩ : ∃ xb, Hid (x.b = xb) := ⟨_, hide rfl⟩
          have c4 : w9.cell? ⟨g10, 4, none⟩ = some (.bool xb) := by rw [P9.out.blk.cell, ← HXB.out]; rfl
          cases xb
          · go_wp2_with fail
            clear c4
            refine wp_region_noPanic ?_
            have PD := hide (P9.out.on (Below.refl w9.heap.size w9).drew)
            refine wp_region_held_drew (S := fun v : World => Blk v g10 34 (asC 0 x.h x.l x.i x.b x.x x.wd)) (by kernel_rfl) PD.out.blk (fun hHeld => ?_)
            refine takeH 0 53 (.pointer (some ⟨d, 0, none⟩)) hHeld rfl rfl (by kernel_rfl) (by kernel_rfl) (by kernel_rfl) (fun _ _ _ h => h) (Or.inl ⟨by rfl, fun w _ => by go_simp⟩) ?_
            simp only [Act.put, List.setIfInBounds_toArray, List.set_cons_zero, List.set_cons_succ]
            refine takeH 1 54 (.pointer (some ⟨g10, 1, none⟩)) hHeld rfl rfl (by kernel_rfl) (by kernel_rfl) (by kernel_rfl) (fun _ _ _ h => h) (Or.inl ⟨by rfl, fun w _ => by go_simp⟩) ?_
            simp only [Act.put, List.setIfInBounds_toArray, List.set_cons_zero, List.set_cons_succ]
            refine takeH 2 55 (.int .i64 x.h) hHeld rfl rfl (by kernel_rfl) (by kernel_rfl) (by kernel_rfl) (fun _ _ _ h => h) (Or.inl ⟨by rfl, fun w hw => by have hw' : w.cell? ⟨g10, 1, none⟩ = some (.int .i64 x.h) := (fun hw => by rw [Blk.cell hw]; rfl) hw; go_simp⟩) ?_
            simp only [Act.put, List.setIfInBounds_toArray, List.set_cons_zero, List.set_cons_succ]
            refine takeH 3 56 (.pointer (some ⟨g10, 2, none⟩)) hHeld rfl rfl (by kernel_rfl) (by kernel_rfl) (by kernel_rfl) (fun _ _ _ h => h) (Or.inl ⟨by rfl, fun w _ => by go_simp⟩) ?_
            simp only [Act.put, List.setIfInBounds_toArray, List.set_cons_zero, List.set_cons_succ]
            refine takeH 4 57 (.int .i64 x.l) hHeld rfl rfl (by kernel_rfl) (by kernel_rfl) (by kernel_rfl) (fun _ _ _ h => h) (Or.inl ⟨by rfl, fun w hw => by have hw' : w.cell? ⟨g10, 2, none⟩ = some (.int .i64 x.l) := (fun hw => by rw [Blk.cell hw]; rfl) hw; go_simp⟩) ?_
            simp only [Act.put, List.setIfInBounds_toArray, List.set_cons_zero, List.set_cons_succ]
            refine takeH 5 58 (.pointer (some ⟨g10, 3, none⟩)) hHeld rfl rfl (by kernel_rfl) (by kernel_rfl) (by kernel_rfl) (fun _ _ _ h => h) (Or.inl ⟨by rfl, fun w _ => by go_simp⟩) ?_
            simp only [Act.put, List.setIfInBounds_toArray, List.set_cons_zero, List.set_cons_succ]
            refine takeH 6 59 (.int .i64 x.i) hHeld rfl rfl (by kernel_rfl) (by kernel_rfl) (by kernel_rfl) (fun _ _ _ h => h) (Or.inl ⟨by rfl, fun w hw => by have hw' : w.cell? ⟨g10, 3, none⟩ = some (.int .i64 x.i) := (fun hw => by rw [Blk.cell hw]; rfl) hw; go_simp⟩) ?_
            simp only [Act.put, List.setIfInBounds_toArray, List.set_cons_zero, List.set_cons_succ]
            refine takeH 7 60 (.pointer (some ⟨g10, 5, none⟩)) hHeld rfl rfl (by kernel_rfl) (by kernel_rfl) (by kernel_rfl) (fun _ _ _ h => h) (Or.inl ⟨by rfl, fun w _ => by go_simp⟩) ?_
            simp only [Act.put, List.setIfInBounds_toArray, List.set_cons_zero, List.set_cons_succ]
            refine takeH 8 61 (.agg (u8s x.x).toArray) hHeld rfl rfl (by kernel_rfl) (by kernel_rfl) (by kernel_rfl) (fun _ _ _ h => h) (yieldsIf_load_mid (by rfl) _ _ rfl g10 5 rfl _ _ (fun w h => Blk.range h 5 _ (asC_dg _ _ _ _ _ _ _ HXI.out.len)) Tryz.underlying32 rfl HI1.out) ?_
            simp only [Act.put, List.setIfInBounds_toArray, List.set_cons_zero, List.set_cons_succ]
            refine takeH 10 63 (.pointer (some ⟨r, 0, none⟩)) hHeld rfl rfl (by kernel_rfl) (by kernel_rfl) (by kernel_rfl) (fun _ _ _ h => h) (Or.inl ⟨by rfl, fun w _ => by go_simp⟩) ?_
            simp only [Act.put, List.setIfInBounds_toArray, List.set_cons_zero, List.set_cons_succ]
            refine takeH 11 64 (.pointer (some ⟨g10, 1, none⟩)) hHeld rfl rfl (by kernel_rfl) (by kernel_rfl) (by kernel_rfl) (fun _ _ _ h => h) (Or.inl ⟨by rfl, fun w _ => by go_simp⟩) ?_
            simp only [Act.put, List.setIfInBounds_toArray, List.set_cons_zero, List.set_cons_succ]
            refine takeH 12 65 (.int .i64 x.h) hHeld rfl rfl (by kernel_rfl) (by kernel_rfl) (by kernel_rfl) (fun _ _ _ h => h) (Or.inl ⟨by rfl, fun w hw => by have hw' : w.cell? ⟨g10, 1, none⟩ = some (.int .i64 x.h) := (fun hw => by rw [Blk.cell hw]; rfl) hw; go_simp⟩) ?_
            simp only [Act.put, List.setIfInBounds_toArray, List.set_cons_zero, List.set_cons_succ]
            refine takeH 13 66 (.pointer (some ⟨g10, 2, none⟩)) hHeld rfl rfl (by kernel_rfl) (by kernel_rfl) (by kernel_rfl) (fun _ _ _ h => h) (Or.inl ⟨by rfl, fun w _ => by go_simp⟩) ?_
            simp only [Act.put, List.setIfInBounds_toArray, List.set_cons_zero, List.set_cons_succ]
            refine takeH 14 67 (.int .i64 x.l) hHeld rfl rfl (by kernel_rfl) (by kernel_rfl) (by kernel_rfl) (fun _ _ _ h => h) (Or.inl ⟨by rfl, fun w hw => by have hw' : w.cell? ⟨g10, 2, none⟩ = some (.int .i64 x.l) := (fun hw => by rw [Blk.cell hw]; rfl) hw; go_simp⟩) ?_
            simp only [Act.put, List.setIfInBounds_toArray, List.set_cons_zero, List.set_cons_succ]
            refine takeH 15 68 (.pointer (some ⟨g10, 3, none⟩)) hHeld rfl rfl (by kernel_rfl) (by kernel_rfl) (by kernel_rfl) (fun _ _ _ h => h) (Or.inl ⟨by rfl, fun w _ => by go_simp⟩) ?_
            simp only [Act.put, List.setIfInBounds_toArray, List.set_cons_zero, List.set_cons_succ]
            refine takeH 16 69 (.int .i64 x.i) hHeld rfl rfl (by kernel_rfl) (by kernel_rfl) (by kernel_rfl) (fun _ _ _ h => h) (Or.inl ⟨by rfl, fun w hw => by have hw' : w.cell? ⟨g10, 3, none⟩ = some (.int .i64 x.i) := (fun hw => by rw [Blk.cell hw]; rfl) hw; go_simp⟩) ?_
            simp only [Act.put, List.setIfInBounds_toArray, List.set_cons_zero, List.set_cons_succ]
            refine takeH 17 70 (.pointer (some ⟨g10, 5, none⟩)) hHeld rfl rfl (by kernel_rfl) (by kernel_rfl) (by kernel_rfl) (fun _ _ _ h => h) (Or.inl ⟨by rfl, fun w _ => by go_simp⟩) ?_
            simp only [Act.put, List.setIfInBounds_toArray, List.set_cons_zero, List.set_cons_succ]
            refine takeH 18 71 (.agg (u8s x.x).toArray) hHeld rfl rfl (by kernel_rfl) (by kernel_rfl) (by kernel_rfl) (fun _ _ _ h => h) (yieldsIf_load_mid (by rfl) _ _ rfl g10 5 rfl _ _ (fun w h => Blk.range h 5 _ (asC_dg _ _ _ _ _ _ _ HXI.out.len)) Tryz.underlying32 rfl HI1.out) ?_
            simp only [Act.put, List.setIfInBounds_toArray, List.set_cons_zero, List.set_cons_succ]
            refine wpAnyH_ready (rs := [9]) (by kernel_rfl) (by simp) (AllReadyH.cons rfl (fun K hK => ?_) AllReadyH.nil)
            rw [if_pos (by rfl)]
            go_simp
            refine (put_any d s rs D _ PD.out.pl.dk x.h x.l x.i m x.x HXI.out.rl.2 HXI.out.ri.2 HXI.out.len HXI.out.byt (HPT.out _ PD.out.pl.bel) HCN.out (by have := HWT.out; omega)).mono ?_
            rintro e wa ⟨rfl, hop⟩
            have HOP := hide hop
            have GA := hide (PD.out.mid hop)
            have RA1 := hide (PD.out.pl.op1 hop).1
            clear hop
            refine hK.out _ _ GA.out (fun hHeld => ?_)
            clear hK K
            try simp only [Act.put, List.setIfInBounds_toArray, List.set_cons_zero, List.set_cons_succ]
            refine wpAnyH_ready (rs := [19]) (by kernel_rfl) (by simp) (AllReadyH.cons rfl (fun K hK => ?_) AllReadyH.nil)
            rw [if_pos (by rfl)]
            go_simp
            refine (putL_any r s rs R _ RA1.out x.h x.l x.i m x.x HXI.out.len HXI.out.byt HCN.out (by have := HWT.out; omega)).mono ?_
            rintro e wb ⟨rfl, hrp⟩
            obtain ⟨D', R', hpa⟩ := PD.out.both HOP.out hrp
            have PN := hide hpa
            have GB := hide hpa.blk
            clear hrp hpa
            refine hK.out _ _ GB.out (fun hHeld => ?_)
            clear hK K
            try simp only [Act.put, List.setIfInBounds_toArray, List.set_cons_zero, List.set_cons_succ]
            refine takeH 20 73 (.bool false) hHeld rfl rfl (by kernel_rfl) (by kernel_rfl) (by kernel_rfl) (fun _ _ _ h => h) (Or.inl ⟨by rfl, fun w _ => by go_simp⟩) ?_
            simp only [Act.put, List.setIfInBounds_toArray, List.set_cons_zero, List.set_cons_succ]
            refine wpAnyH_done (by kernel_rfl) ?_ _
            refine NoPanic.normal ?_
            have FN := hide (Fb.put (s := s) PN.out.pl.dk.s1 HVAL.out HFB.out x.h x.l x.i m HXI.out.len HXI.out.byt)
            clear hHeld GA GB HOP RA1 PD
            go_wp2_with fail
            go_meet
            case rel => exact ⟨_, _, _, x.i, PN, hide (FN.out.mono (by omega) (by omega))⟩
          · have HCO := hide (countL_any r s rs R w9 P9.out.pl.rk x.h x.l m HCN.out (by have := HWT.out; omega))
            have c1' : w9.cell? ⟨g10, 1, none⟩ = some (.int .i64 x.h) := by rw [P9.out.blk.cell]; rfl
            have c2' : w9.cell? ⟨g10, 2, none⟩ = some (.int .i64 x.l) := by rw [P9.out.blk.cell]; rfl
            obtain ⟨j, HJ⟩ : ∃ j, Hid ((if smE x.h x.l 0 = 0 then (m : Int) else 0) = j) := ⟨_, hide rfl⟩
            have HJB : Hid (j ≤ 9223372036854775807) := hide (by
              rw [← HJ.out]
              split
              · rename_i h0
                have h1 := (HCN.out h0).wt HVAL.out
                have h2 := HWT.out
                omega
              · decide)
            rw [HJ.out] at HCO
            go_wp2_with fail
            refine HCO.out.mono ?_
            rintro e wb ⟨rfl, hb⟩
            have PB := hide (P9.out.on hb)
            have PS := hide (PB.out.set 3 (.int .i64 j))
            rw [asC_set] at PS
            have c3' : wb.cell? ⟨g10, 3, none⟩ = some (.int .i64 x.i) := by rw [PB.out.blk.cell]; rfl
            have f3' := PB.out.blk.free 3
            clear hb c1' c2' c4 P9 HCO
            go_wp2_with fail
            revert PS
            generalize wb.setCell ⟨g10, 3, none⟩ (.int .i64 j) = wc
            intro PS
            clear c3' f3' PB
            refine wp_region_noPanic ?_
            have PD := hide (PS.out.on (Below.refl wc.heap.size wc).drew)
            refine wp_region_held_drew (S := fun v : World => Blk v g10 34 (asC 0 x.h x.l j x.b x.x x.wd)) (by kernel_rfl) PD.out.blk (fun hHeld => ?_)
            refine takeH 0 53 (.pointer (some ⟨d, 0, none⟩)) hHeld rfl rfl (by kernel_rfl) (by kernel_rfl) (by kernel_rfl) (fun _ _ _ h => h) (Or.inl ⟨by rfl, fun w _ => by go_simp⟩) ?_
            simp only [Act.put, List.setIfInBounds_toArray, List.set_cons_zero, List.set_cons_succ]
            refine takeH 1 54 (.pointer (some ⟨g10, 1, none⟩)) hHeld rfl rfl (by kernel_rfl) (by kernel_rfl) (by kernel_rfl) (fun _ _ _ h => h) (Or.inl ⟨by rfl, fun w _ => by go_simp⟩) ?_
            simp only [Act.put, List.setIfInBounds_toArray, List.set_cons_zero, List.set_cons_succ]
            refine takeH 2 55 (.int .i64 x.h) hHeld rfl rfl (by kernel_rfl) (by kernel_rfl) (by kernel_rfl) (fun _ _ _ h => h) (Or.inl ⟨by rfl, fun w hw => by have hw' : w.cell? ⟨g10, 1, none⟩ = some (.int .i64 x.h) := (fun hw => by rw [Blk.cell hw]; rfl) hw; go_simp⟩) ?_
            simp only [Act.put, List.setIfInBounds_toArray, List.set_cons_zero, List.set_cons_succ]
            refine takeH 3 56 (.pointer (some ⟨g10, 2, none⟩)) hHeld rfl rfl (by kernel_rfl) (by kernel_rfl) (by kernel_rfl) (fun _ _ _ h => h) (Or.inl ⟨by rfl, fun w _ => by go_simp⟩) ?_
            simp only [Act.put, List.setIfInBounds_toArray, List.set_cons_zero, List.set_cons_succ]
            refine takeH 4 57 (.int .i64 x.l) hHeld rfl rfl (by kernel_rfl) (by kernel_rfl) (by kernel_rfl) (fun _ _ _ h => h) (Or.inl ⟨by rfl, fun w hw => by have hw' : w.cell? ⟨g10, 2, none⟩ = some (.int .i64 x.l) := (fun hw => by rw [Blk.cell hw]; rfl) hw; go_simp⟩) ?_
            simp only [Act.put, List.setIfInBounds_toArray, List.set_cons_zero, List.set_cons_succ]
            refine takeH 5 58 (.pointer (some ⟨g10, 3, none⟩)) hHeld rfl rfl (by kernel_rfl) (by kernel_rfl) (by kernel_rfl) (fun _ _ _ h => h) (Or.inl ⟨by rfl, fun w _ => by go_simp⟩) ?_
            simp only [Act.put, List.setIfInBounds_toArray, List.set_cons_zero, List.set_cons_succ]
            refine takeH 6 59 (.int .i64 j) hHeld rfl rfl (by kernel_rfl) (by kernel_rfl) (by kernel_rfl) (fun _ _ _ h => h) (Or.inl ⟨by rfl, fun w hw => by have hw' : w.cell? ⟨g10, 3, none⟩ = some (.int .i64 j) := (fun hw => by rw [Blk.cell hw]; rfl) hw; go_simp⟩) ?_
            simp only [Act.put, List.setIfInBounds_toArray, List.set_cons_zero, List.set_cons_succ]
            refine takeH 7 60 (.pointer (some ⟨g10, 5, none⟩)) hHeld rfl rfl (by kernel_rfl) (by kernel_rfl) (by kernel_rfl) (fun _ _ _ h => h) (Or.inl ⟨by rfl, fun w _ => by go_simp⟩) ?_
            simp only [Act.put, List.setIfInBounds_toArray, List.set_cons_zero, List.set_cons_succ]
            refine takeH 8 61 (.agg (u8s x.x).toArray) hHeld rfl rfl (by kernel_rfl) (by kernel_rfl) (by kernel_rfl) (fun _ _ _ h => h) (yieldsIf_load_mid (by rfl) _ _ rfl g10 5 rfl _ _ (fun w h => Blk.range h 5 _ (asC_dg _ _ _ _ _ _ _ HXI.out.len)) Tryz.underlying32 rfl HI1.out) ?_
            simp only [Act.put, List.setIfInBounds_toArray, List.set_cons_zero, List.set_cons_succ]
            refine takeH 10 63 (.pointer (some ⟨r, 0, none⟩)) hHeld rfl rfl (by kernel_rfl) (by kernel_rfl) (by kernel_rfl) (fun _ _ _ h => h) (Or.inl ⟨by rfl, fun w _ => by go_simp⟩) ?_
            simp only [Act.put, List.setIfInBounds_toArray, List.set_cons_zero, List.set_cons_succ]
            refine takeH 11 64 (.pointer (some ⟨g10, 1, none⟩)) hHeld rfl rfl (by kernel_rfl) (by kernel_rfl) (by kernel_rfl) (fun _ _ _ h => h) (Or.inl ⟨by rfl, fun w _ => by go_simp⟩) ?_
            simp only [Act.put, List.setIfInBounds_toArray, List.set_cons_zero, List.set_cons_succ]
            refine takeH 12 65 (.int .i64 x.h) hHeld rfl rfl (by kernel_rfl) (by kernel_rfl) (by kernel_rfl) (fun _ _ _ h => h) (Or.inl ⟨by rfl, fun w hw => by have hw' : w.cell? ⟨g10, 1, none⟩ = some (.int .i64 x.h) := (fun hw => by rw [Blk.cell hw]; rfl) hw; go_simp⟩) ?_
            simp only [Act.put, List.setIfInBounds_toArray, List.set_cons_zero, List.set_cons_succ]
            refine takeH 13 66 (.pointer (some ⟨g10, 2, none⟩)) hHeld rfl rfl (by kernel_rfl) (by kernel_rfl) (by kernel_rfl) (fun _ _ _ h => h) (Or.inl ⟨by rfl, fun w _ => by go_simp⟩) ?_
            simp only [Act.put, List.setIfInBounds_toArray, List.set_cons_zero, List.set_cons_succ]
            refine takeH 14 67 (.int .i64 x.l) hHeld rfl rfl (by kernel_rfl) (by kernel_rfl) (by kernel_rfl) (fun _ _ _ h => h) (Or.inl ⟨by rfl, fun w hw => by have hw' : w.cell? ⟨g10, 2, none⟩ = some (.int .i64 x.l) := (fun hw => by rw [Blk.cell hw]; rfl) hw; go_simp⟩) ?_
            simp only [Act.put, List.setIfInBounds_toArray, List.set_cons_zero, List.set_cons_succ]
            refine takeH 15 68 (.pointer (some ⟨g10, 3, none⟩)) hHeld rfl rfl (by kernel_rfl) (by kernel_rfl) (by kernel_rfl) (fun _ _ _ h => h) (Or.inl ⟨by rfl, fun w _ => by go_simp⟩) ?_
            simp only [Act.put, List.setIfInBounds_toArray, List.set_cons_zero, List.set_cons_succ]
            refine takeH 16 69 (.int .i64 j) hHeld rfl rfl (by kernel_rfl) (by kernel_rfl) (by kernel_rfl) (fun _ _ _ h => h) (Or.inl ⟨by rfl, fun w hw => by have hw' : w.cell? ⟨g10, 3, none⟩ = some (.int .i64 j) := (fun hw => by rw [Blk.cell hw]; rfl) hw; go_simp⟩) ?_
            simp only [Act.put, List.setIfInBounds_toArray, List.set_cons_zero, List.set_cons_succ]
            refine takeH 17 70 (.pointer (some ⟨g10, 5, none⟩)) hHeld rfl rfl (by kernel_rfl) (by kernel_rfl) (by kernel_rfl) (fun _ _ _ h => h) (Or.inl ⟨by rfl, fun w _ => by go_simp⟩) ?_
            simp only [Act.put, List.setIfInBounds_toArray, List.set_cons_zero, List.set_cons_succ]
            refine takeH 18 71 (.agg (u8s x.x).toArray) hHeld rfl rfl (by kernel_rfl) (by kernel_rfl) (by kernel_rfl) (fun _ _ _ h => h) (yieldsIf_load_mid (by rfl) _ _ rfl g10 5 rfl _ _ (fun w h => Blk.range h 5 _ (asC_dg _ _ _ _ _ _ _ HXI.out.len)) Tryz.underlying32 rfl HI1.out) ?_
            simp only [Act.put, List.setIfInBounds_toArray, List.set_cons_zero, List.set_cons_succ]
            refine wpAnyH_ready (rs := [9]) (by kernel_rfl) (by simp) (AllReadyH.cons rfl (fun K hK => ?_) AllReadyH.nil)
            rw [if_pos (by rfl)]
            go_simp
            refine (put_any d s rs D _ PD.out.pl.dk x.h x.l j m x.x HXI.out.rl.2 HJB.out HXI.out.len HXI.out.byt (HPT.out _ PD.out.pl.bel) HCN.out (by have := HWT.out; omega)).mono ?_
            rintro e wa ⟨rfl, hop⟩
            have HOP := hide hop
            have GA := hide (PD.out.mid hop)
            have RA1 := hide (PD.out.pl.op1 hop).1
            clear hop
            refine hK.out _ _ GA.out (fun hHeld => ?_)
            clear hK K
            try simp only [Act.put, List.setIfInBounds_toArray, List.set_cons_zero, List.set_cons_succ]
            refine wpAnyH_ready (rs := [19]) (by kernel_rfl) (by simp) (AllReadyH.cons rfl (fun K hK => ?_) AllReadyH.nil)
            rw [if_pos (by rfl)]
            go_simp
            refine (putL_any r s rs R _ RA1.out x.h x.l j m x.x HXI.out.len HXI.out.byt HCN.out (by have := HWT.out; omega)).mono ?_
            rintro e wb ⟨rfl, hrp⟩
            obtain ⟨D', R', hpa⟩ := PD.out.both HOP.out hrp
            have PN := hide hpa
            have GB := hide hpa.blk
            clear hrp hpa
            refine hK.out _ _ GB.out (fun hHeld => ?_)
            clear hK K
            try simp only [Act.put, List.setIfInBounds_toArray, List.set_cons_zero, List.set_cons_succ]
            refine takeH 20 73 (.bool false) hHeld rfl rfl (by kernel_rfl) (by kernel_rfl) (by kernel_rfl) (fun _ _ _ h => h) (Or.inl ⟨by rfl, fun w _ => by go_simp⟩) ?_
            simp only [Act.put, List.setIfInBounds_toArray, List.set_cons_zero, List.set_cons_succ]
            refine wpAnyH_done (by kernel_rfl) ?_ _
            refine NoPanic.normal ?_
            have FN := hide (Fb.put (s := s) PN.out.pl.dk.s1 HVAL.out HFB.out x.h x.l j m HXI.out.len HXI.out.byt)
            clear hHeld GA GB HOP RA1 PD
            go_wp2_with fail
            go_meet
            case rel => exact ⟨_, _, _, j, PN, hide (FN.out.mono (by omega) (by omega))⟩
        by_cases h1 : kd = 1
        · subst h1
          as_aux_lemma =>
          go_wp2_with fail
          refine wp_region_noPanic ?_
          have PD := hide (P9.out.on (Below.refl w9.heap.size w9).drew)
          obtain ⟨E, htr⟩ := trims_any PD.out.pl HE.out x.h x.l x.i HXI.out.rl.2 HFB.out (by have := HFL.out; omega) (by have := HFL.out; omega)
          have HTR := hide htr
          clear htr
          refine wp_region_held_drew (S := fun v : World => Blk v g10 34 (asC 1 x.h x.l x.i x.b x.x x.wd)) (by kernel_rfl) PD.out.blk (fun hHeld => ?_)
          refine takeH 0 76 (.pointer (some ⟨d, 0, none⟩)) hHeld rfl rfl (by kernel_rfl) (by kernel_rfl) (by kernel_rfl) (fun _ _ _ h => h) (Or.inl ⟨by rfl, fun w _ => by go_simp⟩) ?_
          simp only [Act.put, List.setIfInBounds_toArray, List.set_cons_zero, List.set_cons_succ]
          refine takeH 1 77 (.pointer (some ⟨g10, 1, none⟩)) hHeld rfl rfl (by kernel_rfl) (by kernel_rfl) (by kernel_rfl) (fun _ _ _ h => h) (Or.inl ⟨by rfl, fun w _ => by go_simp⟩) ?_
          simp only [Act.put, List.setIfInBounds_toArray, List.set_cons_zero, List.set_cons_succ]
          refine takeH 2 78 (.int .i64 x.h) hHeld rfl rfl (by kernel_rfl) (by kernel_rfl) (by kernel_rfl) (fun _ _ _ h => h) (Or.inl ⟨by rfl, fun w hw => by have hw' : w.cell? ⟨g10, 1, none⟩ = some (.int .i64 x.h) := (fun hw => by rw [Blk.cell hw]; rfl) hw; go_simp⟩) ?_
          simp only [Act.put, List.setIfInBounds_toArray, List.set_cons_zero, List.set_cons_succ]
          refine takeH 3 79 (.pointer (some ⟨g10, 2, none⟩)) hHeld rfl rfl (by kernel_rfl) (by kernel_rfl) (by kernel_rfl) (fun _ _ _ h => h) (Or.inl ⟨by rfl, fun w _ => by go_simp⟩) ?_
          simp only [Act.put, List.setIfInBounds_toArray, List.set_cons_zero, List.set_cons_succ]
          refine takeH 4 80 (.int .i64 x.l) hHeld rfl rfl (by kernel_rfl) (by kernel_rfl) (by kernel_rfl) (fun _ _ _ h => h) (Or.inl ⟨by rfl, fun w hw => by have hw' : w.cell? ⟨g10, 2, none⟩ = some (.int .i64 x.l) := (fun hw => by rw [Blk.cell hw]; rfl) hw; go_simp⟩) ?_
          simp only [Act.put, List.setIfInBounds_toArray, List.set_cons_zero, List.set_cons_succ]
          refine takeH 5 81 (.pointer (some ⟨g10, 3, none⟩)) hHeld rfl rfl (by kernel_rfl) (by kernel_rfl) (by kernel_rfl) (fun _ _ _ h => h) (Or.inl ⟨by rfl, fun w _ => by go_simp⟩) ?_
          simp only [Act.put, List.setIfInBounds_toArray, List.set_cons_zero, List.set_cons_succ]
          refine takeH 6 82 (.int .i64 x.i) hHeld rfl rfl (by kernel_rfl) (by kernel_rfl) (by kernel_rfl) (fun _ _ _ h => h) (Or.inl ⟨by rfl, fun w hw => by have hw' : w.cell? ⟨g10, 3, none⟩ = some (.int .i64 x.i) := (fun hw => by rw [Blk.cell hw]; rfl) hw; go_simp⟩) ?_
          simp only [Act.put, List.setIfInBounds_toArray, List.set_cons_zero, List.set_cons_succ]
          refine takeH 8 84 (.pointer (some ⟨r, 0, none⟩)) hHeld rfl rfl (by kernel_rfl) (by kernel_rfl) (by kernel_rfl) (fun _ _ _ h => h) (Or.inl ⟨by rfl, fun w _ => by go_simp⟩) ?_
          simp only [Act.put, List.setIfInBounds_toArray, List.set_cons_zero, List.set_cons_succ]
          refine takeH 9 85 (.pointer (some ⟨g10, 1, none⟩)) hHeld rfl rfl (by kernel_rfl) (by kernel_rfl) (by kernel_rfl) (fun _ _ _ h => h) (Or.inl ⟨by rfl, fun w _ => by go_simp⟩) ?_
          simp only [Act.put, List.setIfInBounds_toArray, List.set_cons_zero, List.set_cons_succ]
          refine takeH 10 86 (.int .i64 x.h) hHeld rfl rfl (by kernel_rfl) (by kernel_rfl) (by kernel_rfl) (fun _ _ _ h => h) (Or.inl ⟨by rfl, fun w hw => by have hw' : w.cell? ⟨g10, 1, none⟩ = some (.int .i64 x.h) := (fun hw => by rw [Blk.cell hw]; rfl) hw; go_simp⟩) ?_
          simp only [Act.put, List.setIfInBounds_toArray, List.set_cons_zero, List.set_cons_succ]
          refine takeH 11 87 (.pointer (some ⟨g10, 2, none⟩)) hHeld rfl rfl (by kernel_rfl) (by kernel_rfl) (by kernel_rfl) (fun _ _ _ h => h) (Or.inl ⟨by rfl, fun w _ => by go_simp⟩) ?_
          simp only [Act.put, List.setIfInBounds_toArray, List.set_cons_zero, List.set_cons_succ]
          refine takeH 12 88 (.int .i64 x.l) hHeld rfl rfl (by kernel_rfl) (by kernel_rfl) (by kernel_rfl) (fun _ _ _ h => h) (Or.inl ⟨by rfl, fun w hw => by have hw' : w.cell? ⟨g10, 2, none⟩ = some (.int .i64 x.l) := (fun hw => by rw [Blk.cell hw]; rfl) hw; go_simp⟩) ?_
          simp only [Act.put, List.setIfInBounds_toArray, List.set_cons_zero, List.set_cons_succ]
          refine takeH 13 89 (.pointer (some ⟨g10, 3, none⟩)) hHeld rfl rfl (by kernel_rfl) (by kernel_rfl) (by kernel_rfl) (fun _ _ _ h => h) (Or.inl ⟨by rfl, fun w _ => by go_simp⟩) ?_
          simp only [Act.put, List.setIfInBounds_toArray, List.set_cons_zero, List.set_cons_succ]
          refine takeH 14 90 (.int .i64 x.i) hHeld rfl rfl (by kernel_rfl) (by kernel_rfl) (by kernel_rfl) (fun _ _ _ h => h) (Or.inl ⟨by rfl, fun w hw => by have hw' : w.cell? ⟨g10, 3, none⟩ = some (.int .i64 x.i) := (fun hw => by rw [Blk.cell hw]; rfl) hw; go_simp⟩) ?_
          simp only [Act.put, List.setIfInBounds_toArray, List.set_cons_zero, List.set_cons_succ]
          refine wpAnyH_ready (rs := [7]) (by kernel_rfl) (by simp) (AllReadyH.cons rfl (fun K hK => ?_) AllReadyH.nil)
          rw [if_pos (by rfl)]
          go_simp
          refine HTR.out.mono ?_
          rintro e wa ⟨rfl, rs', hop, hfb', hdoc⟩
          have HOP := hide hop
          have HF' := hide hfb'
          have HDOC := hide hdoc
          have GA := hide (PD.out.mid hop)
          have RA1 := hide (PD.out.pl.op1 hop).1
          clear hop hfb' hdoc HTR
          refine hK.out _ _ GA.out (fun hHeld => ?_)
          clear hK K
          try simp only [Act.put, List.setIfInBounds_toArray, List.set_cons_zero, List.set_cons_succ]
          refine wpAnyH_ready (rs := [15]) (by kernel_rfl) (by simp) (AllReadyH.cons rfl (fun K hK => ?_) AllReadyH.nil)
          rw [if_pos (by rfl)]
          go_simp
          refine (HDOC.out _ RA1.out).mono ?_
          rintro e wb ⟨rfl, hrp⟩
          obtain ⟨D', R', hpa⟩ := PD.out.both HOP.out hrp
          have PN := hide hpa
          have GB := hide hpa.blk
          clear hrp hpa
          refine hK.out _ _ GB.out (fun hHeld => ?_)
          clear hK K
          try simp only [Act.put, List.setIfInBounds_toArray, List.set_cons_zero, List.set_cons_succ]
          refine takeH 16 92 (.bool false) hHeld rfl rfl (by kernel_rfl) (by kernel_rfl) (by kernel_rfl) (fun _ _ _ h => h) (Or.inl ⟨by rfl, fun w _ => by go_simp⟩) ?_
          simp only [Act.put, List.setIfInBounds_toArray, List.set_cons_zero, List.set_cons_succ]
          refine wpAnyH_done (by kernel_rfl) ?_ _
          refine NoPanic.normal ?_
          clear hHeld GA GB HOP RA1 PD HDOC
          go_wp2_with fail
          go_meet
          case rel => exact ⟨_, _, _, x.i, PN, hide (HF'.out.mono (by omega) (by omega))⟩
        by_cases h2 : kd = 2
        · subst h2
          as_aux_lemma =>
          obtain ⟨e, bs, hrd, hcall⟩ := readT_any rs x.h x.l x.i x.wd HXI.out.rl.2 HXI.out.ri.2 (by have := HWT.out; omega)
          have HRD := hide hrd
          have HCALL := hide (hcall d s D)
          have c1' : w9.cell? ⟨g10, 1, none⟩ = some (.int .i64 x.h) := by rw [P9.out.blk.cell]; rfl
          have c2' : w9.cell? ⟨g10, 2, none⟩ = some (.int .i64 x.l) := by rw [P9.out.blk.cell]; rfl
          have c3' : w9.cell? ⟨g10, 3, none⟩ = some (.int .i64 x.i) := by rw [P9.out.blk.cell]; rfl
          have c6' : w9.cell? ⟨g10, 37, none⟩ = some (.int .i64 x.wd) := by rw [P9.out.blk.cell]; exact asC_wd _ _ _ _ _ _ _ HXI.out.len
          have HBB : Hid (isB bs) := hide (by
            rcases hrd with ⟨_, _, rfl⟩ | ⟨_, _, _, rfl⟩ | ⟨_, _, _, rfl⟩
            · intro y hy; cases hy
            · intro y hy; cases hy
            · exact (P9.out.pl.dk.byB _).takeS _)
          have HBL : Hid (bs.length ≤ 20000000) := hide (by
            rcases hrd with ⟨_, _, rfl⟩ | ⟨_, _, _, rfl⟩ | ⟨_, _, _, rfl⟩
            · simp
            · simp
            · rw [List.length_take]
              have := play_wt rs (bA (smP x.h x.l x.i))
              have := HWT.out
              omega)
          clear hrd hcall
          go_wp2_with (first | (refine step_buildT4 rfl rfl rfl rfl rfl ?_) | (refine step_alloc zT rfl ?_))
          intro w10 gt hgt hlt' hbt
          go_wp2_with (refine step_storeA wT rfl rfl rfl hgt rfl (One.c4 _ _ _ _) rfl ?_)
          intro w11 hg11 hbut11
          have P11 := hide (P9.out.on (hbt.trans (hbut11.below hlt')))
          have HG11 := hide hg11
          clear hgt hlt' hbt hg11 hbut11 c1' c2' c3' c6' P9
          go_wp2_with (refine step_loadA wT rfl rfl HG11.out rfl ?_)
          refine (HCALL.out _ P11.out.pl.dk (HPT.out _ P11.out.pl.bel)).mono ?_
          rintro _ w12 ⟨v, rfl, ho, hb12⟩
          have P12 := hide (P11.out.on hb12)
          have HG12 := hide (HG11.out.on hb12)
          obtain ⟨e', bs', hrd', hcall'⟩ := readL_any r s rs R w12 P12.out.pl.rk x.h x.l x.i x.wd (by have := HWT.out; omega)
          obtain ⟨rfl, rfl⟩ := HRD.out.uniq hrd'
          have HC2 := hide hcall'
          obtain ⟨va, vc, rfl, hs12⟩ := ho.sl' HBB.out (by have := HBL.out; omega)
          have HS12 := hide hs12
          clear ho hb12 hrd' hcall' hs12 HCALL HG11 P11
          go_wp2_with (refine step_loadA wT rfl rfl HG12.out rfl ?_)
          refine HC2.out.mono ?_
          rintro _ w13 ⟨rfl, hb13⟩
          have P13 := hide (P12.out.on hb13)
          have hcv := toStr (HS12.out.below hb13)
          obtain ⟨X, HXX⟩ : ∃ X, Hid (str bs = X) := ⟨_, hide rfl⟩
          rw [HXX.out] at hcv ⊢
          have hself : (X.toList == X.toList) = true := by simp
          clear hb13 P12 HC2 HS12 HG12
          go_wp2_with fail
          go_meet
          case rel => exact ⟨_, _, _, x.i, P13, hide (HFB.out.mono (by omega) (by omega))⟩
        go_wp2_with fail
        go_meet
        case rel => exact ⟨_, _, _, _, P9, hide (HFB.out.mono (by omega) (by omega))⟩
      case rest =>
        as_aux_lemma =>
        obtain ⟨rs, D, R, i, P2, F2⟩ := hcut
        have HW2 : Hid (wt rs ≤ 20000000) := hide (by have h1 := F2.out.wt; have h2 := HFL.out; omega)
        clear P9 c0 HWT HFB HCN HVAL HI1
        have HCT : Hid (∀ W : World, PA w W d r s rs D R g10 (asC kd x.h x.l i x.b x.x x.wd) → Calls Tryz.prog 15 #[.pointer (some ⟨d, 0, none⟩), .pointer (some ⟨r, 0, none⟩), .int .i64 x.h, .int .i64 x.l] W fun e w' => e = .returned (.bool true) ∧ Below W.heap.size W w') := hide (fun W hW => by
          have hwt : wt rs ≤ 1099511000000 := by have := HW2.out; omega
          by_cases he : smE x.h x.l 0 = 0
          · obtain ⟨H', L', e1, e2, _⟩ := lvl_nat he
            obtain ⟨m, hm⟩ := Cn.have (Nmd.play hW.pl.dk.valS) H' L'
            rw [e1, e2] at he ⊢
            exact counts_ok d r s rs D R H' L' m W he hm hW.pl.dk hW.pl.rk hwt (HPT.out _ hW.pl.bel)
          · exact counts_bad d r s rs D R x.h x.l W HXI.out.rl.2 he hW.pl.dk hW.pl.rk hwt (HPT.out _ hW.pl.bel))
        have HCC : Hid (∀ V : World, PA w V d r s rs D R g10 (asC kd x.h x.l i x.b x.x x.wd) → V.cell? ⟨g10, 1, none⟩ = some (.int .i64 x.h) ∧ V.cell? ⟨g10, 2, none⟩ = some (.int .i64 x.l)) := hide (fun V hV => ⟨by rw [hV.blk.cell]; rfl, by rw [hV.blk.cell]; rfl⟩)
        obtain ⟨c1', c2'⟩ := HCC.out _ P2.out
        go_wp2_with fail
        refine (HCT.out _ P2.out).mono ?_
        rintro e wx ⟨rfl, hbx⟩
        have P3 := hide (P2.out.on hbx)
        clear hbx P2 c1' c2' HCT
        go_wp2_with fail
        refine (disks_any d r s rs D R _ P3.out.pl.dk P3.out.pl.rk (by have := HW2.out; omega)).mono ?_
        rintro e wy ⟨rfl, hby⟩
        have P4 := hide (P3.out.on hby).pl
        clear hby P3
        go_wp2
        go_roundw
        case rel => exact ⟨k + 1, rs, D, R, by go_num, by omega, P4, F2⟩
        case measure => simp [intOf]; omega
    · have hlti : ¬ (k : Int) < (n1 : Int) := by omega
      have BB := hide P.out.bel
      clear hlenA P
      go_wp2
      go_ret
      exact ⟨rfl, BB.out⟩

end Go.Proofs.YtlgcjdgcgnlcaaaGreatDoor
