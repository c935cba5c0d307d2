/-
  The tiles that hold some nodes: the document's Need.
-/
import Derived.Test.YtnlpgkfmjlljdaaTmb
namespace Go.Proofs.Ytnlpgkfmjlljdaa
open Go.RowKit
set_option linter.unusedVariables false
set_option linter.unusedSimpArgs false

theorem mput_nodup {m : List ((Int × Int) × Int)} (h : (m.map (·.1)).Nodup) (k : Int × Int) (v : Int) : ((mput m k v).map (·.1)).Nodup := by
  rw [mput_keys]
  split
  · exact h
  · rename_i hn
    rw [List.nodup_append]
    exact ⟨h, by simp, by
      intro a ha b hb' e
      simp at hb'
      subst hb'
      subst e
      exact hn ha⟩
theorem nwid_good {h : Nat} (hh : isH h) : ∀ (ns : List (Int × Int)) (m : List ((Int × Int) × Int)), (m.map (·.1)).Nodup → wid1 m → ((ns.foldl (nstep h) m).map (·.1)).Nodup ∧ wid1 (ns.foldl (nstep h) m)
  | [], m, h1, h2 => ⟨h1, h2⟩
  | x :: ns, m, h1, h2 => by
    rw [List.foldl_cons]
    have hb := npl_bd hh x
    have hm := mget_bd (k := (npl h x).1) h1 h2
    exact nwid_good hh ns _ (mput_nodup h1 _ _) (wid1_put h2 (by omega))
/-- A place that is there: what it becomes. -/
theorem mput_there {m : List ((Int × Int) × Int)} (h1 : (m.map (·.1)).Nodup) {q : Nat} {x : (Int × Int) × Int} (hq : m[q]? = some x) (wd : Int) : mput m x.1 (max (mget m x.1) wd) = if wd > x.2 then m.set q (x.1, wd) else m := by
  have hin : x.1 ∈ m.map (·.1) := List.mem_map_of_mem (List.mem_of_getElem? hq)
  have hs := fun v => map_set_at h1 hq v
  rw [mget_at h1 hq]
  unfold mput
  rw [if_pos hin, ← hs]
  split
  · rename_i h; rw [show max x.2 wd = wd by omega]
  · rename_i h
    rw [show max x.2 wd = x.2 by omega]
    apply List.ext_getElem?
    intro n
    rw [List.getElem?_set]
    split
    · rename_i e; subst e
      rw [if_pos (List.getElem?_eq_some_iff.1 hq).1, hq]
    · rfl

set_option maxRecDepth 100000 in
set_option maxHeartbeats 2000000 in
theorem needR_ok (h : Nat) (a : Option Addr) (len cap : Nat) (ns : List (Int × Int)) (w : World) (hh : isH h) (hs : Nds w a len cap ns) (hv : ∀ x ∈ ns, V x.1 x.2) (hsm : len ≤ 1048576) :
    Calls Try.prog 17 #[.int .i64 (h : Int), .slice a len cap] w fun r w' => ∃ v, r = .returned (.tuple #[v, .int .i64 0]) ∧ OwnT w' w.heap.size v ((nwid h ns).map (mT h)) ∧ Below w.heap.size w w' := by
  have HH := hide hh
  have HS := hide hs
  have HV := hide hv
  have HL := hide hs.hlen
  clear hh hs hv
  go_enter Try.func17, Try.ntmps17
  go_wp2_with (go_at_call 20; refine (heightR_yes h _ HH.out).mono ?_; rintro r v ⟨rfl, hv⟩; replace hv := hv.symm; subst hv)
  go_loopw [6, 7] (fun o k wr => ∃ j : Nat, k = .int .i64 (j : Int) ∧ j ≤ len ∧ Hid (OwnT wr w.heap.size o ((nwid h (ns.take j)).map (mT h))) ∧ Hid (Below w.heap.size w wr)) (fun _ k _ => len - (intOf k).toNat)
  case atStart => exact ⟨0, rfl, Nat.zero_le _, hide (OwnT.nil _ _), hide (Below.refl _ _)⟩
  case round =>
    obtain ⟨j, rfl, hj, OJ, BJ⟩ := hrel
    by_cases hc : j < len
    · skip
      have hc' : (j : Int) < (len : Int) := by omega
      obtain ⟨x, hx⟩ : ∃ x, ns[j]? = some x := ⟨ns[j]'(by rw [HL.out]; exact hc), List.getElem?_eq_getElem (by rw [HL.out]; exact hc)⟩
      have HNX : Hid (nwid h (ns.take (j + 1)) = nstep h (nwid h (ns.take j)) x) := hide (by
        rw [← nwid_snoc]
        congr 1
        rw [List.take_add_one, hx]
        rfl)
      obtain ⟨b, o, rfl, c0, c1⟩ := (HS.out.below BJ.out (Nat.le_refl _)).hcell j x hx
      obtain ⟨L, I, e1, e2, hL, hI⟩ := (HV.out x (List.mem_of_getElem? hx)).nats
      obtain ⟨x1, x2⟩ := x
      simp only at e1 e2 c0 c1
      subst e1 e2
      have xa := n_at b o len cap j (j : Int) rfl hc
      have hbd := npl_bd HH.out ((L : Int), (I : Int))
      have HNP : Hid (npl h ((L : Int), (I : Int)) = ((((L / h : Nat) : Int), ((oX h L I : Nat) : Int)), ((oT h L I : Nat) : Int))) := hide (by unfold npl; simp only [Int.toNat_natCast])
      have HOF : Hid (∀ v : World, Calls Try.prog 8 #[.int .i64 (h : Int), .agg #[.int .i64 (L : Int), .int .i64 (I : Int)]] v fun r w' => r = .returned (.tuple #[.agg (c4 (h : Int) (L / h : Nat) (oX h L I : Nat) (oT h L I : Nat)).toArray, .int .i64 (oF h L I : Nat), .int .i64 (oT h L I : Nat), .int .i64 0]) ∧ Below v.heap.size v w') := hide (fun v => ofR_ok h L I v HH.out hL hI)
      rw [HNP.out] at hbd
      unfold nstep at HNX
      rw [HNP.out] at HNX
      simp only at HNX hbd
      have hfew : (nwid h (ns.take j)).length ≤ len := by
        have h1 := nwid_len h (ns.take j) []
        have h2 : (ns.take j).length ≤ len := by rw [List.length_take]; omega
        unfold nwid
        simp only [List.length_nil] at h1
        omega
      have hgood := nwid_good HH.out (ns.take j) [] (by simp) (fun x hx => by cases hx)
      have HG1 : Hid ((nwid h (ns.take j)).map (·.1)).Nodup := hide hgood.1
      have HG2 : Hid (wid1 (nwid h (ns.take j))) := hide hgood.2
      clear HNP hx hgood
      generalize ((L / h : Nat) : Int) = p1 at *
      generalize ((oX h L I : Nat) : Int) = p2 at *
      generalize ((oT h L I : Nat) : Int) = wd at *
      generalize ((oF h L I : Nat) : Int) = Fr at *
      generalize (L : Int) = LI at *
      generalize (I : Int) = II at *
      generalize nwid h (ns.take j) = m at *
      go_wp2_with fail
      refine (HOF.out _).mono ?_
      rintro r w4 ⟨rfl, hb4⟩
      have O4 := hide (OJ.out.below hb4)
      have B4 := hide (on_below BJ.out hb4)
      clear hb4 OJ BJ HOF c0 c1 xa
      go_wp2_with (first | (refine step_alloc zT rfl ?_; intro w5 g8 hg8 hle8 hb8; have HG8 := hide hg8; clear hg8) | (refine step_storeA wT rfl rfl rfl HG8.out rfl (One.c4 (h : Int) p1 p2 wd) rfl ?_))
      intro w6 hg6 hbut6
      have hb6 : Below w4.heap.size w4 w6 := hb8.trans (hbut6.below hle8)
      have O6 := hide (O4.out.below hb6)
      have B6 := hide (on_below B4.out hb6)
      have T6 := hide hg6
      have HN8 : Hid (u6.ownBlock ≠ some g8) := hide (fun hk => by have := (O4.out.lt _ hk).2; omega)
      clear hg6 hbut6 hb6 hb8 hle8 HG8 O4 B4
      obtain ⟨av, cv, rfl, _⟩ := O6.out.len
      rw [List.length_map] at O6 HN8 ⊢
      obtain ⟨n, HN⟩ : ∃ n, Hid (m.length = n) := ⟨_, hide rfl⟩
      rw [HN.out] at O6 HN8 hfew ⊢
      go_wp2_with fail
      go_loopw [12] (fun k wq => ∃ q : Nat, k = .int .i64 (q : Int) ∧ q ≤ n ∧ Hid (∀ i x, i < q → m[i]? = some x → x.1 ≠ (p1, p2)) ∧ Hid (Below w6.heap.size w6 wq)) (fun k _ => n - (intOf k).toNat)
      case atStart => exact ⟨0, rfl, Nat.zero_le _, hide (fun i x hi => by omega), hide (Below.refl _ _)⟩
      case round =>
        obtain ⟨q, rfl, hq, HNo, HBq⟩ := hrel
        have Oq := hide (O6.out.below HBq.out)
        have Tq := hide (T6.out.on HBq.out)
        obtain ⟨t0, t1, t2, t3⟩ := Tq.out.four
        by_cases hqn : q < n
        · obtain ⟨y, hy⟩ : ∃ y, m[q]? = some y := ⟨m[q]'(by rw [HN.out]; exact hqn), List.getElem?_eq_getElem (by rw [HN.out]; exact hqn)⟩
          obtain ⟨g, rfl⟩ : ∃ g, av = some ⟨g, 0, none⟩ := by
            rcases Oq.out.lies with ⟨e1, e2⟩ | ⟨g, cap, cs, e1, _⟩
            · have := congrArg List.length e2
              rw [List.length_map, HN.out] at this
              simp at this
              omega
            · injection e1 with e1 _ _; exact ⟨g, e1⟩
          have hget : (m.map (mT h))[q]? = some (mT h y) := by rw [List.getElem?_map, hy]; rfl
          obtain ⟨q0, q1, q2, q3⟩ := Oq.out.cells q _ hget
          obtain ⟨⟨y1, y2⟩, yw⟩ := y
          simp only [mT] at q0 q1 q2 q3
          have xa := atT g n cv q (q : Int) rfl hqn
          have hqn' : (q : Int) < (n : Int) := by omega
          have dq1 : decide ((q : Int) < (n : Int)) = true := by simp; omega
          have dq2 : decide (q < n) = true := by simp; omega
          by_cases z1 : y1 = p1
          · replace z1 := z1.symm
            subst z1
            by_cases z2 : y2 = p2
            · replace z2 := z2.symm
              subst z2
              have HY := hide hy
              have hMP := mput_there HG1.out hy wd
              simp only at hMP
              have HMP := hide hMP
              have hyw := HG2.out _ (List.mem_of_getElem? hy)
              simp only at hyw
              have hqne : ¬ (q : Int) = (n : Int) := by omega
              have hqneb : ((q : Int) == (n : Int)) = false := by simp; omega
              have hfz : ∀ nq : Nat, (wr.drewN nq).frozen? ⟨g, q * 4 + 3, none⟩ = false := fun nq => by
                rcases Oq.out.lies with ⟨e1, _⟩ | ⟨g', cap', cs, e1, _, hb, _⟩
                · cases e1
                · injection e1 with e1 _ _
                  injection e1 with e1
                  injection e1 with e1 _ _
                  subst e1
                  exact hb.free _
              clear hy hMP
              by_cases hgt : wd > yw
              · have hgt2 : decide (wd > yw) = true := by simp; omega
                have hgt3 : decide (yw < wd) = true := by simp; omega
                have HST : Hid (∀ k : Nat, OwnT ((wr.drewN k).setCell ⟨g, q * 4 + 3, none⟩ (.int .i64 wd)) w.heap.size (.slice (some ⟨g, 0, none⟩) n cv) ((m.map (mT h)).set q (mT h ((p1, p2), wd)))) := hide (fun k => by
                  refine OwnT.set (O6.out.below (below_drews HBq.out k)) q (mT h ((p1, p2), wd)) (by rw [List.length_map, HN.out]; exact hqn) (fun cs hb hl => ?_)
                  have r0 : cs[q * 4]? = some (.int .i64 (h : Int)) := by rw [← hb.cell]; exact q0
                  have r1 : cs[q * 4 + 1]? = some (.int .i64 p1) := by rw [← hb.cell]; exact q1
                  have r2 : cs[q * 4 + 2]? = some (.int .i64 p2) := by rw [← hb.cell]; exact q2
                  have hs := spl_width (e := Value.int .i64 wd) r0 r1 r2 hl
                  have h5 := hb.set (q * 4 + 3) (.int .i64 wd)
                  rw [hs] at h5
                  exact h5)
                go_wp2_with fail
                go_quiet (fail)
                go_wp2_with fail
                go_quiet (fail)
                go_wp2_with fail
                have hbn := below_drews HBq.out
                refine ⟨⟨j + 1, by simp, hc, hide ?_, hide ?_⟩, by simp only [intOf]; omega⟩
                · rw [HNX.out, HMP.out, if_pos hgt, List.map_set]
                  exact HST.out _
                · exact (on_below B6.out (hbn _)).trans ((But.setCell _ _ _ _).below ((O6.out.lt g rfl).1))
              · have hgt2 : decide (wd > yw) = false := by simp; omega
                have hgt3 : decide (yw < wd) = false := by simp; omega
                go_wp2_with fail
                go_quiet (fail)
                go_wp2_with fail
                go_quiet (fail)
                go_wp2_with fail
                have hbn := below_drews HBq.out
                refine ⟨⟨j + 1, by simp, hc, hide ?_, hide ?_⟩, by simp only [intOf]; omega⟩
                · rw [HNX.out, HMP.out, if_neg (by omega)]
                  exact O6.out.below (hbn _)
                · exact on_below B6.out (hbn _)
            · have z2b : (y2 == p2) = false := by simp [z2]
              have HNo2 : Hid (∀ i x, i < q + 1 → m[i]? = some x → x.1 ≠ (p1, p2)) := hide (fun i x hi hx => by
                rcases Nat.lt_or_ge i q with h1 | h1
                · exact HNo.out i x h1 hx
                · obtain rfl : i = q := by omega
                  rw [hy] at hx
                  cases hx
                  intro e
                  simp only [Prod.mk.injEq] at e
                  first | exact z2 e.2 | exact z1 e.1)
              have HBn : Hid (∀ nq : Nat, Below w6.heap.size w6 (wr.drewN nq)) := hide (fun nq => below_drews HBq.out nq)
              clear hy hget HNo Oq Tq
              go_wp2_with fail
              go_quiet (fail)
              go_wp2
              go_roundw
              case rel => exact ⟨q + 1, by simp, hqn, HNo2, hide (HBn.out _)⟩
              case measure => simp only [intOf]; omega
          · have z1b : (y1 == p1) = false := by simp [z1]
            have HNo2 : Hid (∀ i x, i < q + 1 → m[i]? = some x → x.1 ≠ (p1, p2)) := hide (fun i x hi hx => by
              rcases Nat.lt_or_ge i q with h1 | h1
              · exact HNo.out i x h1 hx
              · obtain rfl : i = q := by omega
                rw [hy] at hx
                cases hx
                intro e
                simp only [Prod.mk.injEq] at e
                first | exact z2 e.2 | exact z1 e.1)
            have HBn : Hid (∀ nq : Nat, Below w6.heap.size w6 (wr.drewN nq)) := hide (fun nq => below_drews HBq.out nq)
            clear hy hget HNo Oq Tq
            go_wp2_with fail
            go_quiet (fail)
            go_wp2
            go_roundw
            case rel => exact ⟨q + 1, by simp, hqn, HNo2, hide (HBn.out _)⟩
            case measure => simp only [intOf]; omega
        · obtain rfl : q = n := by omega
          have dq1 : decide ((q : Int) < (q : Int)) = false := by simp
          have dq2 : decide (q < q) = false := by simp
          have hno : (p1, p2) ∉ m.map (·.1) := fun hm => by
            obtain ⟨x, hx, e⟩ := List.mem_map.1 hm
            obtain ⟨i, hi⟩ := List.mem_iff_getElem?.1 hx
            exact HNo.out i x (by have := (List.getElem?_eq_some_iff.1 hi).1; rw [HN.out] at this; exact this) hi e
          have HMP : Hid (mput m (p1, p2) (max (mget m (p1, p2)) wd) = m ++ [((p1, p2), wd)]) := hide (by
            rw [mget_no hno, show max 0 wd = wd by omega]
            unfold mput
            rw [if_neg hno])
          have hbn := fun nq => below_drews HBq.out nq
          have HLT : Hid ((m.map (mT h)).length ≤ 1048576) := hide (by rw [List.length_map, HN.out]; omega)
          go_wp2_with fail
          go_quiet (fail)
          have O7 := hide (O6.out.below (hbn nq))
          have T7 := hide (T6.out.on (hbn nq))
          have B7 := hide (on_below B6.out (hbn nq))
          clear hbn Oq Tq t0 t1 t2 t3
          go_wp2_with (first | (refine step_loadA wT rfl rfl T7.out rfl ?_) | (refine steponeT (n := ((h : Int), p1, p2, wd)) rfl rfl ?_))
          intro wa ga hga hlea hba
          have Oa := hide (O7.out.below hba)
          have Ba := hide (on_below B7.out hba)
          clear hba hlea O7 B7 T7
          go_wp2_with (refine stepappT rfl rfl rfl Oa.out hga HLT.out Ba.out.size ?_)
          intro vb wb hob hgb0 _
          have hgb : wa.grownBy wb (Value.slice av q cv).ownBlock := hgb0
          have Bb := hide (Ba.out.grown hgb Ba.out.size (fun k hk => (Oa.out.lt k hk).1))
          have Ob : Hid (OwnT wb w.heap.size vb ((nwid h (ns.take (j + 1))).map (mT h))) := hide (by
            rw [HNX.out, HMP.out, List.map_append]
            exact hob)
          obtain ⟨av2, nv2, cv2, rfl⟩ := hob.slice
          clear hob hgb0 hgb Oa Ba hga
          go_wp2_with fail
          exact ⟨⟨j + 1, by simp, hc, Ob, Bb⟩, by simp only [intOf]; omega⟩
    · obtain rfl : j = len := by omega
      have HE : Hid (ns.take j = ns) := hide (List.take_of_length_le (by rw [HL.out]; exact Nat.le_refl _))
      go_wp2
      go_ret2
      refine ⟨_, rfl, ?_, BJ.out⟩
      have := OJ.out
      rw [HE.out] at this
      exact this

theorem needR_bad1 (h : Int) (a : Option Addr) (len cap : Nat) (w : World) (hh : h < 1 ∨ 8 < h) :
    Calls Try.prog 17 #[.int .i64 h, .slice a len cap] w fun r w' => r = .returned (.tuple #[.slice none 0 0, .int .i64 2]) ∧ Below w.heap.size w w' := by
  go_enter Try.func17, Try.ntmps17
  go_wp2_with (go_at_call 20; refine (heightR_no h _ hh).mono ?_; rintro r w' ⟨rfl, rfl⟩)
  go_ret2
  exact ⟨rfl, Below.refl _ _⟩
set_option maxRecDepth 100000 in
set_option maxHeartbeats 2000000 in
theorem needR_bad2 (h J : Nat) (a : Option Addr) (len cap : Nat) (ns : List (Int × Int)) (y1 y2 : Int) (w : World) (hh : isH h) (hs : Nds w a len cap ns) (hv : ∀ i x, i < J → ns[i]? = some x → V x.1 x.2) (hJ : ns[J]? = some (y1, y2)) (hy : ¬ V y1 y2) (hsm : len ≤ 1048576) :
    Calls Try.prog 17 #[.int .i64 (h : Int), .slice a len cap] w fun r w' => r = .returned (.tuple #[.slice none 0 0, .int .i64 2]) ∧ Below w.heap.size w w' := by
  have HH := hide hh
  have HS := hide hs
  have HV := hide hv
  have HL := hide hs.hlen
  have HJ := hide hJ
  have HYY := hide hy
  have hJl : J < len := by
    have := (List.getElem?_eq_some_iff.1 hJ).1
    rw [hs.hlen] at this
    exact this
  clear hh hs hv hJ hy
  go_enter Try.func17, Try.ntmps17
  go_wp2_with (go_at_call 20; refine (heightR_yes h _ HH.out).mono ?_; rintro r v ⟨rfl, hv⟩; replace hv := hv.symm; subst hv)
  go_loopw [6, 7] (fun o k wr => ∃ j : Nat, k = .int .i64 (j : Int) ∧ j ≤ J ∧ Hid (OwnT wr w.heap.size o ((nwid h (ns.take j)).map (mT h))) ∧ Hid (Below w.heap.size w wr)) (fun _ k _ => J - (intOf k).toNat)
  case atStart => exact ⟨0, rfl, Nat.zero_le _, hide (OwnT.nil _ _), hide (Below.refl _ _)⟩
  case round =>
    obtain ⟨j, rfl, hj, OJ, BJ⟩ := hrel
    by_cases hcJ : j < J
    · have hc : j < len := by omega
      have hc' : (j : Int) < (len : Int) := by omega
      obtain ⟨x, hx⟩ : ∃ x, ns[j]? = some x := ⟨ns[j]'(by rw [HL.out]; exact hc), List.getElem?_eq_getElem (by rw [HL.out]; exact hc)⟩
      have HNX : Hid (nwid h (ns.take (j + 1)) = nstep h (nwid h (ns.take j)) x) := hide (by
        rw [← nwid_snoc]
        congr 1
        rw [List.take_add_one, hx]
        rfl)
      obtain ⟨b, o, rfl, c0, c1⟩ := (HS.out.below BJ.out (Nat.le_refl _)).hcell j x hx
      obtain ⟨L, I, e1, e2, hL, hI⟩ := (HV.out j x hcJ hx).nats
      obtain ⟨x1, x2⟩ := x
      simp only at e1 e2 c0 c1
      subst e1 e2
      have xa := n_at b o len cap j (j : Int) rfl hc
      have hbd := npl_bd HH.out ((L : Int), (I : Int))
      have HNP : Hid (npl h ((L : Int), (I : Int)) = ((((L / h : Nat) : Int), ((oX h L I : Nat) : Int)), ((oT h L I : Nat) : Int))) := hide (by unfold npl; simp only [Int.toNat_natCast])
      have HOF : Hid (∀ v : World, Calls Try.prog 8 #[.int .i64 (h : Int), .agg #[.int .i64 (L : Int), .int .i64 (I : Int)]] v fun r w' => r = .returned (.tuple #[.agg (c4 (h : Int) (L / h : Nat) (oX h L I : Nat) (oT h L I : Nat)).toArray, .int .i64 (oF h L I : Nat), .int .i64 (oT h L I : Nat), .int .i64 0]) ∧ Below v.heap.size v w') := hide (fun v => ofR_ok h L I v HH.out hL hI)
      rw [HNP.out] at hbd
      unfold nstep at HNX
      rw [HNP.out] at HNX
      simp only at HNX hbd
      have hfew : (nwid h (ns.take j)).length ≤ len := by
        have h1 := nwid_len h (ns.take j) []
        have h2 : (ns.take j).length ≤ len := by rw [List.length_take]; omega
        unfold nwid
        simp only [List.length_nil] at h1
        omega
      have hgood := nwid_good HH.out (ns.take j) [] (by simp) (fun x hx => by cases hx)
      have HG1 : Hid ((nwid h (ns.take j)).map (·.1)).Nodup := hide hgood.1
      have HG2 : Hid (wid1 (nwid h (ns.take j))) := hide hgood.2
      clear HNP hx hgood
      generalize ((L / h : Nat) : Int) = p1 at *
      generalize ((oX h L I : Nat) : Int) = p2 at *
      generalize ((oT h L I : Nat) : Int) = wd at *
      generalize ((oF h L I : Nat) : Int) = Fr at *
      generalize (L : Int) = LI at *
      generalize (I : Int) = II at *
      generalize nwid h (ns.take j) = m at *
      go_wp2_with fail
      refine (HOF.out _).mono ?_
      rintro r w4 ⟨rfl, hb4⟩
      have O4 := hide (OJ.out.below hb4)
      have B4 := hide (on_below BJ.out hb4)
      clear hb4 OJ BJ HOF c0 c1 xa
      go_wp2_with (first | (refine step_alloc zT rfl ?_; intro w5 g8 hg8 hle8 hb8; have HG8 := hide hg8; clear hg8) | (refine step_storeA wT rfl rfl rfl HG8.out rfl (One.c4 (h : Int) p1 p2 wd) rfl ?_))
      intro w6 hg6 hbut6
      have hb6 : Below w4.heap.size w4 w6 := hb8.trans (hbut6.below hle8)
      have O6 := hide (O4.out.below hb6)
      have B6 := hide (on_below B4.out hb6)
      have T6 := hide hg6
      have HN8 : Hid (u6.ownBlock ≠ some g8) := hide (fun hk => by have := (O4.out.lt _ hk).2; omega)
      clear hg6 hbut6 hb6 hb8 hle8 HG8 O4 B4
      obtain ⟨av, cv, rfl, _⟩ := O6.out.len
      rw [List.length_map] at O6 HN8 ⊢
      obtain ⟨n, HN⟩ : ∃ n, Hid (m.length = n) := ⟨_, hide rfl⟩
      rw [HN.out] at O6 HN8 hfew ⊢
      go_wp2_with fail
      go_loopw [12] (fun k wq => ∃ q : Nat, k = .int .i64 (q : Int) ∧ q ≤ n ∧ Hid (∀ i x, i < q → m[i]? = some x → x.1 ≠ (p1, p2)) ∧ Hid (Below w6.heap.size w6 wq)) (fun k _ => n - (intOf k).toNat)
      case atStart => exact ⟨0, rfl, Nat.zero_le _, hide (fun i x hi => by omega), hide (Below.refl _ _)⟩
      case round =>
        obtain ⟨q, rfl, hq, HNo, HBq⟩ := hrel
        have Oq := hide (O6.out.below HBq.out)
        have Tq := hide (T6.out.on HBq.out)
        obtain ⟨t0, t1, t2, t3⟩ := Tq.out.four
        by_cases hqn : q < n
        · obtain ⟨y, hy⟩ : ∃ y, m[q]? = some y := ⟨m[q]'(by rw [HN.out]; exact hqn), List.getElem?_eq_getElem (by rw [HN.out]; exact hqn)⟩
          obtain ⟨g, rfl⟩ : ∃ g, av = some ⟨g, 0, none⟩ := by
            rcases Oq.out.lies with ⟨e1, e2⟩ | ⟨g, cap, cs, e1, _⟩
            · have := congrArg List.length e2
              rw [List.length_map, HN.out] at this
              simp at this
              omega
            · injection e1 with e1 _ _; exact ⟨g, e1⟩
          have hget : (m.map (mT h))[q]? = some (mT h y) := by rw [List.getElem?_map, hy]; rfl
          obtain ⟨q0, q1, q2, q3⟩ := Oq.out.cells q _ hget
          obtain ⟨⟨y1, y2⟩, yw⟩ := y
          simp only [mT] at q0 q1 q2 q3
          have xa := atT g n cv q (q : Int) rfl hqn
          have hqn' : (q : Int) < (n : Int) := by omega
          have dq1 : decide ((q : Int) < (n : Int)) = true := by simp; omega
          have dq2 : decide (q < n) = true := by simp; omega
          by_cases z1 : y1 = p1
          · replace z1 := z1.symm
            subst z1
            by_cases z2 : y2 = p2
            · replace z2 := z2.symm
              subst z2
              have HY := hide hy
              have hMP := mput_there HG1.out hy wd
              simp only at hMP
              have HMP := hide hMP
              have hyw := HG2.out _ (List.mem_of_getElem? hy)
              simp only at hyw
              have hqne : ¬ (q : Int) = (n : Int) := by omega
              have hqneb : ((q : Int) == (n : Int)) = false := by simp; omega
              have hfz : ∀ nq : Nat, (wr.drewN nq).frozen? ⟨g, q * 4 + 3, none⟩ = false := fun nq => by
                rcases Oq.out.lies with ⟨e1, _⟩ | ⟨g', cap', cs, e1, _, hb, _⟩
                · cases e1
                · injection e1 with e1 _ _
                  injection e1 with e1
                  injection e1 with e1 _ _
                  subst e1
                  exact hb.free _
              clear hy hMP
              by_cases hgt : wd > yw
              · have hgt2 : decide (wd > yw) = true := by simp; omega
                have hgt3 : decide (yw < wd) = true := by simp; omega
                have HST : Hid (∀ k : Nat, OwnT ((wr.drewN k).setCell ⟨g, q * 4 + 3, none⟩ (.int .i64 wd)) w.heap.size (.slice (some ⟨g, 0, none⟩) n cv) ((m.map (mT h)).set q (mT h ((p1, p2), wd)))) := hide (fun k => by
                  refine OwnT.set (O6.out.below (below_drews HBq.out k)) q (mT h ((p1, p2), wd)) (by rw [List.length_map, HN.out]; exact hqn) (fun cs hb hl => ?_)
                  have r0 : cs[q * 4]? = some (.int .i64 (h : Int)) := by rw [← hb.cell]; exact q0
                  have r1 : cs[q * 4 + 1]? = some (.int .i64 p1) := by rw [← hb.cell]; exact q1
                  have r2 : cs[q * 4 + 2]? = some (.int .i64 p2) := by rw [← hb.cell]; exact q2
                  have hs := spl_width (e := Value.int .i64 wd) r0 r1 r2 hl
                  have h5 := hb.set (q * 4 + 3) (.int .i64 wd)
                  rw [hs] at h5
                  exact h5)
                go_wp2_with fail
                go_quiet (fail)
                go_wp2_with fail
                go_quiet (fail)
                go_wp2_with fail
                have hbn := below_drews HBq.out
                refine ⟨⟨j + 1, by simp, hcJ, hide ?_, hide ?_⟩, by simp only [intOf]; omega⟩
                · rw [HNX.out, HMP.out, if_pos hgt, List.map_set]
                  exact HST.out _
                · exact (on_below B6.out (hbn _)).trans ((But.setCell _ _ _ _).below ((O6.out.lt g rfl).1))
              · have hgt2 : decide (wd > yw) = false := by simp; omega
                have hgt3 : decide (yw < wd) = false := by simp; omega
                go_wp2_with fail
                go_quiet (fail)
                go_wp2_with fail
                go_quiet (fail)
                go_wp2_with fail
                have hbn := below_drews HBq.out
                refine ⟨⟨j + 1, by simp, hcJ, hide ?_, hide ?_⟩, by simp only [intOf]; omega⟩
                · rw [HNX.out, HMP.out, if_neg (by omega)]
                  exact O6.out.below (hbn _)
                · exact on_below B6.out (hbn _)
            · have z2b : (y2 == p2) = false := by simp [z2]
              have HNo2 : Hid (∀ i x, i < q + 1 → m[i]? = some x → x.1 ≠ (p1, p2)) := hide (fun i x hi hx => by
                rcases Nat.lt_or_ge i q with h1 | h1
                · exact HNo.out i x h1 hx
                · obtain rfl : i = q := by omega
                  rw [hy] at hx
                  cases hx
                  intro e
                  simp only [Prod.mk.injEq] at e
                  first | exact z2 e.2 | exact z1 e.1)
              have HBn : Hid (∀ nq : Nat, Below w6.heap.size w6 (wr.drewN nq)) := hide (fun nq => below_drews HBq.out nq)
              clear hy hget HNo Oq Tq
              go_wp2_with fail
              go_quiet (fail)
              go_wp2
              go_roundw
              case rel => exact ⟨q + 1, by simp, hqn, HNo2, hide (HBn.out _)⟩
              case measure => simp only [intOf]; omega
          · have z1b : (y1 == p1) = false := by simp [z1]
            have HNo2 : Hid (∀ i x, i < q + 1 → m[i]? = some x → x.1 ≠ (p1, p2)) := hide (fun i x hi hx => by
              rcases Nat.lt_or_ge i q with h1 | h1
              · exact HNo.out i x h1 hx
              · obtain rfl : i = q := by omega
                rw [hy] at hx
                cases hx
                intro e
                simp only [Prod.mk.injEq] at e
                first | exact z2 e.2 | exact z1 e.1)
            have HBn : Hid (∀ nq : Nat, Below w6.heap.size w6 (wr.drewN nq)) := hide (fun nq => below_drews HBq.out nq)
            clear hy hget HNo Oq Tq
            go_wp2_with fail
            go_quiet (fail)
            go_wp2
            go_roundw
            case rel => exact ⟨q + 1, by simp, hqn, HNo2, hide (HBn.out _)⟩
            case measure => simp only [intOf]; omega
        · obtain rfl : q = n := by omega
          have dq1 : decide ((q : Int) < (q : Int)) = false := by simp
          have dq2 : decide (q < q) = false := by simp
          have hno : (p1, p2) ∉ m.map (·.1) := fun hm => by
            obtain ⟨x, hx, e⟩ := List.mem_map.1 hm
            obtain ⟨i, hi⟩ := List.mem_iff_getElem?.1 hx
            exact HNo.out i x (by have := (List.getElem?_eq_some_iff.1 hi).1; rw [HN.out] at this; exact this) hi e
          have HMP : Hid (mput m (p1, p2) (max (mget m (p1, p2)) wd) = m ++ [((p1, p2), wd)]) := hide (by
            rw [mget_no hno, show max 0 wd = wd by omega]
            unfold mput
            rw [if_neg hno])
          have hbn := fun nq => below_drews HBq.out nq
          have HLT : Hid ((m.map (mT h)).length ≤ 1048576) := hide (by rw [List.length_map, HN.out]; omega)
          go_wp2_with fail
          go_quiet (fail)
          have O7 := hide (O6.out.below (hbn nq))
          have T7 := hide (T6.out.on (hbn nq))
          have B7 := hide (on_below B6.out (hbn nq))
          clear hbn Oq Tq t0 t1 t2 t3
          go_wp2_with (first | (refine step_loadA wT rfl rfl T7.out rfl ?_) | (refine steponeT (n := ((h : Int), p1, p2, wd)) rfl rfl ?_))
          intro wa ga hga hlea hba
          have Oa := hide (O7.out.below hba)
          have Ba := hide (on_below B7.out hba)
          clear hba hlea O7 B7 T7
          go_wp2_with (refine stepappT rfl rfl rfl Oa.out hga HLT.out Ba.out.size ?_)
          intro vb wb hob hgb0 _
          have hgb : wa.grownBy wb (Value.slice av q cv).ownBlock := hgb0
          have Bb := hide (Ba.out.grown hgb Ba.out.size (fun k hk => (Oa.out.lt k hk).1))
          have Ob : Hid (OwnT wb w.heap.size vb ((nwid h (ns.take (j + 1))).map (mT h))) := hide (by
            rw [HNX.out, HMP.out, List.map_append]
            exact hob)
          obtain ⟨av2, nv2, cv2, rfl⟩ := hob.slice
          clear hob hgb0 hgb Oa Ba hga
          go_wp2_with fail
          exact ⟨⟨j + 1, by simp, hcJ, Ob, Bb⟩, by simp only [intOf]; omega⟩
    · obtain rfl : j = J := by omega
      have hc' : (j : Int) < (len : Int) := by omega
      obtain ⟨b, o, rfl, c0, c1⟩ := (HS.out.below BJ.out (Nat.le_refl _)).hcell j _ HJ.out
      simp only at c0 c1
      have xa := n_at b o len cap j (j : Int) rfl hJl
      have HOF : Hid (∀ v : World, Calls Try.prog 8 #[.int .i64 (h : Int), .agg #[.int .i64 y1, .int .i64 y2]] v fun r w' => r = .returned (.tuple #[.agg (c4 0 0 0 0).toArray, .int .i64 0, .int .i64 0, .int .i64 2]) ∧ Below v.heap.size v w') := hide (fun v => ofR_no2 h y1 y2 v HH.out HYY.out)
      go_wp2_with fail
      refine (HOF.out _).mono ?_
      rintro r w4 ⟨rfl, hb4⟩
      have B4 := hide (on_below BJ.out hb4)
      clear hb4 OJ BJ HOF c0 c1 xa
      go_wp2_with (first | (refine step_alloc zT rfl ?_; intro w5 g8 hg8 hle8 hb8; have HG8 := hide hg8; clear hg8) | (refine step_storeA wT rfl rfl rfl HG8.out rfl (One.c4 0 0 0 0) rfl ?_))
      intro w6 hg6 hbut6
      have B6 := hide (on_below B4.out (hb8.trans (hbut6.below hle8)))
      clear hg6 hbut6 hb8 hle8 HG8 B4
      go_wp2
      go_ret2
      exact ⟨rfl, B6.out⟩

end Go.Proofs.Ytnlpgkfmjlljdaa
