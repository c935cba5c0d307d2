/-
  The tiles that hold some nodes: the program's Need.
-/
import Derived.Test.YtnlpgkfmjlljdaaTmo
import Derived.Test.YtnlpgkfmjlljdaaOu
namespace Go.Proofs.Ytnlpgkfmjlljdaa
open Go.RowKit
set_option linter.unusedVariables false
set_option linter.unusedSimpArgs false

theorem zPl : Zeroed 61 (c2 0 0) := fun _ _ _ _ _ _ _ => by kernel_rfl
theorem wPl : Wide 61 2 := ⟨by kernel_rfl, by kernel_rfl⟩
set_option maxRecDepth 100000 in
theorem placeOfN_any (h l i n : Int) (w : World) : Calls Try.prog 27 #[.agg (c4 h l i n).toArray] w fun r w' => r = .returned (.agg (c2 l i).toArray) ∧ Below w.heap.size w w' := by
  go_enter Try.func27, Try.ntmps27
  go_wp2_with (first | (refine step_box (cs := c4 h l i n) rfl rfl ?_; intro w1 g1 hg1 hle1 hb1; have HG1 := hide hg1; clear hg1) | (refine step_alloc zPl rfl ?_; intro w2 g2 hg2 hle2 hb2; have HG2 := hide hg2; clear hg2; obtain ⟨_, c1, c2, _⟩ := (HG1.out.on hb2).four) | (refine step_storeA wPl rfl rfl rfl HG2.out rfl (One.c2 l i) rfl ?_; intro w4 hg4 hbut4))
  refine bodyPost_ret (results_wide rfl wPl _ _ rfl hg4 rfl) rfl ⟨rfl, ?_⟩
  exact (hb1.trans (hb2.mono hb1.size)).trans (hbut4.below (Nat.le_trans hb1.size hle2))
section
variable {dst : Option Tmp} {ty : TypeId} {pos : String} {aft : Array Edge} {gd : Option (Nat × Bool)} {ops : Array Oper} {rest : List Oper} {a : Act} {w : World} {Q : Exit → Act → World → Prop}
theorem run_mkP (ev : Operand → Value) (w : World) : (execOp ev ⟨dst, .makeMap 59 none, ty, pos, aft, gd⟩).run Try.prog w = .ok (.value (.map (some w.heap.size))) (w.alloc (.map #[] 0)) := by kernel_rfl
theorem step_mkP (hw : Region.wanted ⟨dst, .makeMap 59 none, ty, pos, aft, gd⟩ (yielded ops a.tmps) = true) (h : ∀ w1 mb, Mp w1 mb [] → w.heap.size ≤ mb → Below w.heap.size w w1 → wpList Try.prog ops Q rest (a.put dst (.map (some mb))) w1) :
    wpList Try.prog ops Q (⟨dst, .makeMap 59 none, ty, pos, aft, gd⟩ :: rest) a w :=
  step_run hw _ _ (run_mkP a.eval w) (h _ _ ⟨⟨#[], 0, heap_alloc_new w _, rfl⟩, by simp, fun x hx => by cases hx⟩ (Nat.le_refl _) ((Below.refl _ _).alloc (Nat.le_refl _) _))
end
/-- What stands through the nodes. -/
structure NI (h : Nat) (w W : World) (mb : Nat) (o : Value) (ts : List Tl) (m : List ((Int × Int) × Int)) : Prop where
  own : OwnT W w.heap.size o ts
  same : sameP h ts m
  map : Mp W mb m
  wid : wid1 m
  bel : Below w.heap.size w W
  lmb : w.heap.size ≤ mb
theorem NI.on {h : Nat} {w W W' : World} {mb : Nat} {o : Value} {ts : List Tl} {m : List ((Int × Int) × Int)} (k : NI h w W mb o ts m) (hb : Below W.heap.size W W') : NI h w W' mb o ts m :=
  ⟨k.own.below hb, k.same, k.map.below hb, k.wid, on_below k.bel hb, k.lmb⟩
theorem sameP.len {h : Nat} {ts : List Tl} {m : List ((Int × Int) × Int)} (k : sameP h ts m) : ts.length = m.length := by
  have := congrArg List.length k
  simpa using this
theorem wf_nat {z : Nat} (h : z ≤ 281474976710656) : (Lit.int .i64 (z : Int)).wf = true := by
  simp [Lit.wf, IntKind.min, IntKind.max, IntKind.signed, IntKind.bits]
  omega
theorem mput_len (m : List ((Int × Int) × Int)) (k : Int × Int) (v : Int) : (mput m k v).length ≤ m.length + 1 := by
  unfold mput
  split
  · rw [List.length_map]; omega
  · simp
theorem nwid_len (h : Nat) : ∀ (ns : List (Int × Int)) (m : List ((Int × Int) × Int)), (ns.foldl (nstep h) m).length ≤ m.length + ns.length
  | [], m => by simp
  | x :: ns, m => by
    have h1 := nwid_len h ns (nstep h m x)
    have h2 := mput_len m (npl h x).1 (max (mget m (npl h x).1) (npl h x).2)
    rw [List.foldl_cons, List.length_cons]
    unfold nstep at h1 ⊢
    omega
set_option maxRecDepth 100000 in
set_option maxHeartbeats 2000000 in
theorem need_ok (h : Nat) (a : Option Addr) (len cap : Nat) (ns : List (Int × Int)) (w : World) (hh : isH h) (hs : Nds w a len cap ns) (hv : ∀ x ∈ ns, V x.1 x.2) (hsm : len ≤ 1048576) :
    Calls Try.prog 16 #[.int .i64 (h : Int), .slice a len cap] w fun r w' => ∃ v, r = .returned (.tuple #[v, .int .i64 0]) ∧ OwnT w' w.heap.size v ((nwid h ns).map (mT h)) ∧ Below w.heap.size w w' := by
  have HH := hide hh
  have HS := hide hs
  have HV := hide hv
  have HL := hide hs.hlen
  clear hh hs hv
  go_enter Try.func16, Try.ntmps16
  go_wp2_with (first | (go_at_call 18; refine (isHeight_yes h _ HH.out).mono ?_; rintro r v ⟨rfl, hv⟩; replace hv := hv.symm; subst hv) | (refine step_mkP rfl ?_; intro w1 mb hm1 hlm hb1; have N1 := hide (⟨OwnT.nil w1 w.heap.size, rfl, hm1, (fun x hx => by cases hx), hb1, hlm⟩ : NI h w w1 mb (.slice none 0 0) [] []); clear hm1 hlm hb1))
  go_loopw [7, 23] (fun o k wr => ∃ (j : Nat) (ts : List Tl), k = .int .i64 (j : Int) ∧ j ≤ len ∧ Hid (NI h w wr mb o ts (nwid h (ns.take j)))) (fun _ k _ => len - (intOf k).toNat)
  case atStart => exact ⟨0, [], rfl, Nat.zero_le _, N1⟩
  case round =>
    obtain ⟨j, ts, rfl, hj, NJ⟩ := hrel
    clear N1
    by_cases hc : j < len
    · skip
      have hc' : (j : Int) < (len : Int) := by omega
      obtain ⟨x, hx⟩ : ∃ x, ns[j]? = some x := ⟨ns[j]'(by rw [HL.out]; exact hc), List.getElem?_eq_getElem (by rw [HL.out]; exact hc)⟩
      have HNX : Hid (nwid h (ns.take (j + 1)) = nstep h (nwid h (ns.take j)) x) := hide (by
        rw [← nwid_snoc]
        congr 1
        rw [List.take_add_one, hx]
        rfl)
      obtain ⟨b, o, rfl, c0, c1⟩ := (HS.out.below NJ.out.bel (Nat.le_refl _)).hcell j x hx
      obtain ⟨L, I, e1, e2, hL, hI⟩ := (HV.out x (List.mem_of_getElem? hx)).nats
      obtain ⟨x1, x2⟩ := x
      simp only at e1 e2 c0 c1
      subst e1 e2
      have xa := n_at b o len cap j (j : Int) rfl hc
      have hbd := npl_bd HH.out ((L : Int), (I : Int))
      have HNP : Hid (npl h ((L : Int), (I : Int)) = ((((L / h : Nat) : Int), ((oX h L I : Nat) : Int)), ((oT h L I : Nat) : Int))) := hide (by unfold npl; simp only [Int.toNat_natCast])
      have HOF : Hid (∀ v : World, Calls Try.prog 7 #[.int .i64 (h : Int), .agg (c2 (L : Int) (I : Int)).toArray] v fun r w' => r = .returned (.tuple #[.agg (c4 (h : Int) (L / h : Nat) (oX h L I : Nat) (oT h L I : Nat)).toArray, .int .i64 (oF h L I : Nat), .int .i64 (oT h L I : Nat), .int .i64 0]) ∧ Below v.heap.size v w') := hide (fun v => of_ok h L I v HH.out hL hI)
      have hfx := of_facts HH.out hL hI
      have HWF : Hid (wfK (((L / h : Nat) : Int), ((oX h L I : Nat) : Int))) := hide (by
        obtain ⟨r, R, A, P, F, _, _, _, e4, _, _, e7, _, _, _, k4, _, _, _, _, _, _, _, _, _, _, _, _, _, hAP, hLh, _⟩ := hfx
        exact ⟨wf_nat (by omega), wf_nat (by rw [e7]; exact hAP)⟩)
      rw [HNP.out] at hbd
      unfold nstep at HNX
      rw [HNP.out] at HNX
      simp only at HNX hbd
      clear hfx HNP hx
      generalize ((L / h : Nat) : Int) = p1 at *
      generalize ((oX h L I : Nat) : Int) = p2 at *
      generalize ((oT h L I : Nat) : Int) = wd at *
      generalize ((oF h L I : Nat) : Int) = Fr at *
      generalize (L : Int) = LI at *
      generalize (I : Int) = II at *
      have hfew : (nwid h (ns.take j)).length ≤ len := by
        have h1 := nwid_len h (ns.take j) []
        have h2 : (ns.take j).length ≤ len := by rw [List.length_take]; omega
        unfold nwid
        simp only [List.length_nil] at h1
        omega
      generalize nwid h (ns.take j) = m at *
      go_wp2_with (first | (refine step_alloc zN rfl ?_; intro w2 g9 hg9 hle9 hb9; have HG9 := hide hg9; clear hg9) | (refine step_storeA wN rfl rfl rfl HG9.out rfl (One.c2 LI II) rfl ?_))
      intro w3 hg3 hbut3
      have hb3 : Below wr.heap.size wr w3 := hb9.trans (hbut3.below hle9)
      have N3 := hide (NJ.out.on hb3)
      have G3 := hide hg3
      clear hg3 hbut3 hb3 hb9 hle9 HG9 NJ c0 c1 xa
      go_wp2_with (refine step_loadA wN rfl rfl G3.out rfl ?_)
      refine (HOF.out _).mono ?_
      rintro r w4 ⟨rfl, hb4⟩
      have N4 := hide (N3.out.on hb4)
      clear hb4 N3 G3 HOF
      go_wp2_with (first | (refine step_alloc zT rfl ?_; intro w5 g10 hg10 hle10 hb10; have HG10 := hide hg10; clear hg10) | (refine step_storeA wT rfl rfl rfl HG10.out rfl (One.c4 (h : Int) p1 p2 wd) rfl ?_))
      intro w6 hg6 hbut6
      have hb6 : Below w4.heap.size w4 w6 := hb10.trans (hbut6.below hle10)
      have N6 := hide (N4.out.on hb6)
      have T6 := hide hg6
      have HN10 : Hid (u7.ownBlock ≠ some g10) := hide (fun hk => by have := (N4.out.own.lt _ hk).2; omega)
      clear hg6 hbut6 hb6 hb10 hle10 HG10 N4
      go_wp2_with (refine step_loadA wT rfl rfl T6.out rfl ?_)
      refine (placeOfN_any (h : Int) p1 p2 wd _).mono ?_
      rintro r w7 ⟨rfl, hb7⟩
      have N7 := hide (N6.out.on hb7)
      have T7 := hide (T6.out.on hb7)
      clear hb7 N6 T6
      go_wp2_with (first | (refine step_alloc zPl rfl ?_; intro w8 g14 hg14 hle14 hb14; have HG14 := hide hg14; clear hg14) | (refine step_storeA wPl rfl rfl rfl HG14.out rfl (One.c2 p1 p2) rfl ?_))
      intro w8a hg8 hbut8
      have hb8 : Below w7.heap.size w7 w8a := hb14.trans (hbut8.below hle14)
      have N8 := hide (N7.out.on hb8)
      have T8 := hide (T7.out.on hb8)
      have P8 := hide hg8
      have HN14 : Hid (u7.ownBlock ≠ some g14) := hide (fun hk => by have := (N7.out.own.lt _ hk).2; omega)
      clear hg8 hbut8 hb8 hb14 hle14 HG14 N7 T7
      have hmb := mget_bd (k := (p1, p2)) N8.out.map.one N8.out.wid
      by_cases hin : (p1, p2) ∈ m.map (·.1)
      · have hm0 : ¬ mget m (p1, p2) = 0 := fun e => absurd hin ((mget_zero N8.out.map.one N8.out.wid).1 e)
        have hm0b : (mget m (p1, p2) == 0) = false := by simp [hm0]
        go_wp2_with (first | (refine step_loadA wPl rfl rfl P8.out rfl ?_) | (refine step_lookupP (k := (p1, p2)) rfl rfl rfl N8.out.map HWF.out ?_))
        have M8 := hide N8.out.map
        go_wp2_with fail
        have HI1 : Hid ((Try.prog.info? 61).map (·.size) = some (c2 p1 p2).length) := hide (by rw [wPl.size]; rfl)
        have HPR : Hid (∀ v : World, Below w8a.heap.size w8a v → v.rangeAt g14 0 (c2 p1 p2)) := hide (fun v hv => (P8.out.on hv).range 0 _ (by simp))
        have HC3 : Hid (∀ v : World, Below w8a.heap.size w8a v → v.cell? ⟨g10, 3, none⟩ = some (.int .i64 wd)) := hide (fun v hv => (T8.out.on hv).four.2.2.2)
        have HLK : Hid (∀ v : World, Below w8a.heap.size w8a v → (Instr.lookup 59 (.map (some mb)) (pkey (p1, p2)) false).run Try.prog v = .ok (.int .i64 (mget m (p1, p2))) v) := hide (fun v hv => lookup_isP (M8.out.below hv) (p1, p2) HWF.out)
        refine wp_region_noPanic ?_
        refine wp_region_U (q := 8) (S := fun v : World => Below w8a.heap.size w8a v) (by kernel_rfl) ?_
        have Z0 := hide ((Below.refl w8a.heap.size w8a).drew)
        have hHeld := Z0.out
        refine takeU 8 0 48 (.map (some mb)) hHeld rfl rfl (by kernel_rfl) (by kernel_rfl) (by kernel_rfl) (by kernel_rfl) (by kernel_rfl) (by kernel_rfl) (fun _ _ _ h => h) (Or.inl ⟨by rfl, fun w _ => by go_simp⟩) ?_
        simp only [Act.put, List.setIfInBounds_toArray, List.set_cons_zero, List.set_cons_succ]
        refine takeU 8 1 49 (.agg (c2 p1 p2).toArray) hHeld rfl rfl (by kernel_rfl) (by kernel_rfl) (by kernel_rfl) (by kernel_rfl) (by kernel_rfl) (by kernel_rfl) (fun _ _ _ h => h) (yieldsIf_load_mid (by rfl) _ _ rfl g14 0 rfl _ _ (fun w h => HPR.out w h) Try.underlying61 rfl HI1.out) ?_
        simp only [Act.put, List.setIfInBounds_toArray, List.set_cons_zero, List.set_cons_succ]
        refine takeU 8 2 50 (.map (some mb)) hHeld rfl rfl (by kernel_rfl) (by kernel_rfl) (by kernel_rfl) (by kernel_rfl) (by kernel_rfl) (by kernel_rfl) (fun _ _ _ h => h) (Or.inl ⟨by rfl, fun w _ => by go_simp⟩) ?_
        simp only [Act.put, List.setIfInBounds_toArray, List.set_cons_zero, List.set_cons_succ]
        refine takeU 8 3 51 (.agg (c2 p1 p2).toArray) hHeld rfl rfl (by kernel_rfl) (by kernel_rfl) (by kernel_rfl) (by kernel_rfl) (by kernel_rfl) (by kernel_rfl) (fun _ _ _ h => h) (yieldsIf_load_mid (by rfl) _ _ rfl g14 0 rfl _ _ (fun w h => HPR.out w h) Try.underlying61 rfl HI1.out) ?_
        simp only [Act.put, List.setIfInBounds_toArray, List.set_cons_zero, List.set_cons_succ]
        refine takeU 8 4 52 (.int .i64 (mget m (p1, p2))) hHeld rfl rfl (by kernel_rfl) (by kernel_rfl) (by kernel_rfl) (by kernel_rfl) (by kernel_rfl) (by kernel_rfl) (fun _ _ _ h => h) (Or.inl ⟨by rfl, fun w h => run_op rfl (HLK.out w h)⟩) ?_
        simp only [Act.put, List.setIfInBounds_toArray, List.set_cons_zero, List.set_cons_succ]
        refine takeU 8 5 53 (.pointer (some ⟨g10, 3, none⟩)) hHeld rfl rfl (by kernel_rfl) (by kernel_rfl) (by kernel_rfl) (by kernel_rfl) (by kernel_rfl) (by kernel_rfl) (fun _ _ _ h => h) (Or.inl ⟨by rfl, fun w _ => by go_simp⟩) ?_
        simp only [Act.put, List.setIfInBounds_toArray, List.set_cons_zero, List.set_cons_succ]
        refine takeU 8 6 54 (.int .i64 wd) hHeld rfl rfl (by kernel_rfl) (by kernel_rfl) (by kernel_rfl) (by kernel_rfl) (by kernel_rfl) (by kernel_rfl) (fun _ _ _ h => h) (Or.inl ⟨by rfl, fun w hw => by have hw' : w.cell? ⟨g10, 3, none⟩ = some (.int .i64 wd) := (fun hw => HC3.out _ hw) hw; go_simp⟩) ?_
        simp only [Act.put, List.setIfInBounds_toArray, List.set_cons_zero, List.set_cons_succ]
        refine takeU 8 7 55 (.int .i64 (max (mget m (p1, p2)) wd)) hHeld rfl rfl (by kernel_rfl) (by kernel_rfl) (by kernel_rfl) (by kernel_rfl) (by kernel_rfl) (by kernel_rfl) (fun _ _ _ h => h) (Or.inl ⟨by rfl, fun w _ => by go_simp⟩) ?_
        simp only [Act.put, List.setIfInBounds_toArray, List.set_cons_zero, List.set_cons_succ]
        refine wpAnyU_ready (rs := [8]) (by kernel_rfl) (by simp) (AllReadyU.cons rfl (fun K hK => ?_) AllReadyU.nil)
        rw [if_pos (by rfl)]
        refine wp_mapUpP (k := (p1, p2)) rfl rfl rfl (M8.out.below Z0.out) HWF.out ?_
        intro wx hmx hbx
        refine hK.out _ _ (fun h => absurd h (by decide)) ?_
        clear hK K
        simp only [Act.put]
        refine wpAnyU_done (by kernel_rfl) ?_ _
        refine NoPanic.normal ?_
        have NX : Hid (NI h w wx mb u7 ts (nwid h (ns.take (j + 1)))) := hide (by
          rw [HNX.out]
          have k0 := N8.out.on Z0.out
          have ks := sameP_step (k := (p1, p2)) (v := max (mget m (p1, p2)) wd) (wd := wd) k0.same
          rw [if_pos hin] at ks
          exact ⟨k0.own.but hbx (k0.own.apartM k0.map), ks, hmx, wid1_put k0.wid (by omega), k0.bel.trans (hbx.below k0.lmb), k0.lmb⟩)
        clear hmx hbx N8 T8 P8 HNX
        go_wp2
        go_roundw
        case rel => exact ⟨j + 1, ts, by simp, hc, NX⟩
        case measure => simp only [intOf]; omega
      · have hm0 : mget m (p1, p2) = 0 := mget_no hin
        have HM0 := hide hm0
        have hlenT : ts.length ≤ 1048576 := by rw [N8.out.same.len]; omega
        have HLT := hide hlenT
        clear hlenT
        go_wp2_with (first | (refine step_loadA wPl rfl rfl P8.out rfl ?_) | (refine step_lookupP (k := (p1, p2)) rfl rfl rfl N8.out.map HWF.out ?_) | (refine step_loadA wT rfl rfl T8.out rfl ?_) | (refine steponeT (n := ((h : Int), p1, p2, wd)) rfl rfl ?_))
        intro wa ga hga hlea hba
        have Na := hide (N8.out.on hba)
        have Ta := hide (T8.out.on hba)
        have Pa := hide (P8.out.on hba)
        clear hba hlea N8 T8 P8
        go_wp2_with (refine stepappT rfl rfl rfl Na.out.own hga HLT.out Na.out.bel.size ?_)
        intro vb wb hob hgb0 _
        have hgb : wa.grownBy wb u7.ownBlock := hgb0
        have Mb := hide (Na.out.map.grown hgb (Na.out.own.apartM Na.out.map))
        have Tb := hide (Ta.out.grew hgb HN10.out)
        have Pb := hide (Pa.out.grew hgb HN14.out)
        have Bb := hide (Na.out.bel.grown hgb Na.out.bel.size (fun k hk => (Na.out.own.lt k hk).1))
        have Ob := hide hob
        have Sb := hide Na.out.same
        have Wb := hide Na.out.wid
        have Lb := hide Na.out.lmb
        obtain ⟨av, nv, cv, rfl⟩ := hob.slice
        clear hob hgb0 hgb Na Ta Pa hga
        go_wp2_with fail
        have HI1 : Hid ((Try.prog.info? 61).map (·.size) = some (c2 p1 p2).length) := hide (by rw [wPl.size]; rfl)
        have HPR : Hid (∀ v : World, Below wb.heap.size wb v → v.rangeAt g14 0 (c2 p1 p2)) := hide (fun v hv => (Pb.out.on hv).range 0 _ (by simp))
        have HC3 : Hid (∀ v : World, Below wb.heap.size wb v → v.cell? ⟨g10, 3, none⟩ = some (.int .i64 wd)) := hide (fun v hv => (Tb.out.on hv).four.2.2.2)
        have HLK : Hid (∀ v : World, Below wb.heap.size wb v → (Instr.lookup 59 (.map (some mb)) (pkey (p1, p2)) false).run Try.prog v = .ok (.int .i64 (mget m (p1, p2))) v) := hide (fun v hv => lookup_isP (Mb.out.below hv) (p1, p2) HWF.out)
        refine wp_region_noPanic ?_
        refine wp_region_U (q := 8) (S := fun v : World => Below wb.heap.size wb v) (by kernel_rfl) ?_
        have Z0 := hide ((Below.refl wb.heap.size wb).drew)
        have hHeld := Z0.out
        refine takeU 8 0 48 (.map (some mb)) hHeld rfl rfl (by kernel_rfl) (by kernel_rfl) (by kernel_rfl) (by kernel_rfl) (by kernel_rfl) (by kernel_rfl) (fun _ _ _ h => h) (Or.inl ⟨by rfl, fun w _ => by go_simp⟩) ?_
        simp only [Act.put, List.setIfInBounds_toArray, List.set_cons_zero, List.set_cons_succ]
        refine takeU 8 1 49 (.agg (c2 p1 p2).toArray) hHeld rfl rfl (by kernel_rfl) (by kernel_rfl) (by kernel_rfl) (by kernel_rfl) (by kernel_rfl) (by kernel_rfl) (fun _ _ _ h => h) (yieldsIf_load_mid (by rfl) _ _ rfl g14 0 rfl _ _ (fun w h => HPR.out w h) Try.underlying61 rfl HI1.out) ?_
        simp only [Act.put, List.setIfInBounds_toArray, List.set_cons_zero, List.set_cons_succ]
        refine takeU 8 2 50 (.map (some mb)) hHeld rfl rfl (by kernel_rfl) (by kernel_rfl) (by kernel_rfl) (by kernel_rfl) (by kernel_rfl) (by kernel_rfl) (fun _ _ _ h => h) (Or.inl ⟨by rfl, fun w _ => by go_simp⟩) ?_
        simp only [Act.put, List.setIfInBounds_toArray, List.set_cons_zero, List.set_cons_succ]
        refine takeU 8 3 51 (.agg (c2 p1 p2).toArray) hHeld rfl rfl (by kernel_rfl) (by kernel_rfl) (by kernel_rfl) (by kernel_rfl) (by kernel_rfl) (by kernel_rfl) (fun _ _ _ h => h) (yieldsIf_load_mid (by rfl) _ _ rfl g14 0 rfl _ _ (fun w h => HPR.out w h) Try.underlying61 rfl HI1.out) ?_
        simp only [Act.put, List.setIfInBounds_toArray, List.set_cons_zero, List.set_cons_succ]
        refine takeU 8 4 52 (.int .i64 (mget m (p1, p2))) hHeld rfl rfl (by kernel_rfl) (by kernel_rfl) (by kernel_rfl) (by kernel_rfl) (by kernel_rfl) (by kernel_rfl) (fun _ _ _ h => h) (Or.inl ⟨by rfl, fun w h => run_op rfl (HLK.out w h)⟩) ?_
        simp only [Act.put, List.setIfInBounds_toArray, List.set_cons_zero, List.set_cons_succ]
        refine takeU 8 5 53 (.pointer (some ⟨g10, 3, none⟩)) hHeld rfl rfl (by kernel_rfl) (by kernel_rfl) (by kernel_rfl) (by kernel_rfl) (by kernel_rfl) (by kernel_rfl) (fun _ _ _ h => h) (Or.inl ⟨by rfl, fun w _ => by go_simp⟩) ?_
        simp only [Act.put, List.setIfInBounds_toArray, List.set_cons_zero, List.set_cons_succ]
        refine takeU 8 6 54 (.int .i64 wd) hHeld rfl rfl (by kernel_rfl) (by kernel_rfl) (by kernel_rfl) (by kernel_rfl) (by kernel_rfl) (by kernel_rfl) (fun _ _ _ h => h) (Or.inl ⟨by rfl, fun w hw => by have hw' : w.cell? ⟨g10, 3, none⟩ = some (.int .i64 wd) := (fun hw => HC3.out _ hw) hw; go_simp⟩) ?_
        simp only [Act.put, List.setIfInBounds_toArray, List.set_cons_zero, List.set_cons_succ]
        refine takeU 8 7 55 (.int .i64 (max (mget m (p1, p2)) wd)) hHeld rfl rfl (by kernel_rfl) (by kernel_rfl) (by kernel_rfl) (by kernel_rfl) (by kernel_rfl) (by kernel_rfl) (fun _ _ _ h => h) (Or.inl ⟨by rfl, fun w _ => by go_simp⟩) ?_
        simp only [Act.put, List.setIfInBounds_toArray, List.set_cons_zero, List.set_cons_succ]
        refine wpAnyU_ready (rs := [8]) (by kernel_rfl) (by simp) (AllReadyU.cons rfl (fun K hK => ?_) AllReadyU.nil)
        rw [if_pos (by rfl)]
        refine wp_mapUpP (k := (p1, p2)) rfl rfl rfl (Mb.out.below Z0.out) HWF.out ?_
        intro wx hmx hbx
        refine hK.out _ _ (fun h => absurd h (by decide)) ?_
        clear hK K
        simp only [Act.put]
        refine wpAnyU_done (by kernel_rfl) ?_ _
        refine NoPanic.normal ?_
        have NX : Hid (NI h w wx mb (.slice av nv cv) (ts ++ [((h : Int), p1, p2, wd)]) (nwid h (ns.take (j + 1)))) := hide (by
          rw [HNX.out]
          have ks := sameP_step (k := (p1, p2)) (v := max (mget m (p1, p2)) wd) (wd := wd) Sb.out
          rw [if_neg hin] at ks
          have k0 := Ob.out.below Z0.out
          exact ⟨k0.but hbx (k0.apartM (Mb.out.below Z0.out)), ks, hmx, wid1_put Wb.out (by omega), (on_below Bb.out Z0.out).trans (hbx.below Lb.out), Lb.out⟩)
        clear hmx hbx Mb Tb Pb Bb Ob HNX
        go_wp2
        go_roundw
        case rel => exact ⟨j + 1, _, by simp, hc, NX⟩
        case measure => simp only [intOf]; omega
    · obtain rfl : j = len := by omega
      have HE : Hid (ns.take j = ns) := hide (List.take_of_length_le (by rw [HL.out]; exact Nat.le_refl _))
      rw [HE.out] at NJ
      obtain ⟨av, cv, rfl, _⟩ := NJ.out.own.len
      have hln := NJ.out.same.len
      obtain ⟨m, HMM⟩ : ∃ m, Hid (nwid h ns = m) := ⟨_, hide rfl⟩
      rw [HMM.out] at NJ hln
      have HSM := hide NJ.out.same
      have HLN := hide hln
      have HMW := hide NJ.out.map.wf
      have HMO := hide NJ.out.map.one
      have HWI := hide NJ.out.wid
      have hnb : ts.length ≤ 9223372036854775807 := by
        rcases NJ.out.own.lies with ⟨_, rfl⟩ | ⟨_, _, _, _, _, _, h1, h2, _⟩
        · simp
        · omega
      obtain ⟨n, HNL⟩ : ∃ n, Hid (ts.length = n) := ⟨_, hide rfl⟩
      have O0 : Hid (OwnT wr w.heap.size (.slice av ts.length cv) (ncur h ts m 0)) := hide (by rw [ncur_zero]; exact NJ.out.own)
      have M0 := hide NJ.out.map
      have B0 := hide NJ.out.bel
      rw [HNL.out] at O0 hnb ⊢
      clear NJ hln
      go_wp2_with fail
      go_loopw [59] (fun k wq => ∃ q : Nat, k = .int .i64 (q : Int) ∧ q ≤ n ∧ Hid (OwnT wq w.heap.size (.slice av n cv) (ncur h ts m q)) ∧ Hid (Mp wq mb m) ∧ Hid (Below w.heap.size w wq)) (fun k _ => n - (intOf k).toNat)
      case atStart => exact ⟨0, rfl, Nat.zero_le _, O0, M0, B0⟩
      case round =>
        obtain ⟨q, rfl, hq, OQ, MQ, BQ⟩ := hrel
        clear O0 M0 B0
        by_cases hqn : q < n
        · have hqn' : (q : Int) < (n : Int) := by omega
          obtain ⟨x, w0, hx, hget, hset⟩ := ncur_at HSM.out (k := q) (by rw [HNL.out]; exact hqn)
          have HSET := hide hset
          have HGET := hide hget
          have hmg : mget m x.1 = x.2 := mget_at HMO.out hx
          have HWF : Hid (wfK x.1) := hide (HMW.out x (List.mem_of_getElem? hx))
          have hxb := HWI.out x (List.mem_of_getElem? hx)
          obtain ⟨⟨p1, p2⟩, wd⟩ := x
          simp only at hmg hget hxb
          obtain ⟨g, rfl⟩ : ∃ g, av = some ⟨g, 0, none⟩ := by
            rcases OQ.out.lies with ⟨e1, e2⟩ | ⟨g, cap, cs, e1, _⟩
            · rw [e2] at hget; simp at hget
            · injection e1 with e1 _ _; exact ⟨g, e1⟩
          obtain ⟨q0, q1, q2, q3⟩ := OQ.out.cells q _ hget
          simp only at q0 q1 q2 q3
          have xa := atT g n cv q (q : Int) rfl hqn
          clear hx hget hset
          go_wp2_with (first | (refine step_alloc zT rfl ?_; intro w2 g16 hg16 hle16 hb16; have HG16 := hide hg16; clear hg16) | (refine step_storeA wT rfl rfl rfl HG16.out rfl (One.c4 (h : Int) p1 p2 w0) rfl ?_))
          intro w3 hg3 hbut3
          have hb3 : Below wr.heap.size wr w3 := hb16.trans (hbut3.below hle16)
          have O3 := hide (OQ.out.below hb3)
          have M3 := hide (MQ.out.below hb3)
          have B3 := hide (on_below BQ.out hb3)
          have T3 : Hid (Blk w3 g16 25 (c4 (h : Int) p1 p2 w0)) := hide hg3
          clear hb3 hb16 hle16 hbut3 hg3 HG16 OQ MQ BQ q0 q1 q2 q3
          go_wp2_with (refine step_loadA wT rfl rfl T3.out rfl ?_)
          refine (placeOfN_any (h : Int) p1 p2 w0 _).mono ?_
          rintro r w4 ⟨rfl, hb4⟩
          have O4 := hide (O3.out.below hb4)
          have M4 := hide (M3.out.below hb4)
          have B4 := hide (on_below B3.out hb4)
          clear hb4 O3 M3 B3 T3
          obtain ⟨q0, q1, q2, q3⟩ := O4.out.cells q _ HGET.out
          simp only at q0 q1 q2 q3
          have hfz : w4.frozen? ⟨g, q * 4 + 3, none⟩ = false := by
            rcases O4.out.lies with ⟨e1, _⟩ | ⟨g', cap', cs, e1, _, hb, _⟩
            · cases e1
            · injection e1 with e1 _ _
              injection e1 with e1
              injection e1 with e1 _ _
              subst e1
              exact hb.free _
          have hmg2 := hmg
          go_wp2_with (refine step_lookupP (k := (p1, p2)) rfl rfl rfl M4.out HWF.out ?_)
          obtain ⟨w5, hw5⟩ : ∃ v : World, v = w4.setCell ⟨g, q * 4 + 3, none⟩ (.int .i64 wd) := ⟨_, rfl⟩
          have hbut5 : But g w4 w5 := by rw [hw5]; exact But.setCell _ _ _ _
          have hgl : w.heap.size ≤ g := (O4.out.lt g rfl).1
          have hgm : mb ≠ g := fun e => (O4.out.apartM M4.out) (by rw [e]; rfl)
          have O5 : Hid (OwnT w5 w.heap.size (.slice (some ⟨g, 0, none⟩) n cv) (ncur h ts m (q + 1))) := hide (by
            rw [HSET.out]
            refine OwnT.set O4.out q (mT h ((p1, p2), wd)) (by rw [ncur_len HLN.out (by rw [HNL.out]; omega), HNL.out]; exact hqn) (fun cs hb hl => ?_)
            rw [hb.cell] at q0 q1 q2
            have hs := spl_width (e := Value.int .i64 wd) q0 q1 q2 hl
            rw [hw5]
            have h5 := hb.set (q * 4 + 3) (.int .i64 wd)
            rw [hs] at h5
            exact h5)
          have M5 := hide (M4.out.but hbut5 hgm)
          have B5 := hide (B4.out.trans (hbut5.below hgl))
          rw [← hw5]
          clear hw5 hbut5 O4 M4 B4 q0 q1 q2 q3 hfz HSET HGET
          go_wp2
          go_roundw
          case rel => exact ⟨q + 1, by simp, hqn, O5, M5, B5⟩
          case measure => simp only [intOf]; omega
        · obtain rfl : q = n := by omega
          have HEN : Hid (ncur h ts m q = m.map (mT h)) := hide (by rw [← HNL.out]; exact ncur_all HLN.out)
          go_wp2
          go_ret2
          exact ⟨_, rfl, by rw [HMM.out, ← HEN.out]; exact OQ.out, BQ.out⟩

theorem need_bad1 (h : Int) (a : Option Addr) (len cap : Nat) (w : World) (hh : h < 1 ∨ 8 < h) :
    Calls Try.prog 16 #[.int .i64 h, .slice a len cap] w fun r w' => r = .returned (.tuple #[.slice none 0 0, .int .i64 2]) ∧ Below w.heap.size w w' := by
  go_enter Try.func16, Try.ntmps16
  go_wp2_with (go_at_call 18; refine (isHeight_no h _ hh).mono ?_; rintro r w' ⟨rfl, rfl⟩)
  go_ret2
  exact ⟨rfl, Below.refl _ _⟩
set_option maxRecDepth 100000 in
set_option maxHeartbeats 2000000 in
theorem need_bad2 (h J : Nat) (a : Option Addr) (len cap : Nat) (ns : List (Int × Int)) (y1 y2 : Int) (w : World) (hh : isH h) (hs : Nds w a len cap ns) (hv : ∀ i x, i < J → ns[i]? = some x → V x.1 x.2) (hJ : ns[J]? = some (y1, y2)) (hy : ¬ V y1 y2) (hsm : len ≤ 1048576) :
    Calls Try.prog 16 #[.int .i64 (h : Int), .slice a len cap] w fun r w' => r = .returned (.tuple #[.slice none 0 0, .int .i64 2]) ∧ Below w.heap.size w w' := by
  have HH := hide hh
  have HS := hide hs
  have HV := hide hv
  have HL := hide hs.hlen
  have HJ := hide hJ
  have HYY := hide hy
  have hJl : J < len := by
    have := (List.getElem?_eq_some_iff.1 hJ).1
    rw [hs.hlen] at this
    exact this
  clear hh hs hv hJ hy
  go_enter Try.func16, Try.ntmps16
  go_wp2_with (first | (go_at_call 18; refine (isHeight_yes h _ HH.out).mono ?_; rintro r v ⟨rfl, hv⟩; replace hv := hv.symm; subst hv) | (refine step_mkP rfl ?_; intro w1 mb hm1 hlm hb1; have N1 := hide (⟨OwnT.nil w1 w.heap.size, rfl, hm1, (fun x hx => by cases hx), hb1, hlm⟩ : NI h w w1 mb (.slice none 0 0) [] []); clear hm1 hlm hb1))
  go_loopw [7, 23] (fun o k wr => ∃ (j : Nat) (ts : List Tl), k = .int .i64 (j : Int) ∧ j ≤ J ∧ Hid (NI h w wr mb o ts (nwid h (ns.take j)))) (fun _ k _ => J - (intOf k).toNat)
  case atStart => exact ⟨0, [], rfl, Nat.zero_le _, N1⟩
  case round =>
    obtain ⟨j, ts, rfl, hj, NJ⟩ := hrel
    clear N1
    by_cases hcJ : j < J
    · have hc : j < len := by omega
      have hc' : (j : Int) < (len : Int) := by omega
      obtain ⟨x, hx⟩ : ∃ x, ns[j]? = some x := ⟨ns[j]'(by rw [HL.out]; exact hc), List.getElem?_eq_getElem (by rw [HL.out]; exact hc)⟩
      have HNX : Hid (nwid h (ns.take (j + 1)) = nstep h (nwid h (ns.take j)) x) := hide (by
        rw [← nwid_snoc]
        congr 1
        rw [List.take_add_one, hx]
        rfl)
      obtain ⟨b, o, rfl, c0, c1⟩ := (HS.out.below NJ.out.bel (Nat.le_refl _)).hcell j x hx
      obtain ⟨L, I, e1, e2, hL, hI⟩ := (HV.out j x hcJ hx).nats
      obtain ⟨x1, x2⟩ := x
      simp only at e1 e2 c0 c1
      subst e1 e2
      have xa := n_at b o len cap j (j : Int) rfl hc
      have hbd := npl_bd HH.out ((L : Int), (I : Int))
      have HNP : Hid (npl h ((L : Int), (I : Int)) = ((((L / h : Nat) : Int), ((oX h L I : Nat) : Int)), ((oT h L I : Nat) : Int))) := hide (by unfold npl; simp only [Int.toNat_natCast])
      have HOF : Hid (∀ v : World, Calls Try.prog 7 #[.int .i64 (h : Int), .agg (c2 (L : Int) (I : Int)).toArray] v fun r w' => r = .returned (.tuple #[.agg (c4 (h : Int) (L / h : Nat) (oX h L I : Nat) (oT h L I : Nat)).toArray, .int .i64 (oF h L I : Nat), .int .i64 (oT h L I : Nat), .int .i64 0]) ∧ Below v.heap.size v w') := hide (fun v => of_ok h L I v HH.out hL hI)
      have hfx := of_facts HH.out hL hI
      have HWF : Hid (wfK (((L / h : Nat) : Int), ((oX h L I : Nat) : Int))) := hide (by
        obtain ⟨r, R, A, P, F, _, _, _, e4, _, _, e7, _, _, _, k4, _, _, _, _, _, _, _, _, _, _, _, _, _, hAP, hLh, _⟩ := hfx
        exact ⟨wf_nat (by omega), wf_nat (by rw [e7]; exact hAP)⟩)
      rw [HNP.out] at hbd
      unfold nstep at HNX
      rw [HNP.out] at HNX
      simp only at HNX hbd
      clear hfx HNP hx
      generalize ((L / h : Nat) : Int) = p1 at *
      generalize ((oX h L I : Nat) : Int) = p2 at *
      generalize ((oT h L I : Nat) : Int) = wd at *
      generalize ((oF h L I : Nat) : Int) = Fr at *
      generalize (L : Int) = LI at *
      generalize (I : Int) = II at *
      have hfew : (nwid h (ns.take j)).length ≤ len := by
        have h1 := nwid_len h (ns.take j) []
        have h2 : (ns.take j).length ≤ len := by rw [List.length_take]; omega
        unfold nwid
        simp only [List.length_nil] at h1
        omega
      generalize nwid h (ns.take j) = m at *
      go_wp2_with (first | (refine step_alloc zN rfl ?_; intro w2 g9 hg9 hle9 hb9; have HG9 := hide hg9; clear hg9) | (refine step_storeA wN rfl rfl rfl HG9.out rfl (One.c2 LI II) rfl ?_))
      intro w3 hg3 hbut3
      have hb3 : Below wr.heap.size wr w3 := hb9.trans (hbut3.below hle9)
      have N3 := hide (NJ.out.on hb3)
      have G3 := hide hg3
      clear hg3 hbut3 hb3 hb9 hle9 HG9 NJ c0 c1 xa
      go_wp2_with (refine step_loadA wN rfl rfl G3.out rfl ?_)
      refine (HOF.out _).mono ?_
      rintro r w4 ⟨rfl, hb4⟩
      have N4 := hide (N3.out.on hb4)
      clear hb4 N3 G3 HOF
      go_wp2_with (first | (refine step_alloc zT rfl ?_; intro w5 g10 hg10 hle10 hb10; have HG10 := hide hg10; clear hg10) | (refine step_storeA wT rfl rfl rfl HG10.out rfl (One.c4 (h : Int) p1 p2 wd) rfl ?_))
      intro w6 hg6 hbut6
      have hb6 : Below w4.heap.size w4 w6 := hb10.trans (hbut6.below hle10)
      have N6 := hide (N4.out.on hb6)
      have T6 := hide hg6
      have HN10 : Hid (u7.ownBlock ≠ some g10) := hide (fun hk => by have := (N4.out.own.lt _ hk).2; omega)
      clear hg6 hbut6 hb6 hb10 hle10 HG10 N4
      go_wp2_with (refine step_loadA wT rfl rfl T6.out rfl ?_)
      refine (placeOfN_any (h : Int) p1 p2 wd _).mono ?_
      rintro r w7 ⟨rfl, hb7⟩
      have N7 := hide (N6.out.on hb7)
      have T7 := hide (T6.out.on hb7)
      clear hb7 N6 T6
      go_wp2_with (first | (refine step_alloc zPl rfl ?_; intro w8 g14 hg14 hle14 hb14; have HG14 := hide hg14; clear hg14) | (refine step_storeA wPl rfl rfl rfl HG14.out rfl (One.c2 p1 p2) rfl ?_))
      intro w8a hg8 hbut8
      have hb8 : Below w7.heap.size w7 w8a := hb14.trans (hbut8.below hle14)
      have N8 := hide (N7.out.on hb8)
      have T8 := hide (T7.out.on hb8)
      have P8 := hide hg8
      have HN14 : Hid (u7.ownBlock ≠ some g14) := hide (fun hk => by have := (N7.out.own.lt _ hk).2; omega)
      clear hg8 hbut8 hb8 hb14 hle14 HG14 N7 T7
      have hmb := mget_bd (k := (p1, p2)) N8.out.map.one N8.out.wid
      by_cases hin : (p1, p2) ∈ m.map (·.1)
      · have hm0 : ¬ mget m (p1, p2) = 0 := fun e => absurd hin ((mget_zero N8.out.map.one N8.out.wid).1 e)
        have hm0b : (mget m (p1, p2) == 0) = false := by simp [hm0]
        go_wp2_with (first | (refine step_loadA wPl rfl rfl P8.out rfl ?_) | (refine step_lookupP (k := (p1, p2)) rfl rfl rfl N8.out.map HWF.out ?_))
        have M8 := hide N8.out.map
        go_wp2_with fail
        have HI1 : Hid ((Try.prog.info? 61).map (·.size) = some (c2 p1 p2).length) := hide (by rw [wPl.size]; rfl)
        have HPR : Hid (∀ v : World, Below w8a.heap.size w8a v → v.rangeAt g14 0 (c2 p1 p2)) := hide (fun v hv => (P8.out.on hv).range 0 _ (by simp))
        have HC3 : Hid (∀ v : World, Below w8a.heap.size w8a v → v.cell? ⟨g10, 3, none⟩ = some (.int .i64 wd)) := hide (fun v hv => (T8.out.on hv).four.2.2.2)
        have HLK : Hid (∀ v : World, Below w8a.heap.size w8a v → (Instr.lookup 59 (.map (some mb)) (pkey (p1, p2)) false).run Try.prog v = .ok (.int .i64 (mget m (p1, p2))) v) := hide (fun v hv => lookup_isP (M8.out.below hv) (p1, p2) HWF.out)
        refine wp_region_noPanic ?_
        refine wp_region_U (q := 8) (S := fun v : World => Below w8a.heap.size w8a v) (by kernel_rfl) ?_
        have Z0 := hide ((Below.refl w8a.heap.size w8a).drew)
        have hHeld := Z0.out
        refine takeU 8 0 48 (.map (some mb)) hHeld rfl rfl (by kernel_rfl) (by kernel_rfl) (by kernel_rfl) (by kernel_rfl) (by kernel_rfl) (by kernel_rfl) (fun _ _ _ h => h) (Or.inl ⟨by rfl, fun w _ => by go_simp⟩) ?_
        simp only [Act.put, List.setIfInBounds_toArray, List.set_cons_zero, List.set_cons_succ]
        refine takeU 8 1 49 (.agg (c2 p1 p2).toArray) hHeld rfl rfl (by kernel_rfl) (by kernel_rfl) (by kernel_rfl) (by kernel_rfl) (by kernel_rfl) (by kernel_rfl) (fun _ _ _ h => h) (yieldsIf_load_mid (by rfl) _ _ rfl g14 0 rfl _ _ (fun w h => HPR.out w h) Try.underlying61 rfl HI1.out) ?_
        simp only [Act.put, List.setIfInBounds_toArray, List.set_cons_zero, List.set_cons_succ]
        refine takeU 8 2 50 (.map (some mb)) hHeld rfl rfl (by kernel_rfl) (by kernel_rfl) (by kernel_rfl) (by kernel_rfl) (by kernel_rfl) (by kernel_rfl) (fun _ _ _ h => h) (Or.inl ⟨by rfl, fun w _ => by go_simp⟩) ?_
        simp only [Act.put, List.setIfInBounds_toArray, List.set_cons_zero, List.set_cons_succ]
        refine takeU 8 3 51 (.agg (c2 p1 p2).toArray) hHeld rfl rfl (by kernel_rfl) (by kernel_rfl) (by kernel_rfl) (by kernel_rfl) (by kernel_rfl) (by kernel_rfl) (fun _ _ _ h => h) (yieldsIf_load_mid (by rfl) _ _ rfl g14 0 rfl _ _ (fun w h => HPR.out w h) Try.underlying61 rfl HI1.out) ?_
        simp only [Act.put, List.setIfInBounds_toArray, List.set_cons_zero, List.set_cons_succ]
        refine takeU 8 4 52 (.int .i64 (mget m (p1, p2))) hHeld rfl rfl (by kernel_rfl) (by kernel_rfl) (by kernel_rfl) (by kernel_rfl) (by kernel_rfl) (by kernel_rfl) (fun _ _ _ h => h) (Or.inl ⟨by rfl, fun w h => run_op rfl (HLK.out w h)⟩) ?_
        simp only [Act.put, List.setIfInBounds_toArray, List.set_cons_zero, List.set_cons_succ]
        refine takeU 8 5 53 (.pointer (some ⟨g10, 3, none⟩)) hHeld rfl rfl (by kernel_rfl) (by kernel_rfl) (by kernel_rfl) (by kernel_rfl) (by kernel_rfl) (by kernel_rfl) (fun _ _ _ h => h) (Or.inl ⟨by rfl, fun w _ => by go_simp⟩) ?_
        simp only [Act.put, List.setIfInBounds_toArray, List.set_cons_zero, List.set_cons_succ]
        refine takeU 8 6 54 (.int .i64 wd) hHeld rfl rfl (by kernel_rfl) (by kernel_rfl) (by kernel_rfl) (by kernel_rfl) (by kernel_rfl) (by kernel_rfl) (fun _ _ _ h => h) (Or.inl ⟨by rfl, fun w hw => by have hw' : w.cell? ⟨g10, 3, none⟩ = some (.int .i64 wd) := (fun hw => HC3.out _ hw) hw; go_simp⟩) ?_
        simp only [Act.put, List.setIfInBounds_toArray, List.set_cons_zero, List.set_cons_succ]
        refine takeU 8 7 55 (.int .i64 (max (mget m (p1, p2)) wd)) hHeld rfl rfl (by kernel_rfl) (by kernel_rfl) (by kernel_rfl) (by kernel_rfl) (by kernel_rfl) (by kernel_rfl) (fun _ _ _ h => h) (Or.inl ⟨by rfl, fun w _ => by go_simp⟩) ?_
        simp only [Act.put, List.setIfInBounds_toArray, List.set_cons_zero, List.set_cons_succ]
        refine wpAnyU_ready (rs := [8]) (by kernel_rfl) (by simp) (AllReadyU.cons rfl (fun K hK => ?_) AllReadyU.nil)
        rw [if_pos (by rfl)]
        refine wp_mapUpP (k := (p1, p2)) rfl rfl rfl (M8.out.below Z0.out) HWF.out ?_
        intro wx hmx hbx
        refine hK.out _ _ (fun h => absurd h (by decide)) ?_
        clear hK K
        simp only [Act.put]
        refine wpAnyU_done (by kernel_rfl) ?_ _
        refine NoPanic.normal ?_
        have NX : Hid (NI h w wx mb u7 ts (nwid h (ns.take (j + 1)))) := hide (by
          rw [HNX.out]
          have k0 := N8.out.on Z0.out
          have ks := sameP_step (k := (p1, p2)) (v := max (mget m (p1, p2)) wd) (wd := wd) k0.same
          rw [if_pos hin] at ks
          exact ⟨k0.own.but hbx (k0.own.apartM k0.map), ks, hmx, wid1_put k0.wid (by omega), k0.bel.trans (hbx.below k0.lmb), k0.lmb⟩)
        clear hmx hbx N8 T8 P8 HNX
        go_wp2
        go_roundw
        case rel => exact ⟨j + 1, ts, by simp, hcJ, NX⟩
        case measure => simp only [intOf]; omega
      · have hm0 : mget m (p1, p2) = 0 := mget_no hin
        have HM0 := hide hm0
        have hlenT : ts.length ≤ 1048576 := by rw [N8.out.same.len]; omega
        have HLT := hide hlenT
        clear hlenT
        go_wp2_with (first | (refine step_loadA wPl rfl rfl P8.out rfl ?_) | (refine step_lookupP (k := (p1, p2)) rfl rfl rfl N8.out.map HWF.out ?_) | (refine step_loadA wT rfl rfl T8.out rfl ?_) | (refine steponeT (n := ((h : Int), p1, p2, wd)) rfl rfl ?_))
        intro wa ga hga hlea hba
        have Na := hide (N8.out.on hba)
        have Ta := hide (T8.out.on hba)
        have Pa := hide (P8.out.on hba)
        clear hba hlea N8 T8 P8
        go_wp2_with (refine stepappT rfl rfl rfl Na.out.own hga HLT.out Na.out.bel.size ?_)
        intro vb wb hob hgb0 _
        have hgb : wa.grownBy wb u7.ownBlock := hgb0
        have Mb := hide (Na.out.map.grown hgb (Na.out.own.apartM Na.out.map))
        have Tb := hide (Ta.out.grew hgb HN10.out)
        have Pb := hide (Pa.out.grew hgb HN14.out)
        have Bb := hide (Na.out.bel.grown hgb Na.out.bel.size (fun k hk => (Na.out.own.lt k hk).1))
        have Ob := hide hob
        have Sb := hide Na.out.same
        have Wb := hide Na.out.wid
        have Lb := hide Na.out.lmb
        obtain ⟨av, nv, cv, rfl⟩ := hob.slice
        clear hob hgb0 hgb Na Ta Pa hga
        go_wp2_with fail
        have HI1 : Hid ((Try.prog.info? 61).map (·.size) = some (c2 p1 p2).length) := hide (by rw [wPl.size]; rfl)
        have HPR : Hid (∀ v : World, Below wb.heap.size wb v → v.rangeAt g14 0 (c2 p1 p2)) := hide (fun v hv => (Pb.out.on hv).range 0 _ (by simp))
        have HC3 : Hid (∀ v : World, Below wb.heap.size wb v → v.cell? ⟨g10, 3, none⟩ = some (.int .i64 wd)) := hide (fun v hv => (Tb.out.on hv).four.2.2.2)
        have HLK : Hid (∀ v : World, Below wb.heap.size wb v → (Instr.lookup 59 (.map (some mb)) (pkey (p1, p2)) false).run Try.prog v = .ok (.int .i64 (mget m (p1, p2))) v) := hide (fun v hv => lookup_isP (Mb.out.below hv) (p1, p2) HWF.out)
        refine wp_region_noPanic ?_
        refine wp_region_U (q := 8) (S := fun v : World => Below wb.heap.size wb v) (by kernel_rfl) ?_
        have Z0 := hide ((Below.refl wb.heap.size wb).drew)
        have hHeld := Z0.out
        refine takeU 8 0 48 (.map (some mb)) hHeld rfl rfl (by kernel_rfl) (by kernel_rfl) (by kernel_rfl) (by kernel_rfl) (by kernel_rfl) (by kernel_rfl) (fun _ _ _ h => h) (Or.inl ⟨by rfl, fun w _ => by go_simp⟩) ?_
        simp only [Act.put, List.setIfInBounds_toArray, List.set_cons_zero, List.set_cons_succ]
        refine takeU 8 1 49 (.agg (c2 p1 p2).toArray) hHeld rfl rfl (by kernel_rfl) (by kernel_rfl) (by kernel_rfl) (by kernel_rfl) (by kernel_rfl) (by kernel_rfl) (fun _ _ _ h => h) (yieldsIf_load_mid (by rfl) _ _ rfl g14 0 rfl _ _ (fun w h => HPR.out w h) Try.underlying61 rfl HI1.out) ?_
        simp only [Act.put, List.setIfInBounds_toArray, List.set_cons_zero, List.set_cons_succ]
        refine takeU 8 2 50 (.map (some mb)) hHeld rfl rfl (by kernel_rfl) (by kernel_rfl) (by kernel_rfl) (by kernel_rfl) (by kernel_rfl) (by kernel_rfl) (fun _ _ _ h => h) (Or.inl ⟨by rfl, fun w _ => by go_simp⟩) ?_
        simp only [Act.put, List.setIfInBounds_toArray, List.set_cons_zero, List.set_cons_succ]
        refine takeU 8 3 51 (.agg (c2 p1 p2).toArray) hHeld rfl rfl (by kernel_rfl) (by kernel_rfl) (by kernel_rfl) (by kernel_rfl) (by kernel_rfl) (by kernel_rfl) (fun _ _ _ h => h) (yieldsIf_load_mid (by rfl) _ _ rfl g14 0 rfl _ _ (fun w h => HPR.out w h) Try.underlying61 rfl HI1.out) ?_
        simp only [Act.put, List.setIfInBounds_toArray, List.set_cons_zero, List.set_cons_succ]
        refine takeU 8 4 52 (.int .i64 (mget m (p1, p2))) hHeld rfl rfl (by kernel_rfl) (by kernel_rfl) (by kernel_rfl) (by kernel_rfl) (by kernel_rfl) (by kernel_rfl) (fun _ _ _ h => h) (Or.inl ⟨by rfl, fun w h => run_op rfl (HLK.out w h)⟩) ?_
        simp only [Act.put, List.setIfInBounds_toArray, List.set_cons_zero, List.set_cons_succ]
        refine takeU 8 5 53 (.pointer (some ⟨g10, 3, none⟩)) hHeld rfl rfl (by kernel_rfl) (by kernel_rfl) (by kernel_rfl) (by kernel_rfl) (by kernel_rfl) (by kernel_rfl) (fun _ _ _ h => h) (Or.inl ⟨by rfl, fun w _ => by go_simp⟩) ?_
        simp only [Act.put, List.setIfInBounds_toArray, List.set_cons_zero, List.set_cons_succ]
        refine takeU 8 6 54 (.int .i64 wd) hHeld rfl rfl (by kernel_rfl) (by kernel_rfl) (by kernel_rfl) (by kernel_rfl) (by kernel_rfl) (by kernel_rfl) (fun _ _ _ h => h) (Or.inl ⟨by rfl, fun w hw => by have hw' : w.cell? ⟨g10, 3, none⟩ = some (.int .i64 wd) := (fun hw => HC3.out _ hw) hw; go_simp⟩) ?_
        simp only [Act.put, List.setIfInBounds_toArray, List.set_cons_zero, List.set_cons_succ]
        refine takeU 8 7 55 (.int .i64 (max (mget m (p1, p2)) wd)) hHeld rfl rfl (by kernel_rfl) (by kernel_rfl) (by kernel_rfl) (by kernel_rfl) (by kernel_rfl) (by kernel_rfl) (fun _ _ _ h => h) (Or.inl ⟨by rfl, fun w _ => by go_simp⟩) ?_
        simp only [Act.put, List.setIfInBounds_toArray, List.set_cons_zero, List.set_cons_succ]
        refine wpAnyU_ready (rs := [8]) (by kernel_rfl) (by simp) (AllReadyU.cons rfl (fun K hK => ?_) AllReadyU.nil)
        rw [if_pos (by rfl)]
        refine wp_mapUpP (k := (p1, p2)) rfl rfl rfl (Mb.out.below Z0.out) HWF.out ?_
        intro wx hmx hbx
        refine hK.out _ _ (fun h => absurd h (by decide)) ?_
        clear hK K
        simp only [Act.put]
        refine wpAnyU_done (by kernel_rfl) ?_ _
        refine NoPanic.normal ?_
        have NX : Hid (NI h w wx mb (.slice av nv cv) (ts ++ [((h : Int), p1, p2, wd)]) (nwid h (ns.take (j + 1)))) := hide (by
          rw [HNX.out]
          have ks := sameP_step (k := (p1, p2)) (v := max (mget m (p1, p2)) wd) (wd := wd) Sb.out
          rw [if_neg hin] at ks
          have k0 := Ob.out.below Z0.out
          exact ⟨k0.but hbx (k0.apartM (Mb.out.below Z0.out)), ks, hmx, wid1_put Wb.out (by omega), (on_below Bb.out Z0.out).trans (hbx.below Lb.out), Lb.out⟩)
        clear hmx hbx Mb Tb Pb Bb Ob HNX
        go_wp2
        go_roundw
        case rel => exact ⟨j + 1, _, by simp, hcJ, NX⟩
        case measure => simp only [intOf]; omega
    · obtain rfl : j = J := by omega
      have hc' : (j : Int) < (len : Int) := by omega
      obtain ⟨b, o, rfl, c0, c1⟩ := (HS.out.below NJ.out.bel (Nat.le_refl _)).hcell j _ HJ.out
      simp only at c0 c1
      have xa := n_at b o len cap j (j : Int) rfl hJl
      have HOF : Hid (∀ v : World, Calls Try.prog 7 #[.int .i64 (h : Int), .agg (c2 y1 y2).toArray] v fun r w' => r = .returned (.tuple #[.agg (c4 0 0 0 0).toArray, .int .i64 0, .int .i64 0, .int .i64 2]) ∧ Below v.heap.size v w') := hide (fun v => of_no2 h y1 y2 v HH.out HYY.out)
      go_wp2_with (first | (refine step_alloc zN rfl ?_; intro w2 g9 hg9 hle9 hb9; have HG9 := hide hg9; clear hg9) | (refine step_storeA wN rfl rfl rfl HG9.out rfl (One.c2 y1 y2) rfl ?_))
      intro w3 hg3 hbut3
      have hb3 : Below wr.heap.size wr w3 := hb9.trans (hbut3.below hle9)
      have B3 := hide (on_below NJ.out.bel hb3)
      have G3 := hide hg3
      clear hg3 hbut3 hb3 hb9 hle9 HG9 NJ c0 c1 xa
      go_wp2_with (refine step_loadA wN rfl rfl G3.out rfl ?_)
      refine (HOF.out _).mono ?_
      rintro r w4 ⟨rfl, hb4⟩
      have B4 := hide (on_below B3.out hb4)
      clear hb4 B3 G3 HOF
      go_wp2_with (first | (refine step_alloc zT rfl ?_; intro w5 g10 hg10 hle10 hb10; have HG10 := hide hg10; clear hg10) | (refine step_storeA wT rfl rfl rfl HG10.out rfl (One.c4 0 0 0 0) rfl ?_))
      intro w6 hg6 hbut6
      have B6 := hide (on_below B4.out (hb10.trans (hbut6.below hle10)))
      clear hg6 hbut6 hb10 hle10 HG10 B4
      go_wp2
      go_ret2
      exact ⟨rfl, B6.out⟩

end Go.Proofs.Ytnlpgkfmjlljdaa
