/-
  The document's Add: a digest more.
-/
import Derived.Test.YtabpfbankinojaaDpg
namespace Go.Proofs.Ytabpfbankinojaa
open Go.RowKit Go.Shelf
set_option linter.unusedVariables false
set_option linter.unusedSimpArgs false
set_option maxRecDepth 100000

theorem n_to (g n cap k : Nat) (K : Int) (hK : K = (k : Int)) (hk : k ≤ cap) (v : World) : (Instr.slice 28 (.slice (some ⟨g, 0, none⟩) n cap) none (some (.int .i64 K)) none).run Try.prog v = .ok (.slice (some ⟨g, 0, none⟩) k cap) v := by
  subst hK
  have := run_slice_h v 28 (some ⟨g, 0, none⟩) n cap roN.und2 .i64 k (by omega) (by omega)
  rw [roN.el, roN.sz] at this
  simpa [sliced, Addr.add_lit] using this
theorem Vw.butT {w w' : World} {e t : TypeId} {q g n : Nat} {v : Value} {xs ds : List Value} (h : Vw w e q v n xs) (hb : But g w w') (hg : Blk w g t ds) (ht : e ≠ t) : Vw w' e q v n xs := by
  obtain ⟨h1, a, c, h2, h3, h4⟩ := h
  exact ⟨h1, a, c, h2, h3, fun h0 => by obtain ⟨g', o, cs', e1, e2, e3⟩ := h4 h0; exact ⟨g', o, cs', e1, e2.but hb (e2.apart hg ht), e3⟩⟩
theorem Vw.onlyT {w w' : World} {e t : TypeId} {q g n : Nat} {v : Value} {xs ds : List Value} (h : Vw w e q v n xs) (hb : OnlyB g w w') (hg : Blk w g t ds) (ht : e ≠ t) : Vw w' e q v n xs := by
  obtain ⟨h1, a, c, h2, h3, h4⟩ := h
  exact ⟨h1, a, c, h2, h3, fun h0 => by obtain ⟨g', o, cs', e1, e2, e3⟩ := h4 h0; exact ⟨g', o, cs', e1, e2.only hb (e2.apart hg ht), e3⟩⟩
theorem last_at (t : List Nat) (h m : Nat) : ((h :: t).reverse ++ [m]).getD (t.length + 1) 0 = m ∧ ((h :: t).reverse ++ [m]).getD t.length 0 = h := by
  constructor
  · rw [List.getD_eq_getElem?_getD, List.getElem?_append_right (by simp)]
    simp
  · rw [List.getD_eq_getElem?_getD, List.getElem?_append_left (by simp), List.reverse_cons, List.getElem?_append_right (by simp)]
    simp
/-- A row's numbers, one by one. -/
theorem nrow_at {w : World} {B g cap n : Nat} {l : List Nat} (h : w.ownsRow B 3 1 (.slice (some ⟨g, 0, none⟩) n cap) n (ns l)) {i : Nat} (hi : i < n) : w.cell? ⟨g, i, none⟩ = some (.int .i64 (l.getD i 0 : Int)) := by
  obtain ⟨g', c', cs, e, hb, hc, hl⟩ := row_at h (by omega)
  injection e with e1 _ e3
  injection e1 with e1
  injection e1 with e1
  subst e1
  have hln : n = l.length := by
    have := congrArg List.length hc
    rw [List.length_take, ns_len] at this
    omega
  rw [hb.cell, ← ns_at l i (by omega), ← hc, List.getElem?_take, if_pos (by omega)]
theorem ns_app (a b : List Nat) : ns (a ++ b) = ns a ++ ns b := by simp [ns]
theorem ns_one (l : List Nat) : ∀ y ∈ ns l, y.oneCell' = true := by
  intro y hy
  simp only [ns, List.mem_map] at hy
  obtain ⟨n, _, rfl⟩ := hy
  rfl
theorem ns_cut (t : List Nat) (h m : Nat) : (ns ((h :: t).reverse ++ [m])).take (t.length * 1) = ns t.reverse := by
  rw [List.reverse_cons, List.append_assoc, ns_app, Nat.mul_one, List.take_left' (by rw [ns_len, List.length_reverse])]
theorem row_lit {w : World} {B q n : Nat} {e : TypeId} {v : Value} {xs : List Value} (h : w.ownsRow B e q v n xs) (hn : 0 < n) : ∃ g c, v = .slice (some ⟨g, 0, none⟩) n c ∧ n ≤ c := by
  obtain ⟨_, h2⟩ := h
  rcases h2 with ⟨_, h2⟩ | ⟨g, cap, cur, e', _, _, h3, _⟩
  · omega
  · exact ⟨g, cap, e', h3⟩
set_option maxHeartbeats 4000000 in
theorem addD_ok (iv rv : Value) (L : List Ent) (R : List Nat) (x : Ent) (w : World) (h : Dx w iv rv L R) (hn : L.length + 1 ≤ 3518437208883) (hq : 0 ≤ x.p) (hR : R.length ≤ 1048576) (hS : R.sum ≤ 4398046511104) (hf : fndR x.d L = none) :
    Calls Try.prog 11 #[.agg #[iv, rv], .agg (u8s x.d).toArray, .int .i64 x.p] w fun e w' => ∃ iv2 rv2, e = .returned (.tuple #[.agg #[iv2, rv2], .int .i64 0]) ∧ Dx w' iv2 rv2 (insK kE x L) (pushN R.reverse 1).reverse ∧ Below w.heap.size w w' := by
  have HF := hide hf
  have hl := x.hl
  have hb := x.hb
  clear hf
  obtain ⟨d, hd⟩ : ∃ d, x.d = d := ⟨_, rfl⟩
  have HDX := hide hd
  rw [hd] at hl hb HF
  obtain ⟨q, hqq⟩ : ∃ q, x.p = q := ⟨_, rfl⟩
  have HPX := hide hqq
  rw [hqq] at hq ⊢
  rw [hd]
  clear hd hqq
  have HDE := HDX
  have HRL := hide hR
  have HRS := hide hS
  clear hR hS
  have hn0 := hn
  clear HDX
  have HL := hide hl
  have HB := hide hb
  have HDX := hide h
  obtain ⟨ia, ic, rfl⟩ := h.si
  obtain ⟨ra, rc, rfl⟩ := h.sr
  obtain ⟨n, hnn⟩ : ∃ n, L.length = n := ⟨_, rfl⟩
  obtain ⟨m, hmm⟩ : ∃ m, R.length = m := ⟨_, rfl⟩
  have HN := hide hnn
  have HM := hide hmm
  rw [hnn, hmm] at HDX ⊢
  rw [hnn] at hn
  clear h hb hl hnn hmm
  go_enter Try.func11, Try.ntmps11
  go_wp2_with (refine step_box (cs := [.slice ia n ic, .slice ra m rc]) rfl rfl ?_)
  intro w1 g1 hg1 hle1 hb1
  have G1 := hide hg1
  have B1 := hide hb1
  clear hg1 hb1
  go_wp2_with (refine step_box (cs := u8s d) rfl rfl ?_)
  intro w2 g2 hg2 hle2 hb2
  have G2 := hide hg2
  have G12 := hide (G1.out.on hb2)
  have B2 := hide (on_below B1.out hb2)
  clear hg2 hb2 hle1 hle2 B1 G1
  go_wp2_with (refine step_alloc zX rfl ?_)
  intro w3 g6 hg6 hle6 hb3
  have HA : Hid (DA w w3 g1 g2 g6 (.slice ia n ic) (.slice ra m rc) L R d) := hide ⟨G12.out.on hb3, G2.out.on hb3, hg6, (HDX.out.on B2.out).on hb3, on_below B2.out hb3, Nat.le_trans B2.out.size hle6⟩
  clear hg6 hle6 hb3 B2 G12 G2 HDX
  have hq' : ¬ q < 0 := by omega
  go_wp2_with (first | refine step_loadA wX rfl rfl HA.out.c1 rfl ?_ | refine step_loadA wideD rfl rfl HA.out.c2 (by rw [u8s_length, HL.out]) ?_)
  refine (findD_any (.slice ia n ic) (.slice ra m rc) L R d w3 HA.out.dx HL.out HB.out (by rw [HN.out]; omega)).mono ?_
  rintro e w4 ⟨rfl, hb4⟩
  have HA4 := hide (HA.out.on hb4)
  clear hb4 HA
  rw [HF.out]
  simp only [fO, Option.getD_some, Option.isSome_some, Option.getD_none, Option.isSome_none]
  go_wp2_with fail
  go_loopw [10] (fun s10 wr => ∃ (k : Nat), k ≤ n ∧ s10 = .int .i64 k ∧ Hid (∀ i a, i < k → L[i]? = some a → kE a < kE x) ∧ Hid (DA w wr g1 g2 g6 (.slice ia n ic) (.slice ra m rc) L R d)) (fun s10 _ => n - (intOf s10).toNat)
  case atStart => exact ⟨0, Nat.zero_le _, rfl, hide (fun i a h => absurd h (Nat.not_lt_zero _)), HA4⟩
  case round =>
    clear HA4
    obtain ⟨k, hk, rfl, HK, H4⟩ := hrel
    have c0 : wr.cell? ⟨g1, 0, none⟩ = some (.slice ia n ic) := by rw [H4.out.c1.cell]; rfl
    have HC0 : Hid (∀ V : World, Below wr.heap.size wr V → V.cell? ⟨g1, 0, none⟩ = some (.slice ia n ic)) := hide (fun V hV => by rw [(H4.out.on hV).c1.cell]; rfl)
    by_cases hlt : k < n
    · have hlt' : (k : Int) < (n : Int) := by omega
      have hkL : k < L.length := by rw [HN.out]; exact hlt
      obtain ⟨g3, o3, hix, hrg⟩ := H4.out.dx.at hkL
      obtain ⟨y, hy⟩ : ∃ y, L[k] = y := ⟨_, rfl⟩
      rw [hy] at hrg
      have HIX := hide hix
      have HLY : Hid (L[k]? = some y) := hide (by rw [List.getElem?_eq_getElem hkL, hy])
      have HRG : Hid (∀ V : World, Below wr.heap.size wr V → V.rangeAt g3 o3 (pc y)) := hide fun V hV => hrg V (H4.out.on hV).dx
      have HRD : Hid (∀ V : World, Below wr.heap.size wr V → V.rangeAt g2 0 (u8s d)) := hide (fun V hV => ((H4.out.on hV).c2).range 0 _ (by rw [List.drop_zero, List.take_length]))
      have hu := aDd.und
      have HX1 : Hid ((Try.prog.info? 24).map (·.size) = some (u8s y.d).length) := hide (by rw [wideD.size, u8s_length, y.hl])
      have HX2 : Hid ((Try.prog.info? 24).map (·.size) = some (u8s d).length) := hide (by rw [wideD.size, u8s_length, HL.out])
      clear hy hix hrg c0
      go_wp2_with fail
      refine wp_region_noPanic ?_
      have BD := hide (Below.refl wr.heap.size wr).drew
      refine wp_region_held_drew (S := fun V : World => Below wr.heap.size wr V) (by kernel_rfl) BD.out (fun hHeld => ?_)
      refine takeH 0 24 (.int .i64 (k : Int)) hHeld rfl rfl (by kernel_rfl) (by kernel_rfl) (by kernel_rfl) (fun _ _ _ h => h) (Or.inl ⟨by rfl, fun w _ => by go_simp⟩) ?_
      simp only [Act.put, List.setIfInBounds_toArray, List.set_cons_zero, List.set_cons_succ]
      refine takeH 1 25 (.pointer (some ⟨g1, 0, none⟩)) hHeld rfl rfl (by kernel_rfl) (by kernel_rfl) (by kernel_rfl) (fun _ _ _ h => h) (Or.inl ⟨by rfl, fun w _ => by go_simp⟩) ?_
      simp only [Act.put, List.setIfInBounds_toArray, List.set_cons_zero, List.set_cons_succ]
      refine takeH 2 26 (.slice ia n ic) hHeld rfl rfl (by kernel_rfl) (by kernel_rfl) (by kernel_rfl) (fun _ _ _ h => h) (Or.inl ⟨by rfl, fun w hw => by have hw' : w.cell? ⟨g1, 0, none⟩ = some (.slice ia n ic) := (fun hw => HC0.out _ hw) hw; go_simp⟩) ?_
      simp only [Act.put, List.setIfInBounds_toArray, List.set_cons_zero, List.set_cons_succ]
      refine takeH 3 27 (.int .i64 (n : Int)) hHeld rfl rfl (by kernel_rfl) (by kernel_rfl) (by kernel_rfl) (fun _ _ _ h => h) (Or.inl ⟨by rfl, fun w _ => by go_simp⟩) ?_
      simp only [Act.put, List.setIfInBounds_toArray, List.set_cons_zero, List.set_cons_succ]
      refine takeH 4 28 (.bool true) hHeld rfl rfl (by kernel_rfl) (by kernel_rfl) (by kernel_rfl) (fun _ _ _ h => h) (Or.inl ⟨by rfl, fun w _ => by go_simp⟩) ?_
      simp only [Act.put, List.setIfInBounds_toArray, List.set_cons_zero, List.set_cons_succ]
      refine takeH 5 29 (.bool true) hHeld rfl rfl (by kernel_rfl) (by kernel_rfl) (by kernel_rfl) (fun _ _ _ h => h) (Or.inl ⟨by rfl, fun w _ => by go_simp⟩) ?_
      simp only [Act.put, List.setIfInBounds_toArray, List.set_cons_zero, List.set_cons_succ]
      refine takeH 6 30 (.pointer (some ⟨g1, 0, none⟩)) hHeld rfl rfl (by kernel_rfl) (by kernel_rfl) (by kernel_rfl) (fun _ _ _ h => h) (Or.inl ⟨by rfl, fun w _ => by go_simp⟩) ?_
      simp only [Act.put, List.setIfInBounds_toArray, List.set_cons_zero, List.set_cons_succ]
      refine takeH 7 31 (.slice ia n ic) hHeld rfl rfl (by kernel_rfl) (by kernel_rfl) (by kernel_rfl) (fun _ _ _ h => h) (Or.inl ⟨by rfl, fun w hw => by have hw' : w.cell? ⟨g1, 0, none⟩ = some (.slice ia n ic) := (fun hw => HC0.out _ hw) hw; go_simp⟩) ?_
      simp only [Act.put, List.setIfInBounds_toArray, List.set_cons_zero, List.set_cons_succ]
      refine takeH 8 32 (.int .i64 (k : Int)) hHeld rfl rfl (by kernel_rfl) (by kernel_rfl) (by kernel_rfl) (fun _ _ _ h => h) (Or.inl ⟨by rfl, fun w _ => by go_simp⟩) ?_
      simp only [Act.put, List.setIfInBounds_toArray, List.set_cons_zero, List.set_cons_succ]
      refine takeH 9 33 (.pointer (some ⟨g3, o3, none⟩)) hHeld rfl rfl (by kernel_rfl) (by kernel_rfl) (by kernel_rfl) (fun _ _ _ h => h) (Or.inl ⟨by rfl, fun w _ => run_op rfl (HIX.out w)⟩) ?_
      simp only [Act.put, List.setIfInBounds_toArray, List.set_cons_zero, List.set_cons_succ]
      refine takeH 10 34 (.pointer (some ⟨g3, o3, none⟩)) hHeld rfl rfl (by kernel_rfl) (by kernel_rfl) (by kernel_rfl) (fun _ _ _ h => h) (Or.inl ⟨by rfl, fun w _ => by go_simp⟩) ?_
      simp only [Act.put, List.setIfInBounds_toArray, List.set_cons_zero, List.set_cons_succ]
      refine takeH 11 35 (.agg (u8s y.d).toArray) hHeld rfl rfl (by kernel_rfl) (by kernel_rfl) (by kernel_rfl) (fun _ _ _ h => h) (yieldsIf_load_mid (by rfl) _ _ rfl g3 o3 rfl _ _ (fun V h => rangeAt_d (HRG.out V h)) hu rfl HX1.out) ?_
      simp only [Act.put, List.setIfInBounds_toArray, List.set_cons_zero, List.set_cons_succ]
      refine takeH 12 36 (.agg (u8s d).toArray) hHeld rfl rfl (by kernel_rfl) (by kernel_rfl) (by kernel_rfl) (fun _ _ _ h => h) (yieldsIf_load_mid (by rfl) _ _ rfl g2 0 rfl _ _ (fun V h => HRD.out V h) hu rfl HX2.out) ?_
      simp only [Act.put, List.setIfInBounds_toArray, List.set_cons_zero, List.set_cons_succ]
      refine wpAnyH_ready (rs := [13]) (by kernel_rfl) (by simp) (AllReadyH.cons rfl (fun K hK => ?_) AllReadyH.nil)
      rw [if_pos (by rfl)]
      go_simp
      refine (less_any y.d d _ y.hl HL.out y.hb HB.out).mono ?_
      rintro e w5 ⟨rfl, hb5⟩
      have B5' := hide (on_below BD.out hb5)
      have H5 := hide (H4.out.on B5'.out)
      clear hb5
      refine hK.out _ _ (B5'.out) (fun hHeld => ?_)
      clear hK K
      try simp only [Act.put, List.setIfInBounds_toArray, List.set_cons_zero, List.set_cons_succ]
      by_cases hyd : kD y.d < kD d
      · have hdc : decide (kD y.d < kD d) = true := decide_eq_true hyd
        rw [hdc]
        have HK2 : Hid (∀ i a, i < k + 1 → L[i]? = some a → kE a < kE x) := hide (fun i a h1 h2 => by
          by_cases e : i = k
          · subst e
            rw [HLY.out] at h2
            injection h2 with h2
            subst h2
            unfold kE
            rw [HDE.out]
            exact hyd
          · exact HK.out i a (by omega) h2)
        clear hyd hdc HRG HRD HIX HC0
        refine takeH 14 38 (.bool true) hHeld rfl rfl (by kernel_rfl) (by kernel_rfl) (by kernel_rfl) (fun _ _ _ h => h) (Or.inl ⟨by rfl, fun w _ => by go_simp⟩) ?_
        simp only [Act.put, List.setIfInBounds_toArray, List.set_cons_zero, List.set_cons_succ]
        refine wpAnyH_done (by kernel_rfl) ?_ _
        refine NoPanic.normal ?_
        clear hHeld
        go_wp2
        exact ⟨⟨k + 1, by omega, by go_num, HK2, H5⟩, by simp [intOf]; omega⟩
      · have hdc : decide (kD y.d < kD d) = false := decide_eq_false hyd
        rw [hdc]
        have HI : Hid (insK kE x L = L.take k ++ x :: L.drop k) := hide (insK_at x HK.out (fun a h2 => by
          rw [HLY.out] at h2
          injection h2 with h2
          subst h2
          unfold kE
          rw [HDE.out]
          exact hyd) (by omega))
        clear hyd hdc HRG HRD HIX HC0 H4 HK HX1 HX2
        refine takeH 14 38 (.bool false) hHeld rfl rfl (by kernel_rfl) (by kernel_rfl) (by kernel_rfl) (fun _ _ _ h => h) (Or.inl ⟨by rfl, fun w _ => by go_simp⟩) ?_
        simp only [Act.put, List.setIfInBounds_toArray, List.set_cons_zero, List.set_cons_succ]
        refine wpAnyH_done (by kernel_rfl) ?_ _
        refine NoPanic.normal ?_
        clear hHeld
        go_wp2_with fail
        obtain ⟨vA, hto, hvt⟩ := Vw.to roI (k := k) H5.out.dx.i (by rw [HN.out]; omega)
        obtain ⟨vB, hfr, hvf⟩ := Vw.from roI (k := k) H5.out.dx.i (by rw [HN.out]; omega)
        have HTO := hide hto
        have HFR := hide hfr
        have HC1 : Hid (∀ z : World, Below w5.heap.size w5 z → z.cell? ⟨g1, 0, none⟩ = some (.slice ia n ic)) := hide (fun z hz => by rw [(H5.out.on hz).c1.cell]; rfl)
        have HRX : Hid (∀ z : World, Below w5.heap.size w5 z → z.rangeAt g2 0 (u8s d)) := hide (fun z hz => ((H5.out.on hz).c2).range 0 _ (by rw [List.drop_zero, List.take_length]))
        have HVA : Hid (∀ z : World, Below w5.heap.size w5 z → Vw z 56 33 vA k ((pcs L).take (k * 33))) := hide (fun z hz => hvt z (H5.out.on hz).dx.i)
        have HVB : Hid (∀ z : World, Below w5.heap.size w5 z → Vw z 56 33 vB (n - k) ((pcs L).drop (k * 33))) := hide (fun z hz => by
          have := hvf z (H5.out.on hz).dx.i
          rwa [HN.out] at this)
        have ONE1 : Hid (∀ y ∈ (pcs L).take (k * 33), y.oneCell' = true) := hide (fun y hy => pcs_one L y ((List.take_sublist _ _).subset hy))
        have ONE2 : Hid (∀ y ∈ (pcs L).drop (k * 33), y.oneCell' = true) := hide (fun y hy => pcs_one L y ((List.drop_sublist _ _).subset hy))
        have hu := aDd.und
        have HX2 : Hid ((Try.prog.info? 24).map (·.size) = some (u8s d).length) := hide (by rw [wideD.size, u8s_length, HL.out])
        clear hto hfr hvt hvf
        go_wp2_with fail
        refine join4 (fun a1 a2 a3 u W => Hid (W.ownsRow w5.heap.size 56 33 u (k + 1) ((pcs L).take (k * 33) ++ pc x)) ∧ Hid (Below w5.heap.size w5 W)) ?act1 ?tail1 (fun hjoin => ?_)
        rotate_left
        rotate_left
        · refine wp_region_noPanic ?_
          refine wp_region_U (q := 11) (S := fun z : World => Below w5.heap.size w5 z) (by kernel_rfl) ?_
          have Z0 := hide ((Below.refl w5.heap.size w5).drew)
          have hHeld := Z0.out
          refine takeU 11 1 42 (.pointer (some ⟨g1, 0, none⟩)) hHeld rfl rfl (by kernel_rfl) (by kernel_rfl) (by kernel_rfl) (by kernel_rfl) (by kernel_rfl) (by kernel_rfl) (fun _ _ _ h => h) (Or.inl ⟨by rfl, fun w _ => by go_simp⟩) ?_
          simp only [Act.put, List.setIfInBounds_toArray, List.set_cons_zero, List.set_cons_succ]
          refine takeU 11 2 43 (.slice ia n ic) hHeld rfl rfl (by kernel_rfl) (by kernel_rfl) (by kernel_rfl) (by kernel_rfl) (by kernel_rfl) (by kernel_rfl) (fun _ _ _ h => h) (Or.inl ⟨by rfl, fun w hw => by have hw' : w.cell? ⟨g1, 0, none⟩ = some (.slice ia n ic) := (fun hw => HC1.out _ hw) hw; go_simp⟩) ?_
          simp only [Act.put, List.setIfInBounds_toArray, List.set_cons_zero, List.set_cons_succ]
          refine takeU 11 3 44 (.int .i64 (k : Int)) hHeld rfl rfl (by kernel_rfl) (by kernel_rfl) (by kernel_rfl) (by kernel_rfl) (by kernel_rfl) (by kernel_rfl) (fun _ _ _ h => h) (Or.inl ⟨by rfl, fun w _ => by go_simp⟩) ?_
          simp only [Act.put, List.setIfInBounds_toArray, List.set_cons_zero, List.set_cons_succ]
          refine takeU 11 4 45 (vA) hHeld rfl rfl (by kernel_rfl) (by kernel_rfl) (by kernel_rfl) (by kernel_rfl) (by kernel_rfl) (by kernel_rfl) (fun _ _ _ h => h) (Or.inl ⟨by rfl, fun w h => run_op rfl (HTO.out w)⟩) ?_
          simp only [Act.put, List.setIfInBounds_toArray, List.set_cons_zero, List.set_cons_succ]
          refine takeU 11 6 47 (.agg (u8s d).toArray) hHeld rfl rfl (by kernel_rfl) (by kernel_rfl) (by kernel_rfl) (by kernel_rfl) (by kernel_rfl) (by kernel_rfl) (fun _ _ _ h => h) (yieldsIf_load_mid (by rfl) _ _ rfl g2 0 rfl _ _ (fun V h => HRX.out V h) hu rfl HX2.out) ?_
          simp only [Act.put, List.setIfInBounds_toArray, List.set_cons_zero, List.set_cons_succ]
          refine takeU 11 7 48 (.int .i64 q) hHeld rfl rfl (by kernel_rfl) (by kernel_rfl) (by kernel_rfl) (by kernel_rfl) (by kernel_rfl) (by kernel_rfl) (fun _ _ _ h => h) (Or.inl ⟨by rfl, fun w _ => by go_simp⟩) ?_
          simp only [Act.put, List.setIfInBounds_toArray, List.set_cons_zero, List.set_cons_succ]
          refine takeU 11 8 49 (.agg (pc x).toArray) hHeld rfl rfl (by kernel_rfl) (by kernel_rfl) (by kernel_rfl) (by kernel_rfl) (by kernel_rfl) (by kernel_rfl) (fun _ _ _ h => h) (Or.inl ⟨by rfl, fun w h => run_entI x (by rw [HDE.out]; rfl) (by rw [HPX.out]; rfl)⟩) ?_
          simp only [Act.put, List.setIfInBounds_toArray, List.set_cons_zero, List.set_cons_succ]
          refine wpAnyU_ready (rs := [0, 9]) (by kernel_rfl) (by simp) (AllReadyU.cons rfl (fun K hK => ?_) (AllReadyU.cons rfl (fun K hK => ?_) AllReadyU.nil))
          · rw [if_pos (by rfl)]
            refine wp_zeroV (q := 33) emptI ?_
            intro wa g0 hv0 _ hb0
            have Z3 := hide (Z0.out.trans (hb0.mono Z0.out.size))
            have V0 := hide (row_base hv0 Z0.out.size)
            have B0 := hide hb0
            refine hK.out _ _ (fun _ => Z3.out) ?_
            have hHeld := Z3.out
            clear hK K
            clear hv0 hb0
            simp only [Act.put]
            refine wpAnyU_ready (rs := [5, 9]) (by kernel_rfl) (by simp) (AllReadyU.cons rfl (fun K hK => ?_) (AllReadyU.cons rfl (fun K hK => ?_) AllReadyU.nil))
            · rw [if_pos (by rfl)]
              refine wp_appE roI rfl rfl V0.out (HVA.out _ Z3.out) ONE1.out (by omega) Z3.out.size ?_
              intro v46 wb hv46 hb5
              have Z4 := hide (Z3.out.trans (hb5.mono Z3.out.size))
              have V46 := hide hv46
              have B5 := hide hb5
              refine hK.out _ _ (fun _ => Z4.out) ?_
              have hHeld := Z4.out
              clear hK K
              clear hv46 hb5
              simp only [Act.put]
              refine wpAnyU_ready (rs := [9]) (by kernel_rfl) (by simp) (AllReadyU.cons rfl (fun K hK => ?_) AllReadyU.nil)
              rw [if_pos (by rfl)]
              refine wp_oneV roI (vs := pc x) rfl rfl (pc_len x) ?_
              intro wc g50 hu50 _ hb9 _
              have Z5 := hide (Z4.out.trans (hb9.mono Z4.out.size))
              have U50 := hide hu50
              have B9 := hide hb9
              refine hK.out _ _ (fun _ => Z5.out) ?_
              have hHeld := Z5.out
              clear hK K
              clear hu50 hb9
              simp only [Act.put]
              have V46' := hide (row_on V46.out B9.out)
              refine wpAnyU_ready (rs := [10]) (by kernel_rfl) (by simp) (AllReadyU.cons rfl (fun K hK => ?_) AllReadyU.nil)
              rw [if_pos (by rfl)]
              refine wp_appV roI rfl rfl V46'.out U50.out (pc_one x) (by omega) Z5.out.size ?_
              intro v51 w6 hv51 hgr hat
              have Z6 := hide (Z5.out.trans (grown_below hgr (fun k hk => row_ge V46'.out hk) Z5.out.size))
              have V51 := hide hv51
              refine hK.out _ _ (fun _ => Z6.out) ?_
              have hHeld := Z6.out
              clear hK K
              clear hv51 hgr hat
              simp only [Act.put]
              refine wpAnyU_ready (rs := [11]) (by kernel_rfl) (by simp) (AllReadyU.cons rfl (fun K hK => ?_) AllReadyU.nil)
              rw [if_pos (by rfl)]
              go_simp
              refine hK.out _ _ (fun h => absurd h (by decide)) ?_
              clear hK K
              refine wpAnyU_done (by kernel_rfl) ?_ _
              refine NoPanic.normal ?_
              exact hjoin g0 v46 g50 v51 w6 ⟨V51, Z6⟩
            · rw [if_pos (by rfl)]
              refine wp_oneV roI (vs := pc x) rfl rfl (pc_len x) ?_
              intro wb g50 hu50 _ hb9 _
              have Z4 := hide (Z3.out.trans (hb9.mono Z3.out.size))
              have U50 := hide hu50
              have B9 := hide hb9
              refine hK.out _ _ (fun _ => Z4.out) ?_
              have hHeld := Z4.out
              clear hK K
              clear hu50 hb9
              simp only [Act.put]
              have V0' := hide (row_on V0.out B9.out)
              refine wpAnyU_ready (rs := [5]) (by kernel_rfl) (by simp) (AllReadyU.cons rfl (fun K hK => ?_) AllReadyU.nil)
              rw [if_pos (by rfl)]
              refine wp_appE roI rfl rfl V0'.out (HVA.out _ Z4.out) ONE1.out (by omega) Z4.out.size ?_
              intro v46 wc hv46 hb5
              have Z5 := hide (Z4.out.trans (hb5.mono Z4.out.size))
              have V46 := hide hv46
              have B5 := hide hb5
              refine hK.out _ _ (fun _ => Z5.out) ?_
              have hHeld := Z5.out
              clear hK K
              clear hv46 hb5
              simp only [Act.put]
              have U50' := hide (U50.out.on B5.out)
              refine wpAnyU_ready (rs := [10]) (by kernel_rfl) (by simp) (AllReadyU.cons rfl (fun K hK => ?_) AllReadyU.nil)
              rw [if_pos (by rfl)]
              refine wp_appV roI rfl rfl V46.out U50'.out (pc_one x) (by omega) Z5.out.size ?_
              intro v51 w6 hv51 hgr hat
              have Z6 := hide (Z5.out.trans (grown_below hgr (fun k hk => row_ge V46.out hk) Z5.out.size))
              have V51 := hide hv51
              refine hK.out _ _ (fun _ => Z6.out) ?_
              have hHeld := Z6.out
              clear hK K
              clear hv51 hgr hat
              simp only [Act.put]
              refine wpAnyU_ready (rs := [11]) (by kernel_rfl) (by simp) (AllReadyU.cons rfl (fun K hK => ?_) AllReadyU.nil)
              rw [if_pos (by rfl)]
              go_simp
              refine hK.out _ _ (fun h => absurd h (by decide)) ?_
              clear hK K
              refine wpAnyU_done (by kernel_rfl) ?_ _
              refine NoPanic.normal ?_
              exact hjoin g0 v46 g50 v51 w6 ⟨V51, Z6⟩
          · rw [if_pos (by rfl)]
            refine wp_oneV roI (vs := pc x) rfl rfl (pc_len x) ?_
            intro wa g50 hu50 _ hb9 _
            have Z3 := hide (Z0.out.trans (hb9.mono Z0.out.size))
            have U50 := hide hu50
            have B9 := hide hb9
            refine hK.out _ _ (fun _ => Z3.out) ?_
            have hHeld := Z3.out
            clear hK K
            clear hu50 hb9
            simp only [Act.put]
            refine wpAnyU_ready (rs := [0]) (by kernel_rfl) (by simp) (AllReadyU.cons rfl (fun K hK => ?_) AllReadyU.nil)
            rw [if_pos (by rfl)]
            refine wp_zeroV (q := 33) emptI ?_
            intro wb g0 hv0 _ hb0
            have Z4 := hide (Z3.out.trans (hb0.mono Z3.out.size))
            have V0 := hide (row_base hv0 Z3.out.size)
            have B0 := hide hb0
            refine hK.out _ _ (fun _ => Z4.out) ?_
            have hHeld := Z4.out
            clear hK K
            clear hv0 hb0
            simp only [Act.put]
            have U50' := hide (U50.out.on B0.out)
            refine wpAnyU_ready (rs := [5]) (by kernel_rfl) (by simp) (AllReadyU.cons rfl (fun K hK => ?_) AllReadyU.nil)
            rw [if_pos (by rfl)]
            refine wp_appE roI rfl rfl V0.out (HVA.out _ Z4.out) ONE1.out (by omega) Z4.out.size ?_
            intro v46 wc hv46 hb5
            have Z5 := hide (Z4.out.trans (hb5.mono Z4.out.size))
            have V46 := hide hv46
            have B5 := hide hb5
            refine hK.out _ _ (fun _ => Z5.out) ?_
            have hHeld := Z5.out
            clear hK K
            clear hv46 hb5
            simp only [Act.put]
            have U50'' := hide (U50'.out.on B5.out)
            refine wpAnyU_ready (rs := [10]) (by kernel_rfl) (by simp) (AllReadyU.cons rfl (fun K hK => ?_) AllReadyU.nil)
            rw [if_pos (by rfl)]
            refine wp_appV roI rfl rfl V46.out U50''.out (pc_one x) (by omega) Z5.out.size ?_
            intro v51 w6 hv51 hgr hat
            have Z6 := hide (Z5.out.trans (grown_below hgr (fun k hk => row_ge V46.out hk) Z5.out.size))
            have V51 := hide hv51
            refine hK.out _ _ (fun _ => Z6.out) ?_
            have hHeld := Z6.out
            clear hK K
            clear hv51 hgr hat
            simp only [Act.put]
            refine wpAnyU_ready (rs := [11]) (by kernel_rfl) (by simp) (AllReadyU.cons rfl (fun K hK => ?_) AllReadyU.nil)
            rw [if_pos (by rfl)]
            go_simp
            refine hK.out _ _ (fun h => absurd h (by decide)) ?_
            clear hK K
            refine wpAnyU_done (by kernel_rfl) ?_ _
            refine NoPanic.normal ?_
            exact hjoin g0 v46 g50 v51 w6 ⟨V51, Z6⟩
        intro a1 a2 a3 u W3 hP
        obtain ⟨V3, Z3⟩ := hP
        obtain ⟨ua, uc, rfl⟩ := row_slice V3.out
        have H3 := hide (H5.out.on Z3.out)
        have c31 : W3.cell? ⟨g1, 0, none⟩ = some (.slice ia n ic) := HC1.out _ Z3.out
        have hfr := HFR.out
        go_wp2_with (refine step_appV roI rfl rfl rfl V3.out (HVB.out _ Z3.out) ONE2.out (by omega) Z3.out.size ?_)
        intro v57 w10 hv57 hgr10 hat10
        have Z10 := hide (Z3.out.trans (grown_below hgr10 (fun k hk => row_ge V3.out hk) Z3.out.size))
        have H10 := hide (H5.out.on Z10.out)
        have VI : Hid (Vw w10 56 33 v57 (insK kE x L).length (pcs (insK kE x L))) := hide (by
          have h1 := Vw.of_row hv57
          have e1 : (insK kE x L).length = k + 1 + (n - k) := by rw [insK_len, HN.out]; omega
          have e2 : pcs (insK kE x L) = (pcs L).take (k * 33) ++ pc x ++ (pcs L).drop (k * 33) := by rw [HI.out, pcs_app, pcs_cons, pcs_take, pcs_drop, List.append_assoc]
          rw [e1, e2]
          exact h1)
        obtain ⟨ya, yc, hyv⟩ := VI.out.slice
        obtain ⟨N', hN'⟩ : ∃ N', (insK kE x L).length = N' := ⟨_, rfl⟩
        rw [hN'] at hyv
        subst hyv
        have HN' := hide hN'
        clear hN' hv57 hgr10 hat10 hfr c31 HTO HFR HVA HVB ONE1 ONE2 HC1 HRX V3 Z3 H3 hu HX2
        have c101 : w10.cell? ⟨g1, 1, none⟩ = some (.slice ra m rc) := by rw [H10.out.c1.cell]; rfl
        go_wp2_with (refine step_zeroV (q := 1) emptN rfl ?_)
        intro w11 gn hv11 hln hb11
        have H11 := hide (H10.out.on hb11)
        have HB11 := hide hb11
        have HV11 := hide hv11
        clear hv11 hb11 c101
        have c111 : w11.cell? ⟨g1, 1, none⟩ = some (.slice ra m rc) := by rw [H11.out.c1.cell]; rfl
        have hdr : Vw w11 3 1 (.slice ra m rc) m (ns R) := by
          have := H11.out.dx.r
          rwa [HM.out] at this
        have hm9 : m ≤ 1048576 := by rw [← HM.out]; exact HRL.out
        go_wp2_with (refine step_appV roN rfl rfl rfl HV11.out hdr (ns_one R) (by omega) HB11.out.size ?_)
        intro v61 w12 hv61 hgr12 hat12
        have Z12 := hide (HB11.out.trans (grown_below hgr12 (fun k hk => row_ge HV11.out hk) HB11.out.size))
        have V61 : Hid (w12.ownsRow w10.heap.size 3 1 v61 m (ns R)) := hide (by simpa using hv61)
        clear hv61 hgr12 hat12 hdr H11 HV11 c111
        go_wp2_with (refine step_oneV roN (xv := .int .i64 1) (vs := ns [1]) rfl rfl rfl rfl ?_)
        intro w13 gm hu13 _ hb13 _
        have Z13 := hide (on_below Z12.out hb13)
        have V62 := hide (row_on V61.out hb13)
        have U13 := hide hu13
        clear hu13 hb13 V61 Z12
        go_wp2_with (refine step_appV roN rfl rfl rfl V62.out U13.out (ns_one [1]) (by omega) Z13.out.size ?_)
        intro v63 w14 hv63 hgr14 hat14
        have Z14 := hide (Z13.out.trans (grown_below hgr14 (fun k hk => row_ge V62.out hk) Z13.out.size))
        have V63 : Hid (w14.ownsRow w10.heap.size 3 1 v63 (m + 1) (ns (R.reverse.reverse ++ [1]))) := hide (by rw [List.reverse_reverse, ns_app]; exact hv63)
        clear hv63 hgr14 hat14 V62 U13 Z13
        obtain ⟨na, nc, rfl⟩ := row_slice V63.out
        go_wp2_with fail
        go_loopg [12] (m + 1) (fun z s12 wr => ∃ (N : Nat) (g c mm : Nat) (t : List Nat), z = t.length + 1 ∧ N = t.length + 1 ∧ t.length ≤ m ∧ s12 = .slice (some ⟨g, 0, none⟩) N c ∧ Hid (N ≤ c) ∧ Hid (wr.ownsRow w10.heap.size 3 1 (.slice (some ⟨g, 0, none⟩) N c) N (ns (t.reverse ++ [mm]))) ∧ Hid (PN R.reverse t mm) ∧ Hid (Below w10.heap.size w10 wr))
        case atStart =>
          obtain ⟨gq, cq, cs, e, hbq, _, _⟩ := row_at V63.out (by omega)
          injection e with e1 _ e3
          subst e1 e3
          have hcc : m + 1 ≤ nc := by
            obtain ⟨_, h2⟩ := V63.out
            rcases h2 with ⟨h2, _⟩ | ⟨g', cap', cur, e', _, _, h3, _⟩
            · cases h2
            · injection e' with _ _ e4
              omega
          exact ⟨m + 1, gq, nc, 1, R.reverse, by rw [List.length_reverse, HM.out], by rw [List.length_reverse, HM.out], by rw [List.length_reverse, HM.out]; exact Nat.le_refl _, rfl, hide hcc, V63, hide (PN.start _), Z14⟩
        case round =>
          clear V63 Z14
          obtain ⟨N, g, c, mm, t, hz, hN, htm, rfl, HC, HR, HP, HW⟩ := hrel
          have HZ := hide hz
          have hmm9 : mm + t.sum ≤ 4398046511105 := by have h1 := HP.out.sum; have h2 := HRS.out; rw [List.sum_reverse] at h1; omega
          have hN9 : N ≤ 1048577 := by omega
          clear hz
          cases t with
          | nil =>
            have hN1 : N = 1 := hN
            have hgt : ¬ (1 : Int) < (N : Int) := by omega
            have HFN : Hid ((pushN R.reverse 1).reverse = ([] : List Nat).reverse ++ [mm]) := hide HP.out.end0
            clear HP hN hN1
            go_wp2_with fail
            refine wp_region_noPanic ?_
            have BD := hide (Below.refl wr.heap.size wr).drew
            refine wp_region_held_drew (S := fun V : World => Below wr.heap.size wr V) (by kernel_rfl) BD.out (fun hHeld => ?_)
            refine takeH 0 64 (.slice (some ⟨g, 0, none⟩) N c) hHeld rfl rfl (by kernel_rfl) (by kernel_rfl) (by kernel_rfl) (fun _ _ _ h => h) (Or.inl ⟨by rfl, fun w _ => by go_simp⟩) ?_
            simp only [Act.put, List.setIfInBounds_toArray, List.set_cons_zero, List.set_cons_succ]
            refine takeH 1 65 (.int .i64 (N : Int)) hHeld rfl rfl (by kernel_rfl) (by kernel_rfl) (by kernel_rfl) (fun _ _ _ h => h) (Or.inl ⟨by rfl, fun w _ => by go_simp⟩) ?_
            simp only [Act.put, List.setIfInBounds_toArray, List.set_cons_zero, List.set_cons_succ]
            refine takeH 2 66 (.bool false) hHeld rfl rfl (by kernel_rfl) (by kernel_rfl) (by kernel_rfl) (fun _ _ _ h => h) (Or.inl ⟨by rfl, fun w _ => by go_simp⟩) ?_
            simp only [Act.put, List.setIfInBounds_toArray, List.set_cons_zero, List.set_cons_succ]
            refine takeH 3 67 (.bool false) hHeld rfl rfl (by kernel_rfl) (by kernel_rfl) (by kernel_rfl) (fun _ _ _ h => h) (Or.inl ⟨by rfl, fun w _ => by go_simp⟩) ?_
            simp only [Act.put, List.setIfInBounds_toArray, List.set_cons_zero, List.set_cons_succ]
            refine takeH 4 68 undef hHeld rfl rfl (by kernel_rfl) (by kernel_rfl) (by kernel_rfl) (fun _ _ _ h => h) (Or.inr ⟨by rfl, rfl⟩) ?_
            simp only [Act.put, List.setIfInBounds_toArray, List.set_cons_zero, List.set_cons_succ]
            refine takeH 5 69 undef hHeld rfl rfl (by kernel_rfl) (by kernel_rfl) (by kernel_rfl) (fun _ _ _ h => h) (Or.inr ⟨by rfl, rfl⟩) ?_
            simp only [Act.put, List.setIfInBounds_toArray, List.set_cons_zero, List.set_cons_succ]
            refine takeH 6 70 undef hHeld rfl rfl (by kernel_rfl) (by kernel_rfl) (by kernel_rfl) (fun _ _ _ h => h) (Or.inr ⟨by rfl, rfl⟩) ?_
            simp only [Act.put, List.setIfInBounds_toArray, List.set_cons_zero, List.set_cons_succ]
            refine takeH 7 71 undef hHeld rfl rfl (by kernel_rfl) (by kernel_rfl) (by kernel_rfl) (fun _ _ _ h => h) (Or.inr ⟨by rfl, rfl⟩) ?_
            simp only [Act.put, List.setIfInBounds_toArray, List.set_cons_zero, List.set_cons_succ]
            refine takeH 8 72 undef hHeld rfl rfl (by kernel_rfl) (by kernel_rfl) (by kernel_rfl) (fun _ _ _ h => h) (Or.inr ⟨by rfl, rfl⟩) ?_
            simp only [Act.put, List.setIfInBounds_toArray, List.set_cons_zero, List.set_cons_succ]
            refine takeH 9 73 undef hHeld rfl rfl (by kernel_rfl) (by kernel_rfl) (by kernel_rfl) (fun _ _ _ h => h) (Or.inr ⟨by rfl, rfl⟩) ?_
            simp only [Act.put, List.setIfInBounds_toArray, List.set_cons_zero, List.set_cons_succ]
            refine takeH 10 74 undef hHeld rfl rfl (by kernel_rfl) (by kernel_rfl) (by kernel_rfl) (fun _ _ _ h => h) (Or.inr ⟨by rfl, rfl⟩) ?_
            simp only [Act.put, List.setIfInBounds_toArray, List.set_cons_zero, List.set_cons_succ]
            refine takeH 11 75 undef hHeld rfl rfl (by kernel_rfl) (by kernel_rfl) (by kernel_rfl) (fun _ _ _ h => h) (Or.inr ⟨by rfl, rfl⟩) ?_
            simp only [Act.put, List.setIfInBounds_toArray, List.set_cons_zero, List.set_cons_succ]
            refine takeH 12 76 undef hHeld rfl rfl (by kernel_rfl) (by kernel_rfl) (by kernel_rfl) (fun _ _ _ h => h) (Or.inr ⟨by rfl, rfl⟩) ?_
            simp only [Act.put, List.setIfInBounds_toArray, List.set_cons_zero, List.set_cons_succ]
            refine takeH 13 77 undef hHeld rfl rfl (by kernel_rfl) (by kernel_rfl) (by kernel_rfl) (fun _ _ _ h => h) (Or.inr ⟨by rfl, rfl⟩) ?_
            simp only [Act.put, List.setIfInBounds_toArray, List.set_cons_zero, List.set_cons_succ]
            refine takeH 14 78 undef hHeld rfl rfl (by kernel_rfl) (by kernel_rfl) (by kernel_rfl) (fun _ _ _ h => h) (Or.inr ⟨by rfl, rfl⟩) ?_
            simp only [Act.put, List.setIfInBounds_toArray, List.set_cons_zero, List.set_cons_succ]
            refine takeH 15 79 undef hHeld rfl rfl (by kernel_rfl) (by kernel_rfl) (by kernel_rfl) (fun _ _ _ h => h) (Or.inr ⟨by rfl, rfl⟩) ?_
            simp only [Act.put, List.setIfInBounds_toArray, List.set_cons_zero, List.set_cons_succ]
            refine takeH 16 80 undef hHeld rfl rfl (by kernel_rfl) (by kernel_rfl) (by kernel_rfl) (fun _ _ _ h => h) (Or.inr ⟨by rfl, rfl⟩) ?_
            simp only [Act.put, List.setIfInBounds_toArray, List.set_cons_zero, List.set_cons_succ]
            refine takeH 17 81 (.bool false) hHeld rfl rfl (by kernel_rfl) (by kernel_rfl) (by kernel_rfl) (fun _ _ _ h => h) (Or.inl ⟨by rfl, fun w _ => by go_simp⟩) ?_
            simp only [Act.put, List.setIfInBounds_toArray, List.set_cons_zero, List.set_cons_succ]
            refine wpAnyH_done (by kernel_rfl) ?_ _
            refine NoPanic.normal ?_
            have HWd := hide (on_below HW.out BD.out)
            have HRd := hide (row_on HR.out BD.out)
            have HDd := hide (H10.out.on HWd.out)
            have HVd := hide (VI.out.on HWd.out)
            revert HWd HRd HDd HVd
            generalize wr.drew = Vd
            intro HWd HRd HDd HVd
            clear hHeld BD HR HW
            go_wp2_with (refine step_storeA wX rfl rfl (vs := [.slice ya N' yc, .slice (some ⟨g, 0, none⟩) N c]) rfl HDd.out.c6 rfl (by intro v hv; simp at hv; rcases hv with rfl | rfl <;> rfl) rfl ?_)
            intro Vf hgf hbut
            have HG := hide hgf
            have HF2 : Hid (Dx Vf (.slice ya N' yc) (.slice (some ⟨g, 0, none⟩) N c) (insK kE x L) (pushN R.reverse 1).reverse ∧ Below w.heap.size w Vf) := hide ⟨⟨HVd.out.butT hbut HDd.out.c6 (by decide), by
              rw [HFN.out]
              have h1 := Vw.of_row HRd.out
              have e1 := h1.len
              rw [Nat.mul_one, ns_len] at e1
              have h3 := h1.butT hbut HDd.out.c6 (by decide)
              rw [e1]
              exact h3⟩, HDd.out.bel.trans (hbut.below HDd.out.l6)⟩
            clear hgf hbut HVd HRd HDd
            go_wp2_with fail
            exact bodyPost_ret (results_wide2 rfl wX _ _ rfl HG.out rfl) rfl ⟨_, _, rfl, HF2.out⟩
          | cons h t' =>
            obtain ⟨j, hj⟩ : ∃ j, t'.length = j := ⟨_, rfl⟩
            have hN2 : N = j + 2 := by rw [hN, List.length_cons, hj]
            have hgt : (1 : Int) < (N : Int) := by omega
            have hjm : j + 1 ≤ m := by rw [← hj]; exact htm
            have hjc : j ≤ c := by have := HC.out; omega
            have hw1 : IntKind.i64.wrap ((N : Int) - 1) = (N : Int) - 1 := wrap_in _ (by omega) (by omega)
            have hw2 : IntKind.i64.wrap ((N : Int) - 2) = (N : Int) - 2 := wrap_in _ (by omega) (by omega)
            have HL2 : Hid (((h :: t').reverse ++ [mm]).getD (j + 1) 0 = mm ∧ ((h :: t').reverse ++ [mm]).getD j 0 = h) := hide (by rw [← hj]; exact last_at t' h mm)
            have HI1 := hide (fun V => n_at g N c (j + 1) ((N : Int) - 1) (by omega) (by omega) V)
            have HI2 := hide (fun V => n_at g N c j ((N : Int) - 2) (by omega) (by omega) V)
            have HCA : Hid (∀ V : World, Below wr.heap.size wr V → V.cell? ⟨g, j + 1, none⟩ = some (.int .i64 (mm : Int))) := hide fun V hV => by
              have := nrow_at (row_on HR.out hV) (show j + 1 < N by omega)
              rwa [HL2.out.1] at this
            have HCB : Hid (∀ V : World, Below wr.heap.size wr V → V.cell? ⟨g, j, none⟩ = some (.int .i64 (h : Int))) := hide fun V hV => by
              have := nrow_at (row_on HR.out hV) (show j < N by omega)
              rwa [HL2.out.2] at this
            rw [List.sum_cons] at hmm9
            have HJ := hide hj
            have HN2 := hide hN2
            clear hj hN2 hN htm
            go_wp2_with fail
            refine wp_region_noPanic ?_
            have BD := hide (Below.refl wr.heap.size wr).drew
            refine wp_region_held_drew (S := fun V : World => Below wr.heap.size wr V) (by kernel_rfl) BD.out (fun hHeld => ?_)
            refine takeH 0 64 (.slice (some ⟨g, 0, none⟩) N c) hHeld rfl rfl (by kernel_rfl) (by kernel_rfl) (by kernel_rfl) (fun _ _ _ h => h) (Or.inl ⟨by rfl, fun w _ => by go_simp⟩) ?_
            simp only [Act.put, List.setIfInBounds_toArray, List.set_cons_zero, List.set_cons_succ]
            refine takeH 1 65 (.int .i64 (N : Int)) hHeld rfl rfl (by kernel_rfl) (by kernel_rfl) (by kernel_rfl) (fun _ _ _ h => h) (Or.inl ⟨by rfl, fun w _ => by go_simp⟩) ?_
            simp only [Act.put, List.setIfInBounds_toArray, List.set_cons_zero, List.set_cons_succ]
            refine takeH 2 66 (.bool true) hHeld rfl rfl (by kernel_rfl) (by kernel_rfl) (by kernel_rfl) (fun _ _ _ h => h) (Or.inl ⟨by rfl, fun w _ => by go_simp⟩) ?_
            simp only [Act.put, List.setIfInBounds_toArray, List.set_cons_zero, List.set_cons_succ]
            refine takeH 3 67 (.bool true) hHeld rfl rfl (by kernel_rfl) (by kernel_rfl) (by kernel_rfl) (fun _ _ _ h => h) (Or.inl ⟨by rfl, fun w _ => by go_simp⟩) ?_
            simp only [Act.put, List.setIfInBounds_toArray, List.set_cons_zero, List.set_cons_succ]
            refine takeH 4 68 (.slice (some ⟨g, 0, none⟩) N c) hHeld rfl rfl (by kernel_rfl) (by kernel_rfl) (by kernel_rfl) (fun _ _ _ h => h) (Or.inl ⟨by rfl, fun w _ => by go_simp⟩) ?_
            simp only [Act.put, List.setIfInBounds_toArray, List.set_cons_zero, List.set_cons_succ]
            refine takeH 5 69 (.slice (some ⟨g, 0, none⟩) N c) hHeld rfl rfl (by kernel_rfl) (by kernel_rfl) (by kernel_rfl) (fun _ _ _ h => h) (Or.inl ⟨by rfl, fun w _ => by go_simp⟩) ?_
            simp only [Act.put, List.setIfInBounds_toArray, List.set_cons_zero, List.set_cons_succ]
            refine takeH 6 70 (.int .i64 (N : Int)) hHeld rfl rfl (by kernel_rfl) (by kernel_rfl) (by kernel_rfl) (fun _ _ _ h => h) (Or.inl ⟨by rfl, fun w _ => by go_simp⟩) ?_
            simp only [Act.put, List.setIfInBounds_toArray, List.set_cons_zero, List.set_cons_succ]
            refine takeH 7 71 (.int .i64 ((N : Int) - 1)) hHeld rfl rfl (by kernel_rfl) (by kernel_rfl) (by kernel_rfl) (fun _ _ _ h => h) (Or.inl ⟨by rfl, fun w _ => by go_simp⟩) ?_
            simp only [Act.put, List.setIfInBounds_toArray, List.set_cons_zero, List.set_cons_succ]
            refine takeH 8 72 (.pointer (some ⟨g, j + 1, none⟩)) hHeld rfl rfl (by kernel_rfl) (by kernel_rfl) (by kernel_rfl) (fun _ _ _ h => h) (Or.inl ⟨by rfl, fun w _ => run_op rfl (HI1.out w)⟩) ?_
            simp only [Act.put, List.setIfInBounds_toArray, List.set_cons_zero, List.set_cons_succ]
            refine takeH 9 73 (.int .i64 (mm : Int)) hHeld rfl rfl (by kernel_rfl) (by kernel_rfl) (by kernel_rfl) (fun _ _ _ h => h) (Or.inl ⟨by rfl, fun w hw => by have hw' : w.cell? ⟨g, (j + 1), none⟩ = some (.int .i64 (mm : Int)) := (fun hw => HCA.out _ hw) hw; go_simp⟩) ?_
            simp only [Act.put, List.setIfInBounds_toArray, List.set_cons_zero, List.set_cons_succ]
            refine takeH 10 74 (.slice (some ⟨g, 0, none⟩) N c) hHeld rfl rfl (by kernel_rfl) (by kernel_rfl) (by kernel_rfl) (fun _ _ _ h => h) (Or.inl ⟨by rfl, fun w _ => by go_simp⟩) ?_
            simp only [Act.put, List.setIfInBounds_toArray, List.set_cons_zero, List.set_cons_succ]
            refine takeH 11 75 (.slice (some ⟨g, 0, none⟩) N c) hHeld rfl rfl (by kernel_rfl) (by kernel_rfl) (by kernel_rfl) (fun _ _ _ h => h) (Or.inl ⟨by rfl, fun w _ => by go_simp⟩) ?_
            simp only [Act.put, List.setIfInBounds_toArray, List.set_cons_zero, List.set_cons_succ]
            refine takeH 12 76 (.int .i64 (N : Int)) hHeld rfl rfl (by kernel_rfl) (by kernel_rfl) (by kernel_rfl) (fun _ _ _ h => h) (Or.inl ⟨by rfl, fun w _ => by go_simp⟩) ?_
            simp only [Act.put, List.setIfInBounds_toArray, List.set_cons_zero, List.set_cons_succ]
            refine takeH 13 77 (.int .i64 ((N : Int) - 2)) hHeld rfl rfl (by kernel_rfl) (by kernel_rfl) (by kernel_rfl) (fun _ _ _ h => h) (Or.inl ⟨by rfl, fun w _ => by go_simp⟩) ?_
            simp only [Act.put, List.setIfInBounds_toArray, List.set_cons_zero, List.set_cons_succ]
            refine takeH 14 78 (.pointer (some ⟨g, j, none⟩)) hHeld rfl rfl (by kernel_rfl) (by kernel_rfl) (by kernel_rfl) (fun _ _ _ h => h) (Or.inl ⟨by rfl, fun w _ => run_op rfl (HI2.out w)⟩) ?_
            simp only [Act.put, List.setIfInBounds_toArray, List.set_cons_zero, List.set_cons_succ]
            refine takeH 15 79 (.int .i64 (h : Int)) hHeld rfl rfl (by kernel_rfl) (by kernel_rfl) (by kernel_rfl) (fun _ _ _ h => h) (Or.inl ⟨by rfl, fun w hw => by have hw' : w.cell? ⟨g, j, none⟩ = some (.int .i64 (h : Int)) := (fun hw => HCB.out _ hw) hw; go_simp⟩) ?_
            simp only [Act.put, List.setIfInBounds_toArray, List.set_cons_zero, List.set_cons_succ]
            by_cases he : h = mm
            · have he' : ((mm : Int) == (h : Int)) = true := by rw [he]; exact beq_self_eq_true _
              refine takeH 16 80 (.bool true) hHeld rfl rfl (by kernel_rfl) (by kernel_rfl) (by kernel_rfl) (fun _ _ _ h => h) (Or.inl ⟨by rfl, fun w _ => by go_simp⟩) ?_
              simp only [Act.put, List.setIfInBounds_toArray, List.set_cons_zero, List.set_cons_succ]
              refine takeH 17 81 (.bool true) hHeld rfl rfl (by kernel_rfl) (by kernel_rfl) (by kernel_rfl) (fun _ _ _ h => h) (Or.inl ⟨by rfl, fun w _ => by go_simp⟩) ?_
              simp only [Act.put, List.setIfInBounds_toArray, List.set_cons_zero, List.set_cons_succ]
              refine wpAnyH_done (by kernel_rfl) ?_ _
              refine NoPanic.normal ?_
              have HWd := hide (on_below HW.out BD.out)
              have HRd := hide (row_on HR.out BD.out)
              have HCd : Hid (∀ V : World, V.heap = wr.drew.heap → V.cell? ⟨g, j + 1, none⟩ = some (.int .i64 (mm : Int))) := hide fun V hV => by
                rw [World.cell?_of_block (w := wr.drew) (by rw [hV])]
                exact HCA.out _ BD.out
              have HP2 := hide (HP.out.step he)
              obtain ⟨m2, hm2⟩ : ∃ m2, 2 * mm = m2 := ⟨_, rfl⟩
              rw [hm2] at HP2
              have h2i : 2 * (mm : Int) = (m2 : Int) := by omega
              have hw3 : IntKind.i64.wrap (m2 : Int) = (m2 : Int) := wrap_in _ (by omega) (by omega)
              revert HWd HRd HCd
              generalize wr.drew = Vd
              intro HWd HRd HCd
              clear hHeld BD he he' HCA HCB HR HW HL2
              go_wp2_with fail
              refine wp_region_noPanic ?_
              have hcd : Vd.drew.cell? ⟨g, j + 1, none⟩ = some (.int .i64 (mm : Int)) := HCd.out _ rfl
              have HWe : Hid (Below w10.heap.size w10 Vd.drew) := hide (on_below HWd.out (Below.refl Vd.heap.size Vd).drew)
              have HRe := hide (row_on HRd.out (Below.refl Vd.heap.size Vd).drew)
              refine wp_region_held_drew (S := fun V : World => Below w10.heap.size w10 V) (by kernel_rfl) HWe.out (fun hHeld => ?_)
              revert hcd HWe HRe hHeld
              generalize Vd.drew = Ve
              intro hcd HWe HRe hHeld
              refine takeH 0 82 (.slice (some ⟨g, 0, none⟩) N c) hHeld rfl rfl (by kernel_rfl) (by kernel_rfl) (by kernel_rfl) (fun _ _ _ h => h) (Or.inl ⟨by rfl, fun w _ => by go_simp⟩) ?_
              simp only [Act.put, List.setIfInBounds_toArray, List.set_cons_zero, List.set_cons_succ]
              refine takeH 1 83 (.slice (some ⟨g, 0, none⟩) N c) hHeld rfl rfl (by kernel_rfl) (by kernel_rfl) (by kernel_rfl) (fun _ _ _ h => h) (Or.inl ⟨by rfl, fun w _ => by go_simp⟩) ?_
              simp only [Act.put, List.setIfInBounds_toArray, List.set_cons_zero, List.set_cons_succ]
              refine takeH 2 84 (.int .i64 (N : Int)) hHeld rfl rfl (by kernel_rfl) (by kernel_rfl) (by kernel_rfl) (fun _ _ _ h => h) (Or.inl ⟨by rfl, fun w _ => by go_simp⟩) ?_
              simp only [Act.put, List.setIfInBounds_toArray, List.set_cons_zero, List.set_cons_succ]
              refine takeH 3 85 (.int .i64 ((N : Int) - 2)) hHeld rfl rfl (by kernel_rfl) (by kernel_rfl) (by kernel_rfl) (fun _ _ _ h => h) (Or.inl ⟨by rfl, fun w _ => by go_simp⟩) ?_
              simp only [Act.put, List.setIfInBounds_toArray, List.set_cons_zero, List.set_cons_succ]
              refine takeH 4 86 (.slice (some ⟨g, 0, none⟩) j c) hHeld rfl rfl (by kernel_rfl) (by kernel_rfl) (by kernel_rfl) (fun _ _ _ h => h) (Or.inl ⟨by rfl, fun w _ => run_op rfl (n_to g N c j ((N : Int) - 2) (by have := HN2.out; omega) hjc w)⟩) ?_
              simp only [Act.put, List.setIfInBounds_toArray, List.set_cons_zero, List.set_cons_succ]
              refine takeH 5 87 (.slice (some ⟨g, 0, none⟩) N c) hHeld rfl rfl (by kernel_rfl) (by kernel_rfl) (by kernel_rfl) (fun _ _ _ h => h) (Or.inl ⟨by rfl, fun w _ => by go_simp⟩) ?_
              simp only [Act.put, List.setIfInBounds_toArray, List.set_cons_zero, List.set_cons_succ]
              refine takeH 6 88 (.slice (some ⟨g, 0, none⟩) N c) hHeld rfl rfl (by kernel_rfl) (by kernel_rfl) (by kernel_rfl) (fun _ _ _ h => h) (Or.inl ⟨by rfl, fun w _ => by go_simp⟩) ?_
              simp only [Act.put, List.setIfInBounds_toArray, List.set_cons_zero, List.set_cons_succ]
              refine takeH 7 89 (.int .i64 (N : Int)) hHeld rfl rfl (by kernel_rfl) (by kernel_rfl) (by kernel_rfl) (fun _ _ _ h => h) (Or.inl ⟨by rfl, fun w _ => by go_simp⟩) ?_
              simp only [Act.put, List.setIfInBounds_toArray, List.set_cons_zero, List.set_cons_succ]
              refine takeH 8 90 (.int .i64 ((N : Int) - 1)) hHeld rfl rfl (by kernel_rfl) (by kernel_rfl) (by kernel_rfl) (fun _ _ _ h => h) (Or.inl ⟨by rfl, fun w _ => by go_simp⟩) ?_
              simp only [Act.put, List.setIfInBounds_toArray, List.set_cons_zero, List.set_cons_succ]
              refine takeH 9 91 (.pointer (some ⟨g, j + 1, none⟩)) hHeld rfl rfl (by kernel_rfl) (by kernel_rfl) (by kernel_rfl) (fun _ _ _ h => h) (Or.inl ⟨by rfl, fun w _ => run_op rfl (HI1.out w)⟩) ?_
              simp only [Act.put, List.setIfInBounds_toArray, List.set_cons_zero, List.set_cons_succ]
              refine wpAnyH_ready (rs := [10]) (by kernel_rfl) (by simp) (AllReadyH.cons rfl (fun K hK => ?_) AllReadyH.nil)
              rw [if_pos (by rfl)]
              go_simp
              refine hK.out _ _ (HWe.out) (fun hHeld => ?_)
              clear hK K
              try simp only [Act.put, List.setIfInBounds_toArray, List.set_cons_zero, List.set_cons_succ]
              refine takeH 11 93 (.int .i64 (m2 : Int)) hHeld rfl rfl (by kernel_rfl) (by kernel_rfl) (by kernel_rfl) (fun _ _ _ h => h) (Or.inl ⟨by rfl, fun w _ => by go_simp⟩) ?_
              simp only [Act.put, List.setIfInBounds_toArray, List.set_cons_zero, List.set_cons_succ]
              refine wpAnyH_ready (rs := [12]) (by kernel_rfl) (by simp) (AllReadyH.cons rfl (fun K hK => ?_) AllReadyH.nil)
              rw [if_pos (by rfl)]
              refine wp_oneV roN (xv := .int .i64 (m2 : Int)) (vs := ns [m2]) rfl rfl rfl ?_
              intro w15 gu hu15 _ hb15 _
              have HW15 := hide (on_below HWe.out hb15)
              have HR15 := hide (row_on HRe.out hb15)
              have U15 := hide hu15
              refine hK.out _ _ (HW15.out) (fun hHeld => ?_)
              clear hK K
              clear hu15 hb15
              simp only [Act.put]
              refine wpAnyH_ready (rs := [13]) (by kernel_rfl) (by simp) (AllReadyH.cons rfl (fun K hK => ?_) AllReadyH.nil)
              rw [if_pos (by rfl)]
              refine wp_appV roN rfl rfl (row_cut HR15.out (k := j) (by have := HN2.out; omega)) U15.out (ns_one [m2]) (by omega) HW15.out.size ?_
              intro v16 w16 hv16 hgr16 hat16
              have HW16 := hide (HW15.out.trans (grown_below hgr16 (fun k hk => row_ge (row_cut HR15.out (k := j) (by have := HN2.out; omega)) hk) HW15.out.size))
              have V16 : Hid (w16.ownsRow w10.heap.size 3 1 v16 (j + 1) (ns (t'.reverse ++ [m2]))) := hide (by
                rw [ns_app]
                have e := ns_cut t' h mm
                rw [HJ.out] at e
                rw [← e]
                exact hv16)
              refine hK.out _ _ (HW16.out) (fun hHeld => ?_)
              clear hK K
              clear hv16 hgr16 hat16 HR15 HRe
              simp only [Act.put, List.setIfInBounds_toArray, List.set_cons_zero, List.set_cons_succ]
              obtain ⟨g9, c9, rfl, hc9⟩ := row_lit V16.out (by omega)
              refine takeH 14 12 (.slice (some ⟨g9, 0, none⟩) (j + 1) c9) hHeld rfl rfl (by kernel_rfl) (by kernel_rfl) (by kernel_rfl) (fun _ _ _ h => h) (Or.inl ⟨by rfl, fun w _ => by go_simp⟩) ?_
              simp only [Act.put, List.setIfInBounds_toArray, List.set_cons_zero, List.set_cons_succ]
              refine wpAnyH_done (by kernel_rfl) ?_ _
              refine NoPanic.normal ?_
              clear hHeld
              go_wp2
              go_roundg (t'.length + 1)
              case measure => have := HZ.out; rw [List.length_cons] at this; omega
              case rel => exact ⟨j + 1, g9, c9, m2, t', rfl, by rw [HJ.out], by rw [HJ.out]; omega, rfl, hide hc9, V16, HP2, HW16⟩
            · have he' : ((mm : Int) == (h : Int)) = false := by rw [beq_eq_false_iff_ne]; omega
              have HFN : Hid ((pushN R.reverse 1).reverse = (h :: t').reverse ++ [mm]) := hide (HP.out.end1 he)
              refine takeH 16 80 (.bool false) hHeld rfl rfl (by kernel_rfl) (by kernel_rfl) (by kernel_rfl) (fun _ _ _ h => h) (Or.inl ⟨by rfl, fun w _ => by go_simp⟩) ?_
              simp only [Act.put, List.setIfInBounds_toArray, List.set_cons_zero, List.set_cons_succ]
              refine takeH 17 81 (.bool false) hHeld rfl rfl (by kernel_rfl) (by kernel_rfl) (by kernel_rfl) (fun _ _ _ h => h) (Or.inl ⟨by rfl, fun w _ => by go_simp⟩) ?_
              simp only [Act.put, List.setIfInBounds_toArray, List.set_cons_zero, List.set_cons_succ]
              refine wpAnyH_done (by kernel_rfl) ?_ _
              refine NoPanic.normal ?_
              have HWd := hide (on_below HW.out BD.out)
              have HRd := hide (row_on HR.out BD.out)
              have HDd := hide (H10.out.on HWd.out)
              have HVd := hide (VI.out.on HWd.out)
              revert HWd HRd HDd HVd
              generalize wr.drew = Vd
              intro HWd HRd HDd HVd
              clear hHeld BD HR HW
              go_wp2_with (refine step_storeA wX rfl rfl (vs := [.slice ya N' yc, .slice (some ⟨g, 0, none⟩) N c]) rfl HDd.out.c6 rfl (by intro v hv; simp at hv; rcases hv with rfl | rfl <;> rfl) rfl ?_)
              intro Vf hgf hbut
              have HG := hide hgf
              have HF2 : Hid (Dx Vf (.slice ya N' yc) (.slice (some ⟨g, 0, none⟩) N c) (insK kE x L) (pushN R.reverse 1).reverse ∧ Below w.heap.size w Vf) := hide ⟨⟨HVd.out.butT hbut HDd.out.c6 (by decide), by
                rw [HFN.out]
                have h1 := Vw.of_row HRd.out
                have e1 := h1.len
                rw [Nat.mul_one, ns_len] at e1
                have h3 := h1.butT hbut HDd.out.c6 (by decide)
                rw [e1]
                exact h3⟩, HDd.out.bel.trans (hbut.below HDd.out.l6)⟩
              clear hgf hbut HVd HRd HDd
              go_wp2_with fail
              exact bodyPost_ret (results_wide2 rfl wX _ _ rfl HG.out rfl) rfl ⟨_, _, rfl, HF2.out⟩
    · have hkn : k = n := by omega
      have hlt' : ¬ (k : Int) < (n : Int) := by omega
      have hnk : n ≤ k := by omega
      have HI : Hid (insK kE x L = L.take k ++ x :: L.drop k) := hide (insK_at x HK.out (fun a h2 => by
        rw [List.getElem?_eq_none (by rw [HN.out, hkn]; exact Nat.le_refl _)] at h2
        cases h2) (by rw [HN.out, hkn]; exact Nat.le_refl _))
      clear c0 HK hkn hlt
      go_wp2_with fail
      refine wp_region_noPanic ?_
      have BD := hide (Below.refl wr.heap.size wr).drew
      refine wp_region_held_drew (S := fun V : World => Below wr.heap.size wr V) (by kernel_rfl) BD.out (fun hHeld => ?_)
      refine takeH 0 24 (.int .i64 (k : Int)) hHeld rfl rfl (by kernel_rfl) (by kernel_rfl) (by kernel_rfl) (fun _ _ _ h => h) (Or.inl ⟨by rfl, fun w _ => by go_simp⟩) ?_
      simp only [Act.put, List.setIfInBounds_toArray, List.set_cons_zero, List.set_cons_succ]
      refine takeH 1 25 (.pointer (some ⟨g1, 0, none⟩)) hHeld rfl rfl (by kernel_rfl) (by kernel_rfl) (by kernel_rfl) (fun _ _ _ h => h) (Or.inl ⟨by rfl, fun w _ => by go_simp⟩) ?_
      simp only [Act.put, List.setIfInBounds_toArray, List.set_cons_zero, List.set_cons_succ]
      refine takeH 2 26 (.slice ia n ic) hHeld rfl rfl (by kernel_rfl) (by kernel_rfl) (by kernel_rfl) (fun _ _ _ h => h) (Or.inl ⟨by rfl, fun w hw => by have hw' : w.cell? ⟨g1, 0, none⟩ = some (.slice ia n ic) := (fun hw => HC0.out _ hw) hw; go_simp⟩) ?_
      simp only [Act.put, List.setIfInBounds_toArray, List.set_cons_zero, List.set_cons_succ]
      refine takeH 3 27 (.int .i64 (n : Int)) hHeld rfl rfl (by kernel_rfl) (by kernel_rfl) (by kernel_rfl) (fun _ _ _ h => h) (Or.inl ⟨by rfl, fun w _ => by go_simp⟩) ?_
      simp only [Act.put, List.setIfInBounds_toArray, List.set_cons_zero, List.set_cons_succ]
      refine takeH 4 28 (.bool false) hHeld rfl rfl (by kernel_rfl) (by kernel_rfl) (by kernel_rfl) (fun _ _ _ h => h) (Or.inl ⟨by rfl, fun w _ => by go_simp⟩) ?_
      simp only [Act.put, List.setIfInBounds_toArray, List.set_cons_zero, List.set_cons_succ]
      refine takeH 5 29 (.bool false) hHeld rfl rfl (by kernel_rfl) (by kernel_rfl) (by kernel_rfl) (fun _ _ _ h => h) (Or.inl ⟨by rfl, fun w _ => by go_simp⟩) ?_
      simp only [Act.put, List.setIfInBounds_toArray, List.set_cons_zero, List.set_cons_succ]
      refine takeH 6 30 undef hHeld rfl rfl (by kernel_rfl) (by kernel_rfl) (by kernel_rfl) (fun _ _ _ h => h) (Or.inr ⟨by rfl, rfl⟩) ?_
      simp only [Act.put, List.setIfInBounds_toArray, List.set_cons_zero, List.set_cons_succ]
      refine takeH 7 31 undef hHeld rfl rfl (by kernel_rfl) (by kernel_rfl) (by kernel_rfl) (fun _ _ _ h => h) (Or.inr ⟨by rfl, rfl⟩) ?_
      simp only [Act.put, List.setIfInBounds_toArray, List.set_cons_zero, List.set_cons_succ]
      refine takeH 8 32 undef hHeld rfl rfl (by kernel_rfl) (by kernel_rfl) (by kernel_rfl) (fun _ _ _ h => h) (Or.inr ⟨by rfl, rfl⟩) ?_
      simp only [Act.put, List.setIfInBounds_toArray, List.set_cons_zero, List.set_cons_succ]
      refine takeH 9 33 undef hHeld rfl rfl (by kernel_rfl) (by kernel_rfl) (by kernel_rfl) (fun _ _ _ h => h) (Or.inr ⟨by rfl, rfl⟩) ?_
      simp only [Act.put, List.setIfInBounds_toArray, List.set_cons_zero, List.set_cons_succ]
      refine takeH 10 34 undef hHeld rfl rfl (by kernel_rfl) (by kernel_rfl) (by kernel_rfl) (fun _ _ _ h => h) (Or.inr ⟨by rfl, rfl⟩) ?_
      simp only [Act.put, List.setIfInBounds_toArray, List.set_cons_zero, List.set_cons_succ]
      refine takeH 11 35 undef hHeld rfl rfl (by kernel_rfl) (by kernel_rfl) (by kernel_rfl) (fun _ _ _ h => h) (Or.inr ⟨by rfl, rfl⟩) ?_
      simp only [Act.put, List.setIfInBounds_toArray, List.set_cons_zero, List.set_cons_succ]
      refine takeH 12 36 undef hHeld rfl rfl (by kernel_rfl) (by kernel_rfl) (by kernel_rfl) (fun _ _ _ h => h) (Or.inr ⟨by rfl, rfl⟩) ?_
      simp only [Act.put, List.setIfInBounds_toArray, List.set_cons_zero, List.set_cons_succ]
      refine takeH 13 37 undef hHeld rfl rfl (by kernel_rfl) (by kernel_rfl) (by kernel_rfl) (fun _ _ _ h => h) (Or.inr ⟨by rfl, rfl⟩) ?_
      simp only [Act.put, List.setIfInBounds_toArray, List.set_cons_zero, List.set_cons_succ]
      refine takeH 14 38 (.bool false) hHeld rfl rfl (by kernel_rfl) (by kernel_rfl) (by kernel_rfl) (fun _ _ _ h => h) (Or.inl ⟨by rfl, fun w _ => by go_simp⟩) ?_
      simp only [Act.put, List.setIfInBounds_toArray, List.set_cons_zero, List.set_cons_succ]
      refine wpAnyH_done (by kernel_rfl) ?_ _
      refine NoPanic.normal ?_
      have H5 := hide (H4.out.on BD.out)
      clear hHeld H4 HC0 BD
      revert H5
      generalize wr.drew = w5
      intro H5
      go_wp2_with fail
      obtain ⟨vA, hto, hvt⟩ := Vw.to roI (k := k) H5.out.dx.i (by rw [HN.out]; omega)
      obtain ⟨vB, hfr, hvf⟩ := Vw.from roI (k := k) H5.out.dx.i (by rw [HN.out]; omega)
      have HTO := hide hto
      have HFR := hide hfr
      have HC1 : Hid (∀ z : World, Below w5.heap.size w5 z → z.cell? ⟨g1, 0, none⟩ = some (.slice ia n ic)) := hide (fun z hz => by rw [(H5.out.on hz).c1.cell]; rfl)
      have HRX : Hid (∀ z : World, Below w5.heap.size w5 z → z.rangeAt g2 0 (u8s d)) := hide (fun z hz => ((H5.out.on hz).c2).range 0 _ (by rw [List.drop_zero, List.take_length]))
      have HVA : Hid (∀ z : World, Below w5.heap.size w5 z → Vw z 56 33 vA k ((pcs L).take (k * 33))) := hide (fun z hz => hvt z (H5.out.on hz).dx.i)
      have HVB : Hid (∀ z : World, Below w5.heap.size w5 z → Vw z 56 33 vB (n - k) ((pcs L).drop (k * 33))) := hide (fun z hz => by
        have := hvf z (H5.out.on hz).dx.i
        rwa [HN.out] at this)
      have ONE1 : Hid (∀ y ∈ (pcs L).take (k * 33), y.oneCell' = true) := hide (fun y hy => pcs_one L y ((List.take_sublist _ _).subset hy))
      have ONE2 : Hid (∀ y ∈ (pcs L).drop (k * 33), y.oneCell' = true) := hide (fun y hy => pcs_one L y ((List.drop_sublist _ _).subset hy))
      have hu := aDd.und
      have HX2 : Hid ((Try.prog.info? 24).map (·.size) = some (u8s d).length) := hide (by rw [wideD.size, u8s_length, HL.out])
      clear hto hfr hvt hvf
      go_wp2_with fail
      refine join4 (fun a1 a2 a3 u W => Hid (W.ownsRow w5.heap.size 56 33 u (k + 1) ((pcs L).take (k * 33) ++ pc x)) ∧ Hid (Below w5.heap.size w5 W)) ?act2 ?tail2 (fun hjoin => ?_)
      rotate_left
      rotate_left
      · refine wp_region_noPanic ?_
        refine wp_region_U (q := 11) (S := fun z : World => Below w5.heap.size w5 z) (by kernel_rfl) ?_
        have Z0 := hide ((Below.refl w5.heap.size w5).drew)
        have hHeld := Z0.out
        refine takeU 11 1 42 (.pointer (some ⟨g1, 0, none⟩)) hHeld rfl rfl (by kernel_rfl) (by kernel_rfl) (by kernel_rfl) (by kernel_rfl) (by kernel_rfl) (by kernel_rfl) (fun _ _ _ h => h) (Or.inl ⟨by rfl, fun w _ => by go_simp⟩) ?_
        simp only [Act.put, List.setIfInBounds_toArray, List.set_cons_zero, List.set_cons_succ]
        refine takeU 11 2 43 (.slice ia n ic) hHeld rfl rfl (by kernel_rfl) (by kernel_rfl) (by kernel_rfl) (by kernel_rfl) (by kernel_rfl) (by kernel_rfl) (fun _ _ _ h => h) (Or.inl ⟨by rfl, fun w hw => by have hw' : w.cell? ⟨g1, 0, none⟩ = some (.slice ia n ic) := (fun hw => HC1.out _ hw) hw; go_simp⟩) ?_
        simp only [Act.put, List.setIfInBounds_toArray, List.set_cons_zero, List.set_cons_succ]
        refine takeU 11 3 44 (.int .i64 (k : Int)) hHeld rfl rfl (by kernel_rfl) (by kernel_rfl) (by kernel_rfl) (by kernel_rfl) (by kernel_rfl) (by kernel_rfl) (fun _ _ _ h => h) (Or.inl ⟨by rfl, fun w _ => by go_simp⟩) ?_
        simp only [Act.put, List.setIfInBounds_toArray, List.set_cons_zero, List.set_cons_succ]
        refine takeU 11 4 45 (vA) hHeld rfl rfl (by kernel_rfl) (by kernel_rfl) (by kernel_rfl) (by kernel_rfl) (by kernel_rfl) (by kernel_rfl) (fun _ _ _ h => h) (Or.inl ⟨by rfl, fun w h => run_op rfl (HTO.out w)⟩) ?_
        simp only [Act.put, List.setIfInBounds_toArray, List.set_cons_zero, List.set_cons_succ]
        refine takeU 11 6 47 (.agg (u8s d).toArray) hHeld rfl rfl (by kernel_rfl) (by kernel_rfl) (by kernel_rfl) (by kernel_rfl) (by kernel_rfl) (by kernel_rfl) (fun _ _ _ h => h) (yieldsIf_load_mid (by rfl) _ _ rfl g2 0 rfl _ _ (fun V h => HRX.out V h) hu rfl HX2.out) ?_
        simp only [Act.put, List.setIfInBounds_toArray, List.set_cons_zero, List.set_cons_succ]
        refine takeU 11 7 48 (.int .i64 q) hHeld rfl rfl (by kernel_rfl) (by kernel_rfl) (by kernel_rfl) (by kernel_rfl) (by kernel_rfl) (by kernel_rfl) (fun _ _ _ h => h) (Or.inl ⟨by rfl, fun w _ => by go_simp⟩) ?_
        simp only [Act.put, List.setIfInBounds_toArray, List.set_cons_zero, List.set_cons_succ]
        refine takeU 11 8 49 (.agg (pc x).toArray) hHeld rfl rfl (by kernel_rfl) (by kernel_rfl) (by kernel_rfl) (by kernel_rfl) (by kernel_rfl) (by kernel_rfl) (fun _ _ _ h => h) (Or.inl ⟨by rfl, fun w h => run_entI x (by rw [HDE.out]; rfl) (by rw [HPX.out]; rfl)⟩) ?_
        simp only [Act.put, List.setIfInBounds_toArray, List.set_cons_zero, List.set_cons_succ]
        refine wpAnyU_ready (rs := [0, 9]) (by kernel_rfl) (by simp) (AllReadyU.cons rfl (fun K hK => ?_) (AllReadyU.cons rfl (fun K hK => ?_) AllReadyU.nil))
        · rw [if_pos (by rfl)]
          refine wp_zeroV (q := 33) emptI ?_
          intro wa g0 hv0 _ hb0
          have Z3 := hide (Z0.out.trans (hb0.mono Z0.out.size))
          have V0 := hide (row_base hv0 Z0.out.size)
          have B0 := hide hb0
          refine hK.out _ _ (fun _ => Z3.out) ?_
          have hHeld := Z3.out
          clear hK K
          clear hv0 hb0
          simp only [Act.put]
          refine wpAnyU_ready (rs := [5, 9]) (by kernel_rfl) (by simp) (AllReadyU.cons rfl (fun K hK => ?_) (AllReadyU.cons rfl (fun K hK => ?_) AllReadyU.nil))
          · rw [if_pos (by rfl)]
            refine wp_appE roI rfl rfl V0.out (HVA.out _ Z3.out) ONE1.out (by omega) Z3.out.size ?_
            intro v46 wb hv46 hb5
            have Z4 := hide (Z3.out.trans (hb5.mono Z3.out.size))
            have V46 := hide hv46
            have B5 := hide hb5
            refine hK.out _ _ (fun _ => Z4.out) ?_
            have hHeld := Z4.out
            clear hK K
            clear hv46 hb5
            simp only [Act.put]
            refine wpAnyU_ready (rs := [9]) (by kernel_rfl) (by simp) (AllReadyU.cons rfl (fun K hK => ?_) AllReadyU.nil)
            rw [if_pos (by rfl)]
            refine wp_oneV roI (vs := pc x) rfl rfl (pc_len x) ?_
            intro wc g50 hu50 _ hb9 _
            have Z5 := hide (Z4.out.trans (hb9.mono Z4.out.size))
            have U50 := hide hu50
            have B9 := hide hb9
            refine hK.out _ _ (fun _ => Z5.out) ?_
            have hHeld := Z5.out
            clear hK K
            clear hu50 hb9
            simp only [Act.put]
            have V46' := hide (row_on V46.out B9.out)
            refine wpAnyU_ready (rs := [10]) (by kernel_rfl) (by simp) (AllReadyU.cons rfl (fun K hK => ?_) AllReadyU.nil)
            rw [if_pos (by rfl)]
            refine wp_appV roI rfl rfl V46'.out U50.out (pc_one x) (by omega) Z5.out.size ?_
            intro v51 w6 hv51 hgr hat
            have Z6 := hide (Z5.out.trans (grown_below hgr (fun k hk => row_ge V46'.out hk) Z5.out.size))
            have V51 := hide hv51
            refine hK.out _ _ (fun _ => Z6.out) ?_
            have hHeld := Z6.out
            clear hK K
            clear hv51 hgr hat
            simp only [Act.put]
            refine wpAnyU_ready (rs := [11]) (by kernel_rfl) (by simp) (AllReadyU.cons rfl (fun K hK => ?_) AllReadyU.nil)
            rw [if_pos (by rfl)]
            go_simp
            refine hK.out _ _ (fun h => absurd h (by decide)) ?_
            clear hK K
            refine wpAnyU_done (by kernel_rfl) ?_ _
            refine NoPanic.normal ?_
            exact hjoin g0 v46 g50 v51 w6 ⟨V51, Z6⟩
          · rw [if_pos (by rfl)]
            refine wp_oneV roI (vs := pc x) rfl rfl (pc_len x) ?_
            intro wb g50 hu50 _ hb9 _
            have Z4 := hide (Z3.out.trans (hb9.mono Z3.out.size))
            have U50 := hide hu50
            have B9 := hide hb9
            refine hK.out _ _ (fun _ => Z4.out) ?_
            have hHeld := Z4.out
            clear hK K
            clear hu50 hb9
            simp only [Act.put]
            have V0' := hide (row_on V0.out B9.out)
            refine wpAnyU_ready (rs := [5]) (by kernel_rfl) (by simp) (AllReadyU.cons rfl (fun K hK => ?_) AllReadyU.nil)
            rw [if_pos (by rfl)]
            refine wp_appE roI rfl rfl V0'.out (HVA.out _ Z4.out) ONE1.out (by omega) Z4.out.size ?_
            intro v46 wc hv46 hb5
            have Z5 := hide (Z4.out.trans (hb5.mono Z4.out.size))
            have V46 := hide hv46
            have B5 := hide hb5
            refine hK.out _ _ (fun _ => Z5.out) ?_
            have hHeld := Z5.out
            clear hK K
            clear hv46 hb5
            simp only [Act.put]
            have U50' := hide (U50.out.on B5.out)
            refine wpAnyU_ready (rs := [10]) (by kernel_rfl) (by simp) (AllReadyU.cons rfl (fun K hK => ?_) AllReadyU.nil)
            rw [if_pos (by rfl)]
            refine wp_appV roI rfl rfl V46.out U50'.out (pc_one x) (by omega) Z5.out.size ?_
            intro v51 w6 hv51 hgr hat
            have Z6 := hide (Z5.out.trans (grown_below hgr (fun k hk => row_ge V46.out hk) Z5.out.size))
            have V51 := hide hv51
            refine hK.out _ _ (fun _ => Z6.out) ?_
            have hHeld := Z6.out
            clear hK K
            clear hv51 hgr hat
            simp only [Act.put]
            refine wpAnyU_ready (rs := [11]) (by kernel_rfl) (by simp) (AllReadyU.cons rfl (fun K hK => ?_) AllReadyU.nil)
            rw [if_pos (by rfl)]
            go_simp
            refine hK.out _ _ (fun h => absurd h (by decide)) ?_
            clear hK K
            refine wpAnyU_done (by kernel_rfl) ?_ _
            refine NoPanic.normal ?_
            exact hjoin g0 v46 g50 v51 w6 ⟨V51, Z6⟩
        · rw [if_pos (by rfl)]
          refine wp_oneV roI (vs := pc x) rfl rfl (pc_len x) ?_
          intro wa g50 hu50 _ hb9 _
          have Z3 := hide (Z0.out.trans (hb9.mono Z0.out.size))
          have U50 := hide hu50
          have B9 := hide hb9
          refine hK.out _ _ (fun _ => Z3.out) ?_
          have hHeld := Z3.out
          clear hK K
          clear hu50 hb9
          simp only [Act.put]
          refine wpAnyU_ready (rs := [0]) (by kernel_rfl) (by simp) (AllReadyU.cons rfl (fun K hK => ?_) AllReadyU.nil)
          rw [if_pos (by rfl)]
          refine wp_zeroV (q := 33) emptI ?_
          intro wb g0 hv0 _ hb0
          have Z4 := hide (Z3.out.trans (hb0.mono Z3.out.size))
          have V0 := hide (row_base hv0 Z3.out.size)
          have B0 := hide hb0
          refine hK.out _ _ (fun _ => Z4.out) ?_
          have hHeld := Z4.out
          clear hK K
          clear hv0 hb0
          simp only [Act.put]
          have U50' := hide (U50.out.on B0.out)
          refine wpAnyU_ready (rs := [5]) (by kernel_rfl) (by simp) (AllReadyU.cons rfl (fun K hK => ?_) AllReadyU.nil)
          rw [if_pos (by rfl)]
          refine wp_appE roI rfl rfl V0.out (HVA.out _ Z4.out) ONE1.out (by omega) Z4.out.size ?_
          intro v46 wc hv46 hb5
          have Z5 := hide (Z4.out.trans (hb5.mono Z4.out.size))
          have V46 := hide hv46
          have B5 := hide hb5
          refine hK.out _ _ (fun _ => Z5.out) ?_
          have hHeld := Z5.out
          clear hK K
          clear hv46 hb5
          simp only [Act.put]
          have U50'' := hide (U50'.out.on B5.out)
          refine wpAnyU_ready (rs := [10]) (by kernel_rfl) (by simp) (AllReadyU.cons rfl (fun K hK => ?_) AllReadyU.nil)
          rw [if_pos (by rfl)]
          refine wp_appV roI rfl rfl V46.out U50''.out (pc_one x) (by omega) Z5.out.size ?_
          intro v51 w6 hv51 hgr hat
          have Z6 := hide (Z5.out.trans (grown_below hgr (fun k hk => row_ge V46.out hk) Z5.out.size))
          have V51 := hide hv51
          refine hK.out _ _ (fun _ => Z6.out) ?_
          have hHeld := Z6.out
          clear hK K
          clear hv51 hgr hat
          simp only [Act.put]
          refine wpAnyU_ready (rs := [11]) (by kernel_rfl) (by simp) (AllReadyU.cons rfl (fun K hK => ?_) AllReadyU.nil)
          rw [if_pos (by rfl)]
          go_simp
          refine hK.out _ _ (fun h => absurd h (by decide)) ?_
          clear hK K
          refine wpAnyU_done (by kernel_rfl) ?_ _
          refine NoPanic.normal ?_
          exact hjoin g0 v46 g50 v51 w6 ⟨V51, Z6⟩
      intro a1 a2 a3 u W3 hP
      obtain ⟨V3, Z3⟩ := hP
      obtain ⟨ua, uc, rfl⟩ := row_slice V3.out
      have H3 := hide (H5.out.on Z3.out)
      have c31 : W3.cell? ⟨g1, 0, none⟩ = some (.slice ia n ic) := HC1.out _ Z3.out
      have hfr := HFR.out
      go_wp2_with (refine step_appV roI rfl rfl rfl V3.out (HVB.out _ Z3.out) ONE2.out (by omega) Z3.out.size ?_)
      intro v57 w10 hv57 hgr10 hat10
      have Z10 := hide (Z3.out.trans (grown_below hgr10 (fun k hk => row_ge V3.out hk) Z3.out.size))
      have H10 := hide (H5.out.on Z10.out)
      have VI : Hid (Vw w10 56 33 v57 (insK kE x L).length (pcs (insK kE x L))) := hide (by
        have h1 := Vw.of_row hv57
        have e1 : (insK kE x L).length = k + 1 + (n - k) := by rw [insK_len, HN.out]; omega
        have e2 : pcs (insK kE x L) = (pcs L).take (k * 33) ++ pc x ++ (pcs L).drop (k * 33) := by rw [HI.out, pcs_app, pcs_cons, pcs_take, pcs_drop, List.append_assoc]
        rw [e1, e2]
        exact h1)
      obtain ⟨ya, yc, hyv⟩ := VI.out.slice
      obtain ⟨N', hN'⟩ : ∃ N', (insK kE x L).length = N' := ⟨_, rfl⟩
      rw [hN'] at hyv
      subst hyv
      have HN' := hide hN'
      clear hN' hv57 hgr10 hat10 hfr c31 HTO HFR HVA HVB ONE1 ONE2 HC1 HRX V3 Z3 H3 hu HX2
      have c101 : w10.cell? ⟨g1, 1, none⟩ = some (.slice ra m rc) := by rw [H10.out.c1.cell]; rfl
      go_wp2_with (refine step_zeroV (q := 1) emptN rfl ?_)
      intro w11 gn hv11 hln hb11
      have H11 := hide (H10.out.on hb11)
      have HB11 := hide hb11
      have HV11 := hide hv11
      clear hv11 hb11 c101
      have c111 : w11.cell? ⟨g1, 1, none⟩ = some (.slice ra m rc) := by rw [H11.out.c1.cell]; rfl
      have hdr : Vw w11 3 1 (.slice ra m rc) m (ns R) := by
        have := H11.out.dx.r
        rwa [HM.out] at this
      have hm9 : m ≤ 1048576 := by rw [← HM.out]; exact HRL.out
      go_wp2_with (refine step_appV roN rfl rfl rfl HV11.out hdr (ns_one R) (by omega) HB11.out.size ?_)
      intro v61 w12 hv61 hgr12 hat12
      have Z12 := hide (HB11.out.trans (grown_below hgr12 (fun k hk => row_ge HV11.out hk) HB11.out.size))
      have V61 : Hid (w12.ownsRow w10.heap.size 3 1 v61 m (ns R)) := hide (by simpa using hv61)
      clear hv61 hgr12 hat12 hdr H11 HV11 c111
      go_wp2_with (refine step_oneV roN (xv := .int .i64 1) (vs := ns [1]) rfl rfl rfl rfl ?_)
      intro w13 gm hu13 _ hb13 _
      have Z13 := hide (on_below Z12.out hb13)
      have V62 := hide (row_on V61.out hb13)
      have U13 := hide hu13
      clear hu13 hb13 V61 Z12
      go_wp2_with (refine step_appV roN rfl rfl rfl V62.out U13.out (ns_one [1]) (by omega) Z13.out.size ?_)
      intro v63 w14 hv63 hgr14 hat14
      have Z14 := hide (Z13.out.trans (grown_below hgr14 (fun k hk => row_ge V62.out hk) Z13.out.size))
      have V63 : Hid (w14.ownsRow w10.heap.size 3 1 v63 (m + 1) (ns (R.reverse.reverse ++ [1]))) := hide (by rw [List.reverse_reverse, ns_app]; exact hv63)
      clear hv63 hgr14 hat14 V62 U13 Z13
      obtain ⟨na, nc, rfl⟩ := row_slice V63.out
      go_wp2_with fail
      go_loopg [12] (m + 1) (fun z s12 wr => ∃ (N : Nat) (g c mm : Nat) (t : List Nat), z = t.length + 1 ∧ N = t.length + 1 ∧ t.length ≤ m ∧ s12 = .slice (some ⟨g, 0, none⟩) N c ∧ Hid (N ≤ c) ∧ Hid (wr.ownsRow w10.heap.size 3 1 (.slice (some ⟨g, 0, none⟩) N c) N (ns (t.reverse ++ [mm]))) ∧ Hid (PN R.reverse t mm) ∧ Hid (Below w10.heap.size w10 wr))
      case atStart =>
        obtain ⟨gq, cq, cs, e, hbq, _, _⟩ := row_at V63.out (by omega)
        injection e with e1 _ e3
        subst e1 e3
        have hcc : m + 1 ≤ nc := by
          obtain ⟨_, h2⟩ := V63.out
          rcases h2 with ⟨h2, _⟩ | ⟨g', cap', cur, e', _, _, h3, _⟩
          · cases h2
          · injection e' with _ _ e4
            omega
        exact ⟨m + 1, gq, nc, 1, R.reverse, by rw [List.length_reverse, HM.out], by rw [List.length_reverse, HM.out], by rw [List.length_reverse, HM.out]; exact Nat.le_refl _, rfl, hide hcc, V63, hide (PN.start _), Z14⟩
      case round =>
        clear V63 Z14
        obtain ⟨N, g, c, mm, t, hz, hN, htm, rfl, HC, HR, HP, HW⟩ := hrel
        have HZ := hide hz
        have hmm9 : mm + t.sum ≤ 4398046511105 := by have h1 := HP.out.sum; have h2 := HRS.out; rw [List.sum_reverse] at h1; omega
        have hN9 : N ≤ 1048577 := by omega
        clear hz
        cases t with
        | nil =>
          have hN1 : N = 1 := hN
          have hgt : ¬ (1 : Int) < (N : Int) := by omega
          have HFN : Hid ((pushN R.reverse 1).reverse = ([] : List Nat).reverse ++ [mm]) := hide HP.out.end0
          clear HP hN hN1
          go_wp2_with fail
          refine wp_region_noPanic ?_
          have BD := hide (Below.refl wr.heap.size wr).drew
          refine wp_region_held_drew (S := fun V : World => Below wr.heap.size wr V) (by kernel_rfl) BD.out (fun hHeld => ?_)
          refine takeH 0 64 (.slice (some ⟨g, 0, none⟩) N c) hHeld rfl rfl (by kernel_rfl) (by kernel_rfl) (by kernel_rfl) (fun _ _ _ h => h) (Or.inl ⟨by rfl, fun w _ => by go_simp⟩) ?_
          simp only [Act.put, List.setIfInBounds_toArray, List.set_cons_zero, List.set_cons_succ]
          refine takeH 1 65 (.int .i64 (N : Int)) hHeld rfl rfl (by kernel_rfl) (by kernel_rfl) (by kernel_rfl) (fun _ _ _ h => h) (Or.inl ⟨by rfl, fun w _ => by go_simp⟩) ?_
          simp only [Act.put, List.setIfInBounds_toArray, List.set_cons_zero, List.set_cons_succ]
          refine takeH 2 66 (.bool false) hHeld rfl rfl (by kernel_rfl) (by kernel_rfl) (by kernel_rfl) (fun _ _ _ h => h) (Or.inl ⟨by rfl, fun w _ => by go_simp⟩) ?_
          simp only [Act.put, List.setIfInBounds_toArray, List.set_cons_zero, List.set_cons_succ]
          refine takeH 3 67 (.bool false) hHeld rfl rfl (by kernel_rfl) (by kernel_rfl) (by kernel_rfl) (fun _ _ _ h => h) (Or.inl ⟨by rfl, fun w _ => by go_simp⟩) ?_
          simp only [Act.put, List.setIfInBounds_toArray, List.set_cons_zero, List.set_cons_succ]
          refine takeH 4 68 undef hHeld rfl rfl (by kernel_rfl) (by kernel_rfl) (by kernel_rfl) (fun _ _ _ h => h) (Or.inr ⟨by rfl, rfl⟩) ?_
          simp only [Act.put, List.setIfInBounds_toArray, List.set_cons_zero, List.set_cons_succ]
          refine takeH 5 69 undef hHeld rfl rfl (by kernel_rfl) (by kernel_rfl) (by kernel_rfl) (fun _ _ _ h => h) (Or.inr ⟨by rfl, rfl⟩) ?_
          simp only [Act.put, List.setIfInBounds_toArray, List.set_cons_zero, List.set_cons_succ]
          refine takeH 6 70 undef hHeld rfl rfl (by kernel_rfl) (by kernel_rfl) (by kernel_rfl) (fun _ _ _ h => h) (Or.inr ⟨by rfl, rfl⟩) ?_
          simp only [Act.put, List.setIfInBounds_toArray, List.set_cons_zero, List.set_cons_succ]
          refine takeH 7 71 undef hHeld rfl rfl (by kernel_rfl) (by kernel_rfl) (by kernel_rfl) (fun _ _ _ h => h) (Or.inr ⟨by rfl, rfl⟩) ?_
          simp only [Act.put, List.setIfInBounds_toArray, List.set_cons_zero, List.set_cons_succ]
          refine takeH 8 72 undef hHeld rfl rfl (by kernel_rfl) (by kernel_rfl) (by kernel_rfl) (fun _ _ _ h => h) (Or.inr ⟨by rfl, rfl⟩) ?_
          simp only [Act.put, List.setIfInBounds_toArray, List.set_cons_zero, List.set_cons_succ]
          refine takeH 9 73 undef hHeld rfl rfl (by kernel_rfl) (by kernel_rfl) (by kernel_rfl) (fun _ _ _ h => h) (Or.inr ⟨by rfl, rfl⟩) ?_
          simp only [Act.put, List.setIfInBounds_toArray, List.set_cons_zero, List.set_cons_succ]
          refine takeH 10 74 undef hHeld rfl rfl (by kernel_rfl) (by kernel_rfl) (by kernel_rfl) (fun _ _ _ h => h) (Or.inr ⟨by rfl, rfl⟩) ?_
          simp only [Act.put, List.setIfInBounds_toArray, List.set_cons_zero, List.set_cons_succ]
          refine takeH 11 75 undef hHeld rfl rfl (by kernel_rfl) (by kernel_rfl) (by kernel_rfl) (fun _ _ _ h => h) (Or.inr ⟨by rfl, rfl⟩) ?_
          simp only [Act.put, List.setIfInBounds_toArray, List.set_cons_zero, List.set_cons_succ]
          refine takeH 12 76 undef hHeld rfl rfl (by kernel_rfl) (by kernel_rfl) (by kernel_rfl) (fun _ _ _ h => h) (Or.inr ⟨by rfl, rfl⟩) ?_
          simp only [Act.put, List.setIfInBounds_toArray, List.set_cons_zero, List.set_cons_succ]
          refine takeH 13 77 undef hHeld rfl rfl (by kernel_rfl) (by kernel_rfl) (by kernel_rfl) (fun _ _ _ h => h) (Or.inr ⟨by rfl, rfl⟩) ?_
          simp only [Act.put, List.setIfInBounds_toArray, List.set_cons_zero, List.set_cons_succ]
          refine takeH 14 78 undef hHeld rfl rfl (by kernel_rfl) (by kernel_rfl) (by kernel_rfl) (fun _ _ _ h => h) (Or.inr ⟨by rfl, rfl⟩) ?_
          simp only [Act.put, List.setIfInBounds_toArray, List.set_cons_zero, List.set_cons_succ]
          refine takeH 15 79 undef hHeld rfl rfl (by kernel_rfl) (by kernel_rfl) (by kernel_rfl) (fun _ _ _ h => h) (Or.inr ⟨by rfl, rfl⟩) ?_
          simp only [Act.put, List.setIfInBounds_toArray, List.set_cons_zero, List.set_cons_succ]
          refine takeH 16 80 undef hHeld rfl rfl (by kernel_rfl) (by kernel_rfl) (by kernel_rfl) (fun _ _ _ h => h) (Or.inr ⟨by rfl, rfl⟩) ?_
          simp only [Act.put, List.setIfInBounds_toArray, List.set_cons_zero, List.set_cons_succ]
          refine takeH 17 81 (.bool false) hHeld rfl rfl (by kernel_rfl) (by kernel_rfl) (by kernel_rfl) (fun _ _ _ h => h) (Or.inl ⟨by rfl, fun w _ => by go_simp⟩) ?_
          simp only [Act.put, List.setIfInBounds_toArray, List.set_cons_zero, List.set_cons_succ]
          refine wpAnyH_done (by kernel_rfl) ?_ _
          refine NoPanic.normal ?_
          have HWd := hide (on_below HW.out BD.out)
          have HRd := hide (row_on HR.out BD.out)
          have HDd := hide (H10.out.on HWd.out)
          have HVd := hide (VI.out.on HWd.out)
          revert HWd HRd HDd HVd
          generalize wr.drew = Vd
          intro HWd HRd HDd HVd
          clear hHeld BD HR HW
          go_wp2_with (refine step_storeA wX rfl rfl (vs := [.slice ya N' yc, .slice (some ⟨g, 0, none⟩) N c]) rfl HDd.out.c6 rfl (by intro v hv; simp at hv; rcases hv with rfl | rfl <;> rfl) rfl ?_)
          intro Vf hgf hbut
          have HG := hide hgf
          have HF2 : Hid (Dx Vf (.slice ya N' yc) (.slice (some ⟨g, 0, none⟩) N c) (insK kE x L) (pushN R.reverse 1).reverse ∧ Below w.heap.size w Vf) := hide ⟨⟨HVd.out.butT hbut HDd.out.c6 (by decide), by
            rw [HFN.out]
            have h1 := Vw.of_row HRd.out
            have e1 := h1.len
            rw [Nat.mul_one, ns_len] at e1
            have h3 := h1.butT hbut HDd.out.c6 (by decide)
            rw [e1]
            exact h3⟩, HDd.out.bel.trans (hbut.below HDd.out.l6)⟩
          clear hgf hbut HVd HRd HDd
          go_wp2_with fail
          exact bodyPost_ret (results_wide2 rfl wX _ _ rfl HG.out rfl) rfl ⟨_, _, rfl, HF2.out⟩
        | cons h t' =>
          obtain ⟨j, hj⟩ : ∃ j, t'.length = j := ⟨_, rfl⟩
          have hN2 : N = j + 2 := by rw [hN, List.length_cons, hj]
          have hgt : (1 : Int) < (N : Int) := by omega
          have hjm : j + 1 ≤ m := by rw [← hj]; exact htm
          have hjc : j ≤ c := by have := HC.out; omega
          have hw1 : IntKind.i64.wrap ((N : Int) - 1) = (N : Int) - 1 := wrap_in _ (by omega) (by omega)
          have hw2 : IntKind.i64.wrap ((N : Int) - 2) = (N : Int) - 2 := wrap_in _ (by omega) (by omega)
          have HL2 : Hid (((h :: t').reverse ++ [mm]).getD (j + 1) 0 = mm ∧ ((h :: t').reverse ++ [mm]).getD j 0 = h) := hide (by rw [← hj]; exact last_at t' h mm)
          have HI1 := hide (fun V => n_at g N c (j + 1) ((N : Int) - 1) (by omega) (by omega) V)
          have HI2 := hide (fun V => n_at g N c j ((N : Int) - 2) (by omega) (by omega) V)
          have HCA : Hid (∀ V : World, Below wr.heap.size wr V → V.cell? ⟨g, j + 1, none⟩ = some (.int .i64 (mm : Int))) := hide fun V hV => by
            have := nrow_at (row_on HR.out hV) (show j + 1 < N by omega)
            rwa [HL2.out.1] at this
          have HCB : Hid (∀ V : World, Below wr.heap.size wr V → V.cell? ⟨g, j, none⟩ = some (.int .i64 (h : Int))) := hide fun V hV => by
            have := nrow_at (row_on HR.out hV) (show j < N by omega)
            rwa [HL2.out.2] at this
          rw [List.sum_cons] at hmm9
          have HJ := hide hj
          have HN2 := hide hN2
          clear hj hN2 hN htm
          go_wp2_with fail
          refine wp_region_noPanic ?_
          have BD := hide (Below.refl wr.heap.size wr).drew
          refine wp_region_held_drew (S := fun V : World => Below wr.heap.size wr V) (by kernel_rfl) BD.out (fun hHeld => ?_)
          refine takeH 0 64 (.slice (some ⟨g, 0, none⟩) N c) hHeld rfl rfl (by kernel_rfl) (by kernel_rfl) (by kernel_rfl) (fun _ _ _ h => h) (Or.inl ⟨by rfl, fun w _ => by go_simp⟩) ?_
          simp only [Act.put, List.setIfInBounds_toArray, List.set_cons_zero, List.set_cons_succ]
          refine takeH 1 65 (.int .i64 (N : Int)) hHeld rfl rfl (by kernel_rfl) (by kernel_rfl) (by kernel_rfl) (fun _ _ _ h => h) (Or.inl ⟨by rfl, fun w _ => by go_simp⟩) ?_
          simp only [Act.put, List.setIfInBounds_toArray, List.set_cons_zero, List.set_cons_succ]
          refine takeH 2 66 (.bool true) hHeld rfl rfl (by kernel_rfl) (by kernel_rfl) (by kernel_rfl) (fun _ _ _ h => h) (Or.inl ⟨by rfl, fun w _ => by go_simp⟩) ?_
          simp only [Act.put, List.setIfInBounds_toArray, List.set_cons_zero, List.set_cons_succ]
          refine takeH 3 67 (.bool true) hHeld rfl rfl (by kernel_rfl) (by kernel_rfl) (by kernel_rfl) (fun _ _ _ h => h) (Or.inl ⟨by rfl, fun w _ => by go_simp⟩) ?_
          simp only [Act.put, List.setIfInBounds_toArray, List.set_cons_zero, List.set_cons_succ]
          refine takeH 4 68 (.slice (some ⟨g, 0, none⟩) N c) hHeld rfl rfl (by kernel_rfl) (by kernel_rfl) (by kernel_rfl) (fun _ _ _ h => h) (Or.inl ⟨by rfl, fun w _ => by go_simp⟩) ?_
          simp only [Act.put, List.setIfInBounds_toArray, List.set_cons_zero, List.set_cons_succ]
          refine takeH 5 69 (.slice (some ⟨g, 0, none⟩) N c) hHeld rfl rfl (by kernel_rfl) (by kernel_rfl) (by kernel_rfl) (fun _ _ _ h => h) (Or.inl ⟨by rfl, fun w _ => by go_simp⟩) ?_
          simp only [Act.put, List.setIfInBounds_toArray, List.set_cons_zero, List.set_cons_succ]
          refine takeH 6 70 (.int .i64 (N : Int)) hHeld rfl rfl (by kernel_rfl) (by kernel_rfl) (by kernel_rfl) (fun _ _ _ h => h) (Or.inl ⟨by rfl, fun w _ => by go_simp⟩) ?_
          simp only [Act.put, List.setIfInBounds_toArray, List.set_cons_zero, List.set_cons_succ]
          refine takeH 7 71 (.int .i64 ((N : Int) - 1)) hHeld rfl rfl (by kernel_rfl) (by kernel_rfl) (by kernel_rfl) (fun _ _ _ h => h) (Or.inl ⟨by rfl, fun w _ => by go_simp⟩) ?_
          simp only [Act.put, List.setIfInBounds_toArray, List.set_cons_zero, List.set_cons_succ]
          refine takeH 8 72 (.pointer (some ⟨g, j + 1, none⟩)) hHeld rfl rfl (by kernel_rfl) (by kernel_rfl) (by kernel_rfl) (fun _ _ _ h => h) (Or.inl ⟨by rfl, fun w _ => run_op rfl (HI1.out w)⟩) ?_
          simp only [Act.put, List.setIfInBounds_toArray, List.set_cons_zero, List.set_cons_succ]
          refine takeH 9 73 (.int .i64 (mm : Int)) hHeld rfl rfl (by kernel_rfl) (by kernel_rfl) (by kernel_rfl) (fun _ _ _ h => h) (Or.inl ⟨by rfl, fun w hw => by have hw' : w.cell? ⟨g, (j + 1), none⟩ = some (.int .i64 (mm : Int)) := (fun hw => HCA.out _ hw) hw; go_simp⟩) ?_
          simp only [Act.put, List.setIfInBounds_toArray, List.set_cons_zero, List.set_cons_succ]
          refine takeH 10 74 (.slice (some ⟨g, 0, none⟩) N c) hHeld rfl rfl (by kernel_rfl) (by kernel_rfl) (by kernel_rfl) (fun _ _ _ h => h) (Or.inl ⟨by rfl, fun w _ => by go_simp⟩) ?_
          simp only [Act.put, List.setIfInBounds_toArray, List.set_cons_zero, List.set_cons_succ]
          refine takeH 11 75 (.slice (some ⟨g, 0, none⟩) N c) hHeld rfl rfl (by kernel_rfl) (by kernel_rfl) (by kernel_rfl) (fun _ _ _ h => h) (Or.inl ⟨by rfl, fun w _ => by go_simp⟩) ?_
          simp only [Act.put, List.setIfInBounds_toArray, List.set_cons_zero, List.set_cons_succ]
          refine takeH 12 76 (.int .i64 (N : Int)) hHeld rfl rfl (by kernel_rfl) (by kernel_rfl) (by kernel_rfl) (fun _ _ _ h => h) (Or.inl ⟨by rfl, fun w _ => by go_simp⟩) ?_
          simp only [Act.put, List.setIfInBounds_toArray, List.set_cons_zero, List.set_cons_succ]
          refine takeH 13 77 (.int .i64 ((N : Int) - 2)) hHeld rfl rfl (by kernel_rfl) (by kernel_rfl) (by kernel_rfl) (fun _ _ _ h => h) (Or.inl ⟨by rfl, fun w _ => by go_simp⟩) ?_
          simp only [Act.put, List.setIfInBounds_toArray, List.set_cons_zero, List.set_cons_succ]
          refine takeH 14 78 (.pointer (some ⟨g, j, none⟩)) hHeld rfl rfl (by kernel_rfl) (by kernel_rfl) (by kernel_rfl) (fun _ _ _ h => h) (Or.inl ⟨by rfl, fun w _ => run_op rfl (HI2.out w)⟩) ?_
          simp only [Act.put, List.setIfInBounds_toArray, List.set_cons_zero, List.set_cons_succ]
          refine takeH 15 79 (.int .i64 (h : Int)) hHeld rfl rfl (by kernel_rfl) (by kernel_rfl) (by kernel_rfl) (fun _ _ _ h => h) (Or.inl ⟨by rfl, fun w hw => by have hw' : w.cell? ⟨g, j, none⟩ = some (.int .i64 (h : Int)) := (fun hw => HCB.out _ hw) hw; go_simp⟩) ?_
          simp only [Act.put, List.setIfInBounds_toArray, List.set_cons_zero, List.set_cons_succ]
          by_cases he : h = mm
          · have he' : ((mm : Int) == (h : Int)) = true := by rw [he]; exact beq_self_eq_true _
            refine takeH 16 80 (.bool true) hHeld rfl rfl (by kernel_rfl) (by kernel_rfl) (by kernel_rfl) (fun _ _ _ h => h) (Or.inl ⟨by rfl, fun w _ => by go_simp⟩) ?_
            simp only [Act.put, List.setIfInBounds_toArray, List.set_cons_zero, List.set_cons_succ]
            refine takeH 17 81 (.bool true) hHeld rfl rfl (by kernel_rfl) (by kernel_rfl) (by kernel_rfl) (fun _ _ _ h => h) (Or.inl ⟨by rfl, fun w _ => by go_simp⟩) ?_
            simp only [Act.put, List.setIfInBounds_toArray, List.set_cons_zero, List.set_cons_succ]
            refine wpAnyH_done (by kernel_rfl) ?_ _
            refine NoPanic.normal ?_
            have HWd := hide (on_below HW.out BD.out)
            have HRd := hide (row_on HR.out BD.out)
            have HCd : Hid (∀ V : World, V.heap = wr.drew.heap → V.cell? ⟨g, j + 1, none⟩ = some (.int .i64 (mm : Int))) := hide fun V hV => by
              rw [World.cell?_of_block (w := wr.drew) (by rw [hV])]
              exact HCA.out _ BD.out
            have HP2 := hide (HP.out.step he)
            obtain ⟨m2, hm2⟩ : ∃ m2, 2 * mm = m2 := ⟨_, rfl⟩
            rw [hm2] at HP2
            have h2i : 2 * (mm : Int) = (m2 : Int) := by omega
            have hw3 : IntKind.i64.wrap (m2 : Int) = (m2 : Int) := wrap_in _ (by omega) (by omega)
            revert HWd HRd HCd
            generalize wr.drew = Vd
            intro HWd HRd HCd
            clear hHeld BD he he' HCA HCB HR HW HL2
            go_wp2_with fail
            refine wp_region_noPanic ?_
            have hcd : Vd.drew.cell? ⟨g, j + 1, none⟩ = some (.int .i64 (mm : Int)) := HCd.out _ rfl
            have HWe : Hid (Below w10.heap.size w10 Vd.drew) := hide (on_below HWd.out (Below.refl Vd.heap.size Vd).drew)
            have HRe := hide (row_on HRd.out (Below.refl Vd.heap.size Vd).drew)
            refine wp_region_held_drew (S := fun V : World => Below w10.heap.size w10 V) (by kernel_rfl) HWe.out (fun hHeld => ?_)
            revert hcd HWe HRe hHeld
            generalize Vd.drew = Ve
            intro hcd HWe HRe hHeld
            refine takeH 0 82 (.slice (some ⟨g, 0, none⟩) N c) hHeld rfl rfl (by kernel_rfl) (by kernel_rfl) (by kernel_rfl) (fun _ _ _ h => h) (Or.inl ⟨by rfl, fun w _ => by go_simp⟩) ?_
            simp only [Act.put, List.setIfInBounds_toArray, List.set_cons_zero, List.set_cons_succ]
            refine takeH 1 83 (.slice (some ⟨g, 0, none⟩) N c) hHeld rfl rfl (by kernel_rfl) (by kernel_rfl) (by kernel_rfl) (fun _ _ _ h => h) (Or.inl ⟨by rfl, fun w _ => by go_simp⟩) ?_
            simp only [Act.put, List.setIfInBounds_toArray, List.set_cons_zero, List.set_cons_succ]
            refine takeH 2 84 (.int .i64 (N : Int)) hHeld rfl rfl (by kernel_rfl) (by kernel_rfl) (by kernel_rfl) (fun _ _ _ h => h) (Or.inl ⟨by rfl, fun w _ => by go_simp⟩) ?_
            simp only [Act.put, List.setIfInBounds_toArray, List.set_cons_zero, List.set_cons_succ]
            refine takeH 3 85 (.int .i64 ((N : Int) - 2)) hHeld rfl rfl (by kernel_rfl) (by kernel_rfl) (by kernel_rfl) (fun _ _ _ h => h) (Or.inl ⟨by rfl, fun w _ => by go_simp⟩) ?_
            simp only [Act.put, List.setIfInBounds_toArray, List.set_cons_zero, List.set_cons_succ]
            refine takeH 4 86 (.slice (some ⟨g, 0, none⟩) j c) hHeld rfl rfl (by kernel_rfl) (by kernel_rfl) (by kernel_rfl) (fun _ _ _ h => h) (Or.inl ⟨by rfl, fun w _ => run_op rfl (n_to g N c j ((N : Int) - 2) (by have := HN2.out; omega) hjc w)⟩) ?_
            simp only [Act.put, List.setIfInBounds_toArray, List.set_cons_zero, List.set_cons_succ]
            refine takeH 5 87 (.slice (some ⟨g, 0, none⟩) N c) hHeld rfl rfl (by kernel_rfl) (by kernel_rfl) (by kernel_rfl) (fun _ _ _ h => h) (Or.inl ⟨by rfl, fun w _ => by go_simp⟩) ?_
            simp only [Act.put, List.setIfInBounds_toArray, List.set_cons_zero, List.set_cons_succ]
            refine takeH 6 88 (.slice (some ⟨g, 0, none⟩) N c) hHeld rfl rfl (by kernel_rfl) (by kernel_rfl) (by kernel_rfl) (fun _ _ _ h => h) (Or.inl ⟨by rfl, fun w _ => by go_simp⟩) ?_
            simp only [Act.put, List.setIfInBounds_toArray, List.set_cons_zero, List.set_cons_succ]
            refine takeH 7 89 (.int .i64 (N : Int)) hHeld rfl rfl (by kernel_rfl) (by kernel_rfl) (by kernel_rfl) (fun _ _ _ h => h) (Or.inl ⟨by rfl, fun w _ => by go_simp⟩) ?_
            simp only [Act.put, List.setIfInBounds_toArray, List.set_cons_zero, List.set_cons_succ]
            refine takeH 8 90 (.int .i64 ((N : Int) - 1)) hHeld rfl rfl (by kernel_rfl) (by kernel_rfl) (by kernel_rfl) (fun _ _ _ h => h) (Or.inl ⟨by rfl, fun w _ => by go_simp⟩) ?_
            simp only [Act.put, List.setIfInBounds_toArray, List.set_cons_zero, List.set_cons_succ]
            refine takeH 9 91 (.pointer (some ⟨g, j + 1, none⟩)) hHeld rfl rfl (by kernel_rfl) (by kernel_rfl) (by kernel_rfl) (fun _ _ _ h => h) (Or.inl ⟨by rfl, fun w _ => run_op rfl (HI1.out w)⟩) ?_
            simp only [Act.put, List.setIfInBounds_toArray, List.set_cons_zero, List.set_cons_succ]
            refine wpAnyH_ready (rs := [10]) (by kernel_rfl) (by simp) (AllReadyH.cons rfl (fun K hK => ?_) AllReadyH.nil)
            rw [if_pos (by rfl)]
            go_simp
            refine hK.out _ _ (HWe.out) (fun hHeld => ?_)
            clear hK K
            try simp only [Act.put, List.setIfInBounds_toArray, List.set_cons_zero, List.set_cons_succ]
            refine takeH 11 93 (.int .i64 (m2 : Int)) hHeld rfl rfl (by kernel_rfl) (by kernel_rfl) (by kernel_rfl) (fun _ _ _ h => h) (Or.inl ⟨by rfl, fun w _ => by go_simp⟩) ?_
            simp only [Act.put, List.setIfInBounds_toArray, List.set_cons_zero, List.set_cons_succ]
            refine wpAnyH_ready (rs := [12]) (by kernel_rfl) (by simp) (AllReadyH.cons rfl (fun K hK => ?_) AllReadyH.nil)
            rw [if_pos (by rfl)]
            refine wp_oneV roN (xv := .int .i64 (m2 : Int)) (vs := ns [m2]) rfl rfl rfl ?_
            intro w15 gu hu15 _ hb15 _
            have HW15 := hide (on_below HWe.out hb15)
            have HR15 := hide (row_on HRe.out hb15)
            have U15 := hide hu15
            refine hK.out _ _ (HW15.out) (fun hHeld => ?_)
            clear hK K
            clear hu15 hb15
            simp only [Act.put]
            refine wpAnyH_ready (rs := [13]) (by kernel_rfl) (by simp) (AllReadyH.cons rfl (fun K hK => ?_) AllReadyH.nil)
            rw [if_pos (by rfl)]
            refine wp_appV roN rfl rfl (row_cut HR15.out (k := j) (by have := HN2.out; omega)) U15.out (ns_one [m2]) (by omega) HW15.out.size ?_
            intro v16 w16 hv16 hgr16 hat16
            have HW16 := hide (HW15.out.trans (grown_below hgr16 (fun k hk => row_ge (row_cut HR15.out (k := j) (by have := HN2.out; omega)) hk) HW15.out.size))
            have V16 : Hid (w16.ownsRow w10.heap.size 3 1 v16 (j + 1) (ns (t'.reverse ++ [m2]))) := hide (by
              rw [ns_app]
              have e := ns_cut t' h mm
              rw [HJ.out] at e
              rw [← e]
              exact hv16)
            refine hK.out _ _ (HW16.out) (fun hHeld => ?_)
            clear hK K
            clear hv16 hgr16 hat16 HR15 HRe
            simp only [Act.put, List.setIfInBounds_toArray, List.set_cons_zero, List.set_cons_succ]
            obtain ⟨g9, c9, rfl, hc9⟩ := row_lit V16.out (by omega)
            refine takeH 14 12 (.slice (some ⟨g9, 0, none⟩) (j + 1) c9) hHeld rfl rfl (by kernel_rfl) (by kernel_rfl) (by kernel_rfl) (fun _ _ _ h => h) (Or.inl ⟨by rfl, fun w _ => by go_simp⟩) ?_
            simp only [Act.put, List.setIfInBounds_toArray, List.set_cons_zero, List.set_cons_succ]
            refine wpAnyH_done (by kernel_rfl) ?_ _
            refine NoPanic.normal ?_
            clear hHeld
            go_wp2
            go_roundg (t'.length + 1)
            case measure => have := HZ.out; rw [List.length_cons] at this; omega
            case rel => exact ⟨j + 1, g9, c9, m2, t', rfl, by rw [HJ.out], by rw [HJ.out]; omega, rfl, hide hc9, V16, HP2, HW16⟩
          · have he' : ((mm : Int) == (h : Int)) = false := by rw [beq_eq_false_iff_ne]; omega
            have HFN : Hid ((pushN R.reverse 1).reverse = (h :: t').reverse ++ [mm]) := hide (HP.out.end1 he)
            refine takeH 16 80 (.bool false) hHeld rfl rfl (by kernel_rfl) (by kernel_rfl) (by kernel_rfl) (fun _ _ _ h => h) (Or.inl ⟨by rfl, fun w _ => by go_simp⟩) ?_
            simp only [Act.put, List.setIfInBounds_toArray, List.set_cons_zero, List.set_cons_succ]
            refine takeH 17 81 (.bool false) hHeld rfl rfl (by kernel_rfl) (by kernel_rfl) (by kernel_rfl) (fun _ _ _ h => h) (Or.inl ⟨by rfl, fun w _ => by go_simp⟩) ?_
            simp only [Act.put, List.setIfInBounds_toArray, List.set_cons_zero, List.set_cons_succ]
            refine wpAnyH_done (by kernel_rfl) ?_ _
            refine NoPanic.normal ?_
            have HWd := hide (on_below HW.out BD.out)
            have HRd := hide (row_on HR.out BD.out)
            have HDd := hide (H10.out.on HWd.out)
            have HVd := hide (VI.out.on HWd.out)
            revert HWd HRd HDd HVd
            generalize wr.drew = Vd
            intro HWd HRd HDd HVd
            clear hHeld BD HR HW
            go_wp2_with (refine step_storeA wX rfl rfl (vs := [.slice ya N' yc, .slice (some ⟨g, 0, none⟩) N c]) rfl HDd.out.c6 rfl (by intro v hv; simp at hv; rcases hv with rfl | rfl <;> rfl) rfl ?_)
            intro Vf hgf hbut
            have HG := hide hgf
            have HF2 : Hid (Dx Vf (.slice ya N' yc) (.slice (some ⟨g, 0, none⟩) N c) (insK kE x L) (pushN R.reverse 1).reverse ∧ Below w.heap.size w Vf) := hide ⟨⟨HVd.out.butT hbut HDd.out.c6 (by decide), by
              rw [HFN.out]
              have h1 := Vw.of_row HRd.out
              have e1 := h1.len
              rw [Nat.mul_one, ns_len] at e1
              have h3 := h1.butT hbut HDd.out.c6 (by decide)
              rw [e1]
              exact h3⟩, HDd.out.bel.trans (hbut.below HDd.out.l6)⟩
            clear hgf hbut HVd HRd HDd
            go_wp2_with fail
            exact bodyPost_ret (results_wide2 rfl wX _ _ rfl HG.out rfl) rfl ⟨_, _, rfl, HF2.out⟩

end Go.Proofs.Ytabpfbankinojaa
