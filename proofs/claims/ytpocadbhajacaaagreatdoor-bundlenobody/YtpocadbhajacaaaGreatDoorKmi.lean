/-
  After: the disk as it was behind its first raw writes.
-/
import Derived.Test.YtpocadbhajacaaaGreatDoorKmh
namespace Go.Proofs.YtpocadbhajacaaaGreatDoor
open Go.RowKit
set_option linter.unusedVariables false

theorem expK_wtE (s : Nat) (e : En) : ∀ k, wt (expK s e k) = (e.r.b.take (edge s e k)).length + k
  | 0 => by simp [expK, wt, edge, edge_zero]
  | k + 1 => by
    have h := expK_wtE s e k
    rw [expK_succ, wt_app, take_edge]
    simp only [wt, List.map_cons, List.map_nil, List.sum_cons, List.sum_nil, pieces, List.length_append] at h ⊢
    omega
theorem len_expd {s : Nat} (hs : 1 ≤ s) {f : (ByteArray → Option (List Int))} {e : En} (h : Leg f e.r) : e.r.b.length ≤ wt (expd s e) := by
  by_cases hk : e.r.k = 2
  · rw [expd, expK_wtE]
    have : edge s e (cnt s e) = e.r.b.length := by
      have hc : cnt s e = cntN s e.had e.r.b.length := by simp [cnt, hk]
      rw [hc]
      exact edge_cnt hs (Nat.le_refl _)
    rw [this, List.take_length]
    omega
  · rw [h.b0 hk]
    simp
theorem RecOk.len {s : Nat} (hs : 1 ≤ s) {es : List En} (h : RecOk s es) {i : Nat} {e : En} (hi : es[i]? = some e) : wt (recs s (es.take i)) + e.r.b.length ≤ wt (recs s es) ∧ e.had ≤ wt (recs s es) ∧ e.first ≤ wt (recs s es) := by
  obtain ⟨h1, h2, h3⟩ := h i e hi
  have h4 := len_expd hs h3
  have e1 : recs s es = recs s (es.take (i + 1)) ++ recs s (es.drop (i + 1)) := by rw [← recs_app, List.take_append_drop]
  rw [take_at hi, recs_app, recs_one] at e1
  have e2 : wt (recs s es) = wt (recs s (es.take i)) + wt (expd s e) + wt (recs s (es.drop (i + 1))) := by rw [e1, wt_app, wt_app]
  have h5 := play_wt (recs s (es.take i)) e.r.n
  have h6 := len_wt (recs s (es.take i))
  omega
/-- One entry more, of which the first raw writes are taken. -/
theorem RecOk.step {s : Nat} (hs : 1 ≤ s) {es : List En} (h : RecOk s es) {i : Nat} {e : En} (hi : es[i]? = some e) {n : Nat} (hn : e.first < n) :
    (recs s (es.take i)).take n = recs s (es.take i) ∧ (recs s (es.take (i + 1))).take n = recs s (es.take i) ++ expd s ⟨pieces s e 0 (n - e.first), (recs s (es.take i)).length, (fl (play (recs s (es.take i))) (pieces s e 0 (n - e.first)).n).length⟩ ∧ Leg (play (recs s (es.take i))) (pieces s e 0 (n - e.first)) := by
  obtain ⟨h1, h2, h3⟩ := h i e hi
  obtain ⟨c1, c2⟩ := expd_cut hs h3 (k := n - e.first) (by omega) (recs s (es.take i)).length
  have hh : (fl (play (recs s (es.take i))) (pieces s e 0 (n - e.first)).n).length = e.had := h2.symm
  refine ⟨List.take_of_length_le (by omega), ?_, c2⟩
  rw [hh, c1, take_at hi, recs_app, recs_one, List.take_append, List.take_of_length_le (by omega), ← h1]
theorem RecOk.over {s : Nat} {es : List En} (h : RecOk s es) {i : Nat} {e : En} (hi : es[i]? = some e) {n : Nat} (hn : n ≤ e.first) : (recs s (es.take i)).take n = (recs s es).take n := by
  obtain ⟨h1, h2, h3⟩ := h i e hi
  have e1 : recs s es = recs s (es.take i) ++ recs s (es.drop i) := by rw [← recs_app, List.take_append_drop]
  rw [e1, List.take_append, Nat.sub_eq_zero_of_le (by omega), List.take_zero, List.append_nil]
theorem pieces_len (s : Nat) (e : En) (i j : Nat) : (pieces s e i j).b.length ≤ e.r.b.length := by
  simp [pieces]
  omega
theorem pieces_cells (s : Nat) (e : En) (i j : Nat) (v : Value) : rwC (pieces s e i j).k (pieces s e i j).n v (pieces s e i j).s (pieces s e i j).t = rwC e.r.k e.r.n v e.r.s e.r.t := rfl

theorem sizeE (w : World) : (sizeOf 119).run Tryz.prog w = .ok 7 w := by kernel_rfl
theorem elemE : Tryz.prog.elem 49 = 119 := by kernel_rfl
theorem undEs2 : Tryz.prog.underlying 49 = some (.slice (Tryz.prog.elem 49)) := by kernel_rfl
theorem en_at (b n cap i : Nat) (hi : i < n) (v : World) : (Instr.indexAt 49 (.slice (some ⟨b, 0, none⟩) n cap) (.int .i64 (i : Int))).run Tryz.prog v = .ok (.pointer (some ⟨b, i * 7, none⟩)) v := by
  rw [run_indexAt_slice v _ _ _ _ .i64 i undEs2, if_pos ⟨by omega, by omega⟩, elemE, sizeE]
  simp only [Result.andThen_ok, Int.toNat_natCast]
  rw [Addr.add_lit, Nat.zero_add]
theorem ensC_at (l : List (En × Value)) : ∀ (k : Nat) (x : En × Value), l[k]? = some x → ((ensC l).drop (k * 7)).take 7 = enC x.1 x.2 := by
  intro k x hk
  obtain ⟨hlt, rfl⟩ := List.getElem?_eq_some_iff.1 hk
  have e : l = l.take k ++ (l[k] :: l.drop (k + 1)) := by rw [← List.drop_eq_getElem_cons hlt, List.take_append_drop]
  have ka : ∀ a b : List (En × Value), ensC (a ++ b) = ensC a ++ ensC b := fun a b => by simp [ensC]
  have kb : ∀ (y : En × Value) (b : List (En × Value)), ensC (y :: b) = enC y.1 y.2 ++ ensC b := fun y b => by simp [ensC]
  have e2 := congrArg ensC e
  rw [ka, kb] at e2
  have hl : (ensC (l.take k)).length = k * 7 := by rw [ensC_length, List.length_take]; congr 1; omega
  rw [e2, List.drop_append_of_le_length (by omega), List.drop_of_length_le (by omega), List.nil_append]
  exact List.take_left' rfl
theorem DkAt.recAt {w : World} {d s : Nat} {rs : List Rw} {D : Dm} (h : DkAt w d s rs D) (h0 : 0 < D.es.length) : ∃ gr cap cs, D.rv = .slice (some ⟨gr, 0, none⟩) D.es.length cap ∧ Blk w gr 119 cs ∧ ∀ (k : Nat) x, D.es[k]? = some x → (cs.drop (k * 7)).take 7 = enC x.1 x.2 := by
  obtain ⟨h1, h2⟩ := h.row
  rcases h2 with ⟨_, e⟩ | ⟨g, cap, cur, e, hg, hh, h3, h4, h5, h6⟩
  · omega
  · refine ⟨g, cap, cur.toList, e, by unfold Blk; simpa using hh, fun k x hk => ?_⟩
    have hlt : k < D.es.length := (List.getElem?_eq_some_iff.1 hk).1
    have := ensC_at D.es k x hk
    rw [← h6, List.drop_take, List.take_take, Nat.min_eq_left (by omega)] at this
    exact this
theorem wrap_sub {a b : Nat} (h : b ≤ a) (ha : a ≤ 4611686018427387904) : IntKind.i64.wrap ((a : Int) - (b : Int)) = ((a - b : Nat) : Int) ∧ wrap64 ((a : Int) - (b : Int)) = ((a - b : Nat) : Int) := by
  have e : (a : Int) - (b : Int) = ((a - b : Nat) : Int) := by omega
  rw [e]
  exact wrapN _ (by omega) (by omega)

/-- What After leaves: a disk of its own. -/
structure AfR (w w' : World) (o s : Nat) (D : Dm) (rs' : List Rw) (Do : Dm) : Prop where
  dk : DkAt w' o s rs' Do
  bel : Below w.heap.size w w'
  own : ∀ k, Do.own o k → w.heap.size ≤ k
  ro : ∀ k, Do.ro k → D.ro k
section
variable (d s : Nat) (rs : List Rw) (D : Dm) (w : World) (h : DkAt w d s rs D)
include h
theorem after_bad (n : Int) (hn : n < 0 ∨ (rs.length : Int) < n) : Calls Tryz.prog 22 #[.pointer (some ⟨d, 0, none⟩), .int .i64 n] w fun e w' => e = .returned (.tuple #[.pointer none, .int .i64 2]) ∧ w' = w := by
  obtain ⟨c0, c1, c3, hp⟩ := h.made
  clear h c1
  by_cases h1 : n < 0
  · clear hn
    go_enter Tryz.func22, Tryz.ntmps22
    go_wp2_with (go_at_call 55; refine (made_ok _ _ _ c0 hp).mono ?_; rintro e w' ⟨rfl, rfl⟩)
    go_ret2
    exact ⟨rfl, rfl⟩
  · have h2 : (rs.length : Int) < n := by omega
    clear hn
    go_enter Tryz.func22, Tryz.ntmps22
    go_wp2_with (go_at_call 55; refine (made_ok _ _ _ c0 hp).mono ?_; rintro e w' ⟨rfl, rfl⟩)
    go_ret2
    exact ⟨rfl, rfl⟩
end
theorem New0.dkAt {w w' : World} {g m : Nat} {s : Nat} (h : New0 w w' g m s) (h1 : 1 ≤ s) (h2 : s ≤ 4096) : DkAt w' g s [] ⟨m, .slice none 0 0, [], []⟩ :=
  ⟨h1, h2, h.dk, World.ownsRow_nil _ _ _ _, (fun x hx => by cases hx), RecOk.nil s, rfl, ⟨Mp.new h.mp, (fun n => rfl), (fun n v hv => by cases hv), (fun n n' v v' hv => by cases hv)⟩, Nat.le_refl _, (fun k ⟨n, v, hv, _⟩ => by cases hv)⟩
theorem New0.own {w w' : World} {g m : Nat} {s : Int} (h : New0 w w' g m s) : ∀ k, (⟨m, .slice none 0 0, [], []⟩ : Dm).own g k → w.heap.size ≤ k := fun k hk => by
  rcases hk with rfl | rfl | hk | ⟨n, v, hv, _⟩
  · exact h.new.1
  · exact h.new.2
  · cases hk
  · cases hv
/-- What stands at the head of After's loop. -/
structure AfI (w wr : World) (d o s : Nat) (rs : List Rw) (D : Dm) (n k : Nat) : Prop where
  le : k ≤ D.es.length
  ex : ∃ Do, AfR w wr o s D ((recs s ((D.es.map (·.1)).take k)).take n) Do
theorem AfI.below {w wr wr' : World} {d o s : Nat} {rs : List Rw} {D : Dm} {n k : Nat} (h : AfI w wr d o s rs D n k) (hb : Below wr.heap.size wr wr') : AfI w wr' d o s rs D n k := by
  obtain ⟨Do, hA⟩ := h.ex
  exact ⟨h.le, Do, hA.dk.below hb, hA.bel.trans (hb.mono hA.bel.size), hA.own, hA.ro⟩
theorem AfI.bel {w wr : World} {d o s : Nat} {rs : List Rw} {D : Dm} {n k : Nat} (h : AfI w wr d o s rs D n k) : Below w.heap.size w wr := by
  obtain ⟨Do, hA⟩ := h.ex
  exact hA.bel

set_option maxRecDepth 100000 in
set_option maxHeartbeats 1000000 in
theorem after_any (d s : Nat) (rs : List Rw) (D : Dm) (w : World) (h : DkAt w d s rs D) (n : Nat) (hn : n ≤ rs.length) (hwt : wt rs ≤ 366503600000) : Calls Tryz.prog 22 #[.pointer (some ⟨d, 0, none⟩), .int .i64 (n : Int)] w fun e w' => ∃ o Do, e = .returned (.tuple #[.pointer (some ⟨o, 0, none⟩), .int .i64 0]) ∧ AfR w w' o s D (rs.take n) Do := by
  obtain ⟨c0, c1, c3, hp⟩ := h.made
  have hlw := len_wt rs
  obtain ⟨ar, cr, hre⟩ := row_slice h.row
  have c2 : w.cell? ⟨d, 2, none⟩ = some (.slice ar D.es.length cr) := by rw [h.blk.cell, ← hre]; rfl
  have HH := hide h
  have HN := hide hn
  have HW := hide hwt
  have HRE := hide hre
  have hn1 : ¬ ((n : Int) < 0) := by omega
  have hn2 : ¬ ((rs.length : Int) < (n : Int)) := by omega
  generalize hRL : rs.length = RL at *
  have HRL := hide hRL
  clear h hn hwt hre c1 hlw hRL
  go_enter Tryz.func22, Tryz.ntmps22
  go_wp2_with (go_at_call 55; refine (made_ok _ _ _ c0 hp).mono ?_; rintro e w ⟨rfl, rfl⟩)
  refine (empty_any _ _).mono ?_
  rintro e w1 ⟨o, m, rfl, hN⟩
  have c2' := cell_kept c2 hN.bel
  have hI0 : AfI w w1 d o s rs D n 0 := ⟨Nat.zero_le _, _, by
    have := hN.dkAt HH.out.s1 HH.out.s2
    simpa [recs] using this, hN.bel, hN.own, fun k ⟨x, hx, _⟩ => by cases hx⟩
  have HI0 := hide hI0
  clear hI0 hN c2 c0 c3 hn1 hn2
  go_wp2
  go_loopw [32] (fun i wr => ∃ k : Nat, i = .int .i64 (k : Int) ∧ AfI w wr d o s rs D n k) (fun i _ => D.es.length - (intOf i).toNat)
  case atStart => exact ⟨0, rfl, HI0.out⟩
  case round =>
    obtain ⟨k, rfl, hI⟩ := hrel
    have HI := hide hI
    have hk := hI.le
    clear hI
    have hes : D.es.length ≤ 366503600000 := by have h1 := HH.out.few2; have h2 := len_wt rs; have h3 := HW.out; omega
    by_cases hlt : k < D.es.length
    · obtain ⟨x, hx⟩ : ∃ x, D.es[k]? = some x := ⟨_, List.getElem?_eq_getElem hlt⟩
      obtain ⟨e, v⟩ := x
      have hxe : (D.es.map (·.1))[k]? = some e := by rw [List.getElem?_map, hx]; rfl
      obtain ⟨gr, cap, cs, hrv, hgr, hat⟩ := HH.out.recAt (by omega)
      rw [HRE.out] at hrv
      injection hrv with hr1 _ hr3
      subst hr1 hr3
      have hat2 := hat k _ hx
      have hbv := HH.out.byt _ (List.mem_of_getElem? hx)
      obtain ⟨av, cv, hve, _⟩ := hbv.sl
      simp only at hve hbv hat2
      subst hve
      have hix := en_at gr D.es.length cr k hlt
      have GR := hide (hgr.on HI.out.bel)
      have HAT := hide hat2
      have HBV := hide hbv
      have HXE := hide hxe
      have HXM := hide (List.mem_of_getElem? hx)
      clear hat hat2 hgr hbv hx hxe
      go_wp2_with (first | (refine step_load wEn rfl rfl GR.out (enC e (.slice av e.r.b.length cv)) rfl HAT.out ?_) | (refine step_alloc zEn rfl ?_))
      intro w3 g8 hg8 hle8 hb3
      go_wp2_with (refine step_storeA wEn rfl rfl rfl hg8 rfl (One.en _ _ _ _) rfl ?_)
      intro w4 hg8' hbut4
      have hb4 : Below wr.heap.size wr w4 := hb3.trans (hbut4.below hle8)
      have HI4 := hide (HI.out.below hb4)
      have G8 := hide hg8'
      have L8 := hide hle8
      have hc5 : w4.cell? ⟨g8, 5, none⟩ = some (.int .i64 (e.first : Int)) := by rw [hg8'.cell]; rfl
      clear hg8 hg8' hbut4 hb3 hix GR hle8
      have B4 := hide hb4
      clear hb4
      by_cases hf : n ≤ e.first
      · have hf' : (n : Int) ≤ (e.first : Int) := by omega
        clear HI
        have HI := HI4
        go_wp2
        go_ret2
        obtain ⟨Do, hA⟩ := HI.out.ex
        refine ⟨_, Do, rfl, ?_⟩
        rw [HH.out.rok.over HXE.out hf, HH.out.raw] at hA
        exact hA
      · have hf' : ¬ (n : Int) ≤ (e.first : Int) := by omega
        go_wp2_with fail
        obtain ⟨hlen1, hlen2, hlen3⟩ := HH.out.rok.len HH.out.s1 HXE.out
        rw [HH.out.raw] at hlen1 hlen2 hlen3
        obtain ⟨st1, st2, st3⟩ := HH.out.rok.step HH.out.s1 HXE.out (n := n) (by omega)
        obtain ⟨Do, hA0⟩ := HI.out.ex
        rw [st1] at hA0
        have HLT : Hid (∀ z, Do.own o z → z < wr.heap.size) := hide (fun z hz => hA0.dk.lt (.inl hz))
        have hA : AfR w w4 o s D (recs s ((D.es.map (·.1)).take k)) Do := ⟨hA0.dk.below B4.out, hA0.bel.trans (B4.out.mono hA0.bel.size), hA0.own, hA0.ro⟩
        clear hA0
        obtain ⟨hwa, hwb⟩ := wrap_sub (a := n) (b := e.first) (by omega) (by have := HN.out; have := HRL.out; have := len_wt rs; have := HW.out; omega)
        obtain ⟨q, hq⟩ : ∃ q : Nat, q = n - e.first := ⟨_, rfl⟩
        rw [← hq] at hwa hwb st2 st3
        have hq1 : 1 ≤ q := by omega
        have hq2 : q ≤ 366503600000 := by have := HN.out; have := HRL.out; have := len_wt rs; have := HW.out; omega
        have hsub : (n : Int) - (e.first : Int) = (q : Int) := by omega
        have HA := hide hA
        have ST2 := hide st2
        have ST3 := hide st3
        have HL1 : Hid (wt (recs s ((D.es.map (·.1)).take k)) + e.r.b.length ≤ wt rs ∧ e.had ≤ wt rs ∧ e.first ≤ wt rs) := hide ⟨hlen1, hlen2, hlen3⟩
        have HSUB := hide hsub
        clear hA st1 st2 st3 hlen1 hlen2 hlen3 hq hsub
        have HIE : Hid ((Tryz.prog.info? 119).map (·.size) = some (enC e (.slice av e.r.b.length cv)).length) := hide (by rw [wEn.size]; rfl)
        have hcd : ∀ z : World, Below w4.heap.size w4 z → z.cell? ⟨d, 0, none⟩ = some (.int .i64 (s : Int)) := fun z hz => by
          rw [((HH.out.blk.below HI4.out.bel HH.out.blk.lt).on hz).cell]; rfl
        have HCD := hide hcd
        clear hcd
        refine wp_region_noPanic ?_
        refine wp_region_held_drew (S := fun z : World => z.cell? ⟨d, 0, none⟩ = some (.int .i64 (s : Int)) ∧ z.rangeAt g8 0 (enC e (.slice av e.r.b.length cv)) ∧ z.cell? ⟨g8, 5, none⟩ = some (.int .i64 (e.first : Int))) (by kernel_rfl) ⟨HCD.out _ ((Below.refl _ _).drew), (G8.out.on ((Below.refl _ _).drew)).range 0 _ (by simp), hc5⟩ (fun hHeld => ?_)
        have Z0 := hide ((Below.refl w4.heap.size w4).drew)
        refine takeH 0 40 (.pointer (some ⟨o, 0, none⟩)) hHeld rfl rfl (by kernel_rfl) (by kernel_rfl) (by kernel_rfl) (fun _ _ _ h => h) (Or.inl ⟨by rfl, fun w _ => by go_simp⟩) ?_
        simp only [Act.put, List.setIfInBounds_toArray, List.set_cons_zero, List.set_cons_succ]
        refine takeH 1 41 (.agg (enC e (.slice av e.r.b.length cv)).toArray) hHeld rfl rfl (by kernel_rfl) (by kernel_rfl) (by kernel_rfl) (fun _ _ _ h => h) (yieldsIf_load_mid (by rfl) _ _ rfl g8 0 rfl _ _ (fun w h => h.2.1) Tryz.underlying119 rfl HIE.out) ?_
        simp only [Act.put, List.setIfInBounds_toArray, List.set_cons_zero, List.set_cons_succ]
        refine takeH 2 42 (.int .i64 (n : Int)) hHeld rfl rfl (by kernel_rfl) (by kernel_rfl) (by kernel_rfl) (fun _ _ _ h => h) (Or.inl ⟨by rfl, fun w _ => by go_simp⟩) ?_
        simp only [Act.put, List.setIfInBounds_toArray, List.set_cons_zero, List.set_cons_succ]
        refine takeH 3 43 (.pointer (some ⟨g8, 5, none⟩)) hHeld rfl rfl (by kernel_rfl) (by kernel_rfl) (by kernel_rfl) (fun _ _ _ h => h) (Or.inl ⟨by rfl, fun w _ => by go_simp⟩) ?_
        simp only [Act.put, List.setIfInBounds_toArray, List.set_cons_zero, List.set_cons_succ]
        refine takeH 4 44 (.int .i64 (e.first : Int)) hHeld rfl rfl (by kernel_rfl) (by kernel_rfl) (by kernel_rfl) (fun _ _ _ h => h) (Or.inl ⟨by rfl, fun w hw => by have hw' : w.cell? ⟨g8, 5, none⟩ = some (.int .i64 (e.first : Int)) := (fun h => h.2.2) hw; go_simp⟩) ?_
        simp only [Act.put, List.setIfInBounds_toArray, List.set_cons_zero, List.set_cons_succ]
        refine takeH 5 45 (.int .i64 (q : Int)) hHeld rfl rfl (by kernel_rfl) (by kernel_rfl) (by kernel_rfl) (fun _ _ _ h => h) (Or.inl ⟨by rfl, fun w _ => by go_simp⟩) ?_
        simp only [Act.put, List.setIfInBounds_toArray, List.set_cons_zero, List.set_cons_succ]
        refine takeH 6 46 (.pointer (some ⟨d, 0, none⟩)) hHeld rfl rfl (by kernel_rfl) (by kernel_rfl) (by kernel_rfl) (fun _ _ _ h => h) (Or.inl ⟨by rfl, fun w _ => by go_simp⟩) ?_
        simp only [Act.put, List.setIfInBounds_toArray, List.set_cons_zero, List.set_cons_succ]
        refine takeH 7 47 (.pointer (some ⟨d, 0, none⟩)) hHeld rfl rfl (by kernel_rfl) (by kernel_rfl) (by kernel_rfl) (fun _ _ _ h => h) (Or.inl ⟨by rfl, fun w _ => by go_simp⟩) ?_
        simp only [Act.put, List.setIfInBounds_toArray, List.set_cons_zero, List.set_cons_succ]
        refine takeH 8 48 (.pointer (some ⟨d, 0, none⟩)) hHeld rfl rfl (by kernel_rfl) (by kernel_rfl) (by kernel_rfl) (fun _ _ _ h => h) (Or.inl ⟨by rfl, fun w _ => by go_simp⟩) ?_
        simp only [Act.put, List.setIfInBounds_toArray, List.set_cons_zero, List.set_cons_succ]
        refine takeH 9 49 (.int .i64 (s : Int)) hHeld rfl rfl (by kernel_rfl) (by kernel_rfl) (by kernel_rfl) (fun _ _ _ h => h) (Or.inl ⟨by rfl, fun w hw => by have hw' : w.cell? ⟨d, 0, none⟩ = some (.int .i64 (s : Int)) := (fun h => h.1) hw; go_simp⟩) ?_
        simp only [Act.put, List.setIfInBounds_toArray, List.set_cons_zero, List.set_cons_succ]
        refine wpAnyH_ready (rs := [10]) (by kernel_rfl) (by simp) (AllReadyH.cons rfl (fun K hK => ?_) AllReadyH.nil)
        rw [if_pos (by rfl)]
        go_simp
        have hbvz : BV w4.drew (.slice av e.r.b.length cv) e.r.b := (HBV.out.below (HI4.out.bel)).below Z0.out
        have hlt2 : e.r.b = [] ∨ edge s e 0 < edge s e q := by
          by_cases h0 : e.r.b = []
          · exact .inl h0
          · right
            have hp : 0 < e.r.b.length := List.length_pos_iff.2 h0
            have e1 := edge_step (had := e.had) HH.out.s1 hp (cnt_pos HH.out.s1 hp)
            have e2 := edge_mono s e.had e.r.b.length hq1
            have e3 : edge s e 0 = edgeN s e.had e.r.b.length 0 := rfl
            have e4 : edge s e q = edgeN s e.had e.r.b.length q := rfl
            rw [e3, e4]
            simp only [Nat.zero_add] at e1
            omega
        refine (pieces_any e (.slice av e.r.b.length cv) s 0 q _ HH.out.s1 HH.out.s2 hbvz (by have := HL1.out; have := HW.out; omega) (by have := HL1.out; have := HW.out; omega) (Nat.zero_le _) (by omega) hlt2).mono ?_
        rintro r w5 ⟨v5, rfl, hbv5, hbk5, hb5⟩
        have Z5 := hide (Z0.out.trans (hb5.mono Z0.out.size))
        have hH5 : w5.cell? ⟨d, 0, none⟩ = some (.int .i64 (s : Int)) ∧ w5.rangeAt g8 0 (enC e (.slice av e.r.b.length cv)) ∧ w5.cell? ⟨g8, 5, none⟩ = some (.int .i64 (e.first : Int)) := ⟨HCD.out _ Z5.out, (G8.out.on Z5.out).range 0 _ (by simp), by rw [(G8.out.on Z5.out).cell]; rfl⟩
        refine hK.out _ _ (hH5) (fun hHeld => ?_)
        clear hK K
        clear hb5 hbvz hlt2
        have BV5 := hide hbv5
        have BK5 := hide hbk5
        clear hbv5 hbk5
        refine wpAnyH_ready (rs := [11]) (by kernel_rfl) (by simp) (AllReadyH.cons rfl (fun K hK => ?_) AllReadyH.nil)
        rw [if_pos (by rfl)]
        go_simp
        have hA5 := HA.out.dk.below Z5.out
        refine (write_any o s (recs s ((D.es.map (·.1)).take k)) Do (pieces s e 0 q) v5 _ hA5 ST3.out BV5.out (fun z hz hfb => ?_) (by have h1 := pieces_len s e 0 q; have h2 := HL1.out; have h3 := HW.out; omega)).mono ?_
        · have h1 := BK5.out z hz
          have h2 := HA.out.own z (.inr (.inr (.inr hfb)))
          have h3 := HH.out.lt (k := z) (.inr ⟨_, HXM.out, h1⟩)
          omega
        rintro r w6 ⟨rfl, Do', hA6, hch6, hown6, hro6⟩
        have hnd : ¬ Do.own o d := fun h => by have h1 := HA.out.own d h; have h2 := HH.out.blk.lt; omega
        have hn8 : ¬ Do.own o g8 := fun h => by have h1 := HLT.out g8 h; have h2 := L8.out; omega
        have hbk : ∀ z, z < w5.heap.size → ¬ Do.own o z → w6.heap[z]? = w5.heap[z]? := fun z hz h => hch6.block z hz h
        have hd6 : Blk w6 d 51 (dkC s (some D.m) D.rv rs.length) := ((HH.out.blk.below HI4.out.bel HH.out.blk.lt).on Z5.out).same (hbk d ((HH.out.blk.below HI4.out.bel HH.out.blk.lt).on Z5.out).lt hnd)
        have hg6 : Blk w6 g8 119 (enC e (.slice av e.r.b.length cv)) := (G8.out.on Z5.out).same (hbk g8 (G8.out.on Z5.out).lt hn8)
        have hH6 : w6.cell? ⟨d, 0, none⟩ = some (.int .i64 (s : Int)) ∧ w6.rangeAt g8 0 (enC e (.slice av e.r.b.length cv)) ∧ w6.cell? ⟨g8, 5, none⟩ = some (.int .i64 (e.first : Int)) := ⟨by rw [hd6.cell]; rfl, hg6.range 0 _ (by simp), by rw [hg6.cell]; rfl⟩
        refine hK.out _ _ (hH6) (fun hHeld => ?_)
        clear hK K
        have HI6 : Hid (AfI w w6 d o s rs D n (k + 1)) := hide ⟨hlt, Do', by rw [ST2.out]; exact hA6, by
            have h1 : Below w.heap.size w w5 := HA.out.bel.trans (Z5.out.mono HA.out.bel.size)
            exact h1.trans (hch6.below (fun z hz h => by have := HA.out.own z h; omega) h1.size), fun z hz => by
            rcases hown6 z hz with h | h
            · exact HA.out.own z h
            · have h1 := HA.out.bel.size
              have h2 := Z5.out.size
              omega, fun z hz => by
            rcases hro6 z hz with h | h
            · exact HA.out.ro z h
            · exact ⟨_, HXM.out, BK5.out z h⟩⟩
        clear hnd hn8 hbk hd6 hg6 hH5 hH6 hA5 hA6 hch6 hown6 hro6 hwa hwb hc5
        refine wpAnyH_done (by kernel_rfl) ?_ _
        refine NoPanic.normal ?_
        clear hHeld
        go_wp2
        go_roundw
        case rel => exact ⟨k + 1, by go_num, HI6.out⟩
        case measure => simp [intOf]; omega
    · obtain rfl : k = D.es.length := by omega
      go_wp2
      go_ret2
      obtain ⟨Do, hA⟩ := HI.out.ex
      refine ⟨_, Do, rfl, ?_⟩
      have e1 : (D.es.map (·.1)).take D.es.length = D.es.map (·.1) := List.take_of_length_le (by simp)
      rw [e1, HH.out.raw] at hA
      exact hA

end Go.Proofs.YtpocadbhajacaaaGreatDoor
