/-
  write: the walk.
-/
import Derived.Test.YtpocadbhajacaaaGreatDoorKmf
namespace Go.Proofs.YtpocadbhajacaaaGreatDoor
open Go.RowKit
set_option linter.unusedVariables false

theorem count_any (e : En) (a : Option Addr) (l c : Nat) (s : Nat) (w : World) (hs : 1 ≤ s) (hs2 : s ≤ 4096) (hl : e.r.b.length = l) (hl2 : l ≤ 281474976710656) (hh : e.had ≤ 281474976710656) :
    Calls Tryz.prog 83 #[.agg (enC e (.slice a l c)).toArray, .int .i64 s] w fun r w' => r = .returned (.int .i64 (cnt s e)) ∧ Below w.heap.size w w' := by
  by_cases hk : e.r.k = 2
  · have e1 : cnt s e = cntN s e.had e.r.b.length := by simp [cnt, hk]
    rw [e1]
    exact count_ap e a l c s w hk hs hs2 hl hl2 hh
  · have e1 : cnt s e = 1 := by simp [cnt, hk]
    rw [e1]
    exact count_no e _ s w hk

theorem run_buildEn {dst : Option Tmp} {ty : TypeId} {pos : String} {aft : Array Edge} {gd : Option (Nat × Bool)} {ac : Act} {w : World} {x y z : Operand} {k : Int} {n : ByteArray} {a : Option Addr} {l c : Nat} {s : Int} {t : ByteArray} {f h : Int} (hx : ac.eval x = .agg (rwC k n (.slice a l c) s t).toArray) (hy : ac.eval y = .int .i64 f) (hz : ac.eval z = .int .i64 h) :
    (execOp ac.eval ⟨dst, .build 119 #[(0, x), (1, y), (2, z)], ty, pos, aft, gd⟩).run Tryz.prog w = .ok (.value (.agg #[.int .i64 k, .string n, .slice a l c, .int .i64 s, .string t, .int .i64 f, .int .i64 h])) w :=
  run_op (M := Instr.build 119 #[(0, .agg (rwC k n (.slice a l c) s t).toArray), (1, .int .i64 f), (2, .int .i64 h)]) (by simp [execOp, hx, hy, hz]) (build_en k n a l c s t f h w)
/-- What stands in write behind the record. -/
structure WrS (w W : World) (d s : Nat) (D : Dm) (r : Rw) (v : Value) (E : En) (g3 g4 : Nat) (rv2 : Value) (nw : Int) : Prop where
  dk : Blk W d 51 (dkC s (some D.m) rv2 nw)
  row : W.ownsRow 0 119 7 rv2 (D.es ++ [(E, v)]).length (ensC (D.es ++ [(E, v)]))
  g3 : Blk W g3 117 (rwC r.k r.n v r.s r.t)
  g4 : Blk W g4 119 (enC E v)
  chs : Chs (fun k => k = d ∨ D.rv.ownBlock = some k) w W
  lie : ∀ k, rv2.ownBlock = some k → D.rv.ownBlock = some k ∨ w.heap.size ≤ k
section
variable {w W W' : World} {d s : Nat} {rs : List Rw} {D : Dm} {r : Rw} {v : Value} {E : En} {g3 g4 : Nat} {rv2 : Value} {nw : Int}
theorem WrS.below (h : WrS w W d s D r v E g3 g4 rv2 nw) (hb : Below W.heap.size W W') : WrS w W' d s D r v E g3 g4 rv2 nw :=
  ⟨h.dk.on hb, row_same h.row (fun k hk => by obtain ⟨cs, hc⟩ := row_lies h.row hk; exact hb.block k hc.lt), h.g3.on hb, h.g4.on hb, h.chs.thenBelow hb, h.lie⟩
theorem DkAt.off (h : DkAt w d s rs D) {k : Nat} {cs : List Value} (hc : Blk w k 5 cs) : ¬ (k = d ∨ D.rv.ownBlock = some k) := fun e => by
  rcases e with rfl | e
  · exact hc.apart h.blk (by decide) rfl
  · obtain ⟨cs', hc'⟩ := row_lies h.row e
    exact hc.apart hc' (by decide) rfl
theorem WrS.bv (h : WrS w W d s D r v E g3 g4 rv2 nw) (hd : DkAt w d s rs D) {u : Value} {xs : List Int} (hu : BV w u xs) : BV W u xs := hu.same (fun k hk => by
  obtain ⟨cs, hc⟩ := hu.lies hk
  exact h.chs.block k hc.lt (hd.off hc))
theorem WrS.fil (h : WrS w W d s D r v E g3 g4 rv2 nw) (hd : DkAt w d s rs D) : FilAt W D.m D.fm (play rs) := hd.fil.same (h.chs.block _ hd.fil.map.lt (fun e => by
    rcases e with e | e
    · exact hd.fil.map.ne hd.blk e.symm
    · obtain ⟨cs', hc'⟩ := row_lies hd.row e
      exact hd.fil.map.ne hc' rfl)) (fun k hk => by
  obtain ⟨cs, hc⟩ := hd.fil.lies hk
  exact h.chs.block k hc.lt (hd.off hc))
/-- What do leaves makes the disk whole again. -/
theorem WrS.done (h : WrS w W d s D r v E g3 g4 rv2 ((rs.length : Int) + (cnt s E : Nat))) (hd : DkAt w d s rs D) (hE : E = ⟨r, rs.length, (fl (play rs) r.n).length⟩) (hr : Leg (play rs) r) (hv : BV w v r.b) (hdis : ∀ k, v.ownBlock = some k → ¬ fB D.fm k) (hx : DoR W W' D.m D.fm (doR (play rs) r)) : WrR w W' d s rs D r v := by
  obtain ⟨fm', f1, f2, f3, f4⟩ := hx
  have hF := h.fil hd
  have hsz := h.chs.size
  have hE1 : (recs s (D.es.map (·.1))).length = rs.length := by rw [hd.raw]
  have hleg : Leg (play rs) E.r := by rw [hE]; exact hr
  have hhad : E.had = (fl (play rs) E.r.n).length := by rw [hE]
  have hdoes := expd_does hd.s1 hleg hhad
  have hcg : 1 ≤ cnt s E := cnt_ge hd.s1 hleg
  have hplay : play (rs ++ expd s E) = doR (play rs) r := by rw [play_app, hdoes.1, hE]
  have hmE : (D.es ++ [(E, v)]).map (·.1) = D.es.map (·.1) ++ [E] := by simp
  have hlen : (rs ++ expd s E).length = rs.length + cnt s E := by rw [List.length_append, expd_length]
  -- blocks of bytes are none that do turns
  have off8 : ∀ k, (∃ cs, Blk w k 5 cs) → ¬ fB D.fm k → W'.heap[k]? = w.heap[k]? := fun k ⟨cs, hc⟩ hk => by
    have e1 := h.chs.block k hc.lt (hd.off hc)
    rw [f2.block k (Nat.lt_of_lt_of_le hc.lt hsz) (fun e => by
      rcases e with e | e
      · exact hd.fil.map.ne hc e
      · exact hk e), e1]
  have offT : ∀ {k : Nat} {t : TypeId} {cs : List Value}, Blk W k t cs → t ≠ 5 → W'.heap[k]? = W.heap[k]? := fun {k t cs} hc ht => f2.block k hc.lt (fun e => by
    rcases e with e | e
    · exact hF.map.ne hc e
    · obtain ⟨cs', hc'⟩ := hF.lies e
      exact hc.apart hc' ht rfl)
  refine ⟨⟨D.m, rv2, D.es ++ [(E, v)], fm'⟩, ⟨hd.s1, hd.s2, ?_, ?_, ?_, ?_, ?_, ?_, ?_, ?_⟩, ?_, ?_, ?_⟩
  · rw [← hE, hlen]
    have := h.dk.same (offT h.dk (by decide))
    simpa using this
  · exact row_same h.row (fun k hk => by obtain ⟨cs, hc⟩ := row_lies h.row hk; exact offT hc (by decide))
  · intro x hx
    rcases List.mem_append.1 hx with hx | hx
    · exact (hd.byt x hx).same (fun k hk => off8 k ((hd.byt x hx).lies hk) (fun e => hd.dis k e ⟨x, hx, hk⟩))
    · simp at hx
      subst hx
      have : BV W' v r.b := hv.same (fun k hk => off8 k (hv.lies hk) (hdis k hk))
      rw [hE]
      exact this
  · show RecOk s ((D.es ++ [(E, v)]).map (·.1))
    rw [hmE]
    exact hd.rok.snoc (by rw [hE1, hE]) (by rw [hd.raw]; exact hhad) (by rw [hd.raw]; exact hleg)
  · show recs s ((D.es ++ [(E, v)]).map (·.1)) = _
    rw [hmE, recs_app, recs_one, hd.raw, hE]
  · rw [← hE, hplay]
    exact f1
  · rw [← hE, hlen]
    show fm'.length ≤ _
    have := hd.few
    omega
  · intro k hk ⟨x, hx, e⟩
    have hlt : k < w.heap.size := by
      rcases List.mem_append.1 hx with hx | hx
      · obtain ⟨cs, hc⟩ := (hd.byt x hx).lies e; exact hc.lt
      · simp at hx
        subst hx
        obtain ⟨cs, hc⟩ := hv.lies e; exact hc.lt
    rcases f3 k hk with hk | hk
    · rcases List.mem_append.1 hx with hx | hx
      · exact hd.dis k hk ⟨x, hx, e⟩
      · simp at hx
        subst hx
        exact hdis k e hk
    · omega
  · refine (h.chs.mono (fun k _ hk => ?_)).after f2 (fun k hk => .inl ?_)
    · rcases hk with hk | hk
      · exact .inl hk
      · exact .inr (.inr (.inl hk))
    · rcases hk with hk | hk
      · exact .inr (.inl hk)
      · exact .inr (.inr (.inr hk))
  · intro k hk
    rcases hk with hk | hk | hk | hk
    · exact .inl (.inl hk)
    · exact .inl (.inr (.inl hk))
    · exact (h.lie k hk).imp (fun e => .inr (.inr (.inl e))) id
    · rcases f3 k hk with hk | hk
      · exact .inl (.inr (.inr (.inr hk)))
      · right; omega
  · intro k ⟨x, hx, e⟩
    rcases List.mem_append.1 hx with hx | hx
    · exact .inl ⟨x, hx, e⟩
    · simp at hx
      subst hx
      exact .inr e
end
set_option maxRecDepth 100000 in
set_option maxHeartbeats 1000000 in
theorem write_any (d s : Nat) (rs : List Rw) (D : Dm) (r : Rw) (v : Value) (w : World) (h : DkAt w d s rs D) (hr : Leg (play rs) r) (hv : BV w v r.b) (hdis : ∀ k, v.ownBlock = some k → ¬ fB D.fm k) (hwt : wt rs + 2 * r.b.length + 1 ≤ 1099511000000) :
    Calls Tryz.prog 56 #[.pointer (some ⟨d, 0, none⟩), .agg (rwC r.k r.n v r.s r.t).toArray] w fun e w' => e = .returned (.tuple #[]) ∧ WrR w w' d s rs D r v := by
  obtain ⟨av, cv, hve, hvs⟩ := hv.sl
  obtain ⟨E, hE⟩ : ∃ E : En, E = ⟨r, rs.length, (fl (play rs) r.n).length⟩ := ⟨_, rfl⟩
  have hfw := play_wt rs r.n
  have hlw := len_wt rs
  obtain ⟨u, hu⟩ : ∃ u, u = (mfind D.fm r.n).getD (.slice none 0 0) := ⟨_, rfl⟩
  -- the file's slice, or none: it has the length that is told
  obtain ⟨au, cu, hue⟩ : ∃ a c, u = .slice a (fl (play rs) r.n).length c := by
    cases hm : mfind D.fm r.n with
    | none =>
      have : play rs r.n = none := by
        have h1 := h.fil.iff r.n
        rw [hm] at h1
        cases hp : play rs r.n with
        | none => rfl
        | some x => rw [hp] at h1; cases h1
      exact ⟨none, 0, by rw [hu, hm]; simp [fl, this]⟩
    | some x =>
      obtain ⟨a, c, e⟩ := (h.fil.own r.n x hm).1.slice
      exact ⟨a, c, by rw [hu, hm]; exact e⟩
  have hn := nm_size hr.nm
  obtain ⟨ar, cr, hre⟩ := row_slice h.row
  have HH := hide h
  have HR := hide hr
  have HV := hide hv
  have HDI := hide hdis
  have HFW : Hid ((fl (play rs) r.n).length ≤ 1099511000000 ∧ rs.length + 2 * r.b.length + 1 ≤ 1099511000000) := hide ⟨by omega, by omega⟩
  have HN := hide hn
  have HU := hide hu
  have HVE := hide hve
  have HRE := hide hre
  have HEE := hide hE
  have hEc : enC E v = [.int .i64 r.k, .string r.n, v, .int .i64 r.s, .string r.t, .int .i64 (rs.length : Int), .int .i64 ((fl (play rs) r.n).length : Int)] := by rw [hE]; rfl
  have HEC := hide hEc
  have HLK : Hid (∀ z : World, DkAt z d s rs D → (Instr.lookup 48 (.map (some D.m)) (.string r.n) false).run Tryz.prog z = .ok (.slice au (fl (play rs) r.n).length cu) z) := hide (fun z hz => by rw [← hue, hu]; exact (lookup_is hz.fil.map r.n hn).1)
  clear h hr hv hdis hfw hlw hu hwt hn hE hEc hue
  obtain ⟨F0, hF0⟩ : ∃ F0 : Nat, F0 = (fl (play rs) r.n).length := ⟨_, rfl⟩
  rw [← hF0] at HLK HEC
  obtain ⟨R0, hR0⟩ : ∃ R0 : Nat, R0 = rs.length := ⟨_, rfl⟩
  rw [← hR0] at HEC
  have HF0 := hide hF0
  have HR0 := hide hR0
  clear hF0 hR0
  go_enter Tryz.func56, Tryz.ntmps56
  subst hve
  go_wp2_with (refine step_box (cs := rwC r.k r.n (.slice av r.b.length cv) r.s r.t) rfl rfl ?_)
  intro w1 g3 hg3 hle3 hb1
  have G3 := hide hg3
  have D1 := hide (HH.out.below hb1)
  have L3 := hide hle3
  have B1 := hide hb1
  clear hg3 hle3 hb1
  go_wp2_with fail
  -- the entry is made
  refine wp_region_noPanic ?_
  refine wp_region_U (q := 15) (S := fun z : World => Below w1.heap.size w1 z) (by kernel_rfl) ?_
  have Z0 := hide ((Below.refl w1.heap.size w1).drew)
  have hHeld := Z0.out
  have HI5 : Hid ((Tryz.prog.info? 117).map (·.size) = some (rwC r.k r.n (.slice av r.b.length cv) r.s r.t).length) := hide (by rw [wRw.size]; rfl)
  have HRW : Hid (∀ z : World, Below w1.heap.size w1 z → z.rangeAt g3 0 (rwC r.k r.n (.slice av r.b.length cv) r.s r.t)) := hide (fun z hz => (G3.out.on hz).range 0 _ (by simp))
  have HC3 : Hid (∀ z : World, Below w1.heap.size w1 z → z.cell? ⟨d, 3, none⟩ = some (.int .i64 (R0 : Int))) := hide (fun z hz => by rw [((D1.out.blk).on hz).cell, HR0.out]; rfl)
  have HC1 : Hid (∀ z : World, Below w1.heap.size w1 z → z.cell? ⟨d, 1, none⟩ = some (.map (some D.m))) := hide (fun z hz => by rw [((D1.out.blk).on hz).cell]; rfl)
  have HCN : Hid (∀ z : World, Below w1.heap.size w1 z → z.cell? ⟨g3, 1, none⟩ = some (.string r.n)) := hide (fun z hz => by rw [(G3.out.on hz).cell]; rfl)
  refine takeU 15 0 5 (.agg (rwC r.k r.n (.slice av r.b.length cv) r.s r.t).toArray) hHeld rfl rfl (by kernel_rfl) (by kernel_rfl) (by kernel_rfl) (by kernel_rfl) (by kernel_rfl) (by kernel_rfl) (fun _ _ _ h => h) (yieldsIf_load_mid (by rfl) _ _ rfl g3 0 rfl _ _ (fun w h => HRW.out w h) Tryz.underlying117 rfl HI5.out) ?_
  simp only [Act.put, List.setIfInBounds_toArray, List.set_cons_zero, List.set_cons_succ]
  refine takeU 15 1 6 (.pointer (some ⟨d, 0, none⟩)) hHeld rfl rfl (by kernel_rfl) (by kernel_rfl) (by kernel_rfl) (by kernel_rfl) (by kernel_rfl) (by kernel_rfl) (fun _ _ _ h => h) (Or.inl ⟨by rfl, fun w _ => by go_simp⟩) ?_
  simp only [Act.put, List.setIfInBounds_toArray, List.set_cons_zero, List.set_cons_succ]
  refine takeU 15 2 7 (.pointer (some ⟨d, 0, none⟩)) hHeld rfl rfl (by kernel_rfl) (by kernel_rfl) (by kernel_rfl) (by kernel_rfl) (by kernel_rfl) (by kernel_rfl) (fun _ _ _ h => h) (Or.inl ⟨by rfl, fun w _ => by go_simp⟩) ?_
  simp only [Act.put, List.setIfInBounds_toArray, List.set_cons_zero, List.set_cons_succ]
  refine takeU 15 3 8 (.pointer (some ⟨d, 3, none⟩)) hHeld rfl rfl (by kernel_rfl) (by kernel_rfl) (by kernel_rfl) (by kernel_rfl) (by kernel_rfl) (by kernel_rfl) (fun _ _ _ h => h) (Or.inl ⟨by rfl, fun w _ => by go_simp⟩) ?_
  simp only [Act.put, List.setIfInBounds_toArray, List.set_cons_zero, List.set_cons_succ]
  refine takeU 15 4 9 (.int .i64 (R0 : Int)) hHeld rfl rfl (by kernel_rfl) (by kernel_rfl) (by kernel_rfl) (by kernel_rfl) (by kernel_rfl) (by kernel_rfl) (fun _ _ _ h => h) (Or.inl ⟨by rfl, fun w hw => by have hw' : w.cell? ⟨d, 3, none⟩ = some (.int .i64 (R0 : Int)) := (fun hw => HC3.out _ hw) hw; go_simp⟩) ?_
  simp only [Act.put, List.setIfInBounds_toArray, List.set_cons_zero, List.set_cons_succ]
  refine takeU 15 5 10 (.pointer (some ⟨d, 0, none⟩)) hHeld rfl rfl (by kernel_rfl) (by kernel_rfl) (by kernel_rfl) (by kernel_rfl) (by kernel_rfl) (by kernel_rfl) (fun _ _ _ h => h) (Or.inl ⟨by rfl, fun w _ => by go_simp⟩) ?_
  simp only [Act.put, List.setIfInBounds_toArray, List.set_cons_zero, List.set_cons_succ]
  refine takeU 15 6 11 (.pointer (some ⟨d, 0, none⟩)) hHeld rfl rfl (by kernel_rfl) (by kernel_rfl) (by kernel_rfl) (by kernel_rfl) (by kernel_rfl) (by kernel_rfl) (fun _ _ _ h => h) (Or.inl ⟨by rfl, fun w _ => by go_simp⟩) ?_
  simp only [Act.put, List.setIfInBounds_toArray, List.set_cons_zero, List.set_cons_succ]
  refine takeU 15 7 12 (.pointer (some ⟨d, 1, none⟩)) hHeld rfl rfl (by kernel_rfl) (by kernel_rfl) (by kernel_rfl) (by kernel_rfl) (by kernel_rfl) (by kernel_rfl) (fun _ _ _ h => h) (Or.inl ⟨by rfl, fun w _ => by go_simp⟩) ?_
  simp only [Act.put, List.setIfInBounds_toArray, List.set_cons_zero, List.set_cons_succ]
  refine takeU 15 8 13 (.map (some D.m)) hHeld rfl rfl (by kernel_rfl) (by kernel_rfl) (by kernel_rfl) (by kernel_rfl) (by kernel_rfl) (by kernel_rfl) (fun _ _ _ h => h) (Or.inl ⟨by rfl, fun w hw => by have hw' : w.cell? ⟨d, 1, none⟩ = some (.map (some D.m)) := (fun hw => HC1.out _ hw) hw; go_simp⟩) ?_
  simp only [Act.put, List.setIfInBounds_toArray, List.set_cons_zero, List.set_cons_succ]
  refine takeU 15 9 14 (.pointer (some ⟨g3, 1, none⟩)) hHeld rfl rfl (by kernel_rfl) (by kernel_rfl) (by kernel_rfl) (by kernel_rfl) (by kernel_rfl) (by kernel_rfl) (fun _ _ _ h => h) (Or.inl ⟨by rfl, fun w _ => by go_simp⟩) ?_
  simp only [Act.put, List.setIfInBounds_toArray, List.set_cons_zero, List.set_cons_succ]
  refine takeU 15 10 15 (.string r.n) hHeld rfl rfl (by kernel_rfl) (by kernel_rfl) (by kernel_rfl) (by kernel_rfl) (by kernel_rfl) (by kernel_rfl) (fun _ _ _ h => h) (Or.inl ⟨by rfl, fun w hw => by have hw' : w.cell? ⟨g3, 1, none⟩ = some (.string r.n) := (fun hw => HCN.out _ hw) hw; go_simp⟩) ?_
  simp only [Act.put, List.setIfInBounds_toArray, List.set_cons_zero, List.set_cons_succ]
  refine takeU 15 11 16 (.slice au F0 cu) hHeld rfl rfl (by kernel_rfl) (by kernel_rfl) (by kernel_rfl) (by kernel_rfl) (by kernel_rfl) (by kernel_rfl) (fun _ _ _ h => h) (Or.inl ⟨by rfl, fun w h => run_op rfl (HLK.out w (D1.out.below h))⟩) ?_
  simp only [Act.put, List.setIfInBounds_toArray, List.set_cons_zero, List.set_cons_succ]
  refine takeU 15 12 17 (.int .i64 (F0 : Int)) hHeld rfl rfl (by kernel_rfl) (by kernel_rfl) (by kernel_rfl) (by kernel_rfl) (by kernel_rfl) (by kernel_rfl) (fun _ _ _ h => h) (Or.inl ⟨by rfl, fun w _ => by go_simp⟩) ?_
  simp only [Act.put, List.setIfInBounds_toArray, List.set_cons_zero, List.set_cons_succ]
  refine takeU 15 13 18 (.agg (enC E (.slice av r.b.length cv)).toArray) hHeld rfl rfl (by kernel_rfl) (by kernel_rfl) (by kernel_rfl) (by kernel_rfl) (by kernel_rfl) (by kernel_rfl) (fun _ _ _ h => h) (Or.inl ⟨by rfl, fun w h => by rw [HEC.out]; exact run_buildEn rfl rfl rfl⟩) ?_
  simp only [Act.put, List.setIfInBounds_toArray, List.set_cons_zero, List.set_cons_succ]
  refine wpAnyU_ready (rs := [14]) (by kernel_rfl) (by simp) (AllReadyU.cons rfl (fun K hK => ?_) AllReadyU.nil)
  rw [if_pos (by rfl)]
  refine wp_allocG zEn ?_
  intro w2 g4 hg4 hle4 hb2
  have Z2 := hide (Z0.out.trans (hb2.mono Z0.out.size))
  have G4 := hide hg4
  have L4 : Hid (w1.heap.size ≤ g4) := hide (Nat.le_trans Z0.out.size hle4)
  refine hK.out _ _ (fun _ => Z2.out) ?_
  have hHeld := Z2.out
  clear hK K
  clear hg4 hle4 hb2
  simp only [Act.put]
  refine wpAnyU_ready (rs := [15]) (by kernel_rfl) (by simp) (AllReadyU.cons rfl (fun K hK => ?_) AllReadyU.nil)
  rw [if_pos (by rfl)]
  refine wp_storeW wEn rfl rfl rfl G4.out rfl (One.en _ _ _ _) (by decide) ?_
  intro w3 hg4 hbut3
  refine hK.out _ _ (fun h => absurd h (by decide)) ?_
  clear hK K
  simp only [Act.put]
  refine wpAnyU_done (by kernel_rfl) ?_ _
  refine NoPanic.normal ?_
  have hg4' : Blk w3 g4 119 (enC E (.slice av r.b.length cv)) := hg4
  have Z3 := hide (Z2.out.trans (hbut3.below L4.out))
  have G4 := hide hg4'
  have G3 := hide (G3.out.on Z3.out)
  have D3 := hide (D1.out.below Z3.out)
  have B3 := hide (B1.out.trans (Z3.out.mono B1.out.size))
  have L4w : Hid (w.heap.size ≤ g4) := hide (Nat.le_trans B1.out.size L4.out)
  clear hg4 hg4' hbut3 hHeld HC3 HC1 HCN HRW Z0 Z2 Z3 HLK HU
  clear hre
  go_wp2_with fail
  -- the record grows
  refine wp_region_noPanic ?_
  have HIE : Hid ((Tryz.prog.info? 119).map (·.size) = some (enC E (.slice av r.b.length cv)).length) := hide (by rw [wEn.size]; rfl)
  refine wp_region_U (q := 10) (S := fun z : World => z.cell? ⟨d, 2, none⟩ = some (.slice ar D.es.length cr) ∧ z.rangeAt g4 0 (enC E (.slice av r.b.length cv))) (by kernel_rfl) ?_
  have hd2 : ∀ z : World, Blk z d 51 (dkC s (some D.m) D.rv rs.length) → z.cell? ⟨d, 2, none⟩ = some (.slice ar D.es.length cr) := fun z hz => by rw [hz.cell, ← HRE.out]; rfl
  have HD2 := hide hd2
  clear hd2
  have Z0 := hide ((Below.refl w3.heap.size w3).drew)
  have hHeld : w3.drew.cell? ⟨d, 2, none⟩ = some (.slice ar D.es.length cr) ∧ w3.drew.rangeAt g4 0 (enC E (.slice av r.b.length cv)) := ⟨HD2.out _ (D3.out.blk.on Z0.out), (G4.out.on Z0.out).range 0 _ (by simp)⟩
  refine takeU 10 0 19 (.pointer (some ⟨d, 0, none⟩)) hHeld rfl rfl (by kernel_rfl) (by kernel_rfl) (by kernel_rfl) (by kernel_rfl) (by kernel_rfl) (by kernel_rfl) (fun _ _ _ h => h) (Or.inl ⟨by rfl, fun w _ => by go_simp⟩) ?_
  simp only [Act.put, List.setIfInBounds_toArray, List.set_cons_zero, List.set_cons_succ]
  refine takeU 10 1 20 (.pointer (some ⟨d, 0, none⟩)) hHeld rfl rfl (by kernel_rfl) (by kernel_rfl) (by kernel_rfl) (by kernel_rfl) (by kernel_rfl) (by kernel_rfl) (fun _ _ _ h => h) (Or.inl ⟨by rfl, fun w _ => by go_simp⟩) ?_
  simp only [Act.put, List.setIfInBounds_toArray, List.set_cons_zero, List.set_cons_succ]
  refine takeU 10 2 21 (.pointer (some ⟨d, 0, none⟩)) hHeld rfl rfl (by kernel_rfl) (by kernel_rfl) (by kernel_rfl) (by kernel_rfl) (by kernel_rfl) (by kernel_rfl) (fun _ _ _ h => h) (Or.inl ⟨by rfl, fun w _ => by go_simp⟩) ?_
  simp only [Act.put, List.setIfInBounds_toArray, List.set_cons_zero, List.set_cons_succ]
  refine takeU 10 3 22 (.pointer (some ⟨d, 2, none⟩)) hHeld rfl rfl (by kernel_rfl) (by kernel_rfl) (by kernel_rfl) (by kernel_rfl) (by kernel_rfl) (by kernel_rfl) (fun _ _ _ h => h) (Or.inl ⟨by rfl, fun w _ => by go_simp⟩) ?_
  simp only [Act.put, List.setIfInBounds_toArray, List.set_cons_zero, List.set_cons_succ]
  refine takeU 10 4 23 (.slice ar D.es.length cr) hHeld rfl rfl (by kernel_rfl) (by kernel_rfl) (by kernel_rfl) (by kernel_rfl) (by kernel_rfl) (by kernel_rfl) (fun _ _ _ h => h) (Or.inl ⟨by rfl, fun w hw => by have hw' : w.cell? ⟨d, 2, none⟩ = some (.slice ar D.es.length cr) := (fun h => h.1) hw; go_simp⟩) ?_
  simp only [Act.put, List.setIfInBounds_toArray, List.set_cons_zero, List.set_cons_succ]
  refine takeU 10 5 24 (.agg (enC E (.slice av r.b.length cv)).toArray) hHeld rfl rfl (by kernel_rfl) (by kernel_rfl) (by kernel_rfl) (by kernel_rfl) (by kernel_rfl) (by kernel_rfl) (fun _ _ _ h => h) (yieldsIf_load_mid (by rfl) _ _ rfl g4 0 rfl _ _ (fun w h => h.2) Tryz.underlying119 rfl HIE.out) ?_
  simp only [Act.put, List.setIfInBounds_toArray, List.set_cons_zero, List.set_cons_succ]
  refine wpAnyU_ready (rs := [6]) (by kernel_rfl) (by simp) (AllReadyU.cons rfl (fun K hK => ?_) AllReadyU.nil)
  rw [if_pos (by rfl)]
  refine wp_oneE (e := E) (v := .slice av r.b.length cv) rfl ⟨_, _, _, rfl⟩ ?_
  intro w4 g5 hg5 hle5 hb4
  have Z4 := hide (Z0.out.trans (hb4.mono Z0.out.size))
  have G5 := hide hg5
  have hH4 : w4.cell? ⟨d, 2, none⟩ = some (.slice ar D.es.length cr) ∧ w4.rangeAt g4 0 (enC E (.slice av r.b.length cv)) := ⟨HD2.out _ (D3.out.blk.on Z4.out), (G4.out.on Z4.out).range 0 _ (by simp)⟩
  refine hK.out _ _ (fun _ => hH4) ?_
  have hHeld := hH4
  clear hK K
  clear hg5 hb4 hH4
  simp only [Act.put]
  refine wpAnyU_ready (rs := [7]) (by kernel_rfl) (by simp) (AllReadyU.cons rfl (fun K hK => ?_) AllReadyU.nil)
  rw [if_pos (by rfl)]
  have D4 := hide (D3.out.below Z4.out)
  have ROW4 : Hid (w4.ownsRow 0 119 7 (.slice ar D.es.length cr) D.es.length (ensC D.es)) := hide (by have := D4.out.row; rw [HRE.out] at this; exact this)
  refine wp_appendE (e := E) (u := .slice av r.b.length cv) rfl rfl ROW4.out G5.out ⟨_, _, _, rfl⟩ (by have h1 := D4.out.few2; have h2 := HFW.out.2; omega) ?_
  intro g' cap w5 hrow5 hg5 hat5
  have hrb : ∀ k, (Value.slice ar D.es.length cr).ownBlock = some k → k < w.heap.size := fun k hk => HH.out.lt (.inl (.inr (.inr (.inl (by rw [HRE.out]; exact hk)))))
  have hdd : ∀ k, (Value.slice ar D.es.length cr).ownBlock = some k → k ≠ d := fun k hk e => by
    obtain ⟨cs, hc⟩ := row_lies ROW4.out hk
    exact hc.apart D4.out.blk (by decide) e
  have hd3 : ∀ k, (Value.slice ar D.es.length cr).ownBlock = some k → k ≠ g3 := fun k hk e => by have := hrb k hk; have := L3.out; omega
  have hd4 : ∀ k, (Value.slice ar D.es.length cr).ownBlock = some k → k ≠ g4 := fun k hk e => by have := hrb k hk; have := L4w.out; omega
  have DK5 : Hid (Blk w5 d 51 (dkC s (some D.m) D.rv rs.length)) := hide (D4.out.blk.same (hg5.block d D4.out.blk.lt (fun e => hdd d e.symm rfl)))
  have G35 : Hid (Blk w5 g3 117 (rwC r.k r.n (.slice av r.b.length cv) r.s r.t)) := hide ((G3.out.on Z4.out).same (hg5.block g3 (G3.out.on Z4.out).lt (fun e => hd3 g3 e.symm rfl)))
  have G45 : Hid (Blk w5 g4 119 (enC E (.slice av r.b.length cv))) := hide ((G4.out.on Z4.out).same (hg5.block g4 (G4.out.on Z4.out).lt (fun e => hd4 g4 e.symm rfl)))
  have CH5 : Hid (Chs (fun k => k = d ∨ D.rv.ownBlock = some k) w w5) := hide ((Chs.of_below _ (B3.out.trans (Z4.out.mono B3.out.size))).thenGrown hg5 (fun k hk => .inl (.inr (by rw [HRE.out]; exact hk))))
  have LIE5 : Hid (∀ k, (Value.slice (some ⟨g', 0, none⟩) (D.es.length + 1) cap).ownBlock = some k → D.rv.ownBlock = some k ∨ w.heap.size ≤ k) := hide (fun k hk => by
    injection hk with hk
    subst hk
    rcases hat5 with h | h
    · exact .inl (by rw [HRE.out]; exact h)
    · right
      have := B3.out.size
      have := Z4.out.size
      exact Nat.le_trans (Nat.le_trans B3.out.size Z4.out.size) h)
  have ROW5 := hide hrow5
  have hH5 : w5.cell? ⟨d, 2, none⟩ = some (.slice ar D.es.length cr) ∧ w5.rangeAt g4 0 (enC E (.slice av r.b.length cv)) := ⟨HD2.out _ DK5.out, G45.out.range 0 _ (by simp)⟩
  refine hK.out _ _ (fun _ => hH5) ?_
  have hHeld := hH5
  clear hK K
  clear hrow5 hg5 hat5 hrb hdd hd3 hd4
  simp only [Act.put]
  refine wpAnyU_ready (rs := [8]) (by kernel_rfl) (by simp) (AllReadyU.cons rfl (fun K hK => ?_) AllReadyU.nil)
  rw [if_pos (by rfl)]
  go_simp
  refine hK.out _ _ (fun _ => hH5) ?_
  have hHeld := hH5
  clear hK K
  clear hH5
  refine takeU 10 9 28 (.pointer (some ⟨d, 2, none⟩)) hHeld rfl rfl (by kernel_rfl) (by kernel_rfl) (by kernel_rfl) (by kernel_rfl) (by kernel_rfl) (by kernel_rfl) (fun _ _ _ h => h) (Or.inl ⟨by rfl, fun w _ => by go_simp⟩) ?_
  simp only [Act.put, List.setIfInBounds_toArray, List.set_cons_zero, List.set_cons_succ]
  have k1 : w5.cell? ⟨d, 2, none⟩ = some (.slice ar D.es.length cr) := HD2.out _ DK5.out
  have k2 : w5.frozen? ⟨d, 2, none⟩ = false := DK5.out.free 2
  refine wpAnyU_ready (rs := [10]) (by kernel_rfl) (by simp) (AllReadyU.cons rfl (fun K hK => ?_) AllReadyU.nil)
  rw [if_pos (by rfl)]
  go_simp
  refine hK.out _ _ (fun h => absurd h (by decide)) ?_
  clear hK K
  refine wpAnyU_done (by kernel_rfl) ?_ _
  refine NoPanic.normal ?_
  have HNE : Hid (∀ k, (Value.slice (some ⟨g', 0, none⟩) (D.es.length + 1) cap).ownBlock = some k → k ≠ d) := hide (fun k hk e => by
    obtain ⟨cs, hc⟩ := row_lies ROW5.out hk
    exact hc.apart DK5.out (by decide) e)
  have B6 := But.setCell w5 d 2 (.slice (some ⟨g', 0, none⟩) (D.es.length + 1) cap)
  have S6 : Hid (WrS w (w5.setCell ⟨d, 2, none⟩ (.slice (some ⟨g', 0, none⟩) (D.es.length + 1) cap)) d s D r (.slice av r.b.length cv) E g3 g4 (.slice (some ⟨g', 0, none⟩) (D.es.length + 1) cap) rs.length) := hide
    ⟨DK5.out.set 2 _, row_same ROW5.out (fun k hk => B6.block k (HNE.out k hk)), G35.out.but B6 (G35.out.apart DK5.out (by decide)), G45.out.but B6 (G45.out.apart DK5.out (by decide)), CH5.out.thenBut B6 (.inl (.inl rfl)), LIE5.out⟩
  revert S6
  generalize w5.setCell ⟨d, 2, none⟩ (.slice (some ⟨g', 0, none⟩) (D.es.length + 1) cap) = w6
  intro S6
  clear k1 k2 hHeld DK5 G35 G45 CH5 LIE5 ROW5 B6 D4 ROW4 Z4 Z0 G5 D3 B3 G3 G4 L4 L4w HD2 hle5
  go_wp2_with fail
  -- the number of raw writes grows
  refine wp_region_noPanic ?_
  refine wp_region_U (q := 13) (S := fun z : World => Below w6.heap.size w6 z) (by kernel_rfl) ?_
  have Z0 := hide ((Below.refl w6.heap.size w6).drew)
  have hHeld := Z0.out
  have HC3 : Hid (∀ z : World, Below w6.heap.size w6 z → z.cell? ⟨d, 3, none⟩ = some (.int .i64 (R0 : Int))) := hide (fun z hz => by rw [(S6.out.dk.on hz).cell, HR0.out]; rfl)
  have HC0 : Hid (∀ z : World, Below w6.heap.size w6 z → z.cell? ⟨d, 0, none⟩ = some (.int .i64 (s : Int))) := hide (fun z hz => by rw [(S6.out.dk.on hz).cell]; rfl)
  have HRE4 : Hid (∀ z : World, Below w6.heap.size w6 z → z.rangeAt g4 0 (enC E (.slice av r.b.length cv))) := hide (fun z hz => (S6.out.g4.on hz).range 0 _ (by simp))
  refine takeU 13 0 29 (.pointer (some ⟨d, 0, none⟩)) hHeld rfl rfl (by kernel_rfl) (by kernel_rfl) (by kernel_rfl) (by kernel_rfl) (by kernel_rfl) (by kernel_rfl) (fun _ _ _ h => h) (Or.inl ⟨by rfl, fun w _ => by go_simp⟩) ?_
  simp only [Act.put, List.setIfInBounds_toArray, List.set_cons_zero, List.set_cons_succ]
  refine takeU 13 1 30 (.pointer (some ⟨d, 0, none⟩)) hHeld rfl rfl (by kernel_rfl) (by kernel_rfl) (by kernel_rfl) (by kernel_rfl) (by kernel_rfl) (by kernel_rfl) (fun _ _ _ h => h) (Or.inl ⟨by rfl, fun w _ => by go_simp⟩) ?_
  simp only [Act.put, List.setIfInBounds_toArray, List.set_cons_zero, List.set_cons_succ]
  refine takeU 13 2 31 (.pointer (some ⟨d, 3, none⟩)) hHeld rfl rfl (by kernel_rfl) (by kernel_rfl) (by kernel_rfl) (by kernel_rfl) (by kernel_rfl) (by kernel_rfl) (fun _ _ _ h => h) (Or.inl ⟨by rfl, fun w _ => by go_simp⟩) ?_
  simp only [Act.put, List.setIfInBounds_toArray, List.set_cons_zero, List.set_cons_succ]
  refine takeU 13 3 32 (.int .i64 (R0 : Int)) hHeld rfl rfl (by kernel_rfl) (by kernel_rfl) (by kernel_rfl) (by kernel_rfl) (by kernel_rfl) (by kernel_rfl) (fun _ _ _ h => h) (Or.inl ⟨by rfl, fun w hw => by have hw' : w.cell? ⟨d, 3, none⟩ = some (.int .i64 (R0 : Int)) := (fun hw => HC3.out _ hw) hw; go_simp⟩) ?_
  simp only [Act.put, List.setIfInBounds_toArray, List.set_cons_zero, List.set_cons_succ]
  refine takeU 13 4 33 (.agg (enC E (.slice av r.b.length cv)).toArray) hHeld rfl rfl (by kernel_rfl) (by kernel_rfl) (by kernel_rfl) (by kernel_rfl) (by kernel_rfl) (by kernel_rfl) (fun _ _ _ h => h) (yieldsIf_load_mid (by rfl) _ _ rfl g4 0 rfl _ _ (fun w h => HRE4.out w h) Tryz.underlying119 rfl HIE.out) ?_
  simp only [Act.put, List.setIfInBounds_toArray, List.set_cons_zero, List.set_cons_succ]
  refine takeU 13 5 34 (.pointer (some ⟨d, 0, none⟩)) hHeld rfl rfl (by kernel_rfl) (by kernel_rfl) (by kernel_rfl) (by kernel_rfl) (by kernel_rfl) (by kernel_rfl) (fun _ _ _ h => h) (Or.inl ⟨by rfl, fun w _ => by go_simp⟩) ?_
  simp only [Act.put, List.setIfInBounds_toArray, List.set_cons_zero, List.set_cons_succ]
  refine takeU 13 6 35 (.pointer (some ⟨d, 0, none⟩)) hHeld rfl rfl (by kernel_rfl) (by kernel_rfl) (by kernel_rfl) (by kernel_rfl) (by kernel_rfl) (by kernel_rfl) (fun _ _ _ h => h) (Or.inl ⟨by rfl, fun w _ => by go_simp⟩) ?_
  simp only [Act.put, List.setIfInBounds_toArray, List.set_cons_zero, List.set_cons_succ]
  refine takeU 13 7 36 (.pointer (some ⟨d, 0, none⟩)) hHeld rfl rfl (by kernel_rfl) (by kernel_rfl) (by kernel_rfl) (by kernel_rfl) (by kernel_rfl) (by kernel_rfl) (fun _ _ _ h => h) (Or.inl ⟨by rfl, fun w _ => by go_simp⟩) ?_
  simp only [Act.put, List.setIfInBounds_toArray, List.set_cons_zero, List.set_cons_succ]
  refine takeU 13 8 37 (.int .i64 (s : Int)) hHeld rfl rfl (by kernel_rfl) (by kernel_rfl) (by kernel_rfl) (by kernel_rfl) (by kernel_rfl) (by kernel_rfl) (fun _ _ _ h => h) (Or.inl ⟨by rfl, fun w hw => by have hw' : w.cell? ⟨d, 0, none⟩ = some (.int .i64 (s : Int)) := (fun hw => HC0.out _ hw) hw; go_simp⟩) ?_
  simp only [Act.put, List.setIfInBounds_toArray, List.set_cons_zero, List.set_cons_succ]
  refine wpAnyU_ready (rs := [9]) (by kernel_rfl) (by simp) (AllReadyU.cons rfl (fun K hK => ?_) AllReadyU.nil)
  rw [if_pos (by rfl)]
  go_simp
  refine (count_any E av _ cv s _ HH.out.s1 HH.out.s2 (by rw [HEE.out]) (by have := HFW.out.2; omega) (by rw [HEE.out]; have := HFW.out.1; show (fl (play rs) r.n).length ≤ _; omega)).mono ?_
  rintro q w7 ⟨rfl, hb7⟩
  have Z7 := hide (Z0.out.trans (hb7.mono Z0.out.size))
  refine hK.out _ _ (fun _ => Z7.out) ?_
  have hHeld := Z7.out
  clear hK K
  clear hb7
  obtain ⟨C0, hC0⟩ : ∃ C0 : Nat, C0 = cnt s E := ⟨_, rfl⟩
  rw [← hC0]
  have hbC : C0 ≤ 1099511000001 := by
    have h1 : cnt s E ≤ E.r.b.length + 1 := by
      unfold cnt
      split
      · exact cnt_bd HH.out.s1
      · omega
    have h2 : E.r.b.length = r.b.length := by rw [HEE.out]
    have h3 := HFW.out.2
    omega
  have hbR : R0 ≤ 1099511000000 := by have h3 := HFW.out.2; rw [HR0.out]; omega
  have HCN := hide hC0
  obtain ⟨hwa, hwb⟩ := wrapN ((R0 : Int) + (C0 : Int)) (by omega) (by omega)
  clear hC0
  refine takeU 13 10 39 (.int .i64 ((R0 : Int) + (C0 : Int))) hHeld rfl rfl (by kernel_rfl) (by kernel_rfl) (by kernel_rfl) (by kernel_rfl) (by kernel_rfl) (by kernel_rfl) (fun _ _ _ h => h) (Or.inl ⟨by rfl, fun w _ => by go_simp⟩) ?_
  simp only [Act.put, List.setIfInBounds_toArray, List.set_cons_zero, List.set_cons_succ]
  refine wpAnyU_ready (rs := [11]) (by kernel_rfl) (by simp) (AllReadyU.cons rfl (fun K hK => ?_) AllReadyU.nil)
  rw [if_pos (by rfl)]
  go_simp
  refine hK.out _ _ (fun _ => Z7.out) ?_
  have hHeld := Z7.out
  clear hK K
  refine takeU 13 12 41 (.pointer (some ⟨d, 3, none⟩)) hHeld rfl rfl (by kernel_rfl) (by kernel_rfl) (by kernel_rfl) (by kernel_rfl) (by kernel_rfl) (by kernel_rfl) (fun _ _ _ h => h) (Or.inl ⟨by rfl, fun w _ => by go_simp⟩) ?_
  simp only [Act.put, List.setIfInBounds_toArray, List.set_cons_zero, List.set_cons_succ]
  have S7 := hide (S6.out.below Z7.out)
  have k1 : w7.cell? ⟨d, 3, none⟩ = some (.int .i64 (R0 : Int)) := HC3.out _ Z7.out
  have k2 : w7.frozen? ⟨d, 3, none⟩ = false := S7.out.dk.free 3
  refine wpAnyU_ready (rs := [13]) (by kernel_rfl) (by simp) (AllReadyU.cons rfl (fun K hK => ?_) AllReadyU.nil)
  rw [if_pos (by rfl)]
  go_simp
  refine hK.out _ _ (fun h => absurd h (by decide)) ?_
  clear hK K
  refine wpAnyU_done (by kernel_rfl) ?_ _
  refine NoPanic.normal ?_
  have B8 := But.setCell w7 d 3 (.int .i64 ((R0 : Int) + (C0 : Int)))
  have S8 : Hid (WrS w (w7.setCell ⟨d, 3, none⟩ (.int .i64 ((R0 : Int) + (C0 : Int)))) d s D r (.slice av r.b.length cv) E g3 g4 (.slice (some ⟨g', 0, none⟩) (D.es.length + 1) cap) ((R0 : Int) + (C0 : Int))) := hide
    ⟨S7.out.dk.set 3 _, row_same S7.out.row (fun k hk => B8.block k (HNE.out k hk)), S7.out.g3.but B8 (S7.out.g3.apart S7.out.dk (by decide)), S7.out.g4.but B8 (S7.out.g4.apart S7.out.dk (by decide)), S7.out.chs.thenBut B8 (.inl (.inl rfl)), S7.out.lie⟩
  revert S8
  generalize w7.setCell ⟨d, 3, none⟩ (.int .i64 ((R0 : Int) + (C0 : Int))) = w8
  intro S8
  clear k1 k2 hHeld S6 S7 B8 Z7 Z0 HC3 HRE4 HNE hbC hbR hwa hwb HC0
  go_wp2_with (refine step_loadA wRw rfl rfl S8.out.g3 rfl ?_)
  refine (do_any d D.m s ((R0 : Int) + (C0 : Int)) _ r _ D.fm (play rs) _ S8.out.dk (S8.out.fil HH.out) HR.out (S8.out.bv HH.out HV.out) (by have := HFW.out; omega) HDI.out).mono ?_
  rintro q w9 ⟨rfl, hdo⟩
  go_wp2
  go_end0
  refine ⟨rfl, ?_⟩
  have S9 := S8.out
  rw [HR0.out, HCN.out] at S9
  exact S9.done HH.out HEE.out HR.out HV.out HDI.out hdo

end Go.Proofs.YtpocadbhajacaaaGreatDoor
