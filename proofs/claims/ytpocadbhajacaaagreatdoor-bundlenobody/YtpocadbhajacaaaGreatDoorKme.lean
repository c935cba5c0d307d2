/-
  Bytes cut and cloned; an entry's pieces.
-/
import Derived.Test.YtpocadbhajacaaaGreatDoorKmd
namespace Go.Proofs.YtpocadbhajacaaaGreatDoor
open Go.RowKit
set_option linter.unusedVariables false

theorem Own.of_blk {w : World} {g B : Nat} {xs : List Int} (h : Blk w g 5 (u8s xs)) (hB : B ≤ g) (hl : xs.length ≤ 9223372036854775807) : Own w B (.slice (some ⟨g, 0, none⟩) xs.length xs.length) xs :=
  ⟨by rw [u8s_length]; omega, .inr ⟨g, xs.length, (u8s xs).toArray, rfl, hB, h, Nat.le_refl _, by unfold maxLen; omega, by simp [u8s_length], by rw [List.take_of_length_le (by simp [u8s_length])]⟩⟩
theorem eql_nil (a : Option Addr) (l c : Nat) (w : World) : (binOp .eql 31 (.slice a l c) (.slice none 0 0)).run Tryz.prog w = .ok (.bool a.isNone) w := by
  have h := run_equal_slice_nil (P := Tryz.prog) w 31 5 a l c undBs
  simp [binOp, h, Result.andThen]
set_option maxHeartbeats 400000 in
theorem clone_any (a : Option Addr) (len cap : Nat) (xs : List Int) (w : World) (hs : Sl w a len cap xs) :
    Calls Tryz.prog 63 #[.slice a len cap] w fun e w' => ∃ v, e = .returned v ∧ Own w' w.heap.size v xs ∧ Below w.heap.size w w' := by
  cases a with
  | none =>
    obtain ⟨rfl, rfl⟩ := hs.hnil rfl
    obtain rfl : xs = [] := List.eq_nil_of_length_eq_zero hs.hlen
    clear hs
    have hq : ∀ w : World, (binOp .eql 31 (.slice none 0 0) (.slice none 0 0)).run Tryz.prog w = .ok (.bool true) w := fun w => eql_nil none 0 0 w
    go_enter Tryz.func63, Tryz.ntmps63
    go_wp2
    go_ret
    exact ⟨_, rfl, Own.nil _ _, Below.refl _ _⟩
  | some x =>
    have hr : len ≤ 140737488355328 := by obtain ⟨_, _, _, h4, _⟩ := hs; exact h4
    have HS := hide hs
    clear hs
    have hq : ∀ w : World, (binOp .eql 31 (.slice (some x) len cap) (.slice none 0 0)).run Tryz.prog w = .ok (.bool false) w := fun w => eql_nil (some x) len cap w
    go_enter Tryz.func63, Tryz.ntmps63
    have ho0 : Own (w.alloc (.cells #[] 5)) w.heap.size (.slice (some ⟨w.heap.size, 0, none⟩) 0 0) [] := Own.of_blk (xs := []) (Blk.made w 5 []) (Nat.le_refl _) (by simp)
    have hb0 : Below w.heap.size w (w.alloc (.cells #[] 5)) := (Below.refl _ _).alloc (Nat.le_refl _) _
    go_wp2_with (refine step_append rfl rfl rfl ho0 (HS.out.below hb0) (by simp; omega) (by simp) ?_)
    intro v1 w1 ho1 hg1 hn1
    have hb1 : Below w.heap.size w w1 := hb0.trans (Below.of_grown hg1 hb0.size ho0.lt)
    rw [List.nil_append] at ho1
    go_wp2
    go_ret
    exact ⟨_, rfl, ho1, hb1⟩
/-- A new slice that holds bytes is one of those that a record holds. -/
theorem Own.bv {w : World} {B : Nat} {v : Value} {xs : List Int} (h : Own w B v xs) (hb : isB xs) (hl : xs.length ≤ 140737488355328) (h0 : xs ≠ []) : BV w v xs := by
  have hl0 : 0 < xs.length := List.length_pos_iff.2 h0
  obtain ⟨a, c, rfl⟩ := h.slice
  obtain ⟨g, rfl, _, hc⟩ := h.cap hl0
  obtain ⟨cs, hcs⟩ := h.lies (k := g) rfl
  obtain ⟨g', cap', e, _, hs⟩ := h.sl hb hl (fun e => by cases e)
  injection e with e1 e2 e3
  injection e1 with e1
  injection e1 with e1
  subst e1 e3
  exact .inr ⟨g, 0, _, _, rfl, hl0, hs, cs, hcs⟩
/-- b[i:j] -/
theorem bv_mid {w : World} {v : Value} {xs : List Int} (h : BV w v xs) (i j : Nat) (hij : i ≤ j) (hj : j ≤ xs.length) (hlt : xs = [] ∨ i < j) :
    ∃ a l c, (∀ z : World, (Instr.slice 31 v (some (.int .i64 i)) (some (.int .i64 j)) none).run Tryz.prog z = .ok (.slice a l c) z) ∧ (∀ z, BV z v xs → BV z (.slice a l c) ((xs.drop i).take (j - i))) ∧ (∀ k, (Value.slice a l c).ownBlock = some k → v.ownBlock = some k) := by
  rcases h with ⟨rfl, rfl⟩ | ⟨b, o, l, c, rfl, h0, hs, _⟩
  · have e1 : j = 0 := by simpa using hj
    have e2 : i = 0 := by omega
    subst e1 e2
    refine ⟨none, 0, 0, fun z => ?_, fun z hz => by simpa using hz, fun k hk => hk⟩
    have hr := run_slice_lh (P := Tryz.prog) z 31 none 0 0 und22 .i64 .i64 0 0 (by omega) (by omega) (by omega)
    rw [elem22, sizeB] at hr
    simpa [sliced] using hr
  · have hl := hs.hlen
    have hc0 := hs.hcap
    have hne : i < j := by
      rcases hlt with h | h
      · subst h; simp at hl; omega
      · exact h
    refine ⟨some ⟨b, o + i, none⟩, j - i, c - i, fun z => ?_, fun z hz => ?_, fun k hk => hk⟩
    · rw [run_slice_lh z _ _ _ _ und22 .i64 .i64 i j (by omega) (by omega) (by omega), elem22, sizeB]
      have : ¬ (c = i) := by omega
      simp [sliced, this, Addr.add_lit]
    · rcases hz with ⟨e, _⟩ | ⟨b', o', l', c', e, _, hs', cs', hb'⟩
      · cases e
      · injection e with e1 e2 e3
        injection e1 with e1
        injection e1 with e1 e4
        subst e1 e2 e3 e4
        refine .inr ⟨b, o + i, j - i, c - i, rfl, by omega, ?_, cs', hb'⟩
        obtain ⟨h1, h2, h3, h4, h5, h6, h7⟩ := hs'
        refine ⟨by simp; omega, by omega, by omega, by omega, (h5.drop i).take _, (fun e => by cases e), fun _ => ?_⟩
        obtain ⟨b2, o2, e, hce⟩ := h7 h0
        cases e
        refine ⟨b, o + i, rfl, fun k hk => ?_⟩
        rw [show o + i + k = o + (i + k) by omega, hce (i + k) (by omega)]
        simp [List.getD, List.getElem?_drop, hk]

theorem spl_rw (k : Int) (n : ByteArray) (v : Value) (s : Int) (t : ByteArray) (u : Value) : spl (rwC k n v s t) [u] 2 = rwC k n u s t := rfl
set_option maxRecDepth 100000 in
set_option maxHeartbeats 400000 in
theorem pieces_any (e : En) (v : Value) (s i j : Nat) (w : World) (hs : 1 ≤ s) (hs2 : s ≤ 4096) (hv : BV w v e.r.b) (hl2 : e.r.b.length ≤ 281474976710656) (hh : e.had ≤ 281474976710656) (hi : i ≤ j) (hj : j ≤ 281474976710656) (hlt : e.r.b = [] ∨ edge s e i < edge s e j) :
    Calls Tryz.prog 57 #[.agg (enC e v).toArray, .int .i64 i, .int .i64 j, .int .i64 s] w fun r w' => ∃ v', r = .returned (.agg (rwC e.r.k e.r.n v' e.r.s e.r.t).toArray) ∧ BV w' v' (pieces s e i j).b ∧ (∀ k, v'.ownBlock = some k → v.ownBlock = some k) ∧ Below w.heap.size w w' := by
  obtain ⟨a, c, hve, _⟩ := hv.sl
  have hee : edge s e i ≤ edge s e j := edge_mono s e.had e.r.b.length hi
  have hel : edge s e j ≤ e.r.b.length := Nat.min_le_right _ _
  obtain ⟨a2, l2, c2, hrun, hbv, hblk⟩ := bv_mid hv (edge s e i) (edge s e j) hee hel hlt
  have HBV := hide hbv
  have HBK := hide hblk
  have HV := hide hv
  have HL2 := hide hl2
  have HH := hide hh
  have HI := hide (show i ≤ 281474976710656 by omega)
  have HJ := hide hj
  have HRUN := hide hrun
  have HVE := hide hve
  have HS := hide hs
  have HS2 := hide hs2
  clear hbv hblk hv hl2 hh hi hj hlt hee hel hrun hs hs2
  have HIE : Hid ((Tryz.prog.info? 119).map (·.size) = some (enC e v).length) := hide (by rw [wEn.size]; rfl)
  go_enter Tryz.func57, Tryz.ntmps57
  go_wp2_with (refine step_box (cs := enC e v) rfl rfl ?_)
  intro w1 g4 hg4 hle4 hb1
  go_wp2_with (refine step_alloc zRw rfl ?_)
  intro w2 g8 hg8 hle8 hb2
  have G4 := hide (hg4.below hb2 hg4.lt)
  have G8 := hide hg8
  have B2 := hide (hb1.trans (hb2.mono hb1.size))
  clear hg4 hg8
  have hlt8 := G8.out.lt
  subst hve
  go_wp2_with (first | (refine step_load wRw rfl rfl G4.out (rwC e.r.k e.r.n (.slice a e.r.b.length c) e.r.s e.r.t) rfl rfl ?_) | (refine step_alloc zRw rfl ?_))
  intro w3 g9 hg9 hle9 hb3
  go_wp2_with (refine step_storeA wRw rfl rfl rfl hg9 rfl (One.rw _ _ _ _ _ _ _) rfl ?_)
  intro w4 hg9' hbut4
  have hb4 : Below w2.heap.size w2 w4 := hb3.trans (hbut4.below hle9)
  have G4 := hide (G4.out.below hb4 G4.out.lt)
  have G8 := hide (G8.out.below hb4 G8.out.lt)
  have G9 := hide hg9'
  have B4 := hide (B2.out.trans (hb4.mono B2.out.size))
  have L89 : Hid (g8 ≠ g9) := hide (by omega)
  have L9 : Hid (w.heap.size ≤ g9) := hide (by have := B2.out.size; omega)
  have L8 : Hid (w.heap.size ≤ g8) := hide (by have := hb1.size; omega)
  clear hg9 hg9' hbut4 hb3 hb4 B2 hlt8 hle9 hle8 hle4 hb1 hb2
  go_wp2_with fail
  refine wp_region_noPanic ?_
  refine wp_region_U (q := 12) (S := fun z : World => Below w4.heap.size w4 z) (by kernel_rfl) ?_
  have Z0 := hide ((Below.refl w4.heap.size w4).drew)
  have hHeld := Z0.out
  have HR : Hid (∀ z : World, Below w4.heap.size w4 z → z.rangeAt g4 0 (enC e (.slice a e.r.b.length c))) := hide (fun z hz => (G4.out.on hz).range 0 _ (by simp))
  have HC : Hid (∀ z : World, Below w4.heap.size w4 z → z.cell? ⟨g9, 2, none⟩ = some (.slice a e.r.b.length c)) := hide (fun z hz => by rw [(G9.out.on hz).cell]; rfl)
  refine takeU 12 0 12 (.pointer (some ⟨g9, 2, none⟩)) hHeld rfl rfl (by kernel_rfl) (by kernel_rfl) (by kernel_rfl) (by kernel_rfl) (by kernel_rfl) (by kernel_rfl) (fun _ _ _ h => h) (Or.inl ⟨by rfl, fun w _ => by go_simp⟩) ?_
  simp only [Act.put, List.setIfInBounds_toArray, List.set_cons_zero, List.set_cons_succ]
  refine takeU 12 1 13 (.slice a e.r.b.length c) hHeld rfl rfl (by kernel_rfl) (by kernel_rfl) (by kernel_rfl) (by kernel_rfl) (by kernel_rfl) (by kernel_rfl) (fun _ _ _ h => h) (Or.inl ⟨by rfl, fun w hw => by have hw' : w.cell? ⟨g9, 2, none⟩ = some (.slice a e.r.b.length c) := (fun hw => HC.out _ hw) hw; go_simp⟩) ?_
  simp only [Act.put, List.setIfInBounds_toArray, List.set_cons_zero, List.set_cons_succ]
  refine takeU 12 2 14 (.agg (enC e (.slice a e.r.b.length c)).toArray) hHeld rfl rfl (by kernel_rfl) (by kernel_rfl) (by kernel_rfl) (by kernel_rfl) (by kernel_rfl) (by kernel_rfl) (fun _ _ _ h => h) (yieldsIf_load_mid (by rfl) _ _ rfl g4 0 rfl _ _ (fun w h => HR.out w h) Tryz.underlying119 rfl HIE.out) ?_
  simp only [Act.put, List.setIfInBounds_toArray, List.set_cons_zero, List.set_cons_succ]
  refine takeU 12 3 15 (.int .i64 (i : Int)) hHeld rfl rfl (by kernel_rfl) (by kernel_rfl) (by kernel_rfl) (by kernel_rfl) (by kernel_rfl) (by kernel_rfl) (fun _ _ _ h => h) (Or.inl ⟨by rfl, fun w _ => by go_simp⟩) ?_
  simp only [Act.put, List.setIfInBounds_toArray, List.set_cons_zero, List.set_cons_succ]
  refine takeU 12 4 16 (.int .i64 (s : Int)) hHeld rfl rfl (by kernel_rfl) (by kernel_rfl) (by kernel_rfl) (by kernel_rfl) (by kernel_rfl) (by kernel_rfl) (fun _ _ _ h => h) (Or.inl ⟨by rfl, fun w _ => by go_simp⟩) ?_
  simp only [Act.put, List.setIfInBounds_toArray, List.set_cons_zero, List.set_cons_succ]
  refine takeU 12 6 18 (.agg (enC e (.slice a e.r.b.length c)).toArray) hHeld rfl rfl (by kernel_rfl) (by kernel_rfl) (by kernel_rfl) (by kernel_rfl) (by kernel_rfl) (by kernel_rfl) (fun _ _ _ h => h) (yieldsIf_load_mid (by rfl) _ _ rfl g4 0 rfl _ _ (fun w h => HR.out w h) Tryz.underlying119 rfl HIE.out) ?_
  simp only [Act.put, List.setIfInBounds_toArray, List.set_cons_zero, List.set_cons_succ]
  refine takeU 12 7 19 (.int .i64 (j : Int)) hHeld rfl rfl (by kernel_rfl) (by kernel_rfl) (by kernel_rfl) (by kernel_rfl) (by kernel_rfl) (by kernel_rfl) (fun _ _ _ h => h) (Or.inl ⟨by rfl, fun w _ => by go_simp⟩) ?_
  simp only [Act.put, List.setIfInBounds_toArray, List.set_cons_zero, List.set_cons_succ]
  refine takeU 12 8 20 (.int .i64 (s : Int)) hHeld rfl rfl (by kernel_rfl) (by kernel_rfl) (by kernel_rfl) (by kernel_rfl) (by kernel_rfl) (by kernel_rfl) (fun _ _ _ h => h) (Or.inl ⟨by rfl, fun w _ => by go_simp⟩) ?_
  simp only [Act.put, List.setIfInBounds_toArray, List.set_cons_zero, List.set_cons_succ]
  refine wpAnyU_ready (rs := [5]) (by kernel_rfl) (by simp) (AllReadyU.cons rfl (fun K hK => ?_) AllReadyU.nil)
  rw [if_pos (by rfl)]
  go_simp
  refine (edge_any e a _ c s i _ HS.out HS2.out rfl HL2.out HH.out HI.out).mono ?_
  rintro r W5 ⟨rfl, hb5⟩
  have Z5 := hide (Z0.out.trans (hb5.mono Z0.out.size))
  refine hK.out _ _ (fun _ => Z5.out) ?_
  have hHeld := Z5.out
  clear hK K
  clear hb5
  refine wpAnyU_ready (rs := [9]) (by kernel_rfl) (by simp) (AllReadyU.cons rfl (fun K hK => ?_) AllReadyU.nil)
  rw [if_pos (by rfl)]
  go_simp
  refine (edge_any e a _ c s j _ HS.out HS2.out rfl HL2.out HH.out HJ.out).mono ?_
  rintro r W6 ⟨rfl, hb6⟩
  have Z6 := hide (Z5.out.trans (hb6.mono Z5.out.size))
  refine hK.out _ _ (fun _ => Z6.out) ?_
  have hHeld := Z6.out
  clear hK K
  clear hb6
  refine takeU 12 10 22 (.slice a2 l2 c2) hHeld rfl rfl (by kernel_rfl) (by kernel_rfl) (by kernel_rfl) (by kernel_rfl) (by kernel_rfl) (by kernel_rfl) (fun _ _ _ h => h) (Or.inl ⟨by rfl, fun w _ => run_op rfl (HRUN.out w)⟩) ?_
  simp only [Act.put, List.setIfInBounds_toArray, List.set_cons_zero, List.set_cons_succ]
  refine takeU 12 11 23 (.pointer (some ⟨g9, 2, none⟩)) hHeld rfl rfl (by kernel_rfl) (by kernel_rfl) (by kernel_rfl) (by kernel_rfl) (by kernel_rfl) (by kernel_rfl) (fun _ _ _ h => h) (Or.inl ⟨by rfl, fun w _ => by go_simp⟩) ?_
  simp only [Act.put, List.setIfInBounds_toArray, List.set_cons_zero, List.set_cons_succ]
  have k1 : W6.cell? ⟨g9, 2, none⟩ = some (.slice a e.r.b.length c) := HC.out _ Z6.out
  have k2 : W6.frozen? ⟨g9, 2, none⟩ = false := (G9.out.on Z6.out).free 2
  refine wpAnyU_ready (rs := [12]) (by kernel_rfl) (by simp) (AllReadyU.cons rfl (fun K hK => ?_) AllReadyU.nil)
  rw [if_pos (by rfl)]
  go_simp
  refine hK.out _ _ (fun h => absurd h (by decide)) ?_
  clear hK K
  refine wpAnyU_done (by kernel_rfl) ?_ _
  refine NoPanic.normal ?_
  have G9' : Hid (Blk (W6.setCell ⟨g9, 2, none⟩ (.slice a2 l2 c2)) g9 117 (rwC e.r.k e.r.n (.slice a2 l2 c2) e.r.s e.r.t)) := hide ((G9.out.on Z6.out).set 2 _)
  have B6 := hide (But.setCell W6 g9 2 (.slice a2 l2 c2))
  have G8' := hide (((G8.out.on Z6.out)).but B6.out L89.out)
  revert G9' B6 G8'
  generalize W6.setCell ⟨g9, 2, none⟩ (.slice a2 l2 c2) = W7
  intro G9' B6 G8'
  clear k1 k2 hHeld HC HR G9
  go_wp2_with (first | (refine step_loadA wRw rfl rfl G9'.out rfl ?_) | (refine step_storeA wRw rfl rfl rfl G8'.out rfl (One.rw _ _ _ _ _ _ _) rfl ?_))
  intro w8 hg8 hbut8
  go_wp2
  refine bodyPost_ret (results_wide rfl wRw _ _ rfl hg8 rfl) rfl ?_
  have hbel : Below w.heap.size w w8 := ((B4.out.trans (Z6.out.mono B4.out.size)).trans (B6.out.below L9.out)).trans (hbut8.below L8.out)
  refine ⟨_, rfl, HBV.out _ (HV.out.same (fun k hk => ?_)), HBK.out, hbel⟩
  obtain ⟨cs, hcs⟩ := HV.out.lies hk
  exact hbel.block k hcs.lt

end Go.Proofs.YtpocadbhajacaaaGreatDoor
