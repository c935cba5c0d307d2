/-
  Texts one behind the other: Ri Re.
-/
import Derived.Test.YthgfbcndoedacaaDoorPkK
import Derived.Test.YthgfbcndoedacaaDoorPkJ

/-
  Clone and Merge of ranges.
-/
namespace Go.Proofs.YthgfbcndoedacaaDoor
open Go.RowKit Go.Shelf
set_option linter.unusedVariables false

theorem run_buildRg3 (b e : Int) (x : Option Addr) (n c : Nat) (w : World) : (Instr.build 54 #[(0, .bool true), (1, .agg #[.int .i64 b, .int .i64 e]), (2, .slice x n c)]).run Tryd.prog w = .ok (.agg (rgC b e (.slice x n c)).toArray) w := by kernel_rfl
theorem run_buildRgO {dst : Option Tmp} {ty : TypeId} {pos : String} {aft : Array Edge} {gd : Option (Nat × Bool)} {a : Act} {w : World} {x y : Operand} {b e : Int} {z : Option Addr} {n c : Nat} (hx : a.eval x = .agg #[.int .i64 b, .int .i64 e]) (hy : a.eval y = .slice z n c) :
    (execOp a.eval ⟨dst, .build 54 #[(0, .const (.bool true)), (1, x), (2, y)], ty, pos, aft, gd⟩).run Tryd.prog w = .ok (.value (.agg (rgC b e (.slice z n c)).toArray)) w :=
  run_op (M := Instr.build 54 #[(0, .bool true), (1, .agg #[.int .i64 b, .int .i64 e]), (2, .slice z n c)]) (by have hc : a.eval (.const (.bool true)) = .bool true := rfl; simp [execOp, hx, hy, hc]) (run_buildRg3 b e z n c w)
theorem One.rgC (b e : Int) (x : Option Addr) (n c : Nat) : One (rgC b e (.slice x n c)) := by intro v hv; simp [Go.Proofs.YthgfbcndoedacaaDoor.rgC] at hv; rcases hv with rfl | rfl | rfl | rfl <;> rfl

set_option maxRecDepth 100000 in
set_option maxHeartbeats 400000 in
theorem rclone_any (B g b e : Nat) (v : Value) (ps : List Pt) (w : World) (hr : Rg w B g b e v ps) :
    Calls Tryd.prog 12 #[.pointer (some ⟨g, 0, none⟩)] w fun r w' => ∃ g' v', r = .returned (.pointer (some ⟨g', 0, none⟩)) ∧ Rg w' w.heap.size g' b e v' ps ∧ w.heap.size ≤ g' ∧ Below w.heap.size w w' := by
  have HR := hide hr
  have c0 : w.cell? ⟨g, 0, none⟩ = some (.bool true) := by rw [hr.blk.cell]; rfl
  clear hr
  go_enter Tryd.func12, Tryd.ntmps12
  go_wp2_with (go_at_call 29; refine (made_is _ _ c0).mono ?_; rintro e w' ⟨rfl, rfl⟩)
  obtain ⟨a0, q0, rfl⟩ : ∃ a c, v = Value.slice a ps.length c := by rcases HR.out.own.lies with ⟨rfl, rfl⟩ | ⟨_, _, _, rfl, _⟩ <;> exact ⟨_, _, rfl⟩
  obtain ⟨dS, huS, hdS⟩ := wSpn.und
  have HS1 : ∀ V : World, Rg V B g b e (.slice a0 ps.length q0) ps → V.rangeAt g 1 [.int .i64 (b : Int), .int .i64 (e : Int)] ∧ V.cell? ⟨g, 3, none⟩ = some (.slice a0 ps.length q0) := fun V h => ⟨h.blk.range 1 _ rfl, h.c3⟩
  refine wp_region_noPanic ?_
  have bd := (Below.refl w.heap.size w).drew
  have R2 := hide (HR.out.below bd)
  refine wp_region_held_drew (S := fun V : World => V.rangeAt g 1 [.int .i64 (b : Int), .int .i64 (e : Int)] ∧ V.cell? ⟨g, 3, none⟩ = some (.slice a0 ps.length q0)) (by kernel_rfl) (HS1 _ R2.out) (fun hHeld => ?_)
  refine takeH 0 6 (.pointer (some ⟨g, 0, none⟩)) hHeld rfl rfl (by kernel_rfl) (by kernel_rfl) (by kernel_rfl) (fun _ _ _ h => h) (Or.inl ⟨by rfl, fun w _ => by go_simp⟩) ?_
  simp only [Act.put, List.setIfInBounds_toArray, List.set_cons_zero, List.set_cons_succ]
  refine takeH 1 7 (.pointer (some ⟨g, 0, none⟩)) hHeld rfl rfl (by kernel_rfl) (by kernel_rfl) (by kernel_rfl) (fun _ _ _ h => h) (Or.inl ⟨by rfl, fun w _ => by go_simp⟩) ?_
  simp only [Act.put, List.setIfInBounds_toArray, List.set_cons_zero, List.set_cons_succ]
  refine takeH 2 8 (.pointer (some ⟨g, 1, none⟩)) hHeld rfl rfl (by kernel_rfl) (by kernel_rfl) (by kernel_rfl) (fun _ _ _ h => h) (Or.inl ⟨by rfl, fun w _ => by go_simp⟩) ?_
  simp only [Act.put, List.setIfInBounds_toArray, List.set_cons_zero, List.set_cons_succ]
  refine takeH 3 9 (.agg ([.int .i64 (b : Int), .int .i64 (e : Int)] : List Value).toArray) hHeld rfl rfl (by kernel_rfl) (by kernel_rfl) (by kernel_rfl) (fun _ _ _ h => h) (yieldsIf_load_mid (by rfl) _ _ rfl g 1 rfl _ _ (fun w h => h.1) huS hdS (by rw [wSpn.size]; rfl)) ?_
  simp only [Act.put, List.setIfInBounds_toArray, List.set_cons_zero, List.set_cons_succ]
  refine takeH 4 10 (.pointer (some ⟨g, 0, none⟩)) hHeld rfl rfl (by kernel_rfl) (by kernel_rfl) (by kernel_rfl) (fun _ _ _ h => h) (Or.inl ⟨by rfl, fun w _ => by go_simp⟩) ?_
  simp only [Act.put, List.setIfInBounds_toArray, List.set_cons_zero, List.set_cons_succ]
  refine takeH 5 11 (.pointer (some ⟨g, 0, none⟩)) hHeld rfl rfl (by kernel_rfl) (by kernel_rfl) (by kernel_rfl) (fun _ _ _ h => h) (Or.inl ⟨by rfl, fun w _ => by go_simp⟩) ?_
  simp only [Act.put, List.setIfInBounds_toArray, List.set_cons_zero, List.set_cons_succ]
  refine takeH 6 12 (.pointer (some ⟨g, 3, none⟩)) hHeld rfl rfl (by kernel_rfl) (by kernel_rfl) (by kernel_rfl) (fun _ _ _ h => h) (Or.inl ⟨by rfl, fun w _ => by go_simp⟩) ?_
  simp only [Act.put, List.setIfInBounds_toArray, List.set_cons_zero, List.set_cons_succ]
  refine takeH 7 13 (.slice a0 ps.length q0) hHeld rfl rfl (by kernel_rfl) (by kernel_rfl) (by kernel_rfl) (fun _ _ _ h => h) (Or.inl ⟨by rfl, fun w hw => by have hw' : w.cell? ⟨g, 3, none⟩ = some (.slice a0 ps.length q0) := (fun h => h.2) hw; go_simp⟩) ?_
  simp only [Act.put, List.setIfInBounds_toArray, List.set_cons_zero, List.set_cons_succ]
  refine wpAnyH_ready (rs := [8]) (by kernel_rfl) (by simp) (AllReadyH.cons rfl (fun K hK => ?_) AllReadyH.nil)
  rw [if_pos (by rfl)]
  go_simp
  refine (clone_any B _ ps _ R2.out.own R2.out.good (by have := R2.out.count; omega)).mono ?_
  rintro r W3 ⟨v3, rfl, ho3, hb3⟩
  obtain ⟨a3, q3, rfl⟩ : ∃ a c, v3 = Value.slice a ps.length c := by rcases ho3.lies with ⟨rfl, rfl⟩ | ⟨_, _, _, rfl, _⟩ <;> exact ⟨_, _, rfl⟩
  have HO3 := hide ho3
  have R3 := hide (R2.out.below hb3)
  have HB3 := hide (bd.trans (hb3.mono bd.size))
  refine hK.out _ _ ((HS1 _ R3.out)) (fun hHeld => ?_)
  clear hK K
  refine takeH 9 15 (.agg (rgC b e (.slice a3 ps.length q3)).toArray) hHeld rfl rfl (by kernel_rfl) (by kernel_rfl) (by kernel_rfl) (fun _ _ _ h => h) (Or.inl ⟨by rfl, fun w _ => run_buildRgO rfl rfl⟩) ?_
  simp only [Act.put, List.setIfInBounds_toArray, List.set_cons_zero, List.set_cons_succ]
  refine wpAnyH_ready (rs := [10]) (by kernel_rfl) (by simp) (AllReadyH.cons rfl (fun K hK => ?_) AllReadyH.nil)
  rw [if_pos (by rfl)]
  refine wp_boxG rfl ?_
  intro W4 g' hg4 hle4 hb4
  have R4 := hide (R3.out.below hb4)
  have HO4 := hide (HO3.out.below hb4)
  have HB4 := hide (HB3.out.trans (hb4.mono HB3.out.size))
  have HG4 := hide hg4
  refine hK.out _ _ ((HS1 _ R4.out)) (fun hHeld => ?_)
  clear hK K
  clear hg4 hb4 hb3 ho3
  simp only [Act.put, List.setIfInBounds_toArray, List.set_cons_zero, List.set_cons_succ]
  refine takeH 11 2 (.pointer (some ⟨g', 0, none⟩)) hHeld rfl rfl (by kernel_rfl) (by kernel_rfl) (by kernel_rfl) (fun _ _ _ h => h) (Or.inl ⟨by rfl, fun w _ => by go_simp⟩) ?_
  simp only [Act.put, List.setIfInBounds_toArray, List.set_cons_zero, List.set_cons_succ]
  refine wpAnyH_done (by kernel_rfl) ?_ _
  refine NoPanic.normal ?_
  clear hHeld
  go_wp2
  go_ret
  exact ⟨g', .slice a3 ps.length q3, rfl, ⟨HG4.out, HO4.out.base bd.size, HR.out.good, HR.out.nodes, HR.out.le, HR.out.max⟩, Nat.le_trans HB3.out.size hle4, HB4.out⟩

theorem keepsO_rg {A C : World} {B g b e : Nat} {v : Value} {ps : List Pt} (h : Rg A B g b e v ps) (hc : Chs (Foot g v) A C) : KeepsOthers A C := ⟨hc.size, fun k o hk ho => (hc.block k (Array.getElem?_eq_some_iff.1 hk).1 (fun hf => by
  rcases hf with rfl | e1
  · rw [h.blk] at hk
    injection hk with hk
    subst hk
    cases ho
  · rcases h.own.lies with ⟨rfl, _⟩ | ⟨g', c, cs, rfl, _, hb, _⟩
    · cases e1
    · injection e1 with e1
      subst e1
      rw [hb] at hk
      injection hk with hk
      subst hk
      cases ho)).trans hk⟩
theorem Rg.not_table {w : World} {B g b e t : Nat} {v : Value} {ps : List Pt} (h : Rg w B g b e v ps) (hg : t < g) (hB : t < B) : ¬ Foot g v t := by
  rintro (rfl | e1)
  · omega
  · have := (h.own.lt _ e1).1; omega
/-- The right part of the other range is put. -/
theorem merge_step {e e2 k E : Nat} {qs ps' : List Pt} (hle : e ≤ e2) (hm : e2 ≤ 281474976710656) (hn : qs.map Prod.fst = parts e e2) (hk : k < qs.length) (hE : E = pbeg e e2 k) :
    apE E ((pG qs k).1.1 : Int) = 0 ∧ E + 2 ^ (pG qs k).1.1 = pbeg e e2 (k + 1) ∧ putL ps' (((pG qs k).1.1, E / 2 ^ (pG qs k).1.1), (pG qs k).2) = putL ps' (pG qs k) := by
  have hq : (parts e e2)[k]? = some (pG qs k).1 := by
    rw [← hn, List.getElem?_map]
    unfold pG
    rw [if_pos hk, List.getElem?_eq_getElem hk]
    simp [pAt, List.getD, hk]
  obtain ⟨h1, h2, h3⟩ := pbeg_at hle hm hq
  have hdv : 2 ^ (pG qs k).1.1 ∣ pbeg e e2 k := ⟨(pG qs k).1.2, by rw [← h1, Nat.mul_comm]⟩
  have hL : (pG qs k).1.1 ≤ 48 := by
    apply Nat.le_of_not_lt
    intro hl
    have h4 : 2 ^ 49 ≤ 2 ^ (pG qs k).1.1 := Nat.pow_le_pow_right (by decide) hl
    rw [h2] at h3
    revert h3 h4
    generalize 2 ^ (pG qs k).1.1 = P
    generalize pbeg e e2 k = s
    intro h3 h4
    have : (2 : Nat) ^ 49 = 562949953421312 := by decide
    omega
  subst hE
  refine ⟨apE_ok hL hdv (by rw [← h2]; omega), h2.symm, ?_⟩
  congr 1
  have e1 : pbeg e e2 k / 2 ^ (pG qs k).1.1 = (pG qs k).1.2 := by rw [← h1, Nat.mul_div_cancel _ (Nat.two_pow_pos _)]
  rw [e1]
theorem pG_at {qs : List Pt} {k : Nat} (hk : k < qs.length) : qs.take (k + 1) = qs.take k ++ [pG qs k] := by
  rw [List.take_succ_eq_append_getElem hk]
  unfold pG
  rw [if_pos hk]
  simp [pAt, List.getD, hk]
/-- What Merge's loop keeps. -/
structure MI (w W : World) (B g b e e2 : Nat) (v : Value) (ps qs : List Pt) (pre : List Nat) (E : Nat) (v' : Value) (ps' : List Pt) : Prop where
  rg : Rg W B g b E v' ps'
  chs : Chs (Foot g v) w W
  mv : Moved w v v'
  br : Blk W w.heap.size 23 [.pointer (some ⟨g, 0, none⟩)]
  ok : pre = List.range pre.length → pre.length ≤ qs.length → E = pbeg e e2 pre.length ∧ ps' = (qs.take pre.length).foldl putL ps
theorem MI.below {w W W' : World} {B g b e e2 : Nat} {v : Value} {ps qs : List Pt} {pre : List Nat} {E : Nat} {v' : Value} {ps' : List Pt} (h : MI w W B g b e e2 v ps qs pre E v' ps') (hb : Below W.heap.size W W') : MI w W' B g b e e2 v ps qs pre E v' ps' :=
  ⟨h.rg.below hb, h.chs.thenBelow hb, h.mv, h.br.below hb h.br.lt, h.ok⟩
theorem MI.kept {w A C : World} {B g b e e2 : Nat} {v : Value} {ps qs : List Pt} {pre : List Nat} {E : Nat} {v' : Value} {ps' : List Pt} {row : Option Nat} (h : MI w A B g b e e2 v ps qs pre E v' ps') (hg : A.grownBy C row) (hr : ∀ r, row = some r → w.heap.size ≤ r ∧ ∃ o : Obj, A.heap[r]? = some o ∧ o.isCells = false) : MI w C B g b e e2 v ps qs pre E v' ps' :=
  ⟨h.rg.kept hg (fun r e => (hr r e).2), h.chs.thenGrown hg (fun r e => .inr (hr r e).1), h.mv, h.br.kept hg (fun r e => (hr r e).2), h.ok⟩

set_option maxRecDepth 100000 in
set_option maxHeartbeats 400000 in
theorem rmerge_ok (B g b e : Nat) (v : Value) (ps : List Pt) (B2 g2 e2 : Nat) (v2 : Value) (qs : List Pt) (w : World) (hr : Rg w B g b e v ps) (hr2 : Rg w B2 g2 e e2 v2 qs) (hap : ∀ k, Foot g2 v2 k → ¬ Foot g v k) (hB : B ≤ w.heap.size) (hk : KT w) (hkg : 2 < g) (hkB : 2 < B) :
    Calls Tryd.prog 16 #[.pointer (some ⟨g, 0, none⟩), .pointer (some ⟨g2, 0, none⟩)] w fun r w' => ∃ v', r = .returned (.int .i64 0) ∧ Rg w' B g b e2 v' (qs.foldl putL ps) ∧ Chs (Foot g v) w w' ∧ Moved w v v' := by
  have HR := hide hr
  have HR2 := hide hr2
  have HK := hide hk
  clear hr hr2 hk
  refine (callsIn_wide (n := 3)).1 ?_
  refine callsIn_of_wp_marks Tryd.func16 rfl trivial ?_ rfl
  refine wpIn_wide.2 ?_
  simp only [Tryd.ntmps16, List.size_toArray, List.length_cons, List.length_nil, Nat.reduceAdd, Nat.reduceSub, Array.replicate_succ, Array.replicate_zero, List.push_toArray, List.append_toArray, List.nil_append, List.cons_append]
  go_wp2_with fail
  have BR : Blk (w.alloc (.cells #[.pointer (some ⟨g, 0, none⟩)] 23)) w.heap.size 23 [.pointer (some ⟨g, 0, none⟩)] := Blk.made _ _ _
  have hba : Below w.heap.size w (w.alloc (.cells #[.pointer (some ⟨g, 0, none⟩)] 23)) := (Below.refl _ _).alloc (Nat.le_refl _) _
  revert BR hba
  generalize w.alloc (.cells #[.pointer (some ⟨g, 0, none⟩)] 23) = W1
  intro BR hba
  have c0 : W1.cell? ⟨g, 0, none⟩ = some (.bool true) := by rw [(HR.out.below hba).blk.cell]; rfl
  have c2 : W1.cell? ⟨g, 2, none⟩ = some (.int .i64 (e : Int)) := by rw [(HR.out.below hba).blk.cell]; rfl
  have d0 : W1.cell? ⟨g2, 0, none⟩ = some (.bool true) := by rw [(HR2.out.below hba).blk.cell]; rfl
  have d1 : W1.cell? ⟨g2, 1, none⟩ = some (.int .i64 (e : Int)) := by rw [(HR2.out.below hba).blk.cell]; rfl
  have r0 : W1.cell? ⟨w.heap.size, 0, none⟩ = some (.pointer (some ⟨g, 0, none⟩)) := by rw [BR.cell]; rfl
  refine (made_is _ _ c0).mono ?_
  rintro r w' ⟨rfl, rfl⟩
  go_wp2_with (go_at_call 29; refine (made_is _ _ d0).mono ?_; rintro e w' ⟨rfl, rfl⟩)
  go_quiet (fail)
  have hbd : Below W1.heap.size W1 (W1.drewN nq) := below_drewN (Below.refl _ _) nq
  have B2' := hba.trans (hbd.mono hba.size)
  have BR2 := BR.drewN nq
  clear c0 c2 d0 d1 r0 BR hba hbd
  revert B2' BR2
  generalize W1.drewN nq = W2
  intro B2' BR2
  go_wp2_with fail
  refine (all_any _ _).mono ?_
  rintro r W5 ⟨rfl, rfl⟩
  have hbB : Below W2.heap.size W2 (W2.alloc (.cells #[.pointer (some ⟨g2, 0, none⟩)] 23)) := (Below.refl _ _).alloc (Nat.le_refl _) _
  have BX : Blk (W2.alloc (.cells #[.pointer (some ⟨g2, 0, none⟩)] 23)) W2.heap.size 23 [.pointer (some ⟨g2, 0, none⟩)] := Blk.made _ _ _
  have B5 := B2'.trans (hbB.mono B2'.size)
  have BR5 := BR2.below hbB BR2.lt
  clear B2' BR2 hbB
  revert B5 BR5 BX
  generalize W2.alloc (.cells #[.pointer (some ⟨g2, 0, none⟩)] 23) = W5
  generalize W2.heap.size = bx
  intro BX B5 BR5
  have HR5 := hide (HR.out.below B5)
  have HR25 := hide (HR2.out.below B5)
  have hws := B5.size
  have hg5 : g < W5.heap.size := HR5.out.blk.lt
  have HI0 : Hid (MI w W5 B g b e e2 v ps qs [] e v ps) := hide ⟨HR5.out, (Chs.refl _ _).thenBelow B5, Moved.refl _ _, BR5, fun _ _ => ⟨by rw [List.length_nil, pbeg_zero], rfl⟩⟩
  clear B5 BR5
  go_wp2_with fail
  refine (wpIn_wide (n := 3)).1 ?_
  refine range2 rfl (by decide) (gf := 41) (lb := #[.pointer (some ⟨bx, 0, none⟩)]) rfl trivial (enters_of Tryd.func41 (by kernel_rfl) rfl)
    (all_stops _ g2 e e2 v2 qs bx W5.heap.size W5 BX.lt (Nat.le_refl _) (by rw [BX.cell]; rfl) HR25.out _ (Mine.range hg5) (Fresh.range HR5.out)) KM.trans (KM.book (Mine.range hg5) (Nat.le_refl _)) (fun A B h hb => km_below (Mine.range hg5) h hb) (fun _ => rfl)
    (fun pre W => (∃ E v' ps', MI w W B g b e e2 v ps qs pre E v' ps') ∧ W5.heap.size ≤ W.heap.size) (fun _ _ _ => False)
    (fun _ A C row h hg hr => by
      obtain ⟨⟨E, v', ps', h1⟩, h2⟩ := h
      exact ⟨⟨E, v', ps', h1.kept hg (fun r e => ⟨by have := (hr r e).1; omega, (hr r e).2⟩)⟩, Nat.le_trans h2 hg.size⟩)
    (fun _ _ h => h.2) (fun c _ A B row h hg hr => h)
    ⟨⟨e, v, ps, HI0.out⟩, Nat.le_refl _⟩ 67 34 (fun x => nC (pG qs x).1) (fun x => u8s (pG qs x).2) ?act ?assign ?body ?done ?stop
  case assign =>
    rintro l x W K hK
    have hsem := Oper.semAt_some
    have HLx := hide (show (u8s (pG qs x).2).length = 32 by rw [u8s_length, (pG_good HR25.out.good x).len])
    gi_wp2_with (refine istep_alloc (.round l) zNd rfl ?_)
    intro V1 g9 hg9 hle9 hb9
    gi_wp2_with (refine istep_storeA (.round l) wNd rfl rfl rfl hg9 rfl (One.nC _) rfl ?_)
    intro V2 hg92 hbut9
    gi_wp2_with (refine istep_alloc (.round l) zD rfl ?_)
    intro V3 g10 hg10 hle10 hb10
    gi_wp2_with (refine istep_storeA (.round l) wD rfl rfl rfl hg10 HLx.out (One.u8 _) rfl ?_)
    intro V4 hg104 hbut10
    have hb92 : Below W.heap.size W V2 := hb9.trans (hbut9.below hle9)
    have hb104 : Below V2.heap.size V2 V4 := hb10.trans (hbut10.below hle10)
    have hK2 := hK g9 g10 V4 (hb92.trans (hb104.mono hb92.size)) (hg92.below hb104 hg92.lt) hg104
    clear hK
    gi_wp2
    exact hK2
  case stop =>
    rintro D c pre W hD hSp h hK
    exact h.elim
  case body =>
    rintro l pre x g9 g10 W ⟨⟨E, v', ps', hI⟩, hsz⟩ hg9 hg10 hlt
    have hsem := Oper.semAt_some
    have HPx := hide (pG_good HR25.out.good x)
    have HLx := hide (show (u8s (pG qs x).2).length = 32 by rw [u8s_length, HPx.out.len])
    have HI := hide hI
    have HG10 := hide hg10
    have n0 : W.cell? ⟨g9, 0, none⟩ = some (.int .i64 ((pG qs x).1.1 : Int)) := by rw [hg9.cell]; rfl
    have r0 : W.cell? ⟨w.heap.size, 0, none⟩ = some (.pointer (some ⟨g, 0, none⟩)) := by rw [hI.br.cell]; rfl
    have HKW := hide (HK.out.chs hI.chs (HR.out.not_table hkg hkB))
    have hBW : B ≤ W.heap.size := Nat.le_trans hB hI.chs.size
    clear hI hg9 hg10
    gi_wp2_with (refine istep_loadA (.round l) wD rfl rfl HG10.out HLx.out ?_)
    refine ⟨trivial, (calls_round (.round l) (appN_any B g b E _ v' ps' (pG qs x).2 W HI.out.rg hBW HKW.out hkg hkB HPx.out.len HPx.out.byte)).mono ?_⟩
    rintro r V1 ⟨E1, v1, ps1, rfl, hr1, hc1, hm1, hbad, hok⟩
    have HR1 := hide hr1
    have HC1 := hide hc1
    have HM1 := hide hm1
    have HOK := hide hok
    clear n0 r0 hr1 hc1 hm1 hbad hok
    gi_wp2
    have br : Blk V1 w.heap.size 23 [.pointer (some ⟨g, 0, none⟩)] := HI.out.br.chs HC1.out (by
      rintro (e1 | e1)
      · exact (HI.out.rg.blk.apart HI.out.br (by decide)) e1.symm
      · exact (HI.out.rg.own.apart HI.out.br (by decide)) e1)
    refine ⟨(keepsO_rg HI.out.rg HC1.out).from _, km_range HI.out.rg HR1.out HC1.out HM1.out, ⟨E1, v1, ps1, HR1.out, HI.out.chs.step HI.out.mv HC1.out, HI.out.mv.step HM1.out HI.out.chs.size, br, ?_⟩, Nat.le_trans hsz HC1.out.size⟩
    intro hp hl
    rw [List.length_append, List.length_singleton] at hp hl ⊢
    rw [List.range_succ] at hp
    obtain ⟨hp1, hp2⟩ := List.append_inj' hp rfl
    have hxk : x = pre.length := by injection hp2
    obtain ⟨hE, hps⟩ := HI.out.ok hp1 (by omega)
    rw [hxk] at HOK
    have ms := merge_step (ps' := ps') HR2.out.le HR2.out.max HR2.out.nodes hlt hE
    obtain ⟨h1, h2⟩ := HOK.out ms.1
    rw [Int.toNat_natCast] at h1 h2
    refine ⟨by rw [h1]; exact ms.2.1, ?_⟩
    rw [h2, ms.2.2, pG_at hlt, List.foldl_append, ← hps]
    rfl
  case done =>
    rintro D ys W hD rfl ⟨⟨E, v', ps', hI⟩, hsz⟩ hKd
    obtain ⟨e1, e2'⟩ := hI.ok (by rw [List.length_range]) (by rw [List.length_range]; exact Nat.le_refl _)
    rw [List.length_range] at e1 e2'
    have hN : qs.length = (parts e e2).length := by rw [← HR2.out.nodes, List.length_map]
    rw [hN, pbeg_end HR2.out.le HR2.out.max] at e1
    rw [List.take_length] at e2'
    subst e1 e2'
    have HI := hide hI
    have HKd := hide hKd
    clear hI hKd hN
    go_wp2
    refine ⟨by simp, .inl ⟨_, _, rfl, run_takeDeferred HKd.out, ?_⟩⟩
    have hk := HI.out.kept (grownBy_putObj' _ D (.deferred none)) (fun r e => by cases e; exact ⟨by omega, _, HKd.out, rfl⟩)
    refine ⟨_, ?_, v', rfl, hk.rg, hk.chs, hk.mv⟩
    simp [results, Tryd.f16, go_sem]

end Go.Proofs.YthgfbcndoedacaaDoor

/-
  A range's bytes.
-/
namespace Go.Proofs.YthgfbcndoedacaaDoor
open Go.RowKit Go.Shelf
set_option linter.unusedVariables false

/-- The bytes of a range. -/
def rgB (b e : Nat) (ps : List Pt) : List Int := be (b : Int) 8 ++ (be (e : Int) 8 ++ ps.flatMap Prod.snd)
/-- Its beginning, with the digests of some parts. -/
def rgP (b e : Nat) (ps : List Pt) (pre : List Nat) : List Int := be (b : Int) 8 ++ (be (e : Int) 8 ++ pre.flatMap fun j => (pG ps j).2)
theorem rgP_nil (b e : Nat) (ps : List Pt) : rgP b e ps [] = be (b : Int) 8 ++ be (e : Int) 8 := by simp [rgP]
theorem rgP_snoc (b e : Nat) (ps : List Pt) (pre : List Nat) (j : Nat) : rgP b e ps (pre ++ [j]) = rgP b e ps pre ++ (pG ps j).2 := by simp [rgP, List.flatMap_append]
theorem rgP_all (b e : Nat) (ps : List Pt) : rgP b e ps (List.range ps.length) = rgB b e ps := by
  unfold rgP rgB
  congr 2
  have h : ∀ k, k ≤ ps.length → (List.range k).flatMap (fun j => (pG ps j).2) = (ps.take k).flatMap Prod.snd := by
    intro k
    induction k with
    | zero => intro _; rfl
    | succ k ih =>
      intro hk
      rw [List.range_succ, List.flatMap_append, ih (by omega), List.take_succ_eq_append_getElem (by omega), List.flatMap_append]
      congr 1
      simp only [List.flatMap_cons, List.flatMap_nil, List.append_nil]
      unfold pG
      rw [if_pos (by omega)]
      simp only [pAt, List.getD]
      rw [List.getElem?_eq_getElem (by omega)]
      rfl
  rw [h _ (Nat.le_refl _), List.take_length]
theorem rgP_good (b e : Nat) {ps : List Pt} (h : GoodL ps) (pre : List Nat) : (rgP b e ps pre).length = 16 + 32 * pre.length ∧ isB (rgP b e ps pre) := by
  have key : (pre.flatMap fun j => (pG ps j).2).length = 32 * pre.length ∧ isB (pre.flatMap fun j => (pG ps j).2) := by
    induction pre with
    | nil => exact ⟨rfl, fun x hx => by simp at hx⟩
    | cons j pre ih =>
      have hg := pG_good h j
      refine ⟨?_, ?_⟩
      · rw [List.flatMap_cons, List.length_append, ih.1, hg.len, List.length_cons]; omega
      · rw [List.flatMap_cons]; exact hg.byte.append ih.2
  refine ⟨?_, ?_⟩
  · unfold rgP
    rw [List.length_append, List.length_append, be_length, be_length, key.1]
    omega
  · exact (be_isB _ _).append ((be_isB _ _).append key.2)

/-- What Bytes' loop keeps. -/
structure BI (w W : World) (gv : Nat) (xs : List Int) : Prop where
  ex : ∃ gb, Blk W gv 45 [.slice (some ⟨gb, 0, none⟩) xs.length xs.length] ∧ Blk W gb 5 (u8s xs) ∧ w.heap.size ≤ gb
  bel : Below w.heap.size w W
theorem BI.below {w W W' : World} {gv : Nat} {xs : List Int} (h : BI w W gv xs) (hb : Below W.heap.size W W') : BI w W' gv xs := by
  obtain ⟨gb, h1, h2, h3⟩ := h.ex
  exact ⟨⟨gb, h1.below hb h1.lt, h2.below hb h2.lt, h3⟩, h.bel.trans (hb.mono h.bel.size)⟩
theorem BI.kept {w A B : World} {gv : Nat} {xs : List Int} {row : Option Nat} (h : BI w A gv xs) (hg : A.grownBy B row) (hr : ∀ r, row = some r → w.heap.size ≤ r ∧ ∃ o : Obj, A.heap[r]? = some o ∧ o.isCells = false) : BI w B gv xs := by
  obtain ⟨gb, h1, h2, h3⟩ := h.ex
  exact ⟨⟨gb, h1.kept hg (fun r e => (hr r e).2), h2.kept hg (fun r e => (hr r e).2), h3⟩, h.bel.grown hg h.bel.size (fun r e => (hr r e).1)⟩

set_option maxRecDepth 100000 in
set_option maxHeartbeats 1000000 in
theorem rbytes_any (B g b e : Nat) (v : Value) (ps : List Pt) (w : World) (hr : Rg w B g b e v ps) :
    Calls Tryd.prog 25 #[.pointer (some ⟨g, 0, none⟩)] w fun r w' => ∃ gb, r = .returned (.slice (some ⟨gb, 0, none⟩) (rgB b e ps).length (rgB b e ps).length) ∧ Blk w' gb 5 (u8s (rgB b e ps)) ∧ w.heap.size ≤ gb ∧ Below w.heap.size w w' := by
  have HR := hide hr
  have c0 : w.cell? ⟨g, 0, none⟩ = some (.bool true) := by rw [hr.blk.cell]; rfl
  have c1 : w.cell? ⟨g, 1, none⟩ = some (.int .i64 (b : Int)) := by rw [hr.blk.cell]; rfl
  have hle := hr.le
  have hmax := hr.max
  have hcnt := hr.count
  have hwb : IntKind.u64.wrap (b : Int) = (b : Int) := by rw [IntKind.wrap_u64]; omega
  have hwe : IntKind.u64.wrap (e : Int) = (e : Int) := by rw [IntKind.wrap_u64]; omega
  clear hr
  refine (callsIn_wide (n := 3)).1 ?_
  refine callsIn_of_wp_marks Tryd.func25 rfl trivial ?_ rfl
  refine wpIn_wide.2 ?_
  simp only [Tryd.ntmps25, List.size_toArray, List.length_cons, List.length_nil, Nat.reduceAdd, Nat.reduceSub, Array.replicate_succ, Array.replicate_zero, List.push_toArray, List.append_toArray, List.nil_append, List.cons_append]
  go_wp2_with (go_at_call 29; refine (made_is _ _ c0).mono ?_; rintro e w' ⟨rfl, rfl⟩)
  refine (putUint64_any none 0 0 [] _ _ (Sl.none0 _) (by omega) (by omega)).mono ?_
  rintro r w1 ⟨g1, rfl, hg1, hb1, hbl1⟩
  have c2 : w1.cell? ⟨g, 2, none⟩ = some (.int .i64 (e : Int)) := by rw [(HR.out.below hbl1).blk.cell]; rfl
  go_wp2_with fail
  have BV : Blk (w1.alloc (.cells #[.slice (some ⟨g1, 0, none⟩) 8 8] 45)) w1.heap.size 45 [.slice (some ⟨g1, 0, none⟩) 8 8] := Blk.made _ _ _
  have hba : Below w1.heap.size w1 (w1.alloc (.cells #[.slice (some ⟨g1, 0, none⟩) 8 8] 45)) := (Below.refl _ _).alloc (Nat.le_refl _) _
  have hgv : w.heap.size ≤ w1.heap.size := hbl1.size
  have B2 := hbl1.trans (hba.mono hbl1.size)
  have HG1 := hide (hb1.below hba hb1.lt)
  revert BV B2 HG1 hgv
  generalize w1.alloc (.cells #[.slice (some ⟨g1, 0, none⟩) 8 8] 45) = W2
  generalize w1.heap.size = gv
  intro BV hgv B2 HG1
  refine wp_region_noPanic ?_
  have bd := (Below.refl W2.heap.size W2).drew
  have HB2 := hide (B2.trans (bd.mono B2.size))
  have HV2 := hide (BV.below bd BV.lt)
  have HG2 := hide (HG1.out.below bd HG1.out.lt)
  clear BV hba hb1 hbl1 c0 c1 c2 B2 bd HG1
  have HS1 : ∀ V : World, Below w.heap.size w V → V.cell? ⟨g, 2, none⟩ = some (.int .i64 (e : Int)) := fun V h => by rw [(HR.out.below h).blk.cell]; rfl
  refine wp_region_held_drew (S := fun V : World => V.cell? ⟨g, 2, none⟩ = some (.int .i64 (e : Int))) (by kernel_rfl) (HS1 _ HB2.out) (fun hHeld => ?_)
  refine takeH 1 17 (.pointer (some ⟨g, 0, none⟩)) hHeld rfl rfl (by kernel_rfl) (by kernel_rfl) (by kernel_rfl) (fun _ _ _ h => h) (Or.inl ⟨by rfl, fun w _ => by go_simp⟩) ?_
  simp only [Act.put, List.setIfInBounds_toArray, List.set_cons_zero, List.set_cons_succ]
  refine takeH 2 18 (.pointer (some ⟨g, 0, none⟩)) hHeld rfl rfl (by kernel_rfl) (by kernel_rfl) (by kernel_rfl) (fun _ _ _ h => h) (Or.inl ⟨by rfl, fun w _ => by go_simp⟩) ?_
  simp only [Act.put, List.setIfInBounds_toArray, List.set_cons_zero, List.set_cons_succ]
  refine takeH 3 19 (.pointer (some ⟨g, 1, none⟩)) hHeld rfl rfl (by kernel_rfl) (by kernel_rfl) (by kernel_rfl) (fun _ _ _ h => h) (Or.inl ⟨by rfl, fun w _ => by go_simp⟩) ?_
  simp only [Act.put, List.setIfInBounds_toArray, List.set_cons_zero, List.set_cons_succ]
  refine takeH 4 20 (.pointer (some ⟨g, 2, none⟩)) hHeld rfl rfl (by kernel_rfl) (by kernel_rfl) (by kernel_rfl) (fun _ _ _ h => h) (Or.inl ⟨by rfl, fun w _ => by go_simp⟩) ?_
  simp only [Act.put, List.setIfInBounds_toArray, List.set_cons_zero, List.set_cons_succ]
  refine takeH 5 21 (.int .i64 (e : Int)) hHeld rfl rfl (by kernel_rfl) (by kernel_rfl) (by kernel_rfl) (fun _ _ _ h => h) (Or.inl ⟨by rfl, fun w hw => by have hw' : w.cell? ⟨g, 2, none⟩ = some (.int .i64 (e : Int)) := (fun h => h) hw; go_simp⟩) ?_
  simp only [Act.put, List.setIfInBounds_toArray, List.set_cons_zero, List.set_cons_succ]
  refine takeH 6 22 (.int .u64 (e : Int)) hHeld rfl rfl (by kernel_rfl) (by kernel_rfl) (by kernel_rfl) (fun _ _ _ h => h) (Or.inl ⟨by rfl, fun w _ => by go_simp⟩) ?_
  simp only [Act.put, List.setIfInBounds_toArray, List.set_cons_zero, List.set_cons_succ]
  have cv : W2.drew.cell? ⟨gv, 0, none⟩ = some (.slice (some ⟨g1, 0, none⟩) 8 8) := by rw [HV2.out.cell]; rfl
  refine wpAnyH_ready (rs := [0]) (by kernel_rfl) (by simp) (AllReadyH.cons rfl (fun K hK => ?_) AllReadyH.nil)
  rw [if_pos (by rfl)]
  go_simp
  refine hK.out _ _ ((HS1 _ HB2.out)) (fun hHeld => ?_)
  clear hK K
  clear cv
  refine wpAnyH_ready (rs := [7]) (by kernel_rfl) (by simp) (AllReadyH.cons rfl (fun K hK => ?_) AllReadyH.nil)
  rw [if_pos (by rfl)]
  go_simp
  refine (putUint64_any (some ⟨g1, 0, none⟩) 8 8 (be (b : Int) 8) (e : Int) _ (HG2.out.sl 0 8 (be (b : Int) 8) (by rw [List.drop_zero, List.take_of_length_le (by simp [u8s_length])]; rfl) (be_isB _ _) (by rw [be_length]; omega) (by rw [be_length]; omega) (by omega)) (by omega) (by omega)).mono ?_
  rintro r W3 ⟨g3, rfl, hg3, hb3, hbl3⟩
  have HB3 := hide (HB2.out.trans (hbl3.mono HB2.out.size))
  have HV3 := hide (HV2.out.below hbl3 HV2.out.lt)
  have HG3 := hide hb3
  refine hK.out _ _ ((HS1 _ HB3.out)) (fun hHeld => ?_)
  clear hK K
  have cv : W3.cell? ⟨gv, 0, none⟩ = some (.slice (some ⟨g1, 0, none⟩) 8 8) := by rw [HV3.out.cell]; rfl
  have fv : W3.frozen? ⟨gv, 0, none⟩ = false := HV3.out.free 0
  refine wpAnyH_ready (rs := [8]) (by kernel_rfl) (by simp) (AllReadyH.cons rfl (fun K hK => ?_) AllReadyH.nil)
  rw [if_pos (by rfl)]
  go_simp
  have hbut := But.setCell W3 gv 0 (.slice (some ⟨g3, 0, none⟩) 16 16)
  have hgg : g3 ≠ gv := HG3.out.apart HV3.out (by decide)
  have HB4 := hide (HB3.out.trans (hbut.below hgv))
  have I4 : Hid (BI w (W3.setCell ⟨gv, 0, none⟩ (.slice (some ⟨g3, 0, none⟩) 16 16)) gv (rgP b e ps [])) := hide ⟨⟨g3, by
    rw [(rgP_good b e HR.out.good []).1]
    exact HV3.out.set 0 _, by rw [rgP_nil]; exact HG3.out.but hbut hgg, Nat.le_trans HB2.out.size hg3⟩, HB4.out⟩
  refine hK.out _ _ ((HS1 _ HB4.out)) (fun hHeld => ?_)
  clear hK K
  refine wpAnyH_done (by kernel_rfl) ?_ _
  refine NoPanic.normal ?_
  clear hHeld cv fv hbut HG3 HV3 HB3 HG2 HV2 HB2 hb3 hbl3
  revert HB4 I4
  generalize W3.setCell ⟨gv, 0, none⟩ (.slice (some ⟨g3, 0, none⟩) 16 16) = W4
  intro HB4 I4
  go_wp2_with fail
  refine (all_any _ _).mono ?_
  rintro r W5 ⟨rfl, rfl⟩
  have hbB : Below W4.heap.size W4 (W4.alloc (.cells #[.pointer (some ⟨g, 0, none⟩)] 23)) := (Below.refl _ _).alloc (Nat.le_refl _) _
  have BX : Blk (W4.alloc (.cells #[.pointer (some ⟨g, 0, none⟩)] 23)) W4.heap.size 23 [.pointer (some ⟨g, 0, none⟩)] := Blk.made _ _ _
  have I5 := I4.out.below hbB
  have R5 := HR.out.below I5.bel
  clear HB4 I4
  revert I5 R5 BX hbB
  generalize W4.alloc (.cells #[.pointer (some ⟨g, 0, none⟩)] 23) = W5
  generalize W4.heap.size = bx
  intro hbB BX I5 R5
  have HI5 := hide I5
  have HR5 := hide R5
  have hws := I5.bel.size
  have hgv5 : gv < W5.heap.size := by obtain ⟨_, h1, _⟩ := I5.ex; exact h1.lt
  clear I5 R5 hbB
  go_wp2_with fail
  refine (wpIn_wide (n := 3)).1 ?_
  refine range1 rfl (by decide) (gf := 41) (lb := #[.pointer (some ⟨bx, 0, none⟩)]) rfl trivial (enters_of Tryd.func41 (by kernel_rfl) rfl)
    (all_stops _ g b e v ps bx W5.heap.size W5 BX.lt (Nat.le_refl _) (by rw [BX.cell]; rfl) HR5.out _ (Mine.one hgv5) (Fresh.one hgv5)) KM.trans (KM.book (Mine.one hgv5) (Nat.le_refl _)) (fun A B h hb => km_below (Mine.one hgv5) h hb) (fun _ => rfl)
    (fun pre W => BI w W gv (rgP b e ps pre) ∧ W5.heap.size ≤ W.heap.size) (fun _ _ _ => False)
    (fun _ A B row h hg hr => ⟨h.1.kept hg (fun r e => ⟨by have := (hr r e).1; omega, (hr r e).2⟩), Nat.le_trans h.2 hg.size⟩)
    (fun _ _ h => h.2) (fun c _ A B row h hg hr => h)
    ⟨HI5.out, Nat.le_refl _⟩ 34 (fun x => u8s (pG ps x).2) ?act ?assign ?body ?done ?stop
  case assign =>
    rintro l x W K hK
    have hsem := Oper.semAt_some
    have HLx := hide (show (u8s (pG ps x).2).length = 32 by rw [u8s_length, (pG_good HR5.out.good x).len])
    gi_wp2_with (refine istep_alloc (.round l) zD rfl ?_)
    intro V3 g10 hg10 hle10 hb10
    gi_wp2_with (refine istep_storeA (.round l) wD rfl rfl rfl hg10 HLx.out (One.u8 _) rfl ?_)
    intro V4 hg104 hbut10
    have hK2 := hK g10 V4 (hb10.trans (hbut10.below hle10)) hg104
    clear hK
    gi_wp2
    exact hK2
  case stop =>
    rintro D c pre W hD hSp h hK
    exact h.elim
  case body =>
    rintro l pre x g6 W ⟨hI, hsz⟩ hg6 hlt
    have hsem := Oper.semAt_some
    obtain ⟨gb, hv1, hb1, hgb⟩ := hI.ex
    obtain ⟨hl1, hbb⟩ := rgP_good b e HR5.out.good pre
    have HPx := hide (pG_good HR5.out.good x)
    have HLx := hide (show (u8s (pG ps x).2).length = 32 by rw [u8s_length, HPx.out.len])
    obtain ⟨m, HM⟩ : ∃ m, Hid ((rgP b e ps pre).length = m) := ⟨_, hide rfl⟩
    have hm : m ≤ 140737488355328 := by have h1 := HM.out; have h2 := HR5.out.count; omega
    have HSL := hide (hb1.sl 0 m (rgP b e ps pre) (by rw [List.drop_zero, List.take_of_length_le (by rw [u8s_length]; exact Nat.le_refl _)]) hbb (by rw [HM.out]; omega) (by rw [HM.out]; omega) (by omega))
    rw [HM.out] at hv1 HSL
    have cv : W.cell? ⟨gv, 0, none⟩ = some (.slice (some ⟨gb, 0, none⟩) m m) := by rw [hv1.cell]; rfl
    have HV1 := hide hv1
    have HG6 := hide hg6
    have HIb := hide hI.bel
    clear hI hv1 hb1 hg6 hl1 hbb
    gi_wp2_with (refine istep_loadA (.round l) wD rfl rfl HG6.out HLx.out ?_)
    refine ⟨trivial, (calls_round (.round l) (putDigest_any (some ⟨gb, 0, none⟩) m m (rgP b e ps pre) (pG ps x).2 _ HSL.out HPx.out.len HPx.out.byte)).mono ?_⟩
    rintro r V1 ⟨g7, rfl, hg7, hb7, hbl7⟩
    have HV7 := hide (HV1.out.below hbl7 HV1.out.lt)
    have cv7 : V1.cell? ⟨gv, 0, none⟩ = some (.slice (some ⟨gb, 0, none⟩) m m) := by rw [HV7.out.cell]; rfl
    have fv7 : V1.frozen? ⟨gv, 0, none⟩ = false := HV7.out.free 0
    clear cv
    gi_wp2
    have hbut := But.setCell V1 gv 0 (.slice (some ⟨g7, 0, none⟩) (m + 32) (m + 32))
    have hgg7 : g7 ≠ gv := hb7.apart HV7.out (by decide)
    refine ⟨((keepsO_below hbl7).trans (keepsO_but hbut HV7.out)).from _, KM.trans (km_below (Mine.one hgv5) hsz hbl7) (km_one hbut HV7.out.lt), ⟨⟨g7, ?_, ?_, ?_⟩, ?_⟩, ?_⟩
    · rw [rgP_snoc, List.length_append, HM.out, HPx.out.len]
      exact HV7.out.set 0 _
    · rw [rgP_snoc]
      exact hb7.but hbut hgg7
    · exact Nat.le_trans HIb.out.size hg7
    · exact (HIb.out.trans (hbl7.mono HIb.out.size)).trans (hbut.below hgv)
    · rw [hbut.size]; exact Nat.le_trans hsz hbl7.size
  case done =>
    rintro D ys W hD rfl ⟨hI, hsz⟩ hKd
    rw [rgP_all] at hI
    obtain ⟨gb, hv1, hb1, hgb⟩ := hI.ex
    have cv : W.cell? ⟨gv, 0, none⟩ = some (.slice (some ⟨gb, 0, none⟩) (rgB b e ps).length (rgB b e ps).length) := by rw [hv1.cell]; rfl
    have HKd := hide hKd
    have HB1 := hide hb1
    have HBel := hide hI.bel
    clear hKd hI hv1 hb1
    go_wp2
    have BA := HBel.out.trans (belowK_b (w := w) (Nat.le_refl _) _ D _ (.deferred none) (by omega) HKd.out rfl rfl)
    have hgF := HB1.out.kept (grownBy_putObj' _ D (.deferred none)) (fun r e => by cases e; exact ⟨_, HKd.out, rfl⟩)
    refine ⟨by simp, .inl ⟨_, _, rfl, run_takeDeferred HKd.out, ?_⟩⟩
    refine ⟨_, ?_, gb, rfl, hgF, hgb, BA⟩
    simp [results, Tryd.f25, go_sem]

end Go.Proofs.YthgfbcndoedacaaDoor
