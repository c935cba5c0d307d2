/-
  Tiles as structs; where a node is: the program's Of and the document's.
-/
import Derived.Test.YtnlpgkfmjlljdaaDoorTb
import Derived.Test.YtnlpgkfmjlljdaaDoorNv
namespace Go.Proofs.YtnlpgkfmjlljdaaDoor
open Go.RowKit
set_option linter.unusedVariables false

/-- The cells of a tile. -/
def c4 (h l i n : Int) : List Value := [.int .i64 h, .int .i64 l, .int .i64 i, .int .i64 n]
theorem One.c4 (h l i n : Int) : One (c4 h l i n) := by intro v hv; simp [Go.Proofs.YtnlpgkfmjlljdaaDoor.c4] at hv; rcases hv with rfl | rfl | rfl | rfl <;> rfl
theorem zT : Zeroed 23 (c4 0 0 0 0) := fun _ _ _ _ _ _ _ => by kernel_rfl
theorem wT : Wide 23 4 := ⟨by kernel_rfl, by kernel_rfl⟩
theorem Blk.four {w : World} {g : Nat} {t : TypeId} {h l i n : Int} (k : Blk w g t (c4 h l i n)) : w.cell? ⟨g, 0, none⟩ = some (.int .i64 h) ∧ w.cell? ⟨g, 1, none⟩ = some (.int .i64 l) ∧ w.cell? ⟨g, 2, none⟩ = some (.int .i64 i) ∧ w.cell? ⟨g, 3, none⟩ = some (.int .i64 n) :=
  ⟨by rw [k.cell]; rfl, by rw [k.cell]; rfl, by rw [k.cell]; rfl, by rw [k.cell]; rfl⟩

theorem wrap_nat (n : Nat) (h : n ≤ 281474976710656) : IntKind.i64.wrap (n : Int) = (n : Int) := wrap_in _ (by omega) (by omega)
/-- Where a node's digests lie: the first of them on its tile's level; in its tile; behind them. -/
def oA (h L I : Nat) : Nat := I * 2 ^ (L % h)
def oF (h L I : Nat) : Nat := oA h L I % 2 ^ h
def oT (h L I : Nat) : Nat := oF h L I + 2 ^ (L % h)
def oX (h L I : Nat) : Nat := oA h L I / 2 ^ h
theorem of_facts {h L I : Nat} (hh : isH h) (hL : L ≤ 48) (hI : (I : Int) < 281474976710656 / 2 ^ L) :
    ∃ r R A P F : Nat, L % h = r ∧ 2 ^ r = R ∧ 2 ^ h = P ∧ oA h L I = A ∧ oF h L I = F ∧ oT h L I = F + R ∧ oX h L I = A / P ∧ r ≤ 7 ∧ R ≤ 128 ∧ 1 ≤ R ∧ A ≤ 281474976710656 ∧ F < P ∧
      (L : Int) % (h : Int) = (r : Int) ∧ (I : Int) * 2 ^ r = (A : Int) ∧ (A : Int) % (P : Int) = (F : Int) ∧ (A : Int) / 2 ^ h = ((A / P : Nat) : Int) ∧ (A : Int) / (P : Int) = ((A / P : Nat) : Int) ∧ wrap64 (2 ^ r) = (R : Int) ∧ (L : Int) / (h : Int) = ((L / h : Nat) : Int) ∧ ((L : Int) ≤ 48 ∧ (r : Int) ≤ 7 ∧ (A : Int) ≤ 281474976710656 ∧ (F : Int) < (P : Int) ∧ (R : Int) ≤ 128 ∧ A / P ≤ 281474976710656 ∧ L / h ≤ 48 ∧ I < 281474976710656) := by
  have hb := leaf_bd hL hI
  have hr : L % h ≤ 7 := by have := Nat.mod_lt L (show 0 < h by have := hh.1; omega); have := hh.2; omega
  have hR := Nat.pow_le_pow_right (n := 2) (by decide) hr
  have hA : I * 2 ^ (L % h) ≤ 281474976710656 := by
    have h1 : 2 ^ (L % h) ≤ 2 ^ L := Nat.pow_le_pow_right (by decide) (Nat.mod_le _ _)
    have h2 := Nat.mul_le_mul_left I h1
    have h3 := hb.1
    generalize I * 2 ^ (L % h) = x at *
    generalize I * 2 ^ L = y at *
    generalize 2 ^ L = z at *
    exact Nat.le_trans h2 (Nat.le_trans (Nat.le_add_right _ _) h3)
  refine ⟨L % h, 2 ^ (L % h), oA h L I, 2 ^ h, oF h L I, rfl, rfl, rfl, rfl, rfl, rfl, rfl, hr, hR, Nat.two_pow_pos _, hA, Nat.mod_lt _ (Nat.two_pow_pos _), ?_, ?_, ?_, ?_, ?_, ?_, ?_, Int.ofNat_le.2 hL, Int.ofNat_le.2 hr, Int.ofNat_le.2 hA, Int.ofNat_lt.2 (Nat.mod_lt _ (Nat.two_pow_pos _)), Int.ofNat_le.2 hR, Nat.le_trans (Nat.div_le_self _ _) hA, Nat.le_trans (Nat.div_le_self _ _) hL, hb.2⟩
  · rw [Int.natCast_emod]
  · unfold oA; rw [Int.natCast_mul, Int.natCast_pow]; rfl
  · unfold oF; rw [Int.natCast_emod]
  · exact pow_int _ _
  · rw [Int.natCast_ediv]
  · have e : ((2 : Int) ^ (L % h)) = ((2 ^ (L % h) : Nat) : Int) := by simp [Int.natCast_pow]
    have h0 := Nat.two_pow_pos (L % h)
    rw [e]
    generalize 2 ^ (L % h) = x at *
    exact w64 _ (by omega) (by omega)
  · rw [Int.natCast_ediv]
theorem results_w4 {fn : Func} {p u v x : Tmp} {T : TypeId} (h : fn.results = #[.cell p T, .tmp u, .tmp v, .tmp x]) {n : Nat} (hT : Wide T n) (tmps : Array Value) (w : World)
    {g : Nat} {t : TypeId} {cs : List Value} (hp : tmps.getD p undef = .pointer (some ⟨g, 0, none⟩)) (hg : Blk w g t cs) (hl : cs.length = n) :
    (results fn tmps).run Tryd.prog w = .ok (.tuple #[.agg cs.toArray, tmps.getD u undef, tmps.getD v undef, tmps.getD x undef]) w := by
  have hp' : tmps[p]?.getD undef = .pointer (some ⟨g, 0, none⟩) := by simpa using hp
  obtain ⟨d, hu, hd⟩ := hT.und
  simp [results, h, hp', asAddr, run_loadVar_mid w g 0 T cs d (hg.range 0 cs (by simp)) hu hd (by rw [hT.size, hl])]
/-- What Of tells of a node that may be. -/
def oV (h L I : Nat) : Value := .tuple #[.agg (c4 (h : Int) (L / h : Nat) (oX h L I : Nat) (oT h L I : Nat)).toArray, .int .i64 (oF h L I : Nat), .int .i64 (oT h L I : Nat), .int .i64 0]
def oN : Value := .tuple #[.agg (c4 0 0 0 0).toArray, .int .i64 0, .int .i64 0, .int .i64 2]
set_option maxRecDepth 100000 in
set_option maxHeartbeats 1000000 in
theorem of_no1 (h l i : Int) (w : World) (hh : h < 1 ∨ 8 < h) : Calls Tryd.prog 27 #[.int .i64 h, .agg (c2 l i).toArray] w fun r w' => r = .returned oN ∧ Below w.heap.size w w' := by
  go_enter Tryd.func27, Tryd.ntmps27
  go_wp2_with (first | (refine step_box (cs := c2 l i) rfl rfl ?_; intro w1 g1 hg1 hle1 hb1; have HG1 := hide hg1; clear hg1) | (refine step_alloc zT rfl ?_; intro w2 g2 hg2 hle2 hb2; have HG2 := hide hg2; clear hg2) | (go_at_call 41; refine (isHeight_no h _ hh).mono ?_; rintro r w' ⟨rfl, rfl⟩; have HG3 := hide (HG1.out.on hb2)) | (refine step_loadA wN rfl rfl HG3.out rfl ?_)  | (refine step_storeA wT rfl rfl rfl HG2.out rfl (One.c4 0 0 0 0) rfl ?_; intro w4 hg4 hbut4))
  refine bodyPost_ret (results_w4 rfl wT _ _ rfl hg4 rfl) rfl ⟨rfl, ?_⟩
  exact (hb1.trans (hb2.mono hb1.size)).trans (hbut4.below (Nat.le_trans hb1.size hle2))
set_option maxRecDepth 100000 in
set_option maxHeartbeats 1000000 in
theorem ofR_no1 (h l i : Int) (w : World) (hh : h < 1 ∨ 8 < h) : Calls Tryd.prog 32 #[.int .i64 h, .agg (c2 l i).toArray] w fun r w' => r = .returned oN ∧ Below w.heap.size w w' := by
  go_enter Tryd.func32, Tryd.ntmps32
  go_wp2_with (first | (refine step_box (cs := c2 l i) rfl rfl ?_; intro w1 g1 hg1 hle1 hb1; have HG1 := hide hg1; clear hg1) | (refine step_alloc zT rfl ?_; intro w2 g2 hg2 hle2 hb2; have HG2 := hide hg2; clear hg2) | (go_at_call 24; refine (heightR_no h _ hh).mono ?_; rintro r w' ⟨rfl, rfl⟩; have HG3 := hide (HG1.out.on hb2)) | (refine step_loadA wN rfl rfl HG3.out rfl ?_)  | (refine step_storeA wT rfl rfl rfl HG2.out rfl (One.c4 0 0 0 0) rfl ?_; intro w4 hg4 hbut4))
  refine bodyPost_ret (results_w4 rfl wT _ _ rfl hg4 rfl) rfl ⟨rfl, ?_⟩
  exact (hb1.trans (hb2.mono hb1.size)).trans (hbut4.below (Nat.le_trans hb1.size hle2))
set_option maxRecDepth 100000 in
set_option maxHeartbeats 1000000 in
theorem of_no2 (h : Nat) (l i : Int) (w : World) (hh : isH h) (hv : ¬ V l i) : Calls Tryd.prog 27 #[.int .i64 (h : Int), .agg (c2 l i).toArray] w fun r w' => r = .returned oN ∧ Below w.heap.size w w' := by
  have HV := hide hv
  clear hv
  go_enter Tryd.func27, Tryd.ntmps27
  go_wp2_with (first | (refine step_box (cs := c2 l i) rfl rfl ?_; intro w1 g1 hg1 hle1 hb1; have HG1 := hide hg1; clear hg1) | (refine step_alloc zT rfl ?_; intro w2 g2 hg2 hle2 hb2; have HG2 := hide hg2; clear hg2) | (go_at_call 41; refine (isHeight_yes h _ hh).mono ?_; rintro r w' ⟨rfl, rfl⟩; have HG3 := hide (HG1.out.on hb2)) | (refine step_loadA wN rfl rfl HG3.out rfl ?_) | (go_at_call 44; refine (valid_no l i _ HV.out).mono ?_; rintro r w3 ⟨rfl, hb3⟩; have HG4 := hide (HG2.out.on hb3)) | (refine step_storeA wT rfl rfl rfl HG4.out rfl (One.c4 0 0 0 0) rfl ?_; intro w4 hg4 hbut4))
  refine bodyPost_ret (results_w4 rfl wT _ _ rfl hg4 rfl) rfl ⟨rfl, ?_⟩
  have q2 := hb1.trans (hb2.mono hb1.size)
  have q3 := q2.trans (hb3.mono q2.size)
  exact q3.trans (hbut4.below (Nat.le_trans hb1.size hle2))
set_option maxRecDepth 100000 in
set_option maxHeartbeats 1000000 in
theorem ofR_no2 (h : Nat) (l i : Int) (w : World) (hh : isH h) (hv : ¬ V l i) : Calls Tryd.prog 32 #[.int .i64 (h : Int), .agg (c2 l i).toArray] w fun r w' => r = .returned oN ∧ Below w.heap.size w w' := by
  have HV := hide hv
  clear hv
  go_enter Tryd.func32, Tryd.ntmps32
  go_wp2_with (first | (refine step_box (cs := c2 l i) rfl rfl ?_; intro w1 g1 hg1 hle1 hb1; have HG1 := hide hg1; clear hg1) | (refine step_alloc zT rfl ?_; intro w2 g2 hg2 hle2 hb2; have HG2 := hide hg2; clear hg2) | (go_at_call 24; refine (heightR_yes h _ hh).mono ?_; rintro r w' ⟨rfl, rfl⟩; have HG3 := hide (HG1.out.on hb2)) | (refine step_loadA wN rfl rfl HG3.out rfl ?_) | (go_at_call 26; refine (validR_no l i _ HV.out).mono ?_; rintro r w3 ⟨rfl, hb3⟩; have HG4 := hide (HG2.out.on hb3)) | (refine step_storeA wT rfl rfl rfl HG4.out rfl (One.c4 0 0 0 0) rfl ?_; intro w4 hg4 hbut4))
  refine bodyPost_ret (results_w4 rfl wT _ _ rfl hg4 rfl) rfl ⟨rfl, ?_⟩
  have q2 := hb1.trans (hb2.mono hb1.size)
  have q3 := q2.trans (hb3.mono q2.size)
  exact q3.trans (hbut4.below (Nat.le_trans hb1.size hle2))
set_option maxRecDepth 100000 in
set_option maxHeartbeats 1000000 in
theorem of_ok (h L I : Nat) (w : World) (hh : isH h) (hL : L ≤ 48) (hI : (I : Int) < 281474976710656 / 2 ^ L) :
    Calls Tryd.prog 27 #[.int .i64 (h : Int), .agg (c2 (L : Int) (I : Int)).toArray] w fun r w' => r = .returned (oV h L I) ∧ Below w.heap.size w w' := by
  obtain ⟨h1, h8⟩ := hh.ints
  have HH := hide hh
  have HI := hide hI
  obtain ⟨r, R, A, P, F, e1, e2, e3, e4, e5, e6, e7, k1, k2, k3, k4, k5, f1, f2, f3, f4, f5, f6, f7, hL', hr', hA', hF', hR', hAP, hLh, hI2⟩ := of_facts hh hL hI
  obtain ⟨p1, p2, p3, p4⟩ := pow_w e3 hh
  have HE : Hid (oV h L I = .tuple #[.agg (c4 (h : Int) (L / h : Nat) (A / P : Nat) ((F : Int) + (R : Int))).toArray, .int .i64 (F : Int), .int .i64 ((F : Int) + (R : Int)), .int .i64 0]) := hide (by unfold oV; rw [e5, e6, e7, Int.natCast_add])
  have HP := hide p1
  have HR := hide f6
  have HPW := hide e3
  have hxw := wrap_nat (A / P) hAP
  have hlw := wrap_nat (L / h) (Nat.le_trans hLh (by decide))
  generalize A / P = X at *
  generalize L / h = Lh at *
  have h0 : ¬ h = 0 := Nat.ne_of_gt hh.1
  have hP0 : ¬ P = 0 := Nat.ne_of_gt (Nat.lt_of_lt_of_le (by decide) p3)
  clear e1 e2 e3 e4 e5 e6 e7 p1 p2 f6 hI hh k1 k2 k5
  go_enter Tryd.func27, Tryd.ntmps27
  go_wp2_with (first | (refine step_box (cs := c2 (L : Int) (I : Int)) rfl rfl ?_; intro w1 g1 hg1 hle1 hb1; have HG1 := hide hg1; clear hg1) | (refine step_alloc zT rfl ?_; intro w2 g2 hg2 hle2 hb2; have HG2 := hide hg2; clear hg2) | (go_at_call 41; refine (isHeight_yes h _ HH.out).mono ?_; rintro r w' ⟨rfl, rfl⟩; have HG3 := hide (HG1.out.on hb2)) | (refine step_loadA wN rfl rfl HG3.out rfl ?_) | (go_at_call 44; refine (valid_yes L I _ hL' HI.out).mono ?_; rintro r w3 ⟨rfl, hb3⟩; have HG4 := hide (HG2.out.on hb3); have c0 := (HG3.out.on hb3).two.1; have c1 := (HG3.out.on hb3).two.2) | (simp only [HP.out]) | (simp only [HR.out]))
  have F0 := HG4.out.free 0
  have F1 := HG4.out.free 1
  have F2 := HG4.out.free 2
  have F3 := HG4.out.free 3
  obtain ⟨X0, X1, X2, X3⟩ := HG4.out.four
  have hne : g2 ≠ g1 := by have := HG1.out.lt; omega
  have far := fun (v : World) (i j : Nat) (x : Value) => (World.cell?_setCell_far v ⟨g2, i, none⟩ ⟨g1, j, none⟩ x hne : (v.setCell ⟨g2, i, none⟩ x).cell? ⟨g1, j, none⟩ = v.cell? ⟨g1, j, none⟩)
  go_region_held3 (fun v : World => v.cell? ⟨g1, 0, none⟩ = some (.int .i64 (L : Int))) (first | exact c0 | simp [far, c0]) (first | fail)
  obtain ⟨W5, hW5⟩ : ∃ W : World, W = ((((w3.setCell ⟨g2, 0, none⟩ (.int .i64 (h : Int))).setCell ⟨g2, 1, none⟩ (.int .i64 (Lh : Int))).setCell ⟨g2, 2, none⟩ (.int .i64 (X : Int))).setCell ⟨g2, 3, none⟩ (.int .i64 ((F : Int) + (R : Int)))).drew := ⟨_, rfl⟩
  have HG5 : Blk W5 g2 23 (c4 (h : Int) (Lh : Int) (X : Int) ((F : Int) + (R : Int))) := by rw [hW5]; exact (((HG4.out.set 0 _).set 1 _).set 2 _).set 3 _
  have q2 := hb1.trans (hb2.mono hb1.size)
  have q3 := q2.trans (hb3.mono q2.size)
  have q5 : Below w.heap.size w W5 := by rw [hW5]; exact (q3.trans ((((But.setCell _ _ _ _).trans (But.setCell _ _ _ _)).trans ((But.setCell _ _ _ _).trans (But.setCell _ _ _ _))).below (Nat.le_trans hb1.size hle2))).drew
  rw [← hW5]
  clear hW5 far X0 X1 X2 X3 F0 F1 F2 F3
  go_wp2
  refine bodyPost_ret (results_w4 rfl wT _ _ rfl HG5 rfl) rfl ⟨?_, q5⟩
  rw [HE.out]
  rfl
set_option maxRecDepth 100000 in
set_option maxHeartbeats 1000000 in
theorem ofR_ok (h L I : Nat) (w : World) (hh : isH h) (hL : L ≤ 48) (hI : (I : Int) < 281474976710656 / 2 ^ L) :
    Calls Tryd.prog 32 #[.int .i64 (h : Int), .agg (c2 (L : Int) (I : Int)).toArray] w fun r w' => r = .returned (oV h L I) ∧ Below w.heap.size w w' := by
  obtain ⟨h1, h8⟩ := hh.ints
  have HH := hide hh
  have HI := hide hI
  obtain ⟨r, R, A, P, F, e1, e2, e3, e4, e5, e6, e7, k1, k2, k3, k4, k5, f1, f2, f3, f4, f5, f6, f7, hL', hr', hA', hF', hR', hAP, hLh, hI2⟩ := of_facts hh hL hI
  obtain ⟨p1, p2, p3, p4⟩ := pow_w e3 hh
  have HE : Hid (oV h L I = .tuple #[.agg (c4 (h : Int) (L / h : Nat) (A / P : Nat) ((F : Int) + (R : Int))).toArray, .int .i64 (F : Int), .int .i64 ((F : Int) + (R : Int)), .int .i64 0]) := hide (by unfold oV; rw [e5, e6, e7, Int.natCast_add])
  have HP := hide p1
  have HR := hide f6
  have HPW := hide e3
  have hxw := wrap_nat (A / P) hAP
  have hlw := wrap_nat (L / h) (Nat.le_trans hLh (by decide))
  generalize A / P = X at *
  generalize L / h = Lh at *
  have h0 : ¬ h = 0 := Nat.ne_of_gt hh.1
  have hP0 : ¬ P = 0 := Nat.ne_of_gt (Nat.lt_of_lt_of_le (by decide) p3)
  clear e1 e2 e3 e4 e5 e6 e7 p1 p2 f6 hI hh k1 k2 k5
  go_enter Tryd.func32, Tryd.ntmps32
  go_wp2_with (first | (refine step_box (cs := c2 (L : Int) (I : Int)) rfl rfl ?_; intro w1 g1 hg1 hle1 hb1; have HG1 := hide hg1; clear hg1) | (refine step_alloc zT rfl ?_; intro w2 g2 hg2 hle2 hb2; have HG2 := hide hg2; clear hg2) | (go_at_call 24; refine (heightR_yes h _ HH.out).mono ?_; rintro r w' ⟨rfl, rfl⟩; have HG3 := hide (HG1.out.on hb2)) | (refine step_loadA wN rfl rfl HG3.out rfl ?_) | (go_at_call 26; refine (validR_yes L I _ hL' HI.out).mono ?_; rintro r w3 ⟨rfl, hb3⟩; have HG4 := hide (HG2.out.on hb3); have c0 := (HG3.out.on hb3).two.1; have c1 := (HG3.out.on hb3).two.2) | (simp only [HR.out]) | (go_at_call 20; refine (full_any h P _ HH.out HPW.out).mono ?_; rintro r v ⟨rfl, hv⟩; replace hv := hv.symm; subst hv))
  have F0 := HG4.out.free 0
  have F1 := HG4.out.free 1
  have F2 := HG4.out.free 2
  have F3 := HG4.out.free 3
  obtain ⟨X0, X1, X2, X3⟩ := HG4.out.four
  have hne : g2 ≠ g1 := by have := HG1.out.lt; omega
  have far := fun (v : World) (i j : Nat) (x : Value) => (World.cell?_setCell_far v ⟨g2, i, none⟩ ⟨g1, j, none⟩ x hne : (v.setCell ⟨g2, i, none⟩ x).cell? ⟨g1, j, none⟩ = v.cell? ⟨g1, j, none⟩)
  go_region_held3 (fun v : World => v.cell? ⟨g1, 0, none⟩ = some (.int .i64 (L : Int))) (first | exact c0 | simp [far, c0]) (first | (go_at_call 20; refine (full_any h P _ HH.out HPW.out).mono ?_; rintro r v ⟨rfl, hv⟩; replace hv := hv.symm; subst hv))
  obtain ⟨W5, hW5⟩ : ∃ W : World, W = ((((w3.setCell ⟨g2, 0, none⟩ (.int .i64 (h : Int))).setCell ⟨g2, 1, none⟩ (.int .i64 (Lh : Int))).setCell ⟨g2, 2, none⟩ (.int .i64 (X : Int))).setCell ⟨g2, 3, none⟩ (.int .i64 ((F : Int) + (R : Int)))).drew := ⟨_, rfl⟩
  have HG5 : Blk W5 g2 23 (c4 (h : Int) (Lh : Int) (X : Int) ((F : Int) + (R : Int))) := by rw [hW5]; exact (((HG4.out.set 0 _).set 1 _).set 2 _).set 3 _
  have q2 := hb1.trans (hb2.mono hb1.size)
  have q3 := q2.trans (hb3.mono q2.size)
  have q5 : Below w.heap.size w W5 := by rw [hW5]; exact (q3.trans ((((But.setCell _ _ _ _).trans (But.setCell _ _ _ _)).trans ((But.setCell _ _ _ _).trans (But.setCell _ _ _ _))).below (Nat.le_trans hb1.size hle2))).drew
  rw [← hW5]
  clear hW5 far X0 X1 X2 X3 F0 F1 F2 F3
  go_wp2
  refine bodyPost_ret (results_w4 rfl wT _ _ rfl HG5 rfl) rfl ⟨?_, q5⟩
  rw [HE.out]
  rfl
end Go.Proofs.YtnlpgkfmjlljdaaDoor
