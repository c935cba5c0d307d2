/-
  Texts one behind the other: CompR Br NmR Ow Pd Rf.
-/
import Derived.Test.YthgfbcndoedacaaDoorPkB
import Derived.Test.YthgfbcndoedacaaDoorPkC

/-
  The compression of a block: the document's.
-/
namespace Go.Proofs.YthgfbcndoedacaaDoor
open Go.RowKit
set_option linter.unusedVariables false

/-- Words moved up by one place, from the last down to place i. -/
def shf (l : List Int) (i : Nat) : List Int := l.take (i + 1) ++ (l.drop i).take (7 - i)
theorem shf_step (l : List Int) (hl : l.length = 8) (i : Nat) (h0 : 0 < i) (h1 : i ≤ 7) :
    (shf l i).length = 8 ∧ (shf l i).getD (i - 1) 0 = l.getD (i - 1) 0 ∧ (shf l i).set i (l.getD (i - 1) 0) = shf l (i - 1) := by
  obtain ⟨a, b, c, d, e, f, g, h, rfl⟩ := eight l hl
  match i, h0, h1 with
  | 1, _, _ => exact ⟨rfl, rfl, rfl⟩
  | 2, _, _ => exact ⟨rfl, rfl, rfl⟩
  | 3, _, _ => exact ⟨rfl, rfl, rfl⟩
  | 4, _, _ => exact ⟨rfl, rfl, rfl⟩
  | 5, _, _ => exact ⟨rfl, rfl, rfl⟩
  | 6, _, _ => exact ⟨rfl, rfl, rfl⟩
  | 7, _, _ => exact ⟨rfl, rfl, rfl⟩

/-- The first i words with others added. -/
def fin (l h : List Int) (i : Nat) : List Int := (List.zipWith ad l h).take i ++ l.drop i
theorem fin_step (l h : List Int) (hl : l.length = 8) (hh : h.length = 8) (i : Nat) (h1 : i < 8) :
    (fin l h i).length = 8 ∧ (fin l h i).getD i 0 = l.getD i 0 ∧ (fin l h i).set i (ad (l.getD i 0) (h.getD i 0)) = fin l h (i + 1) := by
  obtain ⟨a, b, c, d, e, f, g, k, rfl⟩ := eight l hl
  obtain ⟨a', b', c', d', e', f', g', k', rfl⟩ := eight h hh
  match i, h1 with
  | 0, _ => exact ⟨rfl, rfl, rfl⟩
  | 1, _ => exact ⟨rfl, rfl, rfl⟩
  | 2, _ => exact ⟨rfl, rfl, rfl⟩
  | 3, _ => exact ⟨rfl, rfl, rfl⟩
  | 4, _ => exact ⟨rfl, rfl, rfl⟩
  | 5, _ => exact ⟨rfl, rfl, rfl⟩
  | 6, _ => exact ⟨rfl, rfl, rfl⟩
  | 7, _ => exact ⟨rfl, rfl, rfl⟩
theorem fin_all (l h : List Int) (hl : l.length = 8) (hh : h.length = 8) : fin l h 8 = List.zipWith ad h l := by
  obtain ⟨a, b, c, d, e, f, g, k, rfl⟩ := eight l hl
  obtain ⟨a', b', c', d', e', f', g', k', rfl⟩ := eight h hh
  simp [fin, ad, Int.add_comm]

theorem mod_in (d u : Int) : (d + u) % 4294967296 = (d + u % 4294967296) % 4294967296 := by omega
theorem mod_both (u v : Int) : (u + v) % 4294967296 = (u % 4294967296 + v % 4294967296) % 4294967296 := by omega
theorem index_W (g i : Nat) (I : Int) (hI : I = (i : Int)) (hi : i < 8) (w : World) : (Instr.indexAt 119 (.pointer (some ⟨g, 0, none⟩)) (.int .i64 I)).run Tryd.prog w = .ok (.pointer (some ⟨g, i, none⟩)) w :=
  index_at (by kernel_rfl) (by kernel_rfl) (fun _ => by kernel_rfl) g i I hI hi w

/-- What stands behind the beginning: the block's words, the constants, the words handed in, in their places. -/
structure CR (w0 : World) (h blk : List Int) (g1 g4 g5 g6 g7 : Nat) (l : List Int) (w : World) : Prop where
  b1 : Blk w g1 119 (u32s h)
  b4 : Blk w g4 119 (u32s (zer 8))
  b5 : Blk w g5 136 (u32s (sched blk))
  b6 : Blk w g6 136 (u32s kL)
  b7 : Blk w g7 119 (u32s l)
  bel : Below w0.heap.size w0 w
theorem CR.drewN {w0 : World} {h blk : List Int} {g1 g4 g5 g6 g7 : Nat} {l : List Int} {w : World} (c : CR w0 h blk g1 g4 g5 g6 g7 l w) (n : Nat) : CR w0 h blk g1 g4 g5 g6 g7 l (w.drewN n) :=
  ⟨c.b1, c.b4, c.b5, c.b6, c.b7, below_drewN c.bel n⟩
/-- The blocks are apart. -/
structure Ap (w0 : World) (g1 g4 g5 g6 g7 : Nat) : Prop where
  a1 : g1 ≠ g7
  a4 : g4 ≠ g7
  a5 : g5 ≠ g7
  a6 : g6 ≠ g7
  n7 : w0.heap.size ≤ g7
  n4 : w0.heap.size ≤ g4
theorem CR.set {w0 : World} {h blk : List Int} {g1 g4 g5 g6 g7 : Nat} {l : List Int} {w : World} (c : CR w0 h blk g1 g4 g5 g6 g7 l w) (ap : Ap w0 g1 g4 g5 g6 g7) (i : Nat) (x : Int) : CR w0 h blk g1 g4 g5 g6 g7 (l.set i x) (w.setCell ⟨g7, i, none⟩ (.int .u32 x)) :=
  ⟨c.b1.but (But.setCell _ _ _ _) ap.a1, c.b4.but (But.setCell _ _ _ _) ap.a4, c.b5.but (But.setCell _ _ _ _) ap.a5, c.b6.but (But.setCell _ _ _ _) ap.a6, by have := c.b7.set i (.int .u32 x); rwa [u32s_set] at this, c.bel.trans ((But.setCell _ _ _ _).below ap.n7)⟩
theorem CR.c1 {w0 : World} {h blk : List Int} {g1 g4 g5 g6 g7 : Nat} {l : List Int} {w : World} (c : CR w0 h blk g1 g4 g5 g6 g7 l w) (i : Nat) (hi : i < h.length) : w.cell? ⟨g1, i, none⟩ = some (.int .u32 (h.getD i 0)) := by
  rw [c.b1.cell]; exact u32s_get _ _ hi
theorem CR.c7 {w0 : World} {h blk : List Int} {g1 g4 g5 g6 g7 : Nat} {l : List Int} {w : World} (c : CR w0 h blk g1 g4 g5 g6 g7 l w) (i : Nat) (hi : i < l.length) : w.cell? ⟨g7, i, none⟩ = some (.int .u32 (l.getD i 0)) := by
  rw [c.b7.cell]; exact u32s_get _ _ hi

set_option maxRecDepth 100000 in
set_option maxHeartbeats 2000000 in
theorem compR_any (hv blk : List Int) (w : World) (hh : hv.length = 8) (hb : isB blk) (hl : blk.length = 64) :
    Calls Tryd.prog 80 #[.agg (u32s hv).toArray, .agg (u8s blk).toArray] w fun e w' => e = .returned (.agg (u32s (comp hv blk)).toArray) ∧ Below w.heap.size w w' := by
  have HB := hide hb
  have HL := hide hl
  have HH := hide hh
  clear hb hl hh
  go_enter Tryd.func80, Tryd.ntmps80
  go_wp2_with (refine step_box rfl rfl ?_)
  intro w1 g1 hg1 hle1 hb1
  go_wp2_with (refine step_box rfl rfl ?_)
  intro w2 g2 hg2 hle2 hb2
  go_wp2_with (refine step_alloc zW rfl ?_)
  intro w3 g4 hg3 hle3 hb3
  have G1 := hide ((hg1.below hb2 hg1.lt).below hb3 (by have := hg1.lt; have := hb2.size; omega))
  have G2 := hide (hg2.below hb3 hg2.lt)
  have G3 := hide hg3
  have hw3 : Below w.heap.size w w3 := hb1.trans ((hb2.mono hb1.size).trans (hb3.mono (Nat.le_trans hb1.size hb2.size)))
  have hlt3 : w.heap.size ≤ g4 := by have := hb1.size; have := hb2.size; omega
  clear hg1 hg2 hg3 hb1 hb2 hb3 hle1 hle2 hle3
  go_wp2_with (first | (refine step_loadA wB64 rfl rfl G2.out (by rw [u8s_length]; exact HL.out) ?_) | (go_at_call 84; refine (schedR_any _ _ HB.out HL.out).mono ?_; rintro e w4 ⟨rfl, hb4⟩) | (refine step_alloc zK rfl ?_))
  intro w5 g5 hg5 hle5 hb5
  go_wp2_with (refine step_storeA wK rfl rfl rfl hg5 (by rw [u32s_length, sched_length]) (One.u32 _) rfl ?_)
  intro w6 hg6 hbut6
  have hb35 : Below w3.heap.size w3 w5 := hb4.trans (hb5.mono hb4.size)
  have hb36 : Below w3.heap.size w3 w6 := hb35.trans (hbut6.below (by have := hb4.size; omega))
  have J1 := hide (G1.out.below hb36 G1.out.lt)
  have J3 := hide (G3.out.below hb36 G3.out.lt)
  have J5 := hide hg6
  have hw6 : Below w.heap.size w w6 := hw3.trans (hb36.mono hw3.size)
  clear hg6 hbut6 hb35 hb36 hg5 hb5 hle5 hb4 G1 G2 G3 hw3
  go_wp2_with (first | (go_at_call 85; refine (consts_any _).mono ?_; rintro e w7 ⟨rfl, hb7⟩) | (refine step_alloc zK rfl ?_))
  intro w8 g6 hg8 hle8 hb8
  go_wp2_with (refine step_storeA wK rfl rfl rfl hg8 rfl (One.u32 _) rfl ?_)
  intro w9 hg9 hbut9
  have hb68 : Below w6.heap.size w6 w8 := hb7.trans (hb8.mono hb7.size)
  have hb69 : Below w6.heap.size w6 w9 := hb68.trans (hbut9.below (by have := hb7.size; omega))
  have M1 := hide (J1.out.below hb69 J1.out.lt)
  have M3 := hide (J3.out.below hb69 J3.out.lt)
  have M5 := hide (J5.out.below hb69 J5.out.lt)
  have M6 := hide hg9
  have hw9 : Below w.heap.size w w9 := hw6.trans (hb69.mono hw6.size)
  clear hg9 hbut9 hb68 hb69 hg8 hb8 hle8 hb7 J1 J3 J5 hw6
  go_wp2_with (first | (refine step_loadA wW rfl rfl M1.out (by rw [u32s_length]; exact HH.out) ?_) | (refine step_alloc zW rfl ?_))
  intro wa g7 hga hlea hba
  go_wp2_with (refine step_storeA wW rfl rfl rfl hga (by rw [u32s_length]; exact HH.out) (One.u32 _) rfl ?_)
  intro wb hgb hbutb
  have hb9b : Below w9.heap.size w9 wb := hba.trans (hbutb.below hlea)
  have AP : Ap w g1 g4 g5 g6 g7 := by
    have := M1.out.lt; have := M3.out.lt; have := M5.out.lt; have := M6.out.lt; have := hw9.size
    exact ⟨by omega, by omega, by omega, by omega, by omega, hlt3⟩
  have C0 : CR w hv blk g1 g4 g5 g6 g7 hv wb := ⟨M1.out.below hb9b M1.out.lt, M3.out.below hb9b M3.out.lt, M5.out.below hb9b M5.out.lt, M6.out.below hb9b M6.out.lt, hgb, hw9.trans (hb9b.mono hw9.size)⟩
  clear hb9b hgb hbutb hba hlea hga M1 M3 M5 M6 hw9
  have C1 := hide C0
  clear C0
  go_wp2
  go_loopw [8] (fun i wr => ∃ t : Nat, t ≤ 64 ∧ i = .int .i64 t ∧ CR w hv blk g1 g4 g5 g6 g7 (rds hv (sched blk) t) wr) (fun i _ => 64 - (intOf i).toNat)
  case atStart => exact ⟨0, by omega, rfl, C1.out⟩
  case round =>
    clear C1
    obtain ⟨t, ht, rfl, hc⟩ := hrel
    have HC := hide hc
    clear hc
    have HN : Hid (rds hv (sched blk) (t + 1) = rnd (kL.getD t 0) ((sched blk).getD t 0) (rds hv (sched blk) t)) := hide rfl
    have HLL := hide (rds_length hv (sched blk) HH.out t)
    by_cases hlt : t < 64
    · have hlt' : (t : Int) < 64 := by omega
      have ck : wr.cell? ⟨g6, t, none⟩ = some (.int .u32 (kL.getD t 0)) := by rw [HC.out.b6.cell]; exact u32s_get _ _ hlt
      have cw : wr.cell? ⟨g5, t, none⟩ = some (.int .u32 ((sched blk).getD t 0)) := by rw [HC.out.b5.cell]; exact u32s_get _ _ (by rw [sched_length]; exact hlt)
      revert ck cw HN HC HLL
      generalize kL.getD t 0 = kt
      generalize (sched blk).getD t 0 = wt
      generalize rds hv (sched blk) t = l
      intro HC HN HLL ck cw
      obtain ⟨a, b, c, d, e, f, g, hh, rfl⟩ := eight l HLL.out
      have x0 := index_K g5 t (t : Int) rfl hlt
      have y0 := index_K g6 t (t : Int) rfl hlt
      have c0 : wr.cell? ⟨g7, 0, none⟩ = some (.int .u32 a) := by rw [HC.out.b7.cell]; rfl
      have c1 : wr.cell? ⟨g7, 1, none⟩ = some (.int .u32 b) := by rw [HC.out.b7.cell]; rfl
      have c2 : wr.cell? ⟨g7, 2, none⟩ = some (.int .u32 c) := by rw [HC.out.b7.cell]; rfl
      have c4 : wr.cell? ⟨g7, 4, none⟩ = some (.int .u32 e) := by rw [HC.out.b7.cell]; rfl
      have c5 : wr.cell? ⟨g7, 5, none⟩ = some (.int .u32 f) := by rw [HC.out.b7.cell]; rfl
      have c6 : wr.cell? ⟨g7, 6, none⟩ = some (.int .u32 g) := by rw [HC.out.b7.cell]; rfl
      have c7 : wr.cell? ⟨g7, 7, none⟩ = some (.int .u32 hh) := by rw [HC.out.b7.cell]; rfl
      go_wp2_with fail
      go_quiet (first | (go_at_call 86; refine quiet_eq (ror_any _ _ (by decide) _)))
      have HC2 := hide (HC.out.drewN nq)
      clear c0 c1 c2 c4 c5 c6 c7 ck cw HC x0 y0
      go_wp2_with fail
      revert HC2
      generalize wr.drewN nq = wq
      intro HC2
      have d1 : wq.cell? ⟨g7, 1, none⟩ = some (.int .u32 b) := by rw [HC2.out.b7.cell]; rfl
      have d2 : wq.cell? ⟨g7, 2, none⟩ = some (.int .u32 c) := by rw [HC2.out.b7.cell]; rfl
      go_quiet (first | (go_at_call 86; refine quiet_eq (ror_any _ _ (by decide) _)))
      have HC3 := hide (HC2.out.drewN nq)
      clear d1 d2 HC2
      go_wp2_with fail
      revert HC3
      generalize wq.drewN nq = wz
      intro HC3
      go_loopw [13] (fun i wr => ∃ j : Nat, j ≤ 7 ∧ i = .int .i64 j ∧ CR w hv blk g1 g4 g5 g6 g7 (shf [a, b, c, d, e, f, g, hh] j) wr) (fun i _ => (intOf i).toNat)
      case atStart => exact ⟨7, by omega, rfl, HC3.out⟩
      case round =>
        clear HC3
        obtain ⟨j, hj, rfl, hc⟩ := hrel
        have HC4 := hide hc
        clear hc
        by_cases hj0 : 0 < j
        · have HSh := hide (shf_step [a, b, c, d, e, f, g, hh] rfl j hj0 hj)
          have hj0' : (0 : Int) < (j : Int) := by omega
          have ca := HC4.out.c7 (j - 1) (by rw [HSh.out.1]; omega)
          rw [HSh.out.2.1] at ca
          have cb := HC4.out.c7 j (by rw [HSh.out.1]; omega)
          have hfree : wr.frozen? ⟨g7, j, none⟩ = false := HC4.out.b7.free j
          have z1 : IntKind.i64.wrap ((j : Int) - 1) = (j : Int) - 1 := wrap_in _ (by omega) (by omega)
          have x1 := index_W g7 (j - 1) ((j : Int) - 1) (by omega) (by omega)
          have x2 := index_W g7 j (j : Int) rfl (by omega)
          go_wp2
          refine ⟨⟨j - 1, by omega, ?_, ?_⟩, ?_⟩
          · congr 1; omega
          · have := HC4.out.set AP j ([a, b, c, d, e, f, g, hh].getD (j - 1) 0)
            rw [HSh.out.2.2] at this
            exact this
          · simp [intOf]; omega
        · obtain rfl : j = 0 := by omega
          have e4 : wr.cell? ⟨g7, 4, none⟩ = some (.int .u32 d) := by rw [HC4.out.b7.cell]; rfl
          have e0 : wr.cell? ⟨g7, 0, none⟩ = some (.int .u32 a) := by rw [HC4.out.b7.cell]; rfl
          have f4 : wr.frozen? ⟨g7, 4, none⟩ = false := HC4.out.b7.free 4
          have f0 : wr.frozen? ⟨g7, 0, none⟩ = false := HC4.out.b7.free 0
          go_wp2
          refine ⟨⟨t + 1, by omega, by go_num, ?_⟩, ?_⟩
          · rw [HN.out]
            have hz := (HC4.out.set AP 4 (ad d (rndU e f g hh kt wt))).set AP 0 (ad (rndU e f g hh kt wt) (rndV a b c))
            rw [mod_in d, mod_both (hh + _ + _ + kt + wt)]
            exact hz
          · simp [intOf]; omega
    · obtain rfl : t = 64 := by omega
      go_wp2
      go_loopw [14] (fun i wr => ∃ j : Nat, j ≤ 8 ∧ i = .int .i64 j ∧ CR w hv blk g1 g4 g5 g6 g7 (fin (rds hv (sched blk) 64) hv j) wr) (fun i _ => 8 - (intOf i).toNat)
      case atStart => exact ⟨0, by omega, rfl, by simpa [fin] using HC.out⟩
      case round =>
        clear HC
        obtain ⟨j, hj, rfl, hc⟩ := hrel
        have HC5 := hide hc
        clear hc
        by_cases hj8 : j < 8
        · have HF := hide (fin_step (rds hv (sched blk) 64) hv HLL.out HH.out j hj8)
          have hj8' : (j : Int) < 8 := by omega
          have ca := HC5.out.c7 j (by rw [HF.out.1]; omega)
          rw [HF.out.2.1] at ca
          have cb := HC5.out.c1 j (by rw [HH.out]; omega)
          have hfree : wr.frozen? ⟨g7, j, none⟩ = false := HC5.out.b7.free j
          have x1 := index_W g7 j (j : Int) rfl (by omega)
          have x2 := index_W g1 j (j : Int) rfl (by omega)
          go_wp2_with fail
          go_region
          go_wp2
          refine ⟨⟨j + 1, by omega, by go_num, ?_⟩, ?_⟩
          · have hz := (HC5.out.set AP j (ad ((rds hv (sched blk) 64).getD j 0) (hv.getD j 0))).drewN 1
            rw [HF.out.2.2] at hz
            exact hz
          · simp [intOf]; omega
        · obtain rfl : j = 8 := by omega
          have HG := hide HC5.out.b7
          rw [fin_all _ _ HLL.out HH.out] at HG
          have HCL : Hid ((List.zipWith ad hv (rds hv (sched blk) 64)).length = 8) := hide (comp_length hv blk HH.out)
          go_wp2_with (first | (refine step_loadA wW rfl rfl HG.out (by rw [u32s_length]; exact HCL.out) ?_) | (refine step_storeA wW rfl rfl rfl HC5.out.b4 (by rw [u32s_length]; exact HCL.out) (One.u32 _) rfl ?_; intro wx hgx hbutx))
          refine bodyPost_ret (results_wide rfl wW _ _ rfl hgx (by rw [u32s_length]; exact HCL.out)) rfl ⟨rfl, ?_⟩
          exact HC5.out.bel.trans (hbutx.below AP.n4)

end Go.Proofs.YthgfbcndoedacaaDoor

/-
  The document's Begin.
-/
namespace Go.Proofs.YthgfbcndoedacaaDoor
open Go.RowKit
set_option linter.unusedVariables false

set_option maxHeartbeats 1000000 in
theorem beginR_any (w : World) : Calls Tryd.prog 64 #[] w fun e w' => e = .returned (.agg (u32s bL).toArray) ∧ Below w.heap.size w w' := by
  go_enter Tryd.func64, Tryd.ntmps64
  go_wp2_with (refine step_alloc zW rfl ?_)
  intro w1 g1 hg1 hle1 hb1
  go_wp2_with (first | (refine step_storeA (vs := u32s bL) wW rfl rfl rfl hg1 rfl (One.u32 _) rfl ?_; intro w2 hg2 hbut2) | (refine step_run rfl (.agg (u32s bL).toArray) _ (by kernel_rfl) ?_))
  refine bodyPost_ret (results_wide rfl wW _ _ rfl hg2 rfl) rfl ⟨rfl, ?_⟩
  exact hb1.trans (hbut2.below hle1)

end Go.Proofs.YthgfbcndoedacaaDoor

/-
  The document's Number.
-/
namespace Go.Proofs.YthgfbcndoedacaaDoor
open Go.RowKit
set_option linter.unusedVariables false

/-- One byte more of B, from its end. -/
theorem back_step (B : List Int) (n k : Nat) (hB : B.length = n) (hk : k < n) : (zer (k + 1) ++ B.drop (k + 1)).set k (B.getD k 0) = zer k ++ B.drop k := by
  have hz : zer (k + 1) = zer k ++ [0] := by simp [zer, List.replicate_succ']
  rw [hz, List.append_assoc, List.set_append_right _ _ (by simp [zer]), List.drop_eq_getElem_cons (i := k) (by omega)]
  have e : k - (zer k).length = 0 := by simp [zer]
  rw [e]
  simp [List.getD, hB, hk]

theorem div_pow (v : Int) (m : Nat) : v / 256 ^ m / 256 = v / 256 ^ (m + 1) := by
  rw [Int.pow_succ, Int.ediv_ediv_of_nonneg (Int.le_of_lt (Int.pow_pos (by decide)))]

theorem quo256 (v : Int) (m : Nat) (hv : 0 ≤ v) (hv2 : v < 18446744073709551616) : IntKind.u64.wrap ((v / 256 ^ m).tdiv 256) = v / 256 ^ (m + 1) := by
  have h0 : 0 ≤ v / 256 ^ m := Int.ediv_nonneg hv (Int.le_of_lt (Int.pow_pos (by decide)))
  have h1 : v / 256 ^ m ≤ v := Int.ediv_le_self _ hv
  rw [Int.tdiv_eq_ediv_of_nonneg h0, div_pow, IntKind.wrap_u64]
  have h2 : 0 ≤ v / 256 ^ (m + 1) := Int.ediv_nonneg hv (Int.le_of_lt (Int.pow_pos (by decide)))
  have h3 : v / 256 ^ (m + 1) ≤ v := Int.ediv_le_self _ hv
  exact Int.emod_eq_of_lt h2 (by omega)

set_option maxHeartbeats 400000 in
theorem number_ref (v : Int) (n : Nat) (w : World) (hn : n ≤ 8) (hv : 0 ≤ v) (hv2 : v < 18446744073709551616) :
    Calls Tryd.prog 53 #[.int .u64 v, .int .i64 n] w fun e w' => ∃ g, e = .returned (.slice (some ⟨g, 0, none⟩) n n) ∧ w.heap.size ≤ g ∧ Blk w' g 5 (u8s (be v n)) ∧ Below w.heap.size w w' := by
  go_enter Tryd.func53, Tryd.ntmps53
  go_wp2_with (refine step_make n rfl rfl rfl rfl rfl (by omega) ?_)
  intro w1 g hrow hg hb
  go_wp2
  go_loopw [0, 6] (fun vv i wr => ∃ j : Nat, j ≤ n ∧ i = .int .i64 ((j : Int) - 1) ∧ vv = .int .u64 (v / 256 ^ (n - j)) ∧ Blk wr g 5 (u8s (zer j ++ (be v n).drop j)) ∧ Below w.heap.size w wr) (fun _ i _ => (intOf i + 1).toNat)
  case atStart => exact ⟨n, by omega, rfl, by simp, by rw [List.drop_eq_nil_of_le (by rw [be_length]; exact Nat.le_refl _), List.append_nil]; exact hrow, hb⟩
  case round =>
    obtain ⟨j, hj, rfl, rfl, hr1, hb1⟩ := hrel
    by_cases h0 : j = 0
    · subst h0
      go_wp2
      go_ret
      refine ⟨g, rfl, hg, ?_, hb1⟩
      simpa [zer] using hr1
    · obtain ⟨k, rfl⟩ : ∃ k, j = k + 1 := ⟨j - 1, by omega⟩
      have hl1 : (zer (k + 1) ++ (be v n).drop (k + 1)).length = n := by simp [be_length, zer_length]; omega
      have hcell : wr.cell? ⟨g, k, none⟩ = some (.int .u8 ((zer (k + 1) ++ (be v n).drop (k + 1)).getD k 0)) := by rw [hr1.cell]; exact u8s_get _ _ (by omega)
      have hfree := hr1.free k
      have HE := hide (back_step (be v n) n k (be_length v n) (by omega))
      have HG := hide (be_get v n k (by omega))
      have ek : (((k + 1 : Nat) : Int) - 1) = (k : Int) := by omega
      rw [ek]
      clear hl1
      go_wp2
      go_roundw
      case rel =>
        have e := hr1.set k (.int .u8 ((be v n).getD k 0))
        have en : n - 1 - k = n - (k + 1) := by omega
        rw [u8s_set, HE.out, HG.out, en] at e
        have eq := quo256 v (n - (k + 1)) hv hv2
        have en2 : n - (k + 1) + 1 = n - k := by omega
        rw [en2] at eq
        exact ⟨k, by omega, by go_num, by rw [eq], e, hb1.setCell hg _⟩
      case measure => simp [intOf]


end Go.Proofs.YthgfbcndoedacaaDoor

/-
  A new row as a slice of the call's own.
-/
namespace Go.Proofs.YthgfbcndoedacaaDoor
open Go.RowKit
set_option linter.unusedVariables false

theorem Own.of_blk {w : World} {g B : Nat} {xs : List Int} (h : Blk w g 5 (u8s xs)) (hB : B ≤ g) (hl : xs.length ≤ 9223372036854775807) : Own w B (.slice (some ⟨g, 0, none⟩) xs.length xs.length) xs :=
  ⟨by simp [u8s_length], .inr ⟨g, xs.length, (u8s xs).toArray, rfl, hB, h, Nat.le_refl _, by unfold maxLen; omega, by simp [u8s_length], by rw [Nat.mul_one]; exact List.take_of_length_le (by simp [u8s_length])⟩⟩

end Go.Proofs.YthgfbcndoedacaaDoor

/-
  Padding: the program's and the document's; and spoil.
-/
namespace Go.Proofs.YthgfbcndoedacaaDoor
open Go.RowKit
set_option linter.unusedVariables false

/-- How long a slice is. -/
def lenP : Value → Nat
  | .slice _ n _ => n
  | _ => 0
theorem pad_step (n k : Nat) (h : k < padZ n) : (n % 64 + (k + 1) + 8) % 64 ≠ 0 := by unfold padZ at h; omega
theorem pad_stop (n : Nat) : (n % 64 + (padZ n + 1) + 8) % 64 = 0 := by unfold padZ; omega

set_option maxRecDepth 100000 in
set_option maxHeartbeats 1000000 in
theorem paddingR_any (n : Nat) (w : World) (hn : n ≤ 2305843009213693951) :
    Calls Tryd.prog 73 #[.int .i64 n] w fun e w' => ∃ v, e = .returned (.tuple #[v, .int .i64 0]) ∧ Own w' w.heap.size v (pad n) ∧ v ≠ .slice none 0 0 ∧ Below w.heap.size w w' := by
  have hn1 : ¬ ((n : Int) < 0) := by omega
  have hn2 : ¬ ((2305843009213693951 : Int) < (n : Int)) := by omega
  go_enter Tryd.func73, Tryd.ntmps73
  go_wp2
  have ho0 : Own (w.alloc (.cells #[.int .u8 128] 5)) w.heap.size (.slice (some ⟨w.heap.size, 0, none⟩) 1 1) [128] :=
    Own.of_blk (Blk.made w 5 (u8s [128])) (Nat.le_refl _) (by decide)
  have hb0 : Below w.heap.size w (w.alloc (.cells #[.int .u8 128] 5)) := (Below.refl _ _).alloc (Nat.le_refl _) _
  have HO0 := hide ho0
  have HB0 := hide hb0
  clear ho0 hb0
  go_loopw [4] (fun v wr => ∃ k : Nat, k ≤ padZ n ∧ Own wr w.heap.size v (128 :: zer k) ∧ v ≠ .slice none 0 0 ∧ Below w.heap.size w wr) (fun v _ => padZ n + 1 - (lenP v))
  case atStart => exact ⟨0, by omega, HO0.out, (by intro h; cases h), HB0.out⟩
  case round =>
    clear HO0 HB0
    obtain ⟨k, hk, ho, hne, hb⟩ := hrel
    have hp := padZ_lt n
    obtain ⟨g, cap, e, hgB, hsl⟩ := ho.sl (by intro x hx; rcases List.mem_cons.1 hx with rfl | hx; omega; exact zer_isB _ x hx) (by simp [zer_length]; omega) hne
    have hl : (128 :: zer k : List Int).length = k + 1 := by simp [zer_length]
    rw [hl] at e hsl
    have HO := hide ho
    have HN := hide hne
    have HB := hide hb
    have HE := hide e
    clear ho hne hb
    by_cases hlt : k < padZ n
    · subst e
      have hs := pad_step n k hlt
      have hs2 : (((n : Int) % 64 + ((k : Int) + 1) + 8) % 64 == 0) = false := by simp; omega
      have hr : Sl (wr.alloc (.cells #[.int .u8 0] 5)) (some ⟨wr.heap.size, 0, none⟩) 1 1 [0] := (Blk.made wr 5 (u8s [0])).sl 0 1 [0] rfl (by simp [isB]) (by simp) (by simp) (by omega)
      go_wp2_with (refine step_append rfl rfl rfl (HO.out.alloc _) hr (by rw [hl]; omega) (by have := HB.out.size; simp; omega) ?_)
      intro v2 w2 ho2 hg2 hn2
      have hb2 : Below w.heap.size w w2 := (HB.out.alloc HB.out.size _).trans (Below.of_grown hg2 (by have := HB.out.size; simp; omega) HO.out.lt)
      have hz : zer k ++ [0] = zer (k + 1) := by simp [zer, List.replicate_succ']
      rw [hz] at ho2
      have hm : lenP v2 = k + 2 := by
        obtain ⟨g', c', e', _⟩ := ho2.sl (by intro x hx; rcases List.mem_cons.1 hx with rfl | hx; omega; exact zer_isB _ x hx) (by simp [zer_length]; omega) hn2
        rw [e']
        simp [lenP, zer_length]
      go_wp2
      refine ⟨⟨k + 1, by omega, ho2, hn2, hb2⟩, ?_⟩
      simp only [lenP] at hm ⊢
      omega
    · obtain rfl : k = padZ n := by omega
      subst e
      have hs := pad_stop n
      have hs2 : (((n : Int) % 64 + ((padZ n : Int) + 1) + 8) % 64 == 0) = true := by simp; omega
      have hm : ((n : Int) * 8) % 18446744073709551616 = 8 * (n : Int) := by omega
      go_wp2_with (first | (go_at_call 53; refine (number_ref _ 8 _ (by omega) (by omega) (by omega)).mono ?_; rintro e w3 ⟨g3, rfl, hle3, hg3, hb3⟩; have HS3 := hide (be_sl hg3 (by omega))) | (refine step_append rfl rfl rfl (HO.out.below hb3) HS3.out (by rw [hl]; omega) (Nat.le_trans HB.out.size hb3.size) ?_; intro v4 w4 ho4 hg4 hn4))
      go_ret2
      refine ⟨v4, rfl, ?_, ?_, ?_⟩
      · have e : pad n = 128 :: zer (padZ n) ++ be ((n : Int) * 8) 8 := by unfold pad; rw [Int.mul_comm]; rfl
        rw [e]
        exact ho4
      · intro h
        exact HN.out (hn4 h).1
      · exact (HB.out.trans (hb3.mono HB.out.size)).grown hg4 (Nat.le_trans HB.out.size hb3.size) HO.out.lt

theorem paddingR_bad (n : Int) (w : World) (e : Int) (he : (n < 0 ∧ e = 2) ∨ (2305843009213693951 < n ∧ e = 3)) :
    Calls Tryd.prog 73 #[.int .i64 n] w fun r w' => r = .returned (.tuple #[.slice none 0 0, .int .i64 e]) ∧ w = w' := by
  rcases he with ⟨h, rfl⟩ | ⟨h, rfl⟩
  · go_enter Tryd.func73, Tryd.ntmps73
    go_wp2
    go_ret2
    exact ⟨rfl, rfl⟩
  · have h0 : ¬ n < 0 := by omega
    go_enter Tryd.func73, Tryd.ntmps73
    go_wp2
    go_ret2
    exact ⟨rfl, rfl⟩

end Go.Proofs.YthgfbcndoedacaaDoor

/-
  The document's Over, Words and Digest.
-/
namespace Go.Proofs.YthgfbcndoedacaaDoor
open Go.RowKit
set_option linter.unusedVariables false

/-- Each is a word. -/
def isW (ws : List Int) : Prop := ∀ x ∈ ws, 0 ≤ x ∧ x < 4294967296
theorem isW.get {ws : List Int} (h : isW ws) (i : Nat) : 0 ≤ ws.getD i 0 ∧ ws.getD i 0 < 4294967296 := by
  by_cases hi : i < ws.length
  · have := h ws[i] (List.getElem_mem hi)
    simpa [List.getD, hi] using this
  · simp [List.getD, List.getElem?_eq_none (Nat.le_of_not_lt hi)]
theorem comp_isW (h blk : List Int) : isW (comp h blk) := by
  intro x hx
  obtain ⟨i, hi, rfl⟩ := List.getElem_of_mem hx
  simp only [comp, List.getElem_zipWith, ad]
  omega
theorem ov_isW (h m : List Int) (hw : isW h) : ∀ k, isW (ov h m k)
  | 0 => hw
  | k + 1 => comp_isW _ _
theorem bL_isW : isW bL := by
  intro x hx
  simp only [bL, List.mem_cons, List.not_mem_nil, or_false] at hx
  omega

theorem spl_all (B : List Int) (n : Nat) (h : B.length = n) : spl (u8s (zer n)) (u8s B) 0 = u8s B := by
  unfold spl
  rw [List.drop_of_length_le (by rw [u8s_length, u8s_length, zer_length, h]; omega)]
  simp
theorem spl_next (B : List Int) (n k : Nat) (h : B.length = n) (hk : k < n) : (spl (u8s (zer n)) (u8s (B.take k)) 0).set k (.int .u8 (B.getD k 0)) = spl (u8s (zer n)) (u8s (B.take (k + 1))) 0 := by
  have hl : (B.take k).length = k := by rw [List.length_take]; omega
  have e2 := spl_snoc (u8s (zer n)) (u8s (B.take k)) (.int .u8 (B.getD k 0)) 0 (by rw [u8s_length, u8s_length, hl, zer_length]; omega)
  rwa [u8s_length, hl, Nat.zero_add, ← u8s_take_succ _ _ (by omega)] at e2
theorem spl_there (B : List Int) (n k : Nat) (h : B.length = n) (hk : k < n) : ∃ old, (spl (u8s (zer n)) (u8s (B.take k)) 0)[k]? = some old := by
  have hl : (B.take k).length = k := by rw [List.length_take]; omega
  have : k < (spl (u8s (zer n)) (u8s (B.take k)) 0).length := by rw [spl_length _ _ _ (by rw [u8s_length, u8s_length, hl, zer_length]; omega), u8s_length, zer_length]; exact hk
  exact ⟨_, List.getElem?_eq_getElem this⟩

theorem zB64 : Zeroed 124 (u8s (zer 64)) := fun _ _ _ _ _ _ _ => by kernel_rfl
theorem index_B64 (g i : Nat) (I : Int) (hI : I = (i : Int)) (hi : i < 64) (w : World) : (Instr.indexAt 124 (.pointer (some ⟨g, 0, none⟩)) (.int .i64 I)).run Tryd.prog w = .ok (.pointer (some ⟨g, i, none⟩)) w :=
  index_at (by kernel_rfl) (by kernel_rfl) (fun _ => by kernel_rfl) g i I hI hi w

set_option maxRecDepth 100000 in
set_option maxHeartbeats 2000000 in
theorem overR_any (h : List Int) (a : Option Addr) (len cap : Nat) (xs : List Int) (w : World) (hh : h.length = 8) (hs : Sl w a len cap xs) :
    Calls Tryd.prog 75 #[.agg (u32s h).toArray, .slice a len cap] w fun e w' => e = .returned (.agg (u32s (ov h xs (bk xs))).toArray) ∧ Below w.heap.size w w' := by
  have HH := hide hh
  have HX := hide hs.hlen
  have HXB := hide hs.hbyte
  have HS0 := hide hs
  clear hs hh
  go_enter Tryd.func75, Tryd.ntmps75
  go_wp2_with (refine step_box rfl rfl ?_)
  intro w1 g2 hg1 hle1 hb1
  go_wp2_with (refine step_alloc zW rfl ?_; intro w2 g4 hg2 hle2 hb2)
  have hb12 : Below w.heap.size w w2 := hb1.trans (hb2.mono hb1.size)
  have H0 := hide (hg1.below hb2 hg1.lt)
  have H4 := hide hg2
  have n24 : g2 ≠ g4 := by have := hg1.lt; omega
  have l4 : w.heap.size ≤ g4 := by have := hb1.size; omega
  have HSW := hide (HS0.out.below hb12)
  clear hg1 hg2 hb1 hb2 hle2
  simp only [Act.put, List.setIfInBounds_toArray, List.set_cons_zero, List.set_cons_succ]
  go_loopw [1] (fun v wr => ∃ (j : Nat) (a' : Option Addr), 64 * j ≤ len ∧ v = .slice a' (len - 64 * j) (cap - 64 * j) ∧ Sl wr a' (len - 64 * j) (cap - 64 * j) (xs.drop (64 * j)) ∧ Blk wr g2 119 (u32s (ov h xs j)) ∧ Blk wr g4 119 (u32s (zer 8)) ∧ Below w.heap.size w wr ∧ (0 < len - 64 * j → Apart g2 a')) (fun v _ => lenOf v)
  case atStart => exact ⟨0, a, by omega, rfl, HSW.out, H0.out, H4.out, hb12, fun h0 => HS0.out.apart hle1 (by omega)⟩
  case round =>
    clear HSW H0 H4 HS0 hb12
    obtain ⟨j, a', hj, rfl, hs, hg2, hg4, hbw, hap⟩ := hrel
    have HS := hide hs
    have G2 := hide hg2
    have G4 := hide hg4
    have HBW := hide hbw
    have HAP := hide hap
    have HOL := hide (ov_length h xs HH.out j)
    clear hs hg2 hg4 hbw hap
    by_cases hlt : 64 ≤ len - 64 * j
    · have hgeq : (64 : Int) ≤ ((len - 64 * j : Nat) : Int) := by omega
      obtain ⟨a2, hsl2, hs2, hap2⟩ := slice_from HS.out 64 64 rfl hlt
      have HS2 := hide hs2
      have HAP2 := hide (hap2 g2 HAP.out)
      have ED : Hid (xs.drop (64 * (j + 1)) = (xs.drop (64 * j)).drop 64) := hide (by rw [List.drop_drop, Nat.mul_succ])
      have EL : Hid (len - 64 * j - 64 = len - 64 * (j + 1) ∧ cap - 64 * j - 64 = cap - 64 * (j + 1)) := hide (by omega)
      have EO : Hid (ov h xs (j + 1) = comp (ov h xs j) ((xs.drop (64 * j)).take 64)) := hide rfl
      have HB := hide (show ((xs.drop (64 * j)).take 64).length = 64 by rw [List.length_take, List.length_drop, HX.out]; omega)
      have HBB := hide (show isB ((xs.drop (64 * j)).take 64) from (HXB.out.drop _).take _)
      have HGT : Hid (∀ k, k < 64 → ((xs.drop (64 * j)).take 64).getD k 0 = (xs.drop (64 * j)).getD k 0) := hide (fun k hk => by simp [List.getD, hk])
      obtain ⟨b, off, ea, hce⟩ := HS.out.hcell (by omega)
      subst ea
      have HCE := hide hce
      clear hs2 hap2 hce
      have QL := hide (show len - 64 * j = len - 64 * j from rfl)
      generalize hL : len - 64 * j = L at *
      generalize hC : cap - 64 * j = C at *
      generalize (xs.drop (64 * j)) = ys at *
      generalize hBB : ys.take 64 = B at *
      generalize ov h xs j = ws at *
      clear QL
      go_wp2_with (refine step_alloc zB64 rfl ?_)
      intro w3 g5 hg5 hle5 hb5
      have HG5 := hide hg5
      have HS3 := hide (HS.out.below hb5)
      have HS23 := hide (HS2.out.below hb5)
      have G23 := hide (G2.out.below hb5 G2.out.lt)
      have G43 := hide (G4.out.below hb5 G4.out.lt)
      have HBW3 := hide (HBW.out.trans (hb5.mono HBW.out.size))
      have HLT := hide (show b < g5 by have := World.block_lt_of_cell? wr _ (HCE.out 0 (by omega)); have h2 : b < wr.heap.size := this; omega)
      have HCE3 : Hid (∀ i, i < L → w3.cell? ⟨b, off + i, none⟩ = some (.int .u8 (ys.getD i 0))) := hide (fun i hi => by
        have := HCE.out i hi
        rw [hb5.cell (World.block_lt_of_cell? wr _ this)]
        exact this)
      have n25 : g2 ≠ g5 := by have := G2.out.lt; omega
      have n45 : g4 ≠ g5 := by have := G4.out.lt; omega
      have l5 : w.heap.size ≤ g5 := by have := HBW.out.size; omega
      have HAPg5 : Hid (0 < L - 64 → Apart g5 a2) := hide (fun h0 => HS2.out.apart hle5 h0)
      clear hg5 hb5 HS HS2 G2 G4 HBW HCE hle5
      go_wp2
      go_loopw [6] (fun i wq => ∃ k : Nat, k ≤ 64 ∧ i = .int .i64 k ∧ Blk wq g5 124 (spl (u8s (zer 64)) (u8s (B.take k)) 0) ∧ But g5 w3 wq) (fun i _ => 64 - (intOf i).toNat)
      case atStart => exact ⟨0, by omega, rfl, HG5.out, But.refl _ _⟩
      case round =>
        clear HG5
        obtain ⟨k, hk, rfl, hr, hbut⟩ := hrel
        have HR := hide hr
        have HBut := hide hbut
        clear hr hbut
        by_cases hk64 : k < 64
        · obtain ⟨old, hold⟩ := spl_there B 64 k HB.out hk64
          have hcell : wr.cell? ⟨g5, k, none⟩ = some old := by rw [HR.out.cell]; exact hold
          have hfree : wr.frozen? ⟨g5, k, none⟩ = false := HR.out.free k
          have hsrc : wr.cell? ⟨b, off + k, none⟩ = some (.int .u8 (B.getD k 0)) := by
            rw [World.cell?_of_block (w := w3) (HBut.out.block b (by have := HLT.out; omega)), HCE3.out k (by omega), HGT.out k hk64]
          have hkL : (k : Int) < (L : Int) := by omega
          have x2 := index_B64 g5 k (k : Int) rfl hk64
          have HN := hide (spl_next B 64 k HB.out hk64)
          clear hold
          go_wp2
          refine ⟨⟨k + 1, by omega, by go_num, ?_, HBut.out.trans (But.setCell _ _ _ _)⟩, ?_⟩
          · have e := HR.out.set k (.int .u8 (B.getD k 0))
            rw [HN.out] at e
            exact e
          · simp [intOf]; omega
        · obtain rfl : k = 64 := by omega
          have HF := hide HR.out
          rw [List.take_of_length_le (by rw [HB.out]; exact Nat.le_refl _), spl_all B 64 HB.out] at HF
          have G2q := hide (G23.out.but HBut.out n25)
          have G4q := hide (G43.out.but HBut.out n45)
          have HBq := hide (HBW3.out.trans (HBut.out.below l5))
          have HSq := hide (HS23.out.but HBut.out HAPg5.out)
          clear HR G23 G43 HBW3 HS23 HS3 HCE3 HBut
          go_wp2_with (first | (refine step_loadA wW rfl rfl G2q.out (by rw [u32s_length]; exact HOL.out) ?_) | (refine step_loadA wB64 rfl rfl HF.out (by rw [u8s_length]; exact HB.out) ?_) | (go_at_call 80; refine (compR_any _ _ _ HOL.out HBB.out HB.out).mono ?_; rintro e w5 ⟨rfl, hb5⟩; have G25 := hide (G2q.out.below hb5 G2q.out.lt)) | (refine step_storeA wW rfl rfl rfl G25.out (by rw [u32s_length, comp_length _ _ HOL.out]) (One.u32 _) (by rw [u32s_length]; exact HOL.out) ?_; intro w6 hg6 hbut6))
          have hb56 : Below w.heap.size w w6 := HBq.out.trans ((hb5.mono HBq.out.size).trans (hbut6.below hle1))
          refine ⟨⟨j + 1, a2, by omega, by rw [EL.out.1, EL.out.2], ?_, ?_, ?_, hb56, ?_⟩, ?_⟩
          · rw [← EL.out.1, ← EL.out.2, ED.out]
            exact (HSq.out.below hb5).but hbut6 HAP2.out
          · rw [EO.out]
            exact hg6
          · exact (G4q.out.below hb5 G4q.out.lt).but hbut6 (fun e => n24 e.symm)
          · rw [← EL.out.1]
            exact HAP2.out
          · simp only [lenOf]
            omega
    · have hj2 : bk xs = j := by rw [bk, HX.out]; omega
      have hngeq : ¬ (64 : Int) ≤ ((len - 64 * j : Nat) : Int) := by omega
      generalize hL : len - 64 * j = L at *
      go_wp2_with (first | (refine step_loadA wW rfl rfl G2.out (by rw [u32s_length]; exact HOL.out) ?_) | (refine step_storeA wW rfl rfl rfl G4.out (by rw [u32s_length]; exact HOL.out) (One.u32 _) rfl ?_; intro w6 hg6 hbut6))
      refine bodyPost_ret (results_wide rfl wW _ _ rfl hg6 (by rw [u32s_length]; exact HOL.out)) rfl ⟨rfl, ?_⟩
      exact HBW.out.trans (hbut6.below l4)

theorem wb_snoc (ws : List Int) (k : Nat) (h : k < ws.length) : wb (ws.take (k + 1)) = wb (ws.take k) ++ be (ws.getD k 0) 4 := by
  rw [List.take_succ_eq_append_getElem h, wb, List.flatMap_append]
  congr 1
  simp [List.getD, h]
theorem Own.mono {w : World} {B B' : Nat} {v : Value} {xs : List Int} (h : Own w B v xs) (hB : B' ≤ B) : Own w B' v xs := by
  obtain ⟨h1, h2⟩ := h
  refine ⟨h1, ?_⟩
  rcases h2 with h2 | ⟨g, cap, cur, e, hg, r⟩
  · exact .inl h2
  · exact .inr ⟨g, cap, cur, e, Nat.le_trans hB hg, r⟩

set_option maxRecDepth 100000 in
set_option maxHeartbeats 2000000 in
theorem wordsR_any (ws : List Int) (w : World) (hw : ws.length = 8) (hwW : isW ws) :
    Calls Tryd.prog 74 #[.agg (u32s ws).toArray] w fun e w' => ∃ v, e = .returned v ∧ Own w' w.heap.size v (wb ws) ∧ v ≠ .slice none 0 0 ∧ Below w.heap.size w w' := by
  have HW := hide hw
  have HWW := hide hwW
  clear hw hwW
  go_enter Tryd.func74, Tryd.ntmps74
  go_wp2_with (refine step_box rfl rfl ?_; intro w1 g1 hg1 hle1 hb1)
  have HG1 := hide hg1
  have HB1 := hide hb1
  clear hg1 hb1
  go_loopw [3, 4] (fun v i wr => ∃ k : Nat, k ≤ 8 ∧ i = .int .i64 k ∧ Own wr w1.heap.size v (wb (ws.take k)) ∧ (0 < k → v ≠ .slice none 0 0) ∧ Blk wr g1 119 (u32s ws) ∧ Below w1.heap.size w1 wr) (fun _ i _ => 8 - (intOf i).toNat)
  case atStart => exact ⟨0, by omega, rfl, Own.nil _ _, by omega, HG1.out, Below.refl _ _⟩
  case round =>
    obtain ⟨k, hk, rfl, ho, hne, hg, hb⟩ := hrel
    have HO := hide ho
    have HN := hide hne
    have HG := hide hg
    have HB := hide hb
    have HWL := hide (show (wb (ws.take k)).length = 4 * k by rw [wb_length, List.length_take, HW.out]; omega)
    clear ho hne hg hb
    by_cases hlt : k < 8
    · have hlt' : (k : Int) < 8 := by omega
      have cw : wr.cell? ⟨g1, k, none⟩ = some (.int .u32 (ws.getD k 0)) := by rw [HG.out.cell]; exact u32s_get _ _ (by rw [HW.out]; exact hlt)
      have x1 := index_W g1 k (k : Int) rfl hlt
      have hx := HWW.out.get k
      have HSN := hide (wb_snoc ws k (by rw [HW.out]; exact hlt))
      generalize ws.getD k 0 = x at *
      have hwx : x % 18446744073709551616 = x := by omega
      go_wp2_with (first | (go_at_call 53; refine (number_ref _ 4 _ (by omega) (by omega) (by omega)).mono ?_; rintro e w3 ⟨g3, rfl, hle3, hg3, hb3⟩; have HS3 := hide (be_sl hg3 (by omega))) | (refine step_append rfl rfl rfl (HO.out.below hb3) HS3.out (by rw [HWL.out]; omega) (Nat.le_trans HB.out.size hb3.size) ?_; intro v4 w4 ho4 hg4 hn4))
      have hb4 : Below w1.heap.size w1 w4 := (HB.out.trans (hb3.mono HB.out.size)).grown hg4 (Nat.le_trans HB.out.size hb3.size) HO.out.lt
      refine ⟨⟨k + 1, by omega, by go_num, ?_, ?_, HG1.out.below hb4 HG1.out.lt, hb4⟩, ?_⟩
      · rw [HSN.out]
        exact ho4
      · intro _ h
        have := (hn4 h).2
        omega
      · simp [intOf]; omega
    · obtain rfl : k = 8 := by omega
      have HO2 := hide HO.out
      rw [List.take_of_length_le (by rw [HW.out]; exact Nat.le_refl _)] at HO2
      go_wp2
      go_ret
      exact ⟨_, rfl, HO2.out.mono HB1.out.size, HN.out (by omega), HB1.out.trans (HB.out.mono HB1.out.size)⟩

theorem results_wide3 {fn : Func} {p u v : Tmp} {T : TypeId} (h : fn.results = #[.cell p T, .tmp u, .tmp v]) {n : Nat} (hT : Wide T n) (tmps : Array Value) (w : World)
    {g : Nat} {t : TypeId} {cs : List Value} (hp : tmps.getD p undef = .pointer (some ⟨g, 0, none⟩)) (hg : Blk w g t cs) (hl : cs.length = n) :
    (results fn tmps).run Tryd.prog w = .ok (.tuple #[.agg cs.toArray, tmps.getD u undef, tmps.getD v undef]) w := by
  have hp' : tmps[p]?.getD undef = .pointer (some ⟨g, 0, none⟩) := by simpa using hp
  obtain ⟨d, hu, hd⟩ := hT.und
  simp [results, h, hp', asAddr, run_loadVar_mid w g 0 T cs d (hg.range 0 cs (by simp)) hu hd (by rw [hT.size, hl])]

set_option maxRecDepth 100000 in
set_option maxHeartbeats 2000000 in
theorem digR_any (a : Option Addr) (cap : Nat) (xs : List Int) (w : World) (hs : Sl w a 32 cap xs) :
    Calls Tryd.prog 40 #[.slice a 32 cap, .int .i64 0] w fun e w' => e = .returned (.tuple #[.agg (u8s xs).toArray, .int .i64 32, .int .i64 0]) ∧ Below w.heap.size w w' := by
  have HX := hide hs.hlen
  obtain ⟨b, off, rfl, hce⟩ := hs.hcell (by omega)
  have hbl : b < w.heap.size := World.block_lt_of_cell? w _ (hce 0 (by omega))
  have HCE := hide hce
  clear hs hce
  go_enter Tryd.func40, Tryd.ntmps40
  go_wp2_with (refine step_alloc zD0 rfl ?_)
  intro w1 g1 hg1 hle1 hb1
  go_wp2_with (refine step_alloc zD0 rfl ?_)
  intro w2 g2 hg2 hle2 hb2
  have hb12 : Below w.heap.size w w2 := hb1.trans (hb2.mono hb1.size)
  have G1 := hide (hg1.below hb2 hg1.lt)
  have G2 := hide hg2
  have n12 : g1 ≠ g2 := by have := hg1.lt; omega
  have l2 : w.heap.size ≤ g2 := by have := hb1.size; omega
  have HCE2 : Hid (∀ i, i < 32 → w2.cell? ⟨b, off + i, none⟩ = some (.int .u8 (xs.getD i 0))) := hide (fun i hi => by
    rw [hb12.cell (p := ⟨b, off + i, none⟩) hbl]; exact HCE.out i hi)
  have HB12 := hide hb12
  clear hg1 hg2 hb1 hb2 hb12 HCE hle2
  go_wp2
  go_loopw [8] (fun i wq => ∃ k : Nat, k ≤ 32 ∧ i = .int .i64 k ∧ Blk wq g2 33 (spl (u8s (zer 32)) (u8s (xs.take k)) 0) ∧ But g2 w2 wq) (fun i _ => 32 - (intOf i).toNat)
  case atStart => exact ⟨0, by omega, rfl, G2.out, But.refl _ _⟩
  case round =>
    clear G2
    obtain ⟨k, hk, rfl, hr, hbut⟩ := hrel
    have HR := hide hr
    have HBut := hide hbut
    clear hr hbut
    by_cases hk32 : k < 32
    · obtain ⟨old, hold⟩ := spl_there xs 32 k HX.out hk32
      have hcell : wr.cell? ⟨g2, k, none⟩ = some old := by rw [HR.out.cell]; exact hold
      have hfree : wr.frozen? ⟨g2, k, none⟩ = false := HR.out.free k
      have hsrc : wr.cell? ⟨b, off + k, none⟩ = some (.int .u8 (xs.getD k 0)) := by
        rw [World.cell?_of_block (w := w2) (HBut.out.block b (by omega)), HCE2.out k hk32]
      have hkL : (k : Int) < 32 := by omega
      have x2 := index_D g2 k (k : Int) rfl hk32
      have HN := hide (spl_next xs 32 k HX.out hk32)
      clear hold
      go_wp2
      refine ⟨⟨k + 1, by omega, by go_num, ?_, HBut.out.trans (But.setCell _ _ _ _)⟩, ?_⟩
      · have e := HR.out.set k (.int .u8 (xs.getD k 0))
        rw [HN.out] at e
        exact e
      · simp [intOf]; omega
    · obtain rfl : k = 32 := by omega
      have HF := hide HR.out
      rw [List.take_of_length_le (by rw [HX.out]; exact Nat.le_refl _), spl_all xs 32 HX.out] at HF
      have G1q := hide (G1.out.but HBut.out n12)
      go_wp2_with (first | (refine step_loadA wD0 rfl rfl HF.out (by rw [u8s_length]; exact HX.out) ?_) | (refine step_storeA wD0 rfl rfl rfl G1q.out (by rw [u8s_length]; exact HX.out) (One.u8 _) rfl ?_; intro w6 hg6 hbut6))
      refine bodyPost_ret (results_wide3 rfl wD0 _ _ rfl hg6 (by rw [u8s_length]; exact HX.out)) rfl ⟨rfl, ?_⟩
      exact HB12.out.trans ((HBut.out.below l2).trans (hbut6.below hle1))

end Go.Proofs.YthgfbcndoedacaaDoor
