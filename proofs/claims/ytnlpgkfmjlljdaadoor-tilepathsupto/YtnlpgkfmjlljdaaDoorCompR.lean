/-
  The compression of a block: the document's.
-/
import Derived.Test.YtnlpgkfmjlljdaaDoorComp
import Derived.Test.YtnlpgkfmjlljdaaDoorCst
namespace Go.Proofs.YtnlpgkfmjlljdaaDoor
open Go.RowKit
set_option linter.unusedVariables false

/-- Words moved up by one place, from the last down to place i. -/
def shf (l : List Int) (i : Nat) : List Int := l.take (i + 1) ++ (l.drop i).take (7 - i)
theorem shf_step (l : List Int) (hl : l.length = 8) (i : Nat) (h0 : 0 < i) (h1 : i ≤ 7) :
    (shf l i).length = 8 ∧ (shf l i).getD (i - 1) 0 = l.getD (i - 1) 0 ∧ (shf l i).set i (l.getD (i - 1) 0) = shf l (i - 1) := by
  obtain ⟨a, b, c, d, e, f, g, h, rfl⟩ := eight l hl
  match i, h0, h1 with
  | 1, _, _ => exact ⟨rfl, rfl, rfl⟩
  | 2, _, _ => exact ⟨rfl, rfl, rfl⟩
  | 3, _, _ => exact ⟨rfl, rfl, rfl⟩
  | 4, _, _ => exact ⟨rfl, rfl, rfl⟩
  | 5, _, _ => exact ⟨rfl, rfl, rfl⟩
  | 6, _, _ => exact ⟨rfl, rfl, rfl⟩
  | 7, _, _ => exact ⟨rfl, rfl, rfl⟩

/-- The first i words with others added. -/
def fin (l h : List Int) (i : Nat) : List Int := (List.zipWith ad l h).take i ++ l.drop i
theorem fin_step (l h : List Int) (hl : l.length = 8) (hh : h.length = 8) (i : Nat) (h1 : i < 8) :
    (fin l h i).length = 8 ∧ (fin l h i).getD i 0 = l.getD i 0 ∧ (fin l h i).set i (ad (l.getD i 0) (h.getD i 0)) = fin l h (i + 1) := by
  obtain ⟨a, b, c, d, e, f, g, k, rfl⟩ := eight l hl
  obtain ⟨a', b', c', d', e', f', g', k', rfl⟩ := eight h hh
  match i, h1 with
  | 0, _ => exact ⟨rfl, rfl, rfl⟩
  | 1, _ => exact ⟨rfl, rfl, rfl⟩
  | 2, _ => exact ⟨rfl, rfl, rfl⟩
  | 3, _ => exact ⟨rfl, rfl, rfl⟩
  | 4, _ => exact ⟨rfl, rfl, rfl⟩
  | 5, _ => exact ⟨rfl, rfl, rfl⟩
  | 6, _ => exact ⟨rfl, rfl, rfl⟩
  | 7, _ => exact ⟨rfl, rfl, rfl⟩
theorem fin_all (l h : List Int) (hl : l.length = 8) (hh : h.length = 8) : fin l h 8 = List.zipWith ad h l := by
  obtain ⟨a, b, c, d, e, f, g, k, rfl⟩ := eight l hl
  obtain ⟨a', b', c', d', e', f', g', k', rfl⟩ := eight h hh
  simp [fin, ad, Int.add_comm]

theorem mod_in (d u : Int) : (d + u) % 4294967296 = (d + u % 4294967296) % 4294967296 := by omega
theorem mod_both (u v : Int) : (u + v) % 4294967296 = (u % 4294967296 + v % 4294967296) % 4294967296 := by omega
theorem index_W (g i : Nat) (I : Int) (hI : I = (i : Int)) (hi : i < 8) (w : World) : (Instr.indexAt 112 (.pointer (some ⟨g, 0, none⟩)) (.int .i64 I)).run Tryd.prog w = .ok (.pointer (some ⟨g, i, none⟩)) w :=
  index_at (by kernel_rfl) (by kernel_rfl) (fun _ => by kernel_rfl) g i I hI hi w

/-- What stands behind the beginning: the block's words, the constants, the words handed in, in their places. -/
structure CR (w0 : World) (h blk : List Int) (g1 g4 g5 g6 g7 : Nat) (l : List Int) (w : World) : Prop where
  b1 : Blk w g1 112 (u32s h)
  b4 : Blk w g4 112 (u32s (zer 8))
  b5 : Blk w g5 153 (u32s (sched blk))
  b6 : Blk w g6 153 (u32s kL)
  b7 : Blk w g7 112 (u32s l)
  bel : Below w0.heap.size w0 w
theorem CR.drewN {w0 : World} {h blk : List Int} {g1 g4 g5 g6 g7 : Nat} {l : List Int} {w : World} (c : CR w0 h blk g1 g4 g5 g6 g7 l w) (n : Nat) : CR w0 h blk g1 g4 g5 g6 g7 l (w.drewN n) :=
  ⟨c.b1, c.b4, c.b5, c.b6, c.b7, below_drewN c.bel n⟩
/-- The blocks are apart. -/
structure Ap (w0 : World) (g1 g4 g5 g6 g7 : Nat) : Prop where
  a1 : g1 ≠ g7
  a4 : g4 ≠ g7
  a5 : g5 ≠ g7
  a6 : g6 ≠ g7
  n7 : w0.heap.size ≤ g7
  n4 : w0.heap.size ≤ g4
theorem CR.set {w0 : World} {h blk : List Int} {g1 g4 g5 g6 g7 : Nat} {l : List Int} {w : World} (c : CR w0 h blk g1 g4 g5 g6 g7 l w) (ap : Ap w0 g1 g4 g5 g6 g7) (i : Nat) (x : Int) : CR w0 h blk g1 g4 g5 g6 g7 (l.set i x) (w.setCell ⟨g7, i, none⟩ (.int .u32 x)) :=
  ⟨c.b1.but (But.setCell _ _ _ _) ap.a1, c.b4.but (But.setCell _ _ _ _) ap.a4, c.b5.but (But.setCell _ _ _ _) ap.a5, c.b6.but (But.setCell _ _ _ _) ap.a6, by have := c.b7.set i (.int .u32 x); rwa [u32s_set] at this, c.bel.trans ((But.setCell _ _ _ _).below ap.n7)⟩
theorem CR.c1 {w0 : World} {h blk : List Int} {g1 g4 g5 g6 g7 : Nat} {l : List Int} {w : World} (c : CR w0 h blk g1 g4 g5 g6 g7 l w) (i : Nat) (hi : i < h.length) : w.cell? ⟨g1, i, none⟩ = some (.int .u32 (h.getD i 0)) := by
  rw [c.b1.cell]; exact u32s_get _ _ hi
theorem CR.c7 {w0 : World} {h blk : List Int} {g1 g4 g5 g6 g7 : Nat} {l : List Int} {w : World} (c : CR w0 h blk g1 g4 g5 g6 g7 l w) (i : Nat) (hi : i < l.length) : w.cell? ⟨g7, i, none⟩ = some (.int .u32 (l.getD i 0)) := by
  rw [c.b7.cell]; exact u32s_get _ _ hi

set_option maxRecDepth 100000 in
set_option maxHeartbeats 2000000 in
theorem compR_any (hv blk : List Int) (w : World) (hh : hv.length = 8) (hb : isB blk) (hl : blk.length = 64) :
    Calls Tryd.prog 121 #[.agg (u32s hv).toArray, .agg (u8s blk).toArray] w fun e w' => e = .returned (.agg (u32s (comp hv blk)).toArray) ∧ Below w.heap.size w w' := by
  have HB := hide hb
  have HL := hide hl
  have HH := hide hh
  clear hb hl hh
  go_enter Tryd.func121, Tryd.ntmps121
  go_wp2_with (refine step_box rfl rfl ?_)
  intro w1 g1 hg1 hle1 hb1
  go_wp2_with (refine step_box rfl rfl ?_)
  intro w2 g2 hg2 hle2 hb2
  go_wp2_with (refine step_alloc zW rfl ?_)
  intro w3 g4 hg3 hle3 hb3
  have G1 := hide ((hg1.below hb2 hg1.lt).below hb3 (by have := hg1.lt; have := hb2.size; omega))
  have G2 := hide (hg2.below hb3 hg2.lt)
  have G3 := hide hg3
  have hw3 : Below w.heap.size w w3 := hb1.trans ((hb2.mono hb1.size).trans (hb3.mono (Nat.le_trans hb1.size hb2.size)))
  have hlt3 : w.heap.size ≤ g4 := by have := hb1.size; have := hb2.size; omega
  clear hg1 hg2 hg3 hb1 hb2 hb3 hle1 hle2 hle3
  go_wp2_with (first | (refine step_loadA wB64 rfl rfl G2.out (by rw [u8s_length]; exact HL.out) ?_) | (go_at_call 128; refine (schedR_any _ _ HB.out HL.out).mono ?_; rintro e w4 ⟨rfl, hb4⟩) | (refine step_alloc zK rfl ?_))
  intro w5 g5 hg5 hle5 hb5
  go_wp2_with (refine step_storeA wK rfl rfl rfl hg5 (by rw [u32s_length, sched_length]) (One.u32 _) rfl ?_)
  intro w6 hg6 hbut6
  have hb35 : Below w3.heap.size w3 w5 := hb4.trans (hb5.mono hb4.size)
  have hb36 : Below w3.heap.size w3 w6 := hb35.trans (hbut6.below (by have := hb4.size; omega))
  have J1 := hide (G1.out.below hb36 G1.out.lt)
  have J3 := hide (G3.out.below hb36 G3.out.lt)
  have J5 := hide hg6
  have hw6 : Below w.heap.size w w6 := hw3.trans (hb36.mono hw3.size)
  clear hg6 hbut6 hb35 hb36 hg5 hb5 hle5 hb4 G1 G2 G3 hw3
  go_wp2_with (first | (go_at_call 129; refine (consts_any _).mono ?_; rintro e w7 ⟨rfl, hb7⟩) | (refine step_alloc zK rfl ?_))
  intro w8 g6 hg8 hle8 hb8
  go_wp2_with (refine step_storeA wK rfl rfl rfl hg8 rfl (One.u32 _) rfl ?_)
  intro w9 hg9 hbut9
  have hb68 : Below w6.heap.size w6 w8 := hb7.trans (hb8.mono hb7.size)
  have hb69 : Below w6.heap.size w6 w9 := hb68.trans (hbut9.below (by have := hb7.size; omega))
  have M1 := hide (J1.out.below hb69 J1.out.lt)
  have M3 := hide (J3.out.below hb69 J3.out.lt)
  have M5 := hide (J5.out.below hb69 J5.out.lt)
  have M6 := hide hg9
  have hw9 : Below w.heap.size w w9 := hw6.trans (hb69.mono hw6.size)
  clear hg9 hbut9 hb68 hb69 hg8 hb8 hle8 hb7 J1 J3 J5 hw6
  go_wp2_with (first | (refine step_loadA wW rfl rfl M1.out (by rw [u32s_length]; exact HH.out) ?_) | (refine step_alloc zW rfl ?_))
  intro wa g7 hga hlea hba
  go_wp2_with (refine step_storeA wW rfl rfl rfl hga (by rw [u32s_length]; exact HH.out) (One.u32 _) rfl ?_)
  intro wb hgb hbutb
  have hb9b : Below w9.heap.size w9 wb := hba.trans (hbutb.below hlea)
  have AP : Ap w g1 g4 g5 g6 g7 := by
    have := M1.out.lt; have := M3.out.lt; have := M5.out.lt; have := M6.out.lt; have := hw9.size
    exact ⟨by omega, by omega, by omega, by omega, by omega, hlt3⟩
  have C0 : CR w hv blk g1 g4 g5 g6 g7 hv wb := ⟨M1.out.below hb9b M1.out.lt, M3.out.below hb9b M3.out.lt, M5.out.below hb9b M5.out.lt, M6.out.below hb9b M6.out.lt, hgb, hw9.trans (hb9b.mono hw9.size)⟩
  clear hb9b hgb hbutb hba hlea hga M1 M3 M5 M6 hw9
  have C1 := hide C0
  clear C0
  go_wp2
  go_loopw [8] (fun i wr => ∃ t : Nat, t ≤ 64 ∧ i = .int .i64 t ∧ CR w hv blk g1 g4 g5 g6 g7 (rds hv (sched blk) t) wr) (fun i _ => 64 - (intOf i).toNat)
  case atStart => exact ⟨0, by omega, rfl, C1.out⟩
  case round =>
    clear C1
    obtain ⟨t, ht, rfl, hc⟩ := hrel
    have HC := hide hc
    clear hc
    have HN : Hid (rds hv (sched blk) (t + 1) = rnd (kL.getD t 0) ((sched blk).getD t 0) (rds hv (sched blk) t)) := hide rfl
    have HLL := hide (rds_length hv (sched blk) HH.out t)
    by_cases hlt : t < 64
    · have hlt' : (t : Int) < 64 := by omega
      have ck : wr.cell? ⟨g6, t, none⟩ = some (.int .u32 (kL.getD t 0)) := by rw [HC.out.b6.cell]; exact u32s_get _ _ hlt
      have cw : wr.cell? ⟨g5, t, none⟩ = some (.int .u32 ((sched blk).getD t 0)) := by rw [HC.out.b5.cell]; exact u32s_get _ _ (by rw [sched_length]; exact hlt)
      revert ck cw HN HC HLL
      generalize kL.getD t 0 = kt
      generalize (sched blk).getD t 0 = wt
      generalize rds hv (sched blk) t = l
      intro HC HN HLL ck cw
      obtain ⟨a, b, c, d, e, f, g, hh, rfl⟩ := eight l HLL.out
      have x0 := index_K g5 t (t : Int) rfl hlt
      have y0 := index_K g6 t (t : Int) rfl hlt
      have c0 : wr.cell? ⟨g7, 0, none⟩ = some (.int .u32 a) := by rw [HC.out.b7.cell]; rfl
      have c1 : wr.cell? ⟨g7, 1, none⟩ = some (.int .u32 b) := by rw [HC.out.b7.cell]; rfl
      have c2 : wr.cell? ⟨g7, 2, none⟩ = some (.int .u32 c) := by rw [HC.out.b7.cell]; rfl
      have c4 : wr.cell? ⟨g7, 4, none⟩ = some (.int .u32 e) := by rw [HC.out.b7.cell]; rfl
      have c5 : wr.cell? ⟨g7, 5, none⟩ = some (.int .u32 f) := by rw [HC.out.b7.cell]; rfl
      have c6 : wr.cell? ⟨g7, 6, none⟩ = some (.int .u32 g) := by rw [HC.out.b7.cell]; rfl
      have c7 : wr.cell? ⟨g7, 7, none⟩ = some (.int .u32 hh) := by rw [HC.out.b7.cell]; rfl
      go_wp2_with fail
      go_quiet (first | (go_at_call 130; refine quiet_eq (ror_any _ _ (by decide) _)))
      have HC2 := hide (HC.out.drewN nq)
      clear c0 c1 c2 c4 c5 c6 c7 ck cw HC x0 y0
      go_wp2_with fail
      revert HC2
      generalize wr.drewN nq = wq
      intro HC2
      have d1 : wq.cell? ⟨g7, 1, none⟩ = some (.int .u32 b) := by rw [HC2.out.b7.cell]; rfl
      have d2 : wq.cell? ⟨g7, 2, none⟩ = some (.int .u32 c) := by rw [HC2.out.b7.cell]; rfl
      go_quiet (first | (go_at_call 130; refine quiet_eq (ror_any _ _ (by decide) _)))
      have HC3 := hide (HC2.out.drewN nq)
      clear d1 d2 HC2
      go_wp2_with fail
      revert HC3
      generalize wq.drewN nq = wz
      intro HC3
      go_loopw [13] (fun i wr => ∃ j : Nat, j ≤ 7 ∧ i = .int .i64 j ∧ CR w hv blk g1 g4 g5 g6 g7 (shf [a, b, c, d, e, f, g, hh] j) wr) (fun i _ => (intOf i).toNat)
      case atStart => exact ⟨7, by omega, rfl, HC3.out⟩
      case round =>
        clear HC3
        obtain ⟨j, hj, rfl, hc⟩ := hrel
        have HC4 := hide hc
        clear hc
        by_cases hj0 : 0 < j
        · have HSh := hide (shf_step [a, b, c, d, e, f, g, hh] rfl j hj0 hj)
          have hj0' : (0 : Int) < (j : Int) := by omega
          have ca := HC4.out.c7 (j - 1) (by rw [HSh.out.1]; omega)
          rw [HSh.out.2.1] at ca
          have cb := HC4.out.c7 j (by rw [HSh.out.1]; omega)
          have hfree : wr.frozen? ⟨g7, j, none⟩ = false := HC4.out.b7.free j
          have z1 : IntKind.i64.wrap ((j : Int) - 1) = (j : Int) - 1 := wrap_in _ (by omega) (by omega)
          have x1 := index_W g7 (j - 1) ((j : Int) - 1) (by omega) (by omega)
          have x2 := index_W g7 j (j : Int) rfl (by omega)
          go_wp2
          refine ⟨⟨j - 1, by omega, ?_, ?_⟩, ?_⟩
          · congr 1; omega
          · have := HC4.out.set AP j ([a, b, c, d, e, f, g, hh].getD (j - 1) 0)
            rw [HSh.out.2.2] at this
            exact this
          · simp [intOf]; omega
        · obtain rfl : j = 0 := by omega
          have e4 : wr.cell? ⟨g7, 4, none⟩ = some (.int .u32 d) := by rw [HC4.out.b7.cell]; rfl
          have e0 : wr.cell? ⟨g7, 0, none⟩ = some (.int .u32 a) := by rw [HC4.out.b7.cell]; rfl
          have f4 : wr.frozen? ⟨g7, 4, none⟩ = false := HC4.out.b7.free 4
          have f0 : wr.frozen? ⟨g7, 0, none⟩ = false := HC4.out.b7.free 0
          go_wp2
          refine ⟨⟨t + 1, by omega, by go_num, ?_⟩, ?_⟩
          · rw [HN.out]
            have hz := (HC4.out.set AP 4 (ad d (rndU e f g hh kt wt))).set AP 0 (ad (rndU e f g hh kt wt) (rndV a b c))
            rw [mod_in d, mod_both (hh + _ + _ + kt + wt)]
            exact hz
          · simp [intOf]; omega
    · obtain rfl : t = 64 := by omega
      go_wp2
      go_loopw [14] (fun i wr => ∃ j : Nat, j ≤ 8 ∧ i = .int .i64 j ∧ CR w hv blk g1 g4 g5 g6 g7 (fin (rds hv (sched blk) 64) hv j) wr) (fun i _ => 8 - (intOf i).toNat)
      case atStart => exact ⟨0, by omega, rfl, by simpa [fin] using HC.out⟩
      case round =>
        clear HC
        obtain ⟨j, hj, rfl, hc⟩ := hrel
        have HC5 := hide hc
        clear hc
        by_cases hj8 : j < 8
        · have HF := hide (fin_step (rds hv (sched blk) 64) hv HLL.out HH.out j hj8)
          have hj8' : (j : Int) < 8 := by omega
          have ca := HC5.out.c7 j (by rw [HF.out.1]; omega)
          rw [HF.out.2.1] at ca
          have cb := HC5.out.c1 j (by rw [HH.out]; omega)
          have hfree : wr.frozen? ⟨g7, j, none⟩ = false := HC5.out.b7.free j
          have x1 := index_W g7 j (j : Int) rfl (by omega)
          have x2 := index_W g1 j (j : Int) rfl (by omega)
          go_wp2_with fail
          go_region
          go_wp2
          refine ⟨⟨j + 1, by omega, by go_num, ?_⟩, ?_⟩
          · have hz := (HC5.out.set AP j (ad ((rds hv (sched blk) 64).getD j 0) (hv.getD j 0))).drewN 1
            rw [HF.out.2.2] at hz
            exact hz
          · simp [intOf]; omega
        · obtain rfl : j = 8 := by omega
          have HG := hide HC5.out.b7
          rw [fin_all _ _ HLL.out HH.out] at HG
          have HCL : Hid ((List.zipWith ad hv (rds hv (sched blk) 64)).length = 8) := hide (comp_length hv blk HH.out)
          go_wp2_with (first | (refine step_loadA wW rfl rfl HG.out (by rw [u32s_length]; exact HCL.out) ?_) | (refine step_storeA wW rfl rfl rfl HC5.out.b4 (by rw [u32s_length]; exact HCL.out) (One.u32 _) rfl ?_; intro wx hgx hbutx))
          refine bodyPost_ret (results_wide rfl wW _ _ rfl hgx (by rw [u32s_length]; exact HCL.out)) rfl ⟨rfl, ?_⟩
          exact HC5.out.bel.trans (hbutx.below AP.n4)

end Go.Proofs.YtnlpgkfmjlljdaaDoor
