/-
  The compression of a block: the program's.
-/
import Derived.Test.YtnlpgkfmjlljdaaDoorSched
import Derived.Test.YtnlpgkfmjlljdaaDoorCon
namespace Go.Proofs.YtnlpgkfmjlljdaaDoor
open Go.RowKit
set_option linter.unusedVariables false

def ad (x y : Int) : Int := (x + y) % 4294967296
/-- All bits turned. -/
def nt (x : Int) : Int := xr 4294967295 x
def rndU (e f g h k w : Int) : Int := (h + sg e 6 11 25 + xr (an e f) (an (nt e) g) + k + w) % 4294967296
def rndV (a b c : Int) : Int := (sg a 2 13 22 + xr (xr (an a b) (an a c)) (an b c)) % 4294967296
/-- One round. -/
def rnd (k w : Int) : List Int → List Int
  | [a, b, c, d, e, f, g, h] => [ad (rndU e f g h k w) (rndV a b c), a, b, c, ad d (rndU e f g h k w), e, f, g]
  | l => l
/-- The first t rounds. -/
def rds (h ws : List Int) : Nat → List Int
  | 0 => h
  | t + 1 => rnd (kL.getD t 0) (ws.getD t 0) (rds h ws t)
theorem rnd_length (k w : Int) (l : List Int) (h : l.length = 8) : (rnd k w l).length = 8 := by
  match l, h with
  | [_, _, _, _, _, _, _, _], _ => rfl
theorem rds_length (h ws : List Int) (hl : h.length = 8) : ∀ t, (rds h ws t).length = 8
  | 0 => hl
  | t + 1 => rnd_length _ _ _ (rds_length h ws hl t)
/-- The words behind a block. -/
def comp (h blk : List Int) : List Int := List.zipWith ad h (rds h (sched blk) 64)
theorem comp_length (h blk : List Int) (hl : h.length = 8) : (comp h blk).length = 8 := by
  simp [comp, rds_length h (sched blk) hl 64, hl]

theorem eight (l : List Int) (h : l.length = 8) : ∃ a b c d e f g i, l = [a, b, c, d, e, f, g, i] := by
  match l, h with
  | [a, b, c, d, e, f, g, i], _ => exact ⟨a, b, c, d, e, f, g, i, rfl⟩

theorem zW : Zeroed 112 (u32s (zer 8)) := fun _ _ _ _ _ _ _ => by kernel_rfl
theorem wW : Wide 112 8 := ⟨by kernel_rfl, by kernel_rfl⟩
theorem aW8 : Arr 112 111 .u32 8 := ⟨by kernel_rfl, by kernel_rfl, by kernel_rfl, by kernel_rfl, by kernel_rfl, by kernel_rfl⟩
theorem aK : Arr 153 111 .u32 64 := ⟨by kernel_rfl, by kernel_rfl, by kernel_rfl, by kernel_rfl, by kernel_rfl, by kernel_rfl⟩
theorem aB64 : Arr 113 5 .u8 64 := ⟨by kernel_rfl, by kernel_rfl, by kernel_rfl, by kernel_rfl, by kernel_rfl, by kernel_rfl⟩
theorem cW8 : Tryd.prog.cellsOf 112 = 8 := by kernel_rfl
theorem cB64 : Tryd.prog.cellsOf 113 = 64 := by kernel_rfl
theorem wB64 : Wide 113 64 := ⟨by kernel_rfl, by kernel_rfl⟩

theorem quiet_eq {P : Program} {f : FuncId} {args : Array Value} {w : World} {n : Nat} {v : Value}
    (h : Calls P f args (w.drewN n) fun e w' => e = .returned v ∧ w.drewN n = w') : Calls P f args (w.drewN n) fun e w'' => e = .returned v ∧ ∃ m, w'' = w.drewN m :=
  h.mono fun _ _ ⟨he, hm⟩ => ⟨he, n, hm.symm⟩

set_option maxRecDepth 100000 in
set_option maxHeartbeats 2000000 in
theorem comp_any (h blk : List Int) (w : World) (hh : h.length = 8) (hb : isB blk) (hl : blk.length = 64) (hk : KT w) :
    Calls Tryd.prog 102 #[.agg (u32s h).toArray, .agg (u8s blk).toArray] w fun e w' => e = .returned (.agg (u32s (comp h blk)).toArray) ∧ Below w.heap.size w w' := by
  have HB := hide hb
  have HL := hide hl
  have HK := hide hk
  clear hb hl hk
  go_enter Tryd.func102, Tryd.ntmps102
  go_wp2_with (refine step_box rfl rfl ?_)
  intro w1 g1 hg1 hle1 hb1
  go_wp2_with (refine step_box rfl rfl ?_)
  intro w2 g2 hg2 hle2 hb2
  go_wp2_with (refine step_alloc zW rfl ?_)
  intro w3 g3 hg3 hle3 hb3
  have G1 := hide ((hg1.below hb2 hg1.lt).below hb3 (by have := hg1.lt; have := hb2.size; omega))
  have G2 := hide (hg2.below hb3 hg2.lt)
  have G3 := hide hg3
  have hw3 : Below w.heap.size w w3 := hb1.trans ((hb2.mono hb1.size).trans (hb3.mono (Nat.le_trans hb1.size hb2.size)))
  have hlt3 : w.heap.size ≤ g3 := by have := hb1.size; have := hb2.size; omega
  clear hg1 hg2 hg3 hb1 hb2 hb3 hle1 hle2 hle3
  go_wp2_with (first | (refine step_loadA wB64 rfl rfl G2.out (by rw [u8s_length]; exact HL.out) ?_) | (go_at_call 117; refine (sched_any _ _ HB.out HL.out).mono ?_; rintro e w4 ⟨rfl, hb4⟩) | (refine step_alloc zK rfl ?_))
  intro w5 g5 hg5 hle5 hb5
  go_wp2_with (refine step_storeA wK rfl rfl rfl hg5 (by rw [u32s_length, sched_length]) (One.u32 _) rfl ?_)
  intro w6 hg6 hbut6
  have hlt := w.heap.size
  have hb35 : Below w3.heap.size w3 w5 := hb4.trans (hb5.mono hb4.size)
  have hb36 : Below w3.heap.size w3 w6 := hb35.trans (hbut6.below (by have := hb4.size; omega))
  have J1 := hide (G1.out.below hb36 G1.out.lt)
  have J3 := hide (G3.out.below hb36 G3.out.lt)
  have J5 := hide hg6
  have hw6 : Below w.heap.size w w6 := hw3.trans (hb36.mono hw3.size)
  have K6 := hide (HK.out.below hw6 HK.out.lt)
  clear hg6 hbut6 hb35 hb36 hg5 hb5 hle5 hb4 G1 G2 G3 hw3
  obtain ⟨h0, h1, h2, h3, h4, h5, h6, h7, rfl⟩ := eight h hh
  have c0 : w6.cell? ⟨g1, 0, none⟩ = some (.int .u32 h0) := by rw [J1.out.cell]; rfl
  have c1 : w6.cell? ⟨g1, 1, none⟩ = some (.int .u32 h1) := by rw [J1.out.cell]; rfl
  have c2 : w6.cell? ⟨g1, 2, none⟩ = some (.int .u32 h2) := by rw [J1.out.cell]; rfl
  have c3 : w6.cell? ⟨g1, 3, none⟩ = some (.int .u32 h3) := by rw [J1.out.cell]; rfl
  have c4 : w6.cell? ⟨g1, 4, none⟩ = some (.int .u32 h4) := by rw [J1.out.cell]; rfl
  have c5 : w6.cell? ⟨g1, 5, none⟩ = some (.int .u32 h5) := by rw [J1.out.cell]; rfl
  have c6 : w6.cell? ⟨g1, 6, none⟩ = some (.int .u32 h6) := by rw [J1.out.cell]; rfl
  have c7 : w6.cell? ⟨g1, 7, none⟩ = some (.int .u32 h7) := by rw [J1.out.cell]; rfl
  go_wp2_with fail
  go_quiet (fail)
  go_wp2
  clear c0 c1 c2 c3 c4 c5 c6 c7
  go_loopw [6, 7, 8, 9, 10, 11, 12, 13, 35] (fun v6 v7 v8 v9 v10 v11 v12 v13 i wr => ∃ (t : Nat) (a b c d e f g hh : Int), t ≤ 64 ∧ i = .int .i64 t ∧ v6 = .int .u32 a ∧ v7 = .int .u32 b ∧ v8 = .int .u32 c ∧ v9 = .int .u32 d ∧ v10 = .int .u32 e ∧ v11 = .int .u32 f ∧ v12 = .int .u32 g ∧ v13 = .int .u32 hh ∧ rds [h0, h1, h2, h3, h4, h5, h6, h7] (sched blk) t = [a, b, c, d, e, f, g, hh] ∧ ∃ q, wr = w6.drewN q) (fun _ _ _ _ _ _ _ _ i _ => 64 - (intOf i).toNat)
  case atStart => exact ⟨0, h0, h1, h2, h3, h4, h5, h6, h7, by omega, rfl, rfl, rfl, rfl, rfl, rfl, rfl, rfl, rfl, rfl, _, rfl⟩
  case round =>
    obtain ⟨t, a, b, c, d, e, f, g, hh, ht, rfl, rfl, rfl, rfl, rfl, rfl, rfl, rfl, rfl, hr, q, hq⟩ := hrel
    have HQ := hide hq
    clear hq
    have HR := hide hr
    clear hr
    by_cases hlt : t < 64
    · have ck : wr.cell? ⟨6, t, none⟩ = some (.int .u32 (kL.getD t 0)) := by rw [HQ.out]; exact K6.out t hlt
      have cw : wr.cell? ⟨g5, t, none⟩ = some (.int .u32 ((sched blk).getD t 0)) := by rw [HQ.out, World.cell?_drewN, J5.out.cell]; exact u32s_get _ _ (by rw [sched_length]; exact hlt)
      have hlt' : (t : Int) < 64 := by omega
      have x0 := index_K g5 t (t : Int) rfl hlt
      have y0 := index_K 0 t (t : Int) rfl hlt
      have HS : Hid (rds [h0, h1, h2, h3, h4, h5, h6, h7] (sched blk) (t + 1) = rnd (kL.getD t 0) ((sched blk).getD t 0) (rds [h0, h1, h2, h3, h4, h5, h6, h7] (sched blk) t)) := hide rfl
      revert ck cw HS
      generalize kL.getD t 0 = kt
      generalize (sched blk).getD t 0 = wt
      intro ck cw HS
      go_wp2_with fail
      go_quiet (first | (go_at_call 118; refine quiet_eq (turned1_any _ _)))
      go_wp2_with (go_at_call 118; refine (turned0_any _ _).mono ?_; rintro e w' ⟨rfl, rfl⟩)
      refine ⟨⟨t + 1, _, _, _, _, _, _, _, _, by omega, by go_num, rfl, rfl, rfl, rfl, rfl, rfl, rfl, rfl, ?_, q + nq, ?_⟩, ?_⟩
      · rw [HS.out, HR.out]
        rfl
      · rw [HQ.out, World.drewN_drewN]
      · simp [intOf]; omega
    · obtain rfl : t = 64 := by omega
      have d0 : wr.cell? ⟨g1, 0, none⟩ = some (.int .u32 h0) := by rw [HQ.out, World.cell?_drewN, J1.out.cell]; rfl
      have d1 : wr.cell? ⟨g1, 1, none⟩ = some (.int .u32 h1) := by rw [HQ.out, World.cell?_drewN, J1.out.cell]; rfl
      have d2 : wr.cell? ⟨g1, 2, none⟩ = some (.int .u32 h2) := by rw [HQ.out, World.cell?_drewN, J1.out.cell]; rfl
      have d3 : wr.cell? ⟨g1, 3, none⟩ = some (.int .u32 h3) := by rw [HQ.out, World.cell?_drewN, J1.out.cell]; rfl
      have d4 : wr.cell? ⟨g1, 4, none⟩ = some (.int .u32 h4) := by rw [HQ.out, World.cell?_drewN, J1.out.cell]; rfl
      have d5 : wr.cell? ⟨g1, 5, none⟩ = some (.int .u32 h5) := by rw [HQ.out, World.cell?_drewN, J1.out.cell]; rfl
      have d6 : wr.cell? ⟨g1, 6, none⟩ = some (.int .u32 h6) := by rw [HQ.out, World.cell?_drewN, J1.out.cell]; rfl
      have d7 : wr.cell? ⟨g1, 7, none⟩ = some (.int .u32 h7) := by rw [HQ.out, World.cell?_drewN, J1.out.cell]; rfl
      have L3 := hide (show Blk wr g3 112 (u32s (zer 8)) by rw [HQ.out]; exact J3.out)
      have HC : Hid (comp [h0, h1, h2, h3, h4, h5, h6, h7] blk = [ad h0 a, ad h1 b, ad h2 c, ad h3 d, ad h4 e, ad h5 f, ad h6 g, ad h7 hh]) := hide (by rw [comp, HR.out]; rfl)
      go_wp2_with (refine step_storeA (vs := u32s [ad h0 a, ad h1 b, ad h2 c, ad h3 d, ad h4 e, ad h5 f, ad h6 g, ad h7 hh]) wW rfl rfl rfl L3.out rfl (One.u32 _) rfl ?_; intro w7 hg7 hbut7)
      refine bodyPost_ret (results_wide rfl wW _ _ rfl hg7 rfl) rfl ⟨by rw [HC.out], ?_⟩
      have hbr : Below w.heap.size w wr := by rw [HQ.out]; exact below_drewN hw6 q
      exact hbr.trans (hbut7.below hlt3)

end Go.Proofs.YtnlpgkfmjlljdaaDoor
