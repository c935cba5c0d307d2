/-
  The document's own Read, and its schedule of a block.
-/
import Derived.Test.YtnlpgkfmjlljdaaDoorSched
import Derived.Test.YtnlpgkfmjlljdaaDoorRotR
namespace Go.Proofs.YtnlpgkfmjlljdaaDoor
open Go.RowKit
set_option linter.unusedVariables false

theorem mul_step (v x : Int) (h0 : 0 ≤ v) (h1 : v < 72057594037927936) (h2 : 0 ≤ x) (h3 : x ≤ 255) :
    IntKind.u64.wrap (IntKind.u64.wrap (v * 256) + IntKind.u64.wrap x) = v * 256 + x := by
  rw [IntKind.wrap_u64, IntKind.wrap_u64, IntKind.wrap_u64, Int.emod_eq_of_lt (by omega) (by omega), Int.emod_eq_of_lt (by omega) (by omega)]
  omega

set_option maxHeartbeats 400000 in
theorem read_any (a : Option Addr) (len cap : Nat) (xs : List Int) (p : Int) (n : Nat) (w : World) (hs : Sl w a len cap xs) (hn : n ≤ 8) (hn0 : 0 < n) :
    Calls Tryd.prog 131 #[.slice a len cap, .int .i64 p, .int .i64 n] w fun e w' => e = .returned (.tuple #[.int .u64 (rdV xs p n), .int .i64 (rdN len p n), .int .i64 (rdE len p n)]) ∧ w = w' := by
  obtain ⟨hx, _, _, hl, hb, _, hc⟩ := hs
  by_cases h : p < 0 ∨ (len : Int) < p ∨ (len : Int) - p < n
  · have e1 : rdV xs p n = 0 := by simp [rdV, hx]; omega
    have e2 : rdN len p n = 0 := by simp [rdN]; omega
    rw [e1, e2]
    clear e1 e2 hc
    by_cases h1 : p < 0
    · have e3 : rdE len p n = 2 := by simp [rdE, h1]
      rw [e3]
      clear e3
      go_enter Tryd.func131, Tryd.ntmps131
      go_wp2
      go_ret3
      exact ⟨rfl, rfl⟩
    by_cases h2 : (len : Int) < p
    · have e3 : rdE len p n = 2 := by simp [rdE, h2]
      rw [e3]
      clear e3
      go_enter Tryd.func131, Tryd.ntmps131
      go_wp2
      go_ret3
      exact ⟨rfl, rfl⟩
    · have h3 : (len : Int) - p < n := by omega
      have e3 : rdE len p n = 10 := by simp [rdE, h1, h2, h3]
      rw [e3]
      clear e3 h
      go_enter Tryd.func131, Tryd.ntmps131
      go_wp2
      go_ret3
      exact ⟨rfl, rfl⟩
  · obtain ⟨p, rfl⟩ := Int.eq_ofNat_of_zero_le (show 0 ≤ p by omega)
    obtain ⟨b, off, rfl, hce⟩ := hc (by omega)
    clear hc
    have e1 : rdV xs p n = beVal ((xs.drop p).take n) := by simp only [rdV, hx]; rw [if_pos (by omega)]; simp
    have e2 : rdN len p n = p + n := by simp [rdN]; omega
    have e3 : rdE len p n = 0 := by simp [rdE]; omega
    rw [e1, e2, e3]
    clear e1 e2 e3
    have h1 : ¬ ((p : Int) < 0) := by omega
    have h2 : ¬ ((len : Int) < p) := by omega
    have h3 : ¬ ((len : Int) - p < n) := by omega
    clear h
    go_enter Tryd.func131, Tryd.ntmps131
    go_wp2
    go_loop [9, 10] (fun v i => ∃ k : Nat, k ≤ n ∧ i = .int .i64 k ∧ v = .int .u64 (beVal ((xs.drop p).take k))) (fun _ i => n - (intOf i).toNat)
    case atStart => exact ⟨0, Nat.zero_le _, rfl, by simp [beVal]⟩
    case round =>
      obtain ⟨k, hk, rfl, rfl⟩ := hrel
      by_cases hlt : k < n
      · have hck := hce (p + k) (by omega)
        have HS : Hid _ := beVal_step xs p k (by omega)
        have H2 : Hid _ := hb.get (p + k)
        have H3 : Hid _ := beVal_take_bd xs hb p k (by omega) (by omega)
        go_wp2
        go_round
        case rel =>
          refine ⟨k + 1, by omega, by go_num, ?_⟩
          rw [HS.out, ← mul_step _ _ H3.out.1 H3.out.2 H2.out.1 H2.out.2]
          rfl
        case measure => simp [intOf]; omega
      · have hkn : k = n := by omega
        subst hkn
        clear hce
        go_wp2
        go_ret3
        exact ⟨rfl, rfl⟩


theorem rd4 (blk : List Int) (t : Nat) (h : 4 * t + 4 ≤ blk.length) : rdV blk (4 * t : Nat) 4 = wordAt blk t := by
  simp only [rdV, wordAt]
  rw [if_pos (by omega)]
  rfl
theorem rdV4_bd (xs : List Int) (hb : isB xs) (p : Int) : 0 ≤ rdV xs p 4 ∧ rdV xs p 4 < 4294967296 := by
  have := rdV_bd xs hb p 4
  simpa using this

set_option maxRecDepth 100000 in
set_option maxHeartbeats 2000000 in
theorem schedR_any (blk : List Int) (w : World) (hb : isB blk) (hl : blk.length = 64) :
    Calls Tryd.prog 128 #[.agg (u8s blk).toArray] w fun e w' => e = .returned (.agg (u32s (sched blk)).toArray) ∧ Below w.heap.size w w' := by
  have HB := hide hb
  have HL := hide hl
  clear hb hl
  go_enter Tryd.func128, Tryd.ntmps128
  go_wp2_with (refine step_box rfl rfl ?_)
  intro w1 g1 hg1 hle1 hb1
  go_wp2_with (refine step_alloc zK rfl ?_)
  intro w2 g2 hg2 hle2 hb2
  go_wp2_with (refine step_alloc zK rfl ?_)
  intro w3 g3 hg3 hle3 hb3
  have hne : g1 ≠ g3 := by have := hg1.lt; have := hb2.size; omega
  have hne2 : g2 ≠ g3 := by have := hg2.lt; omega
  have hg1' := (hg1.below hb2 hg1.lt).below hb3 (by have := hg1.lt; have := hb2.size; omega)
  have hg2' := hg2.below hb3 hg2.lt
  have hw3 : Below w.heap.size w w3 := hb1.trans ((hb2.mono hb1.size).trans (hb3.mono (Nat.le_trans hb1.size hb2.size)))
  have hle : w.heap.size ≤ g3 := by have := hb1.size; have := hb2.size; omega
  have hlt2 : w.heap.size ≤ g2 := by have := hb1.size; omega
  have HE := hide (⟨hg1', hg2', hw3⟩ : Blk w3 g1 113 (u8s blk) ∧ Blk w3 g2 153 (u32s (zer 64)) ∧ Below w.heap.size w w3)
  have H3 := hide hg3
  clear hg1 hg2 hg1' hg2' hb1 hb2 hb3 hle1 hle2 hle3 hw3 hg3
  go_wp2
  go_loopw [4] (fun i wr => ∃ k : Nat, k ≤ 64 ∧ i = .int .i64 k ∧ Blk wr g3 153 (u32s (wz blk k)) ∧ But g3 w3 wr) (fun i _ => 64 - (intOf i).toNat)
  case atStart => exact ⟨0, by omega, rfl, H3.out, But.refl _ _⟩
  case round =>
    obtain ⟨k, hk, rfl, hg, hbut⟩ := hrel
    have HG := hide hg
    have HBut := hide hbut
    clear hg hbut
    by_cases hlt : k < 64
    · have hlt' : (k : Int) < 64 := by omega
      have cel : ∀ i, i < 64 → wr.cell? ⟨g3, i, none⟩ = some (.int .u32 ((wz blk k).getD i 0)) := fun i hi => by
        rw [HG.out.cell]; exact u32s_get _ _ (by rw [wz_length _ _ (by omega)]; omega)
      have c0 := cel k (by omega)
      have hfree : wr.frozen? ⟨g3, k, none⟩ = false := HG.out.free k
      by_cases h16 : k < 16
      · clear cel
        have h16' : (k : Int) < 16 := by omega
        have HS := hide (sl_blk (HE.out.1.but HBut.out hne) HB.out HL.out 0 (by omega))
        have HR := hide (rdV4_bd blk HB.out (4 * (k : Int)))
        go_wp2_with (go_at_call 131; refine (read_any _ _ _ _ _ 4 _ HS.out (by omega) (by omega)).mono ?_; rintro e w' ⟨rfl, rfl⟩)
        go_roundw
        case rel =>
          refine ⟨k + 1, by omega, by go_num, ?_, HBut.out.trans (But.setCell _ _ _ _)⟩
          have e : wnext blk (wl blk k) k = rdV blk (4 * (k : Int)) 4 := by
            rw [wnext, if_pos h16, ← rd4 blk k (by rw [HL.out]; omega)]
            simp
          have := HG.out.set k (.int .u32 (rdV blk (4 * (k : Int)) 4))
          rw [u32s_set, ← e, wz_succ _ _ (by omega), e] at this
          rw [Int.emod_eq_of_lt HR.out.1 HR.out.2]
          exact this
        case measure => simp [intOf]; omega
      · have h16' : ¬ (k : Int) < 16 := by omega
        have c2 := cel (k - 2) (by omega)
        have c7 := cel (k - 7) (by omega)
        have c15 := cel (k - 15) (by omega)
        have c16 := cel (k - 16) (by omega)
        have x2 := index_K g3 (k - 2) ((k : Int) - 2) (by omega) (by omega)
        have x7 := index_K g3 (k - 7) ((k : Int) - 7) (by omega) (by omega)
        have x15 := index_K g3 (k - 15) ((k : Int) - 15) (by omega) (by omega)
        have x16 := index_K g3 (k - 16) ((k : Int) - 16) (by omega) (by omega)
        have x0 := index_K g3 k (k : Int) rfl (by omega)
        have z2 : IntKind.i64.wrap ((k : Int) - 2) = (k : Int) - 2 := wrap_in _ (by omega) (by omega)
        have z7 : IntKind.i64.wrap ((k : Int) - 7) = (k : Int) - 7 := wrap_in _ (by omega) (by omega)
        have z15 : IntKind.i64.wrap ((k : Int) - 15) = (k : Int) - 15 := wrap_in _ (by omega) (by omega)
        have z16 : IntKind.i64.wrap ((k : Int) - 16) = (k : Int) - 16 := wrap_in _ (by omega) (by omega)
        clear cel
        go_wp2_with fail
        go_region_held3 (fun v : World => v.cell? ⟨g3, k - 7, none⟩ = some (.int .u32 ((wz blk k).getD (k - 7) 0)) ∧ v.cell? ⟨g3, k - 16, none⟩ = some (.int .u32 ((wz blk k).getD (k - 16) 0))) (first | exact ⟨c7, c16⟩ | exact ⟨(cell_ne _ _ _ _ _ (by omega)).trans c7, (cell_ne _ _ _ _ _ (by omega)).trans c16⟩) (first | (go_at_call 130; refine (ror_any _ _ (by decide) _).mono ?_; rintro e w' ⟨rfl, rfl⟩))
        go_wp2
        refine ⟨⟨k + 1, by omega, by go_num, ?_, (HBut.out.trans (But.setCell _ _ _ _)).drewN 1⟩, ?_⟩
        · have e : wnext blk (wl blk k) k = IntKind.u32.wrap (IntKind.u32.wrap (IntKind.u32.wrap (s1 ((wz blk k)[k - 2]?.getD 0) + (wz blk k)[k - 7]?.getD 0) + s0 ((wz blk k)[k - 15]?.getD 0)) + (wz blk k)[k - 16]?.getD 0) := by
            rw [wnext, if_neg (by omega), ← wz_get _ _ _ (by omega), ← wz_get _ _ _ (by omega), ← wz_get _ _ _ (by omega), ← wz_get _ _ _ (by omega)]
            rfl
          have := HG.out.set k (.int .u32 (wnext blk (wl blk k) k))
          rw [u32s_set, wz_succ _ _ (by omega)] at this
          simp only [IntKind.wrap_u32'] at e
          rw [e] at this
          exact this
        · simp [intOf]; omega
    · obtain rfl : k = 64 := by omega
      have HF := hide HG.out
      rw [wz_all] at HF
      have H2 := hide (HE.out.2.1.but HBut.out hne2)
      go_wp2_with (first | (refine step_loadA wK rfl rfl HF.out (by rw [u32s_length, sched_length]) ?_) | (refine step_storeA wK rfl rfl rfl H2.out (by rw [u32s_length, sched_length]) (One.u32 _) rfl ?_; intro w4 hg4 hbut4))
      refine bodyPost_ret (results_wide rfl wK _ _ rfl hg4 (by rw [u32s_length, sched_length])) rfl ⟨rfl, ?_⟩
      exact HE.out.2.2.trans ((HBut.out.below hle).trans (hbut4.below hlt2))

end Go.Proofs.YtnlpgkfmjlljdaaDoor
