/-
  One word out of four bytes, and the schedule of a block: the program's and the document's.
-/
import Derived.Test.YtnlpgkfmjlljdaaDoorRot
import Derived.Test.YtnlpgkfmjlljdaaDoorTy
import Derived.Deep.RegionHeld3
import Derived.Deep.QuietTactic
import Derived.BigQuiet
namespace Go.Proofs.YtnlpgkfmjlljdaaDoor
open Go.RowKit
set_option linter.unusedVariables false

theorem word_val (a b c d : Int) (ha : 0 ≤ a ∧ a ≤ 255) (hb : 0 ≤ b ∧ b ≤ 255) (hc : 0 ≤ c ∧ c ≤ 255) (hd : 0 ≤ d ∧ d ≤ 255) :
    bits .or .u32 (bits .or .u32 (bits .or .u32 (IntKind.u32.wrap (IntKind.u32.wrap a * 16777216)) (IntKind.u32.wrap (IntKind.u32.wrap b * 65536))) (IntKind.u32.wrap (IntKind.u32.wrap c * 256))) (IntKind.u32.wrap d) = beVal [a, b, c, d] := by
  have hv : beVal [a, b, c, d] = ((a * 256 + b) * 256 + c) * 256 + d := by simp [beVal]
  rw [hv]
  simp only [IntKind.wrap_u32']
  have e1 : a % 4294967296 = a := by omega
  have e2 : b % 4294967296 = b := by omega
  have e3 : c % 4294967296 = c := by omega
  have e4 : d % 4294967296 = d := by omega
  rw [e1, e2, e3, e4]
  have f1 : a * 16777216 % 4294967296 = a * 16777216 := by omega
  have f2 : b * 65536 % 4294967296 = b * 65536 := by omega
  have f3 : c * 256 % 4294967296 = c * 256 := by omega
  rw [f1, f2, f3]
  rw [u32_or (a * 16777216) (b * 65536) (by omega) (by omega) (by omega) (by omega), nat_join 24 _ _ (by omega) (by omega)]
  rw [u32_or _ (c * 256) (by omega) (by omega) (by omega) (by omega), nat_join 16 _ _ (by omega) (by omega)]
  rw [u32_or _ d (by omega) (by omega) (by omega) (by omega), nat_join 8 _ _ (by omega) (by omega)]
  omega

theorem take4 (xs : List Int) (h : 4 ≤ xs.length) : xs.take 4 = [xs.getD 0 0, xs.getD 1 0, xs.getD 2 0, xs.getD 3 0] := by
  match xs, h with
  | a :: b :: c :: d :: r, _ => rfl

set_option maxHeartbeats 400000 in
theorem word_any (a : Option Addr) (len cap : Nat) (xs : List Int) (w : World) (hs : Sl w a len cap xs) (hl : 4 ≤ len) :
    Calls Tryd.prog 124 #[.slice a len cap] w fun e w' => e = .returned (.int .u32 (beVal (xs.take 4))) ∧ ∃ m, w' = w.drewN m := by
  obtain ⟨hx, _, _, _, hb, _, hc⟩ := hs
  obtain ⟨b, off, rfl, hce⟩ := hc (by omega)
  rw [take4 xs (by omega), ← word_val _ _ _ _ (hb.get 0) (hb.get 1) (hb.get 2) (hb.get 3)]
  have c0 := hce 0 (by omega)
  have c1 := hce 1 (by omega)
  have c2 := hce 2 (by omega)
  have c3 := hce 3 (by omega)
  rw [Nat.add_zero] at c0
  clear hce hc hb
  have l0 : (0 : Int) < (len : Int) := by omega
  have l1 : (1 : Int) < (len : Int) := by omega
  have l2 : (2 : Int) < (len : Int) := by omega
  have l3 : (3 : Int) < (len : Int) := by omega
  go_enter Tryd.func124, Tryd.ntmps124
  go_wp2_with fail
  go_quiet (fail)
  go_wp2
  go_ret
  exact ⟨rfl, _, rfl⟩

theorem lenB64 : Tryd.prog.arrayLen 113 = 64 := by kernel_rfl
theorem elemB64 : Tryd.prog.elem 113 = 5 := by kernel_rfl
theorem undB64 : Tryd.prog.underlying 113 = some (.array (Tryd.prog.arrayLen 113) (Tryd.prog.elem 113)) := by kernel_rfl
theorem sizeB (w : World) : (sizeOf 5).run Tryd.prog w = .ok 1 w := by kernel_rfl
/-- block[k:] -/
theorem slice_from64 (g off k : Nat) (L : Int) (hL : L = (k : Int)) (hk : k < 64) (w : World) :
    (Instr.sliceAt 113 (.pointer (some ⟨g, off, none⟩)) (some (.int .i64 L)) none none).run Tryd.prog w = .ok (.slice (some ⟨g, off + k, none⟩) (64 - k) (64 - k)) w := by
  subst hL
  rw [run_sliceAt_array_l w _ _ undB64 .i64 k (by omega) (by rw [lenB64]; omega), elemB64, sizeB, lenB64]
  simp only [Result.andThen_ok, slicedAt, Int.toNat_natCast, Nat.mul_one]
  rw [if_neg (by omega), Addr.add_lit]

/-- The block's word number t. -/
def wordAt (blk : List Int) (t : Nat) : Int := beVal ((blk.drop (4 * t)).take 4)
/-- The word behind the first t ones. -/
def wnext (blk l : List Int) (t : Nat) : Int :=
  if t < 16 then wordAt blk t else IntKind.u32.wrap (IntKind.u32.wrap (IntKind.u32.wrap (s1 (l.getD (t - 2) 0) + l.getD (t - 7) 0) + s0 (l.getD (t - 15) 0)) + l.getD (t - 16) 0)
/-- The first t words. -/
def wl (blk : List Int) : Nat → List Int
  | 0 => []
  | t + 1 => wl blk t ++ [wnext blk (wl blk t) t]
theorem wl_length (blk : List Int) : ∀ t, (wl blk t).length = t
  | 0 => rfl
  | t + 1 => by simp [wl, wl_length blk t]
theorem index_K (g i : Nat) (I : Int) (hI : I = (i : Int)) (hi : i < 64) (w : World) : (Instr.indexAt 153 (.pointer (some ⟨g, 0, none⟩)) (.int .i64 I)).run Tryd.prog w = .ok (.pointer (some ⟨g, i, none⟩)) w :=
  index_at (by kernel_rfl) (by kernel_rfl) (fun _ => by kernel_rfl) g i I hI hi w
/-- All 64 words. -/
def sched (blk : List Int) : List Int := wl blk 64
theorem sched_length (blk : List Int) : (sched blk).length = 64 := wl_length blk 64

/-- What lies in the row of words behind t of them. -/
def wz (blk : List Int) (t : Nat) : List Int := wl blk t ++ zer (64 - t)
theorem wz_length (blk : List Int) (t : Nat) (h : t ≤ 64) : (wz blk t).length = 64 := by simp [wz, wl_length, zer_length]; omega
theorem wz_zero (blk : List Int) : wz blk 0 = zer 64 := rfl
theorem wz_all (blk : List Int) : wz blk 64 = sched blk := by simp [wz, sched, zer]
theorem wz_get (blk : List Int) (t i : Nat) (h : i < t) : (wz blk t).getD i 0 = (wl blk t).getD i 0 := by
  have : i < (wl blk t).length := by rw [wl_length]; exact h
  simp [wz, List.getD, List.getElem?_append_left this]
theorem wz_succ (blk : List Int) (t : Nat) (h : t < 64) : (wz blk t).set t (wnext blk (wl blk t) t) = wz blk (t + 1) := by
  unfold wz
  rw [List.set_append_right _ _ (by rw [wl_length]; omega), wl_length, Nat.sub_self]
  have : zer (64 - t) = 0 :: zer (64 - (t + 1)) := by
    unfold zer
    rw [show 64 - t = (64 - (t + 1)) + 1 by omega, List.replicate_succ]
  rw [this]
  simp [wl]

theorem zK : Zeroed 153 (u32s (zer 64)) := fun _ _ _ _ _ _ _ => by kernel_rfl
theorem wK : Wide 153 64 := ⟨by kernel_rfl, by kernel_rfl⟩

theorem sl_blk {w : World} {g : Nat} {t : TypeId} {blk : List Int} (h : Blk w g t (u8s blk)) (hb : isB blk) (hl : blk.length = 64) (k : Nat) (hk : k ≤ 64) : Sl w (some ⟨g, k, none⟩) (64 - k) (64 - k) (blk.drop k) := by
  have e : (blk.drop k).length = 64 - k := by simp [hl]
  have := h.sl k (64 - k) (blk.drop k) (by rw [e, List.take_of_length_le (by simp [u8s_length, hl])]; simp [u8s]) (hb.drop k) (by omega) (by omega) (by omega)
  rwa [e] at this

set_option maxRecDepth 100000 in
set_option maxHeartbeats 2000000 in
theorem sched_any (blk : List Int) (w : World) (hb : isB blk) (hl : blk.length = 64) :
    Calls Tryd.prog 117 #[.agg (u8s blk).toArray] w fun e w' => e = .returned (.agg (u32s (sched blk)).toArray) ∧ Below w.heap.size w w' := by
  have HB := hide hb
  have HL := hide hl
  clear hb hl
  go_enter Tryd.func117, Tryd.ntmps117
  go_wp2_with (refine step_box rfl rfl ?_)
  intro w1 g1 hg1 hle1 hb1
  go_wp2_with (refine step_alloc zK rfl ?_)
  intro w2 g2 hg2 hle2 hb2
  go_wp2_with (refine step_alloc zK rfl ?_)
  intro w3 g3 hg3 hle3 hb3
  have hne : g1 ≠ g3 := by have := hg1.lt; have := hb2.size; omega
  have hne2 : g2 ≠ g3 := by have := hg2.lt; omega
  have hg1' := (hg1.below hb2 hg1.lt).below hb3 (by have := hg1.lt; have := hb2.size; omega)
  have hg2' := hg2.below hb3 hg2.lt
  have hw3 : Below w.heap.size w w3 := hb1.trans ((hb2.mono hb1.size).trans (hb3.mono (Nat.le_trans hb1.size hb2.size)))
  have hle : w.heap.size ≤ g3 := by have := hb1.size; have := hb2.size; omega
  have hlt2 : w.heap.size ≤ g2 := by have := hb1.size; omega
  have HE := hide (⟨hg1', hg2', hw3⟩ : Blk w3 g1 113 (u8s blk) ∧ Blk w3 g2 153 (u32s (zer 64)) ∧ Below w.heap.size w w3)
  have H3 := hide hg3
  clear hg1 hg2 hg1' hg2' hb1 hb2 hb3 hle1 hle2 hle3 hw3 hg3
  go_wp2
  go_loopw [7] (fun i wr => ∃ k : Nat, k ≤ 16 ∧ i = .int .i64 k ∧ Blk wr g3 153 (u32s (wz blk k)) ∧ But g3 w3 wr) (fun i _ => 16 - (intOf i).toNat)
  case atStart => exact ⟨0, by omega, rfl, H3.out, But.refl _ _⟩
  case round =>
    obtain ⟨k, hk, rfl, hg, hbut⟩ := hrel
    have HG := hide hg
    have HBut := hide hbut
    clear hg hbut
    by_cases hlt : k < 16
    · have HS := hide (sl_blk (HE.out.1.but HBut.out hne) HB.out HL.out (4 * k) (by omega))
      have hslc := slice_from64 g1 0 (4 * k) (4 * (k : Int)) (by omega) (by omega) wr
      rw [Nat.zero_add] at hslc
      have hcell : wr.cell? ⟨g3, k, none⟩ = some (.int .u32 ((wz blk k).getD k 0)) := by rw [HG.out.cell]; exact u32s_get _ _ (by rw [wz_length _ _ (by omega)]; omega)
      have hfree : wr.frozen? ⟨g3, k, none⟩ = false := HG.out.free k
      go_wp2_with (go_at_call 124; refine (word_any _ _ _ _ _ HS.out (by omega)).mono ?_; rintro e w' ⟨rfl, m, rfl⟩)
      go_roundw
      case rel =>
        refine ⟨k + 1, by omega, by go_num, ?_, (HBut.out.drewN _).trans (But.setCell _ _ _ _)⟩
        have e : wnext blk (wl blk k) k = beVal (List.take 4 (List.drop (4 * k) blk)) := by rw [wnext, if_pos hlt]; rfl
        have := (HG.out.drewN m).set k (.int .u32 (beVal (List.take 4 (List.drop (4 * k) blk))))
        rw [u32s_set, ← e, wz_succ _ _ (by omega)] at this
        rw [← e]
        exact this
      case measure => simp [intOf]; omega
    · obtain rfl : k = 16 := by omega
      go_wp2
      go_loopw [17] (fun i wr => ∃ k : Nat, k ≤ 48 ∧ i = .int .i64 k ∧ Blk wr g3 153 (u32s (wz blk (k + 16))) ∧ But g3 w3 wr) (fun i _ => 48 - (intOf i).toNat)
      case atStart => exact ⟨0, by omega, rfl, HG.out, HBut.out⟩
      case round =>
        clear HG HBut
        obtain ⟨k, hk, rfl, hg, hbut⟩ := hrel
        have HG := hide hg
        have HBut := hide hbut
        clear hg hbut
        by_cases hlt : k < 48
        · have cel : ∀ i, i < 64 → wr.cell? ⟨g3, i, none⟩ = some (.int .u32 ((wz blk (k + 16)).getD i 0)) := fun i hi => by
            rw [HG.out.cell]; exact u32s_get _ _ (by rw [wz_length _ _ (by omega)]; omega)
          have c2 := cel (k + 14) (by omega)
          have c7 := cel (k + 9) (by omega)
          have c15 := cel (k + 1) (by omega)
          have c16 := cel (k) (by omega)
          have c0 := cel (k + 16) (by omega)
          have hfree : wr.frozen? ⟨g3, k + 16, none⟩ = false := HG.out.free (k + 16)
          clear cel
          have x2 := index_K g3 (k + 14) ((k : Int) + 16 - 2) (by omega) (by omega)
          have x7 := index_K g3 (k + 9) ((k : Int) + 16 - 7) (by omega) (by omega)
          have x15 := index_K g3 (k + 1) ((k : Int) + 16 - 15) (by omega) (by omega)
          have x16 := index_K g3 k (k : Int) (by omega) (by omega)
          have x0 := index_K g3 (k + 16) ((k : Int) + 16) (by omega) (by omega)
          have z2 : IntKind.i64.wrap ((k : Int) + 16 - 2) = (k : Int) + 16 - 2 := wrap_in _ (by omega) (by omega)
          have z7 : IntKind.i64.wrap ((k : Int) + 16 - 7) = (k : Int) + 16 - 7 := wrap_in _ (by omega) (by omega)
          have z15 : IntKind.i64.wrap ((k : Int) + 16 - 15) = (k : Int) + 16 - 15 := wrap_in _ (by omega) (by omega)
          have z16 : IntKind.i64.wrap (k : Int) = (k : Int) := wrap_in _ (by omega) (by omega)
          go_wp2_with fail
          go_region_held3 (fun v : World => v.cell? ⟨g3, k + 14, none⟩ = some (.int .u32 ((wz blk (k + 16)).getD (k + 14) 0)) ∧ v.cell? ⟨g3, k + 9, none⟩ = some (.int .u32 ((wz blk (k + 16)).getD (k + 9) 0)) ∧ v.cell? ⟨g3, k + 1, none⟩ = some (.int .u32 ((wz blk (k + 16)).getD (k + 1) 0)) ∧ v.cell? ⟨g3, k, none⟩ = some (.int .u32 ((wz blk (k + 16)).getD (k) 0))) (first | exact ⟨c2, c7, c15, c16⟩ | exact ⟨(cell_ne _ _ _ _ _ (by omega)).trans c2, (cell_ne _ _ _ _ _ (by omega)).trans c7, (cell_ne _ _ _ _ _ (by omega)).trans c15, (cell_ne _ _ _ _ _ (by omega)).trans c16⟩) (first | (go_at_call 125; refine (late_any _ _).mono ?_; rintro e w' ⟨rfl, rfl⟩) | (go_at_call 126; refine (early_any _ _).mono ?_; rintro e w' ⟨rfl, rfl⟩))
          go_wp2
          refine ⟨?_, ?measure⟩
          iterate 31 (apply Exists.intro)
          refine ⟨?rel, rfl⟩
          case rel =>
            refine ⟨k + 1, by omega, by go_num, ?_, (HBut.out.trans (But.setCell _ _ _ _)).drewN 1⟩
            have e : wnext blk (wl blk (k + 16)) (k + 16) = IntKind.u32.wrap (IntKind.u32.wrap (IntKind.u32.wrap (s1 ((wz blk (k + 16))[k + 14]?.getD 0) + (wz blk (k + 16))[k + 9]?.getD 0) + s0 ((wz blk (k + 16))[k + 1]?.getD 0)) + (wz blk (k + 16))[k]?.getD 0) := by
              rw [wnext, if_neg (by omega), ← wz_get _ _ _ (by omega), ← wz_get _ _ _ (by omega), ← wz_get _ _ _ (by omega), ← wz_get _ _ _ (by omega)]
              rfl
            simp only [IntKind.wrap_u32'] at e
            rw [← e]
            have := HG.out.set (k + 16) (.int .u32 (wnext blk (wl blk (k + 16)) (k + 16)))
            rw [u32s_set, wz_succ _ _ (by omega)] at this
            rw [show k + 1 + 16 = k + 16 + 1 by omega]
            exact this
          case measure => simp [intOf]; omega
        · obtain rfl : k = 48 := by omega
          have HF := hide HG.out
          rw [wz_all] at HF
          have H2 := hide (HE.out.2.1.but HBut.out hne2)
          go_wp2_with (first | (refine step_loadA wK rfl rfl HF.out (by rw [u32s_length, sched_length]) ?_) | (refine step_storeA wK rfl rfl rfl H2.out (by rw [u32s_length, sched_length]) (One.u32 _) rfl ?_; intro w4 hg4 hbut4))
          refine bodyPost_ret (results_wide rfl wK _ _ rfl hg4 (by rw [u32s_length, sched_length])) rfl ⟨rfl, ?_⟩
          exact HE.out.2.2.trans ((HBut.out.below hle).trans (hbut4.below hlt2))

end Go.Proofs.YtnlpgkfmjlljdaaDoor
