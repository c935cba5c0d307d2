/-
  Texts one behind the other: Sched FrA Fr Con Comp Bg Ov.
-/
import Derived.Test.YthgfbcndoedacaaDoorPkA
import Derived.Deep.RegionHeld3
import Derived.Deep.QuietTactic
import Derived.BigQuiet
import Derived.Test.YthgfbcndoedacaaDoorRows
import Derived.WalkKit
import Derived.ProofKit
import Derived.OpenShut
import Derived.ShutString
import Derived.ChangeOld
import Derived.Below
import Derived.SizedLaws
import Derived.Test.YthgfbcndoedacaaDoorCards
import Derived.Test.YthgfbcndoedacaaDoorTie
import Derived.Lib.LaidTab
import Derived.Deep.DeepHandedRow

/-
  One word out of four bytes, and the schedule of a block: the program's and the document's.
-/
namespace Go.Proofs.YthgfbcndoedacaaDoor
open Go.RowKit
set_option linter.unusedVariables false

theorem word_val (a b c d : Int) (ha : 0 ≤ a ∧ a ≤ 255) (hb : 0 ≤ b ∧ b ≤ 255) (hc : 0 ≤ c ∧ c ≤ 255) (hd : 0 ≤ d ∧ d ≤ 255) :
    bits .or .u32 (bits .or .u32 (bits .or .u32 (IntKind.u32.wrap (IntKind.u32.wrap a * 16777216)) (IntKind.u32.wrap (IntKind.u32.wrap b * 65536))) (IntKind.u32.wrap (IntKind.u32.wrap c * 256))) (IntKind.u32.wrap d) = beVal [a, b, c, d] := by
  have hv : beVal [a, b, c, d] = ((a * 256 + b) * 256 + c) * 256 + d := by simp [beVal]
  rw [hv]
  simp only [IntKind.wrap_u32']
  have e1 : a % 4294967296 = a := by omega
  have e2 : b % 4294967296 = b := by omega
  have e3 : c % 4294967296 = c := by omega
  have e4 : d % 4294967296 = d := by omega
  rw [e1, e2, e3, e4]
  have f1 : a * 16777216 % 4294967296 = a * 16777216 := by omega
  have f2 : b * 65536 % 4294967296 = b * 65536 := by omega
  have f3 : c * 256 % 4294967296 = c * 256 := by omega
  rw [f1, f2, f3]
  rw [u32_or (a * 16777216) (b * 65536) (by omega) (by omega) (by omega) (by omega), nat_join 24 _ _ (by omega) (by omega)]
  rw [u32_or _ (c * 256) (by omega) (by omega) (by omega) (by omega), nat_join 16 _ _ (by omega) (by omega)]
  rw [u32_or _ d (by omega) (by omega) (by omega) (by omega), nat_join 8 _ _ (by omega) (by omega)]
  omega

theorem take4 (xs : List Int) (h : 4 ≤ xs.length) : xs.take 4 = [xs.getD 0 0, xs.getD 1 0, xs.getD 2 0, xs.getD 3 0] := by
  match xs, h with
  | a :: b :: c :: d :: r, _ => rfl

set_option maxHeartbeats 400000 in
theorem word_any (a : Option Addr) (len cap : Nat) (xs : List Int) (w : World) (hs : Sl w a len cap xs) (hl : 4 ≤ len) :
    Calls Tryd.prog 87 #[.slice a len cap] w fun e w' => e = .returned (.int .u32 (beVal (xs.take 4))) ∧ ∃ m, w' = w.drewN m := by
  obtain ⟨hx, _, _, _, hb, _, hc⟩ := hs
  obtain ⟨b, off, rfl, hce⟩ := hc (by omega)
  rw [take4 xs (by omega), ← word_val _ _ _ _ (hb.get 0) (hb.get 1) (hb.get 2) (hb.get 3)]
  have c0 := hce 0 (by omega)
  have c1 := hce 1 (by omega)
  have c2 := hce 2 (by omega)
  have c3 := hce 3 (by omega)
  rw [Nat.add_zero] at c0
  clear hce hc hb
  have l0 : (0 : Int) < (len : Int) := by omega
  have l1 : (1 : Int) < (len : Int) := by omega
  have l2 : (2 : Int) < (len : Int) := by omega
  have l3 : (3 : Int) < (len : Int) := by omega
  go_enter Tryd.func87, Tryd.ntmps87
  go_wp2_with fail
  go_quiet (fail)
  go_wp2
  go_ret
  exact ⟨rfl, _, rfl⟩

theorem lenB64 : Tryd.prog.arrayLen 124 = 64 := by kernel_rfl
theorem elemB64 : Tryd.prog.elem 124 = 5 := by kernel_rfl
theorem undB64 : Tryd.prog.underlying 124 = some (.array (Tryd.prog.arrayLen 124) (Tryd.prog.elem 124)) := by kernel_rfl
theorem sizeB (w : World) : (sizeOf 5).run Tryd.prog w = .ok 1 w := by kernel_rfl
/-- block[k:] -/
theorem slice_from64 (g off k : Nat) (L : Int) (hL : L = (k : Int)) (hk : k < 64) (w : World) :
    (Instr.sliceAt 124 (.pointer (some ⟨g, off, none⟩)) (some (.int .i64 L)) none none).run Tryd.prog w = .ok (.slice (some ⟨g, off + k, none⟩) (64 - k) (64 - k)) w := by
  subst hL
  rw [run_sliceAt_array_l w _ _ undB64 .i64 k (by omega) (by rw [lenB64]; omega), elemB64, sizeB, lenB64]
  simp only [Result.andThen_ok, slicedAt, Int.toNat_natCast, Nat.mul_one]
  rw [if_neg (by omega), Addr.add_lit]

/-- The block's word number t. -/
def wordAt (blk : List Int) (t : Nat) : Int := beVal ((blk.drop (4 * t)).take 4)
/-- The word behind the first t ones. -/
def wnext (blk l : List Int) (t : Nat) : Int :=
  if t < 16 then wordAt blk t else IntKind.u32.wrap (IntKind.u32.wrap (IntKind.u32.wrap (s1 (l.getD (t - 2) 0) + l.getD (t - 7) 0) + s0 (l.getD (t - 15) 0)) + l.getD (t - 16) 0)
/-- The first t words. -/
def wl (blk : List Int) : Nat → List Int
  | 0 => []
  | t + 1 => wl blk t ++ [wnext blk (wl blk t) t]
theorem wl_length (blk : List Int) : ∀ t, (wl blk t).length = t
  | 0 => rfl
  | t + 1 => by simp [wl, wl_length blk t]
theorem index_K (g i : Nat) (I : Int) (hI : I = (i : Int)) (hi : i < 64) (w : World) : (Instr.indexAt 136 (.pointer (some ⟨g, 0, none⟩)) (.int .i64 I)).run Tryd.prog w = .ok (.pointer (some ⟨g, i, none⟩)) w :=
  index_at (by kernel_rfl) (by kernel_rfl) (fun _ => by kernel_rfl) g i I hI hi w
/-- All 64 words. -/
def sched (blk : List Int) : List Int := wl blk 64
theorem sched_length (blk : List Int) : (sched blk).length = 64 := wl_length blk 64

/-- What lies in the row of words behind t of them. -/
def wz (blk : List Int) (t : Nat) : List Int := wl blk t ++ zer (64 - t)
theorem wz_length (blk : List Int) (t : Nat) (h : t ≤ 64) : (wz blk t).length = 64 := by simp [wz, wl_length, zer_length]; omega
theorem wz_zero (blk : List Int) : wz blk 0 = zer 64 := rfl
theorem wz_all (blk : List Int) : wz blk 64 = sched blk := by simp [wz, sched, zer]
theorem wz_get (blk : List Int) (t i : Nat) (h : i < t) : (wz blk t).getD i 0 = (wl blk t).getD i 0 := by
  have : i < (wl blk t).length := by rw [wl_length]; exact h
  simp [wz, List.getD, List.getElem?_append_left this]
theorem wz_succ (blk : List Int) (t : Nat) (h : t < 64) : (wz blk t).set t (wnext blk (wl blk t) t) = wz blk (t + 1) := by
  unfold wz
  rw [List.set_append_right _ _ (by rw [wl_length]; omega), wl_length, Nat.sub_self]
  have : zer (64 - t) = 0 :: zer (64 - (t + 1)) := by
    unfold zer
    rw [show 64 - t = (64 - (t + 1)) + 1 by omega, List.replicate_succ]
  rw [this]
  simp [wl]

theorem zK : Zeroed 136 (u32s (zer 64)) := fun _ _ _ _ _ _ _ => by kernel_rfl
theorem wK : Wide 136 64 := ⟨by kernel_rfl, by kernel_rfl⟩

theorem sl_blk {w : World} {g : Nat} {t : TypeId} {blk : List Int} (h : Blk w g t (u8s blk)) (hb : isB blk) (hl : blk.length = 64) (k : Nat) (hk : k ≤ 64) : Sl w (some ⟨g, k, none⟩) (64 - k) (64 - k) (blk.drop k) := by
  have e : (blk.drop k).length = 64 - k := by simp [hl]
  have := h.sl k (64 - k) (blk.drop k) (by rw [e, List.take_of_length_le (by simp [u8s_length, hl])]; simp [u8s]) (hb.drop k) (by omega) (by omega) (by omega)
  rwa [e] at this

set_option maxRecDepth 100000 in
set_option maxHeartbeats 2000000 in
theorem sched_any (blk : List Int) (w : World) (hb : isB blk) (hl : blk.length = 64) :
    Calls Tryd.prog 81 #[.agg (u8s blk).toArray] w fun e w' => e = .returned (.agg (u32s (sched blk)).toArray) ∧ Below w.heap.size w w' := by
  have HB := hide hb
  have HL := hide hl
  clear hb hl
  go_enter Tryd.func81, Tryd.ntmps81
  go_wp2_with (refine step_box rfl rfl ?_)
  intro w1 g1 hg1 hle1 hb1
  go_wp2_with (refine step_alloc zK rfl ?_)
  intro w2 g2 hg2 hle2 hb2
  go_wp2_with (refine step_alloc zK rfl ?_)
  intro w3 g3 hg3 hle3 hb3
  have hne : g1 ≠ g3 := by have := hg1.lt; have := hb2.size; omega
  have hne2 : g2 ≠ g3 := by have := hg2.lt; omega
  have hg1' := (hg1.below hb2 hg1.lt).below hb3 (by have := hg1.lt; have := hb2.size; omega)
  have hg2' := hg2.below hb3 hg2.lt
  have hw3 : Below w.heap.size w w3 := hb1.trans ((hb2.mono hb1.size).trans (hb3.mono (Nat.le_trans hb1.size hb2.size)))
  have hle : w.heap.size ≤ g3 := by have := hb1.size; have := hb2.size; omega
  have hlt2 : w.heap.size ≤ g2 := by have := hb1.size; omega
  have HE := hide (⟨hg1', hg2', hw3⟩ : Blk w3 g1 124 (u8s blk) ∧ Blk w3 g2 136 (u32s (zer 64)) ∧ Below w.heap.size w w3)
  have H3 := hide hg3
  clear hg1 hg2 hg1' hg2' hb1 hb2 hb3 hle1 hle2 hle3 hw3 hg3
  go_wp2
  go_loopw [7] (fun i wr => ∃ k : Nat, k ≤ 16 ∧ i = .int .i64 k ∧ Blk wr g3 136 (u32s (wz blk k)) ∧ But g3 w3 wr) (fun i _ => 16 - (intOf i).toNat)
  case atStart => exact ⟨0, by omega, rfl, H3.out, But.refl _ _⟩
  case round =>
    obtain ⟨k, hk, rfl, hg, hbut⟩ := hrel
    have HG := hide hg
    have HBut := hide hbut
    clear hg hbut
    by_cases hlt : k < 16
    · have HS := hide (sl_blk (HE.out.1.but HBut.out hne) HB.out HL.out (4 * k) (by omega))
      have hslc := slice_from64 g1 0 (4 * k) (4 * (k : Int)) (by omega) (by omega) wr
      rw [Nat.zero_add] at hslc
      have hcell : wr.cell? ⟨g3, k, none⟩ = some (.int .u32 ((wz blk k).getD k 0)) := by rw [HG.out.cell]; exact u32s_get _ _ (by rw [wz_length _ _ (by omega)]; omega)
      have hfree : wr.frozen? ⟨g3, k, none⟩ = false := HG.out.free k
      go_wp2_with (go_at_call 87; refine (word_any _ _ _ _ _ HS.out (by omega)).mono ?_; rintro e w' ⟨rfl, m, rfl⟩)
      go_roundw
      case rel =>
        refine ⟨k + 1, by omega, by go_num, ?_, (HBut.out.drewN _).trans (But.setCell _ _ _ _)⟩
        have e : wnext blk (wl blk k) k = beVal (List.take 4 (List.drop (4 * k) blk)) := by rw [wnext, if_pos hlt]; rfl
        have := (HG.out.drewN m).set k (.int .u32 (beVal (List.take 4 (List.drop (4 * k) blk))))
        rw [u32s_set, ← e, wz_succ _ _ (by omega)] at this
        rw [← e]
        exact this
      case measure => simp [intOf]; omega
    · obtain rfl : k = 16 := by omega
      go_wp2
      go_loopw [17] (fun i wr => ∃ k : Nat, k ≤ 48 ∧ i = .int .i64 k ∧ Blk wr g3 136 (u32s (wz blk (k + 16))) ∧ But g3 w3 wr) (fun i _ => 48 - (intOf i).toNat)
      case atStart => exact ⟨0, by omega, rfl, HG.out, HBut.out⟩
      case round =>
        clear HG HBut
        obtain ⟨k, hk, rfl, hg, hbut⟩ := hrel
        have HG := hide hg
        have HBut := hide hbut
        clear hg hbut
        by_cases hlt : k < 48
        · have cel : ∀ i, i < 64 → wr.cell? ⟨g3, i, none⟩ = some (.int .u32 ((wz blk (k + 16)).getD i 0)) := fun i hi => by
            rw [HG.out.cell]; exact u32s_get _ _ (by rw [wz_length _ _ (by omega)]; omega)
          have c2 := cel (k + 14) (by omega)
          have c7 := cel (k + 9) (by omega)
          have c15 := cel (k + 1) (by omega)
          have c16 := cel (k) (by omega)
          have c0 := cel (k + 16) (by omega)
          have hfree : wr.frozen? ⟨g3, k + 16, none⟩ = false := HG.out.free (k + 16)
          clear cel
          have x2 := index_K g3 (k + 14) ((k : Int) + 16 - 2) (by omega) (by omega)
          have x7 := index_K g3 (k + 9) ((k : Int) + 16 - 7) (by omega) (by omega)
          have x15 := index_K g3 (k + 1) ((k : Int) + 16 - 15) (by omega) (by omega)
          have x16 := index_K g3 k (k : Int) (by omega) (by omega)
          have x0 := index_K g3 (k + 16) ((k : Int) + 16) (by omega) (by omega)
          have z2 : IntKind.i64.wrap ((k : Int) + 16 - 2) = (k : Int) + 16 - 2 := wrap_in _ (by omega) (by omega)
          have z7 : IntKind.i64.wrap ((k : Int) + 16 - 7) = (k : Int) + 16 - 7 := wrap_in _ (by omega) (by omega)
          have z15 : IntKind.i64.wrap ((k : Int) + 16 - 15) = (k : Int) + 16 - 15 := wrap_in _ (by omega) (by omega)
          have z16 : IntKind.i64.wrap (k : Int) = (k : Int) := wrap_in _ (by omega) (by omega)
          go_wp2_with fail
          go_region_held3 (fun v : World => v.cell? ⟨g3, k + 14, none⟩ = some (.int .u32 ((wz blk (k + 16)).getD (k + 14) 0)) ∧ v.cell? ⟨g3, k + 9, none⟩ = some (.int .u32 ((wz blk (k + 16)).getD (k + 9) 0)) ∧ v.cell? ⟨g3, k + 1, none⟩ = some (.int .u32 ((wz blk (k + 16)).getD (k + 1) 0)) ∧ v.cell? ⟨g3, k, none⟩ = some (.int .u32 ((wz blk (k + 16)).getD (k) 0))) (first | exact ⟨c2, c7, c15, c16⟩ | exact ⟨(cell_ne _ _ _ _ _ (by omega)).trans c2, (cell_ne _ _ _ _ _ (by omega)).trans c7, (cell_ne _ _ _ _ _ (by omega)).trans c15, (cell_ne _ _ _ _ _ (by omega)).trans c16⟩) (first | (go_at_call 88; refine (late_any _ _).mono ?_; rintro e w' ⟨rfl, rfl⟩) | (go_at_call 89; refine (early_any _ _).mono ?_; rintro e w' ⟨rfl, rfl⟩))
          go_wp2
          refine ⟨?_, ?measure⟩
          iterate 31 (apply Exists.intro)
          refine ⟨?rel, rfl⟩
          case rel =>
            refine ⟨k + 1, by omega, by go_num, ?_, (HBut.out.trans (But.setCell _ _ _ _)).drewN 1⟩
            have e : wnext blk (wl blk (k + 16)) (k + 16) = IntKind.u32.wrap (IntKind.u32.wrap (IntKind.u32.wrap (s1 ((wz blk (k + 16))[k + 14]?.getD 0) + (wz blk (k + 16))[k + 9]?.getD 0) + s0 ((wz blk (k + 16))[k + 1]?.getD 0)) + (wz blk (k + 16))[k]?.getD 0) := by
              rw [wnext, if_neg (by omega), ← wz_get _ _ _ (by omega), ← wz_get _ _ _ (by omega), ← wz_get _ _ _ (by omega), ← wz_get _ _ _ (by omega)]
              rfl
            simp only [IntKind.wrap_u32'] at e
            rw [← e]
            have := HG.out.set (k + 16) (.int .u32 (wnext blk (wl blk (k + 16)) (k + 16)))
            rw [u32s_set, wz_succ _ _ (by omega)] at this
            rw [show k + 1 + 16 = k + 16 + 1 by omega]
            exact this
          case measure => simp [intOf]; omega
        · obtain rfl : k = 48 := by omega
          have HF := hide HG.out
          rw [wz_all] at HF
          have H2 := hide (HE.out.2.1.but HBut.out hne2)
          go_wp2_with (first | (refine step_loadA wK rfl rfl HF.out (by rw [u32s_length, sched_length]) ?_) | (refine step_storeA wK rfl rfl rfl H2.out (by rw [u32s_length, sched_length]) (One.u32 _) rfl ?_; intro w4 hg4 hbut4))
          refine bodyPost_ret (results_wide rfl wK _ _ rfl hg4 (by rw [u32s_length, sched_length])) rfl ⟨rfl, ?_⟩
          exact HE.out.2.2.trans ((HBut.out.below hle).trans (hbut4.below hlt2))

end Go.Proofs.YthgfbcndoedacaaDoor

/-
  From how an argument is read as data to what the walks are told of it: a slice of bytes, an array of numbers.
-/
namespace Go.Proofs.YthgfbcndoedacaaDoor
open Go.ChangeShapes Go.WideShapes Go.ChangeAt Go.RowKit
open Go.ChangeMaps (open_string shut_string)
set_option linter.unusedVariables false

theorem own : ownKnob Tryd.prog.godebug = none := by kernel_rfl
theorem laidOut : laidOutB Tryd.prog = true := by kernel_rfl

set_option maxRecDepth 100000 in
/-- An array of numbers that came in. -/
theorem arr_open {T E : TypeId} {k : IntKind} {n : Nat} (hA : Arr T E k n) (hc : Tryd.prog.cellsOf T = n) {H : Type} {enc : TypeId × Value → H} {W : World} {base : Nat} {v : Value} {d : DataW H} {p : List MemPlace}
    (hv : Value.okWide Tryd.prog W .any base T v) (h : DataW.Trod enc Tryd.prog W 0 (fun _ => true) true T v d p) :
    ∃ xs : List Int, v = .agg (xs.map (Value.int k)).toArray ∧ xs.length = n ∧ ∀ x ∈ xs, (Lit.int k x).wf = true := by
  have hv2 : ∃ cs, v = .agg cs ∧ cs.size = Tryd.prog.cellsOf T ∧ Row.okWide Tryd.prog W .any base T cs := by
    unfold Value.okWide at hv
    rw [hA.und] at hv
    exact hv
  obtain ⟨cs, rfl, hsz, _⟩ := hv2
  rw [hc] at hsz
  obtain ⟨fuel, hf⟩ := h
  obtain ⟨ys, m, _, _, _, hyl, hy⟩ := DataW.trod_array hA.und hf
  rw [hA.cells] at hy
  have key : ∀ i, i < n → ∃ z : Int, cs[i]? = some (.int k z) ∧ (Lit.int k z).wf = true := by
    intro i hi
    have hi2 : i < cs.size := by omega
    have e := hy i hi
    have hys : ys[i]? = some ys[i] := List.getElem?_eq_getElem (by omega)
    rw [hys, Nat.mul_one] at e
    have ec : ((Value.agg cs).cells.toList.drop i).take 1 = [cs[i]] := by
      simp only [Value.cells]
      rw [List.drop_eq_getElem_cons (by simpa using hi2)]
      simp
    rw [ec] at e
    obtain ⟨z, hz, _, hwf⟩ := DataW.trod_int hA.elem e
    simp only [List.cons.injEq, and_true] at hz
    exact ⟨z, by rw [Array.getElem?_eq_getElem hi2, hz], hwf⟩
  refine ⟨(List.range n).map (fun i => intOf (cs[i]?.getD undef)), ?_, by simp, ?_⟩
  · congr 1
    apply Array.ext_getElem?
    intro i
    by_cases hi : i < n
    · obtain ⟨z, hz, _⟩ := key i hi
      simp [hi, hz, intOf]
    · rw [Array.getElem?_eq_none (by omega)]
      simp [hi]
  · intro x hx
    simp only [List.mem_map, List.mem_range] at hx
    obtain ⟨i, hi, rfl⟩ := hx
    obtain ⟨z, hz, hb⟩ := key i hi
    simp [hz, hb, intOf]

end Go.Proofs.YthgfbcndoedacaaDoor

/-
  From how an argument is read as data to what the walks are told of it: a slice of bytes.
-/
namespace Go.Proofs.YthgfbcndoedacaaDoor
open Go.ChangeShapes Go.WideShapes Go.ChangeAt Go.RowKit
open Go.ChangeMaps (open_string shut_string)
set_option linter.unusedVariables false

theorem bytes5 : Tryd.prog.bytesOf 5 = 1 := by kernel_rfl

theorem wf_u8 {n : Int} (h : (Lit.int .u8 n).wf = true) : 0 ≤ n ∧ n ≤ 255 := bounds_u8 h

set_option maxRecDepth 100000 in
/-- A slice of bytes that came in, whatever its size. -/
theorem sl_open {H : Type} {enc : TypeId × Value → H} {W : World} {base : Nat} {v : Value} {d : DataW H} {p : List MemPlace}
    (hv : Value.okWide Tryd.prog W .any base 45 v) (h : DataW.Trod enc Tryd.prog W 0 (fun _ => true) true 45 v d p) :
    ∃ a len cap xs, v = .slice a len cap ∧ (cap ≤ 140737488351232 → Sl W a len cap xs) ∧
      ((d = .nil ∧ cap = 0) ∨ ∃ zs : List Int, zs.length = cap ∧ d = .slice (lits .u8 (zs.take len)) (lits .u8 (zs.drop len))) := by
  obtain ⟨a, len, cap, rfl⟩ := okWide_slice undBs hv
  refine ⟨a, len, cap, ?_⟩
  obtain ⟨fuel, hf⟩ := h
  rcases open_ints undBs undB (by kernel_rfl) hf with ⟨hcs, hx⟩ | ⟨x, l, c, zs, hcs, _, hl, hm, hz, hx, hcell, hwz⟩
  · simp [Value.cells] at hcs
    obtain ⟨rfl, rfl, rfl⟩ := hcs
    simp only [Prod.mk.injEq] at hx
    exact ⟨[], rfl, fun _ => ⟨rfl, Nat.le_refl _, by omega, by omega, (fun x hx => by simp at hx), fun _ => ⟨rfl, rfl⟩, fun h => absurd h (by omega)⟩, .inl ⟨hx.1, rfl⟩⟩
  · simp [Value.cells] at hcs
    obtain ⟨rfl, rfl, rfl⟩ := hcs
    simp only [Prod.mk.injEq] at hx
    simp only [if_true] at hz
    refine ⟨zs.take len, rfl, fun hc => ⟨by simp; omega, hl, by omega, by omega, fun y hy => wf_u8 (hwz y (List.mem_of_mem_take hy)), (fun e => by cases e), fun h0 => ?_⟩, .inr ⟨zs, hz, hx.1⟩⟩
    obtain ⟨b, off, spot⟩ := x
    have hs : spot = none := by simpa [Addr.add] using World.cell?_spot (hcell 0 (by omega))
    subst hs
    refine ⟨b, off, rfl, fun i hi => ?_⟩
    have e := hcell i (by omega)
    rw [Addr.add_lit] at e
    rw [e]
    simp [List.getD, hi]

set_option maxRecDepth 100000 in
/-- The same within the form's own reach. -/
theorem sl_of {H : Type} {enc : TypeId × Value → H} {W : World} {base : Nat} {v : Value} {d : DataW H} {p : List MemPlace} {ts : List TypeId} {ds : List (DataW H)} (j : Nat)
    (hv : Value.okWide Tryd.prog W .any base 45 v) (h : DataW.Trod enc Tryd.prog W 0 (fun _ => true) true 45 v d p)
    (hsz : (DataW.weightsEach Tryd.prog ts ds).all (· ≤ reachBytes) = true) (ht : ts[j]? = some 45) (hd : ds[j]? = some d) :
    ∃ a len cap xs, v = .slice a len cap ∧ Sl W a len cap xs ∧ cap ≤ 140737488351232 := by
  obtain ⟨a, len, cap, xs, rfl, hs, hd2⟩ := sl_open hv h
  have hc : cap ≤ 140737488351232 := by
    rcases hd2 with ⟨_, rfl⟩ | ⟨zs, hz, rfl⟩
    · omega
    · have := sized_slice hsz ht hd undBs
      rw [bytes5] at this
      simp only [lits, List.length_map, List.length_take, List.length_drop, reachBytes] at this
      omega
  exact ⟨a, len, cap, xs, rfl, hs hc, hc⟩

theorem bulk_ints {H : Type} (k : IntKind) (zs : List Int) : Rows.uptoBulkAll (H := H) (lits k zs) = zs.length := by
  induction zs with
  | nil => rfl
  | cons z l ih => simp only [lits, List.map_cons, Rows.uptoBulkAll, Rows.uptoBulk, List.length_cons] at ih ⊢; omega

set_option maxRecDepth 100000 in
theorem sl_upto {H : Type} {enc : TypeId × Value → H} {W : World} {base : Nat} {v : Value} {d : DataW H} {p : List MemPlace}
    (hv : Value.okWide Tryd.prog W .any base 45 v) (h : DataW.Trod enc Tryd.prog W 0 (fun _ => true) true 45 v d p) (hm : Rows.uptoBulk d ≤ 1048576) :
    ∃ a len cap xs, v = .slice a len cap ∧ Sl W a len cap xs ∧ cap ≤ 1048576 := by
  obtain ⟨a, len, cap, xs, rfl, hs, hd2⟩ := sl_open hv h
  have hc : cap ≤ 1048576 := by
    rcases hd2 with ⟨_, rfl⟩ | ⟨zs, hz, rfl⟩
    · omega
    · simp only [Rows.uptoBulk, bulk_ints, List.length_take, List.length_drop] at hm
      omega
  exact ⟨a, len, cap, xs, rfl, hs (by omega), hc⟩

end Go.Proofs.YthgfbcndoedacaaDoor

/-
  The table of the constants, as the program lays it.
-/
namespace Go.Proofs.YthgfbcndoedacaaDoor
open Go.ChangeShapes Go.WideShapes Go.ChangeAt Go.RowKit
set_option linter.unusedVariables false

def kL : List Int := [1116352408, 1899447441, 3049323471, 3921009573, 961987163, 1508970993, 2453635748, 2870763221, 3624381080, 310598401, 607225278, 1426881987, 1925078388, 2162078206, 2614888103, 3248222580, 3835390401, 4022224774, 264347078, 604807628, 770255983, 1249150122, 1555081692, 1996064986, 2554220882, 2821834349, 2952996808, 3210313671, 3336571891, 3584528711, 113926993, 338241895, 666307205, 773529912, 1294757372, 1396182291, 1695183700, 1986661051, 2177026350, 2456956037, 2730485921, 2820302411, 3259730800, 3345764771, 3516065817, 3600352804, 4094571909, 275423344, 430227734, 506948616, 659060556, 883997877, 958139571, 1322822218, 1537002063, 1747873779, 1955562222, 2024104815, 2227730452, 2361852424, 2428436474, 2756734187, 3204031479, 3329325298]
/-- The table lies in its place. -/
def KT (w : World) : Prop := ∀ i, i < 64 → w.cell? ⟨2, i, none⟩ = some (.int .u32 (kL.getD i 0))

theorem gTab : Tryd.prog.globalNamed "coppice/hash.constants" = some 2 := by kernel_rfl
theorem gTabT : (Tryd.prog.globals[2]?).map (·.type) = some 136 := by kernel_rfl
theorem undK : Tryd.prog.underlying 136 = some (.array 64 118) := by kernel_rfl
theorem undW : Tryd.prog.underlying 118 = some (.int .u32) := by kernel_rfl
theorem cellsW : Tryd.prog.cellsOf 118 = 1 := by kernel_rfl
theorem cellsK : Tryd.prog.cellsOf 136 = 64 := by kernel_rfl

theorem kt_of {W : World} (h : laidMetH Tryd.prog [("coppice/hash.constants", Rows.laid_coppice_hash_constants)] W) : KT W := by
  have ht : Lib.TabIs Tryd.prog W "coppice/hash.constants" .u32 kL := Lib.tabIs_of_head (rest := []) gTab gTabT undK undW cellsW cellsK h
  intro i hi
  have := ht.cell gTab i (show i < kL.length from hi)
  rw [this]

theorem KT.below {w w' : World} {B : Nat} (h : KT w) (hb : Below B w w') (hB : 2 < B) : KT w' := fun i hi => by
  rw [hb.cell (p := ⟨2, i, none⟩) hB]; exact h i hi
theorem KT.but {w w' : World} {g : Nat} (h : KT w) (hb : But g w w') (hg : 2 < g) : KT w' := fun i hi => by
  rw [World.cell?_of_block (w := w) (hb.block 2 (by omega))]; exact h i hi
theorem KT.lt {w : World} (h : KT w) : 2 < w.heap.size := World.block_lt_of_cell? w _ (h 0 (by decide))

/-- A world with the table laid in it, for the witness. -/
def laidOf (W : World) : World :=
  { W with heap := W.heap.modify 2 fun
      | .cells _ t frozen => .cells (kL.map (Value.int .u32)).toArray t frozen
      | o => o }

end Go.Proofs.YthgfbcndoedacaaDoor

/-
  The compression of a block: the program's.
-/
namespace Go.Proofs.YthgfbcndoedacaaDoor
open Go.RowKit
set_option linter.unusedVariables false

def ad (x y : Int) : Int := (x + y) % 4294967296
/-- All bits turned. -/
def nt (x : Int) : Int := xr 4294967295 x
def rndU (e f g h k w : Int) : Int := (h + sg e 6 11 25 + xr (an e f) (an (nt e) g) + k + w) % 4294967296
def rndV (a b c : Int) : Int := (sg a 2 13 22 + xr (xr (an a b) (an a c)) (an b c)) % 4294967296
/-- One round. -/
def rnd (k w : Int) : List Int → List Int
  | [a, b, c, d, e, f, g, h] => [ad (rndU e f g h k w) (rndV a b c), a, b, c, ad d (rndU e f g h k w), e, f, g]
  | l => l
/-- The first t rounds. -/
def rds (h ws : List Int) : Nat → List Int
  | 0 => h
  | t + 1 => rnd (kL.getD t 0) (ws.getD t 0) (rds h ws t)
theorem rnd_length (k w : Int) (l : List Int) (h : l.length = 8) : (rnd k w l).length = 8 := by
  match l, h with
  | [_, _, _, _, _, _, _, _], _ => rfl
theorem rds_length (h ws : List Int) (hl : h.length = 8) : ∀ t, (rds h ws t).length = 8
  | 0 => hl
  | t + 1 => rnd_length _ _ _ (rds_length h ws hl t)
/-- The words behind a block. -/
def comp (h blk : List Int) : List Int := List.zipWith ad h (rds h (sched blk) 64)
theorem comp_length (h blk : List Int) (hl : h.length = 8) : (comp h blk).length = 8 := by
  simp [comp, rds_length h (sched blk) hl 64, hl]

theorem eight (l : List Int) (h : l.length = 8) : ∃ a b c d e f g i, l = [a, b, c, d, e, f, g, i] := by
  match l, h with
  | [a, b, c, d, e, f, g, i], _ => exact ⟨a, b, c, d, e, f, g, i, rfl⟩

theorem zW : Zeroed 119 (u32s (zer 8)) := fun _ _ _ _ _ _ _ => by kernel_rfl
theorem wW : Wide 119 8 := ⟨by kernel_rfl, by kernel_rfl⟩
theorem aW8 : Arr 119 118 .u32 8 := ⟨by kernel_rfl, by kernel_rfl, by kernel_rfl, by kernel_rfl, by kernel_rfl, by kernel_rfl⟩
theorem aK : Arr 136 118 .u32 64 := ⟨by kernel_rfl, by kernel_rfl, by kernel_rfl, by kernel_rfl, by kernel_rfl, by kernel_rfl⟩
theorem aB64 : Arr 124 5 .u8 64 := ⟨by kernel_rfl, by kernel_rfl, by kernel_rfl, by kernel_rfl, by kernel_rfl, by kernel_rfl⟩
theorem cW8 : Tryd.prog.cellsOf 119 = 8 := by kernel_rfl
theorem cB64 : Tryd.prog.cellsOf 124 = 64 := by kernel_rfl
theorem wB64 : Wide 124 64 := ⟨by kernel_rfl, by kernel_rfl⟩

theorem quiet_eq {P : Program} {f : FuncId} {args : Array Value} {w : World} {n : Nat} {v : Value}
    (h : Calls P f args (w.drewN n) fun e w' => e = .returned v ∧ w.drewN n = w') : Calls P f args (w.drewN n) fun e w'' => e = .returned v ∧ ∃ m, w'' = w.drewN m :=
  h.mono fun _ _ ⟨he, hm⟩ => ⟨he, n, hm.symm⟩

set_option maxRecDepth 100000 in
set_option maxHeartbeats 2000000 in
theorem comp_any (h blk : List Int) (w : World) (hh : h.length = 8) (hb : isB blk) (hl : blk.length = 64) (hk : KT w) :
    Calls Tryd.prog 77 #[.agg (u32s h).toArray, .agg (u8s blk).toArray] w fun e w' => e = .returned (.agg (u32s (comp h blk)).toArray) ∧ Below w.heap.size w w' := by
  have HB := hide hb
  have HL := hide hl
  have HK := hide hk
  clear hb hl hk
  go_enter Tryd.func77, Tryd.ntmps77
  go_wp2_with (refine step_box rfl rfl ?_)
  intro w1 g1 hg1 hle1 hb1
  go_wp2_with (refine step_box rfl rfl ?_)
  intro w2 g2 hg2 hle2 hb2
  go_wp2_with (refine step_alloc zW rfl ?_)
  intro w3 g3 hg3 hle3 hb3
  have G1 := hide ((hg1.below hb2 hg1.lt).below hb3 (by have := hg1.lt; have := hb2.size; omega))
  have G2 := hide (hg2.below hb3 hg2.lt)
  have G3 := hide hg3
  have hw3 : Below w.heap.size w w3 := hb1.trans ((hb2.mono hb1.size).trans (hb3.mono (Nat.le_trans hb1.size hb2.size)))
  have hlt3 : w.heap.size ≤ g3 := by have := hb1.size; have := hb2.size; omega
  clear hg1 hg2 hg3 hb1 hb2 hb3 hle1 hle2 hle3
  go_wp2_with (first | (refine step_loadA wB64 rfl rfl G2.out (by rw [u8s_length]; exact HL.out) ?_) | (go_at_call 81; refine (sched_any _ _ HB.out HL.out).mono ?_; rintro e w4 ⟨rfl, hb4⟩) | (refine step_alloc zK rfl ?_))
  intro w5 g5 hg5 hle5 hb5
  go_wp2_with (refine step_storeA wK rfl rfl rfl hg5 (by rw [u32s_length, sched_length]) (One.u32 _) rfl ?_)
  intro w6 hg6 hbut6
  have hlt := w.heap.size
  have hb35 : Below w3.heap.size w3 w5 := hb4.trans (hb5.mono hb4.size)
  have hb36 : Below w3.heap.size w3 w6 := hb35.trans (hbut6.below (by have := hb4.size; omega))
  have J1 := hide (G1.out.below hb36 G1.out.lt)
  have J3 := hide (G3.out.below hb36 G3.out.lt)
  have J5 := hide hg6
  have hw6 : Below w.heap.size w w6 := hw3.trans (hb36.mono hw3.size)
  have K6 := hide (HK.out.below hw6 HK.out.lt)
  clear hg6 hbut6 hb35 hb36 hg5 hb5 hle5 hb4 G1 G2 G3 hw3
  obtain ⟨h0, h1, h2, h3, h4, h5, h6, h7, rfl⟩ := eight h hh
  have c0 : w6.cell? ⟨g1, 0, none⟩ = some (.int .u32 h0) := by rw [J1.out.cell]; rfl
  have c1 : w6.cell? ⟨g1, 1, none⟩ = some (.int .u32 h1) := by rw [J1.out.cell]; rfl
  have c2 : w6.cell? ⟨g1, 2, none⟩ = some (.int .u32 h2) := by rw [J1.out.cell]; rfl
  have c3 : w6.cell? ⟨g1, 3, none⟩ = some (.int .u32 h3) := by rw [J1.out.cell]; rfl
  have c4 : w6.cell? ⟨g1, 4, none⟩ = some (.int .u32 h4) := by rw [J1.out.cell]; rfl
  have c5 : w6.cell? ⟨g1, 5, none⟩ = some (.int .u32 h5) := by rw [J1.out.cell]; rfl
  have c6 : w6.cell? ⟨g1, 6, none⟩ = some (.int .u32 h6) := by rw [J1.out.cell]; rfl
  have c7 : w6.cell? ⟨g1, 7, none⟩ = some (.int .u32 h7) := by rw [J1.out.cell]; rfl
  go_wp2_with fail
  go_quiet (fail)
  go_wp2
  clear c0 c1 c2 c3 c4 c5 c6 c7
  go_loopw [6, 7, 8, 9, 10, 11, 12, 13, 35] (fun v6 v7 v8 v9 v10 v11 v12 v13 i wr => ∃ (t : Nat) (a b c d e f g hh : Int), t ≤ 64 ∧ i = .int .i64 t ∧ v6 = .int .u32 a ∧ v7 = .int .u32 b ∧ v8 = .int .u32 c ∧ v9 = .int .u32 d ∧ v10 = .int .u32 e ∧ v11 = .int .u32 f ∧ v12 = .int .u32 g ∧ v13 = .int .u32 hh ∧ rds [h0, h1, h2, h3, h4, h5, h6, h7] (sched blk) t = [a, b, c, d, e, f, g, hh] ∧ ∃ q, wr = w6.drewN q) (fun _ _ _ _ _ _ _ _ i _ => 64 - (intOf i).toNat)
  case atStart => exact ⟨0, h0, h1, h2, h3, h4, h5, h6, h7, by omega, rfl, rfl, rfl, rfl, rfl, rfl, rfl, rfl, rfl, rfl, _, rfl⟩
  case round =>
    obtain ⟨t, a, b, c, d, e, f, g, hh, ht, rfl, rfl, rfl, rfl, rfl, rfl, rfl, rfl, rfl, hr, q, hq⟩ := hrel
    have HQ := hide hq
    clear hq
    have HR := hide hr
    clear hr
    by_cases hlt : t < 64
    · have ck : wr.cell? ⟨2, t, none⟩ = some (.int .u32 (kL.getD t 0)) := by rw [HQ.out]; exact K6.out t hlt
      have cw : wr.cell? ⟨g5, t, none⟩ = some (.int .u32 ((sched blk).getD t 0)) := by rw [HQ.out, World.cell?_drewN, J5.out.cell]; exact u32s_get _ _ (by rw [sched_length]; exact hlt)
      have hlt' : (t : Int) < 64 := by omega
      have x0 := index_K g5 t (t : Int) rfl hlt
      have y0 := index_K 0 t (t : Int) rfl hlt
      have HS : Hid (rds [h0, h1, h2, h3, h4, h5, h6, h7] (sched blk) (t + 1) = rnd (kL.getD t 0) ((sched blk).getD t 0) (rds [h0, h1, h2, h3, h4, h5, h6, h7] (sched blk) t)) := hide rfl
      revert ck cw HS
      generalize kL.getD t 0 = kt
      generalize (sched blk).getD t 0 = wt
      intro ck cw HS
      go_wp2_with fail
      go_quiet (first | (go_at_call 82; refine quiet_eq (turned1_any _ _)))
      go_wp2_with (go_at_call 82; refine (turned0_any _ _).mono ?_; rintro e w' ⟨rfl, rfl⟩)
      refine ⟨⟨t + 1, _, _, _, _, _, _, _, _, by omega, by go_num, rfl, rfl, rfl, rfl, rfl, rfl, rfl, rfl, ?_, q + nq, ?_⟩, ?_⟩
      · rw [HS.out, HR.out]
        rfl
      · rw [HQ.out, World.drewN_drewN]
      · simp [intOf]; omega
    · obtain rfl : t = 64 := by omega
      have d0 : wr.cell? ⟨g1, 0, none⟩ = some (.int .u32 h0) := by rw [HQ.out, World.cell?_drewN, J1.out.cell]; rfl
      have d1 : wr.cell? ⟨g1, 1, none⟩ = some (.int .u32 h1) := by rw [HQ.out, World.cell?_drewN, J1.out.cell]; rfl
      have d2 : wr.cell? ⟨g1, 2, none⟩ = some (.int .u32 h2) := by rw [HQ.out, World.cell?_drewN, J1.out.cell]; rfl
      have d3 : wr.cell? ⟨g1, 3, none⟩ = some (.int .u32 h3) := by rw [HQ.out, World.cell?_drewN, J1.out.cell]; rfl
      have d4 : wr.cell? ⟨g1, 4, none⟩ = some (.int .u32 h4) := by rw [HQ.out, World.cell?_drewN, J1.out.cell]; rfl
      have d5 : wr.cell? ⟨g1, 5, none⟩ = some (.int .u32 h5) := by rw [HQ.out, World.cell?_drewN, J1.out.cell]; rfl
      have d6 : wr.cell? ⟨g1, 6, none⟩ = some (.int .u32 h6) := by rw [HQ.out, World.cell?_drewN, J1.out.cell]; rfl
      have d7 : wr.cell? ⟨g1, 7, none⟩ = some (.int .u32 h7) := by rw [HQ.out, World.cell?_drewN, J1.out.cell]; rfl
      have L3 := hide (show Blk wr g3 119 (u32s (zer 8)) by rw [HQ.out]; exact J3.out)
      have HC : Hid (comp [h0, h1, h2, h3, h4, h5, h6, h7] blk = [ad h0 a, ad h1 b, ad h2 c, ad h3 d, ad h4 e, ad h5 f, ad h6 g, ad h7 hh]) := hide (by rw [comp, HR.out]; rfl)
      go_wp2_with (refine step_storeA (vs := u32s [ad h0 a, ad h1 b, ad h2 c, ad h3 d, ad h4 e, ad h5 f, ad h6 g, ad h7 hh]) wW rfl rfl rfl L3.out rfl (One.u32 _) rfl ?_; intro w7 hg7 hbut7)
      refine bodyPost_ret (results_wide rfl wW _ _ rfl hg7 rfl) rfl ⟨by rw [HC.out], ?_⟩
      have hbr : Below w.heap.size w wr := by rw [HQ.out]; exact below_drewN hw6 q
      exact hbr.trans (hbut7.below hlt3)

end Go.Proofs.YthgfbcndoedacaaDoor

/-
  The first words; laws on regions that draw their order.
-/
namespace Go.Proofs.YthgfbcndoedacaaDoor
open Go.RowKit
set_option linter.unusedVariables false

/-- The first words. -/
def bL : List Int := [1779033703, 3144134277, 1013904242, 2773480762, 1359893119, 2600822924, 528734635, 1541459225]

set_option maxHeartbeats 1000000 in
theorem begin_any (w : World) : Calls Tryd.prog 76 #[] w fun e w' => e = .returned (.agg (u32s bL).toArray) ∧ Below w.heap.size w w' := by
  go_enter Tryd.func76, Tryd.ntmps76
  go_wp2_with (refine step_alloc zW rfl ?_)
  intro w1 g1 hg1 hle1 hb1
  go_wp2_with (first | (refine step_storeA (vs := u32s bL) wW rfl rfl rfl hg1 rfl (One.u32 _) rfl ?_; intro w2 hg2 hbut2) | (refine step_run rfl (.agg (u32s bL).toArray) _ (by kernel_rfl) ?_))
  refine bodyPost_ret (results_wide rfl wW _ _ rfl hg2 rfl) rfl ⟨rfl, ?_⟩
  exact hb1.trans (hbut2.below hle1)

end Go.Proofs.YthgfbcndoedacaaDoor

/-
  Bytes that come block by block: the words behind the whole blocks, what is left behind them. No program here.
-/
namespace Go.Proofs.YthgfbcndoedacaaDoor
open Go.RowKit
set_option linter.unusedVariables false

/-- The words behind the first k blocks of m, from h on. -/
def ov (h m : List Int) : Nat → List Int
  | 0 => h
  | k + 1 => comp (ov h m k) ((m.drop (64 * k)).take 64)
theorem ov_length (h m : List Int) (hl : h.length = 8) : ∀ k, (ov h m k).length = 8
  | 0 => hl
  | k + 1 => comp_length _ _ (ov_length h m hl k)
/-- How many whole blocks. -/
def bk (m : List Int) : Nat := m.length / 64
/-- What is left behind them. -/
def tl (m : List Int) : List Int := m.drop (64 * bk m)
theorem tl_length (m : List Int) : (tl m).length = m.length % 64 := by simp [tl, bk]; omega
/-- .. in a row of 64. -/
def rs (m : List Int) : List Int := tl m ++ zer (64 - m.length % 64)
theorem rs_length (m : List Int) : (rs m).length = 64 := by simp [rs, tl_length, zer_length]; omega
theorem rs_isB {m : List Int} (h : isB m) : isB (rs m) := (h.drop _).append (zer_isB _)
theorem rs_nil : rs [] = zer 64 := rfl

theorem ov_pre (h m ys : List Int) : ∀ k, 64 * k ≤ m.length → ov h (m ++ ys) k = ov h m k
  | 0, _ => rfl
  | k + 1, hk => by
    rw [ov, ov, ov_pre h m ys k (by omega), List.drop_append_of_le_length (by omega), List.take_append_of_le_length (by simp; omega)]

theorem fill (m ys : List Int) (h : m.length % 64 + ys.length ≤ 64) : splB (rs m) ys (m.length % 64) = (tl m ++ ys) ++ zer (64 - (m.length % 64 + ys.length)) := by
  unfold splB rs
  have ht := tl_length m
  rw [List.take_append_of_le_length (by omega), List.take_of_length_le (by omega)]
  congr 1
  rw [← List.drop_drop, List.drop_append_of_le_length (by omega), List.drop_of_length_le (by omega : (tl m).length ≤ m.length % 64)]
  simp [zer]
  omega

theorem grow_in (h m ys : List Int) (hr : m.length % 64 + ys.length < 64) :
    ov h (m ++ ys) (bk (m ++ ys)) = ov h m (bk m) ∧ rs (m ++ ys) = (tl m ++ ys) ++ zer (64 - (m.length % 64 + ys.length)) := by
  have hb : bk (m ++ ys) = bk m := by simp [bk]; omega
  have hl : 64 * bk m ≤ m.length := by simp [bk]; omega
  refine ⟨by rw [hb]; exact ov_pre h m ys _ hl, ?_⟩
  have ht : tl (m ++ ys) = tl m ++ ys := by
    unfold tl
    rw [hb, List.drop_append_of_le_length hl]
  have hm : (m ++ ys).length % 64 = m.length % 64 + ys.length := by simp; omega
  rw [rs, ht, hm]

theorem grow_on (h m ys : List Int) (hr : m.length % 64 + ys.length = 64) :
    ov h (m ++ ys) (bk (m ++ ys)) = comp (ov h m (bk m)) (tl m ++ ys) ∧ rs (m ++ ys) = zer 64 := by
  have hb : bk (m ++ ys) = bk m + 1 := by simp [bk]; omega
  have hl : 64 * bk m ≤ m.length := by simp [bk]; omega
  have hlen : (m ++ ys).length = 64 * (bk m + 1) := by simp [bk]; omega
  refine ⟨?_, ?_⟩
  · rw [hb, ov, ov_pre h m ys _ hl, List.drop_append_of_le_length hl]
    congr 1
    have := tl_length m
    exact List.take_of_length_le (by simp [tl] at this ⊢; omega)
  · have ht : tl (m ++ ys) = [] := by
      unfold tl
      rw [hb]
      exact List.drop_of_length_le (by omega)
    have hm : (m ++ ys).length % 64 = 0 := by omega
    rw [rs, ht, hm]
    rfl

/-- The cells of a state that began with words h behind n0 bytes, and has had m since. -/
def stM (h : List Int) (n0 : Nat) (m : List Int) : List Value := stC true (ov h m (bk m)) ((n0 + m.length : Nat) : Int) (rs m)

section
variable (t : Bool) (ws : List Int) (n : Int) (rest : List Int)
theorem stC_length (hw : ws.length = 8) (hr : rest.length = 64) : (stC t ws n rest).length = 74 := by simp [stC, u32s_length, u8s_length, hw, hr]
theorem stC_size (hw : ws.length = 8) : (stC t ws n rest)[9]? = some (.int .i64 n) := by
  rw [stC, List.getElem?_cons_succ, List.getElem?_append_right (by simp [u32s_length, hw]), u32s_length, hw]
  rfl
theorem stC_words (hw : ws.length = 8) : ((stC t ws n rest).drop 1).take 8 = u32s ws := by
  rw [stC, List.drop_succ_cons, List.drop_zero, List.take_append_of_le_length (by rw [u32s_length, hw]; exact Nat.le_refl _), List.take_of_length_le (by rw [u32s_length, hw]; exact Nat.le_refl _)]
theorem stC_ten (hw : ws.length = 8) : ∃ hd : List Value, hd.length = 10 ∧ ∀ rest, stC t ws n rest = hd ++ u8s rest :=
  ⟨Value.bool t :: (u32s ws ++ [Value.int .i64 n]), by simp [u32s_length, hw], fun rest => by simp [stC]⟩
theorem stC_rest (hw : ws.length = 8) (hr : rest.length = 64) : ((stC t ws n rest).drop 10).take 64 = u8s rest := by
  obtain ⟨hd, hl, e⟩ := stC_ten t ws n hw
  rw [e rest, ← hl, List.drop_left, List.take_of_length_le (by rw [u8s_length, hr]; exact Nat.le_refl _)]
theorem stC_setSize (hw : ws.length = 8) (x : Int) : (stC t ws n rest).set 9 (.int .i64 x) = stC t ws x rest := by
  rw [stC, List.set_cons_succ, List.set_append_right _ _ (by rw [u32s_length, hw]; exact Nat.le_refl _), u32s_length, hw]
  rfl
theorem stC_setWords (hw : ws.length = 8) (ws' : List Int) (hw' : ws'.length = 8) : spl (stC t ws n rest) (u32s ws') 1 = stC t ws' n rest := by
  unfold spl
  rw [u32s_length, hw', stC, List.take_succ_cons, List.take_zero, show 1 + 8 = 8 + 1 from rfl, List.drop_succ_cons, List.drop_append_of_le_length (by rw [u32s_length, hw]; exact Nat.le_refl _), List.drop_of_length_le (by rw [u32s_length, hw]; exact Nat.le_refl _)]
  rfl
theorem stC_setRest (hw : ws.length = 8) (ys : List Int) (o : Nat) (ho : o + ys.length ≤ rest.length) : spl (stC t ws n rest) (u8s ys) (10 + o) = stC t ws n (splB rest ys o) := by
  obtain ⟨hd, hl, e⟩ := stC_ten t ws n hw
  rw [e rest, e, ← spl_u8]
  unfold spl
  rw [List.take_append, List.drop_append, hl]
  simp only [List.append_assoc]
  rw [List.take_of_length_le (by omega), List.drop_of_length_le (by omega)]
  simp only [List.nil_append]
  rw [show 10 + o - 10 = o by omega, show 10 + o + (u8s ys).length - 10 = o + (u8s ys).length by omega]
end

end Go.Proofs.YthgfbcndoedacaaDoor
