/-
  The law's framed: data in frames, one behind the other, and the places behind them.
-/
import Derived.Test.YtbkhlbaamjccjaaDoorFfb
import Derived.Test.YtbkhlbaamjccjaaDoorFrq
import Derived.Test.YtbkhlbaamjccjaaDoorFow
namespace Go.Proofs.YtbkhlbaamjccjaaDoor
open Go.RowKit
set_option linter.unusedVariables false
set_option linter.unusedSimpArgs false

/-- The places behind the first frames, as cells. -/
def qC (ps : List (List Int)) (K : Nat) : List Value := (List.range K).map fun j => .int .i64 (qL ps (j + 1) : Int)
theorem qC_length (ps : List (List Int)) (K : Nat) : (qC ps K).length = K := by simp [qC]
theorem qC_succ (ps : List (List Int)) (k : Nat) : qC ps (k + 1) = qC ps k ++ [.int .i64 (qL ps (k + 1) : Int)] := by
  unfold qC; rw [List.range_succ, List.map_append]; rfl
theorem qC_get (ps : List (List Int)) (K j : Nat) (h : j < K) : (qC ps K)[j]? = some (.int .i64 (qL ps (j + 1) : Int)) := by simp [qC, h]
theorem Tin.atO {L T : TypeId} {z : Value} {by' : Nat} (t : Tin L T z by') (b o n cap i : Nat) (I : Int) (hI : I = (i : Int)) (hi : i < n) (v : World) : (Instr.indexAt L (.slice (some ⟨b, o, none⟩) n cap) (.int .i64 I)).run Tryd.prog v = .ok (.pointer (some ⟨b, o + i, none⟩)) v := by
  subst hI
  have hu : Tryd.prog.underlying L = some (.slice (Tryd.prog.elem L)) := by rw [t.elem]; exact t.und
  rw [run_indexAt_slice v _ _ _ _ .i64 i hu, if_pos ⟨by omega, by omega⟩, t.elem, t.size]
  simp only [Result.andThen_ok, Int.toNat_natCast]
  rw [Addr.add_lit, Nat.mul_one]
theorem Sls.piece {w : World} {a : Option Addr} {len cap : Nat} {ps : List (List Int)} (h : Sls w a len cap ps) : (∀ p ∈ ps, isB p) ∧ ∀ j, j < ps.length → (ps.getD j []).length ≤ 1048576 := by
  have key : ∀ j, j < ps.length → isB (ps.getD j []) ∧ (ps.getD j []).length ≤ 1048576 := by
    intro j hj
    obtain ⟨b, off, ai, li, ci, _, _, hs, hl⟩ := h.hcell j (by rw [← h.hlen]; exact hj)
    exact ⟨hs.hbyte, by rw [hs.hlen]; exact hl⟩
  refine ⟨fun p hp => ?_, fun j hj => (key j hj).2⟩
  obtain ⟨j, hj, rfl⟩ := List.getElem_of_mem hp
  have := (key j hj).1
  simpa [List.getD, hj] using this
set_option maxHeartbeats 1000000 in
theorem framed_any (a : Option Addr) (len cap : Nat) (ps : List (List Int)) (w : World) (hs : Sls w a len cap ps) (hk : KT w) :
    Calls Tryd.prog 24 #[.slice a len cap] w fun r w' => ∃ vb ve, r = .returned (.tuple #[vb, ve, .bool true]) ∧ Own w' w.heap.size vb (fmA ps) ∧ OwnV 3 w' w.heap.size ve (qC ps ps.length) ∧ Below w.heap.size w w' := by
  have HS := hide hs
  have HX := hide hs.hlen
  have HK := hide hk
  have hmx := hs.hmax
  have HPB := hide hs.piece.1
  have HFL : Hid ((fmA ps).length ≤ 9437184) := hide (by rw [fmA_len, hs.hlen]; have := hs.hmax; have := hs.hsum; omega)
  clear hs hk
  go_enter Tryd.func24, Tryd.ntmps24
  go_wp2
  go_loopw [5, 6, 7] (fun b e i wr => ∃ k : Nat, k ≤ len ∧ i = .int .i64 (k : Int) ∧ Hid (Own wr w.heap.size b (fmA (ps.take k))) ∧ Hid (OwnV 3 wr w.heap.size e (qC ps k)) ∧ Hid (Below w.heap.size w wr)) (fun _ _ i _ => len - (intOf i).toNat)
  case atStart => exact ⟨0, Nat.zero_le _, rfl, hide (Own.nil _ _), hide (OwnV.nil _ _ _), hide (Below.refl _ _)⟩
  case round =>
    obtain ⟨k, hk, rfl, HO, HE, HB⟩ := hrel
    by_cases hlt : k < len
    · have hlt' : (k : Int) < (len : Int) := by omega
      obtain ⟨bb, off, ai, li, ci, rfl, hc, hsi, hli⟩ := (HS.out.below HB.out).hcell k hlt
      have x1 := tinB.atO bb off len cap k (k : Int) rfl hlt
      have hq := qL_mono ps k ps.length (by rw [HX.out]; exact hk) (Nat.le_refl _)
      rw [← fmA_all] at hq
      have hq2 : qL ps k ≤ 9437184 := Nat.le_trans hq HFL.out
      have hTB : isB (fmA (ps.take k)) := fmA_isB _ (fun p hp => HPB.out p (List.mem_of_mem_take hp))
      have hql : (fmA (ps.take k)).length = qL ps k := rfl
      obtain ⟨ab, cb, eb, sb⟩ := HO.out.sl' hTB (by rw [hql]; omega)
      rw [hql] at eb sb
      subst eb
      have P1 := put_ok _ _ _ _ _ _ _ _ wr sb hsi hli (HK.out.on HB.out)
      have hs1 := qL_succ ps k (by rw [HX.out]; exact hlt)
      rw [← fmA_succ ps k (by rw [HX.out]; exact hlt), show qL ps k + 8 + li = qL ps (k + 1) by rw [hs1, hsi.hlen]; omega] at P1
      obtain ⟨Z, HZ⟩ : ∃ Z, Hid (qL ps (k + 1) = Z) := ⟨_, hide rfl⟩
      have HQS := hide (qC_succ ps k)
      rw [HZ.out] at P1 HQS
      have HP1 := hide P1
      have hZ : Z ≤ 18874368 := by rw [← HZ.out, hs1, hsi.hlen]; omega
      obtain ⟨Y, HY⟩ : ∃ Y, Hid (qL ps k = Y) := ⟨_, hide rfl⟩
      rw [HY.out] at HP1
      rw [HY.out]
      clear P1 sb hsi hTB hql hs1 hq
      go_wp2_with fail
      refine HP1.out.mono ?_
      rintro _ w1 ⟨g, rfl, hg, ho1, hb1⟩
      have O1 := hide (ho1.mono HB.out.size)
      have E1 := hide (HE.out.below hb1)
      have B1 := hide (on_below HB.out hb1)
      clear ho1 hb1 HO HE HP1 hc x1
      go_wp2_with (refine step_one1 tinI (u := .int .i64 (Z : Int)) rfl rfl rfl ?_)
      intro w2 g2 hg2 hl2 hb2
      have O2 := hide (O1.out.below hb2)
      have E2 := hide (E1.out.below hb2)
      have B2 := hide (on_below B1.out hb2)
      have G2 := hide hg2
      clear hg2 hb2 O1 E1 B1
      go_wp2_with (refine step_app1 tinI (u := .int .i64 (Z : Int)) rfl rfl rfl rfl E2.out G2.out (by rw [qC_length]; omega) B2.out.size ?_)
      intro e3 w3 he3 hg3
      have O3 := hide (O2.out.kept hg3 (O2.out.ne E2.out (by decide)))
      have B3 := hide (B2.out.trans (Below.of_grown hg3 B2.out.size (fun r e => (E2.out.lt r e).1)))
      rw [← HQS.out] at he3
      have E3 := hide he3
      clear he3 hg3 O2 E2 B2 G2
      go_wp2
      go_roundw
      case rel => exact ⟨k + 1, hlt, by go_num, O3, E3, B3⟩
      case measure => simp [intOf]; omega
    · obtain rfl : k = len := by omega
      rw [List.take_of_length_le (by rw [HX.out]; exact Nat.le_refl _)] at HO
      rw [← HX.out] at HE
      go_wp2
      go_ret3
      exact ⟨_, _, rfl, HO.out, HE.out, HB.out⟩

end Go.Proofs.YtbkhlbaamjccjaaDoor
