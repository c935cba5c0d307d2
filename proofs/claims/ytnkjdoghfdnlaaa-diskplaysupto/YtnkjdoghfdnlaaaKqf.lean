/-
  The document's do: a file's bytes appended, cut.
-/
import Derived.Test.YtnkjdoghfdnlaaaKqe
namespace Go.Proofs.Ytnkjdoghfdnlaaa
open Go.RowKit
set_option linter.unusedVariables false

theorem set_app (a b : List Value) (k : Nat) (hk : a.length ≤ k) (v : Value) : (a ++ b).set k v = a ++ b.set (k - a.length) v := List.set_append_right _ _ hk
theorem filC_set (A B : List (ByteArray × List Int)) (n : ByteArray) (xs ys : List Int) : (filC (A ++ (n, xs) :: B)).set (A.length * 2 + 1) (.string (str ys)) = filC (A ++ (n, ys) :: B) := by
  rw [filC_app, filC_app, filC_cons, filC_cons, set_app _ _ _ (by rw [filC_length]; omega), filC_length]
  congr 1
  rw [show A.length * 2 + 1 - A.length * 2 = 1 by omega]
  rfl
theorem fil_set {A B : List (ByteArray × List Int)} {n : ByteArray} {xs : List Int} {cs : List Value} {m : Nat} (h : cs.take m = filC (A ++ (n, xs) :: B)) (ys : List Int) : (cs.set (A.length * 2 + 1) (.string (str ys))).take m = filC (A ++ (n, ys) :: B) := by
  rw [List.take_set, h, filC_set]
section
variable {w W W' : World} {r s : Nat} {rs : List Rw} {R : Rm} {fv : Value} {A B : List (ByteArray × List Int)} {n : ByteArray} {xs : List Int} {x : Rw} {v : Value} {g3 : Nat}
/-- A file's bytes are turned in their place. -/
theorem DsR.setF (h : DsR w W r s R fv (A ++ (n, xs) :: B) x v g3) {g cap : Nat} (hfv : fv = .slice (some ⟨g, 0, none⟩) (A ++ (n, xs) :: B).length cap) (ys : List Int) : DsR w (W.setCell ⟨g, A.length * 2 + 1, none⟩ (.string (str ys))) r s R fv (A ++ (n, ys) :: B) x v g3 := by
  subst hfv
  obtain ⟨g', cap', cs, e, hb, h3, h4⟩ := row_at h.fk.row (by simp only [List.length_append, List.length_cons]; omega)
  injection e with e1 _ e3
  injection e1 with e1
  injection e1 with e1
  subst e1 e3
  have B6 := But.setCell W g (A.length * 2 + 1) (.string (str ys))
  have hb' := hb.set (A.length * 2 + 1) (.string (str ys))
  have hlen : (A ++ (n, ys) :: B).length = (A ++ (n, xs) :: B).length := by simp
  refine ⟨⟨h.fk.blk.but B6 (h.fk.blk.apart hb (by decide)), ?_⟩, ?_, h.gb.but B6 (h.gb.apart hb (by decide)), h.new, h.chs.thenBut B6 (h.lie g rfl), h.lie, h.off⟩
  · rw [hlen]
    exact row_set h.fk.row hb hb' (by simp) (fil_set h3 ys) (by rw [filC_length, hlen])
  · refine row_same h.row (fun k hk => B6.block k ?_)
    obtain ⟨cs', hc⟩ := row_lies h.row hk
    exact hc.apart hb (by decide)
/-- The file's place and cells. -/
theorem DsR.at' (h : DsR w W r s R fv (A ++ (n, xs) :: B) x v g3) : ∃ g cap, fv = .slice (some ⟨g, 0, none⟩) (A ++ (n, xs) :: B).length cap ∧ ∀ z : World, Below W.heap.size W z → z.cell? ⟨g, A.length * 2, none⟩ = some (.string n) ∧ z.cell? ⟨g, A.length * 2 + 1, none⟩ = some (.string (str xs)) ∧ z.frozen? ⟨g, A.length * 2 + 1, none⟩ = false ∧ z.rangeAt g (A.length * 2) [.string n, .string (str xs)] := by
  obtain ⟨g, cap, cs, h1, h2, h3, h4, h5, h6, h7⟩ := h.fk.file (k := A.length) (x := (n, xs)) (by simp)
  refine ⟨g, cap, h1, fun z hz => ?_⟩
  have h2' := h2.on hz
  refine ⟨by rw [h2'.cell]; exact h6, by rw [h2'.cell]; exact h7, h2'.free _, h2'.range _ _ (by simpa using h5)⟩
end
theorem add_str (xs b : List Int) (h : xs.length + b.length ≤ 9223372036854775807) (W : World) : (binOp .add 9 (.string (str xs)) (.string (str b))).run Try.prog W = .ok (.string (str (xs ++ b))) W := by
  rw [← str_append]
  have h1 := str_size xs
  have h2 := str_size b
  simp [binOp, Op.stringOp, h1, h2]
  omega
theorem cut_str (xs : List Int) (k : Int) (h0 : 0 ≤ k) (h1 : k ≤ xs.length) (W : World) : (Instr.slice 9 (.string (str xs)) none (some (.int .i64 k)) none).run Try.prog W = .ok (.string (str (xs.take k.toNat))) W := by
  rw [run_slice_string_h W 9 (str xs) Try.underlying9 .i64 k h0 (by rw [str_size]; exact h1), str_take]

section
variable (r s : Nat) (rs : List Rw) (R : Rm) (n : ByteArray) (w : World) (h : RkAt w r s rs R) (hn : nmB n = true)
include h hn
set_option maxRecDepth 100000 in
set_option maxHeartbeats 1000000 in
theorem doR_ap (v : Value) (b xs : List Int) (hf : play rs n = some xs) (hb : b ≠ []) (hB' : isB b) (hfit : xs.length % s + b.length ≤ s) (hwt : wt rs + b.length + 1 ≤ 16777216) (hv : BV w v b) : Calls Try.prog 40 #[.pointer (some ⟨r, 0, none⟩), .agg (rwC 2 n v 0 ByteArray.empty).toArray] w fun e w' => e = .returned (.tuple #[]) ∧ RoR w w' r s R (rs ++ [rAp n b]) v := by
  obtain ⟨A, B0, hAB0, hA, hlt, hB⟩ := h.fls.split n
  obtain ⟨I, hI⟩ : ∃ I, A.length = I := ⟨_, rfl⟩
  obtain ⟨B, hBB, hB2⟩ : ∃ B, B0 = (n, xs) :: B ∧ ∀ b ∈ B, blt n b.1 = true := by
    rcases hB with ⟨h1, _⟩ | ⟨ys, B', h1, h2, h3⟩
    · rw [hf] at h1; cases h1
    · rw [hf] at h1
      injection h1 with h1
      subst h1
      exact ⟨B', h2, h3⟩
  subst hBB
  have hAB := hAB0
  have hxs : fl (play rs) n = xs := by simp [fl, hf]
  have HLR : Hid (Lraw s (play rs) (rAp n b)) := hide ⟨.inr (.inl ⟨n, b, xs, rfl, hn, hf, hb, hB'⟩), fun _ => by show (fl (play rs) n).length % s + b.length ≤ s; rw [hxs]; exact hfit⟩
  have HFL : Hid (FL (doR (play rs) (rAp n b)) (A ++ (n, xs ++ b) :: B)) := hide (by
    have := h.fls
    rw [hAB] at this
    have := this.set hlt hB2 (xs ++ b)
    rw [do_ap, hxs]
    exact this)
  have HLN : Hid ((A ++ (n, xs ++ b) :: B).length ≤ rs.length + 1) := hide (by
    have := h.few
    rw [hAB] at this
    simp at this ⊢
    omega)
  have HADD : Hid (∀ z : World, (binOp .add 9 (.string (str xs)) (.string (str b))).run Try.prog z = .ok (.string (str (xs ++ b))) z) := hide (fun z => add_str xs b (by have h1 := play_wt rs n; rw [hxs] at h1; omega) z)
  obtain ⟨va, vc, hve, hvs⟩ := hv.sl
  have HVE := hide hve
  clear hB hB2 hn hxs hve hvs hb hB' hfit hAB0
  obtain ⟨fa, fc, hfe⟩ := row_slice h.fk.row
  have HH := hide h
  have HL : Hid (R.l.length ≤ 16777216) := hide (by have h1 := h.few; have h2 := len_wt rs; omega)
  have hrl : R.qs.length = rs.length := by rw [← h.raw]; simp
  have HRL : Hid (R.qs.length ≤ 16777216) := hide (by have h2 := len_wt rs; omega)
  clear hrl
  have HFE := hide hfe
  have HAB := hide hAB
  have HA := hide hA
  have HLTA := hide hlt
  have HV := hide hv
  have hfind : ∀ (W : World), FkAt W r s R.fv R.qv R.l → Calls Try.prog 57 #[.pointer (some ⟨r, 0, none⟩), .string n] W fun e w' => e = .returned (.tuple #[.int .i64 (I : Int), .bool true]) ∧ Below W.heap.size W w' := fun W hW => by
    have := find_any r s R.fv R.qv R.l (play rs) n W hW h.fls HL.out
    rw [← hA, hI, hf] at this
    exact this
  have HFD := hide hfind
  clear h hAB hA hlt hv hfe hfind hwt
  go_enter Try.func40, Try.ntmps40
  go_wp2_with (refine step_box (cs := rwC 2 n v 0 ByteArray.empty) rfl rfl ?_)
  intro w1 g3 hg3 hle3 hb1
  have D1 : Hid (DsR w w1 r s R R.fv R.l (rAp n b) v g3) := hide (HH.out.ds hb1 hg3 hle3)
  have c1 : w1.cell? ⟨g3, 1, none⟩ = some (.string n) := D1.out.r1
  clear hg3 hle3 hb1
  go_wp2_with (go_at_call 57; refine (HFD.out _ D1.out.fk).mono ?_; rintro e w2 ⟨rfl, hb2⟩; have D2 := hide (D1.out.below hb2); have c0 : w2.cell? ⟨g3, 0, none⟩ = some (.int .i64 2) := D2.out.r0; clear c1 D1 hb2)
  clear HFD
  have D2' := D2
  rw [HAB.out] at D2'
  obtain ⟨g, cap, hfv, hcells⟩ := D2'.out.at'
  have HFV := hide hfv
  obtain ⟨L, hL⟩ : ∃ L, (A ++ (n, xs) :: B).length = L := ⟨_, rfl⟩
  rw [hL] at hfv
  have HIX : Hid (∀ z : World, (Instr.indexAt 73 (.slice (some ⟨g, 0, none⟩) L cap) (.int .i64 (I : Int))).run Try.prog z = .ok (.pointer (some ⟨g, I * 2, none⟩)) z) := hide (fun z => vw_at rFi g L cap I (by rw [← hL, ← hI]; simp) z)
  have HC1 : Hid (∀ z : World, Below w2.heap.size w2 z → z.cell? ⟨r, 1, none⟩ = some (.slice (some ⟨g, 0, none⟩) L cap)) := hide (fun z hz => by rw [← hfv]; exact (D2.out.below hz).c1)
  have HCB : Hid (∀ z : World, Below w2.heap.size w2 z → z.cell? ⟨g, I * 2 + 1, none⟩ = some (.string (str xs))) := hide (fun z hz => by rw [← hI]; exact (hcells z hz).2.1)
  have HFZ : Hid (∀ z : World, Below w2.heap.size w2 z → z.frozen? ⟨g, I * 2 + 1, none⟩ = false) := hide (fun z hz => by rw [← hI]; exact (hcells z hz).2.2.1)
  have HRG : Hid (∀ z : World, Below w2.heap.size w2 z → z.rangeAt g (I * 2) [.string n, .string (str xs)]) := hide (fun z hz => by rw [← hI]; exact (hcells z hz).2.2.2)
  have HLL := hide hL
  have HII := hide hI
  clear hfv hcells hL c0 hI
  have HCV : Hid (∀ z : World, Below w2.heap.size w2 z → z.cell? ⟨g3, 2, none⟩ = some v) := hide (fun z hz => (D2.out.below hz).r2)
  have HST : Hid (∀ z : World, Below w2.heap.size w2 z → (convert 31 9 v).run Try.prog z = .ok (.string (str b)) z) := hide (fun z hz => by
    have hbv : BV z v b := HV.out.same (fun k hk => by
      obtain ⟨cs, hc⟩ := HV.out.lies hk
      exact (D2.out.below hz).chs.block k hc.lt (HH.out.off hc))
    obtain ⟨a1, c1, e1, hs1⟩ := hbv.sl
    rw [e1]
    exact toStr hs1)
  refine wp_region_noPanic ?_
  refine wp_region_U (q := 19) (S := fun z : World => Below w2.heap.size w2 z) (by kernel_rfl) ?_
  have Z0 := hide ((Below.refl w2.heap.size w2).drew)
  have hHeld := Z0.out
  refine takeU 19 0 48 (.pointer (some ⟨r, 0, none⟩)) hHeld rfl rfl (by kernel_rfl) (by kernel_rfl) (by kernel_rfl) (by kernel_rfl) (by kernel_rfl) (by kernel_rfl) (fun _ _ _ h => h) (Or.inl ⟨by rfl, fun w _ => by go_simp⟩) ?_
  simp only [Act.put, List.setIfInBounds_toArray, List.set_cons_zero, List.set_cons_succ]
  refine takeU 19 1 49 (.pointer (some ⟨r, 0, none⟩)) hHeld rfl rfl (by kernel_rfl) (by kernel_rfl) (by kernel_rfl) (by kernel_rfl) (by kernel_rfl) (by kernel_rfl) (fun _ _ _ h => h) (Or.inl ⟨by rfl, fun w _ => by go_simp⟩) ?_
  simp only [Act.put, List.setIfInBounds_toArray, List.set_cons_zero, List.set_cons_succ]
  refine takeU 19 2 50 (.pointer (some ⟨r, 1, none⟩)) hHeld rfl rfl (by kernel_rfl) (by kernel_rfl) (by kernel_rfl) (by kernel_rfl) (by kernel_rfl) (by kernel_rfl) (fun _ _ _ h => h) (Or.inl ⟨by rfl, fun w _ => by go_simp⟩) ?_
  simp only [Act.put, List.setIfInBounds_toArray, List.set_cons_zero, List.set_cons_succ]
  refine takeU 19 3 51 (.slice (some ⟨g, 0, none⟩) L cap) hHeld rfl rfl (by kernel_rfl) (by kernel_rfl) (by kernel_rfl) (by kernel_rfl) (by kernel_rfl) (by kernel_rfl) (fun _ _ _ h => h) (Or.inl ⟨by rfl, fun w hw => by have hw' : w.cell? ⟨r, 1, none⟩ = some (.slice (some ⟨g, 0, none⟩) L cap) := (fun hw => HC1.out _ hw) hw; go_simp⟩) ?_
  simp only [Act.put, List.setIfInBounds_toArray, List.set_cons_zero, List.set_cons_succ]
  refine takeU 19 4 52 (.int .i64 (I : Int)) hHeld rfl rfl (by kernel_rfl) (by kernel_rfl) (by kernel_rfl) (by kernel_rfl) (by kernel_rfl) (by kernel_rfl) (fun _ _ _ h => h) (Or.inl ⟨by rfl, fun w _ => by go_simp⟩) ?_
  simp only [Act.put, List.setIfInBounds_toArray, List.set_cons_zero, List.set_cons_succ]
  refine takeU 19 5 53 (.pointer (some ⟨r, 0, none⟩)) hHeld rfl rfl (by kernel_rfl) (by kernel_rfl) (by kernel_rfl) (by kernel_rfl) (by kernel_rfl) (by kernel_rfl) (fun _ _ _ h => h) (Or.inl ⟨by rfl, fun w _ => by go_simp⟩) ?_
  simp only [Act.put, List.setIfInBounds_toArray, List.set_cons_zero, List.set_cons_succ]
  refine takeU 19 6 54 (.pointer (some ⟨r, 0, none⟩)) hHeld rfl rfl (by kernel_rfl) (by kernel_rfl) (by kernel_rfl) (by kernel_rfl) (by kernel_rfl) (by kernel_rfl) (fun _ _ _ h => h) (Or.inl ⟨by rfl, fun w _ => by go_simp⟩) ?_
  simp only [Act.put, List.setIfInBounds_toArray, List.set_cons_zero, List.set_cons_succ]
  refine takeU 19 7 55 (.pointer (some ⟨r, 1, none⟩)) hHeld rfl rfl (by kernel_rfl) (by kernel_rfl) (by kernel_rfl) (by kernel_rfl) (by kernel_rfl) (by kernel_rfl) (fun _ _ _ h => h) (Or.inl ⟨by rfl, fun w _ => by go_simp⟩) ?_
  simp only [Act.put, List.setIfInBounds_toArray, List.set_cons_zero, List.set_cons_succ]
  refine takeU 19 8 56 (.slice (some ⟨g, 0, none⟩) L cap) hHeld rfl rfl (by kernel_rfl) (by kernel_rfl) (by kernel_rfl) (by kernel_rfl) (by kernel_rfl) (by kernel_rfl) (fun _ _ _ h => h) (Or.inl ⟨by rfl, fun w hw => by have hw' : w.cell? ⟨r, 1, none⟩ = some (.slice (some ⟨g, 0, none⟩) L cap) := (fun hw => HC1.out _ hw) hw; go_simp⟩) ?_
  simp only [Act.put, List.setIfInBounds_toArray, List.set_cons_zero, List.set_cons_succ]
  refine takeU 19 9 57 (.int .i64 (I : Int)) hHeld rfl rfl (by kernel_rfl) (by kernel_rfl) (by kernel_rfl) (by kernel_rfl) (by kernel_rfl) (by kernel_rfl) (fun _ _ _ h => h) (Or.inl ⟨by rfl, fun w _ => by go_simp⟩) ?_
  simp only [Act.put, List.setIfInBounds_toArray, List.set_cons_zero, List.set_cons_succ]
  refine takeU 19 10 58 (.pointer (some ⟨g, I * 2, none⟩)) hHeld rfl rfl (by kernel_rfl) (by kernel_rfl) (by kernel_rfl) (by kernel_rfl) (by kernel_rfl) (by kernel_rfl) (fun _ _ _ h => h) (Or.inl ⟨by rfl, fun w h => run_op rfl (HIX.out w)⟩) ?_
  simp only [Act.put, List.setIfInBounds_toArray, List.set_cons_zero, List.set_cons_succ]
  refine takeU 19 11 59 (.pointer (some ⟨g, I * 2 + 1, none⟩)) hHeld rfl rfl (by kernel_rfl) (by kernel_rfl) (by kernel_rfl) (by kernel_rfl) (by kernel_rfl) (by kernel_rfl) (fun _ _ _ h => h) (Or.inl ⟨by rfl, fun w _ => by go_simp⟩) ?_
  simp only [Act.put, List.setIfInBounds_toArray, List.set_cons_zero, List.set_cons_succ]
  refine takeU 19 12 60 (.string (str xs)) hHeld rfl rfl (by kernel_rfl) (by kernel_rfl) (by kernel_rfl) (by kernel_rfl) (by kernel_rfl) (by kernel_rfl) (fun _ _ _ h => h) (Or.inl ⟨by rfl, fun w hw => by have hw' : w.cell? ⟨g, (I * 2 + 1), none⟩ = some (.string (str xs)) := (fun hw => HCB.out _ hw) hw; go_simp⟩) ?_
  simp only [Act.put, List.setIfInBounds_toArray, List.set_cons_zero, List.set_cons_succ]
  refine takeU 19 13 61 (.pointer (some ⟨g3, 2, none⟩)) hHeld rfl rfl (by kernel_rfl) (by kernel_rfl) (by kernel_rfl) (by kernel_rfl) (by kernel_rfl) (by kernel_rfl) (fun _ _ _ h => h) (Or.inl ⟨by rfl, fun w _ => by go_simp⟩) ?_
  simp only [Act.put, List.setIfInBounds_toArray, List.set_cons_zero, List.set_cons_succ]
  refine takeU 19 14 62 (v) hHeld rfl rfl (by kernel_rfl) (by kernel_rfl) (by kernel_rfl) (by kernel_rfl) (by kernel_rfl) (by kernel_rfl) (fun _ _ _ h => h) (Or.inl ⟨by rfl, fun w hw => by have hw' : w.cell? ⟨g3, 2, none⟩ = some (v) := (fun hw => HCV.out _ hw) hw; go_simp⟩) ?_
  simp only [Act.put, List.setIfInBounds_toArray, List.set_cons_zero, List.set_cons_succ]
  refine takeU 19 15 63 (.string (str b)) hHeld rfl rfl (by kernel_rfl) (by kernel_rfl) (by kernel_rfl) (by kernel_rfl) (by kernel_rfl) (by kernel_rfl) (fun _ _ _ h => h) (Or.inl ⟨by rfl, fun w h => run_op rfl (HST.out w h)⟩) ?_
  simp only [Act.put, List.setIfInBounds_toArray, List.set_cons_zero, List.set_cons_succ]
  refine takeU 19 16 64 (.string (str (xs ++ b))) hHeld rfl rfl (by kernel_rfl) (by kernel_rfl) (by kernel_rfl) (by kernel_rfl) (by kernel_rfl) (by kernel_rfl) (fun _ _ _ h => h) (Or.inl ⟨by rfl, fun w h => run_op rfl (HADD.out w)⟩) ?_
  simp only [Act.put, List.setIfInBounds_toArray, List.set_cons_zero, List.set_cons_succ]
  have hix := HIX.out
  refine wpAnyU_ready (rs := [17]) (by kernel_rfl) (by simp) (AllReadyU.cons rfl (fun K hK => ?_) AllReadyU.nil)
  rw [if_pos (by rfl)]
  go_simp
  refine hK.out _ _ (fun _ => Z0.out) ?_
  have hHeld := Z0.out
  clear hK K
  refine takeU 19 18 66 (.pointer (some ⟨g, I * 2 + 1, none⟩)) hHeld rfl rfl (by kernel_rfl) (by kernel_rfl) (by kernel_rfl) (by kernel_rfl) (by kernel_rfl) (by kernel_rfl) (fun _ _ _ h => h) (Or.inl ⟨by rfl, fun w _ => by go_simp⟩) ?_
  simp only [Act.put, List.setIfInBounds_toArray, List.set_cons_zero, List.set_cons_succ]
  have k1 := HCB.out _ Z0.out
  have k2 := HFZ.out _ Z0.out
  refine wpAnyU_ready (rs := [19]) (by kernel_rfl) (by simp) (AllReadyU.cons rfl (fun K hK => ?_) AllReadyU.nil)
  rw [if_pos (by rfl)]
  go_simp
  refine hK.out _ _ (fun h => absurd h (by decide)) ?_
  clear hK K
  refine wpAnyU_done (by kernel_rfl) ?_ _
  refine NoPanic.normal ?_
  have D6 : Hid (DsR w ((w2.setCell ⟨g, I * 2 + 1, none⟩ (.string (str (xs ++ b)))).drew) r s R R.fv (A ++ (n, xs ++ b) :: B) (rAp n b) v g3) := hide (by
    have := D2'.out.setF HFV.out (xs ++ b)
    rw [HII.out] at this
    exact this.below ((Below.refl _ _).drew))
  revert D6
  generalize (w2.setCell ⟨g, I * 2 + 1, none⟩ (.string (str (xs ++ b)))).drew = w6
  intro D6
  clear k1 k2 hix hHeld
  go_wp2_with fail
  have HRE5 : Hid (∃ q1 q2, R.qv = .slice q1 R.qs.length q2) := hide (by obtain ⟨q1, q2, hq⟩ := row_slice HH.out.row; exact ⟨q1, q2, hq⟩)
  obtain ⟨L5, hL5⟩ : ∃ L5, (R.qs ++ [(rAp n b, v)]).length = L5 := ⟨_, rfl⟩
  have HL5 := hide hL5
  clear hL5
  refine wp_region_noPanic ?_
  refine wp_region_U (q := 10) (S := fun z : World => z.cell? ⟨r, 2, none⟩ = some R.qv ∧ z.rangeAt g3 0 (rwC 2 n v 0 ByteArray.empty)) (by kernel_rfl) ?_
  have Z0 := hide ((Below.refl w6.heap.size w6).drew)
  have E0 := hide (D6.out.below Z0.out)
  have HIR : Hid ((Try.prog.info? 62).map (·.size) = some (rwC 2 n v 0 ByteArray.empty).length) := hide (by rw [wRw.size]; rfl)
  have gb0 : Blk w6.drew g3 62 (rwC 2 n v 0 ByteArray.empty) := E0.out.gb
  have hHeld : w6.drew.cell? ⟨r, 2, none⟩ = some R.qv ∧ w6.drew.rangeAt g3 0 (rwC 2 n v 0 ByteArray.empty) := ⟨E0.out.c2, gb0.range 0 _ (by simp)⟩
  clear gb0
  refine takeU 10 0 168 (.pointer (some ⟨r, 0, none⟩)) hHeld rfl rfl (by kernel_rfl) (by kernel_rfl) (by kernel_rfl) (by kernel_rfl) (by kernel_rfl) (by kernel_rfl) (fun _ _ _ h => h) (Or.inl ⟨by rfl, fun w _ => by go_simp⟩) ?_
  simp only [Act.put, List.setIfInBounds_toArray, List.set_cons_zero, List.set_cons_succ]
  refine takeU 10 1 169 (.pointer (some ⟨r, 0, none⟩)) hHeld rfl rfl (by kernel_rfl) (by kernel_rfl) (by kernel_rfl) (by kernel_rfl) (by kernel_rfl) (by kernel_rfl) (fun _ _ _ h => h) (Or.inl ⟨by rfl, fun w _ => by go_simp⟩) ?_
  simp only [Act.put, List.setIfInBounds_toArray, List.set_cons_zero, List.set_cons_succ]
  refine takeU 10 2 170 (.pointer (some ⟨r, 0, none⟩)) hHeld rfl rfl (by kernel_rfl) (by kernel_rfl) (by kernel_rfl) (by kernel_rfl) (by kernel_rfl) (by kernel_rfl) (fun _ _ _ h => h) (Or.inl ⟨by rfl, fun w _ => by go_simp⟩) ?_
  simp only [Act.put, List.setIfInBounds_toArray, List.set_cons_zero, List.set_cons_succ]
  refine takeU 10 3 171 (.pointer (some ⟨r, 2, none⟩)) hHeld rfl rfl (by kernel_rfl) (by kernel_rfl) (by kernel_rfl) (by kernel_rfl) (by kernel_rfl) (by kernel_rfl) (fun _ _ _ h => h) (Or.inl ⟨by rfl, fun w _ => by go_simp⟩) ?_
  simp only [Act.put, List.setIfInBounds_toArray, List.set_cons_zero, List.set_cons_succ]
  refine takeU 10 4 172 (R.qv) hHeld rfl rfl (by kernel_rfl) (by kernel_rfl) (by kernel_rfl) (by kernel_rfl) (by kernel_rfl) (by kernel_rfl) (fun _ _ _ h => h) (Or.inl ⟨by rfl, fun w hw => by have hw' : w.cell? ⟨r, 2, none⟩ = some (R.qv) := (fun h => h.1) hw; go_simp⟩) ?_
  simp only [Act.put, List.setIfInBounds_toArray, List.set_cons_zero, List.set_cons_succ]
  refine takeU 10 5 173 (.agg (rwC 2 n v 0 ByteArray.empty).toArray) hHeld rfl rfl (by kernel_rfl) (by kernel_rfl) (by kernel_rfl) (by kernel_rfl) (by kernel_rfl) (by kernel_rfl) (fun _ _ _ h => h) (yieldsIf_load_mid (by rfl) _ _ rfl g3 0 rfl _ _ (fun w h => h.2) Try.underlying62 rfl HIR.out) ?_
  simp only [Act.put, List.setIfInBounds_toArray, List.set_cons_zero, List.set_cons_succ]
  refine wpAnyU_ready (rs := [6]) (by kernel_rfl) (by simp) (AllReadyU.cons rfl (fun K hK => ?_) AllReadyU.nil)
  rw [if_pos (by rfl)]
  refine wp_oneR (r := rAp n b) (v := v) ⟨_, _, _, HVE.out⟩ rfl ?_
  intro w4 u4 hu4 hb4
  have E4 := hide (E0.out.below hb4)
  have HU4 := hide hu4
  have gb0 : Blk w4 g3 62 (rwC 2 n v 0 ByteArray.empty) := E4.out.gb
  have hH4 : w4.cell? ⟨r, 2, none⟩ = some R.qv ∧ w4.rangeAt g3 0 (rwC 2 n v 0 ByteArray.empty) := ⟨E4.out.c2, gb0.range 0 _ (by simp)⟩
  clear gb0
  refine hK.out _ _ (fun _ => hH4) ?_
  have hHeld := hH4
  clear hK K
  clear hu4 hb4 hH4
  simp only [Act.put]
  refine wpAnyU_ready (rs := [7]) (by kernel_rfl) (by simp) (AllReadyU.cons rfl (fun K hK => ?_) AllReadyU.nil)
  rw [if_pos (by rfl)]
  refine wp_appV rRw rfl rfl E4.out.row HU4.out (rwsC_one _ (fun x hx => by simp at hx; subst hx; exact ⟨_, _, _, HVE.out⟩)) (by have := HRL.out; omega) (Nat.zero_le _) ?_
  intro qv5 w5 hrow5 hgr5 hat5
  have hne5 : ∀ k, R.qv.ownBlock = some k → k ≠ r := fun k hk e => by
    obtain ⟨cs, hc⟩ := row_lies E4.out.row hk
    exact hc.apart E4.out.fk.blk (by decide) e
  have hnf5 : ∀ k, R.fv.ownBlock = some k → R.qv.ownBlock ≠ some k := fun k hk e => by
    obtain ⟨cs, hc⟩ := row_lies E4.out.row e
    obtain ⟨cs', hc'⟩ := row_lies E4.out.fk.row hk
    exact hc.apart hc' (by decide) rfl
  have DK5 : Hid (Blk w5 r 76 (rkC s R.fv R.qv)) := hide (E4.out.fk.blk.same (hgr5.block r E4.out.fk.blk.lt (fun e => hne5 r e.symm rfl)))
  have G5 : Hid (Blk w5 g3 62 (rwC 2 n v 0 ByteArray.empty)) := hide (Blk.same E4.out.gb (hgr5.block g3 E4.out.gb.lt (fun e => E4.out.off e.symm)))
  have F5 : Hid (w5.ownsRow 0 90 2 R.fv (A ++ (n, xs ++ b) :: B).length (filC ((A ++ (n, xs ++ b) :: B)))) := hide (row_same E4.out.fk.row (fun k hk => by
    obtain ⟨cs, hc⟩ := row_lies E4.out.fk.row hk
    exact hgr5.block k hc.lt (fun e => hnf5 k hk e.symm)))
  have CH5 : Hid (Chs (R.own r) w w5) := hide (E4.out.chs.thenGrown hgr5 (fun k hk => .inl (.inr (.inr hk))))
  have LQ5 : Hid (∀ k, qv5.ownBlock = some k → R.own r k ∨ w.heap.size ≤ k) := hide (fun k hk => by
    rcases hat5 with e | e
    · exact .inl (.inr (.inr (by rw [e] at hk; exact hk)))
    · rw [e] at hk
      injection hk with hk
      have := E4.out.chs.size
      right
      omega)
  have ROW5 : Hid (w5.ownsRow 0 62 5 qv5 L5 (rwsC (R.qs ++ [(rAp n b, v)]))) := hide (by rw [rwsC_app, ← HL5.out, List.length_append]; exact hrow5)
  obtain ⟨qa5, qc5, hqe5⟩ := row_slice ROW5.out
  subst hqe5
  have k1 : w5.cell? ⟨r, 2, none⟩ = some R.qv := by rw [DK5.out.cell]; rfl
  have k2 : w5.frozen? ⟨r, 2, none⟩ = false := DK5.out.free 2
  have hH5 : w5.cell? ⟨r, 2, none⟩ = some R.qv ∧ w5.rangeAt g3 0 (rwC 2 n v 0 ByteArray.empty) := ⟨k1, G5.out.range 0 _ (by simp)⟩
  refine hK.out _ _ (fun _ => hH5) ?_
  have hHeld := hH5
  clear hK K
  clear hrow5 hgr5 hat5 hne5 hnf5
  simp only [Act.put]
  refine wpAnyU_ready (rs := [8]) (by kernel_rfl) (by simp) (AllReadyU.cons rfl (fun K hK => ?_) AllReadyU.nil)
  rw [if_pos (by rfl)]
  go_simp
  refine hK.out _ _ (fun _ => hH5) ?_
  have hHeld := hH5
  clear hK K
  clear hH5
  refine takeU 10 9 177 (.pointer (some ⟨r, 2, none⟩)) hHeld rfl rfl (by kernel_rfl) (by kernel_rfl) (by kernel_rfl) (by kernel_rfl) (by kernel_rfl) (by kernel_rfl) (fun _ _ _ h => h) (Or.inl ⟨by rfl, fun w _ => by go_simp⟩) ?_
  simp only [Act.put, List.setIfInBounds_toArray, List.set_cons_zero, List.set_cons_succ]
  refine wpAnyU_ready (rs := [10]) (by kernel_rfl) (by simp) (AllReadyU.cons rfl (fun K hK => ?_) AllReadyU.nil)
  rw [if_pos (by rfl)]
  go_simp
  refine hK.out _ _ (fun h => absurd h (by decide)) ?_
  clear hK K
  refine wpAnyU_done (by kernel_rfl) ?_ _
  refine NoPanic.normal ?_
  have B6 := But.setCell w5 r 2 (.slice qa5 L5 qc5)
  have FK6 : FkAt (w5.setCell ⟨r, 2, none⟩ (.slice qa5 L5 qc5)) r s R.fv (.slice qa5 L5 qc5) ((A ++ (n, xs ++ b) :: B)) := ⟨DK5.out.set 2 _, row_same F5.out (fun k hk => B6.block k (fun e => by
    obtain ⟨cs, hc⟩ := row_lies F5.out hk
    exact hc.apart DK5.out (by decide) e))⟩
  have hres : RoR w (w5.setCell ⟨r, 2, none⟩ (.slice qa5 L5 qc5)) r s R (rs ++ [rAp n b]) v := DsR.done HH.out HLR.out HV.out (by exact HFL.out) HLN.out FK6 (by rw [HL5.out]; exact row_same ROW5.out (fun k hk => B6.block k (fun e => by
    obtain ⟨cs, hc⟩ := row_lies ROW5.out hk
    exact hc.apart DK5.out (by decide) e))) (CH5.out.thenBut B6 (.inl (.inl rfl))) D6.out.lie LQ5.out rfl
  revert hres
  generalize w5.setCell ⟨r, 2, none⟩ (.slice qa5 L5 qc5) = w6
  intro hres
  have HRES := hide hres
  clear hres
  go_wp2
  go_end0
  exact ⟨rfl, HRES.out⟩
set_option maxRecDepth 100000 in
set_option maxHeartbeats 1000000 in
theorem doR_cu (k : Int) (xs : List Int) (hf : play rs n = some xs) (hk0 : 0 ≤ k) (hkl : k < xs.length) (hwt : wt rs + 1 ≤ 16777216) (hv : BV w (.slice none 0 0) []) : Calls Try.prog 40 #[.pointer (some ⟨r, 0, none⟩), .agg (rwC 3 n (.slice none 0 0) k ByteArray.empty).toArray] w fun e w' => e = .returned (.tuple #[]) ∧ RoR w w' r s R (rs ++ [rCu n k]) (.slice none 0 0) := by
  obtain ⟨A, B0, hAB0, hA, hlt, hB⟩ := h.fls.split n
  obtain ⟨I, hI⟩ : ∃ I, A.length = I := ⟨_, rfl⟩
  obtain ⟨B, hBB, hB2⟩ : ∃ B, B0 = (n, xs) :: B ∧ ∀ b ∈ B, blt n b.1 = true := by
    rcases hB with ⟨h1, _⟩ | ⟨ys, B', h1, h2, h3⟩
    · rw [hf] at h1; cases h1
    · rw [hf] at h1
      injection h1 with h1
      subst h1
      exact ⟨B', h2, h3⟩
  subst hBB
  have hAB := hAB0
  have hxs : fl (play rs) n = xs := by simp [fl, hf]
  have HLR : Hid (Lraw s (play rs) (rCu n k)) := hide ⟨.inr (.inr (.inl ⟨n, k, xs, rfl, hn, hf, hk0, hkl⟩)), fun h2 => by cases h2⟩
  have HFL : Hid (FL (doR (play rs) (rCu n k)) (A ++ (n, xs.take k.toNat) :: B)) := hide (by
    have := h.fls
    rw [hAB] at this
    have := this.set hlt hB2 (xs.take k.toNat)
    rw [do_cu, hxs]
    exact this)
  have HLN : Hid ((A ++ (n, xs.take k.toNat) :: B).length ≤ rs.length + 1) := hide (by
    have := h.few
    rw [hAB] at this
    simp at this ⊢
    omega)
  have HCUT : Hid (∀ z : World, (Instr.slice 9 (.string (str xs)) none (some (.int .i64 k)) none).run Try.prog z = .ok (.string (str (xs.take k.toNat))) z) := hide (fun z => cut_str xs k hk0 (by omega) z)
  clear hB hB2 hn hxs hAB0 hk0 hkl
  obtain ⟨YS, hYS⟩ : ∃ YS, xs.take k.toNat = YS := ⟨_, rfl⟩
  rw [hYS] at HFL HLN HCUT
  clear hYS
  obtain ⟨fa, fc, hfe⟩ := row_slice h.fk.row
  have HH := hide h
  have HL : Hid (R.l.length ≤ 16777216) := hide (by have h1 := h.few; have h2 := len_wt rs; omega)
  have hrl : R.qs.length = rs.length := by rw [← h.raw]; simp
  have HRL : Hid (R.qs.length ≤ 16777216) := hide (by have h2 := len_wt rs; omega)
  clear hrl
  have HFE := hide hfe
  have HAB := hide hAB
  have HA := hide hA
  have HLTA := hide hlt
  have HV := hide hv
  have hfind : ∀ (W : World), FkAt W r s R.fv R.qv R.l → Calls Try.prog 57 #[.pointer (some ⟨r, 0, none⟩), .string n] W fun e w' => e = .returned (.tuple #[.int .i64 (I : Int), .bool true]) ∧ Below W.heap.size W w' := fun W hW => by
    have := find_any r s R.fv R.qv R.l (play rs) n W hW h.fls HL.out
    rw [← hA, hI, hf] at this
    exact this
  have HFD := hide hfind
  clear h hAB hA hlt hv hfe hfind hwt
  go_enter Try.func40, Try.ntmps40
  go_wp2_with (refine step_box (cs := rwC 3 n (.slice none 0 0) k ByteArray.empty) rfl rfl ?_)
  intro w1 g3 hg3 hle3 hb1
  have D1 : Hid (DsR w w1 r s R R.fv R.l (rCu n k) (Value.slice none 0 0) g3) := hide (HH.out.ds hb1 hg3 hle3)
  have c1 : w1.cell? ⟨g3, 1, none⟩ = some (.string n) := D1.out.r1
  clear hg3 hle3 hb1
  go_wp2_with (go_at_call 57; refine (HFD.out _ D1.out.fk).mono ?_; rintro e w2 ⟨rfl, hb2⟩; have D2 := hide (D1.out.below hb2); have c0 : w2.cell? ⟨g3, 0, none⟩ = some (.int .i64 3) := D2.out.r0; clear c1 D1 hb2)
  clear HFD
  have D2' := D2
  rw [HAB.out] at D2'
  obtain ⟨g, cap, hfv, hcells⟩ := D2'.out.at'
  have HFV := hide hfv
  obtain ⟨L, hL⟩ : ∃ L, (A ++ (n, xs) :: B).length = L := ⟨_, rfl⟩
  rw [hL] at hfv
  have HIX : Hid (∀ z : World, (Instr.indexAt 73 (.slice (some ⟨g, 0, none⟩) L cap) (.int .i64 (I : Int))).run Try.prog z = .ok (.pointer (some ⟨g, I * 2, none⟩)) z) := hide (fun z => vw_at rFi g L cap I (by rw [← hL, ← hI]; simp) z)
  have HC1 : Hid (∀ z : World, Below w2.heap.size w2 z → z.cell? ⟨r, 1, none⟩ = some (.slice (some ⟨g, 0, none⟩) L cap)) := hide (fun z hz => by rw [← hfv]; exact (D2.out.below hz).c1)
  have HCB : Hid (∀ z : World, Below w2.heap.size w2 z → z.cell? ⟨g, I * 2 + 1, none⟩ = some (.string (str xs))) := hide (fun z hz => by rw [← hI]; exact (hcells z hz).2.1)
  have HFZ : Hid (∀ z : World, Below w2.heap.size w2 z → z.frozen? ⟨g, I * 2 + 1, none⟩ = false) := hide (fun z hz => by rw [← hI]; exact (hcells z hz).2.2.1)
  have HRG : Hid (∀ z : World, Below w2.heap.size w2 z → z.rangeAt g (I * 2) [.string n, .string (str xs)]) := hide (fun z hz => by rw [← hI]; exact (hcells z hz).2.2.2)
  have HLL := hide hL
  have HII := hide hI
  clear hfv hcells hL c0 hI
  have HCV : Hid (∀ z : World, Below w2.heap.size w2 z → z.cell? ⟨g3, 3, none⟩ = some (.int .i64 k)) := hide (fun z hz => (D2.out.below hz).r3)
  refine wp_region_noPanic ?_
  refine wp_region_U (q := 18) (S := fun z : World => Below w2.heap.size w2 z) (by kernel_rfl) ?_
  have Z0 := hide ((Below.refl w2.heap.size w2).drew)
  have hHeld := Z0.out
  refine takeU 18 0 69 (.pointer (some ⟨r, 0, none⟩)) hHeld rfl rfl (by kernel_rfl) (by kernel_rfl) (by kernel_rfl) (by kernel_rfl) (by kernel_rfl) (by kernel_rfl) (fun _ _ _ h => h) (Or.inl ⟨by rfl, fun w _ => by go_simp⟩) ?_
  simp only [Act.put, List.setIfInBounds_toArray, List.set_cons_zero, List.set_cons_succ]
  refine takeU 18 1 70 (.pointer (some ⟨r, 0, none⟩)) hHeld rfl rfl (by kernel_rfl) (by kernel_rfl) (by kernel_rfl) (by kernel_rfl) (by kernel_rfl) (by kernel_rfl) (fun _ _ _ h => h) (Or.inl ⟨by rfl, fun w _ => by go_simp⟩) ?_
  simp only [Act.put, List.setIfInBounds_toArray, List.set_cons_zero, List.set_cons_succ]
  refine takeU 18 2 71 (.pointer (some ⟨r, 1, none⟩)) hHeld rfl rfl (by kernel_rfl) (by kernel_rfl) (by kernel_rfl) (by kernel_rfl) (by kernel_rfl) (by kernel_rfl) (fun _ _ _ h => h) (Or.inl ⟨by rfl, fun w _ => by go_simp⟩) ?_
  simp only [Act.put, List.setIfInBounds_toArray, List.set_cons_zero, List.set_cons_succ]
  refine takeU 18 3 72 (.slice (some ⟨g, 0, none⟩) L cap) hHeld rfl rfl (by kernel_rfl) (by kernel_rfl) (by kernel_rfl) (by kernel_rfl) (by kernel_rfl) (by kernel_rfl) (fun _ _ _ h => h) (Or.inl ⟨by rfl, fun w hw => by have hw' : w.cell? ⟨r, 1, none⟩ = some (.slice (some ⟨g, 0, none⟩) L cap) := (fun hw => HC1.out _ hw) hw; go_simp⟩) ?_
  simp only [Act.put, List.setIfInBounds_toArray, List.set_cons_zero, List.set_cons_succ]
  refine takeU 18 4 73 (.int .i64 (I : Int)) hHeld rfl rfl (by kernel_rfl) (by kernel_rfl) (by kernel_rfl) (by kernel_rfl) (by kernel_rfl) (by kernel_rfl) (fun _ _ _ h => h) (Or.inl ⟨by rfl, fun w _ => by go_simp⟩) ?_
  simp only [Act.put, List.setIfInBounds_toArray, List.set_cons_zero, List.set_cons_succ]
  refine takeU 18 5 74 (.pointer (some ⟨r, 0, none⟩)) hHeld rfl rfl (by kernel_rfl) (by kernel_rfl) (by kernel_rfl) (by kernel_rfl) (by kernel_rfl) (by kernel_rfl) (fun _ _ _ h => h) (Or.inl ⟨by rfl, fun w _ => by go_simp⟩) ?_
  simp only [Act.put, List.setIfInBounds_toArray, List.set_cons_zero, List.set_cons_succ]
  refine takeU 18 6 75 (.pointer (some ⟨r, 0, none⟩)) hHeld rfl rfl (by kernel_rfl) (by kernel_rfl) (by kernel_rfl) (by kernel_rfl) (by kernel_rfl) (by kernel_rfl) (fun _ _ _ h => h) (Or.inl ⟨by rfl, fun w _ => by go_simp⟩) ?_
  simp only [Act.put, List.setIfInBounds_toArray, List.set_cons_zero, List.set_cons_succ]
  refine takeU 18 7 76 (.pointer (some ⟨r, 1, none⟩)) hHeld rfl rfl (by kernel_rfl) (by kernel_rfl) (by kernel_rfl) (by kernel_rfl) (by kernel_rfl) (by kernel_rfl) (fun _ _ _ h => h) (Or.inl ⟨by rfl, fun w _ => by go_simp⟩) ?_
  simp only [Act.put, List.setIfInBounds_toArray, List.set_cons_zero, List.set_cons_succ]
  refine takeU 18 8 77 (.slice (some ⟨g, 0, none⟩) L cap) hHeld rfl rfl (by kernel_rfl) (by kernel_rfl) (by kernel_rfl) (by kernel_rfl) (by kernel_rfl) (by kernel_rfl) (fun _ _ _ h => h) (Or.inl ⟨by rfl, fun w hw => by have hw' : w.cell? ⟨r, 1, none⟩ = some (.slice (some ⟨g, 0, none⟩) L cap) := (fun hw => HC1.out _ hw) hw; go_simp⟩) ?_
  simp only [Act.put, List.setIfInBounds_toArray, List.set_cons_zero, List.set_cons_succ]
  refine takeU 18 9 78 (.int .i64 (I : Int)) hHeld rfl rfl (by kernel_rfl) (by kernel_rfl) (by kernel_rfl) (by kernel_rfl) (by kernel_rfl) (by kernel_rfl) (fun _ _ _ h => h) (Or.inl ⟨by rfl, fun w _ => by go_simp⟩) ?_
  simp only [Act.put, List.setIfInBounds_toArray, List.set_cons_zero, List.set_cons_succ]
  refine takeU 18 10 79 (.pointer (some ⟨g, I * 2, none⟩)) hHeld rfl rfl (by kernel_rfl) (by kernel_rfl) (by kernel_rfl) (by kernel_rfl) (by kernel_rfl) (by kernel_rfl) (fun _ _ _ h => h) (Or.inl ⟨by rfl, fun w h => run_op rfl (HIX.out w)⟩) ?_
  simp only [Act.put, List.setIfInBounds_toArray, List.set_cons_zero, List.set_cons_succ]
  refine takeU 18 11 80 (.pointer (some ⟨g, I * 2 + 1, none⟩)) hHeld rfl rfl (by kernel_rfl) (by kernel_rfl) (by kernel_rfl) (by kernel_rfl) (by kernel_rfl) (by kernel_rfl) (fun _ _ _ h => h) (Or.inl ⟨by rfl, fun w _ => by go_simp⟩) ?_
  simp only [Act.put, List.setIfInBounds_toArray, List.set_cons_zero, List.set_cons_succ]
  refine takeU 18 12 81 (.string (str xs)) hHeld rfl rfl (by kernel_rfl) (by kernel_rfl) (by kernel_rfl) (by kernel_rfl) (by kernel_rfl) (by kernel_rfl) (fun _ _ _ h => h) (Or.inl ⟨by rfl, fun w hw => by have hw' : w.cell? ⟨g, (I * 2 + 1), none⟩ = some (.string (str xs)) := (fun hw => HCB.out _ hw) hw; go_simp⟩) ?_
  simp only [Act.put, List.setIfInBounds_toArray, List.set_cons_zero, List.set_cons_succ]
  refine takeU 18 13 82 (.pointer (some ⟨g3, 3, none⟩)) hHeld rfl rfl (by kernel_rfl) (by kernel_rfl) (by kernel_rfl) (by kernel_rfl) (by kernel_rfl) (by kernel_rfl) (fun _ _ _ h => h) (Or.inl ⟨by rfl, fun w _ => by go_simp⟩) ?_
  simp only [Act.put, List.setIfInBounds_toArray, List.set_cons_zero, List.set_cons_succ]
  refine takeU 18 14 83 (.int .i64 k) hHeld rfl rfl (by kernel_rfl) (by kernel_rfl) (by kernel_rfl) (by kernel_rfl) (by kernel_rfl) (by kernel_rfl) (fun _ _ _ h => h) (Or.inl ⟨by rfl, fun w hw => by have hw' : w.cell? ⟨g3, 3, none⟩ = some (.int .i64 k) := (fun hw => HCV.out _ hw) hw; go_simp⟩) ?_
  simp only [Act.put, List.setIfInBounds_toArray, List.set_cons_zero, List.set_cons_succ]
  refine takeU 18 15 84 (.string (str YS)) hHeld rfl rfl (by kernel_rfl) (by kernel_rfl) (by kernel_rfl) (by kernel_rfl) (by kernel_rfl) (by kernel_rfl) (fun _ _ _ h => h) (Or.inl ⟨by rfl, fun w h => run_op rfl (HCUT.out w)⟩) ?_
  simp only [Act.put, List.setIfInBounds_toArray, List.set_cons_zero, List.set_cons_succ]
  have hix := HIX.out
  refine wpAnyU_ready (rs := [16]) (by kernel_rfl) (by simp) (AllReadyU.cons rfl (fun K hK => ?_) AllReadyU.nil)
  rw [if_pos (by rfl)]
  go_simp
  refine hK.out _ _ (fun _ => Z0.out) ?_
  have hHeld := Z0.out
  clear hK K
  refine takeU 18 17 86 (.pointer (some ⟨g, I * 2 + 1, none⟩)) hHeld rfl rfl (by kernel_rfl) (by kernel_rfl) (by kernel_rfl) (by kernel_rfl) (by kernel_rfl) (by kernel_rfl) (fun _ _ _ h => h) (Or.inl ⟨by rfl, fun w _ => by go_simp⟩) ?_
  simp only [Act.put, List.setIfInBounds_toArray, List.set_cons_zero, List.set_cons_succ]
  have k1 := HCB.out _ Z0.out
  have k2 := HFZ.out _ Z0.out
  refine wpAnyU_ready (rs := [18]) (by kernel_rfl) (by simp) (AllReadyU.cons rfl (fun K hK => ?_) AllReadyU.nil)
  rw [if_pos (by rfl)]
  go_simp
  refine hK.out _ _ (fun h => absurd h (by decide)) ?_
  clear hK K
  refine wpAnyU_done (by kernel_rfl) ?_ _
  refine NoPanic.normal ?_
  have D6 : Hid (DsR w ((w2.setCell ⟨g, I * 2 + 1, none⟩ (.string (str (YS)))).drew) r s R R.fv (A ++ (n, YS) :: B) (rCu n k) (Value.slice none 0 0) g3) := hide (by
    have := D2'.out.setF HFV.out (YS)
    rw [HII.out] at this
    exact this.below ((Below.refl _ _).drew))
  revert D6
  generalize (w2.setCell ⟨g, I * 2 + 1, none⟩ (.string (str (YS)))).drew = w6
  intro D6
  clear k1 k2 hix hHeld
  go_wp2_with fail
  have HRE5 : Hid (∃ q1 q2, R.qv = .slice q1 R.qs.length q2) := hide (by obtain ⟨q1, q2, hq⟩ := row_slice HH.out.row; exact ⟨q1, q2, hq⟩)
  obtain ⟨L5, hL5⟩ : ∃ L5, (R.qs ++ [(rCu n k, (Value.slice none 0 0))]).length = L5 := ⟨_, rfl⟩
  have HL5 := hide hL5
  clear hL5
  refine wp_region_noPanic ?_
  refine wp_region_U (q := 10) (S := fun z : World => z.cell? ⟨r, 2, none⟩ = some R.qv ∧ z.rangeAt g3 0 (rwC 3 n (.slice none 0 0) k ByteArray.empty)) (by kernel_rfl) ?_
  have Z0 := hide ((Below.refl w6.heap.size w6).drew)
  have E0 := hide (D6.out.below Z0.out)
  have HIR : Hid ((Try.prog.info? 62).map (·.size) = some (rwC 3 n (.slice none 0 0) k ByteArray.empty).length) := hide (by rw [wRw.size]; rfl)
  have gb0 : Blk w6.drew g3 62 (rwC 3 n (.slice none 0 0) k ByteArray.empty) := E0.out.gb
  have hHeld : w6.drew.cell? ⟨r, 2, none⟩ = some R.qv ∧ w6.drew.rangeAt g3 0 (rwC 3 n (.slice none 0 0) k ByteArray.empty) := ⟨E0.out.c2, gb0.range 0 _ (by simp)⟩
  clear gb0
  refine takeU 10 0 168 (.pointer (some ⟨r, 0, none⟩)) hHeld rfl rfl (by kernel_rfl) (by kernel_rfl) (by kernel_rfl) (by kernel_rfl) (by kernel_rfl) (by kernel_rfl) (fun _ _ _ h => h) (Or.inl ⟨by rfl, fun w _ => by go_simp⟩) ?_
  simp only [Act.put, List.setIfInBounds_toArray, List.set_cons_zero, List.set_cons_succ]
  refine takeU 10 1 169 (.pointer (some ⟨r, 0, none⟩)) hHeld rfl rfl (by kernel_rfl) (by kernel_rfl) (by kernel_rfl) (by kernel_rfl) (by kernel_rfl) (by kernel_rfl) (fun _ _ _ h => h) (Or.inl ⟨by rfl, fun w _ => by go_simp⟩) ?_
  simp only [Act.put, List.setIfInBounds_toArray, List.set_cons_zero, List.set_cons_succ]
  refine takeU 10 2 170 (.pointer (some ⟨r, 0, none⟩)) hHeld rfl rfl (by kernel_rfl) (by kernel_rfl) (by kernel_rfl) (by kernel_rfl) (by kernel_rfl) (by kernel_rfl) (fun _ _ _ h => h) (Or.inl ⟨by rfl, fun w _ => by go_simp⟩) ?_
  simp only [Act.put, List.setIfInBounds_toArray, List.set_cons_zero, List.set_cons_succ]
  refine takeU 10 3 171 (.pointer (some ⟨r, 2, none⟩)) hHeld rfl rfl (by kernel_rfl) (by kernel_rfl) (by kernel_rfl) (by kernel_rfl) (by kernel_rfl) (by kernel_rfl) (fun _ _ _ h => h) (Or.inl ⟨by rfl, fun w _ => by go_simp⟩) ?_
  simp only [Act.put, List.setIfInBounds_toArray, List.set_cons_zero, List.set_cons_succ]
  refine takeU 10 4 172 (R.qv) hHeld rfl rfl (by kernel_rfl) (by kernel_rfl) (by kernel_rfl) (by kernel_rfl) (by kernel_rfl) (by kernel_rfl) (fun _ _ _ h => h) (Or.inl ⟨by rfl, fun w hw => by have hw' : w.cell? ⟨r, 2, none⟩ = some (R.qv) := (fun h => h.1) hw; go_simp⟩) ?_
  simp only [Act.put, List.setIfInBounds_toArray, List.set_cons_zero, List.set_cons_succ]
  refine takeU 10 5 173 (.agg (rwC 3 n (.slice none 0 0) k ByteArray.empty).toArray) hHeld rfl rfl (by kernel_rfl) (by kernel_rfl) (by kernel_rfl) (by kernel_rfl) (by kernel_rfl) (by kernel_rfl) (fun _ _ _ h => h) (yieldsIf_load_mid (by rfl) _ _ rfl g3 0 rfl _ _ (fun w h => h.2) Try.underlying62 rfl HIR.out) ?_
  simp only [Act.put, List.setIfInBounds_toArray, List.set_cons_zero, List.set_cons_succ]
  refine wpAnyU_ready (rs := [6]) (by kernel_rfl) (by simp) (AllReadyU.cons rfl (fun K hK => ?_) AllReadyU.nil)
  rw [if_pos (by rfl)]
  refine wp_oneR (r := rCu n k) (v := (Value.slice none 0 0)) ⟨_, _, _, rfl⟩ rfl ?_
  intro w4 u4 hu4 hb4
  have E4 := hide (E0.out.below hb4)
  have HU4 := hide hu4
  have gb0 : Blk w4 g3 62 (rwC 3 n (.slice none 0 0) k ByteArray.empty) := E4.out.gb
  have hH4 : w4.cell? ⟨r, 2, none⟩ = some R.qv ∧ w4.rangeAt g3 0 (rwC 3 n (.slice none 0 0) k ByteArray.empty) := ⟨E4.out.c2, gb0.range 0 _ (by simp)⟩
  clear gb0
  refine hK.out _ _ (fun _ => hH4) ?_
  have hHeld := hH4
  clear hK K
  clear hu4 hb4 hH4
  simp only [Act.put]
  refine wpAnyU_ready (rs := [7]) (by kernel_rfl) (by simp) (AllReadyU.cons rfl (fun K hK => ?_) AllReadyU.nil)
  rw [if_pos (by rfl)]
  refine wp_appV rRw rfl rfl E4.out.row HU4.out (rwsC_one _ (fun x hx => by simp at hx; subst hx; exact ⟨_, _, _, rfl⟩)) (by have := HRL.out; omega) (Nat.zero_le _) ?_
  intro qv5 w5 hrow5 hgr5 hat5
  have hne5 : ∀ k, R.qv.ownBlock = some k → k ≠ r := fun k hk e => by
    obtain ⟨cs, hc⟩ := row_lies E4.out.row hk
    exact hc.apart E4.out.fk.blk (by decide) e
  have hnf5 : ∀ k, R.fv.ownBlock = some k → R.qv.ownBlock ≠ some k := fun k hk e => by
    obtain ⟨cs, hc⟩ := row_lies E4.out.row e
    obtain ⟨cs', hc'⟩ := row_lies E4.out.fk.row hk
    exact hc.apart hc' (by decide) rfl
  have DK5 : Hid (Blk w5 r 76 (rkC s R.fv R.qv)) := hide (E4.out.fk.blk.same (hgr5.block r E4.out.fk.blk.lt (fun e => hne5 r e.symm rfl)))
  have G5 : Hid (Blk w5 g3 62 (rwC 3 n (.slice none 0 0) k ByteArray.empty)) := hide (Blk.same E4.out.gb (hgr5.block g3 E4.out.gb.lt (fun e => E4.out.off e.symm)))
  have F5 : Hid (w5.ownsRow 0 90 2 R.fv (A ++ (n, YS) :: B).length (filC ((A ++ (n, YS) :: B)))) := hide (row_same E4.out.fk.row (fun k hk => by
    obtain ⟨cs, hc⟩ := row_lies E4.out.fk.row hk
    exact hgr5.block k hc.lt (fun e => hnf5 k hk e.symm)))
  have CH5 : Hid (Chs (R.own r) w w5) := hide (E4.out.chs.thenGrown hgr5 (fun k hk => .inl (.inr (.inr hk))))
  have LQ5 : Hid (∀ k, qv5.ownBlock = some k → R.own r k ∨ w.heap.size ≤ k) := hide (fun k hk => by
    rcases hat5 with e | e
    · exact .inl (.inr (.inr (by rw [e] at hk; exact hk)))
    · rw [e] at hk
      injection hk with hk
      have := E4.out.chs.size
      right
      omega)
  have ROW5 : Hid (w5.ownsRow 0 62 5 qv5 L5 (rwsC (R.qs ++ [(rCu n k, (Value.slice none 0 0))]))) := hide (by rw [rwsC_app, ← HL5.out, List.length_append]; exact hrow5)
  obtain ⟨qa5, qc5, hqe5⟩ := row_slice ROW5.out
  subst hqe5
  have k1 : w5.cell? ⟨r, 2, none⟩ = some R.qv := by rw [DK5.out.cell]; rfl
  have k2 : w5.frozen? ⟨r, 2, none⟩ = false := DK5.out.free 2
  have hH5 : w5.cell? ⟨r, 2, none⟩ = some R.qv ∧ w5.rangeAt g3 0 (rwC 3 n (.slice none 0 0) k ByteArray.empty) := ⟨k1, G5.out.range 0 _ (by simp)⟩
  refine hK.out _ _ (fun _ => hH5) ?_
  have hHeld := hH5
  clear hK K
  clear hrow5 hgr5 hat5 hne5 hnf5
  simp only [Act.put]
  refine wpAnyU_ready (rs := [8]) (by kernel_rfl) (by simp) (AllReadyU.cons rfl (fun K hK => ?_) AllReadyU.nil)
  rw [if_pos (by rfl)]
  go_simp
  refine hK.out _ _ (fun _ => hH5) ?_
  have hHeld := hH5
  clear hK K
  clear hH5
  refine takeU 10 9 177 (.pointer (some ⟨r, 2, none⟩)) hHeld rfl rfl (by kernel_rfl) (by kernel_rfl) (by kernel_rfl) (by kernel_rfl) (by kernel_rfl) (by kernel_rfl) (fun _ _ _ h => h) (Or.inl ⟨by rfl, fun w _ => by go_simp⟩) ?_
  simp only [Act.put, List.setIfInBounds_toArray, List.set_cons_zero, List.set_cons_succ]
  refine wpAnyU_ready (rs := [10]) (by kernel_rfl) (by simp) (AllReadyU.cons rfl (fun K hK => ?_) AllReadyU.nil)
  rw [if_pos (by rfl)]
  go_simp
  refine hK.out _ _ (fun h => absurd h (by decide)) ?_
  clear hK K
  refine wpAnyU_done (by kernel_rfl) ?_ _
  refine NoPanic.normal ?_
  have B6 := But.setCell w5 r 2 (.slice qa5 L5 qc5)
  have FK6 : FkAt (w5.setCell ⟨r, 2, none⟩ (.slice qa5 L5 qc5)) r s R.fv (.slice qa5 L5 qc5) ((A ++ (n, YS) :: B)) := ⟨DK5.out.set 2 _, row_same F5.out (fun k hk => B6.block k (fun e => by
    obtain ⟨cs, hc⟩ := row_lies F5.out hk
    exact hc.apart DK5.out (by decide) e))⟩
  have hres : RoR w (w5.setCell ⟨r, 2, none⟩ (.slice qa5 L5 qc5)) r s R (rs ++ [rCu n k]) (Value.slice none 0 0) := DsR.done HH.out HLR.out HV.out (by exact HFL.out) HLN.out FK6 (by rw [HL5.out]; exact row_same ROW5.out (fun k hk => B6.block k (fun e => by
    obtain ⟨cs, hc⟩ := row_lies ROW5.out hk
    exact hc.apart DK5.out (by decide) e))) (CH5.out.thenBut B6 (.inl (.inl rfl))) D6.out.lie LQ5.out rfl
  revert hres
  generalize w5.setCell ⟨r, 2, none⟩ (.slice qa5 L5 qc5) = w6
  intro hres
  have HRES := hide hres
  clear hres
  go_wp2
  go_end0
  exact ⟨rfl, HRES.out⟩
end

end Go.Proofs.Ytnkjdoghfdnlaaa
