/-
  Texts one behind the other: Kqf Byg Bxa Srb Bwf Bwg Bwh.
-/
import Derived.Test.YtpocadbhajacaaaGreatDoorPkYB
import Derived.Test.YtpocadbhajacaaaGreatDoorPkYA
import Derived.Lib.AppendStr

/-
  The document's do: a file's bytes appended, cut.
-/
namespace Go.Proofs.YtpocadbhajacaaaGreatDoor
open Go.RowKit
set_option linter.unusedVariables false

theorem set_app (a b : List Value) (k : Nat) (hk : a.length ≤ k) (v : Value) : (a ++ b).set k v = a ++ b.set (k - a.length) v := List.set_append_right _ _ hk
theorem filC_set (A B : List (ByteArray × List Int)) (n : ByteArray) (xs ys : List Int) : (filC (A ++ (n, xs) :: B)).set (A.length * 2 + 1) (.string (str ys)) = filC (A ++ (n, ys) :: B) := by
  rw [filC_app, filC_app, filC_cons, filC_cons, set_app _ _ _ (by rw [filC_length]; omega), filC_length]
  congr 1
  rw [show A.length * 2 + 1 - A.length * 2 = 1 by omega]
  rfl
theorem fil_set {A B : List (ByteArray × List Int)} {n : ByteArray} {xs : List Int} {cs : List Value} {m : Nat} (h : cs.take m = filC (A ++ (n, xs) :: B)) (ys : List Int) : (cs.set (A.length * 2 + 1) (.string (str ys))).take m = filC (A ++ (n, ys) :: B) := by
  rw [List.take_set, h, filC_set]
section
variable {w W W' : World} {r s : Nat} {rs : List Rw} {R : Rm} {fv : Value} {A B : List (ByteArray × List Int)} {n : ByteArray} {xs : List Int} {x : Rw} {v : Value} {g3 : Nat}
/-- A file's bytes are turned in their place. -/
theorem DsR.setF (h : DsR w W r s R fv (A ++ (n, xs) :: B) x v g3) {g cap : Nat} (hfv : fv = .slice (some ⟨g, 0, none⟩) (A ++ (n, xs) :: B).length cap) (ys : List Int) : DsR w (W.setCell ⟨g, A.length * 2 + 1, none⟩ (.string (str ys))) r s R fv (A ++ (n, ys) :: B) x v g3 := by
  subst hfv
  obtain ⟨g', cap', cs, e, hb, h3, h4⟩ := row_at h.fk.row (by simp only [List.length_append, List.length_cons]; omega)
  injection e with e1 _ e3
  injection e1 with e1
  injection e1 with e1
  subst e1 e3
  have B6 := But.setCell W g (A.length * 2 + 1) (.string (str ys))
  have hb' := hb.set (A.length * 2 + 1) (.string (str ys))
  have hlen : (A ++ (n, ys) :: B).length = (A ++ (n, xs) :: B).length := by simp
  refine ⟨⟨h.fk.blk.but B6 (h.fk.blk.apart hb (by decide)), ?_⟩, ?_, h.gb.but B6 (h.gb.apart hb (by decide)), h.new, h.chs.thenBut B6 (h.lie g rfl), h.lie, h.off⟩
  · rw [hlen]
    exact row_set h.fk.row hb hb' (by simp) (fil_set h3 ys) (by rw [filC_length, hlen])
  · refine row_same h.row (fun k hk => B6.block k ?_)
    obtain ⟨cs', hc⟩ := row_lies h.row hk
    exact hc.apart hb (by decide)
/-- The file's place and cells. -/
theorem DsR.at' (h : DsR w W r s R fv (A ++ (n, xs) :: B) x v g3) : ∃ g cap, fv = .slice (some ⟨g, 0, none⟩) (A ++ (n, xs) :: B).length cap ∧ ∀ z : World, Below W.heap.size W z → z.cell? ⟨g, A.length * 2, none⟩ = some (.string n) ∧ z.cell? ⟨g, A.length * 2 + 1, none⟩ = some (.string (str xs)) ∧ z.frozen? ⟨g, A.length * 2 + 1, none⟩ = false ∧ z.rangeAt g (A.length * 2) [.string n, .string (str xs)] := by
  obtain ⟨g, cap, cs, h1, h2, h3, h4, h5, h6, h7⟩ := h.fk.file (k := A.length) (x := (n, xs)) (by simp)
  refine ⟨g, cap, h1, fun z hz => ?_⟩
  have h2' := h2.on hz
  refine ⟨by rw [h2'.cell]; exact h6, by rw [h2'.cell]; exact h7, h2'.free _, h2'.range _ _ (by simpa using h5)⟩
end
theorem add_str (xs b : List Int) (h : xs.length + b.length ≤ 9223372036854775807) (W : World) : (binOp .add 9 (.string (str xs)) (.string (str b))).run Tryz.prog W = .ok (.string (str (xs ++ b))) W := by
  rw [← str_append]
  have h1 := str_size xs
  have h2 := str_size b
  simp [binOp, Op.stringOp, h1, h2]
  omega
theorem cut_str (xs : List Int) (k : Int) (h0 : 0 ≤ k) (h1 : k ≤ xs.length) (W : World) : (Instr.slice 9 (.string (str xs)) none (some (.int .i64 k)) none).run Tryz.prog W = .ok (.string (str (xs.take k.toNat))) W := by
  rw [run_slice_string_h W 9 (str xs) Tryz.underlying9 .i64 k h0 (by rw [str_size]; exact h1), str_take]

section
variable (r s : Nat) (rs : List Rw) (R : Rm) (n : ByteArray) (w : World) (h : RkAt w r s rs R) (hn : nmB n = true)
include h hn
set_option maxRecDepth 100000 in
set_option maxHeartbeats 1000000 in
theorem doR_ap (v : Value) (b xs : List Int) (hf : play rs n = some xs) (hb : b ≠ []) (hB' : isB b) (hfit : xs.length % s + b.length ≤ s) (hwt : wt rs + b.length + 1 ≤ 1099511000000) (hv : BV w v b) : Calls Tryz.prog 62 #[.pointer (some ⟨r, 0, none⟩), .agg (rwC 2 n v 0 ByteArray.empty).toArray] w fun e w' => e = .returned (.tuple #[]) ∧ RoR w w' r s R (rs ++ [rAp n b]) v := by
  obtain ⟨A, B0, hAB0, hA, hlt, hB⟩ := h.fls.split n
  obtain ⟨I, hI⟩ : ∃ I, A.length = I := ⟨_, rfl⟩
  obtain ⟨B, hBB, hB2⟩ : ∃ B, B0 = (n, xs) :: B ∧ ∀ b ∈ B, blt n b.1 = true := by
    rcases hB with ⟨h1, _⟩ | ⟨ys, B', h1, h2, h3⟩
    · rw [hf] at h1; cases h1
    · rw [hf] at h1
      injection h1 with h1
      subst h1
      exact ⟨B', h2, h3⟩
  subst hBB
  have hAB := hAB0
  have hxs : fl (play rs) n = xs := by simp [fl, hf]
  have HLR : Hid (Lraw s (play rs) (rAp n b)) := hide ⟨.inr (.inl ⟨n, b, xs, rfl, hn, hf, hb, hB'⟩), fun _ => by show (fl (play rs) n).length % s + b.length ≤ s; rw [hxs]; exact hfit⟩
  have HFL : Hid (FL (doR (play rs) (rAp n b)) (A ++ (n, xs ++ b) :: B)) := hide (by
    have := h.fls
    rw [hAB] at this
    have := this.set hlt hB2 (xs ++ b)
    rw [do_ap, hxs]
    exact this)
  have HLN : Hid ((A ++ (n, xs ++ b) :: B).length ≤ rs.length + 1) := hide (by
    have := h.few
    rw [hAB] at this
    simp at this ⊢
    omega)
  have HADD : Hid (∀ z : World, (binOp .add 9 (.string (str xs)) (.string (str b))).run Tryz.prog z = .ok (.string (str (xs ++ b))) z) := hide (fun z => add_str xs b (by have h1 := play_wt rs n; rw [hxs] at h1; omega) z)
  obtain ⟨va, vc, hve, hvs⟩ := hv.sl
  have HVE := hide hve
  clear hB hB2 hn hxs hve hvs hb hB' hfit hAB0
  obtain ⟨fa, fc, hfe⟩ := row_slice h.fk.row
  have HH := hide h
  have HL : Hid (R.l.length ≤ 1099511000000) := hide (by have h1 := h.few; have h2 := len_wt rs; omega)
  have hrl : R.qs.length = rs.length := by rw [← h.raw]; simp
  have HRL : Hid (R.qs.length ≤ 1099511000000) := hide (by have h2 := len_wt rs; omega)
  clear hrl
  have HFE := hide hfe
  have HAB := hide hAB
  have HA := hide hA
  have HLTA := hide hlt
  have HV := hide hv
  have hfind : ∀ (W : World), FkAt W r s R.fv R.qv R.l → Calls Tryz.prog 67 #[.pointer (some ⟨r, 0, none⟩), .string n] W fun e w' => e = .returned (.tuple #[.int .i64 (I : Int), .bool true]) ∧ Below W.heap.size W w' := fun W hW => by
    have := find_any r s R.fv R.qv R.l (play rs) n W hW h.fls HL.out
    rw [← hA, hI, hf] at this
    exact this
  have HFD := hide hfind
  clear h hAB hA hlt hv hfe hfind hwt
  go_enter Tryz.func62, Tryz.ntmps62
  go_wp2_with (refine step_box (cs := rwC 2 n v 0 ByteArray.empty) rfl rfl ?_)
  intro w1 g3 hg3 hle3 hb1
  have D1 : Hid (DsR w w1 r s R R.fv R.l (rAp n b) v g3) := hide (HH.out.ds hb1 hg3 hle3)
  have c1 : w1.cell? ⟨g3, 1, none⟩ = some (.string n) := D1.out.r1
  clear hg3 hle3 hb1
  go_wp2_with (go_at_call 67; refine (HFD.out _ D1.out.fk).mono ?_; rintro e w2 ⟨rfl, hb2⟩; have D2 := hide (D1.out.below hb2); have c0 : w2.cell? ⟨g3, 0, none⟩ = some (.int .i64 2) := D2.out.r0; clear c1 D1 hb2)
  clear HFD
  have D2' := D2
  rw [HAB.out] at D2'
  obtain ⟨g, cap, hfv, hcells⟩ := D2'.out.at'
  have HFV := hide hfv
  obtain ⟨L, hL⟩ : ∃ L, (A ++ (n, xs) :: B).length = L := ⟨_, rfl⟩
  rw [hL] at hfv
  have HIX : Hid (∀ z : World, (Instr.indexAt 107 (.slice (some ⟨g, 0, none⟩) L cap) (.int .i64 (I : Int))).run Tryz.prog z = .ok (.pointer (some ⟨g, I * 2, none⟩)) z) := hide (fun z => vw_at rFi g L cap I (by rw [← hL, ← hI]; simp) z)
  have HC1 : Hid (∀ z : World, Below w2.heap.size w2 z → z.cell? ⟨r, 1, none⟩ = some (.slice (some ⟨g, 0, none⟩) L cap)) := hide (fun z hz => by rw [← hfv]; exact (D2.out.below hz).c1)
  have HCB : Hid (∀ z : World, Below w2.heap.size w2 z → z.cell? ⟨g, I * 2 + 1, none⟩ = some (.string (str xs))) := hide (fun z hz => by rw [← hI]; exact (hcells z hz).2.1)
  have HFZ : Hid (∀ z : World, Below w2.heap.size w2 z → z.frozen? ⟨g, I * 2 + 1, none⟩ = false) := hide (fun z hz => by rw [← hI]; exact (hcells z hz).2.2.1)
  have HRG : Hid (∀ z : World, Below w2.heap.size w2 z → z.rangeAt g (I * 2) [.string n, .string (str xs)]) := hide (fun z hz => by rw [← hI]; exact (hcells z hz).2.2.2)
  have HLL := hide hL
  have HII := hide hI
  clear hfv hcells hL c0 hI
  have HCV : Hid (∀ z : World, Below w2.heap.size w2 z → z.cell? ⟨g3, 2, none⟩ = some v) := hide (fun z hz => (D2.out.below hz).r2)
  have HST : Hid (∀ z : World, Below w2.heap.size w2 z → (convert 31 9 v).run Tryz.prog z = .ok (.string (str b)) z) := hide (fun z hz => by
    have hbv : BV z v b := HV.out.same (fun k hk => by
      obtain ⟨cs, hc⟩ := HV.out.lies hk
      exact (D2.out.below hz).chs.block k hc.lt (HH.out.off hc))
    obtain ⟨a1, c1, e1, hs1⟩ := hbv.sl
    rw [e1]
    exact toStr hs1)
  refine wp_region_noPanic ?_
  refine wp_region_U (q := 19) (S := fun z : World => Below w2.heap.size w2 z) (by kernel_rfl) ?_
  have Z0 := hide ((Below.refl w2.heap.size w2).drew)
  have hHeld := Z0.out
  refine takeU 19 0 48 (.pointer (some ⟨r, 0, none⟩)) hHeld rfl rfl (by kernel_rfl) (by kernel_rfl) (by kernel_rfl) (by kernel_rfl) (by kernel_rfl) (by kernel_rfl) (fun _ _ _ h => h) (Or.inl ⟨by rfl, fun w _ => by go_simp⟩) ?_
  simp only [Act.put, List.setIfInBounds_toArray, List.set_cons_zero, List.set_cons_succ]
  refine takeU 19 1 49 (.pointer (some ⟨r, 0, none⟩)) hHeld rfl rfl (by kernel_rfl) (by kernel_rfl) (by kernel_rfl) (by kernel_rfl) (by kernel_rfl) (by kernel_rfl) (fun _ _ _ h => h) (Or.inl ⟨by rfl, fun w _ => by go_simp⟩) ?_
  simp only [Act.put, List.setIfInBounds_toArray, List.set_cons_zero, List.set_cons_succ]
  refine takeU 19 2 50 (.pointer (some ⟨r, 1, none⟩)) hHeld rfl rfl (by kernel_rfl) (by kernel_rfl) (by kernel_rfl) (by kernel_rfl) (by kernel_rfl) (by kernel_rfl) (fun _ _ _ h => h) (Or.inl ⟨by rfl, fun w _ => by go_simp⟩) ?_
  simp only [Act.put, List.setIfInBounds_toArray, List.set_cons_zero, List.set_cons_succ]
  refine takeU 19 3 51 (.slice (some ⟨g, 0, none⟩) L cap) hHeld rfl rfl (by kernel_rfl) (by kernel_rfl) (by kernel_rfl) (by kernel_rfl) (by kernel_rfl) (by kernel_rfl) (fun _ _ _ h => h) (Or.inl ⟨by rfl, fun w hw => by have hw' : w.cell? ⟨r, 1, none⟩ = some (.slice (some ⟨g, 0, none⟩) L cap) := (fun hw => HC1.out _ hw) hw; go_simp⟩) ?_
  simp only [Act.put, List.setIfInBounds_toArray, List.set_cons_zero, List.set_cons_succ]
  refine takeU 19 4 52 (.int .i64 (I : Int)) hHeld rfl rfl (by kernel_rfl) (by kernel_rfl) (by kernel_rfl) (by kernel_rfl) (by kernel_rfl) (by kernel_rfl) (fun _ _ _ h => h) (Or.inl ⟨by rfl, fun w _ => by go_simp⟩) ?_
  simp only [Act.put, List.setIfInBounds_toArray, List.set_cons_zero, List.set_cons_succ]
  refine takeU 19 5 53 (.pointer (some ⟨r, 0, none⟩)) hHeld rfl rfl (by kernel_rfl) (by kernel_rfl) (by kernel_rfl) (by kernel_rfl) (by kernel_rfl) (by kernel_rfl) (fun _ _ _ h => h) (Or.inl ⟨by rfl, fun w _ => by go_simp⟩) ?_
  simp only [Act.put, List.setIfInBounds_toArray, List.set_cons_zero, List.set_cons_succ]
  refine takeU 19 6 54 (.pointer (some ⟨r, 0, none⟩)) hHeld rfl rfl (by kernel_rfl) (by kernel_rfl) (by kernel_rfl) (by kernel_rfl) (by kernel_rfl) (by kernel_rfl) (fun _ _ _ h => h) (Or.inl ⟨by rfl, fun w _ => by go_simp⟩) ?_
  simp only [Act.put, List.setIfInBounds_toArray, List.set_cons_zero, List.set_cons_succ]
  refine takeU 19 7 55 (.pointer (some ⟨r, 1, none⟩)) hHeld rfl rfl (by kernel_rfl) (by kernel_rfl) (by kernel_rfl) (by kernel_rfl) (by kernel_rfl) (by kernel_rfl) (fun _ _ _ h => h) (Or.inl ⟨by rfl, fun w _ => by go_simp⟩) ?_
  simp only [Act.put, List.setIfInBounds_toArray, List.set_cons_zero, List.set_cons_succ]
  refine takeU 19 8 56 (.slice (some ⟨g, 0, none⟩) L cap) hHeld rfl rfl (by kernel_rfl) (by kernel_rfl) (by kernel_rfl) (by kernel_rfl) (by kernel_rfl) (by kernel_rfl) (fun _ _ _ h => h) (Or.inl ⟨by rfl, fun w hw => by have hw' : w.cell? ⟨r, 1, none⟩ = some (.slice (some ⟨g, 0, none⟩) L cap) := (fun hw => HC1.out _ hw) hw; go_simp⟩) ?_
  simp only [Act.put, List.setIfInBounds_toArray, List.set_cons_zero, List.set_cons_succ]
  refine takeU 19 9 57 (.int .i64 (I : Int)) hHeld rfl rfl (by kernel_rfl) (by kernel_rfl) (by kernel_rfl) (by kernel_rfl) (by kernel_rfl) (by kernel_rfl) (fun _ _ _ h => h) (Or.inl ⟨by rfl, fun w _ => by go_simp⟩) ?_
  simp only [Act.put, List.setIfInBounds_toArray, List.set_cons_zero, List.set_cons_succ]
  refine takeU 19 10 58 (.pointer (some ⟨g, I * 2, none⟩)) hHeld rfl rfl (by kernel_rfl) (by kernel_rfl) (by kernel_rfl) (by kernel_rfl) (by kernel_rfl) (by kernel_rfl) (fun _ _ _ h => h) (Or.inl ⟨by rfl, fun w h => run_op rfl (HIX.out w)⟩) ?_
  simp only [Act.put, List.setIfInBounds_toArray, List.set_cons_zero, List.set_cons_succ]
  refine takeU 19 11 59 (.pointer (some ⟨g, I * 2 + 1, none⟩)) hHeld rfl rfl (by kernel_rfl) (by kernel_rfl) (by kernel_rfl) (by kernel_rfl) (by kernel_rfl) (by kernel_rfl) (fun _ _ _ h => h) (Or.inl ⟨by rfl, fun w _ => by go_simp⟩) ?_
  simp only [Act.put, List.setIfInBounds_toArray, List.set_cons_zero, List.set_cons_succ]
  refine takeU 19 12 60 (.string (str xs)) hHeld rfl rfl (by kernel_rfl) (by kernel_rfl) (by kernel_rfl) (by kernel_rfl) (by kernel_rfl) (by kernel_rfl) (fun _ _ _ h => h) (Or.inl ⟨by rfl, fun w hw => by have hw' : w.cell? ⟨g, (I * 2 + 1), none⟩ = some (.string (str xs)) := (fun hw => HCB.out _ hw) hw; go_simp⟩) ?_
  simp only [Act.put, List.setIfInBounds_toArray, List.set_cons_zero, List.set_cons_succ]
  refine takeU 19 13 61 (.pointer (some ⟨g3, 2, none⟩)) hHeld rfl rfl (by kernel_rfl) (by kernel_rfl) (by kernel_rfl) (by kernel_rfl) (by kernel_rfl) (by kernel_rfl) (fun _ _ _ h => h) (Or.inl ⟨by rfl, fun w _ => by go_simp⟩) ?_
  simp only [Act.put, List.setIfInBounds_toArray, List.set_cons_zero, List.set_cons_succ]
  refine takeU 19 14 62 (v) hHeld rfl rfl (by kernel_rfl) (by kernel_rfl) (by kernel_rfl) (by kernel_rfl) (by kernel_rfl) (by kernel_rfl) (fun _ _ _ h => h) (Or.inl ⟨by rfl, fun w hw => by have hw' : w.cell? ⟨g3, 2, none⟩ = some (v) := (fun hw => HCV.out _ hw) hw; go_simp⟩) ?_
  simp only [Act.put, List.setIfInBounds_toArray, List.set_cons_zero, List.set_cons_succ]
  refine takeU 19 15 63 (.string (str b)) hHeld rfl rfl (by kernel_rfl) (by kernel_rfl) (by kernel_rfl) (by kernel_rfl) (by kernel_rfl) (by kernel_rfl) (fun _ _ _ h => h) (Or.inl ⟨by rfl, fun w h => run_op rfl (HST.out w h)⟩) ?_
  simp only [Act.put, List.setIfInBounds_toArray, List.set_cons_zero, List.set_cons_succ]
  refine takeU 19 16 64 (.string (str (xs ++ b))) hHeld rfl rfl (by kernel_rfl) (by kernel_rfl) (by kernel_rfl) (by kernel_rfl) (by kernel_rfl) (by kernel_rfl) (fun _ _ _ h => h) (Or.inl ⟨by rfl, fun w h => run_op rfl (HADD.out w)⟩) ?_
  simp only [Act.put, List.setIfInBounds_toArray, List.set_cons_zero, List.set_cons_succ]
  have hix := HIX.out
  refine wpAnyU_ready (rs := [17]) (by kernel_rfl) (by simp) (AllReadyU.cons rfl (fun K hK => ?_) AllReadyU.nil)
  rw [if_pos (by rfl)]
  go_simp
  refine hK.out _ _ (fun _ => Z0.out) ?_
  have hHeld := Z0.out
  clear hK K
  refine takeU 19 18 66 (.pointer (some ⟨g, I * 2 + 1, none⟩)) hHeld rfl rfl (by kernel_rfl) (by kernel_rfl) (by kernel_rfl) (by kernel_rfl) (by kernel_rfl) (by kernel_rfl) (fun _ _ _ h => h) (Or.inl ⟨by rfl, fun w _ => by go_simp⟩) ?_
  simp only [Act.put, List.setIfInBounds_toArray, List.set_cons_zero, List.set_cons_succ]
  have k1 := HCB.out _ Z0.out
  have k2 := HFZ.out _ Z0.out
  refine wpAnyU_ready (rs := [19]) (by kernel_rfl) (by simp) (AllReadyU.cons rfl (fun K hK => ?_) AllReadyU.nil)
  rw [if_pos (by rfl)]
  go_simp
  refine hK.out _ _ (fun h => absurd h (by decide)) ?_
  clear hK K
  refine wpAnyU_done (by kernel_rfl) ?_ _
  refine NoPanic.normal ?_
  have D6 : Hid (DsR w ((w2.setCell ⟨g, I * 2 + 1, none⟩ (.string (str (xs ++ b)))).drew) r s R R.fv (A ++ (n, xs ++ b) :: B) (rAp n b) v g3) := hide (by
    have := D2'.out.setF HFV.out (xs ++ b)
    rw [HII.out] at this
    exact this.below ((Below.refl _ _).drew))
  revert D6
  generalize (w2.setCell ⟨g, I * 2 + 1, none⟩ (.string (str (xs ++ b)))).drew = w6
  intro D6
  clear k1 k2 hix hHeld
  go_wp2_with fail
  have HRE5 : Hid (∃ q1 q2, R.qv = .slice q1 R.qs.length q2) := hide (by obtain ⟨q1, q2, hq⟩ := row_slice HH.out.row; exact ⟨q1, q2, hq⟩)
  obtain ⟨L5, hL5⟩ : ∃ L5, (R.qs ++ [(rAp n b, v)]).length = L5 := ⟨_, rfl⟩
  have HL5 := hide hL5
  clear hL5
  refine wp_region_noPanic ?_
  refine wp_region_U (q := 10) (S := fun z : World => z.cell? ⟨r, 2, none⟩ = some R.qv ∧ z.rangeAt g3 0 (rwC 2 n v 0 ByteArray.empty)) (by kernel_rfl) ?_
  have Z0 := hide ((Below.refl w6.heap.size w6).drew)
  have E0 := hide (D6.out.below Z0.out)
  have HIR : Hid ((Tryz.prog.info? 117).map (·.size) = some (rwC 2 n v 0 ByteArray.empty).length) := hide (by rw [wRw.size]; rfl)
  have gb0 : Blk w6.drew g3 117 (rwC 2 n v 0 ByteArray.empty) := E0.out.gb
  have hHeld : w6.drew.cell? ⟨r, 2, none⟩ = some R.qv ∧ w6.drew.rangeAt g3 0 (rwC 2 n v 0 ByteArray.empty) := ⟨E0.out.c2, gb0.range 0 _ (by simp)⟩
  clear gb0
  refine takeU 10 0 168 (.pointer (some ⟨r, 0, none⟩)) hHeld rfl rfl (by kernel_rfl) (by kernel_rfl) (by kernel_rfl) (by kernel_rfl) (by kernel_rfl) (by kernel_rfl) (fun _ _ _ h => h) (Or.inl ⟨by rfl, fun w _ => by go_simp⟩) ?_
  simp only [Act.put, List.setIfInBounds_toArray, List.set_cons_zero, List.set_cons_succ]
  refine takeU 10 1 169 (.pointer (some ⟨r, 0, none⟩)) hHeld rfl rfl (by kernel_rfl) (by kernel_rfl) (by kernel_rfl) (by kernel_rfl) (by kernel_rfl) (by kernel_rfl) (fun _ _ _ h => h) (Or.inl ⟨by rfl, fun w _ => by go_simp⟩) ?_
  simp only [Act.put, List.setIfInBounds_toArray, List.set_cons_zero, List.set_cons_succ]
  refine takeU 10 2 170 (.pointer (some ⟨r, 0, none⟩)) hHeld rfl rfl (by kernel_rfl) (by kernel_rfl) (by kernel_rfl) (by kernel_rfl) (by kernel_rfl) (by kernel_rfl) (fun _ _ _ h => h) (Or.inl ⟨by rfl, fun w _ => by go_simp⟩) ?_
  simp only [Act.put, List.setIfInBounds_toArray, List.set_cons_zero, List.set_cons_succ]
  refine takeU 10 3 171 (.pointer (some ⟨r, 2, none⟩)) hHeld rfl rfl (by kernel_rfl) (by kernel_rfl) (by kernel_rfl) (by kernel_rfl) (by kernel_rfl) (by kernel_rfl) (fun _ _ _ h => h) (Or.inl ⟨by rfl, fun w _ => by go_simp⟩) ?_
  simp only [Act.put, List.setIfInBounds_toArray, List.set_cons_zero, List.set_cons_succ]
  refine takeU 10 4 172 (R.qv) hHeld rfl rfl (by kernel_rfl) (by kernel_rfl) (by kernel_rfl) (by kernel_rfl) (by kernel_rfl) (by kernel_rfl) (fun _ _ _ h => h) (Or.inl ⟨by rfl, fun w hw => by have hw' : w.cell? ⟨r, 2, none⟩ = some (R.qv) := (fun h => h.1) hw; go_simp⟩) ?_
  simp only [Act.put, List.setIfInBounds_toArray, List.set_cons_zero, List.set_cons_succ]
  refine takeU 10 5 173 (.agg (rwC 2 n v 0 ByteArray.empty).toArray) hHeld rfl rfl (by kernel_rfl) (by kernel_rfl) (by kernel_rfl) (by kernel_rfl) (by kernel_rfl) (by kernel_rfl) (fun _ _ _ h => h) (yieldsIf_load_mid (by rfl) _ _ rfl g3 0 rfl _ _ (fun w h => h.2) Tryz.underlying117 rfl HIR.out) ?_
  simp only [Act.put, List.setIfInBounds_toArray, List.set_cons_zero, List.set_cons_succ]
  refine wpAnyU_ready (rs := [6]) (by kernel_rfl) (by simp) (AllReadyU.cons rfl (fun K hK => ?_) AllReadyU.nil)
  rw [if_pos (by rfl)]
  refine wp_oneR (r := rAp n b) (v := v) ⟨_, _, _, HVE.out⟩ rfl ?_
  intro w4 u4 hu4 hb4
  have E4 := hide (E0.out.below hb4)
  have HU4 := hide hu4
  have gb0 : Blk w4 g3 117 (rwC 2 n v 0 ByteArray.empty) := E4.out.gb
  have hH4 : w4.cell? ⟨r, 2, none⟩ = some R.qv ∧ w4.rangeAt g3 0 (rwC 2 n v 0 ByteArray.empty) := ⟨E4.out.c2, gb0.range 0 _ (by simp)⟩
  clear gb0
  refine hK.out _ _ (fun _ => hH4) ?_
  have hHeld := hH4
  clear hK K
  clear hu4 hb4 hH4
  simp only [Act.put]
  refine wpAnyU_ready (rs := [7]) (by kernel_rfl) (by simp) (AllReadyU.cons rfl (fun K hK => ?_) AllReadyU.nil)
  rw [if_pos (by rfl)]
  refine wp_appV rRw rfl rfl E4.out.row HU4.out (rwsC_one _ (fun x hx => by simp at hx; subst hx; exact ⟨_, _, _, HVE.out⟩)) (by have := HRL.out; omega) (Nat.zero_le _) ?_
  intro qv5 w5 hrow5 hgr5 hat5
  have hne5 : ∀ k, R.qv.ownBlock = some k → k ≠ r := fun k hk e => by
    obtain ⟨cs, hc⟩ := row_lies E4.out.row hk
    exact hc.apart E4.out.fk.blk (by decide) e
  have hnf5 : ∀ k, R.fv.ownBlock = some k → R.qv.ownBlock ≠ some k := fun k hk e => by
    obtain ⟨cs, hc⟩ := row_lies E4.out.row e
    obtain ⟨cs', hc'⟩ := row_lies E4.out.fk.row hk
    exact hc.apart hc' (by decide) rfl
  have DK5 : Hid (Blk w5 r 110 (rkC s R.fv R.qv)) := hide (E4.out.fk.blk.same (hgr5.block r E4.out.fk.blk.lt (fun e => hne5 r e.symm rfl)))
  have G5 : Hid (Blk w5 g3 117 (rwC 2 n v 0 ByteArray.empty)) := hide (Blk.same E4.out.gb (hgr5.block g3 E4.out.gb.lt (fun e => E4.out.off e.symm)))
  have F5 : Hid (w5.ownsRow 0 131 2 R.fv (A ++ (n, xs ++ b) :: B).length (filC ((A ++ (n, xs ++ b) :: B)))) := hide (row_same E4.out.fk.row (fun k hk => by
    obtain ⟨cs, hc⟩ := row_lies E4.out.fk.row hk
    exact hgr5.block k hc.lt (fun e => hnf5 k hk e.symm)))
  have CH5 : Hid (Chs (R.own r) w w5) := hide (E4.out.chs.thenGrown hgr5 (fun k hk => .inl (.inr (.inr hk))))
  have LQ5 : Hid (∀ k, qv5.ownBlock = some k → R.own r k ∨ w.heap.size ≤ k) := hide (fun k hk => by
    rcases hat5 with e | e
    · exact .inl (.inr (.inr (by rw [e] at hk; exact hk)))
    · rw [e] at hk
      injection hk with hk
      have := E4.out.chs.size
      right
      omega)
  have ROW5 : Hid (w5.ownsRow 0 117 5 qv5 L5 (rwsC (R.qs ++ [(rAp n b, v)]))) := hide (by rw [rwsC_app, ← HL5.out, List.length_append]; exact hrow5)
  obtain ⟨qa5, qc5, hqe5⟩ := row_slice ROW5.out
  subst hqe5
  have k1 : w5.cell? ⟨r, 2, none⟩ = some R.qv := by rw [DK5.out.cell]; rfl
  have k2 : w5.frozen? ⟨r, 2, none⟩ = false := DK5.out.free 2
  have hH5 : w5.cell? ⟨r, 2, none⟩ = some R.qv ∧ w5.rangeAt g3 0 (rwC 2 n v 0 ByteArray.empty) := ⟨k1, G5.out.range 0 _ (by simp)⟩
  refine hK.out _ _ (fun _ => hH5) ?_
  have hHeld := hH5
  clear hK K
  clear hrow5 hgr5 hat5 hne5 hnf5
  simp only [Act.put]
  refine wpAnyU_ready (rs := [8]) (by kernel_rfl) (by simp) (AllReadyU.cons rfl (fun K hK => ?_) AllReadyU.nil)
  rw [if_pos (by rfl)]
  go_simp
  refine hK.out _ _ (fun _ => hH5) ?_
  have hHeld := hH5
  clear hK K
  clear hH5
  refine takeU 10 9 177 (.pointer (some ⟨r, 2, none⟩)) hHeld rfl rfl (by kernel_rfl) (by kernel_rfl) (by kernel_rfl) (by kernel_rfl) (by kernel_rfl) (by kernel_rfl) (fun _ _ _ h => h) (Or.inl ⟨by rfl, fun w _ => by go_simp⟩) ?_
  simp only [Act.put, List.setIfInBounds_toArray, List.set_cons_zero, List.set_cons_succ]
  refine wpAnyU_ready (rs := [10]) (by kernel_rfl) (by simp) (AllReadyU.cons rfl (fun K hK => ?_) AllReadyU.nil)
  rw [if_pos (by rfl)]
  go_simp
  refine hK.out _ _ (fun h => absurd h (by decide)) ?_
  clear hK K
  refine wpAnyU_done (by kernel_rfl) ?_ _
  refine NoPanic.normal ?_
  have B6 := But.setCell w5 r 2 (.slice qa5 L5 qc5)
  have FK6 : FkAt (w5.setCell ⟨r, 2, none⟩ (.slice qa5 L5 qc5)) r s R.fv (.slice qa5 L5 qc5) ((A ++ (n, xs ++ b) :: B)) := ⟨DK5.out.set 2 _, row_same F5.out (fun k hk => B6.block k (fun e => by
    obtain ⟨cs, hc⟩ := row_lies F5.out hk
    exact hc.apart DK5.out (by decide) e))⟩
  have hres : RoR w (w5.setCell ⟨r, 2, none⟩ (.slice qa5 L5 qc5)) r s R (rs ++ [rAp n b]) v := DsR.done HH.out HLR.out HV.out (by exact HFL.out) HLN.out FK6 (by rw [HL5.out]; exact row_same ROW5.out (fun k hk => B6.block k (fun e => by
    obtain ⟨cs, hc⟩ := row_lies ROW5.out hk
    exact hc.apart DK5.out (by decide) e))) (CH5.out.thenBut B6 (.inl (.inl rfl))) D6.out.lie LQ5.out rfl
  revert hres
  generalize w5.setCell ⟨r, 2, none⟩ (.slice qa5 L5 qc5) = w6
  intro hres
  have HRES := hide hres
  clear hres
  go_wp2
  go_end0
  exact ⟨rfl, HRES.out⟩
set_option maxRecDepth 100000 in
set_option maxHeartbeats 1000000 in
theorem doR_cu (k : Int) (xs : List Int) (hf : play rs n = some xs) (hk0 : 0 ≤ k) (hkl : k < xs.length) (hwt : wt rs + 1 ≤ 1099511000000) (hv : BV w (.slice none 0 0) []) : Calls Tryz.prog 62 #[.pointer (some ⟨r, 0, none⟩), .agg (rwC 3 n (.slice none 0 0) k ByteArray.empty).toArray] w fun e w' => e = .returned (.tuple #[]) ∧ RoR w w' r s R (rs ++ [rCu n k]) (.slice none 0 0) := by
  obtain ⟨A, B0, hAB0, hA, hlt, hB⟩ := h.fls.split n
  obtain ⟨I, hI⟩ : ∃ I, A.length = I := ⟨_, rfl⟩
  obtain ⟨B, hBB, hB2⟩ : ∃ B, B0 = (n, xs) :: B ∧ ∀ b ∈ B, blt n b.1 = true := by
    rcases hB with ⟨h1, _⟩ | ⟨ys, B', h1, h2, h3⟩
    · rw [hf] at h1; cases h1
    · rw [hf] at h1
      injection h1 with h1
      subst h1
      exact ⟨B', h2, h3⟩
  subst hBB
  have hAB := hAB0
  have hxs : fl (play rs) n = xs := by simp [fl, hf]
  have HLR : Hid (Lraw s (play rs) (rCu n k)) := hide ⟨.inr (.inr (.inl ⟨n, k, xs, rfl, hn, hf, hk0, hkl⟩)), fun h2 => by cases h2⟩
  have HFL : Hid (FL (doR (play rs) (rCu n k)) (A ++ (n, xs.take k.toNat) :: B)) := hide (by
    have := h.fls
    rw [hAB] at this
    have := this.set hlt hB2 (xs.take k.toNat)
    rw [do_cu, hxs]
    exact this)
  have HLN : Hid ((A ++ (n, xs.take k.toNat) :: B).length ≤ rs.length + 1) := hide (by
    have := h.few
    rw [hAB] at this
    simp at this ⊢
    omega)
  have HCUT : Hid (∀ z : World, (Instr.slice 9 (.string (str xs)) none (some (.int .i64 k)) none).run Tryz.prog z = .ok (.string (str (xs.take k.toNat))) z) := hide (fun z => cut_str xs k hk0 (by omega) z)
  clear hB hB2 hn hxs hAB0 hk0 hkl
  obtain ⟨YS, hYS⟩ : ∃ YS, xs.take k.toNat = YS := ⟨_, rfl⟩
  rw [hYS] at HFL HLN HCUT
  clear hYS
  obtain ⟨fa, fc, hfe⟩ := row_slice h.fk.row
  have HH := hide h
  have HL : Hid (R.l.length ≤ 1099511000000) := hide (by have h1 := h.few; have h2 := len_wt rs; omega)
  have hrl : R.qs.length = rs.length := by rw [← h.raw]; simp
  have HRL : Hid (R.qs.length ≤ 1099511000000) := hide (by have h2 := len_wt rs; omega)
  clear hrl
  have HFE := hide hfe
  have HAB := hide hAB
  have HA := hide hA
  have HLTA := hide hlt
  have HV := hide hv
  have hfind : ∀ (W : World), FkAt W r s R.fv R.qv R.l → Calls Tryz.prog 67 #[.pointer (some ⟨r, 0, none⟩), .string n] W fun e w' => e = .returned (.tuple #[.int .i64 (I : Int), .bool true]) ∧ Below W.heap.size W w' := fun W hW => by
    have := find_any r s R.fv R.qv R.l (play rs) n W hW h.fls HL.out
    rw [← hA, hI, hf] at this
    exact this
  have HFD := hide hfind
  clear h hAB hA hlt hv hfe hfind hwt
  go_enter Tryz.func62, Tryz.ntmps62
  go_wp2_with (refine step_box (cs := rwC 3 n (.slice none 0 0) k ByteArray.empty) rfl rfl ?_)
  intro w1 g3 hg3 hle3 hb1
  have D1 : Hid (DsR w w1 r s R R.fv R.l (rCu n k) (Value.slice none 0 0) g3) := hide (HH.out.ds hb1 hg3 hle3)
  have c1 : w1.cell? ⟨g3, 1, none⟩ = some (.string n) := D1.out.r1
  clear hg3 hle3 hb1
  go_wp2_with (go_at_call 67; refine (HFD.out _ D1.out.fk).mono ?_; rintro e w2 ⟨rfl, hb2⟩; have D2 := hide (D1.out.below hb2); have c0 : w2.cell? ⟨g3, 0, none⟩ = some (.int .i64 3) := D2.out.r0; clear c1 D1 hb2)
  clear HFD
  have D2' := D2
  rw [HAB.out] at D2'
  obtain ⟨g, cap, hfv, hcells⟩ := D2'.out.at'
  have HFV := hide hfv
  obtain ⟨L, hL⟩ : ∃ L, (A ++ (n, xs) :: B).length = L := ⟨_, rfl⟩
  rw [hL] at hfv
  have HIX : Hid (∀ z : World, (Instr.indexAt 107 (.slice (some ⟨g, 0, none⟩) L cap) (.int .i64 (I : Int))).run Tryz.prog z = .ok (.pointer (some ⟨g, I * 2, none⟩)) z) := hide (fun z => vw_at rFi g L cap I (by rw [← hL, ← hI]; simp) z)
  have HC1 : Hid (∀ z : World, Below w2.heap.size w2 z → z.cell? ⟨r, 1, none⟩ = some (.slice (some ⟨g, 0, none⟩) L cap)) := hide (fun z hz => by rw [← hfv]; exact (D2.out.below hz).c1)
  have HCB : Hid (∀ z : World, Below w2.heap.size w2 z → z.cell? ⟨g, I * 2 + 1, none⟩ = some (.string (str xs))) := hide (fun z hz => by rw [← hI]; exact (hcells z hz).2.1)
  have HFZ : Hid (∀ z : World, Below w2.heap.size w2 z → z.frozen? ⟨g, I * 2 + 1, none⟩ = false) := hide (fun z hz => by rw [← hI]; exact (hcells z hz).2.2.1)
  have HRG : Hid (∀ z : World, Below w2.heap.size w2 z → z.rangeAt g (I * 2) [.string n, .string (str xs)]) := hide (fun z hz => by rw [← hI]; exact (hcells z hz).2.2.2)
  have HLL := hide hL
  have HII := hide hI
  clear hfv hcells hL c0 hI
  have HCV : Hid (∀ z : World, Below w2.heap.size w2 z → z.cell? ⟨g3, 3, none⟩ = some (.int .i64 k)) := hide (fun z hz => (D2.out.below hz).r3)
  refine wp_region_noPanic ?_
  refine wp_region_U (q := 18) (S := fun z : World => Below w2.heap.size w2 z) (by kernel_rfl) ?_
  have Z0 := hide ((Below.refl w2.heap.size w2).drew)
  have hHeld := Z0.out
  refine takeU 18 0 69 (.pointer (some ⟨r, 0, none⟩)) hHeld rfl rfl (by kernel_rfl) (by kernel_rfl) (by kernel_rfl) (by kernel_rfl) (by kernel_rfl) (by kernel_rfl) (fun _ _ _ h => h) (Or.inl ⟨by rfl, fun w _ => by go_simp⟩) ?_
  simp only [Act.put, List.setIfInBounds_toArray, List.set_cons_zero, List.set_cons_succ]
  refine takeU 18 1 70 (.pointer (some ⟨r, 0, none⟩)) hHeld rfl rfl (by kernel_rfl) (by kernel_rfl) (by kernel_rfl) (by kernel_rfl) (by kernel_rfl) (by kernel_rfl) (fun _ _ _ h => h) (Or.inl ⟨by rfl, fun w _ => by go_simp⟩) ?_
  simp only [Act.put, List.setIfInBounds_toArray, List.set_cons_zero, List.set_cons_succ]
  refine takeU 18 2 71 (.pointer (some ⟨r, 1, none⟩)) hHeld rfl rfl (by kernel_rfl) (by kernel_rfl) (by kernel_rfl) (by kernel_rfl) (by kernel_rfl) (by kernel_rfl) (fun _ _ _ h => h) (Or.inl ⟨by rfl, fun w _ => by go_simp⟩) ?_
  simp only [Act.put, List.setIfInBounds_toArray, List.set_cons_zero, List.set_cons_succ]
  refine takeU 18 3 72 (.slice (some ⟨g, 0, none⟩) L cap) hHeld rfl rfl (by kernel_rfl) (by kernel_rfl) (by kernel_rfl) (by kernel_rfl) (by kernel_rfl) (by kernel_rfl) (fun _ _ _ h => h) (Or.inl ⟨by rfl, fun w hw => by have hw' : w.cell? ⟨r, 1, none⟩ = some (.slice (some ⟨g, 0, none⟩) L cap) := (fun hw => HC1.out _ hw) hw; go_simp⟩) ?_
  simp only [Act.put, List.setIfInBounds_toArray, List.set_cons_zero, List.set_cons_succ]
  refine takeU 18 4 73 (.int .i64 (I : Int)) hHeld rfl rfl (by kernel_rfl) (by kernel_rfl) (by kernel_rfl) (by kernel_rfl) (by kernel_rfl) (by kernel_rfl) (fun _ _ _ h => h) (Or.inl ⟨by rfl, fun w _ => by go_simp⟩) ?_
  simp only [Act.put, List.setIfInBounds_toArray, List.set_cons_zero, List.set_cons_succ]
  refine takeU 18 5 74 (.pointer (some ⟨r, 0, none⟩)) hHeld rfl rfl (by kernel_rfl) (by kernel_rfl) (by kernel_rfl) (by kernel_rfl) (by kernel_rfl) (by kernel_rfl) (fun _ _ _ h => h) (Or.inl ⟨by rfl, fun w _ => by go_simp⟩) ?_
  simp only [Act.put, List.setIfInBounds_toArray, List.set_cons_zero, List.set_cons_succ]
  refine takeU 18 6 75 (.pointer (some ⟨r, 0, none⟩)) hHeld rfl rfl (by kernel_rfl) (by kernel_rfl) (by kernel_rfl) (by kernel_rfl) (by kernel_rfl) (by kernel_rfl) (fun _ _ _ h => h) (Or.inl ⟨by rfl, fun w _ => by go_simp⟩) ?_
  simp only [Act.put, List.setIfInBounds_toArray, List.set_cons_zero, List.set_cons_succ]
  refine takeU 18 7 76 (.pointer (some ⟨r, 1, none⟩)) hHeld rfl rfl (by kernel_rfl) (by kernel_rfl) (by kernel_rfl) (by kernel_rfl) (by kernel_rfl) (by kernel_rfl) (fun _ _ _ h => h) (Or.inl ⟨by rfl, fun w _ => by go_simp⟩) ?_
  simp only [Act.put, List.setIfInBounds_toArray, List.set_cons_zero, List.set_cons_succ]
  refine takeU 18 8 77 (.slice (some ⟨g, 0, none⟩) L cap) hHeld rfl rfl (by kernel_rfl) (by kernel_rfl) (by kernel_rfl) (by kernel_rfl) (by kernel_rfl) (by kernel_rfl) (fun _ _ _ h => h) (Or.inl ⟨by rfl, fun w hw => by have hw' : w.cell? ⟨r, 1, none⟩ = some (.slice (some ⟨g, 0, none⟩) L cap) := (fun hw => HC1.out _ hw) hw; go_simp⟩) ?_
  simp only [Act.put, List.setIfInBounds_toArray, List.set_cons_zero, List.set_cons_succ]
  refine takeU 18 9 78 (.int .i64 (I : Int)) hHeld rfl rfl (by kernel_rfl) (by kernel_rfl) (by kernel_rfl) (by kernel_rfl) (by kernel_rfl) (by kernel_rfl) (fun _ _ _ h => h) (Or.inl ⟨by rfl, fun w _ => by go_simp⟩) ?_
  simp only [Act.put, List.setIfInBounds_toArray, List.set_cons_zero, List.set_cons_succ]
  refine takeU 18 10 79 (.pointer (some ⟨g, I * 2, none⟩)) hHeld rfl rfl (by kernel_rfl) (by kernel_rfl) (by kernel_rfl) (by kernel_rfl) (by kernel_rfl) (by kernel_rfl) (fun _ _ _ h => h) (Or.inl ⟨by rfl, fun w h => run_op rfl (HIX.out w)⟩) ?_
  simp only [Act.put, List.setIfInBounds_toArray, List.set_cons_zero, List.set_cons_succ]
  refine takeU 18 11 80 (.pointer (some ⟨g, I * 2 + 1, none⟩)) hHeld rfl rfl (by kernel_rfl) (by kernel_rfl) (by kernel_rfl) (by kernel_rfl) (by kernel_rfl) (by kernel_rfl) (fun _ _ _ h => h) (Or.inl ⟨by rfl, fun w _ => by go_simp⟩) ?_
  simp only [Act.put, List.setIfInBounds_toArray, List.set_cons_zero, List.set_cons_succ]
  refine takeU 18 12 81 (.string (str xs)) hHeld rfl rfl (by kernel_rfl) (by kernel_rfl) (by kernel_rfl) (by kernel_rfl) (by kernel_rfl) (by kernel_rfl) (fun _ _ _ h => h) (Or.inl ⟨by rfl, fun w hw => by have hw' : w.cell? ⟨g, (I * 2 + 1), none⟩ = some (.string (str xs)) := (fun hw => HCB.out _ hw) hw; go_simp⟩) ?_
  simp only [Act.put, List.setIfInBounds_toArray, List.set_cons_zero, List.set_cons_succ]
  refine takeU 18 13 82 (.pointer (some ⟨g3, 3, none⟩)) hHeld rfl rfl (by kernel_rfl) (by kernel_rfl) (by kernel_rfl) (by kernel_rfl) (by kernel_rfl) (by kernel_rfl) (fun _ _ _ h => h) (Or.inl ⟨by rfl, fun w _ => by go_simp⟩) ?_
  simp only [Act.put, List.setIfInBounds_toArray, List.set_cons_zero, List.set_cons_succ]
  refine takeU 18 14 83 (.int .i64 k) hHeld rfl rfl (by kernel_rfl) (by kernel_rfl) (by kernel_rfl) (by kernel_rfl) (by kernel_rfl) (by kernel_rfl) (fun _ _ _ h => h) (Or.inl ⟨by rfl, fun w hw => by have hw' : w.cell? ⟨g3, 3, none⟩ = some (.int .i64 k) := (fun hw => HCV.out _ hw) hw; go_simp⟩) ?_
  simp only [Act.put, List.setIfInBounds_toArray, List.set_cons_zero, List.set_cons_succ]
  refine takeU 18 15 84 (.string (str YS)) hHeld rfl rfl (by kernel_rfl) (by kernel_rfl) (by kernel_rfl) (by kernel_rfl) (by kernel_rfl) (by kernel_rfl) (fun _ _ _ h => h) (Or.inl ⟨by rfl, fun w h => run_op rfl (HCUT.out w)⟩) ?_
  simp only [Act.put, List.setIfInBounds_toArray, List.set_cons_zero, List.set_cons_succ]
  have hix := HIX.out
  refine wpAnyU_ready (rs := [16]) (by kernel_rfl) (by simp) (AllReadyU.cons rfl (fun K hK => ?_) AllReadyU.nil)
  rw [if_pos (by rfl)]
  go_simp
  refine hK.out _ _ (fun _ => Z0.out) ?_
  have hHeld := Z0.out
  clear hK K
  refine takeU 18 17 86 (.pointer (some ⟨g, I * 2 + 1, none⟩)) hHeld rfl rfl (by kernel_rfl) (by kernel_rfl) (by kernel_rfl) (by kernel_rfl) (by kernel_rfl) (by kernel_rfl) (fun _ _ _ h => h) (Or.inl ⟨by rfl, fun w _ => by go_simp⟩) ?_
  simp only [Act.put, List.setIfInBounds_toArray, List.set_cons_zero, List.set_cons_succ]
  have k1 := HCB.out _ Z0.out
  have k2 := HFZ.out _ Z0.out
  refine wpAnyU_ready (rs := [18]) (by kernel_rfl) (by simp) (AllReadyU.cons rfl (fun K hK => ?_) AllReadyU.nil)
  rw [if_pos (by rfl)]
  go_simp
  refine hK.out _ _ (fun h => absurd h (by decide)) ?_
  clear hK K
  refine wpAnyU_done (by kernel_rfl) ?_ _
  refine NoPanic.normal ?_
  have D6 : Hid (DsR w ((w2.setCell ⟨g, I * 2 + 1, none⟩ (.string (str (YS)))).drew) r s R R.fv (A ++ (n, YS) :: B) (rCu n k) (Value.slice none 0 0) g3) := hide (by
    have := D2'.out.setF HFV.out (YS)
    rw [HII.out] at this
    exact this.below ((Below.refl _ _).drew))
  revert D6
  generalize (w2.setCell ⟨g, I * 2 + 1, none⟩ (.string (str (YS)))).drew = w6
  intro D6
  clear k1 k2 hix hHeld
  go_wp2_with fail
  have HRE5 : Hid (∃ q1 q2, R.qv = .slice q1 R.qs.length q2) := hide (by obtain ⟨q1, q2, hq⟩ := row_slice HH.out.row; exact ⟨q1, q2, hq⟩)
  obtain ⟨L5, hL5⟩ : ∃ L5, (R.qs ++ [(rCu n k, (Value.slice none 0 0))]).length = L5 := ⟨_, rfl⟩
  have HL5 := hide hL5
  clear hL5
  refine wp_region_noPanic ?_
  refine wp_region_U (q := 10) (S := fun z : World => z.cell? ⟨r, 2, none⟩ = some R.qv ∧ z.rangeAt g3 0 (rwC 3 n (.slice none 0 0) k ByteArray.empty)) (by kernel_rfl) ?_
  have Z0 := hide ((Below.refl w6.heap.size w6).drew)
  have E0 := hide (D6.out.below Z0.out)
  have HIR : Hid ((Tryz.prog.info? 117).map (·.size) = some (rwC 3 n (.slice none 0 0) k ByteArray.empty).length) := hide (by rw [wRw.size]; rfl)
  have gb0 : Blk w6.drew g3 117 (rwC 3 n (.slice none 0 0) k ByteArray.empty) := E0.out.gb
  have hHeld : w6.drew.cell? ⟨r, 2, none⟩ = some R.qv ∧ w6.drew.rangeAt g3 0 (rwC 3 n (.slice none 0 0) k ByteArray.empty) := ⟨E0.out.c2, gb0.range 0 _ (by simp)⟩
  clear gb0
  refine takeU 10 0 168 (.pointer (some ⟨r, 0, none⟩)) hHeld rfl rfl (by kernel_rfl) (by kernel_rfl) (by kernel_rfl) (by kernel_rfl) (by kernel_rfl) (by kernel_rfl) (fun _ _ _ h => h) (Or.inl ⟨by rfl, fun w _ => by go_simp⟩) ?_
  simp only [Act.put, List.setIfInBounds_toArray, List.set_cons_zero, List.set_cons_succ]
  refine takeU 10 1 169 (.pointer (some ⟨r, 0, none⟩)) hHeld rfl rfl (by kernel_rfl) (by kernel_rfl) (by kernel_rfl) (by kernel_rfl) (by kernel_rfl) (by kernel_rfl) (fun _ _ _ h => h) (Or.inl ⟨by rfl, fun w _ => by go_simp⟩) ?_
  simp only [Act.put, List.setIfInBounds_toArray, List.set_cons_zero, List.set_cons_succ]
  refine takeU 10 2 170 (.pointer (some ⟨r, 0, none⟩)) hHeld rfl rfl (by kernel_rfl) (by kernel_rfl) (by kernel_rfl) (by kernel_rfl) (by kernel_rfl) (by kernel_rfl) (fun _ _ _ h => h) (Or.inl ⟨by rfl, fun w _ => by go_simp⟩) ?_
  simp only [Act.put, List.setIfInBounds_toArray, List.set_cons_zero, List.set_cons_succ]
  refine takeU 10 3 171 (.pointer (some ⟨r, 2, none⟩)) hHeld rfl rfl (by kernel_rfl) (by kernel_rfl) (by kernel_rfl) (by kernel_rfl) (by kernel_rfl) (by kernel_rfl) (fun _ _ _ h => h) (Or.inl ⟨by rfl, fun w _ => by go_simp⟩) ?_
  simp only [Act.put, List.setIfInBounds_toArray, List.set_cons_zero, List.set_cons_succ]
  refine takeU 10 4 172 (R.qv) hHeld rfl rfl (by kernel_rfl) (by kernel_rfl) (by kernel_rfl) (by kernel_rfl) (by kernel_rfl) (by kernel_rfl) (fun _ _ _ h => h) (Or.inl ⟨by rfl, fun w hw => by have hw' : w.cell? ⟨r, 2, none⟩ = some (R.qv) := (fun h => h.1) hw; go_simp⟩) ?_
  simp only [Act.put, List.setIfInBounds_toArray, List.set_cons_zero, List.set_cons_succ]
  refine takeU 10 5 173 (.agg (rwC 3 n (.slice none 0 0) k ByteArray.empty).toArray) hHeld rfl rfl (by kernel_rfl) (by kernel_rfl) (by kernel_rfl) (by kernel_rfl) (by kernel_rfl) (by kernel_rfl) (fun _ _ _ h => h) (yieldsIf_load_mid (by rfl) _ _ rfl g3 0 rfl _ _ (fun w h => h.2) Tryz.underlying117 rfl HIR.out) ?_
  simp only [Act.put, List.setIfInBounds_toArray, List.set_cons_zero, List.set_cons_succ]
  refine wpAnyU_ready (rs := [6]) (by kernel_rfl) (by simp) (AllReadyU.cons rfl (fun K hK => ?_) AllReadyU.nil)
  rw [if_pos (by rfl)]
  refine wp_oneR (r := rCu n k) (v := (Value.slice none 0 0)) ⟨_, _, _, rfl⟩ rfl ?_
  intro w4 u4 hu4 hb4
  have E4 := hide (E0.out.below hb4)
  have HU4 := hide hu4
  have gb0 : Blk w4 g3 117 (rwC 3 n (.slice none 0 0) k ByteArray.empty) := E4.out.gb
  have hH4 : w4.cell? ⟨r, 2, none⟩ = some R.qv ∧ w4.rangeAt g3 0 (rwC 3 n (.slice none 0 0) k ByteArray.empty) := ⟨E4.out.c2, gb0.range 0 _ (by simp)⟩
  clear gb0
  refine hK.out _ _ (fun _ => hH4) ?_
  have hHeld := hH4
  clear hK K
  clear hu4 hb4 hH4
  simp only [Act.put]
  refine wpAnyU_ready (rs := [7]) (by kernel_rfl) (by simp) (AllReadyU.cons rfl (fun K hK => ?_) AllReadyU.nil)
  rw [if_pos (by rfl)]
  refine wp_appV rRw rfl rfl E4.out.row HU4.out (rwsC_one _ (fun x hx => by simp at hx; subst hx; exact ⟨_, _, _, rfl⟩)) (by have := HRL.out; omega) (Nat.zero_le _) ?_
  intro qv5 w5 hrow5 hgr5 hat5
  have hne5 : ∀ k, R.qv.ownBlock = some k → k ≠ r := fun k hk e => by
    obtain ⟨cs, hc⟩ := row_lies E4.out.row hk
    exact hc.apart E4.out.fk.blk (by decide) e
  have hnf5 : ∀ k, R.fv.ownBlock = some k → R.qv.ownBlock ≠ some k := fun k hk e => by
    obtain ⟨cs, hc⟩ := row_lies E4.out.row e
    obtain ⟨cs', hc'⟩ := row_lies E4.out.fk.row hk
    exact hc.apart hc' (by decide) rfl
  have DK5 : Hid (Blk w5 r 110 (rkC s R.fv R.qv)) := hide (E4.out.fk.blk.same (hgr5.block r E4.out.fk.blk.lt (fun e => hne5 r e.symm rfl)))
  have G5 : Hid (Blk w5 g3 117 (rwC 3 n (.slice none 0 0) k ByteArray.empty)) := hide (Blk.same E4.out.gb (hgr5.block g3 E4.out.gb.lt (fun e => E4.out.off e.symm)))
  have F5 : Hid (w5.ownsRow 0 131 2 R.fv (A ++ (n, YS) :: B).length (filC ((A ++ (n, YS) :: B)))) := hide (row_same E4.out.fk.row (fun k hk => by
    obtain ⟨cs, hc⟩ := row_lies E4.out.fk.row hk
    exact hgr5.block k hc.lt (fun e => hnf5 k hk e.symm)))
  have CH5 : Hid (Chs (R.own r) w w5) := hide (E4.out.chs.thenGrown hgr5 (fun k hk => .inl (.inr (.inr hk))))
  have LQ5 : Hid (∀ k, qv5.ownBlock = some k → R.own r k ∨ w.heap.size ≤ k) := hide (fun k hk => by
    rcases hat5 with e | e
    · exact .inl (.inr (.inr (by rw [e] at hk; exact hk)))
    · rw [e] at hk
      injection hk with hk
      have := E4.out.chs.size
      right
      omega)
  have ROW5 : Hid (w5.ownsRow 0 117 5 qv5 L5 (rwsC (R.qs ++ [(rCu n k, (Value.slice none 0 0))]))) := hide (by rw [rwsC_app, ← HL5.out, List.length_append]; exact hrow5)
  obtain ⟨qa5, qc5, hqe5⟩ := row_slice ROW5.out
  subst hqe5
  have k1 : w5.cell? ⟨r, 2, none⟩ = some R.qv := by rw [DK5.out.cell]; rfl
  have k2 : w5.frozen? ⟨r, 2, none⟩ = false := DK5.out.free 2
  have hH5 : w5.cell? ⟨r, 2, none⟩ = some R.qv ∧ w5.rangeAt g3 0 (rwC 3 n (.slice none 0 0) k ByteArray.empty) := ⟨k1, G5.out.range 0 _ (by simp)⟩
  refine hK.out _ _ (fun _ => hH5) ?_
  have hHeld := hH5
  clear hK K
  clear hrow5 hgr5 hat5 hne5 hnf5
  simp only [Act.put]
  refine wpAnyU_ready (rs := [8]) (by kernel_rfl) (by simp) (AllReadyU.cons rfl (fun K hK => ?_) AllReadyU.nil)
  rw [if_pos (by rfl)]
  go_simp
  refine hK.out _ _ (fun _ => hH5) ?_
  have hHeld := hH5
  clear hK K
  clear hH5
  refine takeU 10 9 177 (.pointer (some ⟨r, 2, none⟩)) hHeld rfl rfl (by kernel_rfl) (by kernel_rfl) (by kernel_rfl) (by kernel_rfl) (by kernel_rfl) (by kernel_rfl) (fun _ _ _ h => h) (Or.inl ⟨by rfl, fun w _ => by go_simp⟩) ?_
  simp only [Act.put, List.setIfInBounds_toArray, List.set_cons_zero, List.set_cons_succ]
  refine wpAnyU_ready (rs := [10]) (by kernel_rfl) (by simp) (AllReadyU.cons rfl (fun K hK => ?_) AllReadyU.nil)
  rw [if_pos (by rfl)]
  go_simp
  refine hK.out _ _ (fun h => absurd h (by decide)) ?_
  clear hK K
  refine wpAnyU_done (by kernel_rfl) ?_ _
  refine NoPanic.normal ?_
  have B6 := But.setCell w5 r 2 (.slice qa5 L5 qc5)
  have FK6 : FkAt (w5.setCell ⟨r, 2, none⟩ (.slice qa5 L5 qc5)) r s R.fv (.slice qa5 L5 qc5) ((A ++ (n, YS) :: B)) := ⟨DK5.out.set 2 _, row_same F5.out (fun k hk => B6.block k (fun e => by
    obtain ⟨cs, hc⟩ := row_lies F5.out hk
    exact hc.apart DK5.out (by decide) e))⟩
  have hres : RoR w (w5.setCell ⟨r, 2, none⟩ (.slice qa5 L5 qc5)) r s R (rs ++ [rCu n k]) (Value.slice none 0 0) := DsR.done HH.out HLR.out HV.out (by exact HFL.out) HLN.out FK6 (by rw [HL5.out]; exact row_same ROW5.out (fun k hk => B6.block k (fun e => by
    obtain ⟨cs, hc⟩ := row_lies ROW5.out hk
    exact hc.apart DK5.out (by decide) e))) (CH5.out.thenBut B6 (.inl (.inl rfl))) D6.out.lie LQ5.out rfl
  revert hres
  generalize w5.setCell ⟨r, 2, none⟩ (.slice qa5 L5 qc5) = w6
  intro hres
  have HRES := hide hres
  clear hres
  go_wp2
  go_end0
  exact ⟨rfl, HRES.out⟩
end

end Go.Proofs.YtpocadbhajacaaaGreatDoor

/-
  The document's whole leaves of a file's bytes.
-/
namespace Go.Proofs.YtpocadbhajacaaaGreatDoor
open Go.RowKit Go.Shelf
set_option linter.unusedVariables false
set_option linter.unusedSimpArgs false
set_option maxRecDepth 100000

theorem sl_bytes (w : World) (xs : List Int) (hb : isB xs) (hl : xs.length ≤ 140737488355328) : Sl (Lib.bytesWorld w 5 (str xs)) (some ⟨w.heap.size, 0, none⟩) xs.length (grownCap w xs.length 0 5) xs := by
  refine ⟨rfl, grownCap_ge _ _ _ _, ?_, hl, hb, (fun e => by cases e), fun _ => ⟨_, 0, rfl, fun i hi => ?_⟩⟩
  · have := grownCap_le_maxLen w xs.length 0 5 (by unfold maxLen; omega)
    unfold maxLen at this
    omega
  · have hc := Lib.bytesWorld_cell w 5 (str xs) i (by rw [str_size]; exact hi)
    rw [Nat.zero_add, hc]
    have e1 : (str xs).data.toList = xs.map fun n => UInt8.ofNat n.toNat := strOfNums_data xs
    have h1 := hb (xs[i]) (List.getElem_mem hi)
    have e2 : ((str xs).data.toList.getD i 0).toNat = (xs.getD i 0).toNat := by
      rw [e1]
      simp only [List.getD, List.getElem?_map, List.getElem?_eq_getElem hi, Option.map_some, Option.getD_some, UInt8.toNat_ofNat']
      omega
    rw [e2]
    have e3 : xs.getD i 0 = xs[i] := by simp [List.getD, hi]
    rw [e3]
    congr 2
    omega
section
variable {dst : Option Tmp} {ty : TypeId} {pos : String} {aft : Array Edge} {gd : Option (Nat × Bool)} {ops : Array Oper} {rest : List Oper} {a : Act} {w : World} {Q : Exit → Act → World → Prop}
/-- []byte of a string. -/
theorem step_toB {x : Operand} {xs : List Int} (hb : isB xs) (hl : xs.length ≤ 140737488355328) (hw : Region.wanted ⟨dst, .convert 9 31 x, ty, pos, aft, gd⟩ (yielded ops a.tmps) = true) (hx : a.eval x = .string (str xs))
    (h : ∀ w1 g cap, Sl w1 (some ⟨g, 0, none⟩) xs.length cap xs → Below w.heap.size w w1 → wpList Tryz.prog ops Q rest (a.put dst (.slice (some ⟨g, 0, none⟩) xs.length cap)) w1) :
    wpList Tryz.prog ops Q (⟨dst, .convert 9 31 x, ty, pos, aft, gd⟩ :: rest) a w :=
  step_run hw (.slice (some ⟨w.heap.size, 0, none⟩) xs.length (grownCap w xs.length 0 5)) (Lib.bytesWorld w 5 (str xs)) (by
    have := Lib.run_convert_string_bytes (P := Tryz.prog) w 9 31 5 (str xs) undS undBs undB
    rw [str_size] at this
    simp [execOp, hx, this, Result.andThen]) (h _ _ _ (sl_bytes w xs hb hl) (Lib.bytesWorld_below _ _ _))
end
theorem row_apart {A C : World} {Z B : Nat} {e e' : TypeId} {q q' n n' : Nat} {v fv : Value} {xs ys : List Value} (h : A.ownsRow B e q v n xs) (ho : A.ownsRow Z e' q' fv n' ys) (hne : e ≠ e') (hg : A.grownBy C fv.ownBlock) : C.ownsRow B e q v n xs := row_same h (fun k hk => by
  obtain ⟨cs, hc⟩ := row_lies h hk
  exact hg.block k hc.lt (fun e2 => by
    obtain ⟨cs', hc'⟩ := row_lies ho e2.symm
    exact (hc.apart hc' hne) rfl))
/-- Where the leaves end. -/
def endL (ls : List (List Int)) : List Int := (List.range ls.length).map fun k => ((offL ls (k + 1) : Nat) : Int)
theorem endL_len (ls : List (List Int)) : (endL ls).length = ls.length := by simp [endL]
theorem endL_take {ls : List (List Int)} {k : Nat} (hk : k < ls.length) : (endL ls).take (k + 1) = (endL ls).take k ++ [((offL ls (k + 1) : Nat) : Int)] := by
  rw [List.take_succ_eq_append_getElem (by rw [endL_len]; exact hk)]
  congr 1
  simp [endL]
theorem strL_take {ls : List (List Int)} {k : Nat} (hk : k < ls.length) : (ls.map str).take (k + 1) = (ls.map str).take k ++ [str (ls.getD k [])] := by
  rw [List.take_succ_eq_append_getElem (by rw [List.length_map]; exact hk)]
  congr 1
  simp [List.getD, hk]
/-- What is read where a leaf begins. -/
theorem rdV_leaf {bs x t : List Int} {p : Nat} (ht : bs.drop p = lfB x ++ t) (hx : x.length ≤ 65535) (hp : p + 2 + x.length ≤ bs.length) : rdV bs (p : Int) 2 = (x.length : Int) ∧ rdN bs.length (p : Int) 2 = ((p + 2 : Nat) : Int) ∧ rdE bs.length (p : Int) 2 = 0 := by
  refine ⟨?_, ?_, ?_⟩
  · unfold rdV
    rw [if_pos ⟨by omega, by omega⟩, Int.toNat_natCast, ht]
    have e : (lfB x ++ t).take 2 = [((x.length / 256 : Nat) : Int), ((x.length % 256 : Nat) : Int)] := rfl
    rw [e]
    simp [beVal]
    omega
  · unfold rdN
    rw [if_pos ⟨by omega, by omega⟩]
    omega
  · unfold rdE
    rw [if_neg (by omega), if_neg (by omega)]
theorem leaf_mid {bs x t : List Int} {p : Nat} (ht : bs.drop p = lfB x ++ t) : (bs.drop (p + 2)).take x.length = x := by
  rw [← List.drop_drop, ht]
  unfold lfB
  simp
set_option maxHeartbeats 4000000 in
theorem wholeR_any (bs : List Int) (m : Nat) (w : World) (hb : isB bs) (hl : bs.length ≤ 1099511000000) (hm : m ≤ 256) :
    Calls Tryz.prog 37 #[.string (str bs), .int .i64 (m : Int)] w fun e w' => ∃ o v, e = .returned (.tuple #[o, v]) ∧ OwnN w' w.heap.size o ((wl m bs).map str) ∧ OwnI w' w.heap.size v (endL (wl m bs)) ∧ Below w.heap.size w w' := by
  obtain ⟨ls, HLS⟩ : ∃ ls, Hid (wl m bs = ls) := ⟨_, hide rfl⟩
  have hlm : ls.length ≤ m := by rw [← HLS.out]; exact wl_le _ _
  have HBB := hide hb
  have HBL : Hid (bs.length ≤ 140737488355328) := hide (by omega)
  have HAT : Hid (∀ k, k < ls.length → ∃ t, bs.drop (offL ls k) = lfB (ls.getD k []) ++ t) := hide (fun k hk => by
    rw [← HLS.out] at hk ⊢
    exact wl_at HBB.out hk)
  have HNX : Hid (∀ k, k < ls.length → offL ls k + 2 + (ls.getD k []).length ≤ bs.length ∧ (ls.getD k []).length ≤ 65535) := hide (fun k hk => by
    rw [← HLS.out] at hk ⊢
    exact ⟨offL_next HBB.out hk, (wl_ok _ _ HBB.out _ (getD_mem hk)).1⟩)
  have HEN : Hid (ls.length < m → wl 1 (bs.drop (offL ls ls.length)) = []) := hide (fun hk => by
    rw [← HLS.out] at hk ⊢
    rw [offL_all _ _ (Nat.le_refl _)]
    exact wl_end HBB.out hk)
  have HOL : Hid (∀ k, offL ls k ≤ bs.length) := hide (fun k => by
    rw [← HLS.out]
    exact offL_le HBB.out k)
  rw [HLS.out]
  clear HLS hb
  have HRD : Hid (∀ (W : World) (g cap p : Nat), Sl W (some ⟨g, 0, none⟩) bs.length cap bs → Calls Tryz.prog 68 #[.slice (some ⟨g, 0, none⟩) bs.length cap, .int .i64 (p : Int), .int .i64 2] W fun e w' => e = .returned (.tuple #[.int .u64 (rdV bs (p : Int) 2), .int .i64 (rdN bs.length (p : Int) 2), .int .i64 (rdE bs.length (p : Int) 2)]) ∧ W = w') := hide (fun W g cap p hs => readF_any _ _ _ bs (p : Int) 2 W hs (by decide) (by decide))
  go_enter Tryz.func37, Tryz.ntmps37
  go_wp2_with fail
  have hsz : (str bs).size = bs.length := str_size bs
  go_loopw [6, 7, 8] (fun o v p wr => ∃ k : Nat, k ≤ ls.length ∧ p = .int .i64 ((offL ls k : Nat) : Int) ∧ Hid (OwnN wr w.heap.size o ((ls.map str).take k)) ∧ Hid (OwnI wr w.heap.size v ((endL ls).take k)) ∧ Hid (Below w.heap.size w wr)) (fun _ _ p _ => bs.length + 1 - (intOf p).toNat)
  case atStart => exact ⟨0, Nat.zero_le _, by rw [offL_zero]; rfl, hide (World.ownsRow_nil _ _ _ _), hide (World.ownsRow_nil _ _ _ _), hide (Below.refl _ _)⟩
  case round =>
    obtain ⟨k, hk, rfl, HO, HV, HB⟩ := hrel
    obtain ⟨oa, oc, ho⟩ := OwnN.slice HO.out
    obtain ⟨va, vc, hv⟩ := row_slice HV.out
    have hkl : ((ls.map str).take k).length = k := by rw [List.length_take, List.length_map]; omega
    have hkl2 : ((endL ls).take k).length = k := by rw [List.length_take, endL_len]; omega
    rw [hkl] at ho
    rw [hkl2] at hv
    subst ho hv
    have hk256 : k ≤ 256 := by omega
    have hat := HOL.out k
    by_cases hkm : k < m
    · have hkmi : (k : Int) < (m : Int) := by omega
      by_cases hkn : k < ls.length
      · obtain ⟨t, ht⟩ := HAT.out k hkn
        have hnx := HNX.out k hkn
        obtain ⟨e1, e2, e3⟩ := rdV_leaf ht hnx.2 hnx.1
        have hmid := leaf_mid ht
        have hof := offL_succ hkn
        have hs1 := strL_take hkn
        have hs2 := endL_take hkn
        have hex : (str bs).extract (offL ls k + 2) (offL ls k + 2 + (ls.getD k []).length) = str (ls.getD k []) := by rw [str_mid, Nat.add_sub_cancel_left, hmid]
        have HEX := hide hex
        have HRK := hide (fun (W : World) (g cap : Nat) (hs : Sl W (some ⟨g, 0, none⟩) bs.length cap bs) => HRD.out W g cap (offL ls k) hs)
        rw [e1, e2, e3] at HRK
        obtain ⟨on, HON⟩ : ∃ on, Hid (offL ls (k + 1) = on) := ⟨_, hide rfl⟩
        have HRL : Hid (((offL ls (k + 1) : Nat) : Int) = (on : Int)) := hide (by rw [HON.out])
        rw [HON.out] at hof hs2
        generalize hx : ls.getD k [] = x at *
        generalize hp : offL ls k = p at *
        generalize hxl : x.length = xl at *
        have HS1 := hide hs1
        have HS2 := hide hs2
        have hbx : p + 2 + xl ≤ bs.length := hnx.1
        have hx5 : xl ≤ 65535 := hnx.2
        have hsub : ¬ (bs.length : Int) - ((p : Int) + 2) < (xl : Int) := by omega
        have HOF := hide hof
        have HX2 := hide hx
        clear hs1 hs2 ht hmid hx hp hxl hnx e1 e2 e3 hex
        go_wp2_with (refine step_toB HBB.out HBL.out rfl rfl ?_)
        intro w1 g1 cap1 hs1 hb1
        have HB1 := hide (on_below HB.out hb1)
        have HO1 := hide (HO.out.below hb1)
        have HV1 : Hid (OwnI w1 w.heap.size (.slice va k vc) ((endL ls).take k)) := hide (OwnI.below HV.out hb1)
        have HS := hide hs1
        clear hs1 hb1
        go_wp2_with (first | (go_at_call 68; refine (HRK.out _ _ _ HS.out).mono ?_; rintro e w' ⟨rfl, hw'⟩; subst w') | (refine steponeN (n := str x) rfl (congrArg Value.string HEX.out) ?_))
        intro w2 g2 hg2 hle2 hb2
        have HG2 := hide hg2
        have HB2 := hide (on_below HB1.out hb2)
        have HO2 := hide (HO1.out.below hb2)
        have HV2 : Hid (OwnI w2 w.heap.size (.slice va k vc) ((endL ls).take k)) := hide (OwnI.below HV1.out hb2)
        clear hg2 hle2 hb2 HB1 HO1 HV1
        go_wp2_with (refine stepappN rfl rfl rfl HO2.out HG2.out (by omega) HB2.out.size ?_)
        intro o3 w3 ho3 hgr3 _
        rw [← HS1.out] at ho3
        have HB3 := hide (HB2.out.grown hgr3 HB2.out.size (fun q e => row_ge HO2.out e))
        have HV3 : Hid (OwnI w3 w.heap.size (.slice va k vc) ((endL ls).take k)) := hide (row_apart HV2.out HO2.out (by decide) hgr3)
        have HO3 := hide ho3
        obtain ⟨oa3, oc3, ho3s⟩ := OwnN.slice ho3
        rw [show ((ls.map str).take (k + 1)).length = k + 1 by rw [List.length_take, List.length_map]; omega] at ho3s
        subst ho3s
        clear ho3 hgr3 HB2 HV2 HO2 HG2
        go_wp2_with (refine steponeI (n := (on : Int)) rfl (by rw [HOF.out]; rfl) ?_)
        intro w4 g4 hg4 hle4 hb4
        have HG4 := hide hg4
        have HB4 := hide (on_below HB3.out hb4)
        have HO4 := hide (OwnN.below HO3.out hb4)
        have HV4 : Hid (OwnI w4 w.heap.size (.slice va k vc) ((endL ls).take k)) := hide (OwnI.below HV3.out hb4)
        clear hg4 hle4 hb4 HB3 HO3 HV3
        go_wp2_with (refine stepappI rfl rfl rfl HV4.out HG4.out (by omega) HB4.out.size ?_)
        intro v5 w5 hv5 hgr5 _
        rw [← HS2.out] at hv5
        have HB5 := hide (HB4.out.grown hgr5 HB4.out.size (fun q e => row_ge HV4.out e))
        have HO5 : Hid (OwnN w5 w.heap.size (.slice oa3 (k + 1) oc3) ((ls.map str).take (k + 1))) := hide (row_apart HO4.out HV4.out (by decide) hgr5)
        have HV5 := hide hv5
        have hmea := HOF.out
        clear hv5 hgr5 HB4 HV4 HO4 HG4
        go_wp2
        go_roundw
        case rel => exact ⟨k + 1, by omega, by rw [HRL.out, HOF.out]; rfl, HO5, HV5, HB5⟩
        case measure => simp only [intOf]; omega
      · have hke : k = ls.length := by omega
        have hen := HEN.out (by omega)
        rw [← hke] at hen
        have hO := HO.out
        have hV := HV.out
        rw [List.take_of_length_le (by rw [List.length_map]; omega)] at hO
        rw [List.take_of_length_le (by rw [endL_len]; omega)] at hV
        have HO0 := hide hO
        have HV0 := hide hV
        have HRK := hide (fun (W : World) (g cap : Nat) (hs : Sl W (some ⟨g, 0, none⟩) bs.length cap bs) => HRD.out W g cap (offL ls k) hs)
        clear hO hV HO HV hke
        by_cases h2 : bs.length < offL ls k + 2
        · have e1 : rdV bs ((offL ls k : Nat) : Int) 2 = 0 := by unfold rdV; rw [if_neg (by omega)]
          have e2 : rdN bs.length ((offL ls k : Nat) : Int) 2 = 0 := by unfold rdN; rw [if_neg (by omega)]
          have e3 : rdE bs.length ((offL ls k : Nat) : Int) 2 = 10 := by unfold rdE; rw [if_neg (by omega), if_pos (by omega)]
          rw [e1, e2, e3] at HRK
          clear e1 e2 e3 hen h2
          generalize offL ls k = p at *
          go_wp2_with (refine step_toB HBB.out HBL.out rfl rfl ?_)
          intro w1 g1 cap1 hs1 hb1
          have HB1 := hide (on_below HB.out hb1)
          have HO1 := hide (HO0.out.below hb1)
          have HV1 := hide (OwnI.below HV0.out hb1)
          have HS := hide hs1
          clear hs1 hb1
          go_wp2_with (first | (go_at_call 68; refine (HRK.out _ _ _ HS.out).mono ?_; rintro e w' ⟨rfl, hw'⟩; subst w'))
          go_ret2
          exact ⟨_, _, rfl, HO1.out, HV1.out, HB1.out⟩
        · obtain ⟨x, c, t, ht⟩ : ∃ x c t, bs.drop (offL ls k) = x :: c :: t := by
            have hdl : (bs.drop (offL ls k)).length = bs.length - offL ls k := List.length_drop
            match hm : bs.drop (offL ls k) with
            | [] => rw [hm] at hdl; simp at hdl; omega
            | [_] => rw [hm] at hdl; simp at hdl; omega
            | x :: c :: t => exact ⟨x, c, t, rfl⟩
          rw [ht] at hen
          have hlo := wl1_cons hen
          have hbt : bs.length = offL ls k + 2 + t.length := by
            have := congrArg List.length ht
            rw [List.length_drop] at this
            simp at this
            omega
          have hxb : isB (x :: c :: t) := by rw [← ht]; exact HBB.out.dropS _
          have hx0 := hxb x (by simp)
          have hc0 := hxb c (by simp)
          obtain ⟨vv, hvv⟩ : ∃ vv : Nat, (x * 256 + c) = (vv : Int) := ⟨(x * 256 + c).toNat, by omega⟩
          have e1 : rdV bs ((offL ls k : Nat) : Int) 2 = (vv : Int) := by
            unfold rdV
            rw [if_pos ⟨by omega, by omega⟩, Int.toNat_natCast, ht, ← hvv]
            simp [beVal]
          have e2 : rdN bs.length ((offL ls k : Nat) : Int) 2 = ((offL ls k + 2 : Nat) : Int) := by unfold rdN; rw [if_pos ⟨by omega, by omega⟩]; omega
          have e3 : rdE bs.length ((offL ls k : Nat) : Int) 2 = 0 := by unfold rdE; rw [if_neg (by omega), if_neg (by omega)]
          rw [e1, e2, e3] at HRK
          rw [hvv] at hlo
          have hvb : vv ≤ 70000 := by omega
          have hsub : (bs.length : Int) - ((offL ls k : Int) + 2) < (vv : Int) := by omega
          have hp2 : offL ls k + 2 ≤ bs.length := by omega
          clear e1 e2 e3 hen h2 ht hbt hxb hx0 hc0 hvv hlo
          generalize offL ls k = p at *
          go_wp2_with (refine step_toB HBB.out HBL.out rfl rfl ?_)
          intro w1 g1 cap1 hs1 hb1
          have HB1 := hide (on_below HB.out hb1)
          have HO1 := hide (HO0.out.below hb1)
          have HV1 := hide (OwnI.below HV0.out hb1)
          have HS := hide hs1
          clear hs1 hb1
          go_wp2_with (first | (go_at_call 68; refine (HRK.out _ _ _ HS.out).mono ?_; rintro e w' ⟨rfl, hw'⟩; subst w'))
          go_ret2
          exact ⟨_, _, rfl, HO1.out, HV1.out, HB1.out⟩
    · have hkmi : ¬ (k : Int) < (m : Int) := by omega
      have hO := HO.out
      have hV := HV.out
      rw [List.take_of_length_le (by rw [List.length_map]; omega)] at hO
      rw [List.take_of_length_le (by rw [endL_len]; omega)] at hV
      have HO0 := hide hO
      have HV0 := hide hV
      clear hO hV
      go_wp2
      go_ret2
      exact ⟨_, _, rfl, HO0.out, HV0.out, HB.out⟩

end Go.Proofs.YtpocadbhajacaaaGreatDoor

/-
  The names of the files of leaves: the document's file and Name.
-/
namespace Go.Proofs.YtpocadbhajacaaaGreatDoor
open Go.RowKit
set_option linter.unusedVariables false
set_option linter.unusedSimpArgs false
set_option maxRecDepth 100000

theorem rep_consB (k : Nat) (l : List UInt8) : (⟨#[48]⟩ : ByteArray) ++ bA (List.replicate k 48 ++ l) = bA (List.replicate (k + 1) 48 ++ l) := by
  have := bA_app [48] (List.replicate k 48 ++ l)
  rw [List.replicate_succ, List.cons_append]
  exact this
theorem height_is (h : Int) (w : World) : Calls Tryz.prog 29 #[.int .i64 h] w fun r w' => r = .returned (.bool (decide (1 ≤ h) && decide (h ≤ 8))) ∧ w' = w := by
  by_cases h1 : 1 ≤ h
  · by_cases h8 : h ≤ 8
    · go_enter Tryz.func29, Tryz.ntmps29
      go_wp2
      go_ret
      exact ⟨by simp [h1, h8], rfl⟩
    · go_enter Tryz.func29, Tryz.ntmps29
      go_wp2
      go_ret
      exact ⟨by simp [h1, h8], rfl⟩
  · go_enter Tryz.func29, Tryz.ntmps29
    go_wp2
    go_ret
    exact ⟨by simp [h1]; omega, rfl⟩
set_option maxHeartbeats 1000000 in
theorem fileR_any (h k : Nat) (w : World) (hh : hB h) (hk : k ≤ 2147483647) : Calls Tryz.prog 47 #[.int .i64 (h : Int), .int .i64 (k : Int)] w fun r w' => r = .returned (.string (lfN h k)) ∧ w' = w := by
  have HD := hide (digits_any k k w (Nat.le_refl _) (by omega))
  have HE := hide (fun (V : World) => digits_any h h V (Nat.le_refl _) (by have := hh.2; omega))
  have h10 := dec_len10 hk
  obtain ⟨l, HL⟩ : ∃ l, Hid (Lib.decDigits k = l) := ⟨_, hide rfl⟩
  rw [HL.out] at HD h10
  obtain ⟨A, HA⟩ : ∃ A, Hid (bA (Lib.decDigits h) = A) := ⟨_, hide rfl⟩
  have hA : A.size = 1 := by rw [← HA.out, bA_size, dec_h hh]; rfl
  rw [HA.out] at HE
  obtain ⟨Y, HY⟩ : ∃ Y, Hid ((⟨#[108, 101, 97, 102, 47]⟩ : ByteArray) ++ A = Y) := ⟨_, hide rfl⟩
  have hP : (⟨#[108, 101, 97, 102, 47]⟩ : ByteArray).size = 5 := rfl
  have hQ : (⟨#[47]⟩ : ByteArray).size = 1 := rfl
  have hY : Y.size = 6 := by rw [← HY.out, app_size, hP, hA]
  obtain ⟨X, HX⟩ : ∃ X, Hid (Y ++ (⟨#[47]⟩ : ByteArray) = X) := ⟨_, hide rfl⟩
  have HXD : Hid (X = bA (lfD h)) := hide (by rw [← HX.out, ← HY.out, ← HA.out, bA_lfP, bA_sl]; rfl)
  have hX : X.size = 7 := by rw [← HX.out, app_size, hY, hQ]
  have HJ : Hid (lfN h k = bA (lfD h ++ (List.replicate (6 - l.length) 48 ++ l))) := hide (by rw [lfN_D]; unfold jD; rw [HL.out])
  rw [HJ.out]
  clear hk HL HJ
  go_enter Tryz.func47, Tryz.ntmps47
  go_wp2_with fail
  refine HD.out.mono ?_
  rintro e w1 ⟨rfl, rfl⟩
  clear HD
  go_wp2_with fail
  go_loopw [5] (fun s W => W = w1 ∧ ∃ k : Nat, k ≤ 6 - l.length ∧ ∃ S : ByteArray, s = .string S ∧ Hid (S = bA (List.replicate k 48 ++ l)) ∧ S.size = k + l.length) (fun s _ => match s with | .string S => 6 - S.size | _ => 0)
  case atStart => exact ⟨rfl, 0, Nat.zero_le _, _, rfl, hide (by simp), by rw [bA_size]; omega⟩
  case round =>
    obtain ⟨rfl, k, hk, S, rfl, HS, hS⟩ := hrel
    by_cases hlt : S.size < 6
    · have hlt' : (S.size : Int) < 6 := by omega
      have s1 : ¬ 9223372036854775807 < (⟨#[48]⟩ : ByteArray).size + S.size := by
        have : (⟨#[48]⟩ : ByteArray).size = 1 := rfl
        omega
      obtain ⟨T, HT⟩ : ∃ T, Hid ((⟨#[48]⟩ : ByteArray) ++ S = T) := ⟨_, hide rfl⟩
      have hT : T.size = k + 1 + l.length := by
        rw [← HT.out, app_size]
        have : (⟨#[48]⟩ : ByteArray).size = 1 := rfl
        omega
      have HB : Hid (T = bA (List.replicate (k + 1) 48 ++ l)) := hide (by rw [← HT.out, HS.out, rep_consB])
      have hadd := HT.out
      go_wp2
      go_roundw
      case rel => exact ⟨trivial, k + 1, by omega, T, rfl, HB, hT⟩
      case measure => simp only; omega
    · have hlt' : ¬ (S.size : Int) < 6 := by omega
      have hkk : k = 6 - l.length := by omega
      have s1 : ¬ 9223372036854775807 < (⟨#[108, 101, 97, 102, 47]⟩ : ByteArray).size + A.size := by rw [hP, hA]; omega
      have s2 : ¬ 9223372036854775807 < Y.size + (⟨#[47]⟩ : ByteArray).size := by rw [hY, hQ]; omega
      have s3 : ¬ 9223372036854775807 < X.size + S.size := by rw [hX]; omega
      have HF : Hid (X ++ S = bA (lfD h ++ (List.replicate (6 - l.length) 48 ++ l))) := hide (by rw [HXD.out, HS.out, bA_app, hkk])
      have hadd1 := HY.out
      have hadd2 := HX.out
      clear HS hkk hS hX hY hA hP hQ
      go_wp2_with fail
      refine (HE.out _).mono ?_
      rintro e w2 ⟨rfl, rfl⟩
      go_wp2
      go_ret
      exact ⟨by rw [HF.out]; rfl, rfl⟩
set_option maxHeartbeats 1000000 in
theorem bnameR_any (h i : Int) (w : World) : Calls Tryz.prog 35 #[.int .i64 h, .int .i64 i] w fun r w' => r = .returned (.tuple #[.string (bnP h i), .int .i64 (bnE h i)]) ∧ w' = w := by
  have HH := hide (fun (V : World) => height_is h V)
  by_cases hk : nmO' h i = true
  · obtain ⟨H, I, rfl, rfl, hh, hI⟩ := nmO'_nats hk
    rw [bnP_nat hh hI, bnE_nat hh hI]
    have h1 := hh.1
    have h8 := hh.2
    have hp := hh.pow
    have hb : (decide ((1 : Int) ≤ (H : Int)) && decide ((H : Int) ≤ 8)) = true := by simp; omega
    rw [hb] at HH
    have hf3 : ¬ (I : Int) < 0 := by omega
    have hf4 : ¬ (1048576 : Int) ≤ (I : Int) := by omega
    have hdv : I / 2 ^ H ≤ I := Nat.div_le_self _ _
    have HN := hide (fileR_any H (I / 2 ^ H) w hh (by omega))
    obtain ⟨q, HQ⟩ : ∃ q, Hid (I / 2 ^ H = q) := ⟨_, hide rfl⟩
    have hq : ((I : Int) / 2 ^ H) = (q : Int) := by rw [shrN, HQ.out]
    rw [HQ.out] at HN ⊢
    generalize lfN H q = nm at *
    have hH1 : (1 : Int) ≤ (H : Int) := by omega
    have hH2 : (H : Int) ≤ 8 := by omega
    clear hh hI hp hdv hk HQ hb h1 h8
    go_enter Tryz.func35, Tryz.ntmps35
    go_wp2_with fail
    refine (HH.out _).mono ?_
    rintro r w' ⟨rfl, hw'⟩
    subst w'
    have hsh : (I : Int) / 2 ^ min (IntKind.u64.wrap (H : Int)).toNat 64 = (q : Int) := by
      rw [← hq, IntKind.wrap_u64, Int.emod_eq_of_lt (by omega) (by omega), Int.toNat_natCast, Nat.min_eq_left (by omega)]
    have hd3 : decide ((I : Int) < 0) = false := decide_eq_false (by omega)
    have hd4 : decide ((1048576 : Int) ≤ (I : Int)) = false := decide_eq_false (by omega)
    clear hq hH1 hH2 hf3 hf4
    go_wp2_with fail
    refine HN.out.mono ?_
    rintro e w1 ⟨rfl, rfl⟩
    go_wp2
    go_ret2
    exact ⟨rfl, rfl⟩
  · have e1 : bnP h i = bA [] := by unfold bnP; rw [if_neg hk]
    have e2 : bnE h i = 2 := by unfold bnE; rw [if_neg hk]
    rw [e1, e2]
    have hk2 := fun a => hk (nmO'_is.2 a)
    clear e1 e2 hk
    by_cases hb : (decide (1 ≤ h) && decide (h ≤ 8)) = true
    · have hb2 : 1 ≤ h ∧ h ≤ 8 := by simpa using hb
      rw [hb] at HH
      by_cases h0 : i < 0
      · clear hk2 hb hb2
        go_enter Tryz.func35, Tryz.ntmps35
        go_wp2_with (go_at_call 29; refine (HH.out _).mono ?_; rintro r w' ⟨rfl, hw'⟩; subst w')
        go_ret2
        exact ⟨rfl, rfl⟩
      · have hm : 1048576 ≤ i := by
          rcases Int.lt_or_le i 1048576 with hlt | hge
          · exact absurd ⟨hb2.1, hb2.2, by omega, hlt⟩ hk2
          · exact hge
        clear hk2 hb hb2
        go_enter Tryz.func35, Tryz.ntmps35
        go_wp2_with (go_at_call 29; refine (HH.out _).mono ?_; rintro r w' ⟨rfl, hw'⟩; subst w')
        go_ret2
        exact ⟨rfl, rfl⟩
    · have hbf : (decide (1 ≤ h) && decide (h ≤ 8)) = false := by simpa using hb
      rw [hbf] at HH
      clear hk2 hb hbf
      go_enter Tryz.func35, Tryz.ntmps35
      go_wp2_with (go_at_call 29; refine (HH.out _).mono ?_; rintro r w' ⟨rfl, hw'⟩; subst w')
      go_ret2
      exact ⟨rfl, rfl⟩

end Go.Proofs.YtpocadbhajacaaaGreatDoor

/-
  A range over a function whose round begins with a variable of its own: what stands ahead of the body is handed to it.
-/
namespace Go.Proofs.YtpocadbhajacaaaGreatDoor
open Go.RowKit Go.Shelf
set_option linter.unusedVariables false

section
variable {F : Fence} {n : Nat} {P : Program}
theorem round_A {m : Nat} {fn : FuncId} {tmps : Array Value} {ps : Array Tmp} {assign body : Code} {D : Nat} (hfn : F.fn fn) {args : Array Value} (hps : args.size = ps.size) {W : World} (hB : Bk (lrec fn tmps ps assign body D .ready none) D W) {Post : Ending → World → Prop}
    (hrun : assign.wpIn (F.inRound (D + 1)) m P (Exit.then (fun a' V => Bk (lrec fn tmps ps assign body D .ready none) D V ∧ body.wpIn (F.inRound (D + 1)) m P (fun e _ W' => match e with
      | .normal => Bk (lrec fn tmps ps assign body D .busy none) D W' ∧ Post (.returned (.bool true)) (W'.putObj (D + 1) (.loop (lrec fn tmps ps assign body D .ready none)))
      | .ret => Bk (lrec fn tmps ps assign body D .busy none) D W' ∧ Post (.returned (.bool false)) (W'.putObj (D + 1) (.loop (lrec fn tmps ps assign body D .done (some .ret))))
      | .exit id => Bk (lrec fn tmps ps assign body D .busy none) D W' ∧ Post (.returned (.bool false)) (W'.putObj (D + 1) (.loop (lrec fn tmps ps assign body D .done (some (.exit id)))))
      | .goto u => Bk (lrec fn tmps ps assign body D .busy none) D W' ∧ Post (.returned (.bool false)) (W'.putObj (D + 1) (.loop (lrec fn tmps ps assign body D .done (some (.goto u)))))
      | _ => False) a' (V.putObj (D + 1) (.loop (lrec fn tmps ps assign body D .busy none)))) (fun _ _ _ => False)) { tmps := (ps.zip args).foldl (fun t (p, v) => t.setIfInBounds p v) tmps, defers := [] } W) :
    YieldAt F m P (D + 1) args W Post := by
  refine ⟨fn, _, assign, body, run_yield (P := P) (args := args) hB.loop hps, roundIn_of_wpIn hfn (wpIn_mono hrun ?_)⟩
  intro e0 a0 V hp0
  cases e0 with
  | normal =>
    obtain ⟨hBV, hbody⟩ := hp0
    refine ⟨_, run_beginRound hBV.loop rfl, wpIn_mono hbody ?_⟩
    intro e a3 W3 hp
    cases e with
    | normal => exact ⟨_, _, run_endRound none hp.1.loop, hp.2⟩
    | ret => exact ⟨_, _, run_endRound (some .ret) hp.1.loop, hp.2⟩
    | exit id => exact ⟨_, _, run_endRound (some (.exit id)) hp.1.loop, hp.2⟩
    | goto u => exact ⟨_, _, run_endRound (some (.goto u)) hp.1.loop, hp.2⟩
    | panic ch => exact hp.elim
    | outgrown => exact hp.elim
  | ret => exact hp0.elim
  | exit id => exact hp0.elim
  | goto u => exact hp0.elim
  | panic ch => exact hp0.elim
  | outgrown => exact hp0.elim
theorem rangeB {α : Type} {g : Operand} {ps : Array Tmp} {assign body : Code} {Q : Exit → Act → World → Prop} {a : Act} {w : World}
    (hro : F.round = none) (h1 : 1 ≤ n) {gf : Nat} {lb : Array Value} (hg : a.eval g = .func (.func gf) #[] lb) (hFg : F.fn gf) (eg : ∀ args w, (callFunc gf args).run P w = .ok (.enter gf args) w)
    {encs : α → Array Value} {R : List α → α → World → World → Prop} {Kp : α → World → World → Prop} {S Sp : List α → Prop} (hseq : SeqL F (n - 1) P gf lb encs R Kp S Sp w)
    (hKt : ∀ {x : α} {A B C : World}, Kp x A B → Kp x B C → Kp x A C) (hKb : ∀ (x : α) (W : World) (l : Nat) (o o' : Obj), w.heap.size ≤ l → W.heap[l]? = some o → o.isCells = false → Kp x W (W.putObj l o')) (hKw : ∀ (x : α) (A C : World), Below A.heap.size A C → Kp x A C) (hps : ∀ x, (encs x).size = ps.size)
    (hR : ∀ pre x W0, OwnFrom w.heap.size (fun (_ : Unit) W => R pre x W0 W))
    (I : List α → World → Prop) (Ix : Code → List α → World → Prop) (hI : OwnFrom w.heap.size I) (hIx : ∀ c, OwnFrom w.heap.size (Ix c)) (h0 : I [] w) (a₁ : α → Nat → Act) (Ab : α → Nat → World → Prop) (hAb : ∀ x g (V : World) (l : Nat) (r : Loop) (o' : Obj), V.heap[l]? = some (.loop r) → Ab x g V → Ab x g (V.putObj l o'))
    (hassign : ∀ (l : Nat) (x : α) (W : World) (K : Act → World → Prop), (∃ pre W0, R pre x W0 W) → (∀ (g : Nat) (V : World), Below W.heap.size W V → W.heap.size ≤ g → Ab x g V → K (a₁ x g) V) →
      assign.wpIn (F.inRound l) (n - 1 - 1) P (Exit.then K (fun _ _ _ => False)) { tmps := (ps.zip (encs x)).foldl (fun t (p, v) => t.setIfInBounds p v) a.tmps, defers := [] } W)
    (hbody : ∀ (l : Nat) (pre : List α) (x : α) (g : Nat) (W0 W : World), W0.heap.size ≤ g → Ab x g W → I pre W0 → (∀ (k : Nat) (o : Obj), W0.heap[k]? = some o → o.isCells = true → W.heap[k]? = some o) → W0.heap.size ≤ W.heap.size → I pre W → R pre x W0 W → body.wpIn (F.inRound l) (n - 1 - 1) P (ownPostG w.heap.size (Kp x) I Ix (pre ++ [x]) W) (a₁ x g) W)
    (hdone : ∀ (D : Nat) (xs : List α) (W : World), w.heap.size ≤ D → S xs → I xs W → W.heap[D]? = some (.deferred (some [])) → Q .normal { a with defers := { target := .collected D, args := #[] } :: a.defers } W)
    (hstop : ∀ (D : Nat) (c : Code) (pre : List α) (W : World), w.heap.size ≤ D → Sp pre → Ix c pre W → W.heap[D]? = some (.deferred (some [])) → c.wpIn F n P Q { a with defers := { target := .collected D, args := #[] } :: a.defers } W) :
    (Code.rangeFunc g ps assign body).wpIn F n P Q a w := by
  refine wpIn_rangeFunc fun fn hfn => ?_
  rw [hro]
  obtain ⟨W1, hW1⟩ : ∃ W1, (w.alloc (.deferred (some []))).alloc (.loop (lrec fn a.tmps ps assign body w.heap.size .ready none)) = W1 := ⟨_, rfl⟩
  have B1 : Bk (lrec fn a.tmps ps assign body w.heap.size .ready none) w.heap.size W1 := by rw [← hW1]; exact Bk.new w _
  have b1 : Below w.heap.size w W1 := by rw [← hW1]; exact ((Below.refl _ w).alloc (Nat.le_refl _) _).alloc (by simp) _
  have s1 : w.heap.size ≤ W1.heap.size := b1.size
  have far : ∀ {A : World} {row : Option Nat}, (∀ r, row = some r → W1.heap.size ≤ r ∧ ∃ o : Obj, A.heap[r]? = some o ∧ o.isCells = false) → ∀ r, row = some r → w.heap.size ≤ r ∧ ∃ o : Obj, A.heap[r]? = some o ∧ o.isCells = false :=
    fun hr r e => by obtain ⟨hb, o, ho, hw⟩ := hr r e; exact ⟨by omega, o, ho, hw⟩
  have z1 : W1.heap.size = w.heap.size + 2 := by rw [← hW1, World.size_alloc, World.size_alloc]
  refine ⟨w.heap.size + 1, [{ target := .collected w.heap.size, args := #[] }], W1, { target := .fn (.func gf) lb, args := #[.func (.yield (w.heap.size + 1)) #[] #[]] }, W1, gf,
    #[.func (.yield (w.heap.size + 1)) #[] #[]] ++ lb, W1, by rw [← hW1]; exact run_enterLoop_outer _ _ _ _ _, by simp only [resolve, hg]; simp [go_sem], fun f' hf' => by simp [Target.leads] at hf'; subst hf'; exact hFg, by simp [invoke, go_sem, eg], fun _ => h1, ?_⟩
  refine (hseq (w.heap.size + 1) (fun pre W => I pre W ∧ Bk (lrec fn a.tmps ps assign body w.heap.size .ready none) w.heap.size W) (fun pre W => ∃ c, Ix c pre W ∧ Bk (lrec fn a.tmps ps assign body w.heap.size .done (some c)) w.heap.size W) W1 b1
    (fun s A B row hs hg' hr => ⟨hI s A B row hs.1 hg' (far hr), hs.2.own hg' (fun q e => by have := (hr q e).1; omega)⟩)
    (fun s A B row hs hg' hr => by obtain ⟨c, hc, hb⟩ := hs; exact ⟨c, hIx c s A B row hc hg' (far hr), hb.own hg' (fun q e => by have := (hr q e).1; omega)⟩) ?_
    ⟨by rw [← hW1]; exact hI.alloc _ (hI.alloc _ h0), B1⟩).mono ?_
  · rintro pre x W0 W ⟨hi0, hB0⟩ hb0 ⟨hi, hB⟩ hr
    refine round_A hfn (hps x) hB (hassign _ x W _ ⟨pre, W0, hr⟩ (fun g V hbV hgW hab => ?_))
    have hgV : W.grownBy V none := ⟨hbV.os, hbV.tape, hbV.output, hbV.size, fun i hi _ => hbV.block i hi⟩
    have hBV := hB.own hgV (fun q e => by cases e)
    have hiV := hI _ W V none hi hgV (fun q e => by cases e)
    have hrV := hR pre x W0 () W V none hr hgV (fun q e => by cases e)
    have hsV : W.heap.size ≤ V.heap.size := hbV.size
    refine ⟨hBV, ?_⟩
    have hB2 := hBV.put (lrec fn a.tmps ps assign body w.heap.size .busy none)
    have hK2 : Kp x W (V.putObj (w.heap.size + 1) (.loop (lrec fn a.tmps ps assign body w.heap.size .busy none))) := hKt (hKw x W V hbV) (hKb x _ _ _ _ (by omega) hBV.loop rfl)
    refine wpIn_mono (hbody _ pre x g W0 _ (Nat.le_trans hb0.size hgW) (hAb x g V _ _ _ hBV.loop hab) hi0 (fun k o ho hc => ?_) (Nat.le_trans hb0.size (Nat.le_trans hsV (grownBy_putObj' V _ _).size)) (hI.putObj _ hiV (by omega) hBV.loop rfl) ((hR pre x W0).putObj (s := ()) _ hrV (by omega) hBV.loop rfl)) ?_
    · have hk0 : W.heap[k]? = some o := (hb0.block k (Array.getElem?_eq_some_iff.1 ho).1).trans ho
      have hk : V.heap[k]? = some o := (hbV.block k (Array.getElem?_eq_some_iff.1 hk0).1).trans hk0
      rw [World.putObj_heap_other (fun e => by
        subst e
        rw [hBV.loop] at hk
        injection hk with hk
        subst hk
        cases hc)]
      exact hk
    have hmk : ∀ {W3 : World} {r2 : Loop} {o' : Obj}, KeepsFrom w.heap.size (V.putObj (w.heap.size + 1) (.loop (lrec fn a.tmps ps assign body w.heap.size .busy none))) W3 → W3.heap[w.heap.size + 1]? = some (.loop r2) → MarksFrom w.heap.size W (W3.putObj (w.heap.size + 1) o') := fun h1 h2 k hB hq => marks_round hBV.loop h1 h2 k hB ((hbV.block k (Array.getElem?_eq_some_iff.1 hq).1).trans hq)
    intro e a3 W3 hp
    cases e with
    | normal =>
      have hB3 := hB2.keep hp.1
      exact ⟨hB3, .inl ⟨rfl, ⟨hI.putObj _ hp.2.2 (by omega) hB3.loop rfl, hB3.put _⟩, hKt hK2 (hKt hp.2.1 (hKb x _ _ _ _ (by omega) hB3.loop rfl)), hmk hp.1 hB3.loop⟩⟩
    | ret =>
      have hB3 := hB2.keep hp.1
      exact ⟨hB3, .inr ⟨rfl, ⟨.ret, (hIx _).putObj _ hp.2 (by omega) hB3.loop rfl, hB3.put _⟩, hmk hp.1 hB3.loop⟩⟩
    | exit id =>
      have hB3 := hB2.keep hp.1
      exact ⟨hB3, .inr ⟨rfl, ⟨.exit id, (hIx _).putObj _ hp.2 (by omega) hB3.loop rfl, hB3.put _⟩, hmk hp.1 hB3.loop⟩⟩
    | goto u =>
      have hB3 := hB2.keep hp.1
      exact ⟨hB3, .inr ⟨rfl, ⟨.goto u, (hIx _).putObj _ hp.2 (by omega) hB3.loop rfl, hB3.put _⟩, hmk hp.1 hB3.loop⟩⟩
    | panic ch => exact hp.elim
    | outgrown => exact hp.elim
  · rintro e W2 ⟨⟨v, rfl⟩, (⟨xs, hS, hi, hB⟩ | ⟨pre, hSp, c, hi, hB⟩)⟩
    · exact ⟨none, _, run_endLoop (P := P) hB.loop (by simp [lrec]), hdone _ xs _ (Nat.le_refl _) hS (hI.putObj _ hi (by omega) hB.loop rfl) ((World.putObj_heap_other (by omega)).trans hB.mark)⟩
    · exact ⟨some c, _, run_endLoop (P := P) hB.loop (by simp [lrec]), hstop _ c pre _ (Nat.le_refl _) hSp ((hIx c).putObj _ hi (by omega) hB.loop rfl) ((World.putObj_heap_other (by omega)).trans hB.mark)⟩
end

end Go.Proofs.YtpocadbhajacaaaGreatDoor

/-
  How many bytes the first leaves of a file have: sizeOf; a file made ready.
-/
namespace Go.Proofs.YtpocadbhajacaaaGreatDoor
open Go.RowKit Go.Shelf
set_option linter.unusedVariables false
set_option linter.unusedSimpArgs false
set_option maxRecDepth 100000

theorem YieldAt.imp {F : Fence} {m : Nat} {P : Program} {l : Nat} {args : Array Value} {W : World} {R R' : Ending → World → Prop} (h : YieldAt F m P l args W R) (hr : ∀ e w', R e w' → R' e w') : YieldAt F m P l args W R' := by
  obtain ⟨fn, tmps, assign, body, h1, h2⟩ := h
  exact ⟨fn, tmps, assign, body, h1, h2.mono hr⟩
theorem OwnFrom.abides {β : Type} {B : Nat} {J : β → World → Prop} (h : OwnFrom B J) : AbidesFrom B J := fun s W W' row hs hg hr => h s W W' row hs hg (fun r e => by obtain ⟨h1, o, h2, h3⟩ := hr r e; exact ⟨h1, o, h2, Obj.not_cells_of_walk h3⟩)
theorem SeqQ.toL {α : Type} {F : Fence} {n : Nat} {P : Program} {g : Nat} {lb : Array Value} {encs : α → Array Value} {R : List α → α → World → World → Prop} {Kp : α → World → World → Prop} {S Sp : List α → Prop} {w : World} (h : SeqQ F n P g lb encs R Kp S Sp w) : SeqL F n P g lb encs R Kp S Sp w := by
  intro l J Jx W hW hJ hJx hY h0
  exact h l J Jx W hW (OwnFrom.abides hJ) (OwnFrom.abides hJx) (fun pre x W0 W1 a b c d => YieldAt.imp (hY pre x W0 W1 a b c d) (fun e w' hp => by
    rcases hp with ⟨h1, h2, h3, _⟩ | ⟨h1, h2, _⟩
    · exact .inl ⟨h1, h2, h3⟩
    · exact .inr ⟨h1, h2⟩)) h0
theorem blk_loop {g : Nat} {t : TypeId} {cs : List Value} (V : World) (l : Nat) (r : Loop) (o' : Obj) (hl : V.heap[l]? = some (.loop r)) (hx : Blk V g t cs) : Blk (V.putObj l o') g t cs := by
  unfold Blk
  rw [World.putObj_heap_other (fun e => by
    rw [e] at hx
    unfold Blk at hx
    rw [hl] at hx
    cases hx)]
  exact hx
/-- What stands while leaves are passed. -/
structure ZS (w W : World) (b7 b9 k n : Nat) : Prop where
  c7 : Blk W b7 3 [.int .i64 (k : Int)]
  c9 : Blk W b9 3 [.int .i64 (n : Int)]
  ne : b7 ≠ b9
  n9 : w.heap.size ≤ b9
  bel : Below w.heap.size w W
theorem ZS.ck {w W W' : World} {b7 b9 k n : Nat} (h : ZS w W b7 b9 k n) (hk : CK W W') (hb : Below w.heap.size w W') : ZS w W' b7 b9 k n := ⟨h.c7.ck hk, h.c9.ck hk, h.ne, h.n9, hb⟩
theorem ZS.on {w W W' : World} {b7 b9 k n : Nat} (h : ZS w W b7 b9 k n) (hb : Below W.heap.size W W') : ZS w W' b7 b9 k n := ⟨h.c7.on hb, h.c9.on hb, h.ne, h.n9, on_below h.bel hb⟩
section
variable (d s : Nat) (rs : List Rw) (D : Dm) (w : World) (hd : DkAt w d s rs D)
include hd
set_option maxHeartbeats 4000000 in
theorem sizeOf_any (H : Nat) (nm : ByteArray) (k : Nat) (hh : hB H) (hk : k ≤ 281474976710656) (ht : PT w) (hwt : wt rs ≤ 1099511000000) :
    Calls Tryz.prog 43 #[.pointer (some ⟨d, 0, none⟩), .int .i64 (H : Int), .string nm, .int .i64 (k : Int)] w fun r w' => r = .returned (.int .i64 ((offL (wl (2 ^ H) (fl (play rs) nm)) k : Nat) : Int)) ∧ Below w.heap.size w w' := by
  have HSQ0 : Hid (∀ (V : World) (gd gh gn B : Nat), WAt V d s rs D gd gh gn H nm B → SeqL Fence.wide 3 Tryz.prog 77 #[.pointer (some ⟨gd, 0, none⟩), .pointer (some ⟨gn, 0, none⟩), .pointer (some ⟨gh, 0, none⟩)] encW (RW nm (wl (2 ^ H) (fl (play rs) nm))) (fun _ => KB B (FD d D)) (fun ys => ys = wls nm (wl (2 ^ H) (fl (play rs) nm)) (wl (2 ^ H) (fl (play rs) nm)).length) (fun ys => ∃ k, k ≤ (wl (2 ^ H) (fl (play rs) nm)).length ∧ ys = wls nm (wl (2 ^ H) (fl (play rs) nm)) k) V) := hide (fun V gd gh gn B hA => (whole_seq d s rs D gd gh gn H nm B V hA hh hwt).toL)
  have hbl : ∀ j, offL (wl (2 ^ H) (fl (play rs) nm)) j ≤ 1099511000000 := fun j => Nat.le_trans (offL_le (hd.byB nm) j) (Nat.le_trans (play_wt _ _) hwt)
  obtain ⟨ls, HLS⟩ : ∃ ls, Hid (wl (2 ^ H) (fl (play rs) nm) = ls) := ⟨_, hide rfl⟩
  have HOS : Hid (∀ j, j < ls.length → offL ls (j + 1) = offL ls j + 2 + (ls.getD j []).length) := hide (fun j hj => offL_succ hj)
  rw [HLS.out] at HSQ0 hbl ⊢
  have HBL := hide hbl
  have hln : ls.length ≤ 256 := by rw [← HLS.out]; exact Nat.le_trans (wl_le _ _) hh.pow.2
  have HD := hide hd
  have HT := hide ht
  clear hd ht hwt hbl HLS
  refine (callsIn_wide (n := 4)).1 ?_
  refine callsIn_of_wp_marks Tryz.func43 rfl trivial ?_ rfl
  refine wpIn_wide.2 ?_
  simp only [Tryz.ntmps43, List.size_toArray, List.length_cons, List.length_nil, Nat.reduceAdd, Nat.reduceSub, Array.replicate_succ, Array.replicate_zero, List.push_toArray, List.append_toArray, List.nil_append, List.cons_append]
  go_wp2_with fail
  have heq : ∃ W b7 b9, W = (w.alloc (.cells #[.int .i64 (k : Int)] 3)).alloc (.cells #[.int .i64 0] 3) ∧ b7 = w.heap.size ∧ b9 = w.heap.size + 1 ∧ ZS w W b7 b9 k 0 := by
    refine ⟨_, _, _, rfl, rfl, rfl, ?_⟩
    have b1 : Below w.heap.size w (w.alloc (.cells #[.int .i64 (k : Int)] 3)) := (Below.refl _ _).alloc (Nat.le_refl _) _
    have B1 : Blk (w.alloc (.cells #[.int .i64 (k : Int)] 3)) w.heap.size 3 [.int .i64 (k : Int)] := Blk.made _ _ _
    have z1 : (w.alloc (.cells #[.int .i64 (k : Int)] 3)).heap.size = w.heap.size + 1 := World.size_alloc _ _
    generalize w.alloc (.cells #[.int .i64 (k : Int)] 3) = W1 at *
    have b2 : Below W1.heap.size W1 (W1.alloc (.cells #[.int .i64 0] 3)) := (Below.refl _ _).alloc (Nat.le_refl _) _
    have B2 : Blk (W1.alloc (.cells #[.int .i64 0] 3)) W1.heap.size 3 [.int .i64 0] := Blk.made _ _ _
    rw [z1] at B2
    exact ⟨B1.on b2, B2, by omega, by omega, on_below b1 b2⟩
  obtain ⟨W0, b7, b9, hW0, hb7, hb9, hz0⟩ := heq
  rw [← hW0, ← hb9, ← hb7]
  have hlt7 : b7 < W0.heap.size := hz0.c7.lt
  have hlt9 : b9 < W0.heap.size := hz0.c9.lt
  have HFL : Hid (∀ q, FD d D q → q < w.heap.size) := hide (fun q hq => fd_lt HD.out HT.out hq)
  have hw9 : w.heap.size ≤ b9 := hz0.n9
  have D0 := hide (fun (V : World) (hV : Below w.heap.size w V) => HD.out.below hV)
  clear hW0 hb7 hb9
  refine (whole_mk _ _ _ _).mono ?_
  rintro r w3 ⟨gd, gh, gn, rfl, BD, BH, BN, hgd, hgh, hgn, hb3⟩
  have HZ3 := hide (hz0.on hb3)
  have HSQ := hide (HSQ0.out w3 gd gh gn W0.heap.size ⟨D0.out _ HZ3.out.bel, HT.out.below HZ3.out.bel, BD, BH, BN, hgd, hgh, hgn⟩)
  have hs3 : W0.heap.size ≤ w3.heap.size := hb3.size
  clear hb3 BD BH BN hgd hgh hgn hz0
  go_wp2_with fail
  refine (wpIn_wide (n := 4)).1 ?_
  refine rangeB rfl (by decide) (gf := 77) (lb := #[.pointer (some ⟨gd, 0, none⟩), .pointer (some ⟨gn, 0, none⟩), .pointer (some ⟨gh, 0, none⟩)]) rfl trivial (enters_of Tryz.func77 (by kernel_rfl) rfl)
    HSQ.out KB.trans (fun x V l o o' hl h hc => KB.book (B' := w3.heap.size) (fun q hq => by have := HFL.out q hq; have := HZ3.out.bel.size; omega) V l o o' hl h hc) (fun x A C h => KB.below h) (fun _ => rfl) (fun pre x V0 => rw_own _ _ _ pre x V0)
    (fun pre V => pre.length ≤ k ∧ ZS w V b7 b9 k (offL ls pre.length)) (fun c pre V => c = .exit 0 ∧ ZS w V b7 b9 k (offL ls k))
    (fun _ A C row h hg hr => ⟨h.1, h.2.ck (CK.of_grown hg (fun r e => (hr r e).2)) (h.2.bel.grown hg h.2.bel.size (fun r e => by have := (hr r e).1; have := HZ3.out.bel.size; omega))⟩)
    (fun c _ A C row h hg hr => ⟨h.1, h.2.ck (CK.of_grown hg (fun r e => (hr r e).2)) (h.2.bel.grown hg h.2.bel.size (fun r e => by have := (hr r e).1; have := HZ3.out.bel.size; omega))⟩) ⟨Nat.zero_le _, by rw [List.length_nil, offL_zero]; exact HZ3.out⟩ ?act (fun x g V => Blk V g 102 (plV x.2)) (fun x g V l r o' hl hx => blk_loop V l r o' hl hx) ?assign ?body ?done ?stop
  case assign =>
    rintro l x V K ⟨pre, V0, h1, h2, h3⟩ hK
    have hsem := Oper.semAt_some
    simp only [encW]
    clear h1 h2 h3
    gi_wp2_with (refine istep_alloc (.round l) zPl rfl ?_)
    intro V1 g9 hg9 hle9 hb9
    gi_wp2_with (refine istep_storeA (.round l) wPl rfl rfl rfl hg9 rfl (One.pl x.2) rfl ?_)
    intro V2 hg92 hbut9
    have hb92 : Below V.heap.size V V2 := hb9.trans (hbut9.below hle9)
    have hK2 := hK g9 V2 hb92 hle9 hg92
    clear hK
    gi_wp2
    exact hK2
  case stop =>
    rintro D0 c pre V hD hSp ⟨rfl, hz⟩ hK
    have d9 : V.cell? ⟨b9, 0, none⟩ = some (.int .i64 (offL ls k : Int)) := by rw [hz.c9.cell]; rfl
    have HDK := hide hK
    have HBL2 := hide hz.bel
    clear hK hz
    refine wpIn_wide.2 ?_
    go_wp2
    refine ⟨by simp, .inl ⟨_, _, rfl, run_takeDeferred HDK.out, ?_⟩⟩
    refine ⟨.int .i64 (offL ls k : Int), by simp [results, Tryz.f43, go_sem], ?_⟩
    exact ⟨rfl, HBL2.out.trans (belowK_b (w := w) (Nat.le_refl _) _ D0 _ (.deferred none) (by have := HZ3.out.bel.size; omega) HDK.out rfl rfl)⟩
  case done =>
    rintro Dk ys V hD hS ⟨hyk, hz⟩ hK2
    obtain rfl : ys = wls nm ls ls.length := hS
    rw [wls_len] at hyk hz
    have e1 : offL ls ls.length = offL ls k := by unfold offL; rw [List.take_of_length_le (Nat.le_refl _), List.take_of_length_le hyk]
    rw [e1] at hz
    have d9 : V.cell? ⟨b9, 0, none⟩ = some (.int .i64 (offL ls k : Int)) := by rw [hz.c9.cell]; rfl
    have HDK := hide hK2
    have HBL2 := hide hz.bel
    clear hK2 hz e1
    go_wp2
    refine ⟨by simp, .inl ⟨_, _, rfl, run_takeDeferred HDK.out, ?_⟩⟩
    refine ⟨.int .i64 (offL ls k : Int), by simp [results, Tryz.f43, go_sem], ?_⟩
    exact ⟨rfl, HBL2.out.trans (belowK_b (w := w) (Nat.le_refl _) _ Dk _ (.deferred none) (by have := HZ3.out.bel.size; omega) HDK.out rfl rfl)⟩
  case body =>
    rintro l pre ⟨xi, xp⟩ gx V0 V hgx hbx _ hck hsz ⟨hpk, hz⟩ ⟨h1, h2, h3⟩
    have hsem := Oper.semAt_some
    obtain ⟨j, HJ⟩ : ∃ j, Hid (pre.length = j) := ⟨_, hide rfl⟩
    rw [HJ.out] at h1 h3 hz hpk
    obtain ⟨e1, e2⟩ := Prod.mk.inj h3
    subst e1
    have hoff := HOS.out xi h1
    have hob := HBL.out (xi + 1)
    have HP1 : Hid ((pre ++ [(xi, xp)]).length = xi + 1) := hide (by rw [List.length_append, HJ.out]; rfl)
    have hbx2 : Blk V gx 102 (plV xp) := hbx
    rw [e2] at hbx2
    have HBX := hide hbx2
    have hxi : xi ≤ 256 := by omega
    obtain ⟨vv, HVV⟩ : ∃ vv, Hid ((ls.getD xi []).length = vv) := ⟨_, hide rfl⟩
    obtain ⟨oj, HOJ⟩ : ∃ oj, Hid (offL ls xi = oj) := ⟨_, hide rfl⟩
    have HOFF := hide hoff
    rw [HVV.out, HOJ.out] at hoff HOFF
    have HPK : Hid (plK nm ls xi = (nm, oj + 2, vv)) := hide (by unfold plK; rw [HVV.out, HOJ.out])
    rw [HPK.out] at HBX
    rw [HOJ.out] at hz
    have c7 : V.cell? ⟨b7, 0, none⟩ = some (.int .i64 (k : Int)) := by rw [hz.c7.cell]; rfl
    have HZV := hide hz
    clear hz hck hsz h2 h3 e2 hbx hbx2 hgx HPK
    by_cases hjk : xi = k
    · subst hjk
      gi_wp2
      refine ⟨KeepsFrom.refl _ _, rfl, ?_⟩
      rw [HOJ.out]
      exact HZV.out
    · have hjki : ¬ (xi : Int) = (k : Int) := by omega
      gi_wp2_with (refine istep_loadA (.round l) wPl rfl rfl HBX.out rfl ?_)
      refine ⟨trivial, (calls_round (WideF.round l) (end_any (nm, oj + 2, vv) _ (by simp only; omega))).mono ?_⟩
      rintro e V5 ⟨rfl, hb5⟩
      have HZ5 := hide (HZV.out.on hb5)
      have c9 : V5.cell? ⟨b9, 0, none⟩ = some (.int .i64 (oj : Int)) := by rw [HZ5.out.c9.cell]; rfl
      have f9 := HZ5.out.c9.free 0
      have HB5 := hide hb5
      clear hb5 c7
      gi_wp2
      have hbut := But.setCell V5 b9 0 (.int .i64 ((oj + 2 + vv : Nat) : Int))
      refine ⟨((keepsO_below HB5.out).trans (keepsO_but hbut HZ5.out.c9)).from _, (KB.below HB5.out).trans (KB.but hbut hlt9 (fun q hq => by have := HFL.out q hq; omega)), ?_⟩
      show (pre ++ [(xi, xp)]).length ≤ k ∧ ZS w _ b7 b9 k (offL ls (pre ++ [(xi, xp)]).length)
      rw [HP1.out, HOFF.out]
      exact ⟨by omega, HZ5.out.c7.but hbut HZ5.out.ne, HZ5.out.c9.set 0 _, HZ5.out.ne, HZ5.out.n9, HZ5.out.bel.trans (hbut.below HZ5.out.n9)⟩
/-- What ready answers. -/
def reEb (rs : List Rw) (H : Nat) (n : ByteArray) : Int := if wlE (2 ^ H) (fl (play rs) n) < (fl (play rs) n).length then 130 else 0
def reSb (rs : List Rw) (H : Nat) (n : ByteArray) : List Rw := if wlE (2 ^ H) (fl (play rs) n) < (fl (play rs) n).length then rs else crS rs n
set_option maxHeartbeats 1000000 in
theorem readyB_any (H : Nat) (n : ByteArray) (hh : hB H) (hn : nmB n = true) (ht : PT w) (hwt : wt rs + 1 ≤ 1099511000000) :
    Calls Tryz.prog 33 #[.pointer (some ⟨d, 0, none⟩), .int .i64 (H : Int), .string n] w fun r w' => r = .returned (.int .i64 (reEb rs H n)) ∧ OpR w w' d s D (reSb rs H n) := by
  have HH := hide hd
  have HSZ := hide (size_any d s rs D w hd n)
  cases hf : play rs n with
  | none =>
    have hfe : fE rs n = 121 := by simp [fE, hn, hf]
    have hcr : crE rs n = 0 := by simp [crE, hn, hf]
    have hfl : fl (play rs) n = [] := by simp [fl, hf]
    have e1 : reEb rs H n = 0 := by simp [reEb, hfl]
    have e2 : reSb rs H n = crS rs n := by simp [reSb, hfl]
    have hc := create_any d s rs D w hd n hwt
    rw [hcr] at hc
    have HC := hide hc
    rw [e1, e2]
    rw [hfe] at HSZ
    clear hd hc hfe hcr hfl e1 e2 hf hwt hn ht hh
    go_enter Tryz.func33, Tryz.ntmps33
    go_wp2_with (go_at_call 65; refine HSZ.out.mono ?_; rintro r w' ⟨rfl, rfl⟩; simp only [show ¬ ((121 : Int) = 0) by decide, if_false])
    refine HC.out.mono ?_
    rintro r w1 ⟨rfl, ho⟩
    go_wp2
    go_ret
    exact ⟨rfl, ho⟩
  | some xs =>
    have hfe : fE rs n = 0 := by simp [fE, hn, hf]
    have hfl : fl (play rs) n = xs := by simp [fl, hf]
    rw [hfe, hfl] at HSZ
    have hxl : xs.length ≤ 1099511000000 := by
      have := play_wt rs n
      rw [hfl] at this
      omega
    have hso := sizeOf_any d s rs D w hd H n (2 ^ H) hh (by have := hh.pow; omega) ht (by omega)
    rw [offL_all _ _ (wl_le _ _), hfl] at hso
    obtain ⟨P, HP⟩ : ∃ P, Hid (2 ^ H = P) := ⟨_, hide rfl⟩
    have HWP := hide (wrap_powB hh HP.out)
    have hP := hh.pow
    have hH8 := hh.2
    have hHi : (H : Int) ≤ 8 := by omega
    have hcs := crS_some hn hf
    unfold reEb reSb
    rw [hfl, hcs, HP.out]
    rw [HP.out] at hso hP
    obtain ⟨hP1, hP2⟩ := hP
    have hle : wlE P xs ≤ xs.length := by
      have := wlE_le P xs (by rw [← hfl]; exact hd.byB n)
      exact this
    obtain ⟨E, HE⟩ : ∃ E, Hid (wlE P xs = E) := ⟨_, hide rfl⟩
    rw [HE.out] at hso hle ⊢
    generalize xs.length = L at *
    have HSO := hide hso
    clear hd hfe hfl hf hwt hn hcs hso hh ht HE
    by_cases h0 : E < L
    · have h0' : (E : Int) < (L : Int) := by omega
      rw [if_pos h0, if_pos h0]
      go_enter Tryz.func33, Tryz.ntmps33
      go_wp2_with (go_at_call 65; refine HSZ.out.mono ?_; rintro r w' ⟨rfl, rfl⟩; simp only [if_true])
      rw [HWP.out]
      refine HSO.out.mono ?_
      rintro r w1 ⟨rfl, hb1⟩
      go_wp2
      go_ret
      exact ⟨rfl, OpR.below HH.out hb1⟩
    · have h0' : ¬ (E : Int) < (L : Int) := by omega
      rw [if_neg h0, if_neg h0]
      go_enter Tryz.func33, Tryz.ntmps33
      go_wp2_with (go_at_call 65; refine HSZ.out.mono ?_; rintro r w' ⟨rfl, rfl⟩; simp only [if_true])
      rw [HWP.out]
      refine HSO.out.mono ?_
      rintro r w1 ⟨rfl, hb1⟩
      go_wp2
      go_ret
      exact ⟨rfl, OpR.below HH.out hb1⟩
end

end Go.Proofs.YtpocadbhajacaaaGreatDoor

/-
  A range over a function that itself ranges over one while it hands out: what is kept of the books; many marks at a function's end.
-/
namespace Go.Proofs.YtpocadbhajacaaaGreatDoor
open Go.RowKit Go.Shelf
set_option linter.unusedVariables false

/-- All that is no cell is left, but for one book. -/
structure NotesFrom (B q : Nat) (A C : World) : Prop where
  size : A.heap.size ≤ C.heap.size
  same : ∀ (k : Nat) (o : Obj), B ≤ k → k ≠ q → A.heap[k]? = some o → o.isCells = false → C.heap[k]? = some o
theorem NotesFrom.keeps {B B' q : Nat} {A C : World} (h : NotesFrom B q A C) (hq : q < B') (hB : B ≤ B') : KeepsFrom B' A C := ⟨h.size, fun k o h1 h2 h3 => h.same k o (by omega) (by omega) h2 h3⟩
theorem NotesFrom.pre {B q : Nat} {A V C : World} (hb : Below A.heap.size A V) (h : NotesFrom B q V C) : NotesFrom B q A C := ⟨Nat.le_trans hb.size h.size, fun k o h1 h2 h3 h4 => h.same k o h1 h2 ((hb.block k (Array.getElem?_eq_some_iff.1 h3).1).trans h3) h4⟩
theorem notes_round {B q : Nat} {W W3 : World} {o o' : Obj} (hk : KeepsFrom B (W.putObj q o) W3) : NotesFrom B q W (W3.putObj q o') :=
  ⟨Nat.le_trans (grownBy_putObj' W q o).size (Nat.le_trans hk.size (grownBy_putObj' W3 q o').size), fun k p h1 h2 h3 h4 => by
    rw [World.putObj_heap_other h2]
    exact hk.same k p h1 ((World.putObj_heap_other h2).trans h3) h4⟩
section
variable {F : Fence} {n : Nat} {P : Program}
/-- As SeqL; of a round it knows that all books but the loop's own are left. -/
def SeqM {α : Type} (F : Fence) (n : Nat) (P : Program) (g : Nat) (lb : Array Value) (encs : α → Array Value) (R : List α → α → World → World → Prop) (Kp : α → World → World → Prop) (S Sp : List α → Prop) (w : World) : Prop :=
  ∀ (l : Nat) (J Jx : List α → World → Prop) (W : World), Below w.heap.size w W → l < W.heap.size → OwnFrom W.heap.size J → OwnFrom W.heap.size Jx →
    (∀ pre x W0 W1, J pre W0 → Below W0.heap.size W0 W1 → J pre W1 → R pre x W0 W1 → YieldAt F (n - 1) P l (encs x) W1 fun e W' => (e = .returned (.bool true) ∧ J (pre ++ [x]) W' ∧ Kp x W1 W' ∧ NotesFrom w.heap.size l W1 W') ∨ (e = .returned (.bool false) ∧ Jx (pre ++ [x]) W' ∧ NotesFrom w.heap.size l W1 W')) →
    J [] W → CallsIn F n P g (#[.func (.yield l) #[] #[]] ++ lb) W fun e W' => (∃ v, e = .returned v) ∧ ((∃ xs, S xs ∧ J xs W') ∨ (∃ pre, Sp pre ∧ Jx pre W'))
theorem SeqQ.toM {α : Type} {g : Nat} {lb : Array Value} {encs : α → Array Value} {R : List α → α → World → World → Prop} {Kp : α → World → World → Prop} {S Sp : List α → Prop} {w : World} (h : SeqQ F n P g lb encs R Kp S Sp w) : SeqM F n P g lb encs R Kp S Sp w := by
  intro l J Jx W hW _ hJ hJx hY h0
  exact h l J Jx W hW (OwnFrom.abides hJ) (OwnFrom.abides hJx) (fun pre x W0 W1 a b c d => YieldAt.imp (hY pre x W0 W1 a b c d) (fun e w' hp => by
    rcases hp with ⟨h1, h2, h3, _⟩ | ⟨h1, h2, _⟩
    · exact .inl ⟨h1, h2, h3⟩
    · exact .inr ⟨h1, h2⟩)) h0
theorem rangeM {α : Type} {g : Operand} {ps : Array Tmp} {assign body : Code} {Q : Exit → Act → World → Prop} {a : Act} {w : World}
    (hro : F.round = none) (h1 : 1 ≤ n) {gf : Nat} {lb : Array Value} (hg : a.eval g = .func (.func gf) #[] lb) (hFg : F.fn gf) (eg : ∀ args w, (callFunc gf args).run P w = .ok (.enter gf args) w)
    {encs : α → Array Value} {R : List α → α → World → World → Prop} {Kp : α → World → World → Prop} {S Sp : List α → Prop} (hseq : SeqM F (n - 1) P gf lb encs R Kp S Sp w)
    (hKt : ∀ {x : α} {A B C : World}, Kp x A B → Kp x B C → Kp x A C) (hKb : ∀ (x : α) (W : World) (l : Nat) (o o' : Obj), w.heap.size ≤ l → W.heap[l]? = some o → o.isCells = false → Kp x W (W.putObj l o')) (hKw : ∀ (x : α) (A C : World), Below A.heap.size A C → Kp x A C) (hps : ∀ x, (encs x).size = ps.size)
    (hR : ∀ pre x W0, OwnFrom w.heap.size (fun (_ : Unit) W => R pre x W0 W))
    (I : List α → World → Prop) (Ix : Code → List α → World → Prop) (hI : OwnFrom w.heap.size I) (hIx : ∀ c, OwnFrom w.heap.size (Ix c)) (h0 : I [] w) (a₁ : α → Nat → Act) (Ab : α → Nat → World → Prop) (hAb : ∀ x g (V : World) (l : Nat) (r : Loop) (o' : Obj), V.heap[l]? = some (.loop r) → Ab x g V → Ab x g (V.putObj l o'))
    (hassign : ∀ (l : Nat) (x : α) (W : World) (K : Act → World → Prop), (∃ pre W0, R pre x W0 W) → (∀ (g : Nat) (V : World), Below W.heap.size W V → W.heap.size ≤ g → Ab x g V → K (a₁ x g) V) →
      assign.wpIn (F.inRound l) (n - 1 - 1) P (Exit.then K (fun _ _ _ => False)) { tmps := (ps.zip (encs x)).foldl (fun t (p, v) => t.setIfInBounds p v) a.tmps, defers := [] } W)
    (hbody : ∀ (l : Nat) (pre : List α) (x : α) (g : Nat) (W0 W : World), W0.heap.size ≤ g → Ab x g W → I pre W0 → (∀ (k : Nat) (o : Obj), W0.heap[k]? = some o → o.isCells = true → W.heap[k]? = some o) → W0.heap.size ≤ W.heap.size → I pre W → R pre x W0 W → body.wpIn (F.inRound l) (n - 1 - 1) P (ownPostG w.heap.size (Kp x) I Ix (pre ++ [x]) W) (a₁ x g) W)
    (hdone : ∀ (D : Nat) (xs : List α) (W : World), w.heap.size ≤ D → S xs → I xs W → W.heap[D]? = some (.deferred (some [])) → Q .normal { a with defers := { target := .collected D, args := #[] } :: a.defers } W)
    (hstop : ∀ (D : Nat) (c : Code) (pre : List α) (W : World), w.heap.size ≤ D → Sp pre → Ix c pre W → W.heap[D]? = some (.deferred (some [])) → c.wpIn F n P Q { a with defers := { target := .collected D, args := #[] } :: a.defers } W) :
    (Code.rangeFunc g ps assign body).wpIn F n P Q a w := by
  refine wpIn_rangeFunc fun fn hfn => ?_
  rw [hro]
  obtain ⟨W1, hW1⟩ : ∃ W1, (w.alloc (.deferred (some []))).alloc (.loop (lrec fn a.tmps ps assign body w.heap.size .ready none)) = W1 := ⟨_, rfl⟩
  have B1 : Bk (lrec fn a.tmps ps assign body w.heap.size .ready none) w.heap.size W1 := by rw [← hW1]; exact Bk.new w _
  have b1 : Below w.heap.size w W1 := by rw [← hW1]; exact ((Below.refl _ w).alloc (Nat.le_refl _) _).alloc (by simp) _
  have s1 : w.heap.size ≤ W1.heap.size := b1.size
  have far : ∀ {A : World} {row : Option Nat}, (∀ r, row = some r → W1.heap.size ≤ r ∧ ∃ o : Obj, A.heap[r]? = some o ∧ o.isCells = false) → ∀ r, row = some r → w.heap.size ≤ r ∧ ∃ o : Obj, A.heap[r]? = some o ∧ o.isCells = false :=
    fun hr r e => by obtain ⟨hb, o, ho, hw⟩ := hr r e; exact ⟨by omega, o, ho, hw⟩
  have z1 : W1.heap.size = w.heap.size + 2 := by rw [← hW1, World.size_alloc, World.size_alloc]
  refine ⟨w.heap.size + 1, [{ target := .collected w.heap.size, args := #[] }], W1, { target := .fn (.func gf) lb, args := #[.func (.yield (w.heap.size + 1)) #[] #[]] }, W1, gf,
    #[.func (.yield (w.heap.size + 1)) #[] #[]] ++ lb, W1, by rw [← hW1]; exact run_enterLoop_outer _ _ _ _ _, by simp only [resolve, hg]; simp [go_sem], fun f' hf' => by simp [Target.leads] at hf'; subst hf'; exact hFg, by simp [invoke, go_sem, eg], fun _ => h1, ?_⟩
  refine (hseq (w.heap.size + 1) (fun pre W => I pre W ∧ Bk (lrec fn a.tmps ps assign body w.heap.size .ready none) w.heap.size W) (fun pre W => ∃ c, Ix c pre W ∧ Bk (lrec fn a.tmps ps assign body w.heap.size .done (some c)) w.heap.size W) W1 b1 (by omega)
    (fun s A B row hs hg' hr => ⟨hI s A B row hs.1 hg' (far hr), hs.2.own hg' (fun q e => by have := (hr q e).1; omega)⟩)
    (fun s A B row hs hg' hr => by obtain ⟨c, hc, hb⟩ := hs; exact ⟨c, hIx c s A B row hc hg' (far hr), hb.own hg' (fun q e => by have := (hr q e).1; omega)⟩) ?_
    ⟨by rw [← hW1]; exact hI.alloc _ (hI.alloc _ h0), B1⟩).mono ?_
  · rintro pre x W0 W ⟨hi0, hB0⟩ hb0 ⟨hi, hB⟩ hr
    refine round_A hfn (hps x) hB (hassign _ x W _ ⟨pre, W0, hr⟩ (fun g V hbV hgW hab => ?_))
    have hgV : W.grownBy V none := ⟨hbV.os, hbV.tape, hbV.output, hbV.size, fun i hi _ => hbV.block i hi⟩
    have hBV := hB.own hgV (fun q e => by cases e)
    have hiV := hI _ W V none hi hgV (fun q e => by cases e)
    have hrV := hR pre x W0 () W V none hr hgV (fun q e => by cases e)
    have hsV : W.heap.size ≤ V.heap.size := hbV.size
    refine ⟨hBV, ?_⟩
    have hB2 := hBV.put (lrec fn a.tmps ps assign body w.heap.size .busy none)
    have hK2 : Kp x W (V.putObj (w.heap.size + 1) (.loop (lrec fn a.tmps ps assign body w.heap.size .busy none))) := hKt (hKw x W V hbV) (hKb x _ _ _ _ (by omega) hBV.loop rfl)
    refine wpIn_mono (hbody _ pre x g W0 _ (Nat.le_trans hb0.size hgW) (hAb x g V _ _ _ hBV.loop hab) hi0 (fun k o ho hc => ?_) (Nat.le_trans hb0.size (Nat.le_trans hsV (grownBy_putObj' V _ _).size)) (hI.putObj _ hiV (by omega) hBV.loop rfl) ((hR pre x W0).putObj (s := ()) _ hrV (by omega) hBV.loop rfl)) ?_
    · have hk0 : W.heap[k]? = some o := (hb0.block k (Array.getElem?_eq_some_iff.1 ho).1).trans ho
      have hk : V.heap[k]? = some o := (hbV.block k (Array.getElem?_eq_some_iff.1 hk0).1).trans hk0
      rw [World.putObj_heap_other (fun e => by
        subst e
        rw [hBV.loop] at hk
        injection hk with hk
        subst hk
        cases hc)]
      exact hk
    have hmk : ∀ {W3 : World} {r2 : Loop} {o' : Obj}, KeepsFrom w.heap.size (V.putObj (w.heap.size + 1) (.loop (lrec fn a.tmps ps assign body w.heap.size .busy none))) W3 → W3.heap[w.heap.size + 1]? = some (.loop r2) → NotesFrom w.heap.size (w.heap.size + 1) W (W3.putObj (w.heap.size + 1) o') := fun h1 _ => (notes_round h1).pre hbV
    intro e a3 W3 hp
    cases e with
    | normal =>
      have hB3 := hB2.keep hp.1
      exact ⟨hB3, .inl ⟨rfl, ⟨hI.putObj _ hp.2.2 (by omega) hB3.loop rfl, hB3.put _⟩, hKt hK2 (hKt hp.2.1 (hKb x _ _ _ _ (by omega) hB3.loop rfl)), hmk hp.1 hB3.loop⟩⟩
    | ret =>
      have hB3 := hB2.keep hp.1
      exact ⟨hB3, .inr ⟨rfl, ⟨.ret, (hIx _).putObj _ hp.2 (by omega) hB3.loop rfl, hB3.put _⟩, hmk hp.1 hB3.loop⟩⟩
    | exit id =>
      have hB3 := hB2.keep hp.1
      exact ⟨hB3, .inr ⟨rfl, ⟨.exit id, (hIx _).putObj _ hp.2 (by omega) hB3.loop rfl, hB3.put _⟩, hmk hp.1 hB3.loop⟩⟩
    | goto u =>
      have hB3 := hB2.keep hp.1
      exact ⟨hB3, .inr ⟨rfl, ⟨.goto u, (hIx _).putObj _ hp.2 (by omega) hB3.loop rfl, hB3.put _⟩, hmk hp.1 hB3.loop⟩⟩
    | panic ch => exact hp.elim
    | outgrown => exact hp.elim
  · rintro e W2 ⟨⟨v, rfl⟩, (⟨xs, hS, hi, hB⟩ | ⟨pre, hSp, c, hi, hB⟩)⟩
    · exact ⟨none, _, run_endLoop (P := P) hB.loop (by simp [lrec]), hdone _ xs _ (Nat.le_refl _) hS (hI.putObj _ hi (by omega) hB.loop rfl) ((World.putObj_heap_other (by omega)).trans hB.mark)⟩
    · exact ⟨some c, _, run_endLoop (P := P) hB.loop (by simp [lrec]), hstop _ c pre _ (Nat.le_refl _) hSp ((hIx c).putObj _ hi (by omega) hB.loop rfl) ((World.putObj_heap_other (by omega)).trans hB.mark)⟩

/-- A mark among what is deferred. -/
def dmk (D : Nat) : Deferred := { target := .collected D, args := #[] }
/-- What marks stand. -/
def MK (Ds : List Nat) (V : World) : Prop := ∀ D, D ∈ Ds → V.heap[D]? = some (.deferred (some []))
/-- A function leaves with many marks. -/
theorem leaves_marks {fn : Func} {tmps : Array Value} {R : Ending → World → Prop} {B : Nat} {J : World → Prop} (hJ : ∀ V D, J V → B ≤ D → V.heap[D]? = some (.deferred (some [])) → J (V.putObj D (.deferred none))) (fin : ∀ V, J V → LeavesIn F n P fn tmps R [] .returning V) :
    ∀ (Ds : List Nat) (V : World), Ds.Nodup → (∀ D ∈ Ds, B ≤ D) → MK Ds V → J V → LeavesInM F n P fn tmps R (Ds.map dmk) .returning V
  | [], V, _, _, _, h => fin V h
  | D :: Ds, V, hn, hB, hm, h => by
    obtain ⟨h1, h2⟩ := List.nodup_cons.1 hn
    have hD := hm D (by simp)
    exact ⟨by simp, .inl ⟨D, _, rfl, run_takeDeferred hD, leaves_marks hJ fin Ds _ h2 (fun E hE => hB E (by simp [hE])) (fun E hE => (World.putObj_heap_other (fun e => h1 (by rw [← e]; exact hE))).trans (hm E (by simp [hE]))) (hJ V D h (hB D (by simp)) hD)⟩⟩
theorem round_wide {n m : Nat} {l l' : Nat} {f : FuncId} {tmps : Array Value} {assign body : Code} {w : World} {R : Ending → World → Prop} (h : RoundIn Fence.wide n P l f tmps assign body w R) : RoundIn (Fence.wide.inRound l') m P l f tmps assign body w R := ⟨trivial, fun c cs _ => h.2 c cs (room_wide _)⟩
end

end Go.Proofs.YtpocadbhajacaaaGreatDoor

/-
  The way through a height's places: places and what it hands out.
-/
namespace Go.Proofs.YtpocadbhajacaaaGreatDoor
open Go.RowKit Go.Shelf
set_option linter.unusedVariables false
set_option linter.unusedSimpArgs false
set_option maxRecDepth 100000

theorem placesB_mk (d : Nat) (h : Int) (w : World) : Calls Tryz.prog 52 #[.pointer (some ⟨d, 0, none⟩), .int .i64 h] w fun r w' => ∃ gd gh, r = .returned (.func (.func 82) #[] #[.pointer (some ⟨gh, 0, none⟩), .pointer (some ⟨gd, 0, none⟩)]) ∧
    Blk w' gd 26 [.pointer (some ⟨d, 0, none⟩)] ∧ Blk w' gh 3 [.int .i64 h] ∧ w.heap.size ≤ gd ∧ w.heap.size ≤ gh ∧ Below w.heap.size w w' := by
  go_enter Tryz.func52, Tryz.ntmps52
  go_wp2
  go_ret
  have b1 : Below w.heap.size w (w.alloc (.cells #[.pointer (some ⟨d, 0, none⟩)] 26)) := (Below.refl _ _).alloc (Nat.le_refl _) _
  have B1 : Blk (w.alloc (.cells #[.pointer (some ⟨d, 0, none⟩)] 26)) w.heap.size 26 [.pointer (some ⟨d, 0, none⟩)] := Blk.made _ _ _
  generalize hW1 : w.alloc (.cells #[.pointer (some ⟨d, 0, none⟩)] 26) = W1 at *
  have s1 := b1.size
  have b2 : Below W1.heap.size W1 (W1.alloc (.cells #[.int .i64 h] 3)) := (Below.refl _ _).alloc (Nat.le_refl _) _
  have B2 : Blk (W1.alloc (.cells #[.int .i64 h] 3)) W1.heap.size 3 [.int .i64 h] := Blk.made _ _ _
  generalize hW2 : W1.alloc (.cells #[.int .i64 h] 3) = W2 at *
  have z1 : W1.heap.size = w.heap.size + 1 := by rw [← hW1]; exact World.size_alloc _ _
  exact ⟨w.heap.size, w.heap.size + 1, rfl, B1.on b2, by rw [← z1]; exact B2, Nat.le_refl _, by omega, on_below b1 b2⟩
/-- What stands when a height is walked over. -/
structure QAt (w : World) (d s : Nat) (rs : List Rw) (D : Dm) (gd gh H : Nat) (B : Nat) : Prop where
  dk : DkAt w d s rs D
  pt : PT w
  bd : Blk w gd 26 [.pointer (some ⟨d, 0, none⟩)]
  bh : Blk w gh 3 [.int .i64 (H : Int)]
  le : B ≤ gd ∧ B ≤ gh
section
variable {w w' : World} {d s : Nat} {rs : List Rw} {D : Dm} {gd gh H : Nat} {B : Nat}
theorem QAt.below (h : QAt w d s rs D gd gh H B) (hb : Below w.heap.size w w') : QAt w' d s rs D gd gh H B := ⟨h.dk.below hb, h.pt.below hb, h.bd.on hb, h.bh.on hb, h.le⟩
theorem QAt.kb (h : QAt w d s rs D gd gh H B) (hb : KB B (FD d D) w w') : QAt w' d s rs D gd gh H B :=
  ⟨dk_fd h.dk (fun k hk => hb.keep k hk (fd_lt h.dk h.pt hk)), pt_fd h.pt (fun k hk => hb.keep k hk (fd_lt h.dk h.pt hk)), hb.rest _ _ _ h.le.1 (by decide) h.bd, hb.rest _ _ _ h.le.2 (by decide) h.bh, h.le⟩
theorem QAt.grown {row : Option Nat} {E : Nat} (h : QAt w d s rs D gd gh H B) (hE : ∀ k, FD d D k → k < E) (hg : w.grownBy w' row) (hr : ∀ r, row = some r → E ≤ r ∧ ∃ o : Obj, w.heap[r]? = some o ∧ o.isCells = false) : QAt w' d s rs D gd gh H B := by
  have hk : ∀ k, FD d D k → w'.heap[k]? = w.heap[k]? := fun k hq => hg.block k (fd_lt h.dk h.pt hq) (fun e => by have := (hr k e.symm).1; have := hE k hq; omega)
  have hck := CK.of_grown hg (fun r e => (hr r e).2)
  exact ⟨dk_fd h.dk hk, pt_fd h.pt hk, h.bd.ck hck, h.bh.ck hck, h.le⟩
end
theorem mk_cons {Ds : List Nat} {D : Nat} {V : World} (h : V.heap[D]? = some (.deferred (some []))) (k : MK Ds V) : MK (D :: Ds) V := fun E hE => by
  rcases List.mem_cons.1 hE with rfl | hE
  · exact h
  · exact k E hE
theorem nd_cons {Ds : List Nat} {D E : Nat} (h : D ∉ Ds) (hE : E ≤ D) (k : Ds.Nodup ∧ ∀ D ∈ Ds, E ≤ D) : (D :: Ds).Nodup ∧ ∀ C ∈ D :: Ds, E ≤ C :=
  ⟨List.nodup_cons.2 ⟨h, k.1⟩, fun C hC => by
    rcases List.mem_cons.1 hC with rfl | hC
    · exact hE
    · exact k.2 C hC⟩
/-- What is handed out: a place. -/
def encPl (x : Plc) : Array Value := #[.agg (plV x).toArray]
def RPl (F : ByteArray → Option (List Int)) (H n : Nat) (pre : List Plc) (x : Plc) (W0 W : World) : Prop := pre.length < n ∧ pre = plsL F H pre.length ∧ x = plL F H pre.length
theorem rpl_own (F : ByteArray → Option (List Int)) (H n B0 : Nat) (pre : List Plc) (x : Plc) (W0 : World) : OwnFrom B0 (fun (_ : Unit) W => RPl F H n pre x W0 W) := fun _ W W' row h hg hr => h
set_option maxHeartbeats 4000000 in
theorem placesB_seq (d s : Nat) (rs : List Rw) (D : Dm) (gd gh H n B : Nat) (w : World) (h : QAt w d s rs D gd gh H B) (hh : hB H) (hn : CnL (play rs) H n) (hwt : wt rs ≤ 1099511000000) (hBw : B ≤ w.heap.size) (hFD : ∀ k, FD d D k → k < B) :
    SeqM Fence.wide 4 Tryz.prog 82 #[.pointer (some ⟨gh, 0, none⟩), .pointer (some ⟨gd, 0, none⟩)] encPl (RPl (play rs) H n) (fun _ => KB B (FD d D)) (fun ys => ys = plsL (play rs) H n) (fun ys => ∃ k, k ≤ n ∧ ys = plsL (play rs) H k) w := by
  intro l0 J Jx W hW hl0 hJ hJx hY h0
  have H0 := hide (h.below hW)
  have HJ0 := hide h0
  have HN := hide hn
  have HH := hide hh
  have hnb : n ≤ 1048576 := hn.le
  have HSQ0 : Hid (∀ (nm : ByteArray) (V : World) (ed eh en : Nat), WAt V d s rs D ed eh en H nm B → SeqM Fence.wide 3 Tryz.prog 77 #[.pointer (some ⟨ed, 0, none⟩), .pointer (some ⟨en, 0, none⟩), .pointer (some ⟨eh, 0, none⟩)] encW (RW nm (wl (2 ^ H) (fl (play rs) nm))) (fun _ => KB B (FD d D)) (fun ys => ys = wls nm (wl (2 ^ H) (fl (play rs) nm)) (wl (2 ^ H) (fl (play rs) nm)).length) (fun ys => ∃ k, k ≤ (wl (2 ^ H) (fl (play rs) nm)).length ∧ ys = wls nm (wl (2 ^ H) (fl (play rs) nm)) k) V) := hide (fun nm V ed eh en hA => (whole_seq d s rs D ed eh en H nm B V hA hh hwt).toM)
  obtain ⟨P, HP⟩ : ∃ P, Hid (2 ^ H = P) := ⟨_, hide rfl⟩
  have HWP := hide (wrap_powB hh HP.out)
  have hP := hh.pow
  rw [HP.out] at hP HSQ0
  obtain ⟨hPlo, hPhi⟩ := hP
  have hH8 := hh.2
  have hHi : (H : Int) ≤ 8 := by omega
  have HBw := hide hBw
  have HFD := hide hFD
  have hWw : w.heap.size ≤ W.heap.size := hW.size
  clear h hn hW h0 hh hwt hBw hFD
  refine callsIn_of_wp_marks Tryz.func82 rfl trivial ?_ rfl
  simp only [Tryz.ntmps82, List.size_toArray, List.length_cons, List.length_nil, Nat.reduceAdd, Nat.reduceSub, Array.replicate_succ, Array.replicate_zero, List.push_toArray, List.append_toArray, List.nil_append, List.cons_append]
  refine wpIn_wide.2 ?_
  go_wp2_with fail
  go_step3
  go_wp2_with fail
  go_step3
  go_wp2_with fail
  have CY : Blk (W.alloc (.cells #[.func (.yield l0) #[] #[]] 144)) W.heap.size 144 [.func (.yield l0) #[] #[]] := Blk.made W _ [.func (.yield l0) #[] #[]]
  have hb1 : Below W.heap.size W (W.alloc (.cells #[.func (.yield l0) #[] #[]] 144)) := (Below.refl _ _).alloc (Nat.le_refl _) _
  have H1 := hide (H0.out.below hb1)
  have HJ1 := hide (hJ _ W _ none HJ0.out ⟨hb1.os, hb1.tape, hb1.output, hb1.size, fun i hi _ => hb1.block i hi⟩ (fun r e => by cases e))
  have HC1 := hide CY
  have hs1 : W.heap.size ≤ (W.alloc (.cells #[.func (.yield l0) #[] #[]] 144)).heap.size := hb1.size
  clear hb1 CY H0 HJ0
  generalize W.alloc (.cells #[.func (.yield l0) #[] #[]] 144) = W1 at *
  obtain ⟨E, hE⟩ : ∃ E, W.heap.size = E := ⟨_, rfl⟩
  rw [hE] at hJ hJx hl0 hWw hs1 HC1 ⊢
  obtain ⟨yb, hyb⟩ : ∃ yb, E = yb := ⟨_, rfl⟩
  have hEy : E ≤ yb := by omega
  rw [hyb] at HC1
  simp only [hyb]
  try rw [hyb]
  have HYB : Hid (E ≤ yb) := hide hEy
  clear hE hyb hEy
  refine (wpIn_wide (n := 4)).1 ?_
  refine wpIn_loop (fun a wr => ∃ (i : Nat) (Ds : List Nat) (u5 u6 u7 u8 u9 u10 u11 u12 u13 u14 u15 u16 u17 u18 u19 u20 u21 u22 u23 u24 u25 u26 u27 u28 u29 u30 u31 u32 u33 u34 u35 : Value), a = ⟨[.func (.yield l0) #[] #[], .pointer (some ⟨gh, 0, none⟩), .pointer (some ⟨gd, 0, none⟩), .pointer (some ⟨yb, 0, none⟩), .int .i64 ((i * P : Nat) : Int), u5, u6, u7, u8, u9, u10, u11, u12, u13, u14, u15, u16, u17, u18, u19, u20, u21, u22, u23, u24, u25, u26, u27, u28, u29, u30, u31, u32, u33, u34, u35].toArray, Ds.map dmk⟩ ∧ i * P ≤ n ∧ Hid (J (plsL (play rs) H (i * P)) wr) ∧ Hid (QAt wr d s rs D gd gh H B) ∧ Hid (Blk wr yb 144 [.func (.yield l0) #[] #[]]) ∧ Hid (MK Ds wr) ∧ Hid (Ds.Nodup ∧ (∀ D ∈ Ds, E ≤ D)) ∧ E ≤ wr.heap.size) (fun a _ => n + 1 - (intOf (a.tmps.getD 4 undef)).toNat) ⟨0, [], _, _, _, _, _, _, _, _, _, _, _, _, _, _, _, _, _, _, _, _, _, _, _, _, _, _, _, _, _, _, _, by rw [Nat.zero_mul]; rfl, by omega, by rw [Nat.zero_mul]; exact HJ1, H1, HC1, hide (fun _ h => by cases h), hide ⟨List.nodup_nil, fun _ h => by cases h⟩, hs1⟩ ?_
  clear HJ1 H1 HC1 hs1
  rintro _ wr ⟨i, Ds, u5, u6, u7, u8, u9, u10, u11, u12, u13, u14, u15, u16, u17, u18, u19, u20, u21, u22, u23, u24, u25, u26, u27, u28, u29, u30, u31, u32, u33, u34, u35, rfl, hi, HJ, HQ, HY, HM, HDs, hse⟩
  have hc1 : wr.cell? ⟨gh, 0, none⟩ = some (.int .i64 (H : Int)) := by rw [HQ.out.bh.cell]; rfl
  have hib : i ≤ 1048576 := by
    have := Nat.mul_le_mul_left i (show 1 ≤ P by omega)
    omega
  by_cases hlt : i * P < 1048576
  · have hnm : bnP (H : Int) ((i * P : Nat) : Int) = lfN H i := by
      rw [bnP_nat HH.out hlt, HP.out, Nat.mul_div_cancel _ (by omega)]
    have hne : bnE (H : Int) ((i * P : Nat) : Int) = 0 := bnE_nat HH.out hlt
    have hnam := bname_any (H : Int) ((i * P : Nat) : Int) wr HQ.out.pt
    rw [hnm, hne] at hnam
    have HNM := hide hnam
    obtain ⟨ls, HLS⟩ : ∃ ls, Hid (wlF (play rs) H i = ls) := ⟨_, hide rfl⟩
    have hat := HN.out.at' HH.out (i := i) (by rw [HP.out]; exact hi) (by rw [HP.out]; exact hlt)
    rw [HP.out, HLS.out] at hat
    have HAT := hide hat
    clear hat
    have hlsP : ls.length ≤ P := by rw [← HLS.out, ← HP.out]; exact wlF_le _ _ _
    have HWL : Hid (wl P (fl (play rs) (lfN H i)) = ls) := hide (by rw [← HLS.out, ← HP.out]; rfl)
    have HPL : Hid (∀ k, k < P → plL (play rs) H (i * P + k) = plK (lfN H i) ls k) := hide (fun k hk => by
      rw [← HLS.out, ← HP.out]
      exact plL_at (by rw [HP.out]; exact hk))
    have HSQ1 := hide (HSQ0.out (lfN H i))
    rw [HWL.out] at HSQ1
    obtain ⟨bg, HBG⟩ : ∃ bg, Hid (i * P = bg) := ⟨_, hide rfl⟩
    rw [HBG.out] at HNM HPL HJ HAT hi hlt
    simp only [HBG.out]
    generalize lfN H i = nm at *
    clear hnm hne hnam HLS HWL
    gi_wp2_with fail
    refine ⟨trivial, (callsIn_wide.2 HNM.out).mono ?_⟩
    rintro e w1 ⟨rfl, hb1⟩
    have HQ1 := hide (HQ.out.below hb1)
    have HJ1 := hide (hJ _ wr w1 none HJ.out ⟨hb1.os, hb1.tape, hb1.output, hb1.size, fun i hi _ => hb1.block i hi⟩ (fun r e => by cases e))
    have HY1 := hide (HY.out.on hb1)
    have HM1 : Hid (MK Ds w1) := hide (fun D hD => (hb1.block D (Array.getElem?_eq_some_iff.1 (HM.out D hD)).1).trans (HM.out D hD))
    have hs1 : E ≤ w1.heap.size := Nat.le_trans hse hb1.size
    clear hb1 hc1 HNM HQ HJ HY HM
    have hc2 : w1.cell? ⟨gd, 0, none⟩ = some (.pointer (some ⟨d, 0, none⟩)) := by rw [HQ1.out.bd.cell]; rfl
    have hc3 : w1.cell? ⟨gh, 0, none⟩ = some (.int .i64 (H : Int)) := by rw [HQ1.out.bh.cell]; rfl
    gi_wp2_with fail
    refine ⟨trivial, (callsIn_wide.2 (whole_mk _ _ _ _)).mono ?_⟩
    rintro e w3 ⟨ed, eh, en, rfl, BD, BH, BN, hed, heh, hen, hb3⟩
    have HQ3 := hide (HQ1.out.below hb3)
    have HJ3 := hide (hJ _ w1 w3 none HJ1.out ⟨hb3.os, hb3.tape, hb3.output, hb3.size, fun i hi _ => hb3.block i hi⟩ (fun r e => by cases e))
    have HY3 := hide (HY1.out.on hb3)
    have HM3 : Hid (MK Ds w3) := hide (fun D hD => (hb3.block D (Array.getElem?_eq_some_iff.1 (HM1.out D hD)).1).trans (HM1.out D hD))
    have hs3 : E ≤ w3.heap.size := Nat.le_trans hs1 hb3.size
    have HSQ := hide (HSQ1.out w3 ed eh en ⟨HQ3.out.dk, HQ3.out.pt, BD, BH, BN, by have := HBw.out; omega, by have := HBw.out; omega, by have := HBw.out; omega⟩)
    have HF3 : Hid (∀ q, FD d D q → q < w3.heap.size) := hide (fun q hq => fd_lt HQ3.out.dk HQ3.out.pt hq)
    have HMG : Hid (∀ (A C : World) (row : Option Nat), MK Ds A → A.grownBy C row → (∀ r, row = some r → w3.heap.size ≤ r ∧ ∃ o : Obj, A.heap[r]? = some o ∧ o.isCells = false) → MK Ds C) := hide (fun A C row hm hg hr D hD => (hg.block D (Array.getElem?_eq_some_iff.1 (hm D hD)).1 (fun e => by
      have h1 := (hr D e.symm).1
      have h2 := (Array.getElem?_eq_some_iff.1 (HM3.out D hD)).1
      omega)).trans (hm D hD))
    clear hb3 hc2 hc3 HQ1 HJ1 HY1 HM1 BD BH BN hed heh hen hse
    gi_wp2_with fail
    refine rangeM rfl (by decide) (gf := 77) (lb := #[.pointer (some ⟨ed, 0, none⟩), .pointer (some ⟨en, 0, none⟩), .pointer (some ⟨eh, 0, none⟩)]) rfl trivial (enters_of Tryz.func77 (by kernel_rfl) rfl)
      HSQ.out KB.trans (fun x V l o o' hl h hc => KB.book (B' := w3.heap.size) HF3.out V l o o' hl h hc) (fun x A C h => KB.below h) (fun _ => rfl) (fun pre x V0 => rw_own _ _ _ pre x V0)
      (fun pre V => pre.length < P ∧ J (plsL (play rs) H (bg + pre.length)) V ∧ QAt V d s rs D gd gh H B ∧ Blk V yb 144 [.func (.yield l0) #[] #[]] ∧ MK Ds V)
      (fun c pre V => (c = .ret ∧ (∃ m, m ≤ n ∧ Jx (plsL (play rs) H m) V) ∧ MK Ds V) ∨ (c = .exit 1 ∧ bg + P ≤ n ∧ J (plsL (play rs) H (bg + P)) V ∧ QAt V d s rs D gd gh H B ∧ Blk V yb 144 [.func (.yield l0) #[] #[]] ∧ MK Ds V))
      (fun pre A C row h hg hr => by
        have hr2 : ∀ r, row = some r → E ≤ r ∧ ∃ o : Obj, A.heap[r]? = some o ∧ o.isCells = false := fun r e => ⟨Nat.le_trans hs3 (hr r e).1, (hr r e).2⟩
        exact ⟨h.1, hJ _ A C row h.2.1 hg hr2, h.2.2.1.grown HF3.out hg hr, h.2.2.2.1.ck (CK.of_grown hg (fun r e => (hr r e).2)), HMG.out A C row h.2.2.2.2 hg hr⟩)
      (fun c pre A C row h hg hr => by
        have hr2 : ∀ r, row = some r → E ≤ r ∧ ∃ o : Obj, A.heap[r]? = some o ∧ o.isCells = false := fun r e => ⟨Nat.le_trans hs3 (hr r e).1, (hr r e).2⟩
        rcases h with ⟨e1, ⟨m, h1, h2⟩, h3⟩ | ⟨e1, h1, h2, h3, h4, h5⟩
        · exact .inl ⟨e1, ⟨m, h1, hJx _ A C row h2 hg hr2⟩, HMG.out A C row h3 hg hr⟩
        · exact .inr ⟨e1, h1, hJ _ A C row h2 hg hr2, h3.grown HF3.out hg hr, h4.ck (CK.of_grown hg (fun r e => (hr r e).2)), HMG.out A C row h5 hg hr⟩)
      ⟨by show 0 < P; omega, HJ3.out, HQ3.out, HY3.out, HM3.out⟩ ?act (fun x g V => Blk V g 102 (plV x.2)) (fun x g V l r o' hl hx => blk_loop V l r o' hl hx) ?assign ?body ?done ?stop
    case assign =>
      rintro l x V K ⟨pre, V0, h1, h2, h3⟩ hK
      have hsem := Oper.semAt_some
      simp only [encW]
      clear h1 h2 h3
      gi_wp2_with (refine istep_alloc (.round l) zPl rfl ?_)
      intro V1 g9 hg9 hle9 hb9
      gi_wp2_with (refine istep_storeA (.round l) wPl rfl rfl rfl hg9 rfl (One.pl x.2) rfl ?_)
      intro V2 hg92 hbut9
      have hb92 : Below V.heap.size V V2 := hb9.trans (hbut9.below hle9)
      have hK2 := hK g9 V2 hb92 hle9 hg92
      clear hK
      gi_wp2
      exact hK2
    case stop =>
      rintro Dk c pre V hD hSp hx hK
      have hDn : Dk ∉ Ds := fun hd => by have := (Array.getElem?_eq_some_iff.1 (HM3.out Dk hd)).1; omega
      rcases hx with ⟨rfl, ⟨m, h1, h2⟩, h3⟩ | ⟨rfl, h1, h2, h3, h4, h5⟩
      · have HX := hide h2
        have HM4 : Hid (MK (Dk :: Ds) V) := hide (mk_cons hK h3)
        have HD4 : Hid ((Dk :: Ds).Nodup ∧ ∀ D ∈ Dk :: Ds, E ≤ D) := hide (nd_cons hDn (by omega) HDs.out)
        clear h2 h3 hK
        gi_wp2
        exact (leaves_marks (B := E) (J := fun V => Jx (plsL (play rs) H m) V) (fun V D h hB hD => hJx _ V _ (some D) h (grownBy_putObj' V D _) (fun r e => by cases e; exact ⟨hB, _, hD, rfl⟩)) (fun V h => ⟨_, results_none rfl _ _ _, ⟨_, rfl⟩, .inr ⟨_, ⟨m, h1, rfl⟩, h⟩⟩) (Dk :: Ds) V HD4.out.1 HD4.out.2 HM4.out HX.out)
      · have HJ4 := hide h2
        have HQ4 := hide h3
        have HY4 := hide h4
        have HM4 : Hid (MK (Dk :: Ds) V) := hide (mk_cons hK h5)
        have HD4 : Hid ((Dk :: Ds).Nodup ∧ ∀ D ∈ Dk :: Ds, E ≤ D) := hide (nd_cons hDn (by omega) HDs.out)
        have hc4 : V.cell? ⟨gh, 0, none⟩ = some (.int .i64 (H : Int)) := by rw [HQ4.out.bh.cell]; rfl
        clear h2 h3 h4 h5 hK
        have e5 : (i + 1) * P = bg + P := by rw [Nat.add_mul, Nat.one_mul, HBG.out]
        have E4 : Hid ((bg : Int) + (P : Int) = (((i + 1) * P : Nat) : Int)) := hide (by rw [e5]; rfl)
        have E5 := hide e5
        clear e5
        gi_wp2_with (rw [HWP.out])
        rw [E4.out]
        have e5 := E5.out
        refine ⟨⟨i + 1, Dk :: Ds, _, _, _, _, _, _, _, _, _, _, _, _, _, _, _, _, _, _, _, _, _, _, _, _, _, _, _, _, _, _, _, rfl, by omega, by rw [e5]; exact HJ4, HQ4, HY4, HM4, HD4, by have := (Array.getElem?_eq_some_iff.1 (HM4.out Dk (by simp))).1; omega⟩, ?_⟩
        show n + 1 - ((((i + 1) * P : Nat) : Int)).toNat < n + 1 - ((bg : Nat) : Int).toNat
        omega
    case done =>
      rintro Dk ys V hD hS ⟨hyk, hj, hq, hy, hm⟩ hK
      obtain rfl : ys = wls nm ls ls.length := hS
      rw [wls_len] at hyk hj
      have hDn : Dk ∉ Ds := fun hd => by have := (Array.getElem?_eq_some_iff.1 (HM3.out Dk hd)).1; omega
      rw [← HAT.out.2 hyk] at hj
      have HX := hide hj
      have HM4 : Hid (MK (Dk :: Ds) V) := hide (mk_cons hK hm)
      have HD4 : Hid ((Dk :: Ds).Nodup ∧ ∀ D ∈ Dk :: Ds, E ≤ D) := hide (nd_cons hDn (by omega) HDs.out)
      clear hj hq hy hm hK
      gi_wp2
      exact (leaves_marks (B := E) (J := fun V => J (plsL (play rs) H n) V) (fun V D h hB hD => hJ _ V _ (some D) h (grownBy_putObj' V D _) (fun r e => by cases e; exact ⟨hB, _, hD, rfl⟩)) (fun V h => ⟨_, results_none rfl _ _ _, ⟨_, rfl⟩, .inl ⟨_, rfl, h⟩⟩) (Dk :: Ds) V HD4.out.1 HD4.out.2 HM4.out HX.out)
    case body =>
      rintro l pre ⟨xi, xp⟩ gx V0 V hgx hbx _ hck hsz ⟨hpk, hj, hq, hy, hm⟩ ⟨h1, h2, h3⟩
      have hsem := Oper.semAt_some
      obtain ⟨j, HJJ⟩ : ∃ j, Hid (pre.length = j) := ⟨_, hide rfl⟩
      rw [HJJ.out] at h1 h3 hpk hj
      obtain ⟨e1, e2⟩ := Prod.mk.inj h3
      subst e1
      have HP1 : Hid ((pre ++ [(xi, xp)]).length = xi + 1) := hide (by rw [List.length_append, HJJ.out]; rfl)
      have hbx2 : Blk V gx 102 (plV xp) := hbx
      have HBX := hide hbx2
      have hpl : plL (play rs) H (bg + xi) = xp := by rw [HPL.out xi hpk, e2]
      have hle := HAT.out.1
      have HYY := hY (plsL (play rs) H (bg + xi)) xp V V hj (Below.refl _ _) hj ⟨by rw [plsL_len]; omega, by rw [plsL_len], by rw [plsL_len, hpl]⟩
      rw [← hpl, ← plsL_succ, hpl] at HYY
      obtain ⟨fn, tmps, assign, body, hyy, hR⟩ := HYY
      simp only [encPl] at hyy
      have c3 : V.cell? ⟨yb, 0, none⟩ = some (.func (.yield l0) #[] #[]) := by rw [hy.cell]; rfl
      have HQV := hide hq
      have HYV := hide hy
      have HMV := hide hm
      clear hj hq hy hm hck hsz h2 h3 e2 hbx hbx2 hgx
      gi_wp2_with (refine istep_loadA (.round l) wPl rfl rfl HBX.out rfl ?_)
      refine (round_wide hR).mono ?_
      rintro r W7 (⟨rfl, hJ7, hk7, hn7⟩ | ⟨rfl, hJx7, hn7⟩)
      · have HJ7 := hide hJ7
        have HQ7 := hide (HQV.out.kb hk7)
        have HY7 := hide (hk7.rest _ _ _ (by have := HBw.out; have := HYB.out; omega) (by decide) HYV.out)
        have HM7 : Hid (MK Ds W7) := hide (fun D hD => hn7.same D _ (by have := HDs.out.2 D hD; omega) (by have := HDs.out.2 D hD; omega) (HMV.out D hD) rfl)
        have HK7 := hide hk7
        have HN7 := hide (hn7.keeps (B' := w3.heap.size) (by omega) (by omega))
        have c1 : W7.cell? ⟨gh, 0, none⟩ = some (.int .i64 (H : Int)) := by rw [HQ7.out.bh.cell]; rfl
        clear hJ7 hk7 hn7 hyy hR
        by_cases hjP : xi = P - 1
        · have hjPi : (xi : Int) = (P : Int) - 1 := by omega
          subst hjP
          gi_wp2_with (rw [HWP.out])
          refine ⟨HN7.out, .inr ⟨rfl, by omega, ?_, HQ7.out, HY7.out, HM7.out⟩⟩
          have := HJ7.out
          rw [show bg + (P - 1) + 1 = bg + P by omega] at this
          exact this
        · have hjPi : ¬ (xi : Int) = (P : Int) - 1 := by omega
          gi_wp2_with (rw [HWP.out])
          refine ⟨HN7.out, HK7.out, ?_⟩
          show (pre ++ [(xi, xp)]).length < P ∧ J (plsL (play rs) H (bg + (pre ++ [(xi, xp)]).length)) W7 ∧ _
          rw [HP1.out]
          exact ⟨by omega, HJ7.out, HQ7.out, HY7.out, HM7.out⟩
      · have HJx7 := hide hJx7
        have HM7 : Hid (MK Ds W7) := hide (fun D hD => hn7.same D _ (by have := HDs.out.2 D hD; omega) (by have := HDs.out.2 D hD; omega) (HMV.out D hD) rfl)
        have HN7 := hide (hn7.keeps (B' := w3.heap.size) (by omega) (by omega))
        clear hJx7 hn7 hyy hR
        gi_wp2
        exact ⟨HN7.out, .inl ⟨rfl, ⟨bg + xi + 1, by omega, HJx7.out⟩, HM7.out⟩⟩
  · have hne : bnE (H : Int) ((i * P : Nat) : Int) = 2 := by
      unfold bnE
      rw [if_neg (fun h => by have := (nmO'_is.1 h); omega)]
    have hnam := bname_any (H : Int) ((i * P : Nat) : Int) wr HQ.out.pt
    rw [hne] at hnam
    have HNM := hide hnam
    have hin : i * P = n := by omega
    have HJn := HJ
    rw [hin] at HJn
    generalize bnP (H : Int) ((i * P : Nat) : Int) = nm at *
    clear hnam hne hin hi hlt
    gi_wp2_with fail
    refine ⟨trivial, (callsIn_wide.2 HNM.out).mono ?_⟩
    rintro e w1 ⟨rfl, hb1⟩
    have HX := hide (hJ _ wr w1 none HJn.out ⟨hb1.os, hb1.tape, hb1.output, hb1.size, fun i hi _ => hb1.block i hi⟩ (fun r e => by cases e))
    have HM1 : Hid (MK Ds w1) := hide (fun D hD => (hb1.block D (Array.getElem?_eq_some_iff.1 (HM.out D hD)).1).trans (HM.out D hD))
    clear hb1
    gi_wp2
    exact (leaves_marks (B := E) (J := fun V => J (plsL (play rs) H n) V) (fun V D h hB hD => hJ _ V _ (some D) h (grownBy_putObj' V D _) (fun r e => by cases e; exact ⟨hB, _, hD, rfl⟩)) (fun V h => ⟨_, results_none rfl _ _ _, ⟨_, rfl⟩, .inl ⟨_, rfl, h⟩⟩) Ds w1 HDs.out.1 HDs.out.2 HM1.out HX.out)

end Go.Proofs.YtpocadbhajacaaaGreatDoor
