/-
  Texts one behind the other: Take Nm Wb Sm RotR SchedR Cst.
-/
import Derived.Test.YthgfbcndoedacaaDoorPkB
import Derived.Test.YthgfbcndoedacaaDoorPkA

/-
  The contract of take: bytes come behind what came, block by block.
-/
namespace Go.Proofs.YthgfbcndoedacaaDoor
open Go.RowKit
set_option linter.unusedVariables false

/-- Another world: of what was there only block g has turned. -/
structure Chg (g : Nat) (w w' : World) : Prop where
  os : w'.os = w.os
  tape : w'.tape = w.tape
  output : w'.output = w.output
  size : w.heap.size ≤ w'.heap.size
  block : ∀ k, k < w.heap.size → k ≠ g → w'.heap[k]? = w.heap[k]?
theorem Chg.refl (g : Nat) (w : World) : Chg g w w := ⟨rfl, rfl, rfl, Nat.le_refl _, fun _ _ _ => rfl⟩
theorem Chg.trans {g : Nat} {a b c : World} (h : Chg g a b) (k : Chg g b c) : Chg g a c :=
  ⟨k.os.trans h.os, k.tape.trans h.tape, k.output.trans h.output, Nat.le_trans h.size k.size, fun i hi hg => (k.block i (Nat.lt_of_lt_of_le hi h.size) hg).trans (h.block i hi hg)⟩
theorem Chg.of_but {g : Nat} {w w' : World} (h : But g w w') : Chg g w w' := ⟨h.os, h.tape, h.output, Nat.le_of_eq h.size.symm, fun k _ hk => h.block k hk⟩
theorem Chg.of_below {g : Nat} {w w' : World} (h : Below w.heap.size w w') : Chg g w w' := ⟨h.os, h.tape, h.output, h.size, fun k hk _ => h.block k hk⟩
theorem Chg.below {g B : Nat} {w w' : World} (h : Chg g w w') (hg : B ≤ g) (hB : B ≤ w.heap.size) : Below B w w' := ⟨h.os, h.tape, h.output, h.size, fun k hk => h.block k (by omega) (by omega)⟩
theorem Blk.chg {g k : Nat} {w w' : World} {t : TypeId} {cs : List Value} (h : Blk w k t cs) (hc : Chg g w w') (hk : k ≠ g) : Blk w' k t cs := by
  unfold Blk; rw [hc.block k h.lt hk]; exact h
theorem Sl.chg {g : Nat} {w w' : World} {a : Option Addr} {len cap : Nat} {xs : List Int} (h : Sl w a len cap xs) (hc : Chg g w w') (hk : 0 < len → Apart g a) : Sl w' a len cap xs := by
  obtain ⟨h1, h2, h3, h4, h5, h6, h7⟩ := h
  refine ⟨h1, h2, h3, h4, h5, h6, fun h => ?_⟩
  obtain ⟨b, off, e, hce⟩ := h7 h
  refine ⟨b, off, e, fun i hi => ?_⟩
  rw [World.cell?_of_block (w := w) (hc.block b (World.block_lt_of_cell? w _ (hce i hi)) (hk h ⟨b, off, none⟩ e))]
  exact hce i hi
theorem KT.chg {g : Nat} {w w' : World} (h : KT w) (hc : Chg g w w') (hg : g ≠ 2) : KT w' := fun i hi => by
  rw [World.cell?_of_block (w := w) (hc.block 2 h.lt (fun e => hg e.symm))]; exact h i hi
/-- How long a slice is. -/
def lenOf : Value → Nat
  | .slice _ n _ => n
  | _ => 0
theorem chg_drew (g : Nat) (w : World) : Chg g w w.drew := ⟨rfl, rfl, rfl, Nat.le_refl _, fun _ _ _ => rfl⟩

theorem und22 : Tryd.prog.underlying 45 = some (.slice (Tryd.prog.elem 45)) := by kernel_rfl
theorem elem22 : Tryd.prog.elem 45 = 5 := by kernel_rfl
/-- b[k:] -/
theorem slice_from {w : World} {a : Option Addr} {len cap : Nat} {xs : List Int} (h : Sl w a len cap xs) (k : Nat) (K : Int) (hK : K = (k : Int)) (hk : k ≤ len) :
    ∃ a', (∀ v : World, (Instr.slice 45 (.slice a len cap) (some (.int .i64 K)) none none).run Tryd.prog v = .ok (.slice a' (len - k) (cap - k)) v) ∧ Sl w a' (len - k) (cap - k) (xs.drop k) ∧ (∀ g, (0 < len → Apart g a) → 0 < len - k → Apart g a') := by
  subst hK
  have hrun : ∀ v : World, (Instr.slice 45 (.slice a len cap) (some (.int .i64 k)) none none).run Tryd.prog v = .ok (sliced a k len cap 1) v := fun v => by
    rw [run_slice_l v _ _ _ _ und22 .i64 k (by omega) (by omega), elem22, sizeB]
    simp
  obtain ⟨h1, h2, h3, h4, h5, h6, h7⟩ := h
  by_cases hc : k < cap
  · cases a with
    | none => have := h6 rfl; omega
    | some ad =>
      have es : sliced (some ad) k len cap 1 = .slice (some (ad.add k)) (len - k) (cap - k) := by
        simp only [sliced, Nat.mul_one]
        have : ¬ (cap = k) := by omega
        simp [this]
      refine ⟨some (ad.add k), fun v => by rw [hrun v, es], ?_, ?_⟩
      · refine ⟨by simp [h1], by omega, by omega, by omega, h5.drop k, (fun e => by cases e), fun h0 => ?_⟩
        obtain ⟨b, o, e, hce⟩ := h7 (by omega)
        cases e
        refine ⟨b, o + k, by rw [Addr.add_lit], fun i hi => ?_⟩
        rw [show o + k + i = o + (k + i) by omega, hce (k + i) (by omega)]
        simp [List.getD, List.getElem?_drop]
      · intro g ha h0 x hx
        cases hx
        have := ha (by omega) ad rfl
        unfold Addr.add
        split <;> exact this
  · obtain rfl : k = cap := by omega
    obtain rfl : len = k := by omega
    have es : sliced a len len len 1 = .slice a (len - len) (len - len) := by
      cases a <;> simp [sliced]
    refine ⟨a, fun v => by rw [hrun v, es], ?_, ?_⟩
    · rw [Nat.sub_self]
      exact ⟨by simp [h1], Nat.le_refl _, by omega, by omega, h5.drop _, fun _ => ⟨rfl, rfl⟩, fun h => absurd h (by omega)⟩
    · intro g _ h0
      omega

set_option maxRecDepth 100000 in
set_option maxHeartbeats 2000000 in
theorem take_any (h : List Int) (n0 : Nat) (m : List Int) (g : Nat) (a : Option Addr) (len cap : Nat) (xs : List Int) (w : World) (hg : Blk w g 126 (stM h n0 m)) (hh : h.length = 8) (hn0 : n0 % 64 = 0) (hmb : isB m)
    (hs : Sl w a len cap xs) (hap : 0 < len → Apart g a) (hk : KT w) (hg0 : g ≠ 2) (hbd : n0 + m.length + len ≤ 4611686018427387904) :
    Calls Tryd.prog 71 #[.pointer (some ⟨g, 0, none⟩), .slice a len cap] w fun e w' => e = .returned (.tuple #[]) ∧ Blk w' g 126 (stM h n0 (m ++ xs)) ∧ Chg g w w' := by
  have HH := hide hh
  have HX := hide hs.hlen
  have HXB := hide hs.hbyte
  have HMB := hide hmb
  clear hmb hh
  go_enter Tryd.func71, Tryd.ntmps71
  go_wp2
  go_loopw [1] (fun v wr => ∃ (j : Nat) (a' : Option Addr), j ≤ len ∧ v = .slice a' (len - j) (cap - j) ∧ Sl wr a' (len - j) (cap - j) (xs.drop j) ∧ (0 < len - j → Apart g a') ∧ Blk wr g 126 (stM h n0 (m ++ xs.take j)) ∧ Chg g w wr) (fun v _ => lenOf v)
  case atStart => exact ⟨0, a, by omega, rfl, hs, hap, by simpa using hg, Chg.refl _ _⟩
  case round =>
    clear hs hap hg
    obtain ⟨j, a', hj, rfl, hs, hap, hg, hc⟩ := hrel
    have HS := hide hs
    have HAP := hide hap
    have HG := hide hg
    have HC := hide hc
    clear hs hap hg hc
    by_cases hlt : j < len
    · have hjl : (0 : Int) < ((len - j : Nat) : Int) := by omega
      generalize hM : m ++ xs.take j = M at *
      generalize hy : xs.drop j = ys at *
      generalize hL : len - j = L at *
      generalize hC : cap - j = C at *
      have hML : M.length = m.length + j := by rw [← hM]; simp [HX.out]; omega
      have HMBB := hide (show isB M by rw [← hM]; exact HMB.out.append (HXB.out.take j))
      have HOV := hide (ov_length h M HH.out (bk M))
      have c9 : wr.cell? ⟨g, 9, none⟩ = some (.int .i64 ((n0 + M.length : Nat) : Int)) := by rw [HG.out.cell]; exact stC_size _ _ _ _ HOV.out
      have f9 : wr.frozen? ⟨g, 9, none⟩ = false := HG.out.free 9
      generalize hN : n0 + M.length = N at *
      have hslc := slice_from64 g 10 (N % 64) ((N : Int) % 64) (by omega) (by omega)
      have hNb : N + L ≤ 4611686018427387904 := by omega
      have hmod : N % 64 = M.length % 64 := by omega
      obtain ⟨kk, hkk⟩ : ∃ kk, kk = min L (64 - N % 64) := ⟨_, rfl⟩
      have hkL : kk ≤ L := by omega
      have hk0 : 0 < kk := by omega
      have hkr : N % 64 + kk ≤ 64 := by omega
      obtain ⟨a2, hsl2, hs2, hap2⟩ := slice_from HS.out kk (kk : Int) rfl hkL
      have HS2 := hide hs2
      have HAP2 := hide (hap2 g HAP.out)
      clear hs2 hap2
      have HYL := hide HS.out.hlen
      have HYB := hide HS.out.hbyte
      have QM := hide hM
      have Qy := hide hy
      have QL := hide hL
      have QC := hide hC
      have QML := hide hML
      have QN := hide hN
      have Qmod := hide hmod
      have Qkk := hide hkk
      clear hM hy hL hC hML hN hmod hkk
      have htm : (N : Int).tmod 64 = (N : Int) % 64 := Int.tmod_eq_emod_of_nonneg (by omega)
      have htm2 : ((N : Int) + (kk : Int)).tmod 64 = ((N : Int) + (kk : Int)) % 64 := Int.tmod_eq_emod_of_nonneg (by omega)
      go_wp2_with fail
      go_region_law (refine rstep_copy rfl rfl rfl rfl (by exact HS.out.drewN 1) g (10 + N % 64) kk Qkk.out (by exact HG.out) (fun _ => rfl) (by rw [stM, stC_length _ _ _ _ HOV.out (rs_length M)]; omega) ?_; intro w1 hg1 hbut1)
      have hc1 : Chg g wr w1 := (chg_drew g wr).trans (Chg.of_but hbut1)
      have e1 : spl (stM h n0 M) (u8s (ys.take kk)) (10 + N % 64) = stC true (ov h M (bk M)) (N : Int) (splB (rs M) (ys.take kk) (M.length % 64)) := by
        rw [stM, stC_setRest _ _ _ _ HOV.out _ _ (by rw [rs_length, List.length_take, HYL.out]; omega), QN.out, Qmod.out]
      rw [e1] at hg1
      have hyl : (ys.take kk).length = kk := by rw [List.length_take, HYL.out]; omega
      rw [fill M (ys.take kk) (by rw [hyl, ← Qmod.out]; omega), hyl] at hg1
      have d9 : w1.cell? ⟨g, 9, none⟩ = some (.int .i64 (N : Int)) := by rw [hg1.cell]; exact stC_size _ _ _ _ HOV.out
      have g9 : w1.frozen? ⟨g, 9, none⟩ = false := hg1.free 9
      have hg2 := hg1.set 9 (.int .i64 ((N : Int) + (kk : Int)))
      rw [stC_setSize _ _ _ _ HOV.out] at hg2
      have HG2 := hide hg2
      have HC2 := hide (hc1.trans (Chg.of_but (But.setCell w1 g 9 (.int .i64 ((N : Int) + (kk : Int))))))
      have HYT := hide hyl
      have EM : Hid (m ++ xs.take (j + kk) = M ++ ys.take kk) := hide (by rw [← QM.out, ← Qy.out, List.append_assoc, ← List.take_add])
      have ED : Hid (xs.drop (j + kk) = ys.drop kk) := hide (by rw [← Qy.out, List.drop_drop])
      have EL : Hid (L - kk = len - (j + kk) ∧ C - kk = cap - (j + kk)) := hide (by have := QL.out; have := QC.out; omega)
      have ELn : Hid (((n0 + (M ++ ys.take kk).length : Nat) : Int) = (N : Int) + (kk : Int)) := hide (by have := QN.out; rw [List.length_append, hyl]; omega)
      clear hg1 hg2 hc1 e1 hbut1 c9 f9 hslc hyl
      by_cases hfull : (N + kk) % 64 = 0
      · have hf1 : ((((N : Int) + (kk : Int)) % 64) == 0) = true := by simp; omega
        go_wp2_with fail
        have KT2 := hide ((hk.chg HC.out hg0).chg HC2.out hg0)
        have hR : (tl M ++ ys.take kk).length = 64 := by rw [List.length_append, tl_length, HYT.out, ← Qmod.out]; omega
        have hz64 : zer (64 - (M.length % 64 + kk)) = [] := by rw [← Qmod.out, show 64 - (N % 64 + kk) = 0 by omega]; rfl
        have HRB := hide (show isB (tl M ++ ys.take kk) from (HMBB.out.drop _).append (HYB.out.take kk))
        have HR := hide hR
        have HON := hide (grow_on h M (ys.take kk) (by rw [HYT.out, ← Qmod.out]; omega))
        have HG3 := hide HG2.out
        rw [hz64, List.append_nil] at HG3
        clear hR hz64 HG2 d9 g9
        revert HG3 HC2 KT2
        generalize w1.setCell ⟨g, 9, none⟩ (.int .i64 ((N : Int) + (kk : Int))) = w2
        intro HC2 KT2 HG3
        generalize hws : ov h M (bk M) = ws at *
        generalize hRR : tl M ++ ys.take kk = R at *
        refine wp_region_noPanic ?_
        refine wp_region_held_drew (S := fun _ : World => True) (by kernel_rfl) trivial (fun hHeld => ?_)
        refine takeH 0 36 (.pointer (some ⟨g, 0, none⟩)) hHeld rfl rfl (by kernel_rfl) (by kernel_rfl) (by kernel_rfl) (fun _ _ _ h => h) (Or.inl ⟨by rfl, fun w _ => by go_simp⟩) ?_
        simp only [Act.put, List.setIfInBounds_toArray, List.set_cons_zero, List.set_cons_succ]
        refine takeH 1 37 (.pointer (some ⟨g, 0, none⟩)) hHeld rfl rfl (by kernel_rfl) (by kernel_rfl) (by kernel_rfl) (fun _ _ _ h => h) (Or.inl ⟨by rfl, fun w _ => by go_simp⟩) ?_
        simp only [Act.put, List.setIfInBounds_toArray, List.set_cons_zero, List.set_cons_succ]
        refine takeH 2 38 (.pointer (some ⟨g, 0, none⟩)) hHeld rfl rfl (by kernel_rfl) (by kernel_rfl) (by kernel_rfl) (fun _ _ _ h => h) (Or.inl ⟨by rfl, fun w _ => by go_simp⟩) ?_
        simp only [Act.put, List.setIfInBounds_toArray, List.set_cons_zero, List.set_cons_succ]
        refine takeH 3 39 (.pointer (some ⟨g, 1, none⟩)) hHeld rfl rfl (by kernel_rfl) (by kernel_rfl) (by kernel_rfl) (fun _ _ _ h => h) (Or.inl ⟨by rfl, fun w _ => by go_simp⟩) ?_
        simp only [Act.put, List.setIfInBounds_toArray, List.set_cons_zero, List.set_cons_succ]
        refine takeH 5 41 (.pointer (some ⟨g, 0, none⟩)) hHeld rfl rfl (by kernel_rfl) (by kernel_rfl) (by kernel_rfl) (fun _ _ _ h => h) (Or.inl ⟨by rfl, fun w _ => by go_simp⟩) ?_
        simp only [Act.put, List.setIfInBounds_toArray, List.set_cons_zero, List.set_cons_succ]
        refine takeH 6 42 (.pointer (some ⟨g, 0, none⟩)) hHeld rfl rfl (by kernel_rfl) (by kernel_rfl) (by kernel_rfl) (fun _ _ _ h => h) (Or.inl ⟨by rfl, fun w _ => by go_simp⟩) ?_
        simp only [Act.put, List.setIfInBounds_toArray, List.set_cons_zero, List.set_cons_succ]
        refine takeH 7 43 (.pointer (some ⟨g, 10, none⟩)) hHeld rfl rfl (by kernel_rfl) (by kernel_rfl) (by kernel_rfl) (fun _ _ _ h => h) (Or.inl ⟨by rfl, fun w _ => by go_simp⟩) ?_
        simp only [Act.put, List.setIfInBounds_toArray, List.set_cons_zero, List.set_cons_succ]
        have HG4 := hide (show Blk w2.drew g 126 (stC true ws ((N : Int) + (kk : Int)) R) from HG3.out)
        refine wpAnyH_ready (rs := [4, 8]) (by kernel_rfl) (by simp) (AllReadyH.cons rfl (fun K hK => ?_) (AllReadyH.cons rfl (fun K hK => ?_) AllReadyH.nil))
        · rw [if_pos (by rfl)]
          refine wp_loadW wW rfl (g := g) (off := 1) rfl HG4.out (u32s ws) (by rw [u32s_length]; exact HOV.out) (stC_words _ _ _ _ HOV.out) ?_
          refine hK.out _ _ trivial (fun hHeld => ?_)
          clear hK K
          simp only [Act.put, List.setIfInBounds_toArray]
          refine wpAnyH_ready (rs := [8]) (by kernel_rfl) (by simp) (AllReadyH.cons rfl (fun K hK => ?_) AllReadyH.nil)
          rw [if_pos (by rfl)]
          refine wp_loadW wB64 rfl (g := g) (off := 10) rfl HG4.out (u8s R) (by rw [u8s_length]; exact HR.out) (stC_rest _ _ _ _ HOV.out HR.out) ?_
          refine hK.out _ _ trivial (fun hHeld => ?_)
          clear hK K
          simp only [Act.put]
          refine wpAnyH_ready (rs := [9]) (by kernel_rfl) (by simp) (AllReadyH.cons rfl (fun K hK => ?_) AllReadyH.nil)
          rw [if_pos (by rfl)]
          go_simp
          refine (comp_any _ _ _ HOV.out HRB.out HR.out (by exact KT2.out.chg (chg_drew g w2) hg0)).mono ?_
          rintro e w3 ⟨rfl, hb3⟩
          refine hK.out _ _ trivial (fun hHeld => ?_)
          clear hK K
          have HG5 := hide (HG4.out.below hb3 HG4.out.lt)
          refine takeH 10 46 (.pointer (some ⟨g, 0, none⟩)) hHeld rfl rfl (by kernel_rfl) (by kernel_rfl) (by kernel_rfl) (fun _ _ _ h => h) (Or.inl ⟨by rfl, fun w _ => by go_simp⟩) ?_
          simp only [Act.put, List.setIfInBounds_toArray, List.set_cons_zero, List.set_cons_succ]
          refine takeH 11 47 (.pointer (some ⟨g, 1, none⟩)) hHeld rfl rfl (by kernel_rfl) (by kernel_rfl) (by kernel_rfl) (fun _ _ _ h => h) (Or.inl ⟨by rfl, fun w _ => by go_simp⟩) ?_
          simp only [Act.put, List.setIfInBounds_toArray, List.set_cons_zero, List.set_cons_succ]
          refine wpAnyH_ready (rs := [12]) (by kernel_rfl) (by simp) (AllReadyH.cons rfl (fun K hK => ?_) AllReadyH.nil)
          rw [if_pos (by rfl)]
          refine wp_storeW wW rfl (g := g) (off := 1) (vs := u32s (comp ws R)) rfl rfl HG5.out (by rw [u32s_length, comp_length _ _ HOV.out]) (One.u32 _) (by rw [stC_length _ _ _ _ HOV.out HR.out]; omega) ?_
          intro w4 hg4 hbut4
          rw [stC_setWords _ _ _ _ HOV.out _ (comp_length _ _ HOV.out)] at hg4
          refine hK.out _ _ trivial (fun hHeld => ?_)
          clear hK K
          refine wpAnyH_done (by kernel_rfl) ?_ _
          refine NoPanic.normal ?_
          clear hHeld
          have HC4 := hide ((HC2.out.trans ((chg_drew g w2).trans (Chg.of_below hb3))).trans (Chg.of_but hbut4))
          have HG6 := hide hg4
          clear hg4 hbut4 hb3 HG5
          go_wp2_with (first | (refine step_store wB64 (vs := u8s (zer 64)) rfl (g := g) (off := 10) rfl rfl HG6.out rfl (One.u8 _) (by rw [stC_length _ _ _ _ (comp_length _ _ HOV.out) HR.out]; omega) ?_; intro w5 hg5 hbut5) | (refine step_run rfl (.agg (u8s (zer 64)).toArray) _ (by kernel_rfl) ?_))
          rw [show 10 = 10 + 0 from rfl, stC_setRest _ _ _ _ (comp_length _ _ HOV.out) _ _ (by rw [zer_length, HR.out]; omega)] at hg5
          have HC5 := hide (HC4.out.trans (Chg.of_but hbut5))
          refine ⟨?_, ?_⟩
          rotate_left
          · show lenOf (.slice a2 (L - kk) (C - kk)) < lenOf (.slice a' L C)
            simp only [lenOf]
            omega
          iterate 49 (apply Exists.intro)
          refine ⟨?_, rfl⟩
          refine ⟨j + kk, a2, by have := QL.out; omega, by rw [EL.out.1, EL.out.2], ?_, ?_, ?_, HC.out.trans HC5.out⟩
          · rw [← EL.out.1, ← EL.out.2, ED.out]
            exact HS2.out.chg HC5.out HAP2.out
          · rw [← EL.out.1]
            exact HAP2.out
          · have ez : splB R (zer 64) 0 = zer 64 := by
              unfold splB
              rw [zer_length, List.drop_of_length_le (by rw [HR.out]; omega)]
              simp
            rw [ez] at hg5
            rw [EM.out, stM, HON.out.1, HON.out.2, ELn.out]
            exact hg5
        · rw [if_pos (by rfl)]
          refine wp_loadW wB64 rfl (g := g) (off := 10) rfl HG4.out (u8s R) (by rw [u8s_length]; exact HR.out) (stC_rest _ _ _ _ HOV.out HR.out) ?_
          refine hK.out _ _ trivial (fun hHeld => ?_)
          clear hK K
          simp only [Act.put, List.setIfInBounds_toArray]
          refine wpAnyH_ready (rs := [4]) (by kernel_rfl) (by simp) (AllReadyH.cons rfl (fun K hK => ?_) AllReadyH.nil)
          rw [if_pos (by rfl)]
          refine wp_loadW wW rfl (g := g) (off := 1) rfl HG4.out (u32s ws) (by rw [u32s_length]; exact HOV.out) (stC_words _ _ _ _ HOV.out) ?_
          refine hK.out _ _ trivial (fun hHeld => ?_)
          clear hK K
          simp only [Act.put]
          refine wpAnyH_ready (rs := [9]) (by kernel_rfl) (by simp) (AllReadyH.cons rfl (fun K hK => ?_) AllReadyH.nil)
          rw [if_pos (by rfl)]
          go_simp
          refine (comp_any _ _ _ HOV.out HRB.out HR.out (by exact KT2.out.chg (chg_drew g w2) hg0)).mono ?_
          rintro e w3 ⟨rfl, hb3⟩
          refine hK.out _ _ trivial (fun hHeld => ?_)
          clear hK K
          have HG5 := hide (HG4.out.below hb3 HG4.out.lt)
          refine takeH 10 46 (.pointer (some ⟨g, 0, none⟩)) hHeld rfl rfl (by kernel_rfl) (by kernel_rfl) (by kernel_rfl) (fun _ _ _ h => h) (Or.inl ⟨by rfl, fun w _ => by go_simp⟩) ?_
          simp only [Act.put, List.setIfInBounds_toArray, List.set_cons_zero, List.set_cons_succ]
          refine takeH 11 47 (.pointer (some ⟨g, 1, none⟩)) hHeld rfl rfl (by kernel_rfl) (by kernel_rfl) (by kernel_rfl) (fun _ _ _ h => h) (Or.inl ⟨by rfl, fun w _ => by go_simp⟩) ?_
          simp only [Act.put, List.setIfInBounds_toArray, List.set_cons_zero, List.set_cons_succ]
          refine wpAnyH_ready (rs := [12]) (by kernel_rfl) (by simp) (AllReadyH.cons rfl (fun K hK => ?_) AllReadyH.nil)
          rw [if_pos (by rfl)]
          refine wp_storeW wW rfl (g := g) (off := 1) (vs := u32s (comp ws R)) rfl rfl HG5.out (by rw [u32s_length, comp_length _ _ HOV.out]) (One.u32 _) (by rw [stC_length _ _ _ _ HOV.out HR.out]; omega) ?_
          intro w4 hg4 hbut4
          rw [stC_setWords _ _ _ _ HOV.out _ (comp_length _ _ HOV.out)] at hg4
          refine hK.out _ _ trivial (fun hHeld => ?_)
          clear hK K
          refine wpAnyH_done (by kernel_rfl) ?_ _
          refine NoPanic.normal ?_
          clear hHeld
          have HC4 := hide ((HC2.out.trans ((chg_drew g w2).trans (Chg.of_below hb3))).trans (Chg.of_but hbut4))
          have HG6 := hide hg4
          clear hg4 hbut4 hb3 HG5
          go_wp2_with (first | (refine step_store wB64 (vs := u8s (zer 64)) rfl (g := g) (off := 10) rfl rfl HG6.out rfl (One.u8 _) (by rw [stC_length _ _ _ _ (comp_length _ _ HOV.out) HR.out]; omega) ?_; intro w5 hg5 hbut5) | (refine step_run rfl (.agg (u8s (zer 64)).toArray) _ (by kernel_rfl) ?_))
          rw [show 10 = 10 + 0 from rfl, stC_setRest _ _ _ _ (comp_length _ _ HOV.out) _ _ (by rw [zer_length, HR.out]; omega)] at hg5
          have HC5 := hide (HC4.out.trans (Chg.of_but hbut5))
          refine ⟨?_, ?_⟩
          rotate_left
          · show lenOf (.slice a2 (L - kk) (C - kk)) < lenOf (.slice a' L C)
            simp only [lenOf]
            omega
          iterate 49 (apply Exists.intro)
          refine ⟨?_, rfl⟩
          refine ⟨j + kk, a2, by have := QL.out; omega, by rw [EL.out.1, EL.out.2], ?_, ?_, ?_, HC.out.trans HC5.out⟩
          · rw [← EL.out.1, ← EL.out.2, ED.out]
            exact HS2.out.chg HC5.out HAP2.out
          · rw [← EL.out.1]
            exact HAP2.out
          · have ez : splB R (zer 64) 0 = zer 64 := by
              unfold splB
              rw [zer_length, List.drop_of_length_le (by rw [HR.out]; omega)]
              simp
            rw [ez] at hg5
            rw [EM.out, stM, HON.out.1, HON.out.2, ELn.out]
            exact hg5
      · have hf1 : ((((N : Int) + (kk : Int)) % 64) == 0) = false := by simp; omega
        go_wp2
        have HIN := grow_in h M (ys.take kk) (by rw [HYT.out, ← Qmod.out]; omega)
        refine ⟨⟨j + kk, a2, by have := QL.out; omega, by rw [EL.out.1, EL.out.2], ?_, ?_, ?_, HC.out.trans HC2.out⟩, ?_⟩
        · rw [← EL.out.1, ← EL.out.2, ED.out]
          exact HS2.out.chg HC2.out HAP2.out
        · rw [← EL.out.1]
          exact HAP2.out
        · have := HG2.out
          rw [EM.out, stM, HIN.1, HIN.2, ELn.out, HYT.out]
          exact this
        · simp only [lenOf]
          omega
    · obtain rfl : j = len := by omega
      go_wp2
      go_end0
      have := HG.out
      rw [List.take_of_length_le (by rw [HX.out]; exact Nat.le_refl _)] at this
      exact ⟨rfl, this, HC.out⟩

end Go.Proofs.YthgfbcndoedacaaDoor

/-
  The bytes of a number, hash.putLength, hash.padding.
-/
namespace Go.Proofs.YthgfbcndoedacaaDoor
open Go.RowKit
set_option linter.unusedVariables false

/-- The bytes of a number, the highest first. -/
def be (v : Int) (n : Nat) : List Int := (List.range n).map fun i => v / 256 ^ (n - 1 - i) % 256
theorem be_length (v : Int) (n : Nat) : (be v n).length = n := by simp [be]
theorem be_isB (v : Int) (n : Nat) : isB (be v n) := by
  intro x hx
  simp only [be, List.mem_map, List.mem_range] at hx
  obtain ⟨i, _, rfl⟩ := hx
  omega
theorem be_get (v : Int) (n k : Nat) (h : k < n) : (be v n).getD k 0 = v / 256 ^ (n - 1 - k) % 256 := by simp [be, List.getD, h]

theorem pow2_8 (m : Nat) : (2 : Int) ^ (8 * m) = 256 ^ m := by rw [Int.pow_mul]; rfl

theorem spl_snoc (cs vs : List Value) (v : Value) (o : Nat) (h : o + vs.length < cs.length) : (spl cs vs o).set (o + vs.length) v = spl cs (vs ++ [v]) o := by
  unfold spl
  rw [List.set_append_right _ _ (by simp; omega)]
  have e : o + vs.length - (cs.take o ++ vs).length = 0 := by simp; omega
  rw [e, List.drop_eq_getElem_cons h]
  simp [Nat.add_assoc]
theorem spl_length (cs vs : List Value) (o : Nat) (h : o + vs.length ≤ cs.length) : (spl cs vs o).length = cs.length := by
  simp [spl]; omega
theorem u8s_take_succ (B : List Int) (k : Nat) (h : k < B.length) : u8s (B.take (k + 1)) = u8s (B.take k) ++ [.int .u8 (B.getD k 0)] := by
  rw [List.take_succ_eq_append_getElem h, u8s_app]
  congr 1
  simp [u8s, List.getD, h]

set_option maxHeartbeats 1000000 in
theorem putLength_any (g off len cap : Nat) (t : TypeId) (cs : List Value) (v : Int) (w : World) (hg : Blk w g t cs) (hl : 8 ≤ len) (ho : off + len ≤ cs.length) (hv : 0 ≤ v) (hv2 : v < 18446744073709551616) :
    Calls Tryd.prog 83 #[.slice (some ⟨g, off, none⟩) len cap, .int .u64 v] w fun e w' => e = .returned (.tuple #[]) ∧ Blk w' g t (spl cs (u8s (be v 8)) off) ∧ But g w w' := by
  go_enter Tryd.func83, Tryd.ntmps83
  go_wp2
  go_loopw [5] (fun i wr => ∃ k : Nat, k ≤ 8 ∧ i = .int .i64 k ∧ Blk wr g t (spl cs (u8s ((be v 8).take k)) off) ∧ But g w wr) (fun i _ => 8 - (intOf i).toNat)
  case atStart => exact ⟨0, by omega, rfl, by simpa [spl, u8s] using hg, But.refl _ _⟩
  case round =>
    obtain ⟨k, hk, rfl, hr1, hb1⟩ := hrel
    have HR := hide hr1
    have HB := hide hb1
    clear hr1 hb1 hg
    by_cases hlt : k < 8
    · have hk8 : ((be v 8).take k).length = k := by simp [be_length]; omega
      have hlen : (spl cs (u8s ((be v 8).take k)) off).length = cs.length := spl_length _ _ _ (by rw [u8s_length, hk8]; omega)
      obtain ⟨old, hcell⟩ : ∃ old, wr.cell? ⟨g, off + k, none⟩ = some old := ⟨_, by rw [HR.out.cell, List.getElem?_eq_getElem (by omega)]⟩
      have hfree : wr.frozen? ⟨g, off + k, none⟩ = false := HR.out.free _
      have HK8 := hide hk8
      clear hk8 hlen
      have hklen : (k : Int) < (len : Int) := by omega
      go_wp2
      refine ⟨⟨k + 1, by omega, by go_num, ?_, HB.out.trans (But.setCell _ _ _ _)⟩, ?_⟩
      · have e := HR.out.set (off + k) (.int .u8 ((be v 8).getD k 0))
        have e2 := spl_snoc cs (u8s ((be v 8).take k)) (.int .u8 ((be v 8).getD k 0)) off (by rw [u8s_length, HK8.out]; omega)
        rw [u8s_length, HK8.out, ← u8s_take_succ _ _ (by rw [be_length]; omega)] at e2
        rw [e2, be_get v 8 k hlt, ← pow2_8, show 8 * (8 - 1 - k) = 56 - 8 * k by omega] at e
        exact e
      · simp [intOf]; omega
    · obtain rfl : k = 8 := by omega
      go_wp2
      go_end0
      refine ⟨rfl, ?_, HB.out⟩
      have := HR.out
      rwa [List.take_of_length_le (by rw [be_length]; exact Nat.le_refl _)] at this

theorem Blk.sl0 {w : World} {g : Nat} {t : TypeId} {xs : List Int} (h : Blk w g t (u8s xs)) (hb : isB xs) (hl : xs.length ≤ 140737488355328) : Sl w (some ⟨g, 0, none⟩) xs.length xs.length xs :=
  h.sl 0 xs.length xs (by rw [List.drop_zero, List.take_of_length_le (by rw [u8s_length]; exact Nat.le_refl _)]) hb hl (Nat.le_refl _) (by omega)
theorem be_sl {w : World} {g n : Nat} {t : TypeId} {v : Int} (h : Blk w g t (u8s (be v n))) (hn : n ≤ 64) : Sl w (some ⟨g, 0, none⟩) n n (be v n) := by
  have := h.sl0 (be_isB v n) (by rw [be_length]; omega)
  rwa [be_length] at this

/-- How many noughts the padding of n bytes has. -/
def padZ (n : Nat) : Nat := (119 - n % 64) % 64
/-- The padding of n bytes. -/
def pad (n : Nat) : List Int := 128 :: (zer (padZ n) ++ be (8 * (n : Int)) 8)
theorem pad_length (n : Nat) : (pad n).length = padZ n + 9 := by simp [pad, zer_length, be_length]
theorem pad_isB (n : Nat) : isB (pad n) := by
  intro x hx
  rcases List.mem_cons.1 hx with rfl | hx
  · omega
  · exact ((zer_isB _).append (be_isB _ _)) x hx
theorem padZ_lt (n : Nat) : padZ n < 64 := by unfold padZ; omega
theorem pad_spl (n : Nat) : spl ((u8s (zer (padZ n + 9))).set 0 (.int .u8 128)) (u8s (be (8 * (n : Int)) 8)) (1 + padZ n) = u8s (pad n) := by
  have e1 : zer (padZ n + 9) = 0 :: (zer (padZ n) ++ zer 8) := by
    unfold zer
    rw [show padZ n + 9 = (padZ n + 8) + 1 by omega, List.replicate_succ, List.replicate_append_replicate]
  rw [e1, u8s_set, List.set_cons_zero]
  unfold spl
  rw [u8s_length, be_length, show (1 + padZ n + 8) = (padZ n + 8) + 1 by omega, show 1 + padZ n = padZ n + 1 by omega]
  simp only [u8s, List.map_cons, List.take_succ_cons, List.drop_succ_cons, List.map_append, pad]
  rw [List.take_append_of_le_length (by simp [zer]), List.take_of_length_le (by simp [zer]), List.drop_of_length_le (by simp [zer])]
  simp

set_option maxHeartbeats 1000000 in
theorem padding_any (n : Nat) (w : World) (hn : n ≤ 2305843009213693951) :
    Calls Tryd.prog 78 #[.int .i64 n] w fun e w' => ∃ g, e = .returned (.slice (some ⟨g, 0, none⟩) (padZ n + 9) (padZ n + 9)) ∧ w.heap.size ≤ g ∧ Blk w' g 5 (u8s (pad n)) ∧ Below w.heap.size w w' := by
  have hz : ((119 : Int) - (n : Int)) % 64 = (padZ n : Int) := by unfold padZ; omega
  have hz2 : ((119 : Int) - (n : Int) % 64) % 64 = (padZ n : Int) := by unfold padZ; omega
  have hp := padZ_lt n
  have HP := hide (pad_spl n)
  revert hz hz2 hp HP
  have HL := hide (pad_length n)
  generalize padZ n = z at *
  intro hz hz2 hp HP
  go_enter Tryd.func78, Tryd.ntmps78
  go_wp2_with (refine step_make (z + 9) rfl rfl rfl (by omega) (by omega) (by omega) ?_)
  intro w1 g hg hle hb
  have c0 : w1.cell? ⟨g, 0, none⟩ = some (.int .u8 0) := by rw [hg.cell]; rfl
  have f0 : w1.frozen? ⟨g, 0, none⟩ = false := hg.free 0
  have HG := hide (hg.set 0 (.int .u8 128))
  have HB := hide (hb.trans ((But.setCell w1 g 0 (.int .u8 128)).below hle))
  clear hg hb
  have hm : ((n : Int) * 8) % 18446744073709551616 = 8 * (n : Int) := by omega
  have hm2 : (8 * (n : Int)) % 18446744073709551616 = 8 * (n : Int) := by omega
  go_wp2_with (go_at_call 83; refine (putLength_any _ _ _ _ _ _ _ _ HG.out (by omega) (by rw [List.length_set, u8s_length, zer_length]; omega) (by omega) (by omega)).mono ?_; rintro e w2 ⟨rfl, hg2, hbut2⟩)
  go_ret
  rw [HP.out] at hg2
  exact ⟨g, rfl, hle, hg2, HB.out.trans (hbut2.below hle)⟩

end Go.Proofs.YthgfbcndoedacaaDoor

/-
  Words as bytes, the digest of a state, hash.Sum.
-/
namespace Go.Proofs.YthgfbcndoedacaaDoor
open Go.RowKit
set_option linter.unusedVariables false

/-- Words as bytes. -/
def wb (ws : List Int) : List Int := ws.flatMap fun x => be x 4
theorem wb_length : ∀ ws : List Int, (wb ws).length = 4 * ws.length
  | [] => rfl
  | x :: r => by
    have := wb_length r
    simp only [wb, List.flatMap_cons, List.length_append, be_length, List.length_cons] at this ⊢
    omega
theorem wb_isB (ws : List Int) : isB (wb ws) := by
  intro x hx
  simp only [wb, List.mem_flatMap] at hx
  obtain ⟨y, _, hy⟩ := hx
  exact be_isB y 4 x hy
theorem wb_get : ∀ (ws : List Int) (k : Nat), k < 4 * ws.length → (wb ws).getD k 0 = ws.getD (k / 4) 0 / 2 ^ (24 - 8 * (k % 4)) % 256
  | [], k, h => by simp at h
  | x :: r, k, h => by
    by_cases hk : k < 4
    · have e : (wb (x :: r)).getD k 0 = (be x 4).getD k 0 := by
        have : k < (be x 4).length := by rw [be_length]; exact hk
        simp [wb, List.getD, List.getElem?_append_left this]
      rw [e, be_get x 4 k hk, ← pow2_8, show k / 4 = 0 by omega, show 24 - 8 * (k % 4) = 8 * (4 - 1 - k) by omega]
      rfl
    · have e : (wb (x :: r)).getD k 0 = (wb r).getD (k - 4) 0 := by
        simp only [wb, List.flatMap_cons, List.getD]
        rw [List.getElem?_append_right (by rw [be_length]; omega), be_length]
      rw [List.length_cons] at h
      rw [e, wb_get r (k - 4) (by omega), show (k - 4) % 4 = k % 4 by omega]
      have : k / 4 = (k - 4) / 4 + 1 := by omega
      rw [this]
      rfl

theorem zD0 : Zeroed 33 (u8s (zer 32)) := fun _ _ _ _ _ _ _ => by kernel_rfl
theorem wD0 : Wide 33 32 := ⟨by kernel_rfl, by kernel_rfl⟩
theorem index_W8 (g i : Nat) (I : Int) (hI : I = (i : Int)) (hi : i < 8) (w : World) : (Instr.indexAt 119 (.pointer (some ⟨g, 0, none⟩)) (.int .i64 I)).run Tryd.prog w = .ok (.pointer (some ⟨g, i, none⟩)) w :=
  index_at (by kernel_rfl) (by kernel_rfl) (fun _ => by kernel_rfl) g i I hI hi w
theorem index_D (g i : Nat) (I : Int) (hI : I = (i : Int)) (hi : i < 32) (w : World) : (Instr.indexAt 33 (.pointer (some ⟨g, 0, none⟩)) (.int .i64 I)).run Tryd.prog w = .ok (.pointer (some ⟨g, i, none⟩)) w :=
  index_at (by kernel_rfl) (by kernel_rfl) (fun _ => by kernel_rfl) g i I hI hi w

set_option maxRecDepth 100000 in
set_option maxHeartbeats 1000000 in
theorem wordsBytes_any (ws : List Int) (w : World) (hw : ws.length = 8) :
    Calls Tryd.prog 79 #[.agg (u32s ws).toArray] w fun e w' => e = .returned (.agg (u8s (wb ws)).toArray) ∧ Below w.heap.size w w' := by
  have HW := hide hw
  have HWL := hide (show (wb ws).length = 32 by rw [wb_length, hw])
  clear hw
  go_enter Tryd.func79, Tryd.ntmps79
  go_wp2_with (refine step_box rfl rfl ?_)
  intro w1 g1 hg1 hle1 hb1
  go_wp2_with (refine step_alloc zD0 rfl ?_)
  intro w2 g2 hg2 hle2 hb2
  go_wp2_with (refine step_alloc zD0 rfl ?_)
  intro w3 g3 hg3 hle3 hb3
  have hne : g1 ≠ g3 := by have := hg1.lt; have := hb2.size; omega
  have hne2 : g2 ≠ g3 := by have := hg2.lt; omega
  have hg1' := (hg1.below hb2 hg1.lt).below hb3 (by have := hg1.lt; have := hb2.size; omega)
  have hg2' := hg2.below hb3 hg2.lt
  have hw3 : Below w.heap.size w w3 := hb1.trans ((hb2.mono hb1.size).trans (hb3.mono (Nat.le_trans hb1.size hb2.size)))
  have hle : w.heap.size ≤ g3 := by have := hb1.size; have := hb2.size; omega
  have hlt2 : w.heap.size ≤ g2 := by have := hb1.size; omega
  have HE := hide (⟨hg1', hg2', hw3⟩ : Blk w3 g1 119 (u32s ws) ∧ Blk w3 g2 33 (u8s (zer 32)) ∧ Below w.heap.size w w3)
  have H3 := hide hg3
  clear hg1 hg2 hg1' hg2' hb1 hb2 hb3 hle1 hle2 hle3 hw3 hg3
  go_wp2
  go_loopw [5] (fun i wr => ∃ k : Nat, k ≤ 32 ∧ i = .int .i64 k ∧ Blk wr g3 33 (spl (u8s (zer 32)) (u8s ((wb ws).take k)) 0) ∧ But g3 w3 wr) (fun i _ => 32 - (intOf i).toNat)
  case atStart => exact ⟨0, by omega, rfl, H3.out, But.refl _ _⟩
  case round =>
    clear H3
    obtain ⟨k, hk, rfl, hr1, hb1⟩ := hrel
    have HR := hide hr1
    have HB := hide hb1
    clear hr1 hb1
    have HSL : Hid ((u8s (zer 32)).length = 32) := hide rfl
    by_cases hlt : k < 32
    · have HK := hide (show ((wb ws).take k).length = k by rw [List.length_take, HWL.out]; omega)
      have hlen : (spl (u8s (zer 32)) (u8s ((wb ws).take k)) 0).length = 32 := by rw [spl_length _ _ _ (by rw [u8s_length, HK.out, HSL.out]; omega)]; exact HSL.out
      obtain ⟨old, hcell⟩ : ∃ old, wr.cell? ⟨g3, k, none⟩ = some old := ⟨_, by rw [HR.out.cell, List.getElem?_eq_getElem (by omega)]⟩
      clear hlen
      have hfree : wr.frozen? ⟨g3, k, none⟩ = false := HR.out.free k
      have cw : wr.cell? ⟨g1, k / 4, none⟩ = some (.int .u32 (ws.getD (k / 4) 0)) := by
        rw [(HE.out.1.but HB.out hne).cell]; exact u32s_get _ _ (by rw [HW.out]; omega)
      have htd : (k : Int).tdiv 4 = (k : Int) / 4 := Int.tdiv_eq_ediv_of_nonneg (by omega)
      have htm : (k : Int).tmod 4 = (k : Int) % 4 := Int.tmod_eq_emod_of_nonneg (by omega)
      have x1 := index_W8 g1 (k / 4) ((k : Int) / 4) (by omega) (by omega)
      have x2 := index_D g3 k (k : Int) rfl hlt
      have HGT := hide (wb_get ws k (by rw [HW.out]; omega))
      go_wp2
      refine ⟨⟨k + 1, by omega, by go_num, ?_, HB.out.trans (But.setCell _ _ _ _)⟩, ?_⟩
      · have e := HR.out.set k (.int .u8 ((wb ws).getD k 0))
        have e2 := spl_snoc (u8s (zer 32)) (u8s ((wb ws).take k)) (.int .u8 ((wb ws).getD k 0)) 0 (by rw [u8s_length, HK.out, HSL.out]; omega)
        rw [u8s_length, HK.out, Nat.zero_add, ← u8s_take_succ _ _ (by rw [HWL.out]; omega)] at e2
        rw [e2, HGT.out] at e
        exact e
      · simp [intOf]; omega
    · obtain rfl : k = 32 := by omega
      have e : spl (u8s (zer 32)) (u8s ((wb ws).take 32)) 0 = u8s (wb ws) := by
        rw [List.take_of_length_le (by rw [HWL.out]; exact Nat.le_refl _)]
        unfold spl
        rw [u8s_length, HWL.out, List.drop_of_length_le (by rw [HSL.out]; omega)]
        simp
      have HF := hide HR.out
      rw [e] at HF
      clear e
      have H2 := hide (HE.out.2.1.but HB.out hne2)
      go_wp2_with (first | (refine step_loadA wD0 rfl rfl HF.out (by rw [u8s_length]; exact HWL.out) ?_) | (refine step_storeA wD0 rfl rfl rfl H2.out (by rw [u8s_length]; exact HWL.out) (One.u8 _) rfl ?_; intro w4 hg4 hbut4))
      refine bodyPost_ret (results_wide rfl wD0 _ _ rfl hg4 (by rw [u8s_length]; exact HWL.out)) rfl ⟨rfl, ?_⟩
      exact HE.out.2.2.trans ((HB.out.below hle).trans (hbut4.below hlt2))

theorem One.st (t : Bool) (ws : List Int) (n : Int) (rest : List Int) : One (stC t ws n rest) := by
  intro v hv
  rcases List.mem_cons.1 hv with rfl | hv
  · rfl
  rcases List.mem_append.1 hv with hv | hv
  · exact One.u32 ws v hv
  rcases List.mem_cons.1 hv with rfl | hv
  · rfl
  · exact One.u8 rest v hv
theorem stM_length (h : List Int) (n0 : Nat) (m : List Int) (hh : h.length = 8) : (stM h n0 m).length = 74 := stC_length _ _ _ _ (ov_length _ _ hh _) (rs_length m)

theorem stM_nil : stM bL 0 [] = stC true bL 0 (zer 64) := rfl

set_option maxHeartbeats 1000000 in
theorem begun_any (w : World) : Calls Tryd.prog 70 #[] w fun e w' => e = .returned (.agg (stM bL 0 []).toArray) ∧ Below w.heap.size w w' := by
  rw [stM_nil]
  go_enter Tryd.func70, Tryd.ntmps70
  go_wp2_with (refine step_alloc zSt rfl ?_)
  intro w1 g1 hg1 hle1 hb1
  go_wp2_with fail
  refine (begin_any _).mono ?_
  rintro e w2 ⟨rfl, hb2⟩
  have G1 := hide (hg1.below hb2 hg1.lt)
  have HL := hide (stC_length true bL 0 (zer 64) rfl rfl)
  go_wp2_with (first | (refine step_storeA (vs := stC true bL 0 (zer 64)) wSt rfl rfl rfl G1.out HL.out (One.st _ _ _ _) rfl ?_; intro w3 hg3 hbut3) | (refine step_run rfl (.agg (stC true bL 0 (zer 64)).toArray) w2 (by kernel_rfl) ?_))
  refine bodyPost_ret (results_wide rfl wSt _ _ rfl hg3 HL.out) rfl ⟨rfl, ?_⟩
  exact hb1.trans ((hb2.mono hb1.size).trans (hbut3.below hle1))

/-- The digest of what began with words h behind n0 bytes, and has had m since. -/
def dg (h : List Int) (n0 : Nat) (m : List Int) : List Int := wb (ov h (m ++ pad (n0 + m.length)) (bk (m ++ pad (n0 + m.length))))
theorem dg_length (h : List Int) (n0 : Nat) (m : List Int) (hh : h.length = 8) : (dg h n0 m).length = 32 := by rw [dg, wb_length, ov_length _ _ hh]

set_option maxRecDepth 100000 in
set_option maxHeartbeats 1000000 in
theorem digest_any (h : List Int) (n0 : Nat) (m : List Int) (g : Nat) (w : World) (hg : Blk w g 126 (stM h n0 m)) (hh : h.length = 8) (hn0 : n0 % 64 = 0) (hmb : isB m) (hk : KT w) (hbd : n0 + m.length ≤ 2305843009213693951) :
    Calls Tryd.prog 72 #[.pointer (some ⟨g, 0, none⟩)] w fun e w' => e = .returned (.agg (u8s (dg h n0 m)).toArray) ∧ Below w.heap.size w w' := by
  have HH := hide hh
  have HMB := hide hmb
  have HG := hide hg
  have HK := hide hk
  clear hg hh hmb hk
  go_enter Tryd.func72, Tryd.ntmps72
  go_wp2_with (refine step_alloc zD rfl ?_)
  intro w1 g1 hg1 hle1 hb1
  have G1 := hide (HG.out.below hb1 HG.out.lt)
  have HL := hide (stM_length h n0 m HH.out)
  go_wp2_with (first | (refine step_loadA wSt rfl rfl G1.out HL.out ?_) | (refine step_alloc zSt rfl ?_))
  intro w2 g2 hg2 hle2 hb2
  go_wp2_with (refine step_storeA wSt rfl rfl rfl hg2 HL.out (One.st _ _ _ _) rfl ?_)
  intro w3 hg3 hbut3
  have hb13 : Below w1.heap.size w1 w3 := hb2.trans (hbut3.below hle2)
  have G3 := hide (G1.out.below hb13 G1.out.lt)
  have D3 := hide (hg1.below hb13 hg1.lt)
  have E3 := hide hg3
  have hw3 : Below w.heap.size w w3 := hb1.trans (hb13.mono hb1.size)
  have c9 : w3.cell? ⟨g, 9, none⟩ = some (.int .i64 ((n0 + m.length : Nat) : Int)) := by rw [G3.out.cell]; exact stC_size _ _ _ _ (ov_length _ _ HH.out _)
  have hg20 : g2 ≠ 2 := by have := HK.out.lt; have := hb1.size; omega
  have hwg2 : w.heap.size ≤ g2 := by have := hb1.size; omega
  have hg12 : g1 ≠ g2 := by have := hg1.lt; omega
  clear hg1 hg2 hg3 hb13 hb1 hb2 hbut3 hle2
  have HQ := hide (pad_length (n0 + m.length))
  have HPB := hide (pad_isB (n0 + m.length))
  generalize hN : n0 + m.length = N at *
  go_wp2_with fail
  refine (padding_any N _ hbd).mono ?_
  rintro e w4 ⟨g4, rfl, hle4, hg4, hb4⟩
  have S4 := hide (hg4.sl0 HPB.out (by rw [HQ.out]; have := padZ_lt N; omega))
  rw [HQ.out] at S4
  have E4 := hide (E3.out.below hb4 E3.out.lt)
  have D4 := hide (D3.out.below hb4 D3.out.lt)
  have hw4 : Below w.heap.size w w4 := hw3.trans (hb4.mono hw3.size)
  have K4 := hide (HK.out.below hw4 HK.out.lt)
  have hz := padZ_lt N
  have hap : Apart g2 (some ⟨g4, 0, none⟩) := by
    intro x hx
    cases hx
    have := E3.out.lt
    show g4 ≠ g2
    omega
  clear hb4 hg4 hw3 E3 D3 G3 c9
  go_wp2_with fail
  refine (take_any h n0 m g2 _ _ _ _ _ E4.out HH.out hn0 HMB.out S4.out (fun _ => hap) K4.out hg20 (by omega)).mono ?_
  rintro e w5 ⟨rfl, hg5, hc5⟩
  have D5 := hide (D4.out.chg hc5 hg12)
  have W5 := hide hg5
  have hw5 : Below w.heap.size w w5 := hw4.trans (hc5.below hwg2 hw4.size)
  clear hg5 hc5 hw4 E4 D4 S4 K4
  have HOL := hide (ov_length h (m ++ pad N) HH.out (bk (m ++ pad N)))
  go_wp2_with (first | (refine step_load wW rfl (g := g2) (off := 1) rfl W5.out (u32s (ov h (m ++ pad N) (bk (m ++ pad N)))) (by rw [u32s_length]; exact HOL.out) (stC_words _ _ _ _ HOL.out) ?_) | (go_at_call 79; refine (wordsBytes_any _ _ HOL.out).mono ?_; rintro e w6 ⟨rfl, hb6⟩; have D6 := hide (D5.out.below hb6 D5.out.lt)) | (refine step_storeA wD rfl rfl rfl D6.out (by rw [u8s_length, wb_length, HOL.out]) (One.u8 _) rfl ?_; intro w7 hg7 hbut7))
  refine bodyPost_ret (results_wide rfl wD _ _ rfl hg7 (by rw [u8s_length, wb_length, HOL.out])) rfl ⟨by rw [dg, hN], ?_⟩
  exact hw5.trans ((hb6.mono hw5.size).trans (hbut7.below hle1))

end Go.Proofs.YthgfbcndoedacaaDoor

/-
  The program's Sum.
-/
namespace Go.Proofs.YthgfbcndoedacaaDoor
open Go.RowKit
set_option linter.unusedVariables false

set_option maxHeartbeats 1000000 in
theorem sum_any (a : Option Addr) (len cap : Nat) (xs : List Int) (w : World) (hs : Sl w a len cap xs) (hk : KT w) :
    Calls Tryd.prog 59 #[.slice a len cap] w fun e w' => e = .returned (.agg (u8s (dg bL 0 xs)).toArray) ∧ Below w.heap.size w w' := by
  have HS := hide hs
  have HK := hide hk
  have HX := hide hs.hlen
  have HXB := hide hs.hbyte
  have HD := hide (dg_length bL 0 xs rfl)
  have hr := hs.hreach
  clear hs hk
  go_enter Tryd.func59, Tryd.ntmps59
  go_wp2_with (refine step_alloc zD rfl ?_)
  intro w1 g1 hg1 hle1 hb1
  go_wp2_with fail
  refine (begun_any _).mono ?_
  rintro e w2 ⟨rfl, hb2⟩
  have hb12 : Below w.heap.size w w2 := hb1.trans (hb2.mono hb1.size)
  have G1 := hide (hg1.below hb2 hg1.lt)
  have HL := hide (stM_length bL 0 [] rfl)
  go_wp2_with (refine step_alloc zSt rfl ?_)
  intro w3 g3 hg3 hle3 hb3
  go_wp2_with (refine step_storeA wSt rfl rfl rfl hg3 HL.out (One.st _ _ _ _) rfl ?_)
  intro w4 hg4 hbut4
  have hb24 : Below w2.heap.size w2 w4 := hb3.trans (hbut4.below hle3)
  have G14 := hide (G1.out.below hb24 G1.out.lt)
  have G4 := hide hg4
  have HB4 := hide (hb12.trans (hb24.mono hb12.size))
  have S4 := hide (HS.out.below HB4.out)
  have K4 := hide (HK.out.below HB4.out HK.out.lt)
  have hg30 : g3 ≠ 2 := by have := HK.out.lt; have := hb12.size; omega
  have hw3 : w.heap.size ≤ g3 := by have := hb12.size; omega
  have hg13 : g1 ≠ g3 := by have := G1.out.lt; omega
  have hap := HS.out.apart hw3
  clear hg1 hb1 hb2 hg3 hb3 hle3 hg4 hbut4 hb12 hb24 G1
  go_wp2_with fail
  refine (take_any bL 0 [] g3 _ _ _ _ _ G4.out rfl rfl (by intro x hx; simp at hx) S4.out hap K4.out hg30 (by simp; omega)).mono ?_
  rintro e w5 ⟨rfl, hg5, hc5⟩
  rw [List.nil_append] at hg5
  have G5 := hide hg5
  have G15 := hide (G14.out.chg hc5 hg13)
  have HB5 := hide (HB4.out.trans (hc5.below hw3 HB4.out.size))
  have K5 := hide (HK.out.below HB5.out HK.out.lt)
  clear hg5 hc5 G4 G14 HB4 S4 K4 hap
  go_wp2_with (first | (go_at_call 72; refine (digest_any bL 0 xs g3 _ G5.out rfl rfl HXB.out K5.out (by rw [HX.out]; omega)).mono ?_; rintro e w6 ⟨rfl, hb6⟩; have G16 := hide (G15.out.below hb6 G15.out.lt)) | (refine step_storeA wD rfl rfl rfl G16.out (by rw [u8s_length]; exact HD.out) (One.u8 _) rfl ?_; intro w7 hg7 hbut7))
  refine bodyPost_ret (results_wide rfl wD _ _ rfl hg7 (by rw [u8s_length]; exact HD.out)) rfl ⟨rfl, ?_⟩
  exact HB5.out.trans ((hb6.mono HB5.out.size).trans (hbut7.below hle1))

end Go.Proofs.YthgfbcndoedacaaDoor

/-
  The document's turning of words.
-/
namespace Go.Proofs.YthgfbcndoedacaaDoor
open Go.RowKit
set_option linter.unusedVariables false

set_option maxHeartbeats 400000 in
theorem ror2_any (x : Int) (w : World) :
    Calls Tryd.prog 86 #[.int .u32 x, .int .u64 2] w fun e w' => e = .returned (.int .u32 (ror x 2)) ∧ w = w' := by
  rw [ror_2]
  go_enter Tryd.func86, Tryd.ntmps86
  go_wp2
  go_ret
  exact ⟨rfl, rfl⟩

set_option maxHeartbeats 400000 in
theorem ror6_any (x : Int) (w : World) :
    Calls Tryd.prog 86 #[.int .u32 x, .int .u64 6] w fun e w' => e = .returned (.int .u32 (ror x 6)) ∧ w = w' := by
  rw [ror_6]
  go_enter Tryd.func86, Tryd.ntmps86
  go_wp2
  go_ret
  exact ⟨rfl, rfl⟩

set_option maxHeartbeats 400000 in
theorem ror7_any (x : Int) (w : World) :
    Calls Tryd.prog 86 #[.int .u32 x, .int .u64 7] w fun e w' => e = .returned (.int .u32 (ror x 7)) ∧ w = w' := by
  rw [ror_7]
  go_enter Tryd.func86, Tryd.ntmps86
  go_wp2
  go_ret
  exact ⟨rfl, rfl⟩

set_option maxHeartbeats 400000 in
theorem ror11_any (x : Int) (w : World) :
    Calls Tryd.prog 86 #[.int .u32 x, .int .u64 11] w fun e w' => e = .returned (.int .u32 (ror x 11)) ∧ w = w' := by
  rw [ror_11]
  go_enter Tryd.func86, Tryd.ntmps86
  go_wp2
  go_ret
  exact ⟨rfl, rfl⟩

set_option maxHeartbeats 400000 in
theorem ror13_any (x : Int) (w : World) :
    Calls Tryd.prog 86 #[.int .u32 x, .int .u64 13] w fun e w' => e = .returned (.int .u32 (ror x 13)) ∧ w = w' := by
  rw [ror_13]
  go_enter Tryd.func86, Tryd.ntmps86
  go_wp2
  go_ret
  exact ⟨rfl, rfl⟩

set_option maxHeartbeats 400000 in
theorem ror17_any (x : Int) (w : World) :
    Calls Tryd.prog 86 #[.int .u32 x, .int .u64 17] w fun e w' => e = .returned (.int .u32 (ror x 17)) ∧ w = w' := by
  rw [ror_17]
  go_enter Tryd.func86, Tryd.ntmps86
  go_wp2
  go_ret
  exact ⟨rfl, rfl⟩

set_option maxHeartbeats 400000 in
theorem ror18_any (x : Int) (w : World) :
    Calls Tryd.prog 86 #[.int .u32 x, .int .u64 18] w fun e w' => e = .returned (.int .u32 (ror x 18)) ∧ w = w' := by
  rw [ror_18]
  go_enter Tryd.func86, Tryd.ntmps86
  go_wp2
  go_ret
  exact ⟨rfl, rfl⟩

set_option maxHeartbeats 400000 in
theorem ror19_any (x : Int) (w : World) :
    Calls Tryd.prog 86 #[.int .u32 x, .int .u64 19] w fun e w' => e = .returned (.int .u32 (ror x 19)) ∧ w = w' := by
  rw [ror_19]
  go_enter Tryd.func86, Tryd.ntmps86
  go_wp2
  go_ret
  exact ⟨rfl, rfl⟩

set_option maxHeartbeats 400000 in
theorem ror22_any (x : Int) (w : World) :
    Calls Tryd.prog 86 #[.int .u32 x, .int .u64 22] w fun e w' => e = .returned (.int .u32 (ror x 22)) ∧ w = w' := by
  rw [ror_22]
  go_enter Tryd.func86, Tryd.ntmps86
  go_wp2
  go_ret
  exact ⟨rfl, rfl⟩

set_option maxHeartbeats 400000 in
theorem ror25_any (x : Int) (w : World) :
    Calls Tryd.prog 86 #[.int .u32 x, .int .u64 25] w fun e w' => e = .returned (.int .u32 (ror x 25)) ∧ w = w' := by
  rw [ror_25]
  go_enter Tryd.func86, Tryd.ntmps86
  go_wp2
  go_ret
  exact ⟨rfl, rfl⟩

theorem ror_any (x v : Int) (h : turns.elem v = true) (w : World) : Calls Tryd.prog 86 #[.int .u32 x, .int .u64 v] w fun e w' => e = .returned (.int .u32 (ror x v.toNat)) ∧ w = w' := by
  simp only [turns, List.elem_eq_mem, List.mem_cons, List.not_mem_nil, or_false, decide_eq_true_eq] at h
  rcases h with rfl | rfl | rfl | rfl | rfl | rfl | rfl | rfl | rfl | rfl
  · exact ror2_any x w
  · exact ror6_any x w
  · exact ror7_any x w
  · exact ror11_any x w
  · exact ror13_any x w
  · exact ror17_any x w
  · exact ror18_any x w
  · exact ror19_any x w
  · exact ror22_any x w
  · exact ror25_any x w

end Go.Proofs.YthgfbcndoedacaaDoor

/-
  The document's own Read, and its schedule of a block.
-/
namespace Go.Proofs.YthgfbcndoedacaaDoor
open Go.RowKit
set_option linter.unusedVariables false

theorem mul_step (v x : Int) (h0 : 0 ≤ v) (h1 : v < 72057594037927936) (h2 : 0 ≤ x) (h3 : x ≤ 255) :
    IntKind.u64.wrap (IntKind.u64.wrap (v * 256) + IntKind.u64.wrap x) = v * 256 + x := by
  rw [IntKind.wrap_u64, IntKind.wrap_u64, IntKind.wrap_u64, Int.emod_eq_of_lt (by omega) (by omega), Int.emod_eq_of_lt (by omega) (by omega)]
  omega

set_option maxHeartbeats 400000 in
theorem read_any (a : Option Addr) (len cap : Nat) (xs : List Int) (p : Int) (n : Nat) (w : World) (hs : Sl w a len cap xs) (hn : n ≤ 8) (hn0 : 0 < n) :
    Calls Tryd.prog 39 #[.slice a len cap, .int .i64 p, .int .i64 n] w fun e w' => e = .returned (.tuple #[.int .u64 (rdV xs p n), .int .i64 (rdN len p n), .int .i64 (rdE len p n)]) ∧ w = w' := by
  obtain ⟨hx, _, _, hl, hb, _, hc⟩ := hs
  by_cases h : p < 0 ∨ (len : Int) < p ∨ (len : Int) - p < n
  · have e1 : rdV xs p n = 0 := by simp [rdV, hx]; omega
    have e2 : rdN len p n = 0 := by simp [rdN]; omega
    rw [e1, e2]
    clear e1 e2 hc
    by_cases h1 : p < 0
    · have e3 : rdE len p n = 2 := by simp [rdE, h1]
      rw [e3]
      clear e3
      go_enter Tryd.func39, Tryd.ntmps39
      go_wp2
      go_ret3
      exact ⟨rfl, rfl⟩
    by_cases h2 : (len : Int) < p
    · have e3 : rdE len p n = 2 := by simp [rdE, h2]
      rw [e3]
      clear e3
      go_enter Tryd.func39, Tryd.ntmps39
      go_wp2
      go_ret3
      exact ⟨rfl, rfl⟩
    · have h3 : (len : Int) - p < n := by omega
      have e3 : rdE len p n = 10 := by simp [rdE, h1, h2, h3]
      rw [e3]
      clear e3 h
      go_enter Tryd.func39, Tryd.ntmps39
      go_wp2
      go_ret3
      exact ⟨rfl, rfl⟩
  · obtain ⟨p, rfl⟩ := Int.eq_ofNat_of_zero_le (show 0 ≤ p by omega)
    obtain ⟨b, off, rfl, hce⟩ := hc (by omega)
    clear hc
    have e1 : rdV xs p n = beVal ((xs.drop p).take n) := by simp only [rdV, hx]; rw [if_pos (by omega)]; simp
    have e2 : rdN len p n = p + n := by simp [rdN]; omega
    have e3 : rdE len p n = 0 := by simp [rdE]; omega
    rw [e1, e2, e3]
    clear e1 e2 e3
    have h1 : ¬ ((p : Int) < 0) := by omega
    have h2 : ¬ ((len : Int) < p) := by omega
    have h3 : ¬ ((len : Int) - p < n) := by omega
    clear h
    go_enter Tryd.func39, Tryd.ntmps39
    go_wp2
    go_loop [9, 10] (fun v i => ∃ k : Nat, k ≤ n ∧ i = .int .i64 k ∧ v = .int .u64 (beVal ((xs.drop p).take k))) (fun _ i => n - (intOf i).toNat)
    case atStart => exact ⟨0, Nat.zero_le _, rfl, by simp [beVal]⟩
    case round =>
      obtain ⟨k, hk, rfl, rfl⟩ := hrel
      by_cases hlt : k < n
      · have hck := hce (p + k) (by omega)
        have HS : Hid _ := beVal_step xs p k (by omega)
        have H2 : Hid _ := hb.get (p + k)
        have H3 : Hid _ := beVal_take_bd xs hb p k (by omega) (by omega)
        go_wp2
        go_round
        case rel =>
          refine ⟨k + 1, by omega, by go_num, ?_⟩
          rw [HS.out, ← mul_step _ _ H3.out.1 H3.out.2 H2.out.1 H2.out.2]
          rfl
        case measure => simp [intOf]; omega
      · have hkn : k = n := by omega
        subst hkn
        clear hce
        go_wp2
        go_ret3
        exact ⟨rfl, rfl⟩


theorem rd4 (blk : List Int) (t : Nat) (h : 4 * t + 4 ≤ blk.length) : rdV blk (4 * t : Nat) 4 = wordAt blk t := by
  simp only [rdV, wordAt]
  rw [if_pos (by omega)]
  rfl
theorem rdV4_bd (xs : List Int) (hb : isB xs) (p : Int) : 0 ≤ rdV xs p 4 ∧ rdV xs p 4 < 4294967296 := by
  have := rdV_bd xs hb p 4
  simpa using this

set_option maxRecDepth 100000 in
set_option maxHeartbeats 2000000 in
theorem schedR_any (blk : List Int) (w : World) (hb : isB blk) (hl : blk.length = 64) :
    Calls Tryd.prog 84 #[.agg (u8s blk).toArray] w fun e w' => e = .returned (.agg (u32s (sched blk)).toArray) ∧ Below w.heap.size w w' := by
  have HB := hide hb
  have HL := hide hl
  clear hb hl
  go_enter Tryd.func84, Tryd.ntmps84
  go_wp2_with (refine step_box rfl rfl ?_)
  intro w1 g1 hg1 hle1 hb1
  go_wp2_with (refine step_alloc zK rfl ?_)
  intro w2 g2 hg2 hle2 hb2
  go_wp2_with (refine step_alloc zK rfl ?_)
  intro w3 g3 hg3 hle3 hb3
  have hne : g1 ≠ g3 := by have := hg1.lt; have := hb2.size; omega
  have hne2 : g2 ≠ g3 := by have := hg2.lt; omega
  have hg1' := (hg1.below hb2 hg1.lt).below hb3 (by have := hg1.lt; have := hb2.size; omega)
  have hg2' := hg2.below hb3 hg2.lt
  have hw3 : Below w.heap.size w w3 := hb1.trans ((hb2.mono hb1.size).trans (hb3.mono (Nat.le_trans hb1.size hb2.size)))
  have hle : w.heap.size ≤ g3 := by have := hb1.size; have := hb2.size; omega
  have hlt2 : w.heap.size ≤ g2 := by have := hb1.size; omega
  have HE := hide (⟨hg1', hg2', hw3⟩ : Blk w3 g1 124 (u8s blk) ∧ Blk w3 g2 136 (u32s (zer 64)) ∧ Below w.heap.size w w3)
  have H3 := hide hg3
  clear hg1 hg2 hg1' hg2' hb1 hb2 hb3 hle1 hle2 hle3 hw3 hg3
  go_wp2
  go_loopw [4] (fun i wr => ∃ k : Nat, k ≤ 64 ∧ i = .int .i64 k ∧ Blk wr g3 136 (u32s (wz blk k)) ∧ But g3 w3 wr) (fun i _ => 64 - (intOf i).toNat)
  case atStart => exact ⟨0, by omega, rfl, H3.out, But.refl _ _⟩
  case round =>
    obtain ⟨k, hk, rfl, hg, hbut⟩ := hrel
    have HG := hide hg
    have HBut := hide hbut
    clear hg hbut
    by_cases hlt : k < 64
    · have hlt' : (k : Int) < 64 := by omega
      have cel : ∀ i, i < 64 → wr.cell? ⟨g3, i, none⟩ = some (.int .u32 ((wz blk k).getD i 0)) := fun i hi => by
        rw [HG.out.cell]; exact u32s_get _ _ (by rw [wz_length _ _ (by omega)]; omega)
      have c0 := cel k (by omega)
      have hfree : wr.frozen? ⟨g3, k, none⟩ = false := HG.out.free k
      by_cases h16 : k < 16
      · clear cel
        have h16' : (k : Int) < 16 := by omega
        have HS := hide (sl_blk (HE.out.1.but HBut.out hne) HB.out HL.out 0 (by omega))
        have HR := hide (rdV4_bd blk HB.out (4 * (k : Int)))
        go_wp2_with (go_at_call 39; refine (read_any _ _ _ _ _ 4 _ HS.out (by omega) (by omega)).mono ?_; rintro e w' ⟨rfl, rfl⟩)
        go_roundw
        case rel =>
          refine ⟨k + 1, by omega, by go_num, ?_, HBut.out.trans (But.setCell _ _ _ _)⟩
          have e : wnext blk (wl blk k) k = rdV blk (4 * (k : Int)) 4 := by
            rw [wnext, if_pos h16, ← rd4 blk k (by rw [HL.out]; omega)]
            simp
          have := HG.out.set k (.int .u32 (rdV blk (4 * (k : Int)) 4))
          rw [u32s_set, ← e, wz_succ _ _ (by omega), e] at this
          rw [Int.emod_eq_of_lt HR.out.1 HR.out.2]
          exact this
        case measure => simp [intOf]; omega
      · have h16' : ¬ (k : Int) < 16 := by omega
        have c2 := cel (k - 2) (by omega)
        have c7 := cel (k - 7) (by omega)
        have c15 := cel (k - 15) (by omega)
        have c16 := cel (k - 16) (by omega)
        have x2 := index_K g3 (k - 2) ((k : Int) - 2) (by omega) (by omega)
        have x7 := index_K g3 (k - 7) ((k : Int) - 7) (by omega) (by omega)
        have x15 := index_K g3 (k - 15) ((k : Int) - 15) (by omega) (by omega)
        have x16 := index_K g3 (k - 16) ((k : Int) - 16) (by omega) (by omega)
        have x0 := index_K g3 k (k : Int) rfl (by omega)
        have z2 : IntKind.i64.wrap ((k : Int) - 2) = (k : Int) - 2 := wrap_in _ (by omega) (by omega)
        have z7 : IntKind.i64.wrap ((k : Int) - 7) = (k : Int) - 7 := wrap_in _ (by omega) (by omega)
        have z15 : IntKind.i64.wrap ((k : Int) - 15) = (k : Int) - 15 := wrap_in _ (by omega) (by omega)
        have z16 : IntKind.i64.wrap ((k : Int) - 16) = (k : Int) - 16 := wrap_in _ (by omega) (by omega)
        clear cel
        go_wp2_with fail
        go_region_held3 (fun v : World => v.cell? ⟨g3, k - 7, none⟩ = some (.int .u32 ((wz blk k).getD (k - 7) 0)) ∧ v.cell? ⟨g3, k - 16, none⟩ = some (.int .u32 ((wz blk k).getD (k - 16) 0))) (first | exact ⟨c7, c16⟩ | exact ⟨(cell_ne _ _ _ _ _ (by omega)).trans c7, (cell_ne _ _ _ _ _ (by omega)).trans c16⟩) (first | (go_at_call 86; refine (ror_any _ _ (by decide) _).mono ?_; rintro e w' ⟨rfl, rfl⟩))
        go_wp2
        refine ⟨⟨k + 1, by omega, by go_num, ?_, (HBut.out.trans (But.setCell _ _ _ _)).drewN 1⟩, ?_⟩
        · have e : wnext blk (wl blk k) k = IntKind.u32.wrap (IntKind.u32.wrap (IntKind.u32.wrap (s1 ((wz blk k)[k - 2]?.getD 0) + (wz blk k)[k - 7]?.getD 0) + s0 ((wz blk k)[k - 15]?.getD 0)) + (wz blk k)[k - 16]?.getD 0) := by
            rw [wnext, if_neg (by omega), ← wz_get _ _ _ (by omega), ← wz_get _ _ _ (by omega), ← wz_get _ _ _ (by omega), ← wz_get _ _ _ (by omega)]
            rfl
          have := HG.out.set k (.int .u32 (wnext blk (wl blk k) k))
          rw [u32s_set, wz_succ _ _ (by omega)] at this
          simp only [IntKind.wrap_u32'] at e
          rw [e] at this
          exact this
        · simp [intOf]; omega
    · obtain rfl : k = 64 := by omega
      have HF := hide HG.out
      rw [wz_all] at HF
      have H2 := hide (HE.out.2.1.but HBut.out hne2)
      go_wp2_with (first | (refine step_loadA wK rfl rfl HF.out (by rw [u32s_length, sched_length]) ?_) | (refine step_storeA wK rfl rfl rfl H2.out (by rw [u32s_length, sched_length]) (One.u32 _) rfl ?_; intro w4 hg4 hbut4))
      refine bodyPost_ret (results_wide rfl wK _ _ rfl hg4 (by rw [u32s_length, sched_length])) rfl ⟨rfl, ?_⟩
      exact HE.out.2.2.trans ((HBut.out.below hle).trans (hbut4.below hlt2))

end Go.Proofs.YthgfbcndoedacaaDoor

/-
  The compression of a block: the document's.
-/
namespace Go.Proofs.YthgfbcndoedacaaDoor
open Go.RowKit
set_option linter.unusedVariables false

set_option maxRecDepth 100000 in
set_option maxHeartbeats 2000000 in
theorem consts_any (w : World) : Calls Tryd.prog 85 #[] w fun e w' => e = .returned (.agg (u32s kL).toArray) ∧ Below w.heap.size w w' := by
  go_enter Tryd.func85, Tryd.ntmps85
  go_wp2_with (refine step_alloc zK rfl ?_)
  intro w1 g1 hg1 hle1 hb1
  go_wp2_with (first | (refine step_storeA (vs := u32s kL) wK rfl rfl rfl hg1 rfl (One.u32 _) rfl ?_; intro w2 hg2 hbut2) | (refine step_run rfl (.agg (u32s kL).toArray) _ (by kernel_rfl) ?_))
  refine bodyPost_ret (results_wide rfl wK _ _ rfl hg2 rfl) rfl ⟨rfl, ?_⟩
  exact hb1.trans (hbut2.below hle1)

end Go.Proofs.YthgfbcndoedacaaDoor
