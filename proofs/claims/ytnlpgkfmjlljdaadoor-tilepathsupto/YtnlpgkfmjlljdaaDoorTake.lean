/-
  The contract of take: bytes come behind what came, block by block.
-/
import Derived.Test.YtnlpgkfmjlljdaaDoorOv
namespace Go.Proofs.YtnlpgkfmjlljdaaDoor
open Go.RowKit
set_option linter.unusedVariables false

/-- Another world: of what was there only block g has turned. -/
structure Chg (g : Nat) (w w' : World) : Prop where
  os : w'.os = w.os
  tape : w'.tape = w.tape
  output : w'.output = w.output
  size : w.heap.size ≤ w'.heap.size
  block : ∀ k, k < w.heap.size → k ≠ g → w'.heap[k]? = w.heap[k]?
theorem Chg.refl (g : Nat) (w : World) : Chg g w w := ⟨rfl, rfl, rfl, Nat.le_refl _, fun _ _ _ => rfl⟩
theorem Chg.trans {g : Nat} {a b c : World} (h : Chg g a b) (k : Chg g b c) : Chg g a c :=
  ⟨k.os.trans h.os, k.tape.trans h.tape, k.output.trans h.output, Nat.le_trans h.size k.size, fun i hi hg => (k.block i (Nat.lt_of_lt_of_le hi h.size) hg).trans (h.block i hi hg)⟩
theorem Chg.of_but {g : Nat} {w w' : World} (h : But g w w') : Chg g w w' := ⟨h.os, h.tape, h.output, Nat.le_of_eq h.size.symm, fun k _ hk => h.block k hk⟩
theorem Chg.of_below {g : Nat} {w w' : World} (h : Below w.heap.size w w') : Chg g w w' := ⟨h.os, h.tape, h.output, h.size, fun k hk _ => h.block k hk⟩
theorem Chg.below {g B : Nat} {w w' : World} (h : Chg g w w') (hg : B ≤ g) (hB : B ≤ w.heap.size) : Below B w w' := ⟨h.os, h.tape, h.output, h.size, fun k hk => h.block k (by omega) (by omega)⟩
theorem Blk.chg {g k : Nat} {w w' : World} {t : TypeId} {cs : List Value} (h : Blk w k t cs) (hc : Chg g w w') (hk : k ≠ g) : Blk w' k t cs := by
  unfold Blk; rw [hc.block k h.lt hk]; exact h
theorem Sl.chg {g : Nat} {w w' : World} {a : Option Addr} {len cap : Nat} {xs : List Int} (h : Sl w a len cap xs) (hc : Chg g w w') (hk : 0 < len → Apart g a) : Sl w' a len cap xs := by
  obtain ⟨h1, h2, h3, h4, h5, h6, h7⟩ := h
  refine ⟨h1, h2, h3, h4, h5, h6, fun h => ?_⟩
  obtain ⟨b, off, e, hce⟩ := h7 h
  refine ⟨b, off, e, fun i hi => ?_⟩
  rw [World.cell?_of_block (w := w) (hc.block b (World.block_lt_of_cell? w _ (hce i hi)) (hk h ⟨b, off, none⟩ e))]
  exact hce i hi
theorem KT.chg {g : Nat} {w w' : World} (h : KT w) (hc : Chg g w w') (hg : g ≠ 6) : KT w' := fun i hi => by
  rw [World.cell?_of_block (w := w) (hc.block 6 h.lt (fun e => hg e.symm))]; exact h i hi
/-- How long a slice is. -/
def lenOf : Value → Nat
  | .slice _ n _ => n
  | _ => 0
theorem chg_drew (g : Nat) (w : World) : Chg g w w.drew := ⟨rfl, rfl, rfl, Nat.le_refl _, fun _ _ _ => rfl⟩

theorem und22 : Tryd.prog.underlying 36 = some (.slice (Tryd.prog.elem 36)) := by kernel_rfl
theorem elem22 : Tryd.prog.elem 36 = 5 := by kernel_rfl
/-- b[k:] -/
theorem slice_from {w : World} {a : Option Addr} {len cap : Nat} {xs : List Int} (h : Sl w a len cap xs) (k : Nat) (K : Int) (hK : K = (k : Int)) (hk : k ≤ len) :
    ∃ a', (∀ v : World, (Instr.slice 36 (.slice a len cap) (some (.int .i64 K)) none none).run Tryd.prog v = .ok (.slice a' (len - k) (cap - k)) v) ∧ Sl w a' (len - k) (cap - k) (xs.drop k) ∧ (∀ g, (0 < len → Apart g a) → 0 < len - k → Apart g a') := by
  subst hK
  have hrun : ∀ v : World, (Instr.slice 36 (.slice a len cap) (some (.int .i64 k)) none none).run Tryd.prog v = .ok (sliced a k len cap 1) v := fun v => by
    rw [run_slice_l v _ _ _ _ und22 .i64 k (by omega) (by omega), elem22, sizeB]
    simp
  obtain ⟨h1, h2, h3, h4, h5, h6, h7⟩ := h
  by_cases hc : k < cap
  · cases a with
    | none => have := h6 rfl; omega
    | some ad =>
      have es : sliced (some ad) k len cap 1 = .slice (some (ad.add k)) (len - k) (cap - k) := by
        simp only [sliced, Nat.mul_one]
        have : ¬ (cap = k) := by omega
        simp [this]
      refine ⟨some (ad.add k), fun v => by rw [hrun v, es], ?_, ?_⟩
      · refine ⟨by simp [h1], by omega, by omega, by omega, h5.drop k, (fun e => by cases e), fun h0 => ?_⟩
        obtain ⟨b, o, e, hce⟩ := h7 (by omega)
        cases e
        refine ⟨b, o + k, by rw [Addr.add_lit], fun i hi => ?_⟩
        rw [show o + k + i = o + (k + i) by omega, hce (k + i) (by omega)]
        simp [List.getD, List.getElem?_drop]
      · intro g ha h0 x hx
        cases hx
        have := ha (by omega) ad rfl
        unfold Addr.add
        split <;> exact this
  · obtain rfl : k = cap := by omega
    obtain rfl : len = k := by omega
    have es : sliced a len len len 1 = .slice a (len - len) (len - len) := by
      cases a <;> simp [sliced]
    refine ⟨a, fun v => by rw [hrun v, es], ?_, ?_⟩
    · rw [Nat.sub_self]
      exact ⟨by simp [h1], Nat.le_refl _, by omega, by omega, h5.drop _, fun _ => ⟨rfl, rfl⟩, fun h => absurd h (by omega)⟩
    · intro g _ h0
      omega

set_option maxRecDepth 100000 in
set_option maxHeartbeats 2000000 in
theorem take_any (h : List Int) (n0 : Nat) (m : List Int) (g : Nat) (a : Option Addr) (len cap : Nat) (xs : List Int) (w : World) (hg : Blk w g 115 (stM h n0 m)) (hh : h.length = 8) (hn0 : n0 % 64 = 0) (hmb : isB m)
    (hs : Sl w a len cap xs) (hap : 0 < len → Apart g a) (hk : KT w) (hg0 : g ≠ 6) (hbd : n0 + m.length + len ≤ 4611686018427387904) :
    Calls Tryd.prog 77 #[.pointer (some ⟨g, 0, none⟩), .slice a len cap] w fun e w' => e = .returned (.tuple #[]) ∧ Blk w' g 115 (stM h n0 (m ++ xs)) ∧ Chg g w w' := by
  have HH := hide hh
  have HX := hide hs.hlen
  have HXB := hide hs.hbyte
  have HMB := hide hmb
  clear hmb hh
  go_enter Tryd.func77, Tryd.ntmps77
  go_wp2
  go_loopw [1] (fun v wr => ∃ (j : Nat) (a' : Option Addr), j ≤ len ∧ v = .slice a' (len - j) (cap - j) ∧ Sl wr a' (len - j) (cap - j) (xs.drop j) ∧ (0 < len - j → Apart g a') ∧ Blk wr g 115 (stM h n0 (m ++ xs.take j)) ∧ Chg g w wr) (fun v _ => lenOf v)
  case atStart => exact ⟨0, a, by omega, rfl, hs, hap, by simpa using hg, Chg.refl _ _⟩
  case round =>
    clear hs hap hg
    obtain ⟨j, a', hj, rfl, hs, hap, hg, hc⟩ := hrel
    have HS := hide hs
    have HAP := hide hap
    have HG := hide hg
    have HC := hide hc
    clear hs hap hg hc
    by_cases hlt : j < len
    · have hjl : (0 : Int) < ((len - j : Nat) : Int) := by omega
      generalize hM : m ++ xs.take j = M at *
      generalize hy : xs.drop j = ys at *
      generalize hL : len - j = L at *
      generalize hC : cap - j = C at *
      have hML : M.length = m.length + j := by rw [← hM]; simp [HX.out]; omega
      have HMBB := hide (show isB M by rw [← hM]; exact HMB.out.append (HXB.out.take j))
      have HOV := hide (ov_length h M HH.out (bk M))
      have c9 : wr.cell? ⟨g, 9, none⟩ = some (.int .i64 ((n0 + M.length : Nat) : Int)) := by rw [HG.out.cell]; exact stC_size _ _ _ _ HOV.out
      have f9 : wr.frozen? ⟨g, 9, none⟩ = false := HG.out.free 9
      generalize hN : n0 + M.length = N at *
      have hslc := slice_from64 g 10 (N % 64) ((N : Int) % 64) (by omega) (by omega)
      have hNb : N + L ≤ 4611686018427387904 := by omega
      have hmod : N % 64 = M.length % 64 := by omega
      obtain ⟨kk, hkk⟩ : ∃ kk, kk = min L (64 - N % 64) := ⟨_, rfl⟩
      have hkL : kk ≤ L := by omega
      have hk0 : 0 < kk := by omega
      have hkr : N % 64 + kk ≤ 64 := by omega
      obtain ⟨a2, hsl2, hs2, hap2⟩ := slice_from HS.out kk (kk : Int) rfl hkL
      have HS2 := hide hs2
      have HAP2 := hide (hap2 g HAP.out)
      clear hs2 hap2
      have HYL := hide HS.out.hlen
      have HYB := hide HS.out.hbyte
      have QM := hide hM
      have Qy := hide hy
      have QL := hide hL
      have QC := hide hC
      have QML := hide hML
      have QN := hide hN
      have Qmod := hide hmod
      have Qkk := hide hkk
      clear hM hy hL hC hML hN hmod hkk
      have htm : (N : Int).tmod 64 = (N : Int) % 64 := Int.tmod_eq_emod_of_nonneg (by omega)
      have htm2 : ((N : Int) + (kk : Int)).tmod 64 = ((N : Int) + (kk : Int)) % 64 := Int.tmod_eq_emod_of_nonneg (by omega)
      go_wp2_with fail
      go_region_law (refine rstep_copy rfl rfl rfl rfl (by exact HS.out.drewN 1) g (10 + N % 64) kk Qkk.out (by exact HG.out) (fun _ => rfl) (by rw [stM, stC_length _ _ _ _ HOV.out (rs_length M)]; omega) ?_; intro w1 hg1 hbut1)
      have hc1 : Chg g wr w1 := (chg_drew g wr).trans (Chg.of_but hbut1)
      have e1 : spl (stM h n0 M) (u8s (ys.take kk)) (10 + N % 64) = stC true (ov h M (bk M)) (N : Int) (splB (rs M) (ys.take kk) (M.length % 64)) := by
        rw [stM, stC_setRest _ _ _ _ HOV.out _ _ (by rw [rs_length, List.length_take, HYL.out]; omega), QN.out, Qmod.out]
      rw [e1] at hg1
      have hyl : (ys.take kk).length = kk := by rw [List.length_take, HYL.out]; omega
      rw [fill M (ys.take kk) (by rw [hyl, ← Qmod.out]; omega), hyl] at hg1
      have d9 : w1.cell? ⟨g, 9, none⟩ = some (.int .i64 (N : Int)) := by rw [hg1.cell]; exact stC_size _ _ _ _ HOV.out
      have g9 : w1.frozen? ⟨g, 9, none⟩ = false := hg1.free 9
      have hg2 := hg1.set 9 (.int .i64 ((N : Int) + (kk : Int)))
      rw [stC_setSize _ _ _ _ HOV.out] at hg2
      have HG2 := hide hg2
      have HC2 := hide (hc1.trans (Chg.of_but (But.setCell w1 g 9 (.int .i64 ((N : Int) + (kk : Int))))))
      have HYT := hide hyl
      have EM : Hid (m ++ xs.take (j + kk) = M ++ ys.take kk) := hide (by rw [← QM.out, ← Qy.out, List.append_assoc, ← List.take_add])
      have ED : Hid (xs.drop (j + kk) = ys.drop kk) := hide (by rw [← Qy.out, List.drop_drop])
      have EL : Hid (L - kk = len - (j + kk) ∧ C - kk = cap - (j + kk)) := hide (by have := QL.out; have := QC.out; omega)
      have ELn : Hid (((n0 + (M ++ ys.take kk).length : Nat) : Int) = (N : Int) + (kk : Int)) := hide (by have := QN.out; rw [List.length_append, hyl]; omega)
      clear hg1 hg2 hc1 e1 hbut1 c9 f9 hslc hyl
      by_cases hfull : (N + kk) % 64 = 0
      · have hf1 : ((((N : Int) + (kk : Int)) % 64) == 0) = true := by simp; omega
        go_wp2_with fail
        have KT2 := hide ((hk.chg HC.out hg0).chg HC2.out hg0)
        have hR : (tl M ++ ys.take kk).length = 64 := by rw [List.length_append, tl_length, HYT.out, ← Qmod.out]; omega
        have hz64 : zer (64 - (M.length % 64 + kk)) = [] := by rw [← Qmod.out, show 64 - (N % 64 + kk) = 0 by omega]; rfl
        have HRB := hide (show isB (tl M ++ ys.take kk) from (HMBB.out.drop _).append (HYB.out.take kk))
        have HR := hide hR
        have HON := hide (grow_on h M (ys.take kk) (by rw [HYT.out, ← Qmod.out]; omega))
        have HG3 := hide HG2.out
        rw [hz64, List.append_nil] at HG3
        clear hR hz64 HG2 d9 g9
        revert HG3 HC2 KT2
        generalize w1.setCell ⟨g, 9, none⟩ (.int .i64 ((N : Int) + (kk : Int))) = w2
        intro HC2 KT2 HG3
        generalize hws : ov h M (bk M) = ws at *
        generalize hRR : tl M ++ ys.take kk = R at *
        refine wp_region_noPanic ?_
        refine wp_region_held_drew (S := fun _ : World => True) (by kernel_rfl) trivial (fun hHeld => ?_)
        refine takeH 0 36 (.pointer (some ⟨g, 0, none⟩)) hHeld rfl rfl (by kernel_rfl) (by kernel_rfl) (by kernel_rfl) (fun _ _ _ h => h) (Or.inl ⟨by rfl, fun w _ => by go_simp⟩) ?_
        simp only [Act.put, List.setIfInBounds_toArray, List.set_cons_zero, List.set_cons_succ]
        refine takeH 1 37 (.pointer (some ⟨g, 0, none⟩)) hHeld rfl rfl (by kernel_rfl) (by kernel_rfl) (by kernel_rfl) (fun _ _ _ h => h) (Or.inl ⟨by rfl, fun w _ => by go_simp⟩) ?_
        simp only [Act.put, List.setIfInBounds_toArray, List.set_cons_zero, List.set_cons_succ]
        refine takeH 2 38 (.pointer (some ⟨g, 0, none⟩)) hHeld rfl rfl (by kernel_rfl) (by kernel_rfl) (by kernel_rfl) (fun _ _ _ h => h) (Or.inl ⟨by rfl, fun w _ => by go_simp⟩) ?_
        simp only [Act.put, List.setIfInBounds_toArray, List.set_cons_zero, List.set_cons_succ]
        refine takeH 3 39 (.pointer (some ⟨g, 1, none⟩)) hHeld rfl rfl (by kernel_rfl) (by kernel_rfl) (by kernel_rfl) (fun _ _ _ h => h) (Or.inl ⟨by rfl, fun w _ => by go_simp⟩) ?_
        simp only [Act.put, List.setIfInBounds_toArray, List.set_cons_zero, List.set_cons_succ]
        refine takeH 5 41 (.pointer (some ⟨g, 0, none⟩)) hHeld rfl rfl (by kernel_rfl) (by kernel_rfl) (by kernel_rfl) (fun _ _ _ h => h) (Or.inl ⟨by rfl, fun w _ => by go_simp⟩) ?_
        simp only [Act.put, List.setIfInBounds_toArray, List.set_cons_zero, List.set_cons_succ]
        refine takeH 6 42 (.pointer (some ⟨g, 0, none⟩)) hHeld rfl rfl (by kernel_rfl) (by kernel_rfl) (by kernel_rfl) (fun _ _ _ h => h) (Or.inl ⟨by rfl, fun w _ => by go_simp⟩) ?_
        simp only [Act.put, List.setIfInBounds_toArray, List.set_cons_zero, List.set_cons_succ]
        refine takeH 7 43 (.pointer (some ⟨g, 10, none⟩)) hHeld rfl rfl (by kernel_rfl) (by kernel_rfl) (by kernel_rfl) (fun _ _ _ h => h) (Or.inl ⟨by rfl, fun w _ => by go_simp⟩) ?_
        simp only [Act.put, List.setIfInBounds_toArray, List.set_cons_zero, List.set_cons_succ]
        have HG4 := hide (show Blk w2.drew g 115 (stC true ws ((N : Int) + (kk : Int)) R) from HG3.out)
        refine wpAnyH_ready (rs := [4, 8]) (by kernel_rfl) (by simp) (AllReadyH.cons rfl (fun K hK => ?_) (AllReadyH.cons rfl (fun K hK => ?_) AllReadyH.nil))
        · rw [if_pos (by rfl)]
          refine wp_loadW wW rfl (g := g) (off := 1) rfl HG4.out (u32s ws) (by rw [u32s_length]; exact HOV.out) (stC_words _ _ _ _ HOV.out) ?_
          refine hK.out _ _ trivial (fun hHeld => ?_)
          clear hK K
          simp only [Act.put, List.setIfInBounds_toArray]
          refine wpAnyH_ready (rs := [8]) (by kernel_rfl) (by simp) (AllReadyH.cons rfl (fun K hK => ?_) AllReadyH.nil)
          rw [if_pos (by rfl)]
          refine wp_loadW wB64 rfl (g := g) (off := 10) rfl HG4.out (u8s R) (by rw [u8s_length]; exact HR.out) (stC_rest _ _ _ _ HOV.out HR.out) ?_
          refine hK.out _ _ trivial (fun hHeld => ?_)
          clear hK K
          simp only [Act.put]
          refine wpAnyH_ready (rs := [9]) (by kernel_rfl) (by simp) (AllReadyH.cons rfl (fun K hK => ?_) AllReadyH.nil)
          rw [if_pos (by rfl)]
          go_simp
          refine (comp_any _ _ _ HOV.out HRB.out HR.out (by exact KT2.out.chg (chg_drew g w2) hg0)).mono ?_
          rintro e w3 ⟨rfl, hb3⟩
          refine hK.out _ _ trivial (fun hHeld => ?_)
          clear hK K
          have HG5 := hide (HG4.out.below hb3 HG4.out.lt)
          refine takeH 10 46 (.pointer (some ⟨g, 0, none⟩)) hHeld rfl rfl (by kernel_rfl) (by kernel_rfl) (by kernel_rfl) (fun _ _ _ h => h) (Or.inl ⟨by rfl, fun w _ => by go_simp⟩) ?_
          simp only [Act.put, List.setIfInBounds_toArray, List.set_cons_zero, List.set_cons_succ]
          refine takeH 11 47 (.pointer (some ⟨g, 1, none⟩)) hHeld rfl rfl (by kernel_rfl) (by kernel_rfl) (by kernel_rfl) (fun _ _ _ h => h) (Or.inl ⟨by rfl, fun w _ => by go_simp⟩) ?_
          simp only [Act.put, List.setIfInBounds_toArray, List.set_cons_zero, List.set_cons_succ]
          refine wpAnyH_ready (rs := [12]) (by kernel_rfl) (by simp) (AllReadyH.cons rfl (fun K hK => ?_) AllReadyH.nil)
          rw [if_pos (by rfl)]
          refine wp_storeW wW rfl (g := g) (off := 1) (vs := u32s (comp ws R)) rfl rfl HG5.out (by rw [u32s_length, comp_length _ _ HOV.out]) (One.u32 _) (by rw [stC_length _ _ _ _ HOV.out HR.out]; omega) ?_
          intro w4 hg4 hbut4
          rw [stC_setWords _ _ _ _ HOV.out _ (comp_length _ _ HOV.out)] at hg4
          refine hK.out _ _ trivial (fun hHeld => ?_)
          clear hK K
          refine wpAnyH_done (by kernel_rfl) ?_ _
          refine NoPanic.normal ?_
          clear hHeld
          have HC4 := hide ((HC2.out.trans ((chg_drew g w2).trans (Chg.of_below hb3))).trans (Chg.of_but hbut4))
          have HG6 := hide hg4
          clear hg4 hbut4 hb3 HG5
          go_wp2_with (first | (refine step_store wB64 (vs := u8s (zer 64)) rfl (g := g) (off := 10) rfl rfl HG6.out rfl (One.u8 _) (by rw [stC_length _ _ _ _ (comp_length _ _ HOV.out) HR.out]; omega) ?_; intro w5 hg5 hbut5) | (refine step_run rfl (.agg (u8s (zer 64)).toArray) _ (by kernel_rfl) ?_))
          rw [show 10 = 10 + 0 from rfl, stC_setRest _ _ _ _ (comp_length _ _ HOV.out) _ _ (by rw [zer_length, HR.out]; omega)] at hg5
          have HC5 := hide (HC4.out.trans (Chg.of_but hbut5))
          refine ⟨?_, ?_⟩
          rotate_left
          · show lenOf (.slice a2 (L - kk) (C - kk)) < lenOf (.slice a' L C)
            simp only [lenOf]
            omega
          iterate 49 (apply Exists.intro)
          refine ⟨?_, rfl⟩
          refine ⟨j + kk, a2, by have := QL.out; omega, by rw [EL.out.1, EL.out.2], ?_, ?_, ?_, HC.out.trans HC5.out⟩
          · rw [← EL.out.1, ← EL.out.2, ED.out]
            exact HS2.out.chg HC5.out HAP2.out
          · rw [← EL.out.1]
            exact HAP2.out
          · have ez : splB R (zer 64) 0 = zer 64 := by
              unfold splB
              rw [zer_length, List.drop_of_length_le (by rw [HR.out]; omega)]
              simp
            rw [ez] at hg5
            rw [EM.out, stM, HON.out.1, HON.out.2, ELn.out]
            exact hg5
        · rw [if_pos (by rfl)]
          refine wp_loadW wB64 rfl (g := g) (off := 10) rfl HG4.out (u8s R) (by rw [u8s_length]; exact HR.out) (stC_rest _ _ _ _ HOV.out HR.out) ?_
          refine hK.out _ _ trivial (fun hHeld => ?_)
          clear hK K
          simp only [Act.put, List.setIfInBounds_toArray]
          refine wpAnyH_ready (rs := [4]) (by kernel_rfl) (by simp) (AllReadyH.cons rfl (fun K hK => ?_) AllReadyH.nil)
          rw [if_pos (by rfl)]
          refine wp_loadW wW rfl (g := g) (off := 1) rfl HG4.out (u32s ws) (by rw [u32s_length]; exact HOV.out) (stC_words _ _ _ _ HOV.out) ?_
          refine hK.out _ _ trivial (fun hHeld => ?_)
          clear hK K
          simp only [Act.put]
          refine wpAnyH_ready (rs := [9]) (by kernel_rfl) (by simp) (AllReadyH.cons rfl (fun K hK => ?_) AllReadyH.nil)
          rw [if_pos (by rfl)]
          go_simp
          refine (comp_any _ _ _ HOV.out HRB.out HR.out (by exact KT2.out.chg (chg_drew g w2) hg0)).mono ?_
          rintro e w3 ⟨rfl, hb3⟩
          refine hK.out _ _ trivial (fun hHeld => ?_)
          clear hK K
          have HG5 := hide (HG4.out.below hb3 HG4.out.lt)
          refine takeH 10 46 (.pointer (some ⟨g, 0, none⟩)) hHeld rfl rfl (by kernel_rfl) (by kernel_rfl) (by kernel_rfl) (fun _ _ _ h => h) (Or.inl ⟨by rfl, fun w _ => by go_simp⟩) ?_
          simp only [Act.put, List.setIfInBounds_toArray, List.set_cons_zero, List.set_cons_succ]
          refine takeH 11 47 (.pointer (some ⟨g, 1, none⟩)) hHeld rfl rfl (by kernel_rfl) (by kernel_rfl) (by kernel_rfl) (fun _ _ _ h => h) (Or.inl ⟨by rfl, fun w _ => by go_simp⟩) ?_
          simp only [Act.put, List.setIfInBounds_toArray, List.set_cons_zero, List.set_cons_succ]
          refine wpAnyH_ready (rs := [12]) (by kernel_rfl) (by simp) (AllReadyH.cons rfl (fun K hK => ?_) AllReadyH.nil)
          rw [if_pos (by rfl)]
          refine wp_storeW wW rfl (g := g) (off := 1) (vs := u32s (comp ws R)) rfl rfl HG5.out (by rw [u32s_length, comp_length _ _ HOV.out]) (One.u32 _) (by rw [stC_length _ _ _ _ HOV.out HR.out]; omega) ?_
          intro w4 hg4 hbut4
          rw [stC_setWords _ _ _ _ HOV.out _ (comp_length _ _ HOV.out)] at hg4
          refine hK.out _ _ trivial (fun hHeld => ?_)
          clear hK K
          refine wpAnyH_done (by kernel_rfl) ?_ _
          refine NoPanic.normal ?_
          clear hHeld
          have HC4 := hide ((HC2.out.trans ((chg_drew g w2).trans (Chg.of_below hb3))).trans (Chg.of_but hbut4))
          have HG6 := hide hg4
          clear hg4 hbut4 hb3 HG5
          go_wp2_with (first | (refine step_store wB64 (vs := u8s (zer 64)) rfl (g := g) (off := 10) rfl rfl HG6.out rfl (One.u8 _) (by rw [stC_length _ _ _ _ (comp_length _ _ HOV.out) HR.out]; omega) ?_; intro w5 hg5 hbut5) | (refine step_run rfl (.agg (u8s (zer 64)).toArray) _ (by kernel_rfl) ?_))
          rw [show 10 = 10 + 0 from rfl, stC_setRest _ _ _ _ (comp_length _ _ HOV.out) _ _ (by rw [zer_length, HR.out]; omega)] at hg5
          have HC5 := hide (HC4.out.trans (Chg.of_but hbut5))
          refine ⟨?_, ?_⟩
          rotate_left
          · show lenOf (.slice a2 (L - kk) (C - kk)) < lenOf (.slice a' L C)
            simp only [lenOf]
            omega
          iterate 49 (apply Exists.intro)
          refine ⟨?_, rfl⟩
          refine ⟨j + kk, a2, by have := QL.out; omega, by rw [EL.out.1, EL.out.2], ?_, ?_, ?_, HC.out.trans HC5.out⟩
          · rw [← EL.out.1, ← EL.out.2, ED.out]
            exact HS2.out.chg HC5.out HAP2.out
          · rw [← EL.out.1]
            exact HAP2.out
          · have ez : splB R (zer 64) 0 = zer 64 := by
              unfold splB
              rw [zer_length, List.drop_of_length_le (by rw [HR.out]; omega)]
              simp
            rw [ez] at hg5
            rw [EM.out, stM, HON.out.1, HON.out.2, ELn.out]
            exact hg5
      · have hf1 : ((((N : Int) + (kk : Int)) % 64) == 0) = false := by simp; omega
        go_wp2
        have HIN := grow_in h M (ys.take kk) (by rw [HYT.out, ← Qmod.out]; omega)
        refine ⟨⟨j + kk, a2, by have := QL.out; omega, by rw [EL.out.1, EL.out.2], ?_, ?_, ?_, HC.out.trans HC2.out⟩, ?_⟩
        · rw [← EL.out.1, ← EL.out.2, ED.out]
          exact HS2.out.chg HC2.out HAP2.out
        · rw [← EL.out.1]
          exact HAP2.out
        · have := HG2.out
          rw [EM.out, stM, HIN.1, HIN.2, ELn.out, HYT.out]
          exact this
        · simp only [lenOf]
          omega
    · obtain rfl : j = len := by omega
      go_wp2
      go_end0
      have := HG.out
      rw [List.take_of_length_le (by rw [HX.out]; exact Nat.le_refl _)] at this
      exact ⟨rfl, this, HC.out⟩

end Go.Proofs.YtnlpgkfmjlljdaaDoor
