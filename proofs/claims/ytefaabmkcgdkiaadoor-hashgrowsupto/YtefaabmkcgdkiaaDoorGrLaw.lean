/-
  The walk of HashGrows.
-/
import Derived.Test.YtefaabmkcgdkiaaDoorGa
import Derived.Test.YtefaabmkcgdkiaaDoorHlLaw
import Derived.Test.YtefaabmkcgdkiaaDoorLw
namespace Go.Proofs.YtefaabmkcgdkiaaDoor
open Go.RowKit
set_option linter.unusedVariables false

/-- The program's state at g and the document's at g4 have had the same, at most T bytes. -/
def GInv (w : World) (g g4 T : Nat) : Prop := ∃ h n0 m a cap, Blk w g 65 (stM h n0 m) ∧ Blk w g4 29 (rfC (ov h m (bk m)) ((n0 + m.length : Nat) : Int) (.slice a (m.length % 64) cap)) ∧ Sl w a (m.length % 64) cap (tl m) ∧
  h.length = 8 ∧ isW h ∧ n0 % 64 = 0 ∧ isB m ∧ n0 + m.length ≤ T ∧ (n0 = 0 → h = bL) ∧ (0 < m.length % 64 → Apart g a) ∧ (0 < m.length % 64 → Apart g4 a)
theorem GInv.below {w w' : World} {g g4 T : Nat} (hI : GInv w g g4 T) (hb : Below w.heap.size w w') : GInv w' g g4 T := by
  obtain ⟨h, n0, m, a, cap, h1, h2, h3, r⟩ := hI
  exact ⟨h, n0, m, a, cap, h1.below hb h1.lt, h2.below hb h2.lt, h3.below hb, r⟩
theorem GInv.mono {w : World} {g g4 T T' : Nat} (hI : GInv w g g4 T) (hT : T ≤ T') : GInv w g g4 T' := by
  obtain ⟨h, n0, m, a, cap, h1, h2, h3, h4, h5, h6, h7, h8, r⟩ := hI
  exact ⟨h, n0, m, a, cap, h1, h2, h3, h4, h5, h6, h7, Nat.le_trans h8 hT, r⟩
theorem GInv.lt {w : World} {g g4 T : Nat} (hI : GInv w g g4 T) : g < w.heap.size ∧ g4 < w.heap.size ∧ g4 ≠ g := by
  obtain ⟨h, n0, m, a, cap, h1, h2, _⟩ := hI
  refine ⟨h1.lt, h2.lt, ?_⟩
  rintro rfl
  have e := h1.symm.trans h2
  injection e with e
  injection e with _ e2 _
  revert e2
  decide
theorem ginv_stands {w : World} {g g4 T : Nat} (hI : GInv w g g4 T) (hT : T ≤ 2305843009213693951) (hk : KT w) :
    ∃ RC, RC.length = 10 ∧ Blk w g4 29 RC ∧ Calls Tryd.prog 11 #[.pointer (some ⟨g, 0, none⟩), .agg RC.toArray] w fun e w' => e = .returned (.bool true) ∧ Below w.heap.size w w' := by
  obtain ⟨h, n0, m, a, cap, h1, h2, h3, h4, h5, h6, h7, h8, _⟩ := hI
  exact ⟨_, rfC_length _ _ _ (ov_length h m h4 _), h2, stands_any h n0 m g a cap w h1 h4 h5 h6 h7 h3 hk (by omega)⟩

section
variable {dst : Option Tmp} {ty : TypeId} {pos : String} {aft : Array Edge} {gd : Option (Nat × Bool)} {a : Act} {w : World} {K : Act → World → Prop} {Q : Exit → Act → World → Prop}
theorem wp_loadG {T : TypeId} {n : Nat} (hT : Wide T n) {x : Operand} {g : Nat} {t : TypeId} {cs : List Value} (hx : a.eval x = .pointer (some ⟨g, 0, none⟩)) (hg : Blk w g t cs) (hn : cs.length = n) (h : K (a.put dst (.agg cs.toArray)) w) :
    Oper.wp Tryd.prog ⟨dst, .load T x, ty, pos, aft, gd⟩ a w K Q :=
  wp_loadW hT rfl hx hg cs hn (by rw [List.drop_zero, List.take_of_length_le (by omega)]) h
theorem wp_storeG {T : TypeId} {n : Nat} (hT : Wide T n) {x y : Operand} {g : Nat} {t : TypeId} {cs vs : List Value} (hx : a.eval x = .pointer (some ⟨g, 0, none⟩)) (hy : a.eval y = .agg vs.toArray) (hg : Blk w g t cs) (hn : vs.length = n) (h1 : One vs) (hl : cs.length = n)
    (h : ∀ w1, Blk w1 g t vs → But g w w1 → K (a.put dst undef) w1) : Oper.wp Tryd.prog ⟨dst, .store T x y, ty, pos, aft, gd⟩ a w K Q :=
  wp_storeW hT rfl hx hy hg hn h1 (by omega) fun w1 hb hbut => h w1 (by
    have e : spl cs vs 0 = vs := by
      unfold spl
      rw [List.drop_of_length_le (by omega)]
      simp
    rwa [e] at hb) hbut
end

theorem index_act (b off len cap j : Nat) (hj : j < len) (v : World) : (Instr.indexAt 22 (.slice (some ⟨b, off, none⟩) len cap) (.int .i64 (j : Int))).run Tryd.prog v = .ok (.pointer (some ⟨b, off + 2 * j, none⟩)) v := by
  have hu : Tryd.prog.underlying 22 = some (.slice (Tryd.prog.elem 22)) := by kernel_rfl
  have hz : ∀ w, (sizeOf (Tryd.prog.elem 22)).run Tryd.prog w = .ok 2 w := fun w => by kernel_rfl
  rw [run_indexAt_slice v _ _ _ _ .i64 _ hu, if_pos ⟨by omega, by omega⟩, hz]
  simp only [Result.andThen_ok, Int.toNat_natCast]
  rw [Addr.add_lit, Nat.mul_comm]
theorem flat_mono (ps : List (List Int)) (j : Nat) : (ps.take j).flatten.length ≤ (ps.take (j + 1)).flatten.length := by
  by_cases h : j < ps.length
  · rw [← flat_succ ps j h, List.length_append]; omega
  · rw [List.take_of_length_le (by omega), List.take_of_length_le (by omega)]; exact Nat.le_refl _
theorem one23 : isB [1, 2, 3] := by
  intro x hx
  simp only [List.mem_cons, List.not_mem_nil, or_false] at hx
  omega

set_option maxRecDepth 100000 in
set_option maxHeartbeats 2000000 in
theorem hgrows_walk (a : Option Addr) (len cap : Nat) (ks : Nat → Int) (ps : List (List Int)) (w : World) (hp : Acs w a len cap ks ps) (hk : KT w) :
    Calls Tryd.prog 3 #[.slice a len cap] w fun e w' => e = .returned (.bool true) ∧ Below w.heap.size w w' := by
  have HP := hide hp
  have HK := hide hk
  have HPL := hide hp.hlen
  have HPS := hide hp.hsum
  have hpm := hp.hmax
  have hpc := hp.hcap
  clear hp hk
  go_enter Tryd.func3, Tryd.ntmps3
  go_wp2_with fail
  refine (new_any _).mono ?_
  rintro e w1 ⟨g, rfl, hlg, hg, hb1⟩
  have G1 := hide hg
  have HB1 := hide hb1
  clear hg hb1
  go_wp2_with fail
  refine (rnew_any _).mono ?_
  rintro e w2 ⟨rfl, hb2⟩
  have HB2 := hide (HB1.out.trans (hb2.mono HB1.out.size))
  have G2 := hide (G1.out.below hb2 G1.out.lt)
  have HL0 := hide (rfC_length bL 0 (.slice none 0 0) rfl)
  clear hb2 G1
  go_wp2_with (refine step_alloc zRS rfl ?_)
  intro w3 g4 hg3 hle3 hb3
  go_wp2_with (refine step_storeA wRS rfl rfl rfl hg3 HL0.out (One.rf _ _ _ _ _) rfl ?_)
  intro w4 hg4 hbut4
  have hb24 := hb3.trans (hbut4.below hle3)
  have HB4 := hide (HB2.out.trans (hb24.mono HB2.out.size))
  have hw4 : w.heap.size ≤ g4 := Nat.le_trans HB2.out.size hle3
  have I4 : Hid (GInv w4 g g4 0) := hide ⟨bL, 0, [], none, 0, G2.out.below hb24 G2.out.lt, hg4, ⟨rfl, Nat.le_refl _, by omega, by simp, (fun x hx => by simp [tl] at hx), fun _ => ⟨rfl, rfl⟩, fun h => absurd h (by simp)⟩, rfl, bL_isW, rfl, (fun x hx => by simp at hx), Nat.le_refl _, fun _ => rfl, fun h => absurd h (by simp), fun h => absurd h (by simp)⟩
  obtain ⟨RC, hRC, hG4, hST⟩ := ginv_stands I4.out (by omega) (HK.out.below HB4.out HK.out.lt)
  have RL := hide hRC
  have RG := hide hG4
  have RS := hide hST
  clear hRC hG4 hST hg3 hb3 hg4 hbut4 hb24 hle3 G2
  go_wp2_with (first | (refine step_loadA wRS rfl rfl RG.out RL.out ?_) | (go_at_call 11; refine RS.out.mono ?_; rintro e w5 ⟨rfl, hb5⟩))
  have I5 := hide (I4.out.below hb5)
  have HB5 := hide (HB4.out.trans (hb5.mono HB4.out.size))
  clear hb5 I4 HB4 RL RG RS
  go_loopw [3, 5] (fun s i wr => ∃ j : Nat, j ≤ len ∧ i = .int .i64 j ∧ ∃ g, s = .pointer (some ⟨g, 0, none⟩) ∧ w.heap.size ≤ g ∧ GInv wr g g4 (ps.take j).flatten.length ∧ Below w.heap.size w wr) (fun _ i _ => len - (intOf i).toNat)
  case atStart => exact ⟨0, by omega, rfl, g, rfl, hlg, I5.out, HB5.out⟩
  case round =>
    clear I5 HB5 hlg
    obtain ⟨j, hj, rfl, g, rfl, hwg, hI, hb⟩ := hrel
    have I := hide hI
    have B := hide hb
    have HT := hide (Nat.le_trans (flat_le ps j) HPS.out)
    have HT1 := hide (Nat.le_trans (flat_le ps (j + 1)) HPS.out)
    have HTM := hide (flat_mono ps j)
    have HTS : ∀ h : j < ps.length, Hid ((ps.take (j + 1)).flatten.length = (ps.take j).flatten.length + (ps.getD j []).length) := fun h => hide (by rw [← flat_succ ps j h, List.length_append])
    clear hI hb
    revert I HT HT1 HTM HTS
    generalize hT1 : (ps.take (j + 1)).flatten.length = T1
    generalize (ps.take j).flatten.length = T
    intro I HT HT1 HTM HTS
    have ET1 := hide hT1
    clear hT1
    have hT := HT.out
    have hT1 := HT1.out
    have AR := hide (HP.out.below B.out)
    have hlt0 := I.out.lt
    have hg0 : g ≠ 0 := by have := HK.out.lt; omega
    by_cases hlt : j < len
    · have hlt' : (j : Int) < (len : Int) := by omega
      obtain ⟨b, off, ai, li, ci, ea, hk0, hc0, hs0, hl0⟩ := AR.out.hcell j hlt
      cases ea
      have hbw : b < w.heap.size := by
        obtain ⟨b3, off3, _, _, _, ea3, hk3, _⟩ := HP.out.hcell j hlt
        cases ea3
        exact World.block_lt_of_cell? w _ hk3
      have SA := hide hs0
      have HSJ := hide (HTS (by rw [HPL.out]; exact hlt)).out
      rw [hs0.hlen] at HSJ
      have hx := index_act b off len cap j hlt
      clear hs0 HTS
      revert hk0
      generalize ks j = kk
      intro hk0
      by_cases h0 : kk = 0
      · subst h0
        obtain ⟨h, n0, m, a', c', i1, i2, i3, i4, i5, i6, i7, i8, i9, i10, i11⟩ := I.out
        have X1 := hide i1
        have X2 := hide i2
        have X3 := hide i3
        have X4 := hide i4
        have X5 := hide i5
        have X6 := hide i6
        have X7 := hide i7
        have X8 := hide i8
        have X9 := hide i9
        have X10 := hide i10
        have X11 := hide i11
        clear i1 i2 i3 i4 i5 i6 i7 i8 i9 i10 i11
        have HPJ := hide SA.out.hlen
        have HPB := hide SA.out.hbyte
        have hN8 := X8.out
        obtain ⟨ys, hys⟩ : ∃ ys, ys = ps.getD j [] := ⟨_, rfl⟩
        have QY := hide hys
        rw [← hys] at SA HPJ HPB
        clear hys
        have ho0 : Own (wr.alloc (.cells #[] 5)) wr.heap.size (.slice (some ⟨wr.heap.size, 0, none⟩) 0 0) [] := Own.of_blk (xs := []) (Blk.made wr 5 []) (Nat.le_refl _) (by simp)
        have hb0 : Below wr.heap.size wr (wr.alloc (.cells #[] 5)) := (Below.refl _ _).alloc (Nat.le_refl _) _
        have hcp0 : (wr.alloc (.cells #[] 5)).cell? ⟨b, off + 2 * j + 1, none⟩ = some (.slice ai li ci) := by rw [hb0.cell (World.block_lt_of_cell? wr _ hc0)]; exact hc0
        go_wp2_with (refine step_append rfl rfl rfl ho0 (SA.out.below hb0) (by simp; omega) (by simp) ?_)
        intro vp we hoe hge hne
        rw [List.nil_append] at hoe
        have Be := hide (hb0.trans (Below.of_grown hge hb0.size ho0.lt))
        have hvp : vp ≠ .slice none 0 0 := fun e => by have e2 := (hne e).1; cases e2
        have OP := hide hoe
        obtain ⟨gp, cq, eq, hlgp, hsq⟩ := hoe.sl HPB.out (by rw [HPJ.out]; omega) hvp
        subst eq
        rw [HPJ.out] at hsq OP ⊢
        have SQ := hide hsq
        have HBe := hide (B.out.trans (Be.out.mono B.out.size))
        have hgpg : gp ≠ g := by omega
        have hgp4 : gp ≠ g4 := by omega
        have hwgp : w.heap.size ≤ gp := Nat.le_trans B.out.size hlgp
        have AP : Hid (0 < li → Apart g (some ⟨gp, 0, none⟩)) := hide (fun _ x hx => by cases hx; exact hgpg)
        have ht65 : (65 : TypeId) ≠ 5 := by decide
        have AXP := hide (X3.out.apart hlgp)
        clear ho0 hb0 hoe hge hne hvp hsq hcp0
        go_wp2_with fail
        refine (write_any h n0 m g _ _ _ ys _ (X1.out.below Be.out X1.out.lt) X4.out X6.out X7.out SQ.out AP.out (HK.out.below HBe.out HK.out.lt) hg0 (by omega)).mono ?_
        rintro e wf ⟨rfl, hgf, hcf⟩
        have OPf := hide (OP.out.chg (X1.out.below Be.out X1.out.lt) ht65 hcf)
        have HBf := hide (HBe.out.trans (hcf.below hwg HBe.out.size))
        have GF := hide hgf
        have R4f := hide ((X2.out.below Be.out X2.out.lt).chg hcf (by omega))
        have SRf := hide ((X3.out.below Be.out).chg hcf X10.out)
        clear hgf hcf OP SQ AP HBe
        go_wp2_with fail
        refine (spoil2_own gp li cq _ _ _ OPf.out HPJ.out (by omega)).mono ?_
        rintro e wg ⟨rfl, hbutg⟩
        have GG := hide (GF.out.but hbutg (fun h => hgpg h.symm))
        have R4g := hide (R4f.out.but hbutg (fun h => hgp4 h.symm))
        have SRg := hide (SRf.out.but hbutg AXP.out)
        have HBg := hide (HBf.out.trans (hbutg.below hwgp))
        have ARg := hide (HP.out.below HBg.out)
        obtain ⟨b2, off2, ai2, li2, ci2, ea2, hk2, hc2, hs2, hl2⟩ := ARg.out.hcell j hlt
        cases ea2
        rw [← QY.out] at hs2
        have SA2 := hide hs2
        have hli2 : li2 = li := by have e1 := hs2.hlen; have e2 := HPJ.out; omega
        subst hli2
        have HRL := hide (rfC_length (ov h m (bk m)) ((n0 + m.length : Nat) : Int) (.slice a' (m.length % 64) c') (ov_length h m X4.out _))
        have HRW := hide (fun (w0 : World) (hs0 : Sl w0 a' (m.length % 64) c' (tl m)) (hs1 : Sl w0 ai2 li2 ci2 ys) => rwrite_any h n0 m a' c' ai2 li2 ci2 ys w0 X4.out X6.out hs0 hs1 (by omega) (by omega))
        have hwg2 : w.heap.size ≤ wg.heap.size := HBg.out.size
        have h4lt := R4g.out.lt
        have hglt := GG.out.lt
        clear hbutg OPf GF R4f SRf HBf hs2 hk2 hk0 hc0 SA X1 X2 X3 I B Be AXP AR ARg
        revert HRL HRW R4g
        generalize rfC (ov h m (bk m)) ((n0 + m.length : Nat) : Int) (.slice a' (m.length % 64) c') = RC0
        intro R4g HRL HRW
        have hSS : ∀ v, Below wg.heap.size wg v → v.cell? ⟨b, off + 2 * j + 1, none⟩ = some (.slice ai2 li2 ci2) := fun v hv =>
          by rw [hv.cell (World.block_lt_of_cell? wg _ hc2)]; exact hc2
        have B0 := hide ((Below.refl wg.heap.size wg).drew)
        have hb4 : b ≠ g4 := by omega
        go_wp2_with fail
        refine wp_region_noPanic ?_
        refine wp_region_held_drew (S := fun v : World => v.cell? ⟨b, off + 2 * j + 1, none⟩ = some (.slice ai2 li2 ci2)) (by kernel_rfl) (hSS _ B0.out) (fun hHeld => ?_)
        refine takeH 1 50 (.slice (some ⟨b, off, none⟩) len cap) hHeld rfl rfl (by kernel_rfl) (by kernel_rfl) (by kernel_rfl) (fun _ _ _ h => h) (Or.inl ⟨by rfl, fun w _ => by go_simp⟩) ?_
        simp only [Act.put, List.setIfInBounds_toArray, List.set_cons_zero, List.set_cons_succ]
        refine takeH 2 51 (.int .i64 (j : Int)) hHeld rfl rfl (by kernel_rfl) (by kernel_rfl) (by kernel_rfl) (fun _ _ _ h => h) (Or.inl ⟨by rfl, fun w _ => by go_simp⟩) ?_
        simp only [Act.put, List.setIfInBounds_toArray, List.set_cons_zero, List.set_cons_succ]
        refine takeH 3 52 (.pointer (some ⟨b, off + 2 * j, none⟩)) hHeld rfl rfl (by kernel_rfl) (by kernel_rfl) (by kernel_rfl) (fun _ _ _ h => h) (Or.inl ⟨by rfl, fun w _ => run_op rfl (index_act b off len cap j hlt w)⟩) ?_
        simp only [Act.put, List.setIfInBounds_toArray, List.set_cons_zero, List.set_cons_succ]
        refine takeH 4 53 (.pointer (some ⟨b, off + 2 * j + 1, none⟩)) hHeld rfl rfl (by kernel_rfl) (by kernel_rfl) (by kernel_rfl) (fun _ _ _ h => h) (Or.inl ⟨by rfl, fun w _ => by go_simp⟩) ?_
        simp only [Act.put, List.setIfInBounds_toArray, List.set_cons_zero, List.set_cons_succ]
        refine takeH 5 54 (.slice ai2 li2 ci2) hHeld rfl rfl (by kernel_rfl) (by kernel_rfl) (by kernel_rfl) (fun _ _ _ h => h) (Or.inl ⟨by rfl, fun w hw => by have hw' : w.cell? ⟨b, off + 2 * j + 1, none⟩ = some (.slice ai2 li2 ci2) := hw; go_simp⟩) ?_
        simp only [Act.put, List.setIfInBounds_toArray, List.set_cons_zero, List.set_cons_succ]
        refine wpAnyH_ready (rs := [0]) (by kernel_rfl) (by simp) (AllReadyH.cons rfl (fun K hK => ?_) AllReadyH.nil)
        rw [if_pos (by rfl)]
        refine wp_loadG wRS rfl (R4g.out.below B0.out R4g.out.lt) HRL.out ?_
        refine hK.out _ _ (hSS _ B0.out) (fun hHeld => ?_)
        clear hK K
        simp only [Act.put, List.setIfInBounds_toArray, List.set_cons_zero, List.set_cons_succ]
        refine wpAnyH_ready (rs := [6]) (by kernel_rfl) (by simp) (AllReadyH.cons rfl (fun K hK => ?_) AllReadyH.nil)
        rw [if_pos (by rfl)]
        go_simp
        refine (HRW.out _ (SRg.out.below B0.out) (SA2.out.below B0.out)).mono ?_
        rintro e v1 ⟨a6, c6, rfl, hs6, hf6, hb6⟩
        have B1 := hide (B0.out.trans (hb6.mono B0.out.size))
        have HRL6 := hide (rfC_length (ov h (m ++ ys) (bk (m ++ ys))) ((n0 + (m ++ ys).length : Nat) : Int) (.slice a6 ((m ++ ys).length % 64) c6) (ov_length h (m ++ ys) X4.out _))
        have HON := hide (One.rf (ov h (m ++ ys) (bk (m ++ ys))) ((n0 + (m ++ ys).length : Nat) : Int) a6 ((m ++ ys).length % 64) c6)
        have SR6 := hide hs6
        have QR : Hid (∀ v, Blk v g4 29 (rfC (ov h (m ++ ys) (bk (m ++ ys))) ((n0 + (m ++ ys).length : Nat) : Int) (.slice a6 ((m ++ ys).length % 64) c6)) → Sl v a6 ((m ++ ys).length % 64) c6 (tl (m ++ ys)) → Blk v g 65 (stM h n0 (m ++ ys)) → GInv v g g4 (ps.take (j + 1)).flatten.length) := hide (fun v q1 q2 q3 =>
          ⟨h, n0, m ++ ys, a6, c6, q3, q1, q2, X4.out, X5.out, X6.out, X7.out.append HPB.out, by rw [List.length_append, HPJ.out, ET1.out, HSJ.out]; omega, X9.out, (fun _ x hx => by have := hf6 x hx; have := B0.out.size; omega), (fun _ x hx => by have := hf6 x hx; have := B0.out.size; omega)⟩)
        have A64 : Hid (0 < (m ++ ys).length % 64 → Apart g4 a6) := hide (fun _ x hx => by have := hf6 x hx; have := B0.out.size; omega)
        clear hs6 hf6 hb6
        revert HRL6 HON QR
        generalize rfC (ov h (m ++ ys) (bk (m ++ ys))) ((n0 + (m ++ ys).length : Nat) : Int) (.slice a6 ((m ++ ys).length % 64) c6) = RC1
        intro HRL6 HON QR
        refine hK.out _ _ (hSS _ B1.out) (fun hHeld => ?_)
        clear hK K
        refine takeH 7 48 (.tuple #[.agg RC1.toArray, .int .i64 0]) hHeld rfl rfl (by kernel_rfl) (by kernel_rfl) (by kernel_rfl) (fun _ _ _ h => h) (Or.inl ⟨by rfl, fun w _ => by go_simp⟩) ?_
        simp only [Act.put, List.setIfInBounds_toArray, List.set_cons_zero, List.set_cons_succ]
        refine takeH 8 56 (.agg RC1.toArray) hHeld rfl rfl (by kernel_rfl) (by kernel_rfl) (by kernel_rfl) (fun _ _ _ h => h) (Or.inl ⟨by rfl, fun w _ => by go_simp⟩) ?_
        simp only [Act.put, List.setIfInBounds_toArray, List.set_cons_zero, List.set_cons_succ]
        refine takeH 9 57 (.int .i64 0) hHeld rfl rfl (by kernel_rfl) (by kernel_rfl) (by kernel_rfl) (fun _ _ _ h => h) (Or.inl ⟨by rfl, fun w _ => by go_simp⟩) ?_
        simp only [Act.put, List.setIfInBounds_toArray, List.set_cons_zero, List.set_cons_succ]
        refine wpAnyH_ready (rs := [10]) (by kernel_rfl) (by simp) (AllReadyH.cons rfl (fun K hK => ?_) AllReadyH.nil)
        rw [if_pos (by rfl)]
        refine wp_storeG wRS rfl rfl (R4g.out.below B1.out R4g.out.lt) HRL6.out HON.out HRL.out ?_
        intro v3 hgz hbutz
        have cz : v3.cell? ⟨b, off + 2 * j + 1, none⟩ = some (.slice ai2 li2 ci2) := by
          rw [World.cell?_of_block (w := v1) (hbutz.block b hb4)]
          exact hSS _ B1.out
        refine hK.out _ _ (cz) (fun hHeld => ?_)
        clear hK K
        simp only [Act.put]
        refine takeH 11 8 (.int .i64 0) hHeld rfl rfl (by kernel_rfl) (by kernel_rfl) (by kernel_rfl) (fun _ _ _ h => h) (Or.inl ⟨by rfl, fun w _ => by go_simp⟩) ?_
        simp only [Act.put, List.setIfInBounds_toArray]
        refine wpAnyH_done (by kernel_rfl) ?_ _
        refine NoPanic.normal ?_
        clear hHeld
        have I1 := hide (QR.out v3 hgz (SR6.out.but hbutz A64.out) ((GG.out.below B1.out GG.out.lt).but hbutz (by omega)))
        have HBz := hide ((HBg.out.trans (B1.out.mono HBg.out.size)).trans (hbutz.below hw4))
        have hT1' : (ps.take (j + 1)).flatten.length ≤ 1048576 := by rw [ET1.out]; exact hT1
        clear hgz hbutz QR HON HRL6 SR6 A64 GG R4g SRg SA2 HRW HRL B0 B1 hSS hc2 cz HBg
        obtain ⟨RC, hRC, hG4, hST⟩ := ginv_stands I1.out (by omega) (HK.out.below HBz.out HK.out.lt)
        have RL := hide hRC
        have RG := hide hG4
        have RS := hide hST
        clear hRC hG4 hST
        go_wp2_with (first | (refine step_loadA wRS rfl rfl RG.out RL.out ?_) | (go_at_call 11; refine RS.out.mono ?_; rintro e wz ⟨rfl, hbz⟩))
        have IZ := hide (I1.out.below hbz)
        have HBZ := hide (HBz.out.trans (hbz.mono HBz.out.size))
        clear hbz
        go_roundw
        case rel => exact ⟨j + 1, by omega, by go_num, _, rfl, hwg, IZ.out, HBZ.out⟩
        case measure => simp [intOf]; omega
      by_cases h1 : kk = 1
      · subst h1
        obtain ⟨h, n0, m, a', c', i1, i2, i3, i4, i5, i6, i7, i8, i9, i10, i11⟩ := I.out
        have X1 := hide i1
        have X2 := hide i2
        have X3 := hide i3
        have X4 := hide i4
        have X5 := hide i5
        have X6 := hide i6
        have X7 := hide i7
        have X8 := hide i8
        have X9 := hide i9
        have X10 := hide i10
        have X11 := hide i11
        clear i1 i2 i3 i4 i5 i6 i7 i8 i9 i10 i11
        go_wp2_with fail
        refine (clone_any h n0 m g _ X1.out X4.out).mono ?_
        rintro e wa ⟨g', rfl, hlg', hg', hba⟩
        have B1a := hide ((Below.refl wa.heap.size wa).alloc (Nat.le_refl _) (.cells #[.int .u8 1, .int .u8 2, .int .u8 3] 5))
        have Bra := hide (hba.trans (B1a.out.mono hba.size))
        have S123 : Hid (Sl (wa.alloc (.cells #[.int .u8 1, .int .u8 2, .int .u8 3] 5)) (some ⟨wa.heap.size, 0, none⟩) 3 3 [1, 2, 3]) := hide ((Blk.made wa 5 (u8s [1, 2, 3])).sl0 one23 (by simp))
        have GN := hide (hg'.below B1a.out hg'.lt)
        have AN := hide (X3.out.apart hlg')
        have hgg : g' ≠ g := by omega
        have HBa := hide (B.out.trans (Bra.out.mono B.out.size))
        have A123 : Hid (0 < 3 → Apart g (some ⟨wa.heap.size, 0, none⟩)) := hide (fun _ x hx => by cases hx; show wa.heap.size ≠ g; have := hba.size; omega)
        have hwg' : w.heap.size ≤ g' := Nat.le_trans B.out.size hlg'
        clear hg' hba
        go_wp2_with fail
        refine (write_any h n0 m g _ _ _ [1, 2, 3] _ (X1.out.below Bra.out X1.out.lt) X4.out X6.out X7.out S123.out A123.out (HK.out.below HBa.out HK.out.lt) hg0 (by have := X8.out; omega)).mono ?_
        rintro e wb1 ⟨rfl, hgb, hcb⟩
        have I1 : Hid (GInv wb1 g' g4 (ps.take (j + 1)).flatten.length) := hide (GInv.mono (T := T) ⟨h, n0, m, a', c', GN.out.chg hcb hgg, (X2.out.below Bra.out X2.out.lt).chg hcb (by omega), (X3.out.below Bra.out).chg hcb X10.out, X4.out, X5.out, X6.out, X7.out, X8.out, X9.out, AN.out, X11.out⟩ (by rw [ET1.out]; exact HTM.out))
        have HBb := hide (HBa.out.trans (hcb.below hwg HBa.out.size))
        have hT1' : (ps.take (j + 1)).flatten.length ≤ 1048576 := by rw [ET1.out]; exact hT1
        clear hgb hcb GN S123 A123 B1a Bra X1 X2 X3 I B
        obtain ⟨RC, hRC, hG4, hST⟩ := ginv_stands I1.out (by omega) (HK.out.below HBb.out HK.out.lt)
        have RL := hide hRC
        have RG := hide hG4
        have RS := hide hST
        clear hRC hG4 hST
        go_wp2_with (first | (refine step_loadA wRS rfl rfl RG.out RL.out ?_) | (go_at_call 11; refine RS.out.mono ?_; rintro e wz ⟨rfl, hbz⟩))
        have IZ := hide (I1.out.below hbz)
        have HBZ := hide (HBb.out.trans (hbz.mono HBb.out.size))
        clear hbz
        go_roundw
        case rel => exact ⟨j + 1, by omega, by go_num, _, rfl, hwg', IZ.out, HBZ.out⟩
        case measure => simp [intOf]; omega
      by_cases h2 : kk = 2
      · subst h2
        obtain ⟨h, n0, m, a', c', i1, i2, i3, i4, i5, i6, i7, i8, i9, i10, i11⟩ := I.out
        have X1 := hide i1
        have X2 := hide i2
        have X3 := hide i3
        have X4 := hide i4
        have X5 := hide i5
        have X6 := hide i6
        have X7 := hide i7
        have X8 := hide i8
        have X9 := hide i9
        have X10 := hide i10
        have X11 := hide i11
        clear i1 i2 i3 i4 i5 i6 i7 i8 i9 i10 i11
        have HSL := hide (sv_length h n0 m X4.out)
        have HSB := hide (sv_isB h n0 m X7.out)
        have hr64 : m.length % 64 < 64 := Nat.mod_lt _ (by omega)
        have hN8 := X8.out
        have hn6 := X6.out
        have HOB : Hid (n0 + m.length < 64 → ov h m (bk m) = bL) := hide (fun hN => by
          have e0 : n0 = 0 := by omega
          have eb : bk m = 0 := by rw [bk]; omega
          rw [eb]
          exact X9.out e0)
        have OK : Hid (Ok (sv h n0 m) (n0 + m.length)) := hide ⟨by rw [HSL.out]; omega, ldN_sv h n0 m X4.out (by omega), by omega, by rw [HSL.out]; omega, by
          by_cases hN : 64 ≤ n0 + m.length
          · exact .inl hN
          · right
            rw [ldW_sv h n0 m X4.out X5.out]
            exact HOB.out (by omega)⟩
        go_wp2_with fail
        refine (save_any h n0 m g _ X1.out X4.out X6.out X7.out (by omega)).mono ?_
        rintro e wa ⟨gs, rfl, hlgs, hgs, hba⟩
        have GSa := hide hgs
        have SSa := hide (hgs.sl0 HSB.out (by rw [HSL.out]; omega))
        rw [HSL.out] at SSa
        have HBa := hide (B.out.trans (hba.mono B.out.size))
        have BA := hide hba
        have hwgs : w.heap.size ≤ gs := Nat.le_trans B.out.size hlgs
        clear hgs hba
        go_wp2_with fail
        refine (load_ok _ _ _ (sv h n0 m) (n0 + m.length) _ SSa.out OK.out).mono ?_
        rintro e wb1 ⟨g', rfl, hlg', hg', hbb⟩
        rw [ldW_sv h n0 m X4.out X5.out, drop_sv h n0 m X4.out] at hg'
        have GNb := hide hg'
        have GSb := hide (GSa.out.below hbb GSa.out.lt)
        have BB := hide (BA.out.trans (hbb.mono BA.out.size))
        have HBb := hide (HBa.out.trans (hbb.mono HBa.out.size))
        have hgs' : g' ≠ gs := by have := GSa.out.lt; omega
        have hg'r : wr.heap.size ≤ g' := Nat.le_trans BA.out.size hlg'
        have hwg' : w.heap.size ≤ g' := Nat.le_trans B.out.size hg'r
        clear hg' hbb GSa SSa
        go_wp2_with fail
        refine (spoil_blk gs (40 + m.length % 64) (40 + m.length % 64) _ (sv h n0 m) _ GSb.out HSL.out (by omega)).mono ?_
        rintro e wc ⟨rfl, hbut⟩
        have HTL := hide (tl_length m)
        have HBT : Hid (bk (tl m) = 0) := hide (by rw [bk, HTL.out]; omega)
        have E1 : Hid (ov (ov h m (bk m)) (tl m) (bk (tl m)) = ov h m (bk m)) := hide (by rw [HBT.out]; rfl)
        have E2 : Hid (tl (tl m) = tl m) := hide (by
          show (tl m).drop (64 * bk (tl m)) = tl m
          rw [HBT.out]; rfl)
        have E3 : Hid ((tl m).length % 64 = m.length % 64) := hide (by rw [HTL.out, Nat.mod_mod])
        have E4 : Hid (n0 + m.length - (n0 + m.length) % 64 + (tl m).length = n0 + m.length) := hide (by rw [HTL.out]; omega)
        have I1 : Hid (GInv wc g' g4 (ps.take (j + 1)).flatten.length) := hide (GInv.mono (T := T) ⟨ov h m (bk m), n0 + m.length - (n0 + m.length) % 64, tl m, a', c', GNb.out.but hbut hgs', by
            rw [E1.out, E3.out, E4.out]
            exact (X2.out.below BB.out X2.out.lt).but hbut (by omega), by
            rw [E2.out, E3.out]
            exact (X3.out.below BB.out).but hbut (X3.out.apart hlgs), ov_length h m X4.out _, ov_isW h m X5.out _, by omega, X7.out.drop _, by rw [E4.out]; exact X8.out, (fun hz => HOB.out (by omega)), by
            rw [E3.out]
            exact X3.out.apart hg'r, by
            rw [E3.out]
            exact X11.out⟩ (by rw [ET1.out]; exact HTM.out))
        have HBc := hide (HBb.out.trans (hbut.below hwgs))
        have hT1' : (ps.take (j + 1)).flatten.length ≤ 1048576 := by rw [ET1.out]; exact hT1
        clear hbut GNb GSb BB BA HBb HBa X1 X2 X3 I B OK HSL HSB E1 E2 E3 E4 HBT HTL HOB
        obtain ⟨RC, hRC, hG4, hST⟩ := ginv_stands I1.out (by omega) (HK.out.below HBc.out HK.out.lt)
        have RL := hide hRC
        have RG := hide hG4
        have RS := hide hST
        clear hRC hG4 hST
        go_wp2_with (first | (refine step_loadA wRS rfl rfl RG.out RL.out ?_) | (go_at_call 11; refine RS.out.mono ?_; rintro e wz ⟨rfl, hbz⟩))
        have IZ := hide (I1.out.below hbz)
        have HBZ := hide (HBc.out.trans (hbz.mono HBc.out.size))
        clear hbz
        go_roundw
        case rel => exact ⟨j + 1, by omega, by go_num, _, rfl, hwg', IZ.out, HBZ.out⟩
        case measure => simp [intOf]; omega
      have I1 := hide (I.out.mono HTM.out)
      rw [← ET1.out] at I1
      have hT1' : (ps.take (j + 1)).flatten.length ≤ 1048576 := by rw [ET1.out]; exact hT1
      obtain ⟨RC, hRC, hG4, hST⟩ := ginv_stands I1.out (by omega) (HK.out.below B.out HK.out.lt)
      have RL := hide hRC
      have RG := hide hG4
      have RS := hide hST
      clear hRC hG4 hST
      go_wp2_with (first | (refine step_loadA wRS rfl rfl RG.out RL.out ?_) | (go_at_call 11; refine RS.out.mono ?_; rintro e wz ⟨rfl, hbz⟩))
      have IZ := hide (I1.out.below hbz)
      have HBZ := hide (B.out.trans (hbz.mono B.out.size))
      clear hbz
      go_roundw
      case rel => exact ⟨j + 1, by omega, by go_num, _, rfl, hwg, IZ.out, HBZ.out⟩
      case measure => simp [intOf]; omega
    · have hlt' : ¬ ((j : Int) < (len : Int)) := by omega
      go_wp2_with (go_at_call 18; refine (names_any _).mono ?_; rintro e w' ⟨rfl, rfl⟩)
      go_ret
      exact ⟨rfl, B.out⟩

end Go.Proofs.YtefaabmkcgdkiaaDoor
