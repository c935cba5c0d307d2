/-
  slices.Backward over a range's parts; Root of a range from 0 on.
-/
import Derived.Test.YthgfbcndoedacaaDoorRr
namespace Go.Proofs.YthgfbcndoedacaaDoor
open Go.RowKit Go.Shelf
set_option linter.unusedVariables false

theorem back_any (a : Option Addr) (n c : Nat) (w : World) : Calls Tryd.prog 43 #[.slice a n c] w fun e w' => e = .returned (.func (.func 60) #[] #[.pointer (some ⟨w.heap.size, 0, none⟩)]) ∧ w' = w.alloc (.cells #[.slice a n c] 52) := by
  go_enter Tryd.func43, Tryd.ntmps43
  go_wp2
  go_ret
  exact ⟨rfl, rfl⟩

/-- What the iterator reads: its slice's variable, and the parts. -/
def BK (M : World → Nat → Prop) (Bs h cap : Nat) (cs : List Value) (m : Nat) (W : World) : Prop := Blk W Bs 52 [.slice (some ⟨h, 0, none⟩) m cap] ∧ Blk W h 75 cs ∧ ¬ M W Bs ∧ ¬ M W h
theorem BK.km {M : World → Nat → Prop} {Bs h cap : Nat} {cs : List Value} {m : Nat} {A B : World} (x : BK M Bs h cap cs m A) (k : KM M A B) : BK M Bs h cap cs m B :=
  ⟨k.keep Bs _ x.1 rfl x.2.2.1, k.keep h _ x.2.1 rfl x.2.2.2, fun hm => x.2.2.1 (k.mine Bs x.1.lt hm), fun hm => x.2.2.2 (k.mine h x.2.1.lt hm)⟩
theorem BK.below {n₀ : Nat} {M : World → Nat → Prop} (hM : Mine n₀ M) {Bs h cap : Nat} {cs : List Value} {m : Nat} {A B : World} (x : BK M Bs h cap cs m A) (hn : n₀ ≤ A.heap.size) (hb : Below A.heap.size A B) : BK M Bs h cap cs m B :=
  ⟨x.1.below hb x.1.lt, x.2.1.below hb x.2.1.lt, fun hm => x.2.2.1 (hM.below A B hn hb Bs hm), fun hm => x.2.2.2 (hM.below A B hn hb h hm)⟩
theorem back_lt {k : Nat} : (intOf (.int .i64 ((k : Int) - 1)) + 1).toNat < (intOf (.int .i64 (k : Int)) + 1).toNat := by
  simp only [intOf]
  omega

set_option maxRecDepth 100000 in
set_option maxHeartbeats 1000000 in
theorem back_stops (Bs n₀ h cap m : Nat) (cs : List Value) (qs : List Pt) (w : World) (hn0 : n₀ ≤ w.heap.size) (hgl : GoodL qs) (hql : qs.length = m) (hm98 : m ≤ 98) (hct : cs.take (m * 34) = pcs qs) (M : World → Nat → Prop) (hM : Mine n₀ M) (hbk : BK M Bs h cap cs m w) :
    SeqStopsK Fence.wide 2 Tryd.prog 60 #[.pointer (some ⟨Bs, 0, none⟩)] (fun j : Nat => #[Value.int .i64 ((m - 1 - j : Nat) : Int), Value.agg (pc (pG qs (m - 1 - j))).toArray]) (KM M) (fun xs => xs = List.range m) (fun pre => pre <+: List.range m) m w := by
  intro l J Jx W hW hJ hJx hY h0
  have HBK := hide (hbk.below hM hn0 hW)
  have hnW : n₀ ≤ W.heap.size := Nat.le_trans hn0 hW.size
  have hc : W.cell? ⟨Bs, 0, none⟩ = some (.slice (some ⟨h, 0, none⟩) m cap) := by rw [HBK.out.1.cell]; rfl
  have hw1 : wrap64 ((m : Int) - 1) = (m : Int) - 1 := by unfold wrap64; omega
  have HJ0 := hide h0
  have HGL := hide hgl
  have HCT := hide hct
  have HQL := hide hql
  clear hbk hW h0 hgl hct hql
  refine callsIn_of_wp Tryd.func60 rfl trivial ?_ rfl
  simp only [Tryd.ntmps60, List.size_toArray, List.length_cons, List.length_nil, Nat.reduceAdd, Nat.reduceSub, Array.replicate_succ, Array.replicate_zero, List.push_toArray, List.append_toArray, List.nil_append, List.cons_append]
  gi_wp2_with fail
  gi_loopw [3] (fun i wr => ∃ k : Nat, k ≤ m ∧ i = .int .i64 ((k : Int) - 1) ∧ Hid (J (List.range (m - k)) wr) ∧ Hid (BK M Bs h cap cs m wr) ∧ n₀ ≤ wr.heap.size) (fun i _ => (intOf i + 1).toNat)
  case atStart => exact ⟨m, Nat.le_refl _, by first | rfl | (rw [hw1]), by rw [Nat.sub_self]; exact HJ0, HBK, hnW⟩
  case round =>
    obtain ⟨k, hk, rfl, HJ, HB, hnr⟩ := hrel
    clear HJ0 HBK hnW hc hw1
    rcases Nat.eq_zero_or_pos k with h0 | h0
    · rw [show ((k : Int) - 1) = -1 by omega]
      have HJ2 : Hid (J (List.range m) wr) := hide (by have := HJ.out; rwa [h0, Nat.sub_zero] at this)
      clear h0
      gi_wp2
      go_end0
      exact ⟨⟨_, rfl⟩, .inl ⟨_, rfl, HJ2.out⟩⟩
    · obtain ⟨i, rfl⟩ : ∃ i, k = i + 1 := ⟨k - 1, by omega⟩
      clear h0
      rw [show (((i + 1 : Nat) : Int) - 1) = (i : Int) by omega]
      have him : i < m := hk
      have hix := p_at h m cap i (i : Int) rfl him
      have hc : wr.cell? ⟨Bs, 0, none⟩ = some (.slice (some ⟨h, 0, none⟩) m cap) := by rw [HB.out.1.cell]; rfl
      have hil : i < qs.length := by have := HQL.out; omega
      have HPG := hide (pAt_good HGL.out hil)
      have HPL := hide (pc_length HPG.out)
      have HRA : Hid (wr.rangeAt h (i * 34) (pc (pAt qs i))) := hide (HB.out.2.1.range _ _ (by
        have hpa := pcs_at HGL.out hil
        rw [← HCT.out, List.drop_take, List.take_take] at hpa
        rw [HPL.out, ← hpa]
        congr 1
        have : (i + 1) * 34 ≤ m * 34 := Nat.mul_le_mul_right 34 him
        omega))
      have EI : m - 1 - (m - (i + 1)) = i := by omega
      have EG : pG qs i = pAt qs i := by unfold pG; rw [if_pos hil]
      obtain ⟨fn, tmps, assign, body, hy, hR⟩ := hY (List.range (m - (i + 1))) (m - (i + 1)) wr HJ.out (by rw [List.length_range]; omega)
      simp only [EI, EG] at hy
      have hwm : wrap64 ((i : Int) - 1) = (i : Int) - 1 := by unfold wrap64; omega
      have ER : Hid (List.range (m - (i + 1)) ++ [m - (i + 1)] = List.range (m - i)) := hide (by rw [← List.range_succ]; congr 1; omega)
      clear EI EG hil
      gi_wp2_with (refine istep_loadR .wide wP rfl rfl _ HRA.out HPL.out ?_)
      refine hR.mono ?_
      rintro r W4 (⟨rfl, hJ4, hk4⟩ | ⟨rfl, hJx4⟩)
      · have HJ4 : Hid (J (List.range (m - i)) W4) := hide (by rw [← ER.out]; exact hJ4)
        have HB4 := hide (HB.out.km hk4)
        have hn4 : n₀ ≤ W4.heap.size := Nat.le_trans hnr hk4.size
        clear hJ4 hk4 hc
        gi_wp2
        go_roundw
        case rel => exact ⟨i, by omega, by first | rfl | (rw [hwm]), HJ4, HB4, hn4⟩
        case measure => exact back_lt
      · have HJx4 : Hid (Jx (List.range (m - i)) W4) := hide (by rw [← ER.out]; exact hJx4)
        clear hJx4 hc
        gi_wp2
        refine bodyPost_ret (results_none rfl _ _ _) rfl ?_
        exact ⟨⟨_, rfl⟩, .inr ⟨_, range_pre (by omega), HJx4.out⟩⟩

/-- The root out of the parts, from the right. -/
def rf : List Pt → List Int
  | [] => emp
  | [p] => p.2
  | p :: ps => nd p.2 (rf ps)
def accR (qs : List Pt) (m : Nat) (d0 : List Int) (pre : List Nat) : List Int := pre.foldl (fun d j => nd (pG qs (m - 1 - j)).2 d) d0
theorem accR_good (qs : List Pt) (m : Nat) : ∀ (pre : List Nat) (d0 : List Int), d0.length = 32 → isB d0 → (accR qs m d0 pre).length = 32 ∧ isB (accR qs m d0 pre)
  | [], d0, h1, h2 => ⟨h1, h2⟩
  | j :: pre, d0, _, _ => accR_good qs m pre _ (nd_length _ _) (nd_isB _ _)
theorem accR_snoc (qs : List Pt) (m : Nat) (d0 : List Int) (pre : List Nat) (j : Nat) : accR qs m d0 (pre ++ [j]) = nd (pG qs (m - 1 - j)).2 (accR qs m d0 pre) := by simp [accR]
/-- What Root's loop keeps. -/
structure RI (w W : World) (g2 g5 : Nat) (d : List Int) : Prop where
  c2 : Blk W g2 34 (u8s (zer 32))
  c5 : Blk W g5 34 (u8s d)
  bel : Below w.heap.size w W
theorem RI.below {w W W' : World} {g2 g5 : Nat} {d : List Int} (h : RI w W g2 g5 d) (hb : Below W.heap.size W W') : RI w W' g2 g5 d := ⟨h.c2.below hb h.c2.lt, h.c5.below hb h.c5.lt, h.bel.trans (hb.mono h.bel.size)⟩
theorem RI.kept {w A B : World} {g2 g5 : Nat} {d : List Int} {row : Option Nat} (h : RI w A g2 g5 d) (hg : A.grownBy B row) (hr : ∀ r, row = some r → w.heap.size ≤ r ∧ ∃ o : Obj, A.heap[r]? = some o ∧ o.isCells = false) : RI w B g2 g5 d :=
  ⟨h.c2.kept hg (fun r e => (hr r e).2), h.c5.kept hg (fun r e => (hr r e).2), h.bel.grown hg h.bel.size (fun r e => (hr r e).1)⟩

set_option maxRecDepth 100000 in
set_option maxHeartbeats 1000000 in
theorem rroot_some (B g e n : Nat) (v : Value) (ps : List Pt) (w : World) (hr : Rg w B g 0 e v ps) (hn : ps.length = n + 1) (hk : KT w) :
    Calls Tryd.prog 22 #[.pointer (some ⟨g, 0, none⟩)] w fun r w' => r = .returned (.tuple #[.agg (u8s (accR (ps.take n) n (pAt ps n).2 (List.range n))).toArray, .int .i64 0]) ∧ Below w.heap.size w w' := by
  obtain ⟨h, cap, cs, rfl, hbl, hcap, hct⟩ : ∃ h cap cs, v = .slice (some ⟨h, 0, none⟩) (n + 1) cap ∧ Blk w h 75 cs ∧ n + 1 ≤ cap ∧ cs.take ((n + 1) * 34) = pcs ps := by
    rcases hr.own.lies with ⟨_, e2⟩ | ⟨h, cap, cs, e1, _, hb, hc, _, _, ht⟩
    · rw [e2] at hn; cases hn
    · rw [hn] at e1 hc ht
      exact ⟨h, cap, cs, e1, hb, hc, ht⟩
  have HR := hide hr
  have HK := hide hk
  have HBL := hide hbl
  have HPG := hide (pAt_good hr.good (show n < ps.length by omega))
  have hcnt := hr.count
  have HRA : Hid (∀ W : World, Below w.heap.size w W → W.rangeAt h (n * 34 + 2) (u8s (pAt ps n).2)) := hide (fun W hb => by
    have h1 : W.rangeAt h (n * 34) (pc (pAt ps n)) := (hbl.below hb hbl.lt).range _ _ (by
      have hpa := pcs_at hr.good (show n < ps.length by omega)
      rw [← hct, List.drop_take, List.take_take] at hpa
      rw [pc_length (pAt_good hr.good (show n < ps.length by omega)), ← hpa]
      congr 1
      omega)
    exact range_r h1)
  have HCT : Hid (cs.take (n * 34) = pcs (ps.take n)) := hide (by
    rw [← pcs_take hr.good n (by omega), ← hct, List.take_take]
    congr 1
    omega)
  have hix := p_at h (n + 1) cap n (n : Int) rfl (by omega)
  have hto := p_to h (n + 1) cap n (n : Int) rfl (by omega)
  have HUL := hide (show (u8s (pAt ps n).2).length = 32 by rw [u8s_length, HPG.out.len])
  have hwn : wrap64 ((n : Int) + 1 - 1) = (n : Int) := by unfold wrap64; omega
  have hn1 : ¬ ((n : Int) + 1 = 0) := by omega
  clear hr hk hbl hct
  refine (callsIn_wide (n := 3)).1 ?_
  refine callsIn_of_wp_marks Tryd.func22 rfl trivial ?_ rfl
  refine wpIn_wide.2 ?_
  simp only [Tryd.ntmps22, List.size_toArray, List.length_cons, List.length_nil, Nat.reduceAdd, Nat.reduceSub, Array.replicate_succ, Array.replicate_zero, List.push_toArray, List.append_toArray, List.nil_append, List.cons_append]
  go_wp2_with (refine step_alloc zD rfl ?_)
  intro w1 g2 hg2 hle2 hb1
  have G2 := hide hg2
  have R1 := hide (HR.out.below hb1)
  have c0 : w1.cell? ⟨g, 0, none⟩ = some (.bool true) := by rw [R1.out.blk.cell]; rfl
  have c1 : w1.cell? ⟨g, 1, none⟩ = some (.int .i64 0) := by rw [R1.out.blk.cell]; rfl
  have c3 : w1.cell? ⟨g, 3, none⟩ = some (.slice (some ⟨h, 0, none⟩) (n + 1) cap) := by rw [R1.out.blk.cell]; rfl
  have HRB := hide (HRA.out w1 hb1)
  clear hg2
  go_wp2_with (first | (go_at_call 29; refine (made_is _ _ c0).mono ?_; rintro e w' ⟨rfl, rfl⟩) | (refine step_loadR wD rfl rfl _ HRB.out HUL.out ?_) | (refine step_alloc zD rfl ?_))
  intro w2 g5 hg5 hle5 hb2
  go_wp2_with (refine step_storeA wD rfl rfl rfl hg5 HUL.out (One.u8 _) rfl ?_)
  intro w3 hg53 hbut5
  have hb23 : Below w1.heap.size w1 w3 := hb2.trans (hbut5.below hle5)
  have HB3 := hide (hb1.trans (hb23.mono hb1.size))
  have hws5 : w.heap.size ≤ g5 := Nat.le_trans hb1.size hle5
  have hg25 : g2 ≠ g5 := by have := G2.out.lt; omega
  have I3 : Hid (RI w w3 g2 g5 (pAt ps n).2) := hide ⟨G2.out.below hb23 G2.out.lt, hg53, HB3.out⟩
  have d3 : w3.cell? ⟨g, 3, none⟩ = some (.slice (some ⟨h, 0, none⟩) (n + 1) cap) := cell_below c3 hb23
  clear hg5 hg53 hb2 hbut5 hb23 c0 c1 c3 HRB
  go_wp2_with fail
  refine (back_any _ _ _ _).mono ?_
  rintro r W5 ⟨rfl, rfl⟩
  have hbA : Below w3.heap.size w3 (w3.alloc (.cells #[.slice (some ⟨h, 0, none⟩) n cap] 52)) := (Below.refl _ _).alloc (Nat.le_refl _) _
  have BX : Blk (w3.alloc (.cells #[.slice (some ⟨h, 0, none⟩) n cap] 52)) w3.heap.size 52 [.slice (some ⟨h, 0, none⟩) n cap] := Blk.made _ _ _
  have I4 := I3.out.below hbA
  have h5x : g5 ≠ w3.heap.size := by have := I3.out.c5.lt; omega
  revert hbA BX I4 h5x
  generalize w3.alloc (.cells #[.slice (some ⟨h, 0, none⟩) n cap] 52) = W4
  generalize w3.heap.size = bx
  intro hbA BX I4 h5x
  have HI4 := hide I4
  have HBH := hide (HBL.out.below I4.bel HBL.out.lt)
  have hgh : h ≠ g5 := HBH.out.apart I4.c5 (by decide)
  have BK0 : Hid (BK (fun A k => k = g5 ∧ k < A.heap.size) bx h cap cs n W4) := hide ⟨BX, HBH.out, fun e => h5x e.1.symm, fun e => hgh e.1⟩
  clear I4 BX d3 I3
  go_wp2_with fail
  refine (wpIn_wide (n := 3)).1 ?_
  refine range1 rfl (by decide) (gf := 60) (lb := #[.pointer (some ⟨bx, 0, none⟩)]) rfl trivial (enters_of Tryd.func60 (by kernel_rfl) rfl)
    (back_stops bx W4.heap.size h cap n cs (ps.take n) W4 (Nat.le_refl _) (HR.out.good.take n) (by rw [List.length_take]; omega) (by omega) HCT.out _ (Mine.one HI4.out.c5.lt) BK0.out) KM.trans (KM.book (Mine.one HI4.out.c5.lt) (Nat.le_refl _)) (fun A B h hb => km_below (Mine.one HI4.out.c5.lt) h hb) (fun _ => rfl)
    (fun pre W => RI w W g2 g5 (accR (ps.take n) n (pAt ps n).2 pre) ∧ W4.heap.size ≤ W.heap.size) (fun _ _ _ => False)
    (fun _ A B row h hg hr => ⟨h.1.kept hg (fun r e => ⟨by have := (hr r e).1; have := HI4.out.bel.size; omega, (hr r e).2⟩), Nat.le_trans h.2 hg.size⟩)
    (fun _ _ h => h.2) (fun c _ A B row h hg hr => h)
    ⟨HI4.out, Nat.le_refl _⟩ 75 (fun x => pc (pG (ps.take n) (n - 1 - x))) ?act ?assign ?body ?done ?stop
  case assign =>
    rintro l x W K hK
    have hsem := Oper.semAt_some
    have HPLx := hide (pc_length (pG_good (HR.out.good.take n) (n - 1 - x)))
    gi_wp2_with (refine istep_alloc (.round l) zP rfl ?_)
    intro W1 g6 hg6 hle6 hb6
    gi_wp2_with (refine istep_storeA (.round l) wP rfl rfl rfl hg6 HPLx.out (One.pc _) rfl ?_)
    intro W2 hg62 hbut6
    have hK2 := hK g6 W2 (hb6.trans (hbut6.below hle6)) hg62
    clear hK
    gi_wp2
    exact hK2
  case stop =>
    rintro D c pre W hD hSp h hK
    exact h.elim
  case body =>
    rintro l pre x g6 W ⟨hI, hsz⟩ hg6 hlt
    have hsem := Oper.semAt_some
    have HG6 := hide hg6
    have HI := hide hI
    have HPx := hide (pG_good (HR.out.good.take n) (n - 1 - x))
    have HAx := hide (accR_good (ps.take n) n pre (pAt ps n).2 HPG.out.len HPG.out.byte)
    have HLx := hide (show (u8s (pG (ps.take n) (n - 1 - x)).2).length = 32 by rw [u8s_length, HPx.out.len])
    have HLa := hide (show (u8s (accR (ps.take n) n (pAt ps n).2 pre)).length = 32 by rw [u8s_length, HAx.out.1])
    clear hg6 hI
    gi_wp2_with (first | (refine istep_load (.round l) wD rfl rfl HG6.out (u8s (pG (ps.take n) (n - 1 - x)).2) HLx.out (by exact List.take_of_length_le (by rw [show (pc (pG (ps.take n) (n - 1 - x))).drop 2 = u8s (pG (ps.take n) (n - 1 - x)).2 from rfl, HLx.out]; omega)) ?_) | (refine istep_loadA (.round l) wD rfl rfl HI.out.c5 HLa.out ?_))
    refine ⟨trivial, (calls_round (.round l) (node_any _ _ _ HPx.out.len HPx.out.byte HAx.out.1 HAx.out.2 (HK.out.below HI.out.bel HK.out.lt))).mono ?_⟩
    rintro r W1 ⟨rfl, hb1'⟩
    have HI1 := hide (HI.out.below hb1')
    have HNL := hide (show (u8s (nd (pG (ps.take n) (n - 1 - x)).2 (accR (ps.take n) n (pAt ps n).2 pre))).length = 32 by rw [u8s_length, nd_length])
    gi_wp2_with (refine istep_storeA (.round l) wD rfl rfl rfl HI1.out.c5 HNL.out (One.u8 _) HLa.out ?_)
    intro W2 hg52 hbut2
    gi_wp2
    have hbut3 : KeepsOthers W1 W2 := keepsO_but hbut2 HI1.out.c5
    refine ⟨((keepsO_below hb1').trans hbut3).from _, KM.trans (km_below (Mine.one HI4.out.c5.lt) hsz hb1') (km_one hbut2 HI1.out.c5.lt), ⟨HI1.out.c2.but hbut2 ?_, ?_, HI1.out.bel.trans (hbut2.below hws5)⟩, ?_⟩
    · exact hg25
    · rw [accR_snoc]; exact hg52
    · rw [hbut2.size]; exact Nat.le_trans hsz hb1'.size
  case done =>
    rintro D ys W hD rfl ⟨hI, hsz⟩ hKd
    have HI := hide hI
    have HKd := hide hKd
    have HAx := hide (accR_good (ps.take n) n (List.range n) (pAt ps n).2 HPG.out.len HPG.out.byte)
    have HLa := hide (show (u8s (accR (ps.take n) n (pAt ps n).2 (List.range n))).length = 32 by rw [u8s_length, HAx.out.1])
    clear hI hKd
    go_wp2_with (first | (refine step_loadA wD rfl rfl HI.out.c5 HLa.out ?_) | (refine step_storeA wD rfl rfl rfl HI.out.c2 HLa.out (One.u8 _) rfl ?_))
    intro W5 hg2' hbut'
    go_wp2
    have hDg : D ≠ g2 := by have := HI4.out.c2.lt; omega
    have k1 : W5.heap[D]? = some (.deferred (some [])) := by rw [hbut'.block D hDg]; exact HKd.out
    have BA := (HI.out.bel.trans (hbut'.below hle2)).trans (belowK_b (w := w) (Nat.le_refl _) _ D _ (.deferred none) (by have := HI4.out.bel.size; omega) k1 rfl rfl)
    have hgF : Blk (W5.putObj D (.deferred none)) g2 34 (u8s (accR (ps.take n) n (pAt ps n).2 (List.range n))) := hg2'.kept (grownBy_putObj' _ D (.deferred none)) (fun r e => by cases e; exact ⟨_, k1, rfl⟩)
    refine ⟨by simp, .inl ⟨_, _, rfl, run_takeDeferred k1, ?_⟩⟩
    exact ⟨_, results_wide2 rfl wD _ _ rfl hgF HLa.out, rfl, BA⟩

end Go.Proofs.YthgfbcndoedacaaDoor
