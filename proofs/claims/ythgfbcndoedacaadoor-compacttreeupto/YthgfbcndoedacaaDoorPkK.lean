/-
  Texts one behind the other: Rb Rc Rd Tt TcLaw.
-/
import Derived.Test.YthgfbcndoedacaaDoorPkJ

/-
  slices.Backward over a range's parts; Root of a range from 0 on.
-/
namespace Go.Proofs.YthgfbcndoedacaaDoor
open Go.RowKit Go.Shelf
set_option linter.unusedVariables false

theorem back_any (a : Option Addr) (n c : Nat) (w : World) : Calls Tryd.prog 43 #[.slice a n c] w fun e w' => e = .returned (.func (.func 60) #[] #[.pointer (some ⟨w.heap.size, 0, none⟩)]) ∧ w' = w.alloc (.cells #[.slice a n c] 52) := by
  go_enter Tryd.func43, Tryd.ntmps43
  go_wp2
  go_ret
  exact ⟨rfl, rfl⟩

/-- What the iterator reads: its slice's variable, and the parts. -/
def BK (M : World → Nat → Prop) (Bs h cap : Nat) (cs : List Value) (m : Nat) (W : World) : Prop := Blk W Bs 52 [.slice (some ⟨h, 0, none⟩) m cap] ∧ Blk W h 75 cs ∧ ¬ M W Bs ∧ ¬ M W h
theorem BK.km {M : World → Nat → Prop} {Bs h cap : Nat} {cs : List Value} {m : Nat} {A B : World} (x : BK M Bs h cap cs m A) (k : KM M A B) : BK M Bs h cap cs m B :=
  ⟨k.keep Bs _ x.1 rfl x.2.2.1, k.keep h _ x.2.1 rfl x.2.2.2, fun hm => x.2.2.1 (k.mine Bs x.1.lt hm), fun hm => x.2.2.2 (k.mine h x.2.1.lt hm)⟩
theorem BK.below {n₀ : Nat} {M : World → Nat → Prop} (hM : Mine n₀ M) {Bs h cap : Nat} {cs : List Value} {m : Nat} {A B : World} (x : BK M Bs h cap cs m A) (hn : n₀ ≤ A.heap.size) (hb : Below A.heap.size A B) : BK M Bs h cap cs m B :=
  ⟨x.1.below hb x.1.lt, x.2.1.below hb x.2.1.lt, fun hm => x.2.2.1 (hM.below A B hn hb Bs hm), fun hm => x.2.2.2 (hM.below A B hn hb h hm)⟩
theorem back_lt {k : Nat} : (intOf (.int .i64 ((k : Int) - 1)) + 1).toNat < (intOf (.int .i64 (k : Int)) + 1).toNat := by
  simp only [intOf]
  omega

set_option maxRecDepth 100000 in
set_option maxHeartbeats 1000000 in
theorem back_stops (Bs n₀ h cap m : Nat) (cs : List Value) (qs : List Pt) (w : World) (hn0 : n₀ ≤ w.heap.size) (hgl : GoodL qs) (hql : qs.length = m) (hm98 : m ≤ 98) (hct : cs.take (m * 34) = pcs qs) (M : World → Nat → Prop) (hM : Mine n₀ M) (hbk : BK M Bs h cap cs m w) :
    SeqStopsK Fence.wide 2 Tryd.prog 60 #[.pointer (some ⟨Bs, 0, none⟩)] (fun j : Nat => #[Value.int .i64 ((m - 1 - j : Nat) : Int), Value.agg (pc (pG qs (m - 1 - j))).toArray]) (KM M) (fun xs => xs = List.range m) (fun pre => pre <+: List.range m) m w := by
  intro l J Jx W hW hJ hJx hY h0
  have HBK := hide (hbk.below hM hn0 hW)
  have hnW : n₀ ≤ W.heap.size := Nat.le_trans hn0 hW.size
  have hc : W.cell? ⟨Bs, 0, none⟩ = some (.slice (some ⟨h, 0, none⟩) m cap) := by rw [HBK.out.1.cell]; rfl
  have hw1 : wrap64 ((m : Int) - 1) = (m : Int) - 1 := by unfold wrap64; omega
  have HJ0 := hide h0
  have HGL := hide hgl
  have HCT := hide hct
  have HQL := hide hql
  clear hbk hW h0 hgl hct hql
  refine callsIn_of_wp Tryd.func60 rfl trivial ?_ rfl
  simp only [Tryd.ntmps60, List.size_toArray, List.length_cons, List.length_nil, Nat.reduceAdd, Nat.reduceSub, Array.replicate_succ, Array.replicate_zero, List.push_toArray, List.append_toArray, List.nil_append, List.cons_append]
  gi_wp2_with fail
  gi_loopw [3] (fun i wr => ∃ k : Nat, k ≤ m ∧ i = .int .i64 ((k : Int) - 1) ∧ Hid (J (List.range (m - k)) wr) ∧ Hid (BK M Bs h cap cs m wr) ∧ n₀ ≤ wr.heap.size) (fun i _ => (intOf i + 1).toNat)
  case atStart => exact ⟨m, Nat.le_refl _, by first | rfl | (rw [hw1]), by rw [Nat.sub_self]; exact HJ0, HBK, hnW⟩
  case round =>
    obtain ⟨k, hk, rfl, HJ, HB, hnr⟩ := hrel
    clear HJ0 HBK hnW hc hw1
    rcases Nat.eq_zero_or_pos k with h0 | h0
    · rw [show ((k : Int) - 1) = -1 by omega]
      have HJ2 : Hid (J (List.range m) wr) := hide (by have := HJ.out; rwa [h0, Nat.sub_zero] at this)
      clear h0
      gi_wp2
      go_end0
      exact ⟨⟨_, rfl⟩, .inl ⟨_, rfl, HJ2.out⟩⟩
    · obtain ⟨i, rfl⟩ : ∃ i, k = i + 1 := ⟨k - 1, by omega⟩
      clear h0
      rw [show (((i + 1 : Nat) : Int) - 1) = (i : Int) by omega]
      have him : i < m := hk
      have hix := p_at h m cap i (i : Int) rfl him
      have hc : wr.cell? ⟨Bs, 0, none⟩ = some (.slice (some ⟨h, 0, none⟩) m cap) := by rw [HB.out.1.cell]; rfl
      have hil : i < qs.length := by have := HQL.out; omega
      have HPG := hide (pAt_good HGL.out hil)
      have HPL := hide (pc_length HPG.out)
      have HRA : Hid (wr.rangeAt h (i * 34) (pc (pAt qs i))) := hide (HB.out.2.1.range _ _ (by
        have hpa := pcs_at HGL.out hil
        rw [← HCT.out, List.drop_take, List.take_take] at hpa
        rw [HPL.out, ← hpa]
        congr 1
        have : (i + 1) * 34 ≤ m * 34 := Nat.mul_le_mul_right 34 him
        omega))
      have EI : m - 1 - (m - (i + 1)) = i := by omega
      have EG : pG qs i = pAt qs i := by unfold pG; rw [if_pos hil]
      obtain ⟨fn, tmps, assign, body, hy, hR⟩ := hY (List.range (m - (i + 1))) (m - (i + 1)) wr HJ.out (by rw [List.length_range]; omega)
      simp only [EI, EG] at hy
      have hwm : wrap64 ((i : Int) - 1) = (i : Int) - 1 := by unfold wrap64; omega
      have ER : Hid (List.range (m - (i + 1)) ++ [m - (i + 1)] = List.range (m - i)) := hide (by rw [← List.range_succ]; congr 1; omega)
      clear EI EG hil
      gi_wp2_with (refine istep_loadR .wide wP rfl rfl _ HRA.out HPL.out ?_)
      refine hR.mono ?_
      rintro r W4 (⟨rfl, hJ4, hk4⟩ | ⟨rfl, hJx4⟩)
      · have HJ4 : Hid (J (List.range (m - i)) W4) := hide (by rw [← ER.out]; exact hJ4)
        have HB4 := hide (HB.out.km hk4)
        have hn4 : n₀ ≤ W4.heap.size := Nat.le_trans hnr hk4.size
        clear hJ4 hk4 hc
        gi_wp2
        go_roundw
        case rel => exact ⟨i, by omega, by first | rfl | (rw [hwm]), HJ4, HB4, hn4⟩
        case measure => exact back_lt
      · have HJx4 : Hid (Jx (List.range (m - i)) W4) := hide (by rw [← ER.out]; exact hJx4)
        clear hJx4 hc
        gi_wp2
        refine bodyPost_ret (results_none rfl _ _ _) rfl ?_
        exact ⟨⟨_, rfl⟩, .inr ⟨_, range_pre (by omega), HJx4.out⟩⟩

/-- The root out of the parts, from the right. -/
def rf : List Pt → List Int
  | [] => emp
  | [p] => p.2
  | p :: ps => nd p.2 (rf ps)
def accR (qs : List Pt) (m : Nat) (d0 : List Int) (pre : List Nat) : List Int := pre.foldl (fun d j => nd (pG qs (m - 1 - j)).2 d) d0
theorem accR_good (qs : List Pt) (m : Nat) : ∀ (pre : List Nat) (d0 : List Int), d0.length = 32 → isB d0 → (accR qs m d0 pre).length = 32 ∧ isB (accR qs m d0 pre)
  | [], d0, h1, h2 => ⟨h1, h2⟩
  | j :: pre, d0, _, _ => accR_good qs m pre _ (nd_length _ _) (nd_isB _ _)
theorem accR_snoc (qs : List Pt) (m : Nat) (d0 : List Int) (pre : List Nat) (j : Nat) : accR qs m d0 (pre ++ [j]) = nd (pG qs (m - 1 - j)).2 (accR qs m d0 pre) := by simp [accR]
/-- What Root's loop keeps. -/
structure RI (w W : World) (g2 g5 : Nat) (d : List Int) : Prop where
  c2 : Blk W g2 34 (u8s (zer 32))
  c5 : Blk W g5 34 (u8s d)
  bel : Below w.heap.size w W
theorem RI.below {w W W' : World} {g2 g5 : Nat} {d : List Int} (h : RI w W g2 g5 d) (hb : Below W.heap.size W W') : RI w W' g2 g5 d := ⟨h.c2.below hb h.c2.lt, h.c5.below hb h.c5.lt, h.bel.trans (hb.mono h.bel.size)⟩
theorem RI.kept {w A B : World} {g2 g5 : Nat} {d : List Int} {row : Option Nat} (h : RI w A g2 g5 d) (hg : A.grownBy B row) (hr : ∀ r, row = some r → w.heap.size ≤ r ∧ ∃ o : Obj, A.heap[r]? = some o ∧ o.isCells = false) : RI w B g2 g5 d :=
  ⟨h.c2.kept hg (fun r e => (hr r e).2), h.c5.kept hg (fun r e => (hr r e).2), h.bel.grown hg h.bel.size (fun r e => (hr r e).1)⟩

set_option maxRecDepth 100000 in
set_option maxHeartbeats 1000000 in
theorem rroot_some (B g e n : Nat) (v : Value) (ps : List Pt) (w : World) (hr : Rg w B g 0 e v ps) (hn : ps.length = n + 1) (hk : KT w) :
    Calls Tryd.prog 22 #[.pointer (some ⟨g, 0, none⟩)] w fun r w' => r = .returned (.tuple #[.agg (u8s (accR (ps.take n) n (pAt ps n).2 (List.range n))).toArray, .int .i64 0]) ∧ Below w.heap.size w w' := by
  obtain ⟨h, cap, cs, rfl, hbl, hcap, hct⟩ : ∃ h cap cs, v = .slice (some ⟨h, 0, none⟩) (n + 1) cap ∧ Blk w h 75 cs ∧ n + 1 ≤ cap ∧ cs.take ((n + 1) * 34) = pcs ps := by
    rcases hr.own.lies with ⟨_, e2⟩ | ⟨h, cap, cs, e1, _, hb, hc, _, _, ht⟩
    · rw [e2] at hn; cases hn
    · rw [hn] at e1 hc ht
      exact ⟨h, cap, cs, e1, hb, hc, ht⟩
  have HR := hide hr
  have HK := hide hk
  have HBL := hide hbl
  have HPG := hide (pAt_good hr.good (show n < ps.length by omega))
  have hcnt := hr.count
  have HRA : Hid (∀ W : World, Below w.heap.size w W → W.rangeAt h (n * 34 + 2) (u8s (pAt ps n).2)) := hide (fun W hb => by
    have h1 : W.rangeAt h (n * 34) (pc (pAt ps n)) := (hbl.below hb hbl.lt).range _ _ (by
      have hpa := pcs_at hr.good (show n < ps.length by omega)
      rw [← hct, List.drop_take, List.take_take] at hpa
      rw [pc_length (pAt_good hr.good (show n < ps.length by omega)), ← hpa]
      congr 1
      omega)
    exact range_r h1)
  have HCT : Hid (cs.take (n * 34) = pcs (ps.take n)) := hide (by
    rw [← pcs_take hr.good n (by omega), ← hct, List.take_take]
    congr 1
    omega)
  have hix := p_at h (n + 1) cap n (n : Int) rfl (by omega)
  have hto := p_to h (n + 1) cap n (n : Int) rfl (by omega)
  have HUL := hide (show (u8s (pAt ps n).2).length = 32 by rw [u8s_length, HPG.out.len])
  have hwn : wrap64 ((n : Int) + 1 - 1) = (n : Int) := by unfold wrap64; omega
  have hn1 : ¬ ((n : Int) + 1 = 0) := by omega
  clear hr hk hbl hct
  refine (callsIn_wide (n := 3)).1 ?_
  refine callsIn_of_wp_marks Tryd.func22 rfl trivial ?_ rfl
  refine wpIn_wide.2 ?_
  simp only [Tryd.ntmps22, List.size_toArray, List.length_cons, List.length_nil, Nat.reduceAdd, Nat.reduceSub, Array.replicate_succ, Array.replicate_zero, List.push_toArray, List.append_toArray, List.nil_append, List.cons_append]
  go_wp2_with (refine step_alloc zD rfl ?_)
  intro w1 g2 hg2 hle2 hb1
  have G2 := hide hg2
  have R1 := hide (HR.out.below hb1)
  have c0 : w1.cell? ⟨g, 0, none⟩ = some (.bool true) := by rw [R1.out.blk.cell]; rfl
  have c1 : w1.cell? ⟨g, 1, none⟩ = some (.int .i64 0) := by rw [R1.out.blk.cell]; rfl
  have c3 : w1.cell? ⟨g, 3, none⟩ = some (.slice (some ⟨h, 0, none⟩) (n + 1) cap) := by rw [R1.out.blk.cell]; rfl
  have HRB := hide (HRA.out w1 hb1)
  clear hg2
  go_wp2_with (first | (go_at_call 29; refine (made_is _ _ c0).mono ?_; rintro e w' ⟨rfl, rfl⟩) | (refine step_loadR wD rfl rfl _ HRB.out HUL.out ?_) | (refine step_alloc zD rfl ?_))
  intro w2 g5 hg5 hle5 hb2
  go_wp2_with (refine step_storeA wD rfl rfl rfl hg5 HUL.out (One.u8 _) rfl ?_)
  intro w3 hg53 hbut5
  have hb23 : Below w1.heap.size w1 w3 := hb2.trans (hbut5.below hle5)
  have HB3 := hide (hb1.trans (hb23.mono hb1.size))
  have hws5 : w.heap.size ≤ g5 := Nat.le_trans hb1.size hle5
  have hg25 : g2 ≠ g5 := by have := G2.out.lt; omega
  have I3 : Hid (RI w w3 g2 g5 (pAt ps n).2) := hide ⟨G2.out.below hb23 G2.out.lt, hg53, HB3.out⟩
  have d3 : w3.cell? ⟨g, 3, none⟩ = some (.slice (some ⟨h, 0, none⟩) (n + 1) cap) := cell_below c3 hb23
  clear hg5 hg53 hb2 hbut5 hb23 c0 c1 c3 HRB
  go_wp2_with fail
  refine (back_any _ _ _ _).mono ?_
  rintro r W5 ⟨rfl, rfl⟩
  have hbA : Below w3.heap.size w3 (w3.alloc (.cells #[.slice (some ⟨h, 0, none⟩) n cap] 52)) := (Below.refl _ _).alloc (Nat.le_refl _) _
  have BX : Blk (w3.alloc (.cells #[.slice (some ⟨h, 0, none⟩) n cap] 52)) w3.heap.size 52 [.slice (some ⟨h, 0, none⟩) n cap] := Blk.made _ _ _
  have I4 := I3.out.below hbA
  have h5x : g5 ≠ w3.heap.size := by have := I3.out.c5.lt; omega
  revert hbA BX I4 h5x
  generalize w3.alloc (.cells #[.slice (some ⟨h, 0, none⟩) n cap] 52) = W4
  generalize w3.heap.size = bx
  intro hbA BX I4 h5x
  have HI4 := hide I4
  have HBH := hide (HBL.out.below I4.bel HBL.out.lt)
  have hgh : h ≠ g5 := HBH.out.apart I4.c5 (by decide)
  have BK0 : Hid (BK (fun A k => k = g5 ∧ k < A.heap.size) bx h cap cs n W4) := hide ⟨BX, HBH.out, fun e => h5x e.1.symm, fun e => hgh e.1⟩
  clear I4 BX d3 I3
  go_wp2_with fail
  refine (wpIn_wide (n := 3)).1 ?_
  refine range1 rfl (by decide) (gf := 60) (lb := #[.pointer (some ⟨bx, 0, none⟩)]) rfl trivial (enters_of Tryd.func60 (by kernel_rfl) rfl)
    (back_stops bx W4.heap.size h cap n cs (ps.take n) W4 (Nat.le_refl _) (HR.out.good.take n) (by rw [List.length_take]; omega) (by omega) HCT.out _ (Mine.one HI4.out.c5.lt) BK0.out) KM.trans (KM.book (Mine.one HI4.out.c5.lt) (Nat.le_refl _)) (fun A B h hb => km_below (Mine.one HI4.out.c5.lt) h hb) (fun _ => rfl)
    (fun pre W => RI w W g2 g5 (accR (ps.take n) n (pAt ps n).2 pre) ∧ W4.heap.size ≤ W.heap.size) (fun _ _ _ => False)
    (fun _ A B row h hg hr => ⟨h.1.kept hg (fun r e => ⟨by have := (hr r e).1; have := HI4.out.bel.size; omega, (hr r e).2⟩), Nat.le_trans h.2 hg.size⟩)
    (fun _ _ h => h.2) (fun c _ A B row h hg hr => h)
    ⟨HI4.out, Nat.le_refl _⟩ 75 (fun x => pc (pG (ps.take n) (n - 1 - x))) ?act ?assign ?body ?done ?stop
  case assign =>
    rintro l x W K hK
    have hsem := Oper.semAt_some
    have HPLx := hide (pc_length (pG_good (HR.out.good.take n) (n - 1 - x)))
    gi_wp2_with (refine istep_alloc (.round l) zP rfl ?_)
    intro W1 g6 hg6 hle6 hb6
    gi_wp2_with (refine istep_storeA (.round l) wP rfl rfl rfl hg6 HPLx.out (One.pc _) rfl ?_)
    intro W2 hg62 hbut6
    have hK2 := hK g6 W2 (hb6.trans (hbut6.below hle6)) hg62
    clear hK
    gi_wp2
    exact hK2
  case stop =>
    rintro D c pre W hD hSp h hK
    exact h.elim
  case body =>
    rintro l pre x g6 W ⟨hI, hsz⟩ hg6 hlt
    have hsem := Oper.semAt_some
    have HG6 := hide hg6
    have HI := hide hI
    have HPx := hide (pG_good (HR.out.good.take n) (n - 1 - x))
    have HAx := hide (accR_good (ps.take n) n pre (pAt ps n).2 HPG.out.len HPG.out.byte)
    have HLx := hide (show (u8s (pG (ps.take n) (n - 1 - x)).2).length = 32 by rw [u8s_length, HPx.out.len])
    have HLa := hide (show (u8s (accR (ps.take n) n (pAt ps n).2 pre)).length = 32 by rw [u8s_length, HAx.out.1])
    clear hg6 hI
    gi_wp2_with (first | (refine istep_load (.round l) wD rfl rfl HG6.out (u8s (pG (ps.take n) (n - 1 - x)).2) HLx.out (by exact List.take_of_length_le (by rw [show (pc (pG (ps.take n) (n - 1 - x))).drop 2 = u8s (pG (ps.take n) (n - 1 - x)).2 from rfl, HLx.out]; omega)) ?_) | (refine istep_loadA (.round l) wD rfl rfl HI.out.c5 HLa.out ?_))
    refine ⟨trivial, (calls_round (.round l) (node_any _ _ _ HPx.out.len HPx.out.byte HAx.out.1 HAx.out.2 (HK.out.below HI.out.bel HK.out.lt))).mono ?_⟩
    rintro r W1 ⟨rfl, hb1'⟩
    have HI1 := hide (HI.out.below hb1')
    have HNL := hide (show (u8s (nd (pG (ps.take n) (n - 1 - x)).2 (accR (ps.take n) n (pAt ps n).2 pre))).length = 32 by rw [u8s_length, nd_length])
    gi_wp2_with (refine istep_storeA (.round l) wD rfl rfl rfl HI1.out.c5 HNL.out (One.u8 _) HLa.out ?_)
    intro W2 hg52 hbut2
    gi_wp2
    have hbut3 : KeepsOthers W1 W2 := keepsO_but hbut2 HI1.out.c5
    refine ⟨((keepsO_below hb1').trans hbut3).from _, KM.trans (km_below (Mine.one HI4.out.c5.lt) hsz hb1') (km_one hbut2 HI1.out.c5.lt), ⟨HI1.out.c2.but hbut2 ?_, ?_, HI1.out.bel.trans (hbut2.below hws5)⟩, ?_⟩
    · exact hg25
    · rw [accR_snoc]; exact hg52
    · rw [hbut2.size]; exact Nat.le_trans hsz hb1'.size
  case done =>
    rintro D ys W hD rfl ⟨hI, hsz⟩ hKd
    have HI := hide hI
    have HKd := hide hKd
    have HAx := hide (accR_good (ps.take n) n (List.range n) (pAt ps n).2 HPG.out.len HPG.out.byte)
    have HLa := hide (show (u8s (accR (ps.take n) n (pAt ps n).2 (List.range n))).length = 32 by rw [u8s_length, HAx.out.1])
    clear hI hKd
    go_wp2_with (first | (refine step_loadA wD rfl rfl HI.out.c5 HLa.out ?_) | (refine step_storeA wD rfl rfl rfl HI.out.c2 HLa.out (One.u8 _) rfl ?_))
    intro W5 hg2' hbut'
    go_wp2
    have hDg : D ≠ g2 := by have := HI4.out.c2.lt; omega
    have k1 : W5.heap[D]? = some (.deferred (some [])) := by rw [hbut'.block D hDg]; exact HKd.out
    have BA := (HI.out.bel.trans (hbut'.below hle2)).trans (belowK_b (w := w) (Nat.le_refl _) _ D _ (.deferred none) (by have := HI4.out.bel.size; omega) k1 rfl rfl)
    have hgF : Blk (W5.putObj D (.deferred none)) g2 34 (u8s (accR (ps.take n) n (pAt ps n).2 (List.range n))) := hg2'.kept (grownBy_putObj' _ D (.deferred none)) (fun r e => by cases e; exact ⟨_, k1, rfl⟩)
    refine ⟨by simp, .inl ⟨_, _, rfl, run_takeDeferred k1, ?_⟩⟩
    exact ⟨_, results_wide2 rfl wD _ _ rfl hgF HLa.out, rfl, BA⟩

end Go.Proofs.YthgfbcndoedacaaDoor

/-
  The root out of a range's parts is the tree's; Root of a range, whatever its parts.
-/
namespace Go.Proofs.YthgfbcndoedacaaDoor
open Go.RowKit Go.Shelf
set_option linter.unusedVariables false

theorem rf_cons (p : Pt) (ps : List Pt) (h : ps ≠ []) : rf (p :: ps) = nd p.2 (rf ps) := by
  cases ps with
  | nil => exact absurd rfl h
  | cons q ps => rfl
theorem accR_rf (ps : List Pt) (n : Nat) (hn : ps.length = n + 1) : ∀ k, k ≤ n → accR (ps.take n) n (pAt ps n).2 (List.range k) = rf (ps.drop (n - k))
  | 0, _ => by
    have e : ps.drop n = [pAt ps n] := by
      rw [List.drop_eq_getElem_cons (by omega), List.drop_of_length_le (by omega)]
      simp [pAt, List.getD, hn]
    rw [Nat.sub_zero, e]
    rfl
  | k + 1, hk => by
    rw [List.range_succ, accR_snoc, accR_rf ps n hn k (by omega)]
    have e1 : pG (ps.take n) (n - 1 - k) = pAt ps (n - 1 - k) := by
      unfold pG
      rw [if_pos (by rw [List.length_take]; omega)]
      simp only [pAt, List.getD, List.getElem?_take]
      rw [if_pos (by omega)]
    have e2 : n - (k + 1) = n - 1 - k := by omega
    have e3 : ps.drop (n - (k + 1)) = pAt ps (n - 1 - k) :: ps.drop (n - k) := by
      rw [e2, List.drop_eq_getElem_cons (by omega)]
      have e4 : n - 1 - k + 1 = n - k := by omega
      rw [e4]
      congr 1
      simp only [pAt, List.getD]
      rw [List.getElem?_eq_getElem (by omega)]
      rfl
    have hne : ps.drop (n - k) ≠ [] := by
      intro e
      have := congrArg List.length e
      simp at this
      omega
    rw [e3, rf_cons _ _ hne, e1]
theorem accR_all (ps : List Pt) (n : Nat) (hn : ps.length = n + 1) : accR (ps.take n) n (pAt ps n).2 (List.range n) = rf ps := by
  rw [accR_rf ps n hn n (Nat.le_refl _), Nat.sub_self, List.drop_zero]

theorem rps_step0 {xs : List Int} {b e k : Nat} (h : IsLev b (e - b) k) (he : e ≤ 2 ^ 48) : rps xs b e = ((k, b / 2 ^ k), rd xs (k, b / 2 ^ k)) :: rps xs (b + 2 ^ k) e := by
  unfold rps
  rw [parts_step h he]
  rfl
theorem rd_at {xs : List Int} {b k : Nat} (h : 2 ^ k ∣ b) : rd xs (k, b / 2 ^ k) = root (sub xs b (b + 2 ^ k)) := by
  unfold rd
  simp only
  rw [Nat.add_mul, Nat.div_mul_cancel h, Nat.one_mul]
theorem rps_root {xs : List Int} {n : Nat} (h : xs.length = 32 * n) (hn : n ≤ 2 ^ 47) (m : Nat) : ∀ b e : Nat, 2 ^ m ∣ b → b < e → e ≤ b + 2 ^ m → e ≤ n → rf (rps xs b e) = root (sub xs b e) := by
  induction m using Nat.strongRecOn with
  | ind m ih =>
    intro b e hd hlt hle hen
    have h48 : e ≤ 2 ^ 48 := by
      have : (2 : Nat) ^ 47 ≤ 2 ^ 48 := by decide
      omega
    have hk := lv_isLev (b := b) (n := e - b) (by omega) (by omega)
    rw [rps_step0 hk h48]
    generalize lv b (e - b) = k at *
    have hkl := hk.le
    have hp := Nat.two_pow_pos k
    rw [rd_at hk.dvd]
    by_cases heq : e = b + 2 ^ k
    · subst heq
      have e0 : rps xs (b + 2 ^ k) (b + 2 ^ k) = [] := by unfold rps; rw [parts_nil (Nat.le_refl _)]; rfl
      rw [e0]
      rfl
    · have hkm : k < m := by
        apply Nat.lt_of_not_le
        intro hl
        have : 2 ^ m ≤ 2 ^ k := Nat.pow_le_pow_right (by omega) hl
        omega
      have ht : e < b + 2 ^ (k + 1) := by
        apply Nat.lt_of_not_le
        intro hc
        exact hk.top ⟨pow_dvd_le hd hkm, by omega⟩
      have e2 : 2 ^ (k + 1) = 2 ^ k + 2 ^ k := by rw [Nat.pow_succ]; omega
      have hne : rps xs (b + 2 ^ k) e ≠ [] := by
        unfold rps
        rw [parts_cons (by omega)]
        simp
      rw [rf_cons _ _ hne, ih k hkm (b + 2 ^ k) e (Nat.dvd_add hk.dvd (Nat.dvd_refl _)) (by omega) (by omega) hen]
      have hl := sub_length h (show b ≤ e by omega) hen
      have hn62 : n < 2 ^ 62 := by
        have : (2 : Nat) ^ 47 < 2 ^ 62 := by decide
        omega
      have hh : hf (e - b) = 2 ^ k := (hf_uniq (e - b) k (by omega) (by omega) (by omega) (by omega))
      rw [root_node hl (by omega) (by omega), lo_eq hl, hi_eq hl, hh]
      congr 2
      · unfold sub
        rw [List.take_take, show b + 2 ^ k - b = 2 ^ k by omega, Nat.min_eq_left (by omega)]
      · unfold sub
        rw [List.drop_take, List.drop_drop]
        congr 1
        · omega
        · congr 1
          omega
/-- THE RANGE's ROOT IS THE TREE's. -/
theorem rf_root {xs : List Int} {n : Nat} (h : xs.length = 32 * n) (hn : n ≤ 2 ^ 47) : rf (rps xs 0 n) = root xs := by
  by_cases h0 : 0 < n
  · have := rps_root h hn 47 0 n (Nat.dvd_zero _) h0 (by omega) (Nat.le_refl _)
    rw [this]
    congr 1
    unfold sub
    rw [Nat.mul_zero, List.drop_zero, List.take_of_length_le (by omega)]
  · obtain rfl : n = 0 := by omega
    have e0 : rps xs 0 0 = [] := by unfold rps; rw [parts_nil (Nat.le_refl _)]; rfl
    rw [e0, root_zero (by omega)]
    rfl
theorem rf_good : ∀ {ps : List Pt}, GoodL ps → (rf ps).length = 32 ∧ isB (rf ps)
  | [], _ => ⟨emp_length, emp_isB⟩
  | [p], h => ⟨(h p (List.mem_cons_self ..)).len, (h p (List.mem_cons_self ..)).byte⟩
  | p :: q :: ps, h => ⟨nd_length _ _, nd_isB _ _⟩

set_option maxRecDepth 100000 in
set_option maxHeartbeats 1000000 in
theorem rroot_none (B g e : Nat) (v : Value) (w : World) (hr : Rg w B g 0 e v []) (hk : KT w) :
    Calls Tryd.prog 22 #[.pointer (some ⟨g, 0, none⟩)] w fun r w' => r = .returned (.tuple #[.agg (u8s emp).toArray, .int .i64 0]) ∧ Below w.heap.size w w' := by
  have HR := hide hr
  have HK := hide hk
  have HML := hide (show (u8s emp).length = 32 by rw [u8s_length, emp_length])
  obtain ⟨a0, q0, rfl⟩ : ∃ a c, v = Value.slice a 0 c := by rcases hr.own.lies with ⟨rfl, _⟩ | ⟨_, _, _, rfl, _⟩ <;> exact ⟨_, _, rfl⟩
  clear hr hk
  go_enter Tryd.func22, Tryd.ntmps22
  go_wp2_with (refine step_alloc zD rfl ?_)
  intro w1 g2 hg2 hle2 hb1
  have G2 := hide hg2
  have R1 := hide (HR.out.below hb1)
  have c0 : w1.cell? ⟨g, 0, none⟩ = some (.bool true) := by rw [R1.out.blk.cell]; rfl
  have c1 : w1.cell? ⟨g, 1, none⟩ = some (.int .i64 0) := by rw [R1.out.blk.cell]; rfl
  have c3 : w1.cell? ⟨g, 3, none⟩ = some (.slice a0 0 q0) := by rw [R1.out.blk.cell]; rfl
  clear hg2
  go_wp2_with (go_at_call 29; refine (made_is _ _ c0).mono ?_; rintro e w' ⟨rfl, rfl⟩)
  refine (empty_any _ (HK.out.below hb1 HK.out.lt)).mono ?_
  rintro r w3 ⟨rfl, hb3⟩
  have G3 := hide (G2.out.below hb3 G2.out.lt)
  go_wp2_with (refine step_storeA wD rfl rfl rfl G3.out HML.out (One.u8 _) rfl ?_; intro w4 hg4 hbut4)
  refine bodyPost_ret (results_wide2 rfl wD _ _ rfl hg4 HML.out) rfl ⟨rfl, ?_⟩
  exact (hb1.trans (hb3.mono hb1.size)).trans (hbut4.below hle2)
theorem rroot_off (B g b e : Nat) (v : Value) (ps : List Pt) (w : World) (hr : Rg w B g b e v ps) (hb : b ≠ 0) :
    Calls Tryd.prog 22 #[.pointer (some ⟨g, 0, none⟩)] w fun r w' => r = .returned (.tuple #[.agg (u8s (zer 32)).toArray, .int .i64 40]) ∧ Below w.heap.size w w' := by
  have HR := hide hr
  have hb0 : ¬ ((b : Int) = 0) := by omega
  clear hr
  go_enter Tryd.func22, Tryd.ntmps22
  go_wp2_with (refine step_alloc zD rfl ?_)
  intro w1 g2 hg2 hle2 hb1
  have G2 := hide hg2
  have R1 := hide (HR.out.below hb1)
  have c0 : w1.cell? ⟨g, 0, none⟩ = some (.bool true) := by rw [R1.out.blk.cell]; rfl
  have c1 : w1.cell? ⟨g, 1, none⟩ = some (.int .i64 (b : Int)) := by rw [R1.out.blk.cell]; rfl
  clear hg2
  go_wp2_with (first | (go_at_call 29; refine (made_is _ _ c0).mono ?_; rintro e w' ⟨rfl, rfl⟩) | (refine step_buildD rfl ?_) | (refine step_storeA wD rfl rfl rfl G2.out rfl (One.u8 _) rfl ?_; intro w2 hg2 hbut))
  refine bodyPost_ret (results_wide2 rfl wD _ _ rfl hg2 rfl) rfl ⟨rfl, ?_⟩
  exact hb1.trans (hbut.below hle2)
/-- Root of a range from 0 on. -/
theorem rroot_any (B g e : Nat) (v : Value) (ps : List Pt) (w : World) (hr : Rg w B g 0 e v ps) (hk : KT w) :
    Calls Tryd.prog 22 #[.pointer (some ⟨g, 0, none⟩)] w fun r w' => r = .returned (.tuple #[.agg (u8s (rf ps)).toArray, .int .i64 0]) ∧ Below w.heap.size w w' := by
  cases hps : ps with
  | nil => subst hps; exact rroot_none B g e v w hr hk
  | cons p qs =>
    have hn : ps.length = qs.length + 1 := by rw [hps]; rfl
    have := rroot_some B g e qs.length v ps w hr hn hk
    rw [accR_all ps _ hn] at this
    rw [← hps]
    exact this

end Go.Proofs.YthgfbcndoedacaaDoor

/-
  Where a span's parts begin, without a program.
-/
namespace Go.Proofs.YthgfbcndoedacaaDoor
open Go.RowKit Go.Shelf
set_option linter.unusedVariables false

/-- How many leaves some nodes have. -/
def psum : List (Nat × Nat) → Nat
  | [] => 0
  | n :: L => 2 ^ n.1 + psum L
theorem psum_lt : ∀ (L : List (Nat × Nat)) (i j : Nat), i < j → j ≤ L.length → psum (L.take i) < psum (L.take j)
  | [], i, j, h, h2 => by simp at h2; omega
  | n :: L, i, 0, h, _ => by omega
  | n :: L, 0, j + 1, _, _ => by
    have := Nat.two_pow_pos n.1
    simp only [List.take_zero, List.take_succ_cons, psum]
    omega
  | n :: L, i + 1, j + 1, h, h2 => by
    simp only [List.take_succ_cons, psum]
    have := psum_lt L i j (by omega) (by simpa using h2)
    omega
theorem psum_succ : ∀ (L : List (Nat × Nat)) (i : Nat) (q : Nat × Nat), L[i]? = some q → psum (L.take (i + 1)) = psum (L.take i) + 2 ^ q.1
  | [], i, q, h => by simp at h
  | n :: L, 0, q, h => by
    simp at h
    subst h
    simp [psum]
  | n :: L, i + 1, q, h => by
    have := psum_succ L i q (by simpa using h)
    simp only [List.take_succ_cons, psum] at this ⊢
    omega
theorem parts_begin (n : Nat) : ∀ (b e : Nat), e - b ≤ n → b ≤ e → e ≤ 2 ^ 48 → (∀ i q, (parts b e)[i]? = some q → q.2 * 2 ^ q.1 = b + psum ((parts b e).take i) ∧ (q.2 + 1) * 2 ^ q.1 ≤ e) ∧ b + psum (parts b e) = e := by
  induction n with
  | zero =>
    intro b e hn hbe hm
    obtain rfl : b = e := by omega
    rw [parts_nil (Nat.le_refl _)]
    exact ⟨fun i q h => by simp at h, rfl⟩
  | succ n ih =>
    intro b e hn hbe hm
    by_cases hlt : b < e
    · have hk := lv_isLev (b := b) (n := e - b) (by omega) (by omega)
      rw [parts_step hk hm]
      generalize lv b (e - b) = k at *
      have hp := Nat.two_pow_pos k
      have hkl := hk.le
      obtain ⟨h1, h2⟩ := ih (b + 2 ^ k) e (by omega) (by omega) hm
      have e1 := mul_div_pow hk.dvd
      refine ⟨?_, by simp only [psum]; omega⟩
      intro i q hq
      cases i with
      | zero =>
        simp at hq
        subst hq
        simp only [List.take_zero, psum]
        refine ⟨by rw [e1, Nat.add_zero], ?_⟩
        rw [Nat.add_mul, e1]
        omega
      | succ i =>
        have := h1 i q (by simpa using hq)
        simp only [List.take_succ_cons, psum]
        omega
    · obtain rfl : b = e := by omega
      rw [parts_nil (Nat.le_refl _)]
      exact ⟨fun i q h => by simp at h, rfl⟩
/-- Where the i-th part begins. -/
def pbeg (b e i : Nat) : Nat := b + psum ((parts b e).take i)
theorem pbeg_zero (b e : Nat) : pbeg b e 0 = b := by simp [pbeg, psum]
theorem pbeg_end {b e : Nat} (hbe : b ≤ e) (hm : e ≤ 2 ^ 48) : pbeg b e (parts b e).length = e := by
  unfold pbeg
  rw [List.take_length]
  exact (parts_begin (e - b) b e (Nat.le_refl _) hbe hm).2
theorem pbeg_at {b e i : Nat} {q : Nat × Nat} (hbe : b ≤ e) (hm : e ≤ 2 ^ 48) (h : (parts b e)[i]? = some q) : q.2 * 2 ^ q.1 = pbeg b e i ∧ pbeg b e (i + 1) = pbeg b e i + 2 ^ q.1 ∧ pbeg b e (i + 1) ≤ e := by
  obtain ⟨h1, h2⟩ := (parts_begin (e - b) b e (Nat.le_refl _) hbe hm).1 i q h
  unfold pbeg at *
  rw [psum_succ _ _ _ h]
  rw [Nat.add_mul] at h2
  omega
theorem pbeg_ne {b e i j : Nat} (h : i ≠ j) (hi : i ≤ (parts b e).length) (hj : j ≤ (parts b e).length) : pbeg b e i ≠ pbeg b e j := by
  unfold pbeg
  rcases Nat.lt_or_gt_of_ne h with h | h
  · have := psum_lt _ _ _ h hj; omega
  · have := psum_lt _ _ _ h hi; omega

end Go.Proofs.YthgfbcndoedacaaDoor

/-
  The walk of CompactTree.
-/
namespace Go.Proofs.YthgfbcndoedacaaDoor
open Go.RowKit Go.Shelf
set_option linter.unusedVariables false

/-- A number brought among 0 .. n - 1. -/
theorem aux_mod (x : Int) (n : Nat) (h0 : 0 < n) (hn : n ≤ 281474976710656) : ∃ (r : Int) (b : Nat), x.tmod (n : Int) = r ∧ wrap64 (r + (n : Int)) = r + (n : Int) ∧ (r + (n : Int)).tmod (n : Int) = (b : Int) ∧ b < n ∧ wrap64 r = r := by
  refine ⟨x.tmod n, ((x.tmod n + n).tmod n).toNat, rfl, ?_, ?_, ?_, ?_⟩
  all_goals
    have h1 := Int.tmod_lt_of_pos x (show (0 : Int) < (n : Int) by omega)
    have h2 : -(n : Int) < x.tmod n := by
      have := Int.lt_tmod_of_pos x (show (0 : Int) < (n : Int) by omega)
      omega
    generalize x.tmod n = r at *
  · unfold wrap64; omega
  · have h3 := Int.tmod_nonneg (n : Int) (show 0 ≤ r + n by omega)
    omega
  · have h3 := Int.tmod_lt_of_pos (r + n) (show (0 : Int) < (n : Int) by omega)
    have h4 := Int.tmod_nonneg (n : Int) (show 0 ≤ r + n by omega)
    omega
  · unfold wrap64; omega

theorem aux_shl (i L s : Nat) (h : i * 2 ^ L = s) (hs : s ≤ 1048576) : wrap64 ((i : Int) * 2 ^ L) = (s : Int) := by
  have e1 : ((i : Int) * 2 ^ L) = (s : Int) := by rw [← h]; simp [Int.natCast_mul, Int.natCast_pow]
  rw [e1]
  unfold wrap64
  omega
theorem aux_add64 (s P u : Nat) (h : u = s + P) (hu : u ≤ 1048576) : wrap64 ((s : Int) + (P : Int)) = (u : Int) := by
  unfold wrap64
  omega
/-- A part's numbers. -/
theorem part_facts (b n k L i : Nat) (hbn : b ≤ n) (hn : n ≤ 1048576) (hq : (parts b n)[k]? = some (L, i)) :
    ∃ s P u, Hid (pbeg b n k = s) ∧ Hid (2 ^ L = P) ∧ Hid (pbeg b n (k + 1) = u) ∧ Hid (i * 2 ^ L = s) ∧ Hid (u = s + P) ∧ u ≤ n ∧ s < u ∧ (¬ (L : Int) < 0 ∧ ¬ (40 : Int) < (L : Int)) ∧ wrap64 ((i : Int) * 2 ^ L) = (s : Int) ∧ wrap64 (2 ^ L) = (P : Int) ∧ wrap64 ((s : Int) + (P : Int)) = (u : Int) := by
  obtain ⟨q1, q2, q3⟩ := pbeg_at hbn (Nat.le_trans hn (by decide)) hq
  have hP0 := Nat.two_pow_pos L
  have hsu : pbeg b n k < pbeg b n (k + 1) := by rw [q2]; exact Nat.lt_add_of_pos_right hP0
  have hP1 : 2 ^ L ≤ 1048576 := Nat.le_trans (Nat.le_add_left _ _) (Nat.le_trans (Nat.le_of_eq q2.symm) (Nat.le_trans q3 hn))
  have hs1 : pbeg b n k ≤ 1048576 := Nat.le_trans (Nat.le_of_lt hsu) (Nat.le_trans q3 hn)
  have hL : L ≤ 20 := ?_
  refine ⟨_, _, _, hide rfl, hide rfl, hide rfl, hide q1, hide q2, q3, hsu, ⟨by omega, by omega⟩, aux_shl i L _ q1 hs1, aux_pow _ L (hide rfl) (Nat.le_trans hP1 (by decide)), aux_add64 _ _ _ q2 (Nat.le_trans q3 hn)⟩
  clear hsu hs1
  simp only at q2
  apply Nat.le_of_not_lt
  intro hl
  have h1 : 2 ^ 21 ≤ 2 ^ L := Nat.pow_le_pow_right (by decide) hl
  have h2 : (2 : Nat) ^ 21 = 2097152 := by decide
  rw [h2] at h1
  revert q2 q3 h1
  generalize pbeg b n (k + 1) = u
  generalize pbeg b n k = s
  generalize 2 ^ L = P
  intro q2 q3 h1
  omega
theorem sub_told (xs : List Int) (n s u : Nat) (h : s < u) (hu : u ≤ n) : sbD xs n (s : Int) (u : Int) = root (sub xs s u) ∧ sbE n (s : Int) (u : Int) = 0 := by
  unfold sbD sbE
  rw [if_neg (by omega), if_neg (by omega)]
  exact ⟨rfl, rfl⟩
theorem ne_cast {a b : Nat} (h : a ≠ b) : ¬ ((a : Int) = (b : Int)) := fun e => h (by omega)
theorem not_pre {pre : List Nat} {k x N : Nat} (hk : pre.length = k) (hlt : k < N) (h : x ≠ k) : ¬ (pre ++ [x]) <+: List.range N := by
  rintro ⟨r', hr'⟩
  apply h
  have e1 : (List.range N)[k]? = some x := by
    rw [← hr', List.append_assoc, List.getElem?_append_right (by omega), hk, Nat.sub_self]
    rfl
  rw [List.getElem?_range hlt] at e1
  injection e1 with e1
  exact e1.symm
theorem range_snoc {pre : List Nat} {k : Nat} (hp : pre = List.range pre.length) (hk : pre.length = k) : pre ++ [k] = List.range (k + 1) := by
  rw [List.range_succ]
  congr 1
  rw [← hk]
  exact hp

theorem POwn.kept {A B : World} {B0 : Nat} {v : Value} {ps : List Pt} {row : Option Nat} (h : POwn A B0 v ps) (hg : A.grownBy B row) (hr : ∀ r, row = some r → ∃ o : Obj, A.heap[r]? = some o ∧ o.isCells = false) : POwn B B0 v ps := by
  obtain ⟨h1, h2⟩ := h
  refine ⟨h1, ?_⟩
  rcases h2 with h2 | ⟨k, cap, cur, rfl, hk, hh, r⟩
  · exact .inl h2
  · refine .inr ⟨k, cap, cur, rfl, hk, ?_, r⟩
    rw [hg.block k (Array.getElem?_eq_some_iff.1 hh).1 (fun e => by
      obtain ⟨o, ho, hc⟩ := hr k e.symm
      rw [hh] at ho
      injection ho with ho
      subst ho
      cases hc)]
    exact hh
theorem Rg.kept {A B : World} {B0 g b e : Nat} {v : Value} {ps : List Pt} {row : Option Nat} (h : Rg A B0 g b e v ps) (hg : A.grownBy B row) (hr : ∀ r, row = some r → ∃ o : Obj, A.heap[r]? = some o ∧ o.isCells = false) : Rg B B0 g b e v ps := ⟨h.blk.kept hg hr, h.own.kept hg hr, h.good, h.nodes, h.le, h.max⟩

/-- What the law's loop keeps. -/
structure TS (w W : World) (gl gb ga : Nat) (a : Option Addr) (n cap at' B2 g2 : Nat) (v2 : Value) (xs : List Int) : Prop where
  cl : Blk W gl 27 [.slice a n cap]
  cb : Blk W gb 4 [.bool false]
  ca : Blk W ga 3 [.int .i64 (at' : Int)]
  bel : Below w.heap.size w W
  rg : Rg W B2 g2 0 n v2 (rps xs 0 n)
section
variable {w W W' : World} {gl gb ga : Nat} {a : Option Addr} {n cap at' B2 g2 : Nat} {v2 : Value} {xs : List Int}
theorem TS.below (h : TS w W gl gb ga a n cap at' B2 g2 v2 xs) (hb : Below W.heap.size W W') : TS w W' gl gb ga a n cap at' B2 g2 v2 xs :=
  ⟨h.cl.below hb h.cl.lt, h.cb.below hb h.cb.lt, h.ca.below hb h.ca.lt, h.bel.trans (hb.mono h.bel.size), h.rg.below hb⟩
theorem TS.kept {row : Option Nat} (h : TS w W gl gb ga a n cap at' B2 g2 v2 xs) (hg : W.grownBy W' row) (hr : ∀ r, row = some r → w.heap.size ≤ r ∧ ∃ o : Obj, W.heap[r]? = some o ∧ o.isCells = false) : TS w W' gl gb ga a n cap at' B2 g2 v2 xs :=
  have hr2 : ∀ r, row = some r → ∃ o : Obj, W.heap[r]? = some o ∧ o.isCells = false := fun r e => (hr r e).2
  ⟨h.cl.kept hg hr2, h.cb.kept hg hr2, h.ca.kept hg hr2, h.bel.grown hg h.bel.size (fun r e => (hr r e).1), h.rg.kept hg hr2⟩
theorem TS.set (h : TS w W gl gb ga a n cap at' B2 g2 v2 xs) (at2 : Nat) (hga : w.heap.size ≤ ga) : TS w (W.setCell ⟨ga, 0, none⟩ (.int .i64 (at2 : Int))) gl gb ga a n cap at2 B2 g2 v2 xs := by
  have hb := But.setCell W ga 0 (.int .i64 (at2 : Int))
  have hS : ∀ k, Foot g2 v2 k → ¬ k = ga := by
    rintro k (rfl | e) rfl
    · exact (h.rg.blk.apart h.ca (by decide)) rfl
    · exact (h.rg.own.apart h.ca (by decide)) e
  exact ⟨h.cl.but hb (h.cl.apart h.ca (by decide)), h.cb.but hb (h.cb.apart h.ca (by decide)), h.ca.set 0 _, h.bel.trans (hb.below hga), h.rg.chs ((Chs.refl (fun k => k = ga) W).thenBut hb (.inl rfl)) hS⟩
end


end Go.Proofs.YthgfbcndoedacaaDoor

/-
  The walk of CompactTree.
-/
namespace Go.Proofs.YthgfbcndoedacaaDoor
open Go.RowKit Go.Shelf
set_option linter.unusedVariables false

set_option maxRecDepth 100000 in
set_option maxHeartbeats 1000000 in
theorem ctree_walk (a : Option Addr) (n cap : Nat) (xs : List Int) (x : Int) (w : World) (hs : Ds w a n cap xs) (hc : cap ≤ 1048576) (hw : (Lit.int .i64 x).wf = true) (hk : KT w) :
    Calls Tryd.prog 6 #[.slice a n cap, .int .i64 x] w fun e w' => e = .returned (.bool true) ∧ Below w.heap.size w w' := by
  have HS := hide hs
  have HK := hide hk
  have hcap := hs.hcap
  obtain ⟨r0, b, e1, e2, e3, hb, e4⟩ := aux_mod x (n + 1) (by omega) (by omega)
  have hn1 : ¬ ((n : Int) + 1 = 0) := by omega
  have hwn : wrap64 ((n : Int) + 1) = (n : Int) + 1 := by unfold wrap64; omega
  rw [show ((n + 1 : Nat) : Int) = (n : Int) + 1 by omega] at e1 e2 e3
  clear hs hk
  refine (callsIn_wide (n := 3)).1 ?_
  refine callsIn_of_wp_marks Tryd.func6 rfl trivial ?_ rfl
  refine wpIn_wide.2 ?_
  simp only [Tryd.ntmps6, List.size_toArray, List.length_cons, List.length_nil, Nat.reduceAdd, Nat.reduceSub, Array.replicate_succ, Array.replicate_zero, List.push_toArray, List.append_toArray, List.nil_append, List.cons_append]
  go_wp2_with fail
  have cl0 := (Blk.made w 27 [.slice a n cap])
  have cb0 := (Blk.made (w.alloc (.cells #[.slice a n cap] 27)) 4 [.bool false])
  have cl1 : Blk ((w.alloc (.cells #[.slice a n cap] 27)).alloc (.cells #[.bool false] 4)) w.heap.size 27 [.slice a n cap] := cl0.below ((Below.refl _ _).alloc (Nat.le_refl _) _) cl0.lt
  have B0 : Below w.heap.size w ((w.alloc (.cells #[.slice a n cap] 27)).alloc (.cells #[.bool false] 4)) := ((Below.refl _ w).alloc (Nat.le_refl _) _).alloc (by simp) _
  have cb1 : Blk ((w.alloc (.cells #[.slice a n cap] 27)).alloc (.cells #[.bool false] 4)) (w.heap.size + 1) 4 [.bool false] := by have := cb0; rwa [World.size_alloc] at this
  clear cl0 cb0
  revert cl1 cb1 B0
  generalize (w.alloc (.cells #[.slice a n cap] 27)).alloc (.cells #[.bool false] 4) = W0
  intro cl1 B0 cb1
  have hbn : b ≤ n := by omega
  have hn20 : n ≤ 1048576 := by omega
  refine (ranged_any a n cap b n _ _ xs _ (HS.out.below B0) rfl rfl hbn (Nat.le_refl _) (by omega) (HK.out.below B0 HK.out.lt)).mono ?_
  rintro r W1 ⟨g, v, rfl, hrg, hleg, hb1⟩
  have cl2 := cl1.below hb1 cl1.lt
  have d0 : W1.cell? ⟨w.heap.size, 0, none⟩ = some (.slice a n cap) := by rw [cl2.cell]; rfl
  have B1 := B0.trans (hb1.mono B0.size)
  have HCB := hide (cb1.below hb1 cb1.lt)
  have HCL := hide cl2
  have HRG := hide hrg
  have HB1 := hide B1
  clear cl1 cb1 B0 cl2 hrg B1 e1 e2 e3 e4 hwn hn1 hb1
  go_wp2_with fail
  refine (ranged_any a n cap 0 n _ _ xs _ (HS.out.below HB1.out) rfl rfl (Nat.zero_le _) (Nat.le_refl _) (by omega) (HK.out.below HB1.out HK.out.lt)).mono ?_
  rintro r W2 ⟨g2, v2, rfl, hrg2, hleg2, hb2⟩
  have HCB2 := hide (HCB.out.below hb2 HCB.out.lt)
  have HCL2 := hide (HCL.out.below hb2 HCL.out.lt)
  have HRG2 := hide (HRG.out.below hb2)
  have HRA := hide hrg2
  have HB2 := hide (HB1.out.trans (hb2.mono HB1.out.size))
  have hs1 := hb2.size
  clear hrg2 HCB HCL HRG HB1 hb2 d0
  go_wp2_with fail
  have ca0 : Blk (W2.alloc (.cells #[.int .i64 (b : Int)] 3)) W2.heap.size 3 [.int .i64 (b : Int)] := Blk.made _ _ _
  have hba : Below W2.heap.size W2 (W2.alloc (.cells #[.int .i64 (b : Int)] 3)) := (Below.refl _ _).alloc (Nat.le_refl _) _
  have T0 : TS w (W2.alloc (.cells #[.int .i64 (b : Int)] 3)) w.heap.size (w.heap.size + 1) W2.heap.size a n cap (pbeg b n 0) W1.heap.size g2 v2 xs :=
    ⟨HCL2.out.below hba HCL2.out.lt, HCB2.out.below hba HCB2.out.lt, by rw [pbeg_zero]; exact ca0, HB2.out.trans (hba.mono HB2.out.size), HRA.out.below hba⟩
  have R0 := HRG2.out.below hba
  have hga : w.heap.size ≤ W2.heap.size := HB2.out.size
  clear ca0 HCL2 HCB2 HRA HRG2 hba HB2
  revert T0 R0 hga
  generalize W2.alloc (.cells #[.int .i64 (b : Int)] 3) = W3
  generalize W2.heap.size = ga
  intro T0 R0 hga
  refine (all_any _ _).mono ?_
  rintro r W5 ⟨rfl, rfl⟩
  have hbA : Below W3.heap.size W3 (W3.alloc (.cells #[.pointer (some ⟨g, 0, none⟩)] 23)) := (Below.refl _ _).alloc (Nat.le_refl _) _
  have T1 := T0.below hbA
  have R1 := R0.below hbA
  clear T0 R0
  revert T1 R1 hbA
  generalize W3.alloc (.cells #[.pointer (some ⟨g, 0, none⟩)] 23) = W4
  generalize W3.heap.size = bx0
  intro hbA T1 R1
  have heq : ∀ v : World, (binOp BinOp.eql 57 (.func (.func 41) #[] #[.pointer (some ⟨bx0, 0, none⟩)]) .nilFunc).run Tryd.prog v = .ok (.bool false) v := fun v => by kernel_rfl
  go_wp2_with fail
  refine (all_any _ _).mono ?_
  rintro r W5 ⟨rfl, rfl⟩
  have hbB : Below W4.heap.size W4 (W4.alloc (.cells #[.pointer (some ⟨g, 0, none⟩)] 23)) := (Below.refl _ _).alloc (Nat.le_refl _) _
  have BX : Blk (W4.alloc (.cells #[.pointer (some ⟨g, 0, none⟩)] 23)) W4.heap.size 23 [.pointer (some ⟨g, 0, none⟩)] := Blk.made _ _ _
  have T2 := T1.below hbB
  have R2 := R1.below hbB
  clear T1 R1 hbA heq
  revert T2 R2 hbB BX
  generalize W4.alloc (.cells #[.pointer (some ⟨g, 0, none⟩)] 23) = W5
  generalize W4.heap.size = bx
  intro hbB BX T2 R2
  have HT := hide T2
  have HR := hide R2
  have hws := T2.bel.size
  have HN := hide (show (rps xs b n).length = (parts b n).length by unfold rps; simp)
  have hga5 : ga < W5.heap.size := T2.ca.lt
  clear T2 R2 hbB
  go_wp2_with fail
  refine (wpIn_wide (n := 3)).1 ?_
  refine range2 rfl (by decide) (gf := 41) (lb := #[.pointer (some ⟨bx, 0, none⟩)]) rfl trivial (enters_of Tryd.func41 (by kernel_rfl) rfl)
    (all_stops _ g b n v (rps xs b n) bx W5.heap.size W5 BX.lt (Nat.le_refl _) (by rw [BX.cell]; rfl) HR.out _ (Mine.one hga5)) KM.trans (KM.book (Mine.one hga5) (Nat.le_refl _)) (fun A B h hb => km_below (Mine.one hga5) h hb) (fun _ => rfl)
    (fun pre W => (pre = List.range pre.length ∧ pre.length ≤ (rps xs b n).length) ∧ TS w W w.heap.size (w.heap.size + 1) ga a n cap (pbeg b n pre.length) W1.heap.size g2 v2 xs ∧ W5.heap.size ≤ W.heap.size)
    (fun c pre _ => c = .ret ∧ ¬ pre <+: List.range (rps xs b n).length)
    (fun _ A B row h hg hr => ⟨h.1, h.2.1.kept hg (fun r e => ⟨by have := (hr r e).1; omega, (hr r e).2⟩), Nat.le_trans h.2.2 hg.size⟩)
    (fun _ _ h => h.2.2) (fun c _ A B row h hg hr => h)
    ⟨⟨rfl, Nat.zero_le _⟩, HT.out, Nat.le_refl _⟩ 67 34 (fun x => nC (pG (rps xs b n) x).1) (fun x => u8s (pG (rps xs b n) x).2) ?act ?assign ?body ?done ?stop
  case assign =>
    rintro l x W K hK
    have hsem := Oper.semAt_some
    have HLx := hide (show (u8s (pG (rps xs b n) x).2).length = 32 by rw [u8s_length, (pG_good HR.out.good x).len])
    gi_wp2_with (refine istep_alloc (.round l) zNd rfl ?_)
    intro V1 g9 hg9 hle9 hb9
    gi_wp2_with (refine istep_storeA (.round l) wNd rfl rfl rfl hg9 rfl (One.nC _) rfl ?_)
    intro V2 hg92 hbut9
    gi_wp2_with (refine istep_alloc (.round l) zD rfl ?_)
    intro V3 g10 hg10 hle10 hb10
    gi_wp2_with (refine istep_storeA (.round l) wD rfl rfl rfl hg10 HLx.out (One.u8 _) rfl ?_)
    intro V4 hg104 hbut10
    have hb92 : Below W.heap.size W V2 := hb9.trans (hbut9.below hle9)
    have hb104 : Below V2.heap.size V2 V4 := hb10.trans (hbut10.below hle10)
    have hK2 := hK g9 g10 V4 (hb92.trans (hb104.mono hb92.size)) (hg92.below hb104 hg92.lt) hg104
    clear hK
    gi_wp2
    exact hK2
  case stop =>
    rintro D c pre W hD hSp ⟨rfl, hn⟩ hK
    exact absurd hSp hn
  case body =>
    rintro l pre x g9 g10 W ⟨⟨hp, hpl⟩, hT, hsz⟩ hg9 hg10 hlt
    have hsem := Oper.semAt_some
    have HP := hide hp
    obtain ⟨k, HPL⟩ : ∃ k, Hid (pre.length = k) := ⟨_, hide rfl⟩
    rw [HPL.out] at hT hlt hpl
    have HT1 := hide hT
    have HG9 := hide hg9
    have HG10 := hide hg10
    have ca : W.cell? ⟨ga, 0, none⟩ = some (.int .i64 (pbeg b n k : Int)) := by rw [hT.ca.cell]; rfl
    have fa : W.frozen? ⟨ga, 0, none⟩ = false := hT.ca.free 0
    have fb : W.frozen? ⟨w.heap.size + 1, 0, none⟩ = false := hT.cb.free 0
    have cb : W.cell? ⟨w.heap.size + 1, 0, none⟩ = some (.bool false) := by rw [hT.cb.cell]; rfl
    have n0 : W.cell? ⟨g9, 0, none⟩ = some (.int .i64 ((pG (rps xs b n) x).1.1 : Int)) := by rw [hg9.cell]; rfl
    have n1 : W.cell? ⟨g9, 1, none⟩ = some (.int .i64 ((pG (rps xs b n) x).1.2 : Int)) := by rw [hg9.cell]; rfl
    clear hp hT hg9 hg10
    by_cases hx : x < (rps xs b n).length
    · obtain ⟨⟨L, i⟩, hq⟩ : ∃ q, (parts b n)[x]? = some q := ⟨_, List.getElem?_eq_getElem (by rw [← HN.out]; exact hx)⟩
      have HE : Hid (pG (rps xs b n) x = ((L, i), rd xs (L, i))) := hide (by
        unfold pG
        rw [if_pos hx]
        simp only [pAt, List.getD, rps, List.getElem?_map, hq]
        rfl)
      obtain ⟨s, P, u, HSx, HPW, HUx, HSh, HU, hun, hsu, ⟨hl0, hl1⟩, hsh, hpw, had⟩ := part_facts b n x L i hbn hn20 hq
      rw [HE.out] at n0 n1 HG9 HG10
      have HQ := hide hq
      clear hq
      simp only at n0 n1
      by_cases hxk : x = k
      · subst hxk
        rw [HSx.out] at ca HT1
        have HT2 := hide (HT1.out.set u hga)
        have hbutA := But.setCell W ga 0 (.int .i64 (u : Int))
        have HG92 := hide (HG9.out.but hbutA (HG9.out.apart HT1.out.ca (by decide)))
        have HG102 := hide (HG10.out.but hbutA (HG10.out.apart HT1.out.ca (by decide)))
        have z1 : (W.setCell ⟨ga, 0, none⟩ (.int .i64 (u : Int))).cell? ⟨w.heap.size, 0, none⟩ = some (.slice a n cap) := by rw [HT2.out.cl.cell]; rfl
        have z2 : (W.setCell ⟨ga, 0, none⟩ (.int .i64 (u : Int))).cell? ⟨g9, 0, none⟩ = some (.int .i64 (L : Int)) := by rw [HG92.out.cell]; rfl
        have z3 : (W.setCell ⟨ga, 0, none⟩ (.int .i64 (u : Int))).cell? ⟨g9, 1, none⟩ = some (.int .i64 (i : Int)) := by rw [HG92.out.cell]; rfl
        have z4 : (W.setCell ⟨ga, 0, none⟩ (.int .i64 (u : Int))).cell? ⟨ga, 0, none⟩ = some (.int .i64 (u : Int)) := by rw [HT2.out.ca.cell]; rfl
        have HRD : Hid (rd xs (L, i) = root (sub xs s u)) := hide (by
          unfold rd
          simp only
          rw [Nat.add_mul, HSh.out, HPW.out, Nat.one_mul, ← HU.out])
        have hsz2 : W5.heap.size ≤ (W.setCell ⟨ga, 0, none⟩ (.int .i64 (u : Int))).heap.size := by rw [hbutA.size]; exact hsz
        have HKK := hide (km_one hbutA HT1.out.ca.lt)
        have HKO := hide (KeepsOthers.setCell W ⟨ga, 0, none⟩ (.int .i64 (u : Int)))
        have HI2 : Hid (∀ V, TS w V w.heap.size (w.heap.size + 1) ga a n cap u W1.heap.size g2 v2 xs → W5.heap.size ≤ V.heap.size → (pre ++ [x] = List.range (pre ++ [x]).length ∧ (pre ++ [x]).length ≤ (rps xs b n).length) ∧ TS w V w.heap.size (w.heap.size + 1) ga a n cap (pbeg b n (pre ++ [x]).length) W1.heap.size g2 v2 xs ∧ W5.heap.size ≤ V.heap.size) := hide (fun V hV hz => by
          have e1 : (pre ++ [x]).length = x + 1 := by rw [List.length_append, HPL.out]; rfl
          rw [e1, HUx.out]
          exact ⟨⟨range_snoc HP.out HPL.out, hx⟩, hV, hz⟩)
        clear hbutA HG9 HT1 HE HSx HPW HUx HSh HP HPL
        gi_wp2_with fail
        refine ⟨trivial, (calls_round (.round l) (sub_any a n cap (s : Int) (u : Int) xs _ (HS.out.below HT2.out.bel) (HK.out.below HT2.out.bel HK.out.lt))).mono ?_⟩
        rintro r V1 ⟨rfl, hv1⟩
        have HV1 := hide hv1
        have HT3 := hide (HT2.out.below hv1)
        have HG103 := hide (HG102.out.below hv1 HG102.out.lt)
        obtain ⟨ED, EE⟩ := sub_told xs n s u hsu hun
        rw [ED, EE]
        clear ED EE hv1 z1 z2 z3 z4 HG92 HG102
        have HRL := hide (root_length (sub_length HS.out.hlen (Nat.le_of_lt hsu) hun) (sub_isB HS.out.hbyte s u))
        have HUL := hide (show (u8s (root (sub xs s u))).length = 32 by rw [u8s_length, HRL.out])
        gi_wp2_with (refine istep_alloc (.round l) zD rfl ?_)
        intro V2 g11 hg11 hle11 hb11
        gi_wp2_with (refine istep_storeA (.round l) wD rfl rfl rfl hg11 HUL.out (One.u8 _) rfl ?_)
        intro V3 hg113 hbut11
        have hv3 : Below V1.heap.size V1 V3 := hb11.trans (hbut11.below hle11)
        have HG113 := hide hg113
        have HG104 := hide (show Blk V3 g10 34 (u8s (root (sub xs s u))) by
          have h7 := HG103.out.below hv3 HG103.out.lt
          rwa [HRD.out] at h7)
        have HV3 := hide (HV1.out.trans (hv3.mono HV1.out.size))
        clear hg11 hb11 hg113 hbut11 hv3 HG103
        gi_wp2_with (first | (refine istep_loadA (.round l) wD rfl rfl HG113.out HUL.out ?_) | (refine istep_loadA (.round l) wD rfl rfl HG104.out HUL.out ?_) | (refine istep_run (.round l) (fun c => by simp) rfl _ _ (run_neT aD _ rfl rfl HRL.out) ?_))
        exact ⟨(HKO.out.trans (keepsO_below HV3.out)).from _, KM.trans HKK.out (km_below (Mine.one hga5) hsz2 HV3.out), HI2.out _ (HT2.out.below HV3.out) (Nat.le_trans hsz2 HV3.out.size)⟩
      · obtain ⟨s', HS'⟩ : ∃ s', Hid (pbeg b n k = s') := ⟨_, hide rfl⟩
        have h9 := pbeg_ne (b := b) (e := n) hxk (by rw [← HN.out]; exact Nat.le_of_lt hx) (by rw [← HN.out]; exact hpl)
        rw [HSx.out, HS'.out] at h9
        rw [HS'.out] at ca
        have hne := ne_cast h9
        have HNP := hide (not_pre HPL.out hlt hxk)
        clear h9 HE HSx HPW HUx HSh hpw had hsu hun
        gi_wp2
        exact ⟨(KeepsOthers.setCell _ _ _).from _, rfl, HNP.out⟩
    · have HE : Hid (pG (rps xs b n) x = ((49, 0), zer 32)) := hide (by unfold pG; rw [if_neg hx])
      rw [HE.out] at n0 n1
      simp only at n0 n1
      have hnp : ¬ (pre ++ [x]) <+: List.range (rps xs b n).length := by
        intro h
        have := h.subset (List.mem_append_right pre (List.mem_singleton.2 rfl))
        rw [List.mem_range] at this
        exact hx this
      have HNP := hide hnp
      clear hnp
      gi_wp2
      exact ⟨(KeepsOthers.setCell _ _ _).from _, rfl, HNP.out⟩
  case done =>
    rintro D ys W hD rfl ⟨_, hT, hsz⟩ hKd
    rw [List.length_range, HN.out, pbeg_end hbn (Nat.le_trans hn20 (by decide))] at hT
    have HT1 := hide hT
    have HKd := hide hKd
    have HER := hide (rf_root HS.out.hlen (Nat.le_trans hn20 (by decide)))
    have HRL := hide (root_length HS.out.hlen HS.out.hbyte)
    have HUL := hide (show (u8s (root xs)).length = 32 by rw [u8s_length, HRL.out])
    clear hT hKd
    go_wp2_with fail
    refine (rroot_any _ g2 n v2 (rps xs 0 n) _ HT1.out.rg (HK.out.below HT1.out.bel HK.out.lt)).mono ?_
    rintro r V1 ⟨rfl, hv1⟩
    rw [HER.out]
    have HV1 := hide hv1
    clear hv1
    go_wp2_with (refine step_alloc zD rfl ?_)
    intro V2 g13 hg13 hle13 hb13
    go_wp2_with (refine step_storeA wD rfl rfl rfl hg13 HUL.out (One.u8 _) rfl ?_)
    intro V3 hg133 hbut13
    have hv3 : Below V1.heap.size V1 V3 := hb13.trans (hbut13.below hle13)
    have HV3 := hide (HV1.out.trans (hv3.mono HV1.out.size))
    have HT3 := hide (HT1.out.below HV3.out)
    have HG13 := hide hg133
    have HKd3 : Hid (V3.heap[D]? = some (.deferred (some []))) := hide ((HV3.out.block D (Array.getElem?_eq_some_iff.1 HKd.out).1).trans HKd.out)
    have z1 : V3.cell? ⟨w.heap.size, 0, none⟩ = some (.slice a n cap) := by rw [HT3.out.cl.cell]; rfl
    have z4 : V3.cell? ⟨ga, 0, none⟩ = some (.int .i64 (n : Int)) := by rw [HT3.out.ca.cell]; rfl
    clear hg13 hb13 hg133 hbut13 hv3
    obtain ⟨dD, huD, hdD⟩ := wD.und
    have HS2 : ∀ V : World, TS w V w.heap.size (w.heap.size + 1) ga a n cap n W1.heap.size g2 v2 xs → Blk V g13 34 (u8s (root xs)) → V.cell? ⟨ga, 0, none⟩ = some (.int .i64 (n : Int)) ∧ V.cell? ⟨w.heap.size, 0, none⟩ = some (.slice a n cap) ∧ V.rangeAt g13 0 (u8s (root xs)) := fun V h1 h2 => ⟨by rw [h1.ca.cell]; rfl, by rw [h1.cl.cell]; rfl, h2.range 0 _ (by rw [List.drop_zero, List.take_of_length_le (Nat.le_refl _)])⟩
    go_wp2_with fail
    refine wp_region_noPanic ?_
    have bd := (Below.refl V3.heap.size V3).drew
    have HT4 := hide (HT3.out.below bd)
    have HG4 := hide (HG13.out.below bd HG13.out.lt)
    have HKd4 := hide ((bd.block D (Array.getElem?_eq_some_iff.1 HKd3.out).1).trans HKd3.out)
    refine wp_region_held_drew (S := fun V : World => V.cell? ⟨ga, 0, none⟩ = some (.int .i64 (n : Int)) ∧ V.cell? ⟨w.heap.size, 0, none⟩ = some (.slice a n cap) ∧ V.rangeAt g13 0 (u8s (root xs))) (by kernel_rfl) (HS2 _ HT4.out HG4.out) (fun hHeld => ?_)
    refine takeH 0 99 (.int .i64 (n : Int)) hHeld rfl rfl (by kernel_rfl) (by kernel_rfl) (by kernel_rfl) (fun _ _ _ h => h) (Or.inl ⟨by rfl, fun w hw => by have hw' : w.cell? ⟨ga, 0, none⟩ = some (.int .i64 (n : Int)) := (fun h => h.1) hw; go_simp⟩) ?_
    simp only [Act.put, List.setIfInBounds_toArray, List.set_cons_zero, List.set_cons_succ]
    refine takeH 1 100 (.slice a n cap) hHeld rfl rfl (by kernel_rfl) (by kernel_rfl) (by kernel_rfl) (fun _ _ _ h => h) (Or.inl ⟨by rfl, fun V hV => by have hV' : V.cell? ⟨w.heap.size, 0, none⟩ = some (.slice a n cap) := hV.2.1; go_simp⟩) ?_
    simp only [Act.put, List.setIfInBounds_toArray, List.set_cons_zero, List.set_cons_succ]
    refine takeH 2 101 (.int .i64 (n : Int)) hHeld rfl rfl (by kernel_rfl) (by kernel_rfl) (by kernel_rfl) (fun _ _ _ h => h) (Or.inl ⟨by rfl, fun w _ => by go_simp⟩) ?_
    simp only [Act.put, List.setIfInBounds_toArray, List.set_cons_zero, List.set_cons_succ]
    refine takeH 3 102 (.bool true) hHeld rfl rfl (by kernel_rfl) (by kernel_rfl) (by kernel_rfl) (fun _ _ _ h => h) (Or.inl ⟨by rfl, fun w _ => by go_simp⟩) ?_
    simp only [Act.put, List.setIfInBounds_toArray, List.set_cons_zero, List.set_cons_succ]
    refine takeH 4 103 (.bool true) hHeld rfl rfl (by kernel_rfl) (by kernel_rfl) (by kernel_rfl) (fun _ _ _ h => h) (Or.inl ⟨by rfl, fun w _ => by go_simp⟩) ?_
    simp only [Act.put, List.setIfInBounds_toArray, List.set_cons_zero, List.set_cons_succ]
    refine takeH 5 104 (.int .i64 0) hHeld rfl rfl (by kernel_rfl) (by kernel_rfl) (by kernel_rfl) (fun _ _ _ h => h) (Or.inl ⟨by rfl, fun w _ => by go_simp⟩) ?_
    simp only [Act.put, List.setIfInBounds_toArray, List.set_cons_zero, List.set_cons_succ]
    refine takeH 6 105 (.bool true) hHeld rfl rfl (by kernel_rfl) (by kernel_rfl) (by kernel_rfl) (fun _ _ _ h => h) (Or.inl ⟨by rfl, fun w _ => by go_simp⟩) ?_
    simp only [Act.put, List.setIfInBounds_toArray, List.set_cons_zero, List.set_cons_succ]
    refine takeH 7 106 (.bool true) hHeld rfl rfl (by kernel_rfl) (by kernel_rfl) (by kernel_rfl) (fun _ _ _ h => h) (Or.inl ⟨by rfl, fun w _ => by go_simp⟩) ?_
    simp only [Act.put, List.setIfInBounds_toArray, List.set_cons_zero, List.set_cons_succ]
    refine takeH 8 107 (.bool true) hHeld rfl rfl (by kernel_rfl) (by kernel_rfl) (by kernel_rfl) (fun _ _ _ h => h) (Or.inl ⟨by rfl, fun w _ => by go_simp⟩) ?_
    simp only [Act.put, List.setIfInBounds_toArray, List.set_cons_zero, List.set_cons_succ]
    refine takeH 9 108 (.agg (u8s (root xs)).toArray) hHeld rfl rfl (by kernel_rfl) (by kernel_rfl) (by kernel_rfl) (fun _ _ _ h => h) (yieldsIf_load_mid (by rfl) _ _ rfl g13 0 rfl _ _ (fun w h => h.2.2) huD hdD (by rw [wD.size, HUL.out])) ?_
    simp only [Act.put, List.setIfInBounds_toArray, List.set_cons_zero, List.set_cons_succ]
    refine takeH 10 109 (.slice a n cap) hHeld rfl rfl (by kernel_rfl) (by kernel_rfl) (by kernel_rfl) (fun _ _ _ h => h) (Or.inl ⟨by rfl, fun V hV => by have hV' : V.cell? ⟨w.heap.size, 0, none⟩ = some (.slice a n cap) := hV.2.1; go_simp⟩) ?_
    simp only [Act.put, List.setIfInBounds_toArray, List.set_cons_zero, List.set_cons_succ]
    refine wpAnyH_ready (rs := [11]) (by kernel_rfl) (by simp) (AllReadyH.cons rfl (fun K hK => ?_) AllReadyH.nil)
    rw [if_pos (by rfl)]
    go_simp
    refine (root_any n a n cap xs _ (Nat.le_refl _) (HS.out.below HT4.out.bel) (HK.out.below HT4.out.bel HK.out.lt)).mono ?_
    rintro r V5 ⟨rfl, hv5⟩
    have HT5 := hide (HT4.out.below hv5)
    have HG5 := hide (HG4.out.below hv5 HG4.out.lt)
    have HKd5 := hide ((hv5.block D (Array.getElem?_eq_some_iff.1 HKd4.out).1).trans HKd4.out)
    refine hK.out _ _ ((HS2 _ HT5.out HG5.out)) (fun hHeld => ?_)
    clear hK K
    refine takeH 12 111 (.bool true) hHeld rfl rfl (by kernel_rfl) (by kernel_rfl) (by kernel_rfl) (fun _ _ _ h => h) (Or.inl ⟨by rfl, fun v _ => run_eqT aD _ rfl rfl HRL.out⟩) ?_
    simp only [Act.put, List.setIfInBounds_toArray, List.set_cons_zero, List.set_cons_succ]
    refine takeH 13 112 (.bool true) hHeld rfl rfl (by kernel_rfl) (by kernel_rfl) (by kernel_rfl) (fun _ _ _ h => h) (Or.inl ⟨by rfl, fun w _ => by go_simp⟩) ?_
    simp only [Act.put, List.setIfInBounds_toArray, List.set_cons_zero, List.set_cons_succ]
    have cb5 : V5.cell? ⟨w.heap.size + 1, 0, none⟩ = some (.bool false) := by rw [HT5.out.cb.cell]; rfl
    have fb5 : V5.frozen? ⟨w.heap.size + 1, 0, none⟩ = false := HT5.out.cb.free 0
    refine wpAnyH_ready (rs := [14]) (by kernel_rfl) (by simp) (AllReadyH.cons rfl (fun K hK => ?_) AllReadyH.nil)
    rw [if_pos (by rfl)]
    go_simp
    have hbutR := But.setCell V5 (w.heap.size + 1) 0 (.bool true)
    have CA6 := HT5.out.ca.but hbutR (HT5.out.ca.apart HT5.out.cb (by decide))
    have CL6 := HT5.out.cl.but hbutR (HT5.out.cl.apart HT5.out.cb (by decide))
    have CG6 := HG5.out.but hbutR (HG5.out.apart HT5.out.cb (by decide))
    refine hK.out _ _ ⟨by rw [CA6.cell]; rfl, by rw [CL6.cell]; rfl, CG6.range 0 _ (by rw [List.drop_zero, List.take_of_length_le (Nat.le_refl _)])⟩ (fun hHeld => ?_)
    clear hK K
    refine wpAnyH_done (by kernel_rfl) ?_ _
    refine NoPanic.normal ?_
    clear hHeld CA6 CL6 CG6
    have k1 := (KeepsOthers.setCell V5 ⟨w.heap.size + 1, 0, none⟩ (.bool true)).same D _ HKd5.out rfl
    have CB6 := HT5.out.cb.set 0 (.bool true)
    have CB7 := CB6.kept (grownBy_putObj' _ D (.deferred none)) (fun r e => by cases e; exact ⟨_, k1, rfl⟩)
    have BA := (HT5.out.bel.trans (hbutR.below (by omega))).trans (belowK_b (w := w) (Nat.le_refl _) _ D _ (.deferred none) (by omega) k1 rfl rfl)
    have hcC : ((V5.setCell ⟨w.heap.size + 1, 0, none⟩ (.bool true)).putObj D (.deferred none)).cell? ⟨w.heap.size + 1, 0, none⟩ = some (.bool true) := by rw [CB7.cell]; rfl
    clear cb5 fb5 hbutR CB6 CB7
    go_wp2
    refine ⟨by simp, .inl ⟨_, _, rfl, run_takeDeferred k1, ?_⟩⟩
    refine ⟨.bool true, ?_, rfl, BA⟩
    simp [results, Tryd.f6, go_sem, hcC]

end Go.Proofs.YthgfbcndoedacaaDoor
