/-
  Texts one behind the other: Sal Srb Srd SbkLaw.
-/
import Derived.Test.YtlgcjdgcgnlcaaaDoorPkA
import Derived.Test.YtlgcjdgcgnlcaaaDoorSfrD
import Derived.OpenShut

/-
  The way through a level's digests: All.
-/
namespace Go.Proofs.YtlgcjdgcgnlcaaaDoor
open Go.RowKit Go.Shelf
set_option linter.unusedVariables false
set_option linter.unusedSimpArgs false
set_option maxRecDepth 100000

theorem all_mk (p : Option Addr) (h l : Int) (w : World) : Calls Tryd.prog 11 #[.pointer p, .int .i64 h, .int .i64 l] w fun r w' => ∃ gd gh gl, r = .returned (.func (.func 23) #[] #[.pointer (some ⟨gd, 0, none⟩), .pointer (some ⟨gh, 0, none⟩), .pointer (some ⟨gl, 0, none⟩)]) ∧
    Blk w' gd 31 [.pointer p] ∧ Blk w' gh 3 [.int .i64 h] ∧ Blk w' gl 3 [.int .i64 l] ∧ w.heap.size ≤ gd ∧ w.heap.size ≤ gh ∧ w.heap.size ≤ gl ∧ Below w.heap.size w w' := by
  go_enter Tryd.func11, Tryd.ntmps11
  go_wp2
  go_ret
  have b1 : Below w.heap.size w (w.alloc (.cells #[.pointer p] 31)) := (Below.refl _ _).alloc (Nat.le_refl _) _
  have B1 : Blk (w.alloc (.cells #[.pointer p] 31)) w.heap.size 31 [.pointer p] := Blk.made _ _ _
  generalize hW1 : w.alloc (.cells #[.pointer p] 31) = W1 at *
  have s1 := b1.size
  have b2 : Below W1.heap.size W1 (W1.alloc (.cells #[.int .i64 h] 3)) := (Below.refl _ _).alloc (Nat.le_refl _) _
  have B2 : Blk (W1.alloc (.cells #[.int .i64 h] 3)) W1.heap.size 3 [.int .i64 h] := Blk.made _ _ _
  generalize hW2 : W1.alloc (.cells #[.int .i64 h] 3) = W2 at *
  have s2 := b2.size
  have b3 : Below W2.heap.size W2 (W2.alloc (.cells #[.int .i64 l] 3)) := (Below.refl _ _).alloc (Nat.le_refl _) _
  have B3 : Blk (W2.alloc (.cells #[.int .i64 l] 3)) W2.heap.size 3 [.int .i64 l] := Blk.made _ _ _
  generalize hW3 : W2.alloc (.cells #[.int .i64 l] 3) = W3 at *
  have z1 : W1.heap.size = w.heap.size + 1 := by rw [← hW1]; exact World.size_alloc _ _
  have z2 : W2.heap.size = w.heap.size + 1 + 1 := by rw [← hW2, World.size_alloc, z1]
  exact ⟨w.heap.size, w.heap.size + 1, w.heap.size + 1 + 1, rfl, (B1.on b2).on b3, by rw [← z1]; exact B2.on b3, by rw [← z2]; exact B3, Nat.le_refl _, by omega, by omega, on_below (on_below b1 b2) b3⟩
/-- What is handed out: a number and a digest. -/
abbrev Dx := Int × List Int
def encA (x : Dx) : Array Value := #[.int .i64 x.1, .agg (u8s x.2).toArray]
def alP (F : ByteArray → Option (List Int)) (H L j : Nat) : Dx := ((j : Int), dg F H L j)
def als (F : ByteArray → Option (List Int)) (H L n : Nat) : List Dx := (List.range n).map (alP F H L)
theorem als_len (F : ByteArray → Option (List Int)) (H L n : Nat) : (als F H L n).length = n := by simp [als]
theorem als_succ (F : ByteArray → Option (List Int)) (H L n : Nat) : als F H L (n + 1) = als F H L n ++ [alP F H L n] := by simp [als, List.range_succ]
def RA (F : ByteArray → Option (List Int)) (H L n : Nat) (pre : List Dx) (x : Dx) (W0 W : World) : Prop := pre.length < n ∧ pre = als F H L pre.length ∧ x = alP F H L pre.length
theorem ra_own (F : ByteArray → Option (List Int)) (H L n B0 : Nat) (pre : List Dx) (x : Dx) (W0 : World) : OwnFrom B0 (fun (_ : Unit) W => RA F H L n pre x W0 W) := fun _ W W' row h hg hr => h
/-- The bytes of a level's first digests. -/
def flD (F : ByteArray → Option (List Int)) (H L n : Nat) : List Int := (dgs F H L n).flatten
theorem flD_succ (F : ByteArray → Option (List Int)) (H L n : Nat) : flD F H L (n + 1) = flD F H L n ++ dg F H L n := by simp [flD, dgs, List.range_succ]
theorem dgs_d32 {F : ByteArray → Option (List Int)} {H L n : Nat} (h : ∀ j, j < n → hasD F H L j = true) : D32 (dgs F H L n) := fun x hx => by
  obtain ⟨i, hi, rfl⟩ := List.mem_map.1 hx
  exact dg_len (h i (List.mem_range.1 hi))
theorem flD_len {F : ByteArray → Option (List Int)} {H L n : Nat} (h : ∀ j, j < n → hasD F H L j = true) : (flD F H L n).length = 32 * n := by
  have := (dgs_d32 h).flat
  unfold flD
  rw [this]
  simp [dgs]
theorem flD_dat {F : ByteArray → Option (List Int)} {H L n i : Nat} (h : ∀ j, j < n → hasD F H L j = true) (hi : i < n) : dat (flD F H L n) i = dg F H L i := by
  have := flat_at (dgs F H L n) i (dgs_d32 h) (by simp [dgs, hi])
  unfold dat flD
  rw [Nat.mul_comm 32 i, this]
  simp [dgs, List.getD, hi]
/-- What stands while the digests are gathered. -/
structure ZA (W0 W : World) (B b5 : Nat) (lv : Value) (n : Nat) (xs : List Int) : Prop where
  c5 : Blk W b5 29 [lv]
  row : DOwn W B lv n xs
  l5 : W0.heap.size ≤ b5 ∧ b5 < B
  bel : Below W0.heap.size W0 W
  sz : B ≤ W.heap.size
theorem DOwn.blkS {w : World} {B : Nat} {v : Value} {n : Nat} {xs : List Int} (h : DOwn w B v n xs) {k : Nat} (hk : v.ownBlock = some k) : ∃ cs, Blk w k 37 cs := row_lies h hk
theorem DOwn.sameS {w w' : World} {B : Nat} {v : Value} {n : Nat} {xs : List Int} (h : DOwn w B v n xs) (hk : ∀ k, v.ownBlock = some k → w'.heap[k]? = w.heap[k]?) : DOwn w' B v n xs := row_same h hk
section
variable {W0 W W' : World} {B b5 : Nat} {lv : Value} {n : Nat} {xs : List Int}
theorem ZA.ck (h : ZA W0 W B b5 lv n xs) (hk : CK W W') (hb : Below W0.heap.size W0 W') : ZA W0 W' B b5 lv n xs :=
  ⟨h.c5.ck hk, h.row.sameS (fun k e => by
    obtain ⟨cs, hc⟩ := h.row.blkS e
    exact (hc.ck hk).trans hc.symm), h.l5, hb, Nat.le_trans h.sz hk.size⟩
theorem ZA.on (h : ZA W0 W B b5 lv n xs) (hb : Below W.heap.size W W') : ZA W0 W' B b5 lv n xs := h.ck (CK.below hb) (on_below h.bel hb)
theorem ZA.push {w3 w4 w5 : World} {v' : Value} {y : List Int} (h : ZA W0 W B b5 lv n xs) (h3 : Below W.heap.size W w3) (hrow : DOwn w4 B v' (n + 1) (xs ++ y)) (hgr : w3.grownBy w4 lv.ownBlock)
    (h5 : w5 = w4.setCell ⟨b5, 0, none⟩ v') : ZA W0 w5 B b5 v' (n + 1) (xs ++ y) ∧ KeepsOthers W w5 ∧ (∀ k, k < W.heap.size → k ≠ b5 → lv.ownBlock ≠ some k → w5.heap[k]? = W.heap[k]?) ∧ W.heap.size ≤ w5.heap.size := by
  have H3 := h.on h3
  have hbut : But b5 w4 w5 := by rw [h5]; exact But.setCell w4 b5 0 _
  have hfB : ∀ k, lv.ownBlock = some k → B ≤ k := fun k hk => H3.row.lt k hk
  have l5 := h.l5
  have hs3 := h3.size
  have hs4 := hgr.size
  have c4 : Blk w4 b5 29 [lv] := H3.c5.same (hgr.block b5 H3.c5.lt (fun e => by have := hfB b5 e.symm; omega))
  refine ⟨⟨?_, ?_, l5, ?_, ?_⟩, ?_, ?_, ?_⟩
  · rw [h5]; exact c4.set 0 _
  · exact hrow.sameS (fun k hk => hbut.block k (by have := hrow.lt k hk; omega))
  · have b4 : Below W0.heap.size W0 w4 := H3.bel.grown hgr H3.bel.size (fun r e => by have := hfB r e; omega)
    exact b4.trans (hbut.below l5.1)
  · rw [hbut.size]
    have := h.sz
    omega
  · refine (keepsO_below h3).trans ((keepsO_grown hgr (fun g e => ?_)).trans (keepsO_but hbut c4))
    obtain ⟨cs, hc⟩ := H3.row.blkS e
    exact ⟨_, cs, hc⟩
  · intro k hk h1 h2
    rw [hbut.block k h1, hgr.block k (by omega) (fun e => h2 e.symm), h3.block k hk]
  · rw [hbut.size]; omega
end
set_option maxHeartbeats 4000000 in
theorem all_seq (d s : Nat) (rs : List Rw) (D : Dm) (gd gh gl H L n : Nat) (w : World) (h : PAt w d s rs D gd gh gl H L) (hl : tFB H L 0 = true) (hn : Cn (play rs) H L n) (hwt : wt rs ≤ 1099511000000) :
    SeqL Fence.wide 4 Tryd.prog 23 #[.pointer (some ⟨gd, 0, none⟩), .pointer (some ⟨gh, 0, none⟩), .pointer (some ⟨gl, 0, none⟩)] encA (RA (play rs) H L n) (fun _ => KD) (fun ys => ys = als (play rs) H L n) (fun ys => ∃ k, k ≤ n ∧ ys = als (play rs) H L k) w := by
  intro l0 J Jx W hW hJ hJx hY h0
  have H0 := hide (h.below hW)
  have HJ0 := hide h0
  have HN := hide hn
  have HL := hide hl
  have HW := hide hwt
  have hLb := (tFB_bd hl).2.2.1
  have e0 : smE (H : Int) (L : Int) 0 = 0 := by
    show (if smB (H : Int) (L : Int) ((0 : Nat) : Int) = true then (0 : Int) else 2) = 0
    rw [smB_nat, if_pos hl]
  have HC := hide (scheck_any d s rs D W H0.out.dk H L (by omega) H0.out.pt)
  rw [e0] at HC
  have h32n : 32 * n ≤ wt rs := hn.wt h.dk.valS
  have hc1 : W.cell? ⟨gd, 0, none⟩ = some (.pointer (some ⟨d, 0, none⟩)) := by rw [H0.out.bd.cell]; rfl
  have hc2 : W.cell? ⟨gh, 0, none⟩ = some (.int .i64 (H : Int)) := by rw [H0.out.bh.cell]; rfl
  have hc3 : W.cell? ⟨gl, 0, none⟩ = some (.int .i64 (L : Int)) := by rw [H0.out.bl.cell]; rfl
  have hwn : wt rs ≤ 1099511000000 := hwt
  have hWs := hW.size
  clear h hn hW h0 hl hwt e0
  refine callsIn_of_wp_marks Tryd.func23 rfl trivial ?_ rfl
  refine wpIn_wide.2 ?_
  simp only [Tryd.ntmps23, List.size_toArray, List.length_cons, List.length_nil, Nat.reduceAdd, Nat.reduceSub, Array.replicate_succ, Array.replicate_zero, List.push_toArray, List.append_toArray, List.nil_append, List.cons_append]
  go_wp2_with fail
  refine HC.out.mono ?_
  rintro r w1 ⟨rfl, hb1⟩
  have HB1 := hide hb1
  have HA1 := hide (H0.out.below hb1)
  clear hb1 HC hc1 hc2 hc3
  have hA5 := HA1.out.below ((Below.refl _ w1).alloc (Nat.le_refl _) (.cells #[.slice none 0 0] 29))
  have hc1 : (w1.alloc (.cells #[.slice none 0 0] 29)).cell? ⟨gd, 0, none⟩ = some (.pointer (some ⟨d, 0, none⟩)) := by rw [hA5.bd.cell]; rfl
  have hc2 : (w1.alloc (.cells #[.slice none 0 0] 29)).cell? ⟨gh, 0, none⟩ = some (.int .i64 (H : Int)) := by rw [hA5.bh.cell]; rfl
  have hc3 : (w1.alloc (.cells #[.slice none 0 0] 29)).cell? ⟨gl, 0, none⟩ = some (.int .i64 (L : Int)) := by rw [hA5.bl.cell]; rfl
  clear hA5
  go_wp2_with fail
  have C5 : Blk (w1.alloc (.cells #[.slice none 0 0] 29)) w1.heap.size 29 [.slice none 0 0] := Blk.made w1 29 [.slice none 0 0]
  have hb5 : Below w1.heap.size w1 (w1.alloc (.cells #[.slice none 0 0] 29)) := (Below.refl _ _).alloc (Nat.le_refl _) _
  have hs5 : (w1.alloc (.cells #[.slice none 0 0] 29)).heap.size = w1.heap.size + 1 := World.size_alloc _ _
  have G5 : Hid (ZA W (w1.alloc (.cells #[.slice none 0 0] 29)) (w1.heap.size + 1) w1.heap.size (.slice none 0 0) 0 []) := hide ⟨C5, DOwn.nil _ _, ⟨HB1.out.size, by omega⟩, on_below HB1.out hb5, by rw [hs5]; exact Nat.le_refl _⟩
  have A5 := hide (HA1.out.below hb5)
  clear C5 hb5 hs5
  revert G5 A5
  have hsW := HB1.out.size
  have HLO : Hid (∀ k, D.own d k ∨ D.ro k ∨ k = 0 → k < w1.heap.size) := hide (fun k hk => by
    rcases hk with hk | hk | rfl
    · exact HA1.out.dk.lt (.inl hk)
    · exact HA1.out.dk.lt (.inr hk)
    · exact HA1.out.pt.lt)
  clear HA1 HB1 hc1 hc2 hc3
  generalize w1.alloc (.cells #[.slice none 0 0] 29) = w5
  obtain ⟨B, hB⟩ : ∃ B, w1.heap.size + 1 = B := ⟨_, rfl⟩
  rw [hB]
  generalize w1.heap.size = b5 at *
  intro G5 A5
  refine (places_mk _ _ _ _).mono ?_
  rintro r w6 ⟨gd2, gh2, gl2, rfl, BD, BH, BL, hgd, hgh, hgl, hb6⟩
  have PA6 : PAt w6 d s rs D gd2 gh2 gl2 H L := ⟨A5.out.dk.below hb6, A5.out.pt.below hb6, BD, BH, BL⟩
  have HSQ := hide (places_seq d s rs D gd2 gh2 gl2 H L n w6 PA6 HL.out HN.out HW.out)
  have HJL : Hid (∀ k, FP d D gd2 gh2 gl2 k → k < w6.heap.size) := hide (fun k hk => PA6.lt hk)
  have HFB : Hid (∀ k, FP d D gd2 gh2 gl2 k → k ≠ b5) := hide (fun k hk => by
    have h9 := G5.out.c5.lt
    rcases hk with hk | hk | rfl | rfl | rfl | hk
    · have := HLO.out k (.inl hk); omega
    · have := HLO.out k (.inr (.inl hk)); omega
    · omega
    · omega
    · omega
    · have := HLO.out k (.inr (.inr hk)); omega)
  have hbB : b5 < B := by omega
  have G6 := hide (G5.out.on hb6)
  have PA := hide PA6
  clear PA6 BD BH BL hgd hgh hgl hb6 G5
  go_wp2_with fail
  refine (wpIn_wide (n := 4)).1 ?_
  refine rangeQ rfl (by decide) (gf := 43) (lb := #[.pointer (some ⟨gh2, 0, none⟩), .pointer (some ⟨gl2, 0, none⟩), .pointer (some ⟨gd2, 0, none⟩)]) rfl trivial (enters_of Tryd.func43 (by kernel_rfl) rfl)
    HSQ.out KF.trans (fun x V l o o' hl h hc => KF.book (B := w6.heap.size) HJL.out V l o' hl) (fun _ => rfl) (fun pre x V0 => rp_own _ _ _ _ pre x V0)
    (fun pre V => (∃ lv, ZA W V B b5 lv pre.length (flD (play rs) H L pre.length)) ∧ PAt V d s rs D gd2 gh2 gl2 H L) (fun _ _ _ => False)
    (fun _ A C row h hg hr => by
      obtain ⟨⟨lv, hz⟩, hp⟩ := h
      have hw6 : W.heap.size ≤ w6.heap.size := G6.out.bel.size
      exact ⟨⟨lv, hz.ck (CK.of_grown hg (fun r e => (hr r e).2)) (hz.bel.grown hg hz.bel.size (fun r e => by have := (hr r e).1; omega))⟩, hp.same (fun k hk => hg.block k (hp.lt hk) (fun e => by have h1 := (hr k e.symm).1; have h2 := HJL.out k hk; omega))⟩)
    (fun c _ A C row h hg hr => h) ⟨⟨_, G6.out⟩, PA.out⟩ ?act ?assign ?body ?done ?stop
  case assign =>
    rintro l x V K hK
    have hsem := Oper.semAt_some
    simp only [encP]
    gi_wp2
    exact hK
  case stop =>
    rintro D0 c pre V hD hSp h hK
    exact h.elim
  case body =>
    rintro l pre ⟨nm, p⟩ V0 V _ hck hsz ⟨⟨lv, hz⟩, hpa⟩ ⟨h1, h2, h3⟩
    have hsem := Oper.semAt_some
    obtain ⟨i, HI⟩ : ∃ i, Hid (pre.length = i) := ⟨_, hide rfl⟩
    rw [HI.out] at h1 h3 hz
    obtain ⟨e1, e2⟩ := Prod.mk.inj h3
    have hD := HN.out.1 i h1
    have hnm : nmB nm = true := by rw [e1]; exact sN_nm (hasD_tile (Nmd.play hpa.dk.valS) hD)
    have hfit : p + 32 ≤ (fl (play rs) nm).length := by
      unfold hasD at hD
      simp only [decide_eq_true_eq] at hD
      rw [e1, e2]
      rw [Nat.add_mul] at hD
      omega
    have hy : ((fl (play rs) nm).drop p).take 32 = dg (play rs) H L i := by unfold dg; rw [e1, e2]
    have HDG : Hid (∀ V1 : World, DkAt V1 d s rs D → Calls Tryd.prog 26 #[.pointer (some ⟨d, 0, none⟩), .string nm, .int .i64 (p : Int)] V1 fun r w' => r = .returned (.agg (u8s (dg (play rs) H L i)).toArray) ∧ Below V1.heap.size V1 w') := hide (fun V1 hV1 => by
      have := digest_any d s rs D V1 hV1 nm p hnm hfit HW.out
      rw [hy] at this
      exact this)
    have HYL : Hid ((dg (play rs) H L i).length = 32) := hide (dg_len hD)
    have HYB : Hid (isB (dg (play rs) H L i)) := hide (by rw [← hy]; exact ((hpa.dk.byB nm).dropS p).takeS 32)
    have HFS := hide (flD_succ (play rs) H L i)
    have HXB : Hid (i ≤ 4000000000000) := hide (by have := HW.out; omega)
    generalize dg (play rs) H L i = y at *
    have HP1 : Hid ((pre ++ [(nm, p)]).length = i + 1) := hide (by rw [List.length_append, HI.out]; rfl)
    have HZ := hide hz
    have HPA := hide hpa
    have HGD : Hid (Blk V gd 31 [.pointer (some ⟨d, 0, none⟩)]) := hide (H0.out.below hz.bel).bd
    have HNL : Hid (∀ k, FP d D gd2 gh2 gl2 k → lv.ownBlock ≠ some k) := hide (fun k hk e => by
      have h5 := hz.row.lt k e
      obtain ⟨cs, hc⟩ := hz.row.blkS e
      rcases hk with hk | hk | rfl | rfl | rfl | hk
      · have := HLO.out k (.inl hk); omega
      · have := HLO.out k (.inr (.inl hk)); omega
      · exact hc.apart hpa.bd (by decide) rfl
      · exact hc.apart hpa.bh (by decide) rfl
      · exact hc.apart hpa.bl (by decide) rfl
      · have := HLO.out k (.inr (.inr hk)); omega)
    have HLG : Hid (lv.ownBlock ≠ some gd) := hide (fun e => by
      obtain ⟨cs, hc⟩ := hz.row.blkS e
      exact hc.apart HGD.out (by decide) rfl)
    have HLB : Hid (lv.ownBlock ≠ some b5) := hide (fun e => by
      have := hz.row.lt b5 e
      omega)
    clear hz hpa hck hsz h1 h2 h3 e1 e2 hD hnm hfit hy
    gi_wp2_with fail
    refine wpIn_region_U (q := 7) (S := fun v : World => v.cell? ⟨b5, 0, none⟩ = some lv ∧ v.cell? ⟨gd, 0, none⟩ = some (.pointer (some ⟨d, 0, none⟩))) (WideF.round l) (by kernel_rfl) (by kernel_rfl) ?_
    have BD := hide (Below.refl V.heap.size V).drew
    have hHeld : V.drew.cell? ⟨b5, 0, none⟩ = some lv ∧ V.drew.cell? ⟨gd, 0, none⟩ = some (.pointer (some ⟨d, 0, none⟩)) := ⟨by rw [(HZ.out.c5.on BD.out).cell]; rfl, by rw [(HGD.out.on BD.out).cell]; rfl⟩
    refine takeU 7 0 21 (lv) hHeld rfl rfl (by kernel_rfl) (by kernel_rfl) (by kernel_rfl) (by kernel_rfl) (by kernel_rfl) (by kernel_rfl) (fun _ _ _ h => h) (Or.inl ⟨by rfl, fun w hw => by have hw' : w.cell? ⟨b5, 0, none⟩ = some (lv) := (fun hw => hw.1) hw; go_simp⟩) ?_
    simp only [Act.put, List.setIfInBounds_toArray, List.set_cons_zero, List.set_cons_succ]
    refine takeU 7 1 22 (.pointer (some ⟨d, 0, none⟩)) hHeld rfl rfl (by kernel_rfl) (by kernel_rfl) (by kernel_rfl) (by kernel_rfl) (by kernel_rfl) (by kernel_rfl) (fun _ _ _ h => h) (Or.inl ⟨by rfl, fun w hw => by have hw' : w.cell? ⟨gd, 0, none⟩ = some (.pointer (some ⟨d, 0, none⟩)) := (fun hw => hw.2) hw; go_simp⟩) ?_
    simp only [Act.put, List.setIfInBounds_toArray, List.set_cons_zero, List.set_cons_succ]
    refine takeU 7 2 23 (.string nm) hHeld rfl rfl (by kernel_rfl) (by kernel_rfl) (by kernel_rfl) (by kernel_rfl) (by kernel_rfl) (by kernel_rfl) (fun _ _ _ h => h) (Or.inl ⟨by rfl, fun w _ => by go_simp⟩) ?_
    simp only [Act.put, List.setIfInBounds_toArray, List.set_cons_zero, List.set_cons_succ]
    refine takeU 7 3 24 (.int .i64 (p : Int)) hHeld rfl rfl (by kernel_rfl) (by kernel_rfl) (by kernel_rfl) (by kernel_rfl) (by kernel_rfl) (by kernel_rfl) (fun _ _ _ h => h) (Or.inl ⟨by rfl, fun w _ => by go_simp⟩) ?_
    simp only [Act.put, List.setIfInBounds_toArray, List.set_cons_zero, List.set_cons_succ]
    refine wpAnyU_ready (rs := [4]) (by kernel_rfl) (by simp) (AllReadyU.cons rfl (fun K hK => ?_) AllReadyU.nil)
    rw [if_pos (by rfl)]
    go_simp
    refine (HDG.out _ (HPA.out.dk.below BD.out)).mono ?_
    rintro r v4 ⟨rfl, hb4⟩
    have B4 := hide (on_below BD.out hb4)
    clear hb4 hHeld
    refine hK.out _ _ (fun _ => (show v4.cell? ⟨b5, 0, none⟩ = some lv ∧ v4.cell? ⟨gd, 0, none⟩ = some (.pointer (some ⟨d, 0, none⟩)) from ⟨by rw [(HZ.out.c5.on B4.out).cell]; rfl, by rw [(HGD.out.on B4.out).cell]; rfl⟩)) ?_
    have hHeld := (show v4.cell? ⟨b5, 0, none⟩ = some lv ∧ v4.cell? ⟨gd, 0, none⟩ = some (.pointer (some ⟨d, 0, none⟩)) from ⟨by rw [(HZ.out.c5.on B4.out).cell]; rfl, by rw [(HGD.out.on B4.out).cell]; rfl⟩)
    clear hK K
    try simp only [Act.put, List.setIfInBounds_toArray, List.set_cons_zero, List.set_cons_succ]
    refine wpAnyU_ready (rs := [5]) (by kernel_rfl) (by simp) (AllReadyU.cons rfl (fun K hK => ?_) AllReadyU.nil)
    rw [if_pos (by rfl)]
    refine wp_oneD (ds := y) rfl HYL.out HYB.out ?_
    intro v5 g5 hg5 hb5
    have B5 := hide (on_below B4.out hb5)
    have G5' := hide hg5
    clear hb5 hg5 hHeld
    refine hK.out _ _ (fun _ => (show v5.cell? ⟨b5, 0, none⟩ = some lv ∧ v5.cell? ⟨gd, 0, none⟩ = some (.pointer (some ⟨d, 0, none⟩)) from ⟨by rw [(HZ.out.c5.on B5.out).cell]; rfl, by rw [(HGD.out.on B5.out).cell]; rfl⟩)) ?_
    have hHeld := (show v5.cell? ⟨b5, 0, none⟩ = some lv ∧ v5.cell? ⟨gd, 0, none⟩ = some (.pointer (some ⟨d, 0, none⟩)) from ⟨by rw [(HZ.out.c5.on B5.out).cell]; rfl, by rw [(HGD.out.on B5.out).cell]; rfl⟩)
    clear hK K
    try simp only [Act.put, List.setIfInBounds_toArray, List.set_cons_zero, List.set_cons_succ]
    refine wpAnyU_ready (rs := [6]) (by kernel_rfl) (by simp) (AllReadyU.cons rfl (fun K hK => ?_) AllReadyU.nil)
    rw [if_pos (by rfl)]
    refine wp_appendDG rfl rfl (HZ.out.row.below B5.out) G5'.out (by have := HXB.out; omega) (Nat.le_trans HZ.out.sz B5.out.size) ?_
    intro lv2 v6 hrow hgr
    obtain ⟨la, lc, hlv2⟩ := row_slice hrow
    subst hlv2
    have c6 : Blk v6 b5 29 [lv] := (HZ.out.c5.on B5.out).same (hgr.block b5 (HZ.out.c5.on B5.out).lt (fun e => HLB.out e.symm))
    have d6 : Blk v6 gd 31 [.pointer (some ⟨d, 0, none⟩)] := (HGD.out.on B5.out).same (hgr.block gd (HGD.out.on B5.out).lt (fun e => HLG.out e.symm))
    have HFIN := hide (HZ.out.push B5.out hrow hgr rfl)
    have e6 : v6.cell? ⟨b5, 0, none⟩ = some lv := by rw [c6.cell]; rfl
    have e7 : v6.cell? ⟨gd, 0, none⟩ = some (.pointer (some ⟨d, 0, none⟩)) := by rw [d6.cell]; rfl
    have f6 := c6.free 0
    clear hrow hgr hHeld d6
    refine hK.out _ _ (fun _ => (And.intro e6 e7)) ?_
    have hHeld := (And.intro e6 e7)
    clear hK K
    try simp only [Act.put, List.setIfInBounds_toArray, List.set_cons_zero, List.set_cons_succ]
    clear c6 e7
    refine wpAnyU_ready (rs := [7]) (by kernel_rfl) (by simp) (AllReadyU.cons rfl (fun K hK => ?_) AllReadyU.nil)
    rw [if_pos (by rfl)]
    go_simp
    refine hK.out _ _ (fun h => absurd h (by decide)) ?_
    clear hK K
    refine wpAnyU_done (by kernel_rfl) ?_ _
    refine Only.normal ?_
    clear hHeld e6 f6
    gi_wp2
    refine ⟨HFIN.out.2.1.from _, ⟨HFIN.out.2.2.2, fun k hk => HFIN.out.2.2.1 k (HPA.out.lt hk) (HFB.out k hk) (HNL.out k hk)⟩, ?_⟩
    show (∃ lv, ZA W _ B b5 lv (pre ++ [(nm, p)]).length (flD (play rs) H L (pre ++ [(nm, p)]).length)) ∧ _
    rw [HP1.out, HFS.out]
    exact ⟨⟨_, HFIN.out.1⟩, HPA.out.same (fun k hk => HFIN.out.2.2.1 k (HPA.out.lt hk) (HFB.out k hk) (HNL.out k hk))⟩
  case done =>
    rintro Dk ys V hD hS ⟨⟨lv, hz⟩, hpa⟩ hK2
    obtain rfl : ys = pls H L n := hS
    rw [pls_len] at hz
    have HDK := hide hK2
    have HJ6 := hide (hJ _ W V none HJ0.out ⟨hz.bel.os, hz.bel.tape, hz.bel.output, hz.bel.size, fun i hi _ => hz.bel.block i hi⟩ (fun r e => by cases e))
    obtain ⟨la, lc, hlv⟩ := row_slice hz.row
    subst hlv
    have HZ := hide hz
    have hc5 : V.cell? ⟨b5, 0, none⟩ = some (.slice la n lc) := by rw [hz.c5.cell]; rfl
    have hflB : isB (flD (play rs) H L n) := by
      intro z hz'
      unfold flD at hz'
      obtain ⟨q, hq, hzq⟩ := List.mem_flatten.1 hz'
      obtain ⟨j, _, rfl⟩ := List.mem_map.1 hq
      exact ((hpa.dk.byB _).dropS _).takeS 32 z hzq
    have HDS : Hid (∀ V' : World, DOwn V' B (.slice la n lc) n (flD (play rs) H L n) → Ds V' la n lc (flD (play rs) H L n)) := hide (fun V' hV' => by
      obtain ⟨a', cap', e, hds, _⟩ := hV'.ds hflB (by omega)
      injection e with e1 e2 e3
      subst e1 e3
      exact hds)
    have HDA := hide (fun i hi => flD_dat (F := play rs) (H := H) (L := L) (n := n) (i := i) HN.out.1 hi)
    have HYB : Hid (∀ i, i < n → isB (dg (play rs) H L i) ∧ (dg (play rs) H L i).length = 32) := hide (fun i hi => ⟨((hpa.dk.byB _).dropS _).takeS 32, dg_len (HN.out.1 i hi)⟩)
    have hDw : W.heap.size ≤ Dk := by have := G6.out.bel.size; omega
    have hDB : w.heap.size ≤ Dk := Nat.le_trans hWs hDw
    clear hz hpa hK2 hflB G6 PA HSQ HJL HFB HLO
    have hnn : n ≤ 40000000000 := by omega
    gi_wp2
    refine (wpIn_wide (n := 4)).1 ?_
    gi_wp2
    gi_loopw [30] (fun p wr => ∃ (k : Nat) (pre : List Dx), k ≤ n ∧ p = .int .i64 (k : Int) ∧ Hid (pre = als (play rs) H L k) ∧ Hid (J pre wr) ∧ Hid (DOwn wr B (.slice la n lc) n (flD (play rs) H L n)) ∧ Hid (wr.heap[Dk]? = some (.deferred (some [])))) (fun p _ => n - (intOf p).toNat)
    case atStart => exact ⟨0, [], Nat.zero_le _, rfl, hide rfl, HJ6, hide HZ.out.row, HDK⟩
    case round =>
      clear hc5 HJ6 HDK HZ
      obtain ⟨k, pre, hk, rfl, HPR, HJ, HRW, HDK⟩ := hrel
      by_cases hlt : k < n
      · have hlti : (k : Int) < (n : Int) := by omega
        have hds := HDS.out wr HRW.out
        obtain ⟨b, o, rfl⟩ := hds.place (by omega)
        have hix := d_at b o n lc k (k : Int) rfl hlt
        have hrg := hds.range k hlt
        rw [HDA.out k hlt] at hrg
        have HRG := hide hrg
        obtain ⟨hyb, hyl⟩ := HYB.out k hlt
        have HUL : Hid ((u8s (dg (play rs) H L k)).length = 32) := hide (by rw [u8s_length, hyl])
        have HRA : Hid (∀ V1 : World, RA (play rs) H L n pre ((k : Int), dg (play rs) H L k) wr V1) := hide (fun V1 => by
          have hpl : pre.length = k := by rw [HPR.out, als_len]
          exact ⟨by rw [hpl]; exact hlt, by rw [hpl]; exact HPR.out, by rw [hpl]; rfl⟩)
        have HM : Hid (pre ++ [((k : Int), dg (play rs) H L k)] = als (play rs) H L (k + 1)) := hide (by rw [als_succ, HPR.out]; rfl)
        generalize dg (play rs) H L k = y at *
        clear hds hrg hyb hyl
        gi_wp2_with (first | (refine istep_loadR WideF.wide wDs rfl rfl _ HRG.out HUL.out ?_) | (refine istep_alloc WideF.wide zDs rfl ?_))
        intro w9 g9 hg9 hle9 hb9
        have HG9 := hide hg9
        have HL9 := hide hle9
        have HB9 := hide hb9
        clear hg9 hle9 hb9
        gi_wp2_with (refine istep_storeA WideF.wide wDs rfl rfl rfl HG9.out HUL.out (One.u8 _) (by rw [u8s_length, zer_length]) ?_)
        intro w10 hg10 hbut
        have HG10 := hide hg10
        have HB10 := hide (HB9.out.trans (hbut.below HL9.out))
        have HJ10 := hide (hJ _ wr w10 none HJ.out ⟨HB10.out.os, HB10.out.tape, HB10.out.output, HB10.out.size, fun i hi _ => HB10.out.block i hi⟩ (fun r e => by cases e))
        have HRW10 := hide (HRW.out.below HB10.out)
        have HDK10 : Hid (w10.heap[Dk]? = some (.deferred (some []))) := hide ((HB10.out.block Dk (Array.getElem?_eq_some_iff.1 HDK.out).1).trans HDK.out)
        clear hg10 hbut
        obtain ⟨fn, tmps, assign, body, hy, hR⟩ := hY pre ((k : Int), y) wr w10 HJ.out HB10.out HJ10.out (HRA.out w10)
        simp only [encA] at hy
        gi_wp2_with (refine istep_loadA WideF.wide wDs rfl rfl HG10.out HUL.out ?_)
        refine hR.mono ?_
        rintro r W7 (⟨rfl, hJ7, hk7, hm7⟩ | ⟨rfl, hJx7, hm7⟩)
        · have HJ7 := hide hJ7
          have HRW7 : Hid (DOwn W7 B (.slice (some ⟨b, o, none⟩) n lc) n (flD (play rs) H L n)) := hide (HRW10.out.sameS (fun q hq => by
            obtain ⟨cs, hc⟩ := HRW10.out.blkS hq
            exact (hk7.keep q cs hc).trans hc.symm))
          have HDK7 := hide (hm7 Dk hDB HDK10.out)
          clear hJ7 hk7 hy hR HJ10 HRW10 HDK10 hix HRG HRA
          gi_wp2
          go_roundw
          case rel => exact ⟨k + 1, _, by omega, by go_num, HM, HJ7, HRW7, HDK7⟩
          case measure => simp only [intOf]; omega
        · have HJx7 := hide hJx7
          have HDK7 := hide (hm7 Dk hDB HDK10.out)
          clear hJx7 hy hR hix HRG HRA
          gi_wp2
          refine ⟨by simp, .inl ⟨_, _, rfl, run_takeDeferred HDK7.out, ?_⟩⟩
          refine ⟨_, results_none rfl _ _ _, ⟨_, rfl⟩, .inr ⟨_, ⟨k + 1, by omega, HM.out⟩, hJx _ W7 _ (some Dk) HJx7.out (grownBy_putObj' W7 Dk _) (fun r e => by cases e; exact ⟨hDw, _, HDK7.out, rfl⟩)⟩⟩
      · have hlti : ¬ (k : Int) < (n : Int) := by omega
        obtain rfl : k = n := by omega
        gi_wp2
        refine ⟨by simp, .inl ⟨_, _, rfl, run_takeDeferred HDK.out, ?_⟩⟩
        have hjj := hJ pre wr (wr.putObj Dk (.deferred none)) (some Dk) HJ.out (grownBy_putObj' wr Dk _) (fun r e => by cases e; exact ⟨hDw, _, HDK.out, rfl⟩)
        rw [HPR.out] at hjj
        exact ⟨_, results_none rfl _ _ _, ⟨_, rfl⟩, .inl hjj⟩

end Go.Proofs.YtlgcjdgcgnlcaaaDoor

/-
  A range over a function whose round begins with a variable of its own: what stands ahead of the body is handed to it.
-/
namespace Go.Proofs.YtlgcjdgcgnlcaaaDoor
open Go.RowKit Go.Shelf
set_option linter.unusedVariables false

section
variable {F : Fence} {n : Nat} {P : Program}
theorem round_A {m : Nat} {fn : FuncId} {tmps : Array Value} {ps : Array Tmp} {assign body : Code} {D : Nat} (hfn : F.fn fn) {args : Array Value} (hps : args.size = ps.size) {W : World} (hB : Bk (lrec fn tmps ps assign body D .ready none) D W) {Post : Ending → World → Prop}
    (hrun : assign.wpIn (F.inRound (D + 1)) m P (Exit.then (fun a' V => Bk (lrec fn tmps ps assign body D .ready none) D V ∧ body.wpIn (F.inRound (D + 1)) m P (fun e _ W' => match e with
      | .normal => Bk (lrec fn tmps ps assign body D .busy none) D W' ∧ Post (.returned (.bool true)) (W'.putObj (D + 1) (.loop (lrec fn tmps ps assign body D .ready none)))
      | .ret => Bk (lrec fn tmps ps assign body D .busy none) D W' ∧ Post (.returned (.bool false)) (W'.putObj (D + 1) (.loop (lrec fn tmps ps assign body D .done (some .ret))))
      | .exit id => Bk (lrec fn tmps ps assign body D .busy none) D W' ∧ Post (.returned (.bool false)) (W'.putObj (D + 1) (.loop (lrec fn tmps ps assign body D .done (some (.exit id)))))
      | .goto u => Bk (lrec fn tmps ps assign body D .busy none) D W' ∧ Post (.returned (.bool false)) (W'.putObj (D + 1) (.loop (lrec fn tmps ps assign body D .done (some (.goto u)))))
      | _ => False) a' (V.putObj (D + 1) (.loop (lrec fn tmps ps assign body D .busy none)))) (fun _ _ _ => False)) { tmps := (ps.zip args).foldl (fun t (p, v) => t.setIfInBounds p v) tmps, defers := [] } W) :
    YieldAt F m P (D + 1) args W Post := by
  refine ⟨fn, _, assign, body, run_yield (P := P) (args := args) hB.loop hps, roundIn_of_wpIn hfn (wpIn_mono hrun ?_)⟩
  intro e0 a0 V hp0
  cases e0 with
  | normal =>
    obtain ⟨hBV, hbody⟩ := hp0
    refine ⟨_, run_beginRound hBV.loop rfl, wpIn_mono hbody ?_⟩
    intro e a3 W3 hp
    cases e with
    | normal => exact ⟨_, _, run_endRound none hp.1.loop, hp.2⟩
    | ret => exact ⟨_, _, run_endRound (some .ret) hp.1.loop, hp.2⟩
    | exit id => exact ⟨_, _, run_endRound (some (.exit id)) hp.1.loop, hp.2⟩
    | goto u => exact ⟨_, _, run_endRound (some (.goto u)) hp.1.loop, hp.2⟩
    | panic ch => exact hp.elim
    | outgrown => exact hp.elim
  | ret => exact hp0.elim
  | exit id => exact hp0.elim
  | goto u => exact hp0.elim
  | panic ch => exact hp0.elim
  | outgrown => exact hp0.elim
theorem rangeB {α : Type} {g : Operand} {ps : Array Tmp} {assign body : Code} {Q : Exit → Act → World → Prop} {a : Act} {w : World}
    (hro : F.round = none) (h1 : 1 ≤ n) {gf : Nat} {lb : Array Value} (hg : a.eval g = .func (.func gf) #[] lb) (hFg : F.fn gf) (eg : ∀ args w, (callFunc gf args).run P w = .ok (.enter gf args) w)
    {encs : α → Array Value} {R : List α → α → World → World → Prop} {Kp : α → World → World → Prop} {S Sp : List α → Prop} (hseq : SeqL F (n - 1) P gf lb encs R Kp S Sp w)
    (hKt : ∀ {x : α} {A B C : World}, Kp x A B → Kp x B C → Kp x A C) (hKb : ∀ (x : α) (W : World) (l : Nat) (o o' : Obj), w.heap.size ≤ l → W.heap[l]? = some o → o.isCells = false → Kp x W (W.putObj l o')) (hKw : ∀ (x : α) (A C : World), Below A.heap.size A C → Kp x A C) (hps : ∀ x, (encs x).size = ps.size)
    (hR : ∀ pre x W0, OwnFrom w.heap.size (fun (_ : Unit) W => R pre x W0 W))
    (I : List α → World → Prop) (Ix : Code → List α → World → Prop) (hI : OwnFrom w.heap.size I) (hIx : ∀ c, OwnFrom w.heap.size (Ix c)) (h0 : I [] w) (a₁ : α → Nat → Act) (Ab : α → Nat → World → Prop) (hAb : ∀ x g (V : World) (l : Nat) (r : Loop) (o' : Obj), V.heap[l]? = some (.loop r) → Ab x g V → Ab x g (V.putObj l o'))
    (hassign : ∀ (l : Nat) (x : α) (W : World) (K : Act → World → Prop), (∃ pre W0, R pre x W0 W) → (∀ (g : Nat) (V : World), Below W.heap.size W V → W.heap.size ≤ g → Ab x g V → K (a₁ x g) V) →
      assign.wpIn (F.inRound l) (n - 1 - 1) P (Exit.then K (fun _ _ _ => False)) { tmps := (ps.zip (encs x)).foldl (fun t (p, v) => t.setIfInBounds p v) a.tmps, defers := [] } W)
    (hbody : ∀ (l : Nat) (pre : List α) (x : α) (g : Nat) (W0 W : World), W0.heap.size ≤ g → Ab x g W → I pre W0 → (∀ (k : Nat) (o : Obj), W0.heap[k]? = some o → o.isCells = true → W.heap[k]? = some o) → W0.heap.size ≤ W.heap.size → I pre W → R pre x W0 W → body.wpIn (F.inRound l) (n - 1 - 1) P (ownPostG w.heap.size (Kp x) I Ix (pre ++ [x]) W) (a₁ x g) W)
    (hdone : ∀ (D : Nat) (xs : List α) (W : World), w.heap.size ≤ D → S xs → I xs W → W.heap[D]? = some (.deferred (some [])) → Q .normal { a with defers := { target := .collected D, args := #[] } :: a.defers } W)
    (hstop : ∀ (D : Nat) (c : Code) (pre : List α) (W : World), w.heap.size ≤ D → Sp pre → Ix c pre W → W.heap[D]? = some (.deferred (some [])) → c.wpIn F n P Q { a with defers := { target := .collected D, args := #[] } :: a.defers } W) :
    (Code.rangeFunc g ps assign body).wpIn F n P Q a w := by
  refine wpIn_rangeFunc fun fn hfn => ?_
  rw [hro]
  obtain ⟨W1, hW1⟩ : ∃ W1, (w.alloc (.deferred (some []))).alloc (.loop (lrec fn a.tmps ps assign body w.heap.size .ready none)) = W1 := ⟨_, rfl⟩
  have B1 : Bk (lrec fn a.tmps ps assign body w.heap.size .ready none) w.heap.size W1 := by rw [← hW1]; exact Bk.new w _
  have b1 : Below w.heap.size w W1 := by rw [← hW1]; exact ((Below.refl _ w).alloc (Nat.le_refl _) _).alloc (by simp) _
  have s1 : w.heap.size ≤ W1.heap.size := b1.size
  have far : ∀ {A : World} {row : Option Nat}, (∀ r, row = some r → W1.heap.size ≤ r ∧ ∃ o : Obj, A.heap[r]? = some o ∧ o.isCells = false) → ∀ r, row = some r → w.heap.size ≤ r ∧ ∃ o : Obj, A.heap[r]? = some o ∧ o.isCells = false :=
    fun hr r e => by obtain ⟨hb, o, ho, hw⟩ := hr r e; exact ⟨by omega, o, ho, hw⟩
  have z1 : W1.heap.size = w.heap.size + 2 := by rw [← hW1, World.size_alloc, World.size_alloc]
  refine ⟨w.heap.size + 1, [{ target := .collected w.heap.size, args := #[] }], W1, { target := .fn (.func gf) lb, args := #[.func (.yield (w.heap.size + 1)) #[] #[]] }, W1, gf,
    #[.func (.yield (w.heap.size + 1)) #[] #[]] ++ lb, W1, by rw [← hW1]; exact run_enterLoop_outer _ _ _ _ _, by simp only [resolve, hg]; simp [go_sem], fun f' hf' => by simp [Target.leads] at hf'; subst hf'; exact hFg, by simp [invoke, go_sem, eg], fun _ => h1, ?_⟩
  refine (hseq (w.heap.size + 1) (fun pre W => I pre W ∧ Bk (lrec fn a.tmps ps assign body w.heap.size .ready none) w.heap.size W) (fun pre W => ∃ c, Ix c pre W ∧ Bk (lrec fn a.tmps ps assign body w.heap.size .done (some c)) w.heap.size W) W1 b1
    (fun s A B row hs hg' hr => ⟨hI s A B row hs.1 hg' (far hr), hs.2.own hg' (fun q e => by have := (hr q e).1; omega)⟩)
    (fun s A B row hs hg' hr => by obtain ⟨c, hc, hb⟩ := hs; exact ⟨c, hIx c s A B row hc hg' (far hr), hb.own hg' (fun q e => by have := (hr q e).1; omega)⟩) ?_
    ⟨by rw [← hW1]; exact hI.alloc _ (hI.alloc _ h0), B1⟩).mono ?_
  · rintro pre x W0 W ⟨hi0, hB0⟩ hb0 ⟨hi, hB⟩ hr
    refine round_A hfn (hps x) hB (hassign _ x W _ ⟨pre, W0, hr⟩ (fun g V hbV hgW hab => ?_))
    have hgV : W.grownBy V none := ⟨hbV.os, hbV.tape, hbV.output, hbV.size, fun i hi _ => hbV.block i hi⟩
    have hBV := hB.own hgV (fun q e => by cases e)
    have hiV := hI _ W V none hi hgV (fun q e => by cases e)
    have hrV := hR pre x W0 () W V none hr hgV (fun q e => by cases e)
    have hsV : W.heap.size ≤ V.heap.size := hbV.size
    refine ⟨hBV, ?_⟩
    have hB2 := hBV.put (lrec fn a.tmps ps assign body w.heap.size .busy none)
    have hK2 : Kp x W (V.putObj (w.heap.size + 1) (.loop (lrec fn a.tmps ps assign body w.heap.size .busy none))) := hKt (hKw x W V hbV) (hKb x _ _ _ _ (by omega) hBV.loop rfl)
    refine wpIn_mono (hbody _ pre x g W0 _ (Nat.le_trans hb0.size hgW) (hAb x g V _ _ _ hBV.loop hab) hi0 (fun k o ho hc => ?_) (Nat.le_trans hb0.size (Nat.le_trans hsV (grownBy_putObj' V _ _).size)) (hI.putObj _ hiV (by omega) hBV.loop rfl) ((hR pre x W0).putObj (s := ()) _ hrV (by omega) hBV.loop rfl)) ?_
    · have hk0 : W.heap[k]? = some o := (hb0.block k (Array.getElem?_eq_some_iff.1 ho).1).trans ho
      have hk : V.heap[k]? = some o := (hbV.block k (Array.getElem?_eq_some_iff.1 hk0).1).trans hk0
      rw [World.putObj_heap_other (fun e => by
        subst e
        rw [hBV.loop] at hk
        injection hk with hk
        subst hk
        cases hc)]
      exact hk
    have hmk : ∀ {W3 : World} {r2 : Loop} {o' : Obj}, KeepsFrom w.heap.size (V.putObj (w.heap.size + 1) (.loop (lrec fn a.tmps ps assign body w.heap.size .busy none))) W3 → W3.heap[w.heap.size + 1]? = some (.loop r2) → MarksFrom w.heap.size W (W3.putObj (w.heap.size + 1) o') := fun h1 h2 k hB hq => marks_round hBV.loop h1 h2 k hB ((hbV.block k (Array.getElem?_eq_some_iff.1 hq).1).trans hq)
    intro e a3 W3 hp
    cases e with
    | normal =>
      have hB3 := hB2.keep hp.1
      exact ⟨hB3, .inl ⟨rfl, ⟨hI.putObj _ hp.2.2 (by omega) hB3.loop rfl, hB3.put _⟩, hKt hK2 (hKt hp.2.1 (hKb x _ _ _ _ (by omega) hB3.loop rfl)), hmk hp.1 hB3.loop⟩⟩
    | ret =>
      have hB3 := hB2.keep hp.1
      exact ⟨hB3, .inr ⟨rfl, ⟨.ret, (hIx _).putObj _ hp.2 (by omega) hB3.loop rfl, hB3.put _⟩, hmk hp.1 hB3.loop⟩⟩
    | exit id =>
      have hB3 := hB2.keep hp.1
      exact ⟨hB3, .inr ⟨rfl, ⟨.exit id, (hIx _).putObj _ hp.2 (by omega) hB3.loop rfl, hB3.put _⟩, hmk hp.1 hB3.loop⟩⟩
    | goto u =>
      have hB3 := hB2.keep hp.1
      exact ⟨hB3, .inr ⟨rfl, ⟨.goto u, (hIx _).putObj _ hp.2 (by omega) hB3.loop rfl, hB3.put _⟩, hmk hp.1 hB3.loop⟩⟩
    | panic ch => exact hp.elim
    | outgrown => exact hp.elim
  · rintro e W2 ⟨⟨v, rfl⟩, (⟨xs, hS, hi, hB⟩ | ⟨pre, hSp, c, hi, hB⟩)⟩
    · exact ⟨none, _, run_endLoop (P := P) hB.loop (by simp [lrec]), hdone _ xs _ (Nat.le_refl _) hS (hI.putObj _ hi (by omega) hB.loop rfl) ((World.putObj_heap_other (by omega)).trans hB.mark)⟩
    · exact ⟨some c, _, run_endLoop (P := P) hB.loop (by simp [lrec]), hstop _ c pre _ (Nat.le_refl _) hSp ((hIx c).putObj _ hi (by omega) hB.loop rfl) ((World.putObj_heap_other (by omega)).trans hB.mark)⟩
end

end Go.Proofs.YtlgcjdgcgnlcaaaDoor

/-
  Read: a tile's bytes.
-/
namespace Go.Proofs.YtlgcjdgcgnlcaaaDoor
open Go.RowKit Go.Shelf
set_option linter.unusedVariables false
set_option linter.unusedSimpArgs false
set_option maxRecDepth 100000

theorem Own.downS {w : World} {B B' : Nat} {v : Value} {xs : List Int} (h : Own w B v xs) (hB : B' ≤ B) : Own w B' v xs := by
  obtain ⟨h1, h2⟩ := h
  refine ⟨h1, ?_⟩
  rcases h2 with h2 | ⟨g, cap, cur, e, hg, r⟩
  · exact .inl h2
  · exact .inr ⟨g, cap, cur, e, Nat.le_trans hB hg, r⟩
/-- Is a tile's file there, with bytes enough? -/
def fitT (rs : List Rw) (h l i n : Int) : Prop := smE h l i = 0 ∧ fE rs (bA (smP h l i)) = 0 ∧ n * 32 ≤ ((fl (play rs) (bA (smP h l i))).length : Int)
/-- What Read tells of a tile. -/
def RdR (rs : List Rw) (h l i n e : Int) (bs : List Int) : Prop :=
  (e = 2 ∧ ¬ tOK h l i n ∧ bs = []) ∨ (e = 121 ∧ tOK h l i n ∧ ¬ fitT rs h l i n ∧ bs = []) ∨ (e = 0 ∧ tOK h l i n ∧ fitT rs h l i n ∧ bs = (fl (play rs) (bA (smP h l i))).take (n * 32).toNat)
theorem RdR.uniq {rs : List Rw} {h l i n e e' : Int} {bs bs' : List Int} (a : RdR rs h l i n e bs) (b : RdR rs h l i n e' bs') : e = e' ∧ bs = bs' := by
  rcases a with ⟨rfl, a1, rfl⟩ | ⟨rfl, a1, a2, rfl⟩ | ⟨rfl, a1, a2, rfl⟩ <;> rcases b with ⟨rfl, b1, rfl⟩ | ⟨rfl, b1, b2, rfl⟩ | ⟨rfl, b1, b2, rfl⟩ <;> first | exact ⟨rfl, rfl⟩ | (exfalso; contradiction)
set_option maxHeartbeats 2000000 in
theorem readT_any (rs : List Rw) (h l i n : Int) (hl : l ≤ 9223372036854775807) (hi : i ≤ 9223372036854775807) (hwt : wt rs ≤ 1099511000000) : ∃ (e : Int) (bs : List Int), RdR rs h l i n e bs ∧ ∀ (d s : Nat) (D : Dm) (w : World), DkAt w d s rs D → PT w →
    Calls Tryd.prog 13 #[.pointer (some ⟨d, 0, none⟩), .agg (c4 h l i n).toArray] w fun r w' => ∃ v, r = .returned (.tuple #[v, .int .i64 e]) ∧ Own w' w.heap.size v bs ∧ Below w.heap.size w w' := by
  obtain ⟨q, hq, hv⟩ := validT_any h l i n hl hi
  have HV := hide hv
  clear hv
  cases q with
  | false =>
    have hk : ¬ tOK h l i n := fun k => by simpa using hq.2 k
    refine ⟨2, [], .inl ⟨rfl, hk, rfl⟩, fun d s D w hd ht => ?_⟩
    have HD := hide hd
    have HMD := hide (fun W hW => madeS_any d s rs D W hW)
    clear hd ht hq hk
    go_enter Tryd.func13, Tryd.ntmps13
    go_wp2_with (first | (refine step_box (cs := c4 h l i n) rfl rfl ?_; intro w1 g1 hg1 hle1 hb1; have HG1 := hide hg1; have HB1 := hide hb1; clear hg1 hle1 hb1) | (go_at_call 27; refine (HMD.out _ (HD.out.below HB1.out)).mono ?_; rintro r w2 ⟨rfl, rfl⟩) | (refine step_loadA wT rfl rfl HG1.out rfl ?_))
    refine (HV.out _).mono ?_
    rintro r w3 ⟨rfl, hb3⟩
    have HB3 := hide (on_below HB1.out hb3)
    have HG3 := hide (HG1.out.on hb3)
    obtain ⟨c0, c1, c2, c3⟩ := HG3.out.four
    clear hb3
    go_wp2
    go_ret2
    exact ⟨_, rfl, Own.nil _ _, HB3.out⟩
  | true =>
    have hk : tOK h l i n := hq.1 rfl
    obtain ⟨hn1, hn2⟩ := hk.n_bd
    have hw32 : wrap64 (n * 32) = n * 32 := by unfold wrap64; omega
    have hNM := fun (W : World) (hW : PT W) => sname_any h l i W hl hi hW
    by_cases h1 : smE h l i = 0
    · rw [h1] at hNM
      have hnm := smE_nm h1
      by_cases h2 : fE rs (bA (smP h l i)) = 0
      · have hxl := play_wt rs (bA (smP h l i))
        have hRD : ∀ (d s : Nat) (D : Dm) (W : World), DkAt W d s rs D → Calls Tryd.prog 29 #[.pointer (some ⟨d, 0, none⟩), .string (bA (smP h l i)), .int .i64 0, .int .i64 (n * 32)] W fun e w' => ∃ v, e = .returned (.tuple #[v, .int .i64 0]) ∧ Own w' W.heap.size v ((fl (play rs) (bA (smP h l i))).take (n * 32).toNat) ∧ Below W.heap.size W w' := fun d s D W hW => by
          have e1 : rqE rs (bA (smP h l i)) 0 (n * 32) = 0 := by unfold rqE; rw [if_pos h2, if_neg (by omega)]
          have e2 : rqB rs (bA (smP h l i)) 0 (n * 32) = (fl (play rs) (bA (smP h l i))).take (n * 32).toNat := by
            unfold rqB
            rw [if_pos e1]
            simp only [Int.toNat_zero, List.drop_zero, Nat.sub_zero]
            rw [← List.take_take, List.take_of_length_le (Nat.le_refl _)]
          have := read_any d s rs D W hW (bA (smP h l i)) 0 (n * 32) hwt
          rw [e1, e2] at this
          exact this
        by_cases h3 : n * 32 ≤ ((fl (play rs) (bA (smP h l i))).length : Int)
        · refine ⟨0, _, .inr (.inr ⟨rfl, hk, ⟨h1, h2, h3⟩, rfl⟩), fun d s D w hd ht => ?_⟩
          have hlen : ((fl (play rs) (bA (smP h l i))).take (n * 32).toNat).length = (n * 32).toNat := by rw [List.length_take]; omega
          have HLE := hide hlen
          have HRD := hide (hRD d s D)
          have HNM := hide hNM
          have HD := hide hd
          have HT := hide ht
          have HMD := hide (fun W hW => madeS_any d s rs D W hW)
          generalize (fl (play rs) (bA (smP h l i))).take (n * 32).toNat = bs at *
          generalize bA (smP h l i) = nm at *
          have hge : ¬ (((n * 32).toNat : Nat) : Int) < n * 32 := by omega
          clear hd ht hq hk h1 h2 h3 hlen hRD hNM hnm hwt hxl
          go_enter Tryd.func13, Tryd.ntmps13
          go_wp2_with (first | (refine step_box (cs := c4 h l i n) rfl rfl ?_; intro w1 g1 hg1 hle1 hb1; have HG1 := hide hg1; have HB1 := hide hb1; clear hg1 hle1 hb1) | (go_at_call 27; refine (HMD.out _ (HD.out.below HB1.out)).mono ?_; rintro r w2 ⟨rfl, rfl⟩) | (refine step_loadA wT rfl rfl HG1.out rfl ?_))
          refine (HV.out _).mono ?_
          rintro r w3 ⟨rfl, hb3⟩
          have HB3 := hide (on_below HB1.out hb3)
          have HG3 := hide (HG1.out.on hb3)
          obtain ⟨c0, c1, c2, c3⟩ := HG3.out.four
          clear hb3
          go_wp2_with fail
          refine (HNM.out _ (HT.out.below HB3.out)).mono ?_
          rintro r w4 ⟨rfl, hb4⟩
          have HB4 := hide (on_below HB3.out hb4)
          have HG4 := hide (HG3.out.on hb4)
          clear c0 c1 c2 c3
          obtain ⟨c0, c1, c2, c3⟩ := HG4.out.four
          clear hb4
          go_wp2_with fail
          refine (HRD.out _ (HD.out.below HB4.out)).mono ?_
          rintro r w5 ⟨v, rfl, ho5, hb5⟩
          have HB5 := hide (on_below HB4.out hb5)
          have HO5 := hide (ho5.downS HB4.out.size)
          clear c0 c1 c2 c3
          obtain ⟨c0, c1, c2, c3⟩ := (HG4.out.on hb5).four
          clear ho5 hb5
          obtain ⟨va, vc, rfl⟩ := HO5.out.slice
          rw [HLE.out]
          go_wp2
          go_ret2
          refine ⟨_, rfl, ?_, HB5.out⟩
          have := HO5.out
          rw [HLE.out] at this
          exact this
        · refine ⟨121, [], .inr (.inl ⟨rfl, hk, fun hf => h3 hf.2.2, rfl⟩), fun d s D w hd ht => ?_⟩
          have hlen : (((fl (play rs) (bA (smP h l i))).take (n * 32).toNat).length : Int) < n * 32 := by rw [List.length_take]; omega
          have hlb : ((fl (play rs) (bA (smP h l i))).take (n * 32).toNat).length ≤ 1099511000000 := by rw [List.length_take]; omega
          have HRD := hide (hRD d s D)
          have HNM := hide hNM
          have HD := hide hd
          have HT := hide ht
          have HMD := hide (fun W hW => madeS_any d s rs D W hW)
          generalize (fl (play rs) (bA (smP h l i))).take (n * 32).toNat = bs at *
          generalize bA (smP h l i) = nm at *
          clear hd ht hq hk h1 h2 h3 hRD hNM hnm hwt hxl
          go_enter Tryd.func13, Tryd.ntmps13
          go_wp2_with (first | (refine step_box (cs := c4 h l i n) rfl rfl ?_; intro w1 g1 hg1 hle1 hb1; have HG1 := hide hg1; have HB1 := hide hb1; clear hg1 hle1 hb1) | (go_at_call 27; refine (HMD.out _ (HD.out.below HB1.out)).mono ?_; rintro r w2 ⟨rfl, rfl⟩) | (refine step_loadA wT rfl rfl HG1.out rfl ?_))
          refine (HV.out _).mono ?_
          rintro r w3 ⟨rfl, hb3⟩
          have HB3 := hide (on_below HB1.out hb3)
          have HG3 := hide (HG1.out.on hb3)
          obtain ⟨c0, c1, c2, c3⟩ := HG3.out.four
          clear hb3
          go_wp2_with fail
          refine (HNM.out _ (HT.out.below HB3.out)).mono ?_
          rintro r w4 ⟨rfl, hb4⟩
          have HB4 := hide (on_below HB3.out hb4)
          have HG4 := hide (HG3.out.on hb4)
          clear c0 c1 c2 c3
          obtain ⟨c0, c1, c2, c3⟩ := HG4.out.four
          clear hb4
          go_wp2_with fail
          refine (HRD.out _ (HD.out.below HB4.out)).mono ?_
          rintro r w5 ⟨v, rfl, ho5, hb5⟩
          have HB5 := hide (on_below HB4.out hb5)
          have HO5 := hide (ho5.downS HB4.out.size)
          clear c0 c1 c2 c3
          obtain ⟨c0, c1, c2, c3⟩ := (HG4.out.on hb5).four
          clear ho5 hb5
          obtain ⟨va, vc, rfl⟩ := HO5.out.slice
          generalize bs.length = bl at *
          go_wp2
          go_ret2
          exact ⟨_, rfl, Own.nil _ _, HB5.out⟩
      · have hbad : fE rs (bA (smP h l i)) = 121 := by
          unfold fE at h2 ⊢
          rw [if_pos hnm] at h2 ⊢
          split
          · rename_i hp; rw [if_pos hp] at h2; exact absurd rfl h2
          · rfl
        refine ⟨121, [], .inr (.inl ⟨rfl, hk, fun hf => h2 hf.2.1, rfl⟩), fun d s D w hd ht => ?_⟩
        have hRD : ∀ (W : World), DkAt W d s rs D → Calls Tryd.prog 29 #[.pointer (some ⟨d, 0, none⟩), .string (bA (smP h l i)), .int .i64 0, .int .i64 (n * 32)] W fun e w' => ∃ v, e = .returned (.tuple #[v, .int .i64 121]) ∧ Own w' W.heap.size v [] ∧ Below W.heap.size W w' := fun W hW => by
          have e1 : rqE rs (bA (smP h l i)) 0 (n * 32) = 121 := by unfold rqE; rw [if_neg (by rw [hbad]; decide), hbad]
          have e2 : rqB rs (bA (smP h l i)) 0 (n * 32) = [] := by unfold rqB; rw [if_neg (by rw [e1]; decide)]
          have := read_any d s rs D W hW (bA (smP h l i)) 0 (n * 32) hwt
          rw [e1, e2] at this
          exact this
        have HRD := hide hRD
        have HNM := hide hNM
        have HD := hide hd
        have HT := hide ht
        have HMD := hide (fun W hW => madeS_any d s rs D W hW)
        generalize bA (smP h l i) = nm at *
        clear hd ht hq hk h1 h2 hRD hNM hnm hwt hbad
        go_enter Tryd.func13, Tryd.ntmps13
        go_wp2_with (first | (refine step_box (cs := c4 h l i n) rfl rfl ?_; intro w1 g1 hg1 hle1 hb1; have HG1 := hide hg1; have HB1 := hide hb1; clear hg1 hle1 hb1) | (go_at_call 27; refine (HMD.out _ (HD.out.below HB1.out)).mono ?_; rintro r w2 ⟨rfl, rfl⟩) | (refine step_loadA wT rfl rfl HG1.out rfl ?_))
        refine (HV.out _).mono ?_
        rintro r w3 ⟨rfl, hb3⟩
        have HB3 := hide (on_below HB1.out hb3)
        have HG3 := hide (HG1.out.on hb3)
        obtain ⟨c0, c1, c2, c3⟩ := HG3.out.four
        clear hb3
        go_wp2_with fail
        refine (HNM.out _ (HT.out.below HB3.out)).mono ?_
        rintro r w4 ⟨rfl, hb4⟩
        have HB4 := hide (on_below HB3.out hb4)
        have HG4 := hide (HG3.out.on hb4)
        clear c0 c1 c2 c3
        obtain ⟨c0, c1, c2, c3⟩ := HG4.out.four
        clear hb4
        go_wp2_with fail
        refine (HRD.out _ (HD.out.below HB4.out)).mono ?_
        rintro r w5 ⟨v, rfl, ho5, hb5⟩
        have HB5 := hide (on_below HB4.out hb5)
        have HO5 := hide (ho5.downS HB4.out.size)
        clear c0 c1 c2 c3
        obtain ⟨c0, c1, c2, c3⟩ := (HG4.out.on hb5).four
        clear ho5 hb5
        go_wp2
        go_ret2
        exact ⟨_, rfl, Own.nil _ _, HB5.out⟩
    · have h1' : smE h l i = 2 := by rcases smE_bin h l i with h | h; exact absurd h h1; exact h
      refine ⟨121, [], .inr (.inl ⟨rfl, hk, fun hf => h1 hf.1, rfl⟩), fun d s D w hd ht => ?_⟩
      rw [h1'] at hNM
      have HNM := hide hNM
      have HD := hide hd
      have HT := hide ht
      have HMD := hide (fun W hW => madeS_any d s rs D W hW)
      generalize bA (smP h l i) = nm at *
      clear hd ht hq hk h1 h1' hNM hwt
      go_enter Tryd.func13, Tryd.ntmps13
      go_wp2_with (first | (refine step_box (cs := c4 h l i n) rfl rfl ?_; intro w1 g1 hg1 hle1 hb1; have HG1 := hide hg1; have HB1 := hide hb1; clear hg1 hle1 hb1) | (go_at_call 27; refine (HMD.out _ (HD.out.below HB1.out)).mono ?_; rintro r w2 ⟨rfl, rfl⟩) | (refine step_loadA wT rfl rfl HG1.out rfl ?_))
      refine (HV.out _).mono ?_
      rintro r w3 ⟨rfl, hb3⟩
      have HB3 := hide (on_below HB1.out hb3)
      have HG3 := hide (HG1.out.on hb3)
      obtain ⟨c0, c1, c2, c3⟩ := HG3.out.four
      clear hb3
      go_wp2_with fail
      refine (HNM.out _ (HT.out.below HB3.out)).mono ?_
      rintro r w4 ⟨rfl, hb4⟩
      have HB4 := hide (on_below HB3.out hb4)
      have HG4 := hide (HG3.out.on hb4)
      clear c0 c1 c2 c3
      obtain ⟨c0, c1, c2, c3⟩ := HG4.out.four
      clear hb4
      go_wp2
      go_ret2
      exact ⟨_, rfl, Own.nil _ _, HB4.out⟩

end Go.Proofs.YtlgcjdgcgnlcaaaDoor

/-
  The walk of ShelfBack.
-/
namespace Go.Proofs.YtlgcjdgcgnlcaaaDoor
open Go.RowKit Go.Shelf
set_option linter.unusedVariables false
set_option linter.unusedSimpArgs false
set_option maxRecDepth 100000

section
variable {dst : Option Tmp} {ty : TypeId} {pos : String} {aft : Array Edge} {gd : Option (Nat × Bool)} {ops : Array Oper} {rest : List Oper} {a : Act} {w : World} {Q : Exit → Act → World → Prop}
theorem step_buildT3 {x z u : Operand} {h i n : Int} (hw : Region.wanted ⟨dst, .build 45 #[(0, x), (2, z), (3, u)], ty, pos, aft, gd⟩ (yielded ops a.tmps) = true) (hx : a.eval x = .int .i64 h) (hz : a.eval z = .int .i64 i) (hu : a.eval u = .int .i64 n)
    (k : wpList Tryd.prog ops Q rest (a.put dst (.agg (c4 h 0 i n).toArray)) w) : wpList Tryd.prog ops Q (⟨dst, .build 45 #[(0, x), (2, z), (3, u)], ty, pos, aft, gd⟩ :: rest) a w :=
  step_run hw _ w (run_op (M := Instr.build 45 #[(0, .int .i64 h), (2, .int .i64 i), (3, .int .i64 n)]) (by simp [execOp, hx, hz, hu]) (by kernel_rfl)) k
end
/-- What stands in the law's loop: its variables. -/
structure ZB (w W : World) (b4 b6 b8 : Nat) (v : Value) (k : Nat) : Prop where
  c4 : Blk W b4 29 [v]
  c6 : Blk W b6 4 [.bool false]
  c8 : Blk W b8 3 [.int .i64 (k : Int)]
  n8 : w.heap.size ≤ b8 ∧ b8 ≠ b4 ∧ b8 ≠ b6
  n6 : w.heap.size ≤ b6
  bel : Below w.heap.size w W
section
variable {w W W' : World} {b4 b6 b8 : Nat} {v : Value} {k : Nat}
theorem ZB.ck (h : ZB w W b4 b6 b8 v k) (hk : CK W W') (hb : Below w.heap.size w W') : ZB w W' b4 b6 b8 v k := ⟨h.c4.ck hk, h.c6.ck hk, h.c8.ck hk, h.n8, h.n6, hb⟩
theorem ZB.on (h : ZB w W b4 b6 b8 v k) (hb : Below W.heap.size W W') : ZB w W' b4 b6 b8 v k := h.ck (CK.below hb) (on_below h.bel hb)
end
set_option maxHeartbeats 4000000 in
theorem back_walk (h : Int) (a : Option Addr) (len cap : Nat) (xs : List Int) (i : Int) (w : World) (hs : Ds w a len cap xs) (hlen : len ≤ 1048576) (ht : PT w) :
    Calls Tryd.prog 4 #[.int .i64 h, .slice a len cap, .int .i64 i] w fun e w' => e = .returned (.bool true) ∧ Below w.heap.size w w' := by
  obtain ⟨H, hh, hH⟩ := height_any h
  have HHT := hide hH
  have HDS := hide hs
  have HT := hide ht
  have HHH := hide hh
  have hH8 : (H : Int) ≤ 8 := by have := hh.2; omega
  have hxl := hs.hlen
  have hxb2 := hs.hbyte
  have HXB := hide hxb2
  have HFI := hide (fun W h1 h2 => filled_17 H a len cap xs W h1 hh hlen h2)
  have hdb := (dl_db hxl hxb2 (Nat.le_refl len)).rev
  obtain ⟨k1, k2, k3⟩ := rsR_is (s := 17) (by decide) hh (dl xs len).reverse hdb (by rw [List.length_reverse, dl_len]; omega)
  rw [List.reverse_reverse] at k2
  rw [List.length_reverse, dl_len] at k3
  have h32 : D32 (dl xs len) := fun y hy => (dl_db hxl hxb2 (Nat.le_refl len) y hy).1
  have hcn := k2.cn hh h32 (by rw [dl_len]; omega)
  rw [dl_len] at hcn
  have HCN := hide hcn
  have HDG : Hid (∀ j, j < len → dg (play (rsR 17 H (dl xs len).reverse)) H 0 j = dat xs j) := hide (fun j hj => by rw [k2.dg h32 (by rw [dl_len]; exact hj), dl_get xs hj])
  have HFS := hide k2
  obtain ⟨rs, HRS⟩ : ∃ rs, Hid (rsR 17 H (dl xs len).reverse = rs) := ⟨_, hide rfl⟩
  rw [HRS.out] at HCN HDG HFS k3
  have HWT := hide k3
  have hq0 : tFB H 0 0 = true := tFB_in hh (m := 0) (by simp) (by omega)
  have HQ0 := hide hq0
  clear hH hs ht hxl hxb2 hdb k1 k2 k3 h32 hcn hq0
  refine (callsIn_wide (n := 5)).1 ?_
  refine callsIn_of_wp_marks Tryd.func4 rfl trivial ?_ rfl
  refine wpIn_wide.2 ?_
  simp only [Tryd.ntmps4, List.size_toArray, List.length_cons, List.length_nil, Nat.reduceAdd, Nat.reduceSub, Array.replicate_succ, Array.replicate_zero, List.push_toArray, List.append_toArray, List.nil_append, List.cons_append]
  go_wp2_with (go_at_call 9; refine (HHT.out _).mono ?_; rintro r w2 ⟨rfl, rfl⟩)
  have B4 : Blk (w.alloc (.cells #[.slice a len cap] 29)) w.heap.size 29 [.slice a len cap] := Blk.made _ _ _
  have hb4 : Below w.heap.size w (w.alloc (.cells #[.slice a len cap] 29)) := (Below.refl _ _).alloc (Nat.le_refl _) _
  have z4 : (w.alloc (.cells #[.slice a len cap] 29)).heap.size = w.heap.size + 1 := World.size_alloc _ _
  rw [← z4]
  generalize w.alloc (.cells #[.slice a len cap] 29) = V4 at *
  have B6 : Blk (V4.alloc (.cells #[.bool false] 4)) V4.heap.size 4 [.bool false] := Blk.made _ _ _
  have hb6 : Below V4.heap.size V4 (V4.alloc (.cells #[.bool false] 4)) := (Below.refl _ _).alloc (Nat.le_refl _) _
  have HC4 := hide (B4.on hb6)
  have HB6 := hide (on_below hb4 hb6)
  have hs4 : w.heap.size < V4.heap.size := by omega
  generalize V4.alloc (.cells #[.bool false] 4) = V6 at *
  generalize V4.heap.size = b6 at *
  generalize hb4e : w.heap.size = b4 at *
  have HC6 := hide B6
  clear B4 hb4 z4 B6 hb6
  refine (HFI.out _ (HDS.out.below (by rw [← hb4e] at HB6; exact HB6.out)) (HT.out.below (by rw [← hb4e] at HB6; exact HB6.out))).mono ?_
  rintro r w3 ⟨d, D, rfl, hdk, hb3, ho3⟩
  rw [HRS.out] at hdk
  have HD3 := hide hdk
  have HC43 := hide (HC4.out.on hb3)
  have HC63 := hide (HC6.out.on hb3)
  have HB3 : Hid (Below b4 w w3) := hide (by have := on_below (by rw [hb4e]; exact HB6.out) hb3; rwa [hb4e] at this)
  clear hdk hb3 ho3 HC4 HC6 HB6
  go_wp2_with fail
  have B8 : Blk (w3.alloc (.cells #[.int .i64 0] 3)) w3.heap.size 3 [.int .i64 0] := Blk.made _ _ _
  have hb8 : Below w3.heap.size w3 (w3.alloc (.cells #[.int .i64 0] 3)) := (Below.refl _ _).alloc (Nat.le_refl _) _
  have h3s := HB3.out.size
  have Z8 : Hid (ZB w (w3.alloc (.cells #[.int .i64 0] 3)) b4 b6 w3.heap.size (.slice a len cap) 0) := hide ⟨HC43.out.on hb8, HC63.out.on hb8, B8, ⟨by have := HC43.out.lt; omega, by have := HC43.out.lt; omega, by have := HC63.out.lt; omega⟩, by omega, by rw [hb4e]; exact HB3.out.trans (hb8.mono (by rw [← hb4e]; exact h3s))⟩
  have D8 := hide (HD3.out.below hb8)
  have HN8 : Hid (∀ k, D.own d k ∨ D.ro k → k ≠ w3.heap.size) := hide (fun k hk => by have := HD3.out.lt hk; omega)
  have HN9 : Hid (0 ≠ w3.heap.size) := hide (by have := HT.out.lt; omega)
  clear B8 hb8 HC43 HC63 HB3 HD3
  revert Z8 D8
  generalize w3.alloc (.cells #[.int .i64 0] 3) = w8
  generalize w3.heap.size = b8 at *
  intro Z8 D8
  refine (all_mk _ _ _ _).mono ?_
  rintro r w9 ⟨gd0, gh0, gl0, rfl, _, _, _, _, _, _, hb9⟩
  have Z9 := hide (Z8.out.on hb9)
  have D9 := hide (D8.out.below hb9)
  clear hb9 Z8 D8
  have heq : ∀ v : World, (binOp BinOp.eql 34 (.func (.func 23) #[] #[.pointer (some ⟨gd0, 0, none⟩), .pointer (some ⟨gh0, 0, none⟩), .pointer (some ⟨gl0, 0, none⟩)]) .nilFunc).run Tryd.prog v = .ok (.bool false) v := fun v => by kernel_rfl
  go_wp2_with fail
  refine (all_mk _ _ _ _).mono ?_
  rintro r w10 ⟨gd, gh, gl, rfl, BD, BH, BL, _, _, _, hb10⟩
  have Z10 := hide (Z9.out.on hb10)
  have HP10 : Hid (PAt w10 d 17 rs D gd gh gl H 0) := hide ⟨D9.out.below hb10, HT.out.below (Z9.out.on hb10).bel, BD, BH, BL⟩
  clear hb10 Z9 D9 heq BD BH BL
  have HSQ := hide (all_seq d 17 rs D gd gh gl H 0 len w10 HP10.out HQ0.out HCN.out (by have := HWT.out; omega))
  have hws : w.heap.size ≤ w10.heap.size := Z10.out.bel.size
  go_wp2_with fail
  refine (wpIn_wide (n := 5)).1 ?_
  refine rangeB rfl (by decide) (gf := 23) (lb := #[.pointer (some ⟨gd, 0, none⟩), .pointer (some ⟨gh, 0, none⟩), .pointer (some ⟨gl, 0, none⟩)]) rfl trivial (enters_of Tryd.func23 (by kernel_rfl) rfl)
    HSQ.out KD.trans (fun x V l o o' hl h hc => KD.book V l o o' h hc) (fun x A C h => KD.below h) (fun _ => rfl) (fun pre x V0 => ra_own _ _ _ _ _ pre x V0)
    (fun pre V => ZB w V b4 b6 b8 (.slice a len cap) pre.length ∧ DkAt V d 17 rs D ∧ PT V) (fun _ _ _ => False)
    (fun _ A C row h hg hr => ⟨h.1.ck (CK.of_grown hg (fun r e => (hr r e).2)) (h.1.bel.grown hg h.1.bel.size (fun r e => by have := (hr r e).1; omega)), h.2.1.same (fun k hk => hg.block k (h.2.1.lt hk) (fun e => by have h1 := (hr k e.symm).1; have h2 := HP10.out.dk.lt hk; omega)), h.2.2.sameS (hg.block _ h.2.2.lt (fun e => by have h1 := (hr _ e.symm).1; have h2 := HP10.out.pt.lt; omega))⟩)
    (fun c _ A C row h hg hr => h) ⟨Z10.out, HP10.out.dk, HP10.out.pt⟩ ?act (fun x g V => Blk V g 37 (u8s x.2)) (fun x g V l r o' hl hx => by
      unfold Blk
      rw [World.putObj_heap_other (fun e => by
        rw [e] at hx
        unfold Blk at hx
        rw [hl] at hx
        cases hx)]
      exact hx) ?assign ?body ?done ?stop
  case assign =>
    rintro l x V K ⟨pre, V0, h1, h2, h3⟩ hK
    have hsem := Oper.semAt_some
    have hxl : x.2.length = 32 := by rw [h3]; exact dg_len (HCN.out.1 _ h1)
    have HUL : Hid ((u8s x.2).length = 32) := hide (by rw [u8s_length, hxl])
    simp only [encA]
    clear h1 h2 h3 hxl
    gi_wp2_with (refine istep_alloc (.round l) zDs rfl ?_)
    intro V1 g9 hg9 hle9 hb9
    gi_wp2_with (refine istep_storeA (.round l) wDs rfl rfl rfl hg9 HUL.out (One.u8 _) (by rw [u8s_length, zer_length]) ?_)
    intro V2 hg92 hbut9
    have hb92 : Below V.heap.size V V2 := hb9.trans (hbut9.below hle9)
    have hK2 := hK g9 V2 hb92 hle9 hg92
    clear hK
    gi_wp2
    exact hK2
  case stop =>
    rintro D0 c pre V hD hSp h hK
    exact h.elim
  case body =>
    rintro l pre ⟨xi, xv⟩ gx V0 V hgx hbx _ hck hsz ⟨hz, hdk, hpt⟩ ⟨h1, h2, h3⟩
    have hsem := Oper.semAt_some
    obtain ⟨j, HJ⟩ : ∃ j, Hid (pre.length = j) := ⟨_, hide rfl⟩
    rw [HJ.out] at h1 h3 hz
    obtain ⟨e1, e2⟩ := Prod.mk.inj h3
    rw [HDG.out j h1] at e2
    subst e1 e2
    have hds := HDS.out.below hz.bel
    obtain ⟨bb, o, rfl⟩ := hds.place (by omega)
    have hix := d_at bb o len cap j (j : Int) rfl h1
    have HUL : Hid ((u8s (dat xs j)).length = 32) := hide (by rw [u8s_length, dat_length HDS.out.hlen h1])
    have HDL : Hid ((dat xs j).length = 32) := hide (dat_length HDS.out.hlen h1)
    have HRG : Hid (∀ v : World, Below V.heap.size V v → v.rangeAt bb (o + 32 * j) (u8s (dat xs j))) := hide (fun v hv => (hds.below hv).range j h1)
    have HRX : Hid (∀ v : World, Below V.heap.size V v → v.rangeAt gx 0 (u8s (dat xs j))) := hide (fun v hv => by have hb : Blk V gx 37 (u8s (dat xs j)) := hbx; exact (hb.on hv).range 0 _ (by simp))
    have HI1 : Hid ((Tryd.prog.info? 37).map (·.size) = some (u8s (dat xs j)).length) := hide (by rw [wDs.size, HUL.out])
    have HP1 : Hid ((pre ++ [((j : Int), dat xs j)]).length = j + 1) := hide (by rw [List.length_append, HJ.out]; rfl)
    have HZ := hide hz
    have HDKV := hide hdk
    have HPTV := hide hpt
    clear hdk hpt
    have hge : ¬ (len : Int) ≤ (j : Int) := by omega
    have hge2 : ¬ len ≤ j := by omega
    generalize dat xs j = y at *
    clear hds hz h2 h3 hck hsz hbx
    gi_wp2_with fail
    refine wpIn_region_held (S := fun v => Below V.heap.size V v) (WideF.round l) (by kernel_rfl) (by kernel_rfl) (Below.refl V.heap.size V).drew (fun hHeld => ?_)
    refine takeH 0 31 (.int .i64 (j : Int)) hHeld rfl rfl (by kernel_rfl) (by kernel_rfl) (by kernel_rfl) (fun _ _ _ h => h) (Or.inl ⟨by rfl, fun w _ => by go_simp⟩) ?_
    simp only [Act.put, List.setIfInBounds_toArray, List.set_cons_zero, List.set_cons_succ]
    refine takeH 1 32 (.int .i64 (j : Int)) hHeld rfl rfl (by kernel_rfl) (by kernel_rfl) (by kernel_rfl) (fun _ _ _ h => h) (Or.inl ⟨by rfl, fun w hw => by have hw' : w.cell? ⟨b8, 0, none⟩ = some (.int .i64 (j : Int)) := (fun hw => by rw [((HZ.out.on hw).c8).cell]; rfl) hw; go_simp⟩) ?_
    simp only [Act.put, List.setIfInBounds_toArray, List.set_cons_zero, List.set_cons_succ]
    refine takeH 2 33 (.bool false) hHeld rfl rfl (by kernel_rfl) (by kernel_rfl) (by kernel_rfl) (fun _ _ _ h => h) (Or.inl ⟨by rfl, fun w _ => by go_simp⟩) ?_
    simp only [Act.put, List.setIfInBounds_toArray, List.set_cons_zero, List.set_cons_succ]
    refine takeH 3 34 (.bool false) hHeld rfl rfl (by kernel_rfl) (by kernel_rfl) (by kernel_rfl) (fun _ _ _ h => h) (Or.inl ⟨by rfl, fun w _ => by go_simp⟩) ?_
    simp only [Act.put, List.setIfInBounds_toArray, List.set_cons_zero, List.set_cons_succ]
    refine takeH 4 35 (.int .i64 (j : Int)) hHeld rfl rfl (by kernel_rfl) (by kernel_rfl) (by kernel_rfl) (fun _ _ _ h => h) (Or.inl ⟨by rfl, fun w hw => by have hw' : w.cell? ⟨b8, 0, none⟩ = some (.int .i64 (j : Int)) := (fun hw => by rw [((HZ.out.on hw).c8).cell]; rfl) hw; go_simp⟩) ?_
    simp only [Act.put, List.setIfInBounds_toArray, List.set_cons_zero, List.set_cons_succ]
    refine takeH 5 36 (.slice (some ⟨bb, o, none⟩) len cap) hHeld rfl rfl (by kernel_rfl) (by kernel_rfl) (by kernel_rfl) (fun _ _ _ h => h) (Or.inl ⟨by rfl, fun w hw => by have hw' : w.cell? ⟨b4, 0, none⟩ = some (.slice (some ⟨bb, o, none⟩) len cap) := (fun hw => by rw [((HZ.out.on hw).c4).cell]; rfl) hw; go_simp⟩) ?_
    simp only [Act.put, List.setIfInBounds_toArray, List.set_cons_zero, List.set_cons_succ]
    refine takeH 6 37 (.int .i64 (len : Int)) hHeld rfl rfl (by kernel_rfl) (by kernel_rfl) (by kernel_rfl) (fun _ _ _ h => h) (Or.inl ⟨by rfl, fun w _ => by go_simp⟩) ?_
    simp only [Act.put, List.setIfInBounds_toArray, List.set_cons_zero, List.set_cons_succ]
    refine takeH 7 38 (.bool false) hHeld rfl rfl (by kernel_rfl) (by kernel_rfl) (by kernel_rfl) (fun _ _ _ h => h) (Or.inl ⟨by rfl, fun w _ => by go_simp⟩) ?_
    simp only [Act.put, List.setIfInBounds_toArray, List.set_cons_zero, List.set_cons_succ]
    refine takeH 8 39 (.bool false) hHeld rfl rfl (by kernel_rfl) (by kernel_rfl) (by kernel_rfl) (fun _ _ _ h => h) (Or.inl ⟨by rfl, fun w _ => by go_simp⟩) ?_
    simp only [Act.put, List.setIfInBounds_toArray, List.set_cons_zero, List.set_cons_succ]
    refine takeH 9 40 (.bool false) hHeld rfl rfl (by kernel_rfl) (by kernel_rfl) (by kernel_rfl) (fun _ _ _ h => h) (Or.inl ⟨by rfl, fun w _ => by go_simp⟩) ?_
    simp only [Act.put, List.setIfInBounds_toArray, List.set_cons_zero, List.set_cons_succ]
    refine takeH 10 41 (.agg (u8s y).toArray) hHeld rfl rfl (by kernel_rfl) (by kernel_rfl) (by kernel_rfl) (fun _ _ _ h => h) (yieldsIf_load_mid (by rfl) _ _ rfl gx 0 rfl _ _ (fun w h => HRX.out w h) Tryd.underlying37 rfl HI1.out) ?_
    simp only [Act.put, List.setIfInBounds_toArray, List.set_cons_zero, List.set_cons_succ]
    refine takeH 11 42 (.slice (some ⟨bb, o, none⟩) len cap) hHeld rfl rfl (by kernel_rfl) (by kernel_rfl) (by kernel_rfl) (fun _ _ _ h => h) (Or.inl ⟨by rfl, fun w hw => by have hw' : w.cell? ⟨b4, 0, none⟩ = some (.slice (some ⟨bb, o, none⟩) len cap) := (fun hw => by rw [((HZ.out.on hw).c4).cell]; rfl) hw; go_simp⟩) ?_
    simp only [Act.put, List.setIfInBounds_toArray, List.set_cons_zero, List.set_cons_succ]
    refine takeH 12 43 (.int .i64 (j : Int)) hHeld rfl rfl (by kernel_rfl) (by kernel_rfl) (by kernel_rfl) (fun _ _ _ h => h) (Or.inl ⟨by rfl, fun w hw => by have hw' : w.cell? ⟨b8, 0, none⟩ = some (.int .i64 (j : Int)) := (fun hw => by rw [((HZ.out.on hw).c8).cell]; rfl) hw; go_simp⟩) ?_
    simp only [Act.put, List.setIfInBounds_toArray, List.set_cons_zero, List.set_cons_succ]
    refine takeH 13 44 (.pointer (some ⟨bb, o + 32 * j, none⟩)) hHeld rfl rfl (by kernel_rfl) (by kernel_rfl) (by kernel_rfl) (fun _ _ _ h => h) (Or.inl ⟨by rfl, fun w _ => run_op rfl (hix w)⟩) ?_
    simp only [Act.put, List.setIfInBounds_toArray, List.set_cons_zero, List.set_cons_succ]
    refine takeH 14 45 (.agg (u8s y).toArray) hHeld rfl rfl (by kernel_rfl) (by kernel_rfl) (by kernel_rfl) (fun _ _ _ h => h) (yieldsIf_load_mid (by rfl) _ _ rfl bb (o + 32 * j) rfl _ _ (fun w h => HRG.out w h) Tryd.underlying37 rfl HI1.out) ?_
    simp only [Act.put, List.setIfInBounds_toArray, List.set_cons_zero, List.set_cons_succ]
    refine takeH 15 46 (.bool false) hHeld rfl rfl (by kernel_rfl) (by kernel_rfl) (by kernel_rfl) (fun _ _ _ h => h) (Or.inl ⟨by rfl, fun w _ => (run_neA aD _ rfl rfl HDL.out HDL.out).trans (by simp)⟩) ?_
    simp only [Act.put, List.setIfInBounds_toArray, List.set_cons_zero, List.set_cons_succ]
    refine takeH 16 47 (.bool false) hHeld rfl rfl (by kernel_rfl) (by kernel_rfl) (by kernel_rfl) (fun _ _ _ h => h) (Or.inl ⟨by rfl, fun w _ => by go_simp⟩) ?_
    simp only [Act.put, List.setIfInBounds_toArray, List.set_cons_zero, List.set_cons_succ]
    refine wpAnyH_done (by kernel_rfl) ?_ _
    refine Only.normal ?_
    obtain ⟨Vd, hVd⟩ : ∃ v, V.drew = v := ⟨_, rfl⟩
    rw [hVd] at hHeld ⊢
    clear hVd
    have HZd := hide (HZ.out.on hHeld)
    have HKd := hide (KD.below hHeld)
    have HDKd := hide (HDKV.out.below hHeld)
    have HPTd := hide (HPTV.out.below hHeld)
    have HOd := hide (keepsO_below hHeld)
    have d8 : Vd.cell? ⟨b8, 0, none⟩ = some (.int .i64 (j : Int)) := by rw [HZd.out.c8.cell]; rfl
    have f8 := HZd.out.c8.free 0
    clear hHeld hix hge hge2
    gi_wp2
    have hbut := But.setCell Vd b8 0 (.int .i64 ((j + 1 : Nat) : Int))
    refine ⟨(HOd.out.trans (keepsO_but hbut HZd.out.c8)).from _, HKd.out.trans ⟨Nat.le_of_eq hbut.size.symm, fun k cs hk => hk.but hbut (hk.apart HZd.out.c8 (by decide))⟩, ?_⟩
    refine ⟨?_, HDKd.out.same (fun k hk => hbut.block k (HN8.out k hk)), HPTd.out.sameS (hbut.block _ HN9.out)⟩
    show ZB w _ b4 b6 b8 _ (pre ++ [((j : Int), y)]).length
    rw [HP1.out]
    exact ⟨HZd.out.c4.but hbut (fun e => HZd.out.n8.2.1 e.symm), HZd.out.c6.but hbut (fun e => HZd.out.n8.2.2 e.symm), HZd.out.c8.set 0 _, HZd.out.n8, HZd.out.n6, HZd.out.bel.trans (hbut.below HZd.out.n8.1)⟩
  case done =>
    rintro Dk ys V hD hS ⟨hz, hdk, hpt⟩ hK2
    subst hS
    rw [als_len] at hz
    have HZ := hide hz
    have HDK := hide hK2
    have hDk : w.heap.size ≤ Dk := by omega
    clear hz hK2 hD
    have d8 : V.cell? ⟨b8, 0, none⟩ = some (.int .i64 (len : Int)) := by rw [HZ.out.c8.cell]; rfl
    have d4 : V.cell? ⟨b4, 0, none⟩ = some (.slice a len cap) := by rw [HZ.out.c4.cell]; rfl
    go_wp2_with fail
    refine (count_ok d 17 rs D V hdk H 0 len HQ0.out HCN.out hpt (by have := HWT.out; omega)).mono ?_
    rintro r V1 ⟨rfl, hb1⟩
    have HZ1 := hide (HZ.out.on hb1)
    have HD1 := hide (hdk.below hb1)
    have HT1 := hide (hpt.below hb1)
    have HDK1 : Hid (V1.heap[Dk]? = some (.deferred (some []))) := hide ((hb1.block Dk (Array.getElem?_eq_some_iff.1 HDK.out).1).trans HDK.out)
    clear hb1 hdk hpt HZ HDK d8 d4
    have d8 : V1.cell? ⟨b8, 0, none⟩ = some (.int .i64 (len : Int)) := by rw [HZ1.out.c8.cell]; rfl
    have d4 : V1.cell? ⟨b4, 0, none⟩ = some (.slice a len cap) := by rw [HZ1.out.c4.cell]; rfl
    have f6 := HZ1.out.c6.free 0
    have d6 : V1.cell? ⟨b6, 0, none⟩ = some (.bool false) := by rw [HZ1.out.c6.cell]; rfl
    by_cases h0 : len = 0
    · have h0i : (len : Int) = 0 := by omega
      go_wp2
      have hbut := But.setCell V1 b6 0 (.bool true)
      have hdk2 : (V1.setCell ⟨b6, 0, none⟩ (.bool true)).heap[Dk]? = some (.deferred (some [])) := (hbut.block Dk (fun e => by
        have h1 := HDK1.out
        rw [e] at h1
        have h2 := HZ1.out.c6
        unfold Blk at h2
        rw [h1] at h2
        cases h2)).trans HDK1.out
      refine ⟨by simp, .inl ⟨_, _, rfl, run_takeDeferred hdk2, ?_⟩⟩
      have hc6 : ((V1.setCell ⟨b6, 0, none⟩ (.bool true)).putObj Dk (.deferred none)).cell? ⟨b6, 0, none⟩ = some (.bool true) := by
        rw [(((HZ1.out.c6.set 0 (.bool true))).ck (CK.put (.deferred none) hdk2 rfl)).cell]
        rfl
      refine ⟨.bool true, by simp [results, Tryd.f4, go_sem, hc6], rfl, ?_⟩
      exact (HZ1.out.bel.trans (hbut.below HZ1.out.n6)).trans (belowK_b (w := w) (Nat.le_refl _) _ Dk _ (.deferred none) hDk hdk2 rfl rfl)
    · have hpos : ¬ (len : Int) = 0 := by omega
      have hlp : (0 : Int) < (len : Int) := by omega
      have hr1 := Int.tmod_lt_of_pos i hlp
      have hr2 := Int.lt_tmod_of_pos i hlp
      have hw1 : IntKind.i64.wrap (i.tmod (len : Int) + (len : Int)) = i.tmod (len : Int) + (len : Int) := wrap_in _ (by omega) (by omega)
      obtain ⟨j, hj1, hjl⟩ : ∃ j : Nat, (i.tmod (len : Int) + (len : Int)).tmod (len : Int) = (j : Int) ∧ j < len := by
        have h4 : 0 ≤ (i.tmod (len : Int) + (len : Int)).tmod (len : Int) := Int.tmod_nonneg _ (by omega)
        have h5 := Int.tmod_lt_of_pos (i.tmod (len : Int) + (len : Int)) hlp
        exact ⟨((i.tmod (len : Int) + (len : Int)).tmod (len : Int)).toNat, by omega, by omega⟩
      go_wp2_with fail
      refine (wpIn_wide (n := 5)).1 ?_
      refine wpIn_region_held (S := fun v => Below V1.heap.size V1 v) WideF.wide (by kernel_rfl) (by kernel_rfl) (Below.refl V1.heap.size V1).drew (fun hHeld => ?_)
      refine takeH 0 89 (.int .i64 i) hHeld rfl rfl (by kernel_rfl) (by kernel_rfl) (by kernel_rfl) (fun _ _ _ h => h) (Or.inl ⟨by rfl, fun w _ => by go_simp⟩) ?_
      simp only [Act.put, List.setIfInBounds_toArray, List.set_cons_zero, List.set_cons_succ]
      refine takeH 1 90 (.slice a len cap) hHeld rfl rfl (by kernel_rfl) (by kernel_rfl) (by kernel_rfl) (fun _ _ _ h => h) (Or.inl ⟨by rfl, fun w hw => by have hw' : w.cell? ⟨b4, 0, none⟩ = some (.slice a len cap) := (fun hw => by rw [((HZ1.out.on hw).c4).cell]; rfl) hw; go_simp⟩) ?_
      simp only [Act.put, List.setIfInBounds_toArray, List.set_cons_zero, List.set_cons_succ]
      refine takeH 2 91 (.int .i64 (len : Int)) hHeld rfl rfl (by kernel_rfl) (by kernel_rfl) (by kernel_rfl) (fun _ _ _ h => h) (Or.inl ⟨by rfl, fun w _ => by go_simp⟩) ?_
      simp only [Act.put, List.setIfInBounds_toArray, List.set_cons_zero, List.set_cons_succ]
      refine takeH 3 92 (.int .i64 (i.tmod (len : Int))) hHeld rfl rfl (by kernel_rfl) (by kernel_rfl) (by kernel_rfl) (fun _ _ _ h => h) (Or.inl ⟨by rfl, fun w _ => by go_simp⟩) ?_
      simp only [Act.put, List.setIfInBounds_toArray, List.set_cons_zero, List.set_cons_succ]
      refine takeH 4 93 (.slice a len cap) hHeld rfl rfl (by kernel_rfl) (by kernel_rfl) (by kernel_rfl) (fun _ _ _ h => h) (Or.inl ⟨by rfl, fun w hw => by have hw' : w.cell? ⟨b4, 0, none⟩ = some (.slice a len cap) := (fun hw => by rw [((HZ1.out.on hw).c4).cell]; rfl) hw; go_simp⟩) ?_
      simp only [Act.put, List.setIfInBounds_toArray, List.set_cons_zero, List.set_cons_succ]
      refine takeH 5 94 (.int .i64 (len : Int)) hHeld rfl rfl (by kernel_rfl) (by kernel_rfl) (by kernel_rfl) (fun _ _ _ h => h) (Or.inl ⟨by rfl, fun w _ => by go_simp⟩) ?_
      simp only [Act.put, List.setIfInBounds_toArray, List.set_cons_zero, List.set_cons_succ]
      refine takeH 6 95 (.int .i64 (i.tmod (len : Int) + (len : Int))) hHeld rfl rfl (by kernel_rfl) (by kernel_rfl) (by kernel_rfl) (fun _ _ _ h => h) (Or.inl ⟨by rfl, fun w _ => by go_simp⟩) ?_
      simp only [Act.put, List.setIfInBounds_toArray, List.set_cons_zero, List.set_cons_succ]
      refine takeH 7 96 (.slice a len cap) hHeld rfl rfl (by kernel_rfl) (by kernel_rfl) (by kernel_rfl) (fun _ _ _ h => h) (Or.inl ⟨by rfl, fun w hw => by have hw' : w.cell? ⟨b4, 0, none⟩ = some (.slice a len cap) := (fun hw => by rw [((HZ1.out.on hw).c4).cell]; rfl) hw; go_simp⟩) ?_
      simp only [Act.put, List.setIfInBounds_toArray, List.set_cons_zero, List.set_cons_succ]
      refine takeH 8 97 (.int .i64 (len : Int)) hHeld rfl rfl (by kernel_rfl) (by kernel_rfl) (by kernel_rfl) (fun _ _ _ h => h) (Or.inl ⟨by rfl, fun w _ => by go_simp⟩) ?_
      simp only [Act.put, List.setIfInBounds_toArray, List.set_cons_zero, List.set_cons_succ]
      refine takeH 9 98 (.int .i64 (j : Int)) hHeld rfl rfl (by kernel_rfl) (by kernel_rfl) (by kernel_rfl) (fun _ _ _ h => h) (Or.inl ⟨by rfl, fun w _ => by go_simp⟩) ?_
      simp only [Act.put, List.setIfInBounds_toArray, List.set_cons_zero, List.set_cons_succ]
      refine takeH 10 2 (.int .i64 (j : Int)) hHeld rfl rfl (by kernel_rfl) (by kernel_rfl) (by kernel_rfl) (fun _ _ _ h => h) (Or.inl ⟨by rfl, fun w _ => by go_simp⟩) ?_
      simp only [Act.put, List.setIfInBounds_toArray, List.set_cons_zero, List.set_cons_succ]
      refine wpAnyH_done (by kernel_rfl) ?_ _
      refine Only.normal ?_
      obtain ⟨V2, hV2⟩ : ∃ v, V1.drew = v := ⟨_, rfl⟩
      rw [hV2] at hHeld ⊢
      have HZ2 := hide (HZ1.out.on hHeld)
      have HD2 := hide (HD1.out.below hHeld)
      have HT2 := hide (HT1.out.below hHeld)
      have HDK2 : Hid (V2.heap[Dk]? = some (.deferred (some []))) := hide ((hHeld.block Dk (Array.getElem?_eq_some_iff.1 HDK1.out).1).trans HDK1.out)
      clear hV2 hHeld HZ1 HD1 HT1 HDK1 d8 d4 f6 d6 hw1 hj1 hr1 hr2
      have hP := HHH.out.pow
      obtain ⟨P, HPP⟩ : ∃ P, Hid (2 ^ H = P) := ⟨_, hide rfl⟩
      rw [HPP.out] at hP
      obtain ⟨hP1, hP2⟩ := hP
      obtain ⟨q, HQ⟩ : ∃ q, Hid (j / P = q) := ⟨_, hide rfl⟩
      obtain ⟨m, HM⟩ : ∃ m, Hid (j % P = m) := ⟨_, hide rfl⟩
      have hqm : q * P + m = j := by rw [← HQ.out, ← HM.out, Nat.mul_comm]; exact Nat.div_add_mod j P
      have hmP : m < P := by rw [← HM.out]; exact Nat.mod_lt _ (by omega)
      have hqj : q ≤ j := by rw [← HQ.out]; exact Nat.div_le_self j P
      have HWP := hide (wrap_pow HHH.out HPP.out)
      have hshr : (j : Int) / 2 ^ H = (q : Int) := by rw [← HQ.out, ← HPP.out, Int.natCast_ediv, Int.natCast_pow]; rfl
      have hrem : (j : Int).tmod (P : Int) = (m : Int) := by rw [← HM.out]; exact (Int.ofNat_tmod j P).symm
      -- what Read tells
      have hq1 : (q + 1) * P ≤ 2097152 := by rw [Nat.add_mul, Nat.one_mul]; omega
      have htF : tFB H 0 q = true := tFB_low HHH.out (by rw [HPP.out]; omega)
      have htok : tOK (H : Int) 0 (q : Int) ((m + 1 : Nat) : Int) := ⟨H, 0, q, m + 1, rfl, rfl, rfl, rfl, HHH.out, by omega, by have := (tFB_is htF).2; rw [HPP.out] at this; omega⟩
      have hsm : smE (H : Int) 0 (q : Int) = 0 := smE_low HHH.out (by rw [HPP.out]; omega)
      have hnm := smP_low H q
      have hqlt : q * 2 ^ H < (dl xs len).length := by rw [HPP.out, dl_len]; omega
      have h32 : D32 (dl xs len) := fun y hy => (dl_db HDS.out.hlen HXB.out (Nat.le_refl len) y hy).1
      have hfile := HFS.out.at' q hqlt
      have hflen := HFS.out.len h32 hqlt
      rw [HPP.out, dl_len] at hflen
      have hffl : fl (play rs) (sN H 0 q) = (((dl xs len).drop (q * 2 ^ H)).take (2 ^ H)).flatten := by simp [fl, hfile]
      have hfit : fitT rs (H : Int) 0 (q : Int) ((m + 1 : Nat) : Int) := ⟨hsm, by rw [hnm]; simp [fE, sN_nm htF, hfile], by rw [hnm, hflen]; omega⟩
      obtain ⟨e, bs, hrd, hcall⟩ := readT_any rs (H : Int) 0 (q : Int) ((m + 1 : Nat) : Int) (by decide) (by omega) (by have := HWT.out; omega)
      obtain ⟨rfl, hbs⟩ := hrd.uniq (.inr (.inr ⟨rfl, htok, hfit, rfl⟩))
      rw [hnm] at hbs
      have hblen : bs.length = (m + 1) * 32 := by rw [hbs, List.length_take, hflen]; omega
      have hlast : (bs.drop (32 * m)) = dat xs j := by
        have h1 := HDG.out j hjl
        unfold dg at h1
        rw [HPP.out, HQ.out, HM.out] at h1
        rw [hbs, ← h1, List.drop_take]
        congr 1
        · omega
        · rw [Nat.mul_comm]
      have hbB : isB bs := by rw [hbs]; exact (HD2.out.byB _).takeS _
      have HCALL := hide (hcall d 17 D)
      have HBL := hide hblen
      have HLA := hide hlast
      have HBB := hide hbB
      clear hrd hcall hbs hblen hlast hbB hfit hffl hflen hfile h32 hqlt hnm hsm htok htF hq1
      go_wp2_with (first | (rw [HWP.out]) | (refine step_buildT3 rfl rfl rfl rfl ?_))
      refine (HCALL.out _ HD2.out HT2.out).mono ?_
      rintro r V3 ⟨v, rfl, ho3, hb3⟩
      have HZ3 := hide (HZ2.out.on hb3)
      have HDK3 : Hid (V3.heap[Dk]? = some (.deferred (some []))) := hide ((hb3.block Dk (Array.getElem?_eq_some_iff.1 HDK2.out).1).trans HDK2.out)
      obtain ⟨va, vc, rfl, hs3⟩ := ho3.sl' HBB.out (by rw [HBL.out]; omega)
      rw [HBL.out] at hs3 ⊢
      have hcap := hs3.hcap
      obtain ⟨K, HKK⟩ : ∃ K, Hid ((m + 1) * 32 = K) := ⟨_, hide rfl⟩
      obtain ⟨Z, HZZ⟩ : ∃ Z, Hid (32 * m = Z) := ⟨_, hide rfl⟩
      have hKZ : Z + 32 = K := by rw [← HKK.out, ← HZZ.out]; omega
      have hK2 : K ≤ 8192 := by rw [← HKK.out]; omega
      have em : (32 : Int) * (m : Int) = (Z : Int) := by rw [← HZZ.out]; omega
      have el : (32 : Int) * ((m : Int) + 1) = (K : Int) := by rw [← HKK.out]; omega
      have el2 : ((m : Int) + 1) * 32 = (K : Int) := by rw [← HKK.out]; omega
      have wl : IntKind.i64.wrap ((m : Int) + 1) = (m : Int) + 1 := wrap_in _ (by omega) (by omega)
      have wk : IntKind.i64.wrap (K : Int) = (K : Int) := wrap_in _ (by omega) (by omega)
      have wz : IntKind.i64.wrap (Z : Int) = (Z : Int) := wrap_in _ (by omega) (by omega)
      rw [HKK.out] at hs3 hcap ⊢
      rw [HZZ.out] at HLA
      obtain ⟨a1, hfr, _, hfs⟩ := hs3.from' (k := Z) (by omega)
      have HSL := hide (hfs V3 hs3)
      have HFR := hide hfr
      have hds := HDS.out.below HZ3.out.bel
      obtain ⟨bb, o, rfl⟩ := hds.place (by omega)
      have hix := d_at bb o len cap j (j : Int) rfl hjl
      have HYL : Hid ((dat xs j).length = 32) := hide (dat_length hds.hlen hjl)
      have HYS : Hid (Sl V3 (some ⟨bb, o + 32 * j, none⟩) 32 32 (dat xs j)) := hide (by
        have h1 := (hds.drop j (by omega)).sl
        have h2 := h1.take 32 (by omega)
        have e1 : (xs.drop (32 * j)).take 32 = dat xs j := rfl
        rw [e1] at h2
        exact ⟨h2.hlen, Nat.le_refl _, by omega, by omega, h2.hbyte, (fun e => by cases e), h2.hcell⟩)
      have hsa : ∀ v : World, (Instr.sliceAt 37 (.pointer (some ⟨bb, o + 32 * j, none⟩)) none none none).run Tryd.prog v = .ok (.slice (some ⟨bb, o + 32 * j, none⟩) 32 32) v := fun v => by kernel_rfl
      have e32 : K - Z = 32 := by omega
      rw [e32] at HFR HSL
      rw [HLA.out] at HSL
      have d4 : V3.cell? ⟨b4, 0, none⟩ = some (.slice (some ⟨bb, o, none⟩) len cap) := by rw [HZ3.out.c4.cell]; rfl
      obtain ⟨X, HX⟩ : ∃ X, Hid (str (dat xs j) = X) := ⟨_, hide rfl⟩
      have HT1 : Hid (∀ v : World, Below V3.heap.size V3 v → (convert 41 9 (.slice a1 32 (vc - Z))).run Tryd.prog v = .ok (.string X) v) := hide (fun v hv => by rw [← HX.out]; exact toStr (HSL.out.below hv))
      have HT2 : Hid (∀ v : World, Below V3.heap.size V3 v → (convert 41 9 (.slice (some ⟨bb, o + 32 * j, none⟩) 32 32)).run Tryd.prog v = .ok (.string X) v) := hide (fun v hv => by rw [← HX.out]; exact toStr (HYS.out.below hv))
      have hself : (X.toList == X.toList) = true := by simp
      clear hb3 ho3 hs3 hfr hfs hds HCALL HBL HLA HBB HD2 HZ2 HDK2
      go_wp2_with fail
      refine (wpIn_wide (n := 5)).1 ?_
      refine wpIn_region_U (q := 23) (S := fun v : World => Below V3.heap.size V3 v) WideF.wide (by kernel_rfl) (by kernel_rfl) ?_
      have hHeld : Below V3.heap.size V3 V3.drew := (Below.refl V3.heap.size V3).drew
      obtain ⟨V4, hV4⟩ : ∃ v, V3.drew = v := ⟨_, rfl⟩
      rw [hV4] at hHeld ⊢
      clear hV4
      refine takeU 23 0 117 (.int .i64 0) hHeld rfl rfl (by kernel_rfl) (by kernel_rfl) (by kernel_rfl) (by kernel_rfl) (by kernel_rfl) (by kernel_rfl) (fun _ _ _ h => h) (Or.inl ⟨by rfl, fun w _ => by go_simp⟩) ?_
      simp only [Act.put, List.setIfInBounds_toArray, List.set_cons_zero, List.set_cons_succ]
      refine takeU 23 1 118 (.bool true) hHeld rfl rfl (by kernel_rfl) (by kernel_rfl) (by kernel_rfl) (by kernel_rfl) (by kernel_rfl) (by kernel_rfl) (fun _ _ _ h => h) (Or.inl ⟨by rfl, fun w _ => by go_simp⟩) ?_
      simp only [Act.put, List.setIfInBounds_toArray, List.set_cons_zero, List.set_cons_succ]
      refine takeU 23 2 119 (.bool true) hHeld rfl rfl (by kernel_rfl) (by kernel_rfl) (by kernel_rfl) (by kernel_rfl) (by kernel_rfl) (by kernel_rfl) (fun _ _ _ h => h) (Or.inl ⟨by rfl, fun w _ => by go_simp⟩) ?_
      simp only [Act.put, List.setIfInBounds_toArray, List.set_cons_zero, List.set_cons_succ]
      refine takeU 23 3 120 (.slice va K vc) hHeld rfl rfl (by kernel_rfl) (by kernel_rfl) (by kernel_rfl) (by kernel_rfl) (by kernel_rfl) (by kernel_rfl) (fun _ _ _ h => h) (Or.inl ⟨by rfl, fun w _ => by go_simp⟩) ?_
      simp only [Act.put, List.setIfInBounds_toArray, List.set_cons_zero, List.set_cons_succ]
      refine takeU 23 4 121 (.int .i64 (K : Int)) hHeld rfl rfl (by kernel_rfl) (by kernel_rfl) (by kernel_rfl) (by kernel_rfl) (by kernel_rfl) (by kernel_rfl) (fun _ _ _ h => h) (Or.inl ⟨by rfl, fun w _ => by go_simp⟩) ?_
      simp only [Act.put, List.setIfInBounds_toArray, List.set_cons_zero, List.set_cons_succ]
      refine takeU 23 5 122 (.int .i64 (m : Int)) hHeld rfl rfl (by kernel_rfl) (by kernel_rfl) (by kernel_rfl) (by kernel_rfl) (by kernel_rfl) (by kernel_rfl) (fun _ _ _ h => h) (Or.inl ⟨by rfl, fun w _ => by go_simp⟩) ?_
      simp only [Act.put, List.setIfInBounds_toArray, List.set_cons_zero, List.set_cons_succ]
      refine takeU 23 6 123 (.int .i64 ((m : Int) + 1)) hHeld rfl rfl (by kernel_rfl) (by kernel_rfl) (by kernel_rfl) (by kernel_rfl) (by kernel_rfl) (by kernel_rfl) (fun _ _ _ h => h) (Or.inl ⟨by rfl, fun w _ => by go_simp⟩) ?_
      simp only [Act.put, List.setIfInBounds_toArray, List.set_cons_zero, List.set_cons_succ]
      refine takeU 23 7 124 (.int .i64 (K : Int)) hHeld rfl rfl (by kernel_rfl) (by kernel_rfl) (by kernel_rfl) (by kernel_rfl) (by kernel_rfl) (by kernel_rfl) (fun _ _ _ h => h) (Or.inl ⟨by rfl, fun w _ => by go_simp⟩) ?_
      simp only [Act.put, List.setIfInBounds_toArray, List.set_cons_zero, List.set_cons_succ]
      refine takeU 23 8 125 (.bool true) hHeld rfl rfl (by kernel_rfl) (by kernel_rfl) (by kernel_rfl) (by kernel_rfl) (by kernel_rfl) (by kernel_rfl) (fun _ _ _ h => h) (Or.inl ⟨by rfl, fun w _ => by go_simp⟩) ?_
      simp only [Act.put, List.setIfInBounds_toArray, List.set_cons_zero, List.set_cons_succ]
      refine takeU 23 9 126 (.bool true) hHeld rfl rfl (by kernel_rfl) (by kernel_rfl) (by kernel_rfl) (by kernel_rfl) (by kernel_rfl) (by kernel_rfl) (fun _ _ _ h => h) (Or.inl ⟨by rfl, fun w _ => by go_simp⟩) ?_
      simp only [Act.put, List.setIfInBounds_toArray, List.set_cons_zero, List.set_cons_succ]
      refine takeU 23 10 127 (.bool true) hHeld rfl rfl (by kernel_rfl) (by kernel_rfl) (by kernel_rfl) (by kernel_rfl) (by kernel_rfl) (by kernel_rfl) (fun _ _ _ h => h) (Or.inl ⟨by rfl, fun w _ => by go_simp⟩) ?_
      simp only [Act.put, List.setIfInBounds_toArray, List.set_cons_zero, List.set_cons_succ]
      refine takeU 23 11 128 (.slice va K vc) hHeld rfl rfl (by kernel_rfl) (by kernel_rfl) (by kernel_rfl) (by kernel_rfl) (by kernel_rfl) (by kernel_rfl) (fun _ _ _ h => h) (Or.inl ⟨by rfl, fun w _ => by go_simp⟩) ?_
      simp only [Act.put, List.setIfInBounds_toArray, List.set_cons_zero, List.set_cons_succ]
      refine takeU 23 12 129 (.int .i64 (m : Int)) hHeld rfl rfl (by kernel_rfl) (by kernel_rfl) (by kernel_rfl) (by kernel_rfl) (by kernel_rfl) (by kernel_rfl) (fun _ _ _ h => h) (Or.inl ⟨by rfl, fun w _ => by go_simp⟩) ?_
      simp only [Act.put, List.setIfInBounds_toArray, List.set_cons_zero, List.set_cons_succ]
      refine takeU 23 13 130 (.int .i64 (Z : Int)) hHeld rfl rfl (by kernel_rfl) (by kernel_rfl) (by kernel_rfl) (by kernel_rfl) (by kernel_rfl) (by kernel_rfl) (fun _ _ _ h => h) (Or.inl ⟨by rfl, fun w _ => by go_simp⟩) ?_
      simp only [Act.put, List.setIfInBounds_toArray, List.set_cons_zero, List.set_cons_succ]
      refine takeU 23 14 131 (.slice a1 32 (vc - Z)) hHeld rfl rfl (by kernel_rfl) (by kernel_rfl) (by kernel_rfl) (by kernel_rfl) (by kernel_rfl) (by kernel_rfl) (fun _ _ _ h => h) (Or.inl ⟨by rfl, fun w _ => run_op rfl (HFR.out w)⟩) ?_
      simp only [Act.put, List.setIfInBounds_toArray, List.set_cons_zero, List.set_cons_succ]
      refine takeU 23 15 132 (.string X) hHeld rfl rfl (by kernel_rfl) (by kernel_rfl) (by kernel_rfl) (by kernel_rfl) (by kernel_rfl) (by kernel_rfl) (fun _ _ _ h => h) (Or.inl ⟨by rfl, fun w hw => run_op rfl (HT1.out w hw)⟩) ?_
      simp only [Act.put, List.setIfInBounds_toArray, List.set_cons_zero, List.set_cons_succ]
      refine takeU 23 16 133 (.slice (some ⟨bb, o, none⟩) len cap) hHeld rfl rfl (by kernel_rfl) (by kernel_rfl) (by kernel_rfl) (by kernel_rfl) (by kernel_rfl) (by kernel_rfl) (fun _ _ _ h => h) (Or.inl ⟨by rfl, fun w hw => by have hw' : w.cell? ⟨b4, 0, none⟩ = some (.slice (some ⟨bb, o, none⟩) len cap) := (fun hw => by rw [((HZ3.out.on hw).c4).cell]; rfl) hw; go_simp⟩) ?_
      simp only [Act.put, List.setIfInBounds_toArray, List.set_cons_zero, List.set_cons_succ]
      refine takeU 23 17 134 (.int .i64 (j : Int)) hHeld rfl rfl (by kernel_rfl) (by kernel_rfl) (by kernel_rfl) (by kernel_rfl) (by kernel_rfl) (by kernel_rfl) (fun _ _ _ h => h) (Or.inl ⟨by rfl, fun w _ => by go_simp⟩) ?_
      simp only [Act.put, List.setIfInBounds_toArray, List.set_cons_zero, List.set_cons_succ]
      refine takeU 23 18 135 (.pointer (some ⟨bb, o + 32 * j, none⟩)) hHeld rfl rfl (by kernel_rfl) (by kernel_rfl) (by kernel_rfl) (by kernel_rfl) (by kernel_rfl) (by kernel_rfl) (fun _ _ _ h => h) (Or.inl ⟨by rfl, fun w _ => run_op rfl (hix w)⟩) ?_
      simp only [Act.put, List.setIfInBounds_toArray, List.set_cons_zero, List.set_cons_succ]
      refine takeU 23 19 136 (.slice (some ⟨bb, o + 32 * j, none⟩) 32 32) hHeld rfl rfl (by kernel_rfl) (by kernel_rfl) (by kernel_rfl) (by kernel_rfl) (by kernel_rfl) (by kernel_rfl) (fun _ _ _ h => h) (Or.inl ⟨by rfl, fun w _ => run_op rfl (hsa w)⟩) ?_
      simp only [Act.put, List.setIfInBounds_toArray, List.set_cons_zero, List.set_cons_succ]
      refine takeU 23 20 137 (.string X) hHeld rfl rfl (by kernel_rfl) (by kernel_rfl) (by kernel_rfl) (by kernel_rfl) (by kernel_rfl) (by kernel_rfl) (fun _ _ _ h => h) (Or.inl ⟨by rfl, fun w hw => run_op rfl (HT2.out w hw)⟩) ?_
      simp only [Act.put, List.setIfInBounds_toArray, List.set_cons_zero, List.set_cons_succ]
      refine takeU 23 21 138 (.bool true) hHeld rfl rfl (by kernel_rfl) (by kernel_rfl) (by kernel_rfl) (by kernel_rfl) (by kernel_rfl) (by kernel_rfl) (fun _ _ _ h => h) (Or.inl ⟨by rfl, fun w _ => by go_simp⟩) ?_
      simp only [Act.put, List.setIfInBounds_toArray, List.set_cons_zero, List.set_cons_succ]
      refine takeU 23 22 139 (.bool true) hHeld rfl rfl (by kernel_rfl) (by kernel_rfl) (by kernel_rfl) (by kernel_rfl) (by kernel_rfl) (by kernel_rfl) (fun _ _ _ h => h) (Or.inl ⟨by rfl, fun w _ => by go_simp⟩) ?_
      simp only [Act.put, List.setIfInBounds_toArray, List.set_cons_zero, List.set_cons_succ]
      have HZ4 := hide (HZ3.out.on hHeld)
      have d6 := HZ4.out.c6
      have c6 : V4.cell? ⟨b6, 0, none⟩ = some (.bool false) := by rw [d6.cell]; rfl
      have f6 := d6.free 0
      have HDK4 : Hid (V4.heap[Dk]? = some (.deferred (some []))) := hide ((hHeld.block Dk (Array.getElem?_eq_some_iff.1 HDK3.out).1).trans HDK3.out)
      clear hHeld
      refine wpAnyU_ready (rs := [23]) (by kernel_rfl) (by simp) (AllReadyU.cons rfl (fun K hK => ?_) AllReadyU.nil)
      rw [if_pos (by rfl)]
      go_simp
      refine hK.out _ _ (fun h => absurd h (by decide)) ?_
      clear hK K
      refine wpAnyU_done (by kernel_rfl) ?_ _
      refine Only.normal ?_
      clear c6 f6
      gi_wp2
      go_wp2
      have hbut := But.setCell V4 b6 0 (.bool true)
      have hdk2 : (V4.setCell ⟨b6, 0, none⟩ (.bool true)).heap[Dk]? = some (.deferred (some [])) := (hbut.block Dk (fun e => by
        have h1 := HDK4.out
        rw [e] at h1
        have h2 := HZ4.out.c6
        unfold Blk at h2
        rw [h1] at h2
        cases h2)).trans HDK4.out
      refine ⟨by simp, .inl ⟨_, _, rfl, run_takeDeferred hdk2, ?_⟩⟩
      have hc6 : ((V4.setCell ⟨b6, 0, none⟩ (.bool true)).putObj Dk (.deferred none)).cell? ⟨b6, 0, none⟩ = some (.bool true) := by
        rw [(((HZ4.out.c6.set 0 (.bool true))).ck (CK.put (.deferred none) hdk2 rfl)).cell]
        rfl
      refine ⟨.bool true, by simp [results, Tryd.f4, go_sem, hc6], rfl, ?_⟩
      exact (HZ4.out.bel.trans (hbut.below HZ4.out.n6)).trans (belowK_b (w := w) (Nat.le_refl _) _ Dk _ (.deferred none) hDk hdk2 rfl rfl)
theorem back_law (h : Int) (a : Option Addr) (len cap : Nat) (xs : List Int) (i : Int) (w : World) (hw : (Lit.int .i64 h).wf = true) (hs : Ds w a len cap xs) (hc : cap ≤ 1048576) (hi : (Lit.int .i64 i).wf = true) (ht : PT w) :
    Calls Tryd.prog 4 #[.int .i64 h, .slice a len cap, .int .i64 i] w fun e w' => e = .returned (.bool true) ∧ Below w.heap.size w w' :=
  back_walk h a len cap xs i w hs (Nat.le_trans hs.hcap hc) ht

end Go.Proofs.YtlgcjdgcgnlcaaaDoor
