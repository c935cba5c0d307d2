/-
  wire: the proof that a reader of bytes tells, or that it gives up.
-/
import Derived.Test.YtojepbapdjkknaaDoorWp
import Derived.Laws.MakeOwn
namespace Go.Proofs.YtojepbapdjkknaaDoor
open Go.RowKit
set_option linter.unusedVariables false
set_option linter.unusedSimpArgs false

theorem zcell (n i : Nat) (h : i < n) : (u8s (zer n)).toArray[i]! = .int .u8 0 := by
  rw [getElem!_pos _ _ (by simpa [u8s, zer] using h)]
  simp [u8s, zer]
theorem madeD_zer (n : Nat) : madeCells (u8s (zer 32)).toArray n = (u8s (zer n)).toArray := by
  apply Array.ext
  · simp [size_madeCells, u8s_length, zer_length]
  · intro i h1 h2
    have hi : i % 32 < 32 := Nat.mod_lt _ (by decide)
    simp only [madeCells, Array.getElem_map, Array.getElem_range]
    have hsz : (u8s (zer 32)).toArray.size = 32 := by simp [u8s_length, zer_length]
    rw [hsz]
    have e1 : (u8s (zer 32)).toArray[i % 32]! = .int .u8 0 := zcell 32 _ hi
    rw [e1]
    simp [u8s, zer]
section
variable {dst : Option Tmp} {ty : TypeId} {pos : String} {aft : Array Edge} {gd : Option (Nat × Bool)} {ops : Array Oper} {rest : List Oper} {a : Act} {w : World} {Q : Exit → Act → World → Prop}
/-- make of a slice of digests. -/
theorem step_makeD {l c : Operand} {L C : Int} (n : Nat) (hw : Region.wanted ⟨dst, .makeSlice 22 l c, ty, pos, aft, gd⟩ (yielded ops a.tmps) = true)
    (hl : a.eval l = .int .i64 L) (hc : a.eval c = .int .i64 C) (hL : L = (n : Int)) (hC : C = (n : Int)) (hn : n ≤ 4398046511104)
    (h : ∀ w1 g, Blk w1 g 45 (u8s (zer (n * 32))) → w.heap.size ≤ g → Below w.heap.size w w1 → wpList Tryd.prog ops Q rest (a.put dst (.slice (some ⟨g, 0, none⟩) n n)) w1) :
    wpList Tryd.prog ops Q (⟨dst, .makeSlice 22 l c, ty, pos, aft, gd⟩ :: rest) a w := by
  obtain ⟨i0, hi, hz0, hz1, hz2⟩ := info_parts infoD
  subst hL hC
  refine step_run hw (.slice (some ⟨w.heap.size, 0, none⟩) n n) (w.alloc (.cells (u8s (zer (n * 32))).toArray 45)) ?_ (h _ _ (Blk.made _ _ _) (Nat.le_refl _) ((Below.refl _ _).alloc (Nat.le_refl _) _))
  have hr := run_make (P := Tryd.prog) w 22 45 i0 _ undDl hi hz0 .i64 .i64 (n : Int) (n : Int) (by omega) (Int.le_refl _) (by rw [hz2]; omega) (by omega)
  rw [hz1] at hr
  simp only [Value.cells, Int.toNat_natCast, madeD_zer] at hr
  simp [execOp, hl, hc, hr, Result.andThen]
end
/-- Bytes that are a proof's with n digests. -/
structure DkOK (xs : List Int) (n : Nat) : Prop where
  len : xs.length = 18 + 32 * n
  f : rdV xs 1 8 ≤ 281474976710656
  s : rdV xs 9 8 ≤ 281474976710656
  c : pcnt (xs.getD 0 0) (rdV xs 1 8) (rdV xs 9 8) = some n
  t : xs.getD 17 0 = (n : Int)
/-- Bytes that are no proof's. -/
def DkNo (xs : List Int) : Prop := ∀ n, ¬ DkOK xs n
theorem build_pf (K : Int) (w : World) (ev : Operand → Value) (x : Operand) (dst : Option Tmp) (ty : TypeId) (pos : String) (aft : Array Edge) (gd : Option (Nat × Bool)) (hx : ev x = .int .i64 K) :
    (execOp ev ⟨dst, .build 24 #[(0, x)], ty, pos, aft, gd⟩).run Tryd.prog w = .ok (.value (.agg (pfC K 0 0 (.slice none 0 0)).toArray)) w := by
  simp only [execOp, List.map_toArray, List.map_cons, List.map_nil, hx]
  kernel_rfl
section
variable {dst : Option Tmp} {ty : TypeId} {pos : String} {aft : Array Edge} {gd : Option (Nat × Bool)} {ops : Array Oper} {rest : List Oper} {a : Act} {w : World} {Q : Exit → Act → World → Prop}
theorem step_buildP {x : Operand} {K : Int} (hw : Region.wanted ⟨dst, .build 24 #[(0, x)], ty, pos, aft, gd⟩ (yielded ops a.tmps) = true) (hx : a.eval x = .int .i64 K)
    (h : wpList Tryd.prog ops Q rest (a.put dst (.agg (pfC K 0 0 (.slice none 0 0)).toArray)) w) : wpList Tryd.prog ops Q (⟨dst, .build 24 #[(0, x)], ty, pos, aft, gd⟩ :: rest) a w :=
  step_run hw _ w (build_pf K w a.eval x dst ty pos aft gd hx) h
end
theorem One.pf (k i n : Int) (a : Option Addr) (l c : Nat) : One (pfC k i n (.slice a l c)) := by
  intro v hv
  simp only [pfC, List.mem_cons, List.not_mem_nil, or_false] at hv
  rcases hv with rfl | rfl | rfl | rfl <;> rfl
theorem numI (g : Nat) (a : Option Addr) (len cap : Nat) (xs : List Int) (p : Nat) (P Z : Int) (w : World) (hP : P = (p : Int)) (hZ : Z = ((p + 8 : Nat) : Int)) (hg : Blk w g 90 (brC (.slice a len cap) P)) (hs : Sl w a len cap xs) (hp : p + 8 ≤ len) (hm : rdV xs P 8 ≤ 281474976710656) :
    Calls Tryd.prog 80 #[.pointer (some ⟨g, 0, none⟩)] w fun e w' => e = .returned (.int .i64 (rdV xs P 8)) ∧ Blk w' g 90 (brC (.slice a len cap) Z) ∧ But g w w' := by
  subst hP hZ
  exact num_ok g a len cap xs p w hg hs hp hm
theorem numI_no (g : Nat) (a : Option Addr) (len cap : Nat) (xs : List Int) (p : Nat) (P : Int) (w : World) (hP : P = (p : Int)) (hg : Blk w g 90 (brC (.slice a len cap) P)) (hs : Sl w a len cap xs) (hp : len < p + 8 ∨ 281474976710656 < rdV xs P 8) :
    Calls Tryd.prog 80 #[.pointer (some ⟨g, 0, none⟩)] w fun e w' => e = .panicked PE ∧ But g w w' := by
  subst hP
  exact num_no g a len cap xs p w hg hs hp
theorem oneI (g : Nat) (a : Option Addr) (len cap : Nat) (xs : List Int) (p : Nat) (P Z : Int) (w : World) (hP : P = (p : Int)) (hZ : Z = ((p + 1 : Nat) : Int)) (hg : Blk w g 90 (brC (.slice a len cap) P)) (hs : Sl w a len cap xs) (hp : p < len) :
    Calls Tryd.prog 79 #[.pointer (some ⟨g, 0, none⟩)] w fun e w' => e = .returned (.int .i64 (xs.getD p 0)) ∧ Blk w' g 90 (brC (.slice a len cap) Z) ∧ But g w w' := by
  subst hP hZ
  exact one_ok g a len cap xs p w hg hs hp
/-- What stands while a proof is read. -/
structure PV (w W : World) (g g2 g3 : Nat) (a : Option Addr) (len cap : Nat) (xs : List Int) (p : Int) (cs : List Value) : Prop where
  r : Blk W g 90 (brC (.slice a len cap) p)
  s : Sl W a len cap xs
  r2 : Blk W g2 24 (pfC 0 0 0 (.slice none 0 0))
  r3 : Blk W g3 24 cs
  ch : Chg g w W
  gl : g < w.heap.size
  l2 : w.heap.size ≤ g2
  l3 : w.heap.size ≤ g3
  n23 : g2 ≠ g3
section
variable {w W W' : World} {g g2 g3 : Nat} {a : Option Addr} {len cap : Nat} {xs : List Int} {p p' : Int} {cs cs' : List Value}
theorem PV.rd (h : PV w W g g2 g3 a len cap xs p cs) (hc : Chg g W W') (hg : Blk W' g 90 (brC (.slice a len cap) p')) : PV w W' g g2 g3 a len cap xs p' cs := by
  have := h.gl; have := h.l2; have := h.l3
  exact ⟨hg, h.s.chg hc (br_apart (n := 0) h.r h.s), h.r2.chg hc (by omega), h.r3.chg hc (by omega), h.ch.trans hc, h.gl, h.l2, h.l3, h.n23⟩
theorem PV.on (h : PV w W g g2 g3 a len cap xs p cs) (hb : Below W.heap.size W W') : PV w W' g g2 g3 a len cap xs p cs :=
  ⟨h.r.on hb, h.s.below hb, h.r2.on hb, h.r3.on hb, h.ch.trans (Chg.of_below hb), h.gl, h.l2, h.l3, h.n23⟩
theorem pf_apart {t : TypeId} {k i n : Int} {q : Option Addr} {m c : Nat} (h : Blk W g3 t (pfC k i n (.slice q m c))) (hs : Sl W a len cap xs) : 0 < len → Apart g3 a := fun h0 x hx e => by
  obtain ⟨b, off, rfl, hce⟩ := hs.hcell h0
  obtain rfl := Option.some.inj hx
  simp only at e
  subst e
  have := hce 0 h0
  rw [h.cell] at this
  rcases hq : off + 0 with _ | _ | _ | _ | k <;> rw [hq] at this
  · cases this
  · cases this
  · cases this
  · cases this
  · rw [List.getElem?_eq_none (by simp [pfC])] at this
    cases this
theorem PV.set {k i n : Int} {q : Option Addr} {m c : Nat} (h : PV w W g g2 g3 a len cap xs p (pfC k i n (.slice q m c))) (hb : But g3 W W') (hg : Blk W' g3 24 cs') : PV w W' g g2 g3 a len cap xs p cs' := by
  have := h.gl; have := h.l3
  exact ⟨h.r.but hb (by omega), h.s.but hb (pf_apart h.r3 h.s), h.r2.but hb h.n23, hg, h.ch.fresh hb h.l3, h.gl, h.l2, h.l3, h.n23⟩
end
theorem DOwn.of_blk {w : World} {g B n : Nat} {xs : List Int} (h : Blk w g 45 (u8s xs)) (hB : B ≤ g) (hl : xs.length = n * 32) (hn : n ≤ 4398046511104) : DOwn w B (.slice (some ⟨g, 0, none⟩) n n) n xs :=
  ⟨by rw [u8s_length, hl], .inr ⟨g, n, (u8s xs).toArray, rfl, hB, h, Nat.le_refl _, by unfold maxLen; omega, by simp [u8s_length, hl], by simp only [List.size_toArray]; rw [List.take_of_length_le (by rw [u8s_length, hl]; exact Nat.le_refl _)]⟩⟩
theorem spl_then (cs vs us : List Value) (h : vs.length + us.length ≤ cs.length) : spl (spl cs vs 0) us vs.length = spl cs (vs ++ us) 0 := by
  unfold spl
  simp only [List.take_zero, List.nil_append, Nat.zero_add]
  rw [List.take_left, ← List.drop_drop, List.drop_left, List.drop_drop, List.length_append, List.append_assoc]
theorem take_more (ys : List Int) (k : Nat) : ys.take (32 * (k + 1)) = ys.take (32 * k) ++ (ys.drop (32 * k)).take 32 := by
  rw [show 32 * (k + 1) = 32 * k + 32 by omega, List.take_add]
theorem spl_dig (xs : List Int) (n k : Nat) (hk : k < n) (hx : 18 + 32 * (k + 1) ≤ xs.length) :
    spl (spl (u8s (zer (n * 32))) (u8s ((xs.drop 18).take (32 * k))) 0) (u8s ((xs.drop (18 + 32 * k)).take 32)) (32 * k) = spl (u8s (zer (n * 32))) (u8s ((xs.drop 18).take (32 * (k + 1)))) 0 := by
  have h1 : (u8s ((xs.drop 18).take (32 * k))).length = 32 * k := by rw [u8s_length, List.length_take, List.length_drop]; omega
  have h2 : (u8s ((xs.drop (18 + 32 * k)).take 32)).length = 32 := by rw [u8s_length, List.length_take, List.length_drop]; omega
  have e := spl_then (u8s (zer (n * 32))) (u8s ((xs.drop 18).take (32 * k))) (u8s ((xs.drop (18 + 32 * k)).take 32)) (by rw [h1, h2, u8s_length, zer_length]; omega)
  rw [h1] at e
  rw [e, take_more, ← u8s_app, List.drop_drop]

set_option maxRecDepth 100000 in
set_option maxHeartbeats 2000000 in
theorem proof_any (g : Nat) (a : Option Addr) (len cap : Nat) (xs : List Int) (w : World) (hg : Blk w g 90 (brC (.slice a len cap) 0)) (hs : Sl w a len cap xs) :
    Calls Tryd.prog 52 #[.pointer (some ⟨g, 0, none⟩)] w fun e w' => Chg g w w' ∧ ((DkNo xs ∧ e = .panicked PE) ∨
      ∃ n v, DkOK xs n ∧ e = .returned (.agg (pfC (xs.getD 0 0) (rdV xs 1 8) (rdV xs 9 8) v).toArray) ∧ DOwn w' w.heap.size v n (xs.drop 18)) := by
  have hr := hs.hreach
  have G := hide hg
  have S := hide hs
  have HL := hide hs.hlen
  have SA := hide hs.lt
  clear hg hs
  go_enter Tryd.func52, Tryd.ntmps52
  go_wp2_with (refine step_alloc zP rfl ?_)
  intro w1 g2 hr1 hl1 hb1
  have B1 := hide hb1
  have R2 := hide hr1
  have hgl : g < w.heap.size := G.out.lt
  replace G := hide (G.out.on hb1)
  replace S := hide (S.out.below hb1)
  clear hr1 hb1
  go_wp2_with fail
  by_cases h1 : 0 < len
  rotate_left
  · refine (one_no g a len cap 0 w1 G.out (by omega) (by omega)).mono ?_
    rintro e w2 ⟨rfl, hb2⟩
    refine ⟨rfl, (Chg.of_below B1.out).trans (Chg.of_but hb2), .inl ⟨fun n h => ?_, rfl⟩⟩
    have := h.len
    rw [HL.out] at this
    omega
  refine (one_ok g a len cap xs 0 w1 G.out S.out h1).mono ?_
  rintro e w2 ⟨rfl, hg2, hb2⟩
  obtain ⟨k0, hk0⟩ : ∃ z, xs.getD 0 0 = z := ⟨_, rfl⟩
  rw [hk0]
  have S2 := hide (S.out.but hb2 (br_apart (n := 0) G.out S.out))
  have R2b := hide (R2.out.but hb2 (by omega))
  have G2 := hide hg2
  have CH2 : Hid (Chg g w w2) := hide ((Chg.of_below B1.out).trans (Chg.of_but hb2))
  have hsz2 := hb2.size
  have hb1s := B1.out.size
  clear hg2 hb2 G S R2
  go_wp2_with (first | (refine step_buildP rfl rfl ?_) | (refine step_alloc zP rfl ?_; intro w3 g3 hr3 hl3 hb3; have G3 := hide hr3; clear hr3) | (refine step_storeA wP rfl rfl rfl G3.out rfl (One.pf _ _ _ _ _ _) rfl ?_; intro w4 hg4 hbut4))
  have P : Hid (PV w w4 g g2 g3 a len cap xs 1 (pfC k0 0 0 (.slice none 0 0))) := hide (by
    have := G2.out.lt
    have := R2b.out.lt
    exact ⟨(G2.out.on hb3).but hbut4 (by omega), (S2.out.below hb3).but hbut4 (S2.out.apart hl3), (R2b.out.on hb3).but hbut4 (by omega), hg4, (CH2.out.trans (Chg.of_below hb3)).fresh hbut4 (by omega), hgl, hl1, by omega, by omega⟩)
  clear hg4 hbut4 hb3 hl3 G3 G2 S2 R2b CH2 B1 hsz2 hb1s
  by_cases h2 : 9 ≤ len ∧ rdV xs 1 8 ≤ 281474976710656
  rotate_left
  · refine (numI_no g a len cap xs 1 1 _ rfl P.out.r P.out.s (by omega)).mono ?_
    rintro e w5 ⟨rfl, hb5⟩
    refine ⟨rfl, P.out.ch.trans (Chg.of_but hb5), .inl ⟨fun n h => h2 ⟨?_, h.f⟩, rfl⟩⟩
    have := h.len
    rw [HL.out] at this
    omega
  refine (numI g a len cap xs 1 1 9 _ rfl rfl P.out.r P.out.s (by omega) h2.2).mono ?_
  rintro e w5 ⟨rfl, hg5, hb5⟩
  obtain ⟨f0, hf0⟩ : ∃ z, rdV xs 1 8 = z := ⟨_, rfl⟩
  rw [hf0] at h2 ⊢
  replace P := hide (P.out.rd (Chg.of_but hb5) hg5)
  clear hg5 hb5
  obtain ⟨c30, c31, c32, c33⟩ := pf_at P.out.r3
  have hz1 := P.out.r3.free 1
  have P5 := hide (P.out.set (But.setCell w5 g3 1 (.int .i64 f0)) (P.out.r3.set 1 (.int .i64 f0)))
  go_wp2_with fail
  by_cases h3 : 17 ≤ len ∧ rdV xs 9 8 ≤ 281474976710656
  rotate_left
  · refine (numI_no g a len cap xs 9 9 _ rfl P5.out.r P5.out.s (by omega)).mono ?_
    rintro e w6 ⟨rfl, hb6⟩
    refine ⟨rfl, P5.out.ch.trans (Chg.of_but hb6), .inl ⟨fun n h => h3 ⟨?_, h.s⟩, rfl⟩⟩
    have := h.len
    rw [HL.out] at this
    omega
  refine (numI g a len cap xs 9 9 17 _ rfl rfl P5.out.r P5.out.s (by omega) h3.2).mono ?_
  rintro e w6 ⟨rfl, hg6, hb6⟩
  obtain ⟨s0, hs0⟩ : ∃ z, rdV xs 9 8 = z := ⟨_, rfl⟩
  rw [hs0] at h3 ⊢
  have P6 := hide (P5.out.rd (Chg.of_but hb6) hg6)
  clear hg6 hb6 P P5 c30 c31 c32 c33 hz1
  obtain ⟨c30, c31, c32, c33⟩ := pf_at P6.out.r3
  have hz2 := P6.out.r3.free 2
  have P7 : Hid (PV w (w6.setCell ⟨g3, 2, none⟩ (.int .i64 s0)) g g2 g3 a len cap xs 17 (pfC k0 f0 s0 (.slice none 0 0))) := hide (P6.out.set (But.setCell w6 g3 2 (.int .i64 s0)) (P6.out.r3.set 2 (.int .i64 s0)))
  go_wp2_with (first | (refine step_loadA wP rfl rfl P7.out.r3 rfl ?_) | fail)
  refine (dgs_any k0 f0 s0 _ _).mono ?_
  rintro r w8 ⟨rfl, hb8⟩
  have P8 := hide (P7.out.on hb8)
  clear hb8 P7 P6 c30 c31 c32 c33 hz2
  obtain ⟨c, hc⟩ : ∃ c, pcnt k0 f0 s0 = c := ⟨_, rfl⟩
  rw [hc]
  cases c with
  | none =>
    go_wp2_with fail
    refine (need_no _).mono ?_
    rintro e w9 ⟨rfl, rfl⟩
    refine ⟨rfl, P8.out.ch, .inl ⟨fun n h => ?_, rfl⟩⟩
    have := h.c
    rw [hk0, hf0, hs0, hc] at this
    cases this
  | some n =>
    have hn49 := pcnt_le hc
    go_wp2_with fail
    by_cases h4 : 17 < len
    rotate_left
    · refine (one_no g a len cap 17 _ P8.out.r (by omega) (by omega)).mono ?_
      rintro e w9 ⟨rfl, hb9⟩
      refine ⟨rfl, P8.out.ch.trans (Chg.of_but hb9), .inl ⟨fun n h => ?_, rfl⟩⟩
      have := h.len
      rw [HL.out] at this
      omega
    refine (oneI g a len cap xs 17 17 18 _ rfl rfl P8.out.r P8.out.s h4).mono ?_
    rintro e w9 ⟨rfl, hg9, hb9⟩
    have P9 := hide (P8.out.rd (Chg.of_but hb9) hg9)
    clear hg9 hb9 P8
    obtain ⟨t0, ht0⟩ : ∃ z, xs.getD 17 0 = z := ⟨_, rfl⟩
    rw [ht0]
    by_cases h5 : t0 = (n : Int)
    rotate_left
    · have h5' : (t0 == (n : Int)) = false := by simpa using h5
      go_wp2_with fail
      refine (need_no _).mono ?_
      rintro e w10 ⟨rfl, rfl⟩
      refine ⟨rfl, P9.out.ch, .inl ⟨fun m h => ?_, rfl⟩⟩
      have h6 := h.c
      rw [hk0, hf0, hs0, hc] at h6
      obtain rfl := Option.some.inj h6
      have := h.t
      rw [ht0] at this
      exact h5 this
    subst h5
    go_wp2_with fail
    refine (need_ok _).mono ?_
    rintro e w10 ⟨rfl, rfl⟩
    obtain ⟨c30, c31, c32, c33⟩ := pf_at P9.out.r3
    go_wp2_with (refine step_makeD n rfl rfl rfl rfl rfl (by omega) ?_)
    intro w11 gs hrs hls hbs
    have P11 := hide (P9.out.on hbs)
    have hg3 := P9.out.r3.lt
    have hg2l := P9.out.r2.lt
    have hgsl : w.heap.size ≤ gs := Nat.le_trans P9.out.ch.size hls
    have GS := hide hrs
    clear hrs hbs P9 c30 c31 c32 c33
    obtain ⟨c30, c31, c32, c33⟩ := pf_at P11.out.r3
    have hz3 := P11.out.r3.free 3
    have PW : Hid (PV w (w11.setCell ⟨g3, 3, none⟩ (.slice (some ⟨gs, 0, none⟩) n n)) g g2 g3 a len cap xs 18 (pfC k0 f0 s0 (.slice (some ⟨gs, 0, none⟩) n n))) := hide (P11.out.set (But.setCell w11 g3 3 _) (P11.out.r3.set 3 (.slice (some ⟨gs, 0, none⟩) n n)))
    have GW := hide (GS.out.but (But.setCell w11 g3 3 (.slice (some ⟨gs, 0, none⟩) n n)) (show gs ≠ g3 by omega))
    have n3 : g3 ≠ gs := by omega
    have e33 := (pf_at PW.out.r3).2.2.2
    have ng : g ≠ gs := by omega
    have n2 : g2 ≠ gs := by omega
    clear GS hls hg3 hg2l
    go_wp2_with fail
    generalize w11.setCell ⟨g3, 3, none⟩ (.slice (some ⟨gs, 0, none⟩) n n) = w12 at *
    clear P11 c30 c31 c32 c33 hz3 e33
    go_loopw [35] (fun i W => ∃ k : Nat, k ≤ n ∧ 18 + 32 * k ≤ len ∧ i = .int .i64 (k : Int) ∧ PV w W g g2 g3 a len cap xs ((18 + 32 * k : Nat) : Int) (pfC k0 f0 s0 (.slice (some ⟨gs, 0, none⟩) n n)) ∧ Blk W gs 45 (spl (u8s (zer (n * 32))) (u8s ((xs.drop 18).take (32 * k))) 0)) (fun i _ => n - (intOf i).toNat)
    case atStart => exact ⟨0, by omega, by omega, rfl, PW.out, by simpa [spl, u8s] using GW.out⟩
    case round =>
      obtain ⟨k, hkn, hkl, rfl, hP, hG⟩ := hrel
      have P := hide hP
      have GS := hide hG
      clear hP hG PW GW
      by_cases hlt : k < n
      · have hlt' : (k : Int) < (n : Int) := by omega
        have c33 := (pf_at P.out.r3).2.2.2
        go_wp2_with fail
        refine wp_region_held_drew (S := fun v : World => v.cell? ⟨g3, 3, none⟩ = some (.slice (some ⟨gs, 0, none⟩) n n)) (by kernel_rfl) c33 (fun hHeld => ?_)
        refine takeH 0 38 (.pointer (some ⟨g3, 3, none⟩)) hHeld rfl rfl (by kernel_rfl) (by kernel_rfl) (by kernel_rfl) (fun _ _ _ h => h) (Or.inl ⟨by rfl, fun w _ => by go_simp⟩) ?_
        simp only [Act.put, List.setIfInBounds_toArray, List.set_cons_zero, List.set_cons_succ]
        refine takeH 1 39 (.slice (some ⟨gs, 0, none⟩) n n) hHeld rfl rfl (by kernel_rfl) (by kernel_rfl) (by kernel_rfl) (fun _ _ _ h => h) (Or.inl ⟨by rfl, fun w hw => by have hw' : w.cell? ⟨g3, 3, none⟩ = some (.slice (some ⟨gs, 0, none⟩) n n) := id hw; go_simp⟩) ?_
        simp only [Act.put, List.setIfInBounds_toArray, List.set_cons_zero, List.set_cons_succ]
        refine takeH 2 40 (.int .i64 (k : Int)) hHeld rfl rfl (by kernel_rfl) (by kernel_rfl) (by kernel_rfl) (fun _ _ _ h => h) (Or.inl ⟨by rfl, fun w _ => by go_simp⟩) ?_
        simp only [Act.put, List.setIfInBounds_toArray, List.set_cons_zero, List.set_cons_succ]
        refine takeH 3 41 (.pointer (some ⟨g, 0, none⟩)) hHeld rfl rfl (by kernel_rfl) (by kernel_rfl) (by kernel_rfl) (fun _ _ _ h => h) (Or.inl ⟨by rfl, fun w _ => by go_simp⟩) ?_
        simp only [Act.put, List.setIfInBounds_toArray, List.set_cons_zero, List.set_cons_succ]
        refine wpAnyH_ready (rs := [4]) (by kernel_rfl) (by simp) (AllReadyH.cons rfl (fun K hK => ?_) AllReadyH.nil)
        rw [if_pos (by rfl)]
        go_simp
        have PD := hide (P.out.on ((Below.refl wr.heap.size wr).drew))
        have GD : Hid (Blk wr.drew gs 45 (spl (u8s (zer (n * 32))) (u8s ((xs.drop 18).take (32 * k))) 0)) := hide (GS.out.on ((Below.refl wr.heap.size wr).drew))
        by_cases h6 : 18 + 32 * k + 32 ≤ len
        rotate_left
        · refine (dig_no g a len cap (18 + 32 * k) _ PD.out.r hr (by omega)).mono ?_
          rintro e w13 ⟨rfl, hc13⟩
          refine ⟨rfl, PD.out.ch.trans hc13, .inl ⟨fun m h => ?_, rfl⟩⟩
          have h7 := h.c
          rw [hk0, hf0, hs0, hc] at h7
          obtain rfl := Option.some.inj h7
          have := h.len
          rw [HL.out] at this
          omega
        refine (dig_ok g a len cap xs (18 + 32 * k) _ PD.out.r PD.out.s h6).mono ?_
        rintro e w13 ⟨rfl, hg13, hc13⟩
        have P13 := hide (PD.out.rd hc13 hg13)
        have G13 := hide (GD.out.chg hc13 ng.symm)
        have HU := hide (show (u8s ((xs.drop (18 + 32 * k)).take 32)).length = 32 by rw [u8s_length, List.length_take, List.length_drop, HL.out]; omega)
        have HSP := hide (spl_dig xs n k hlt (by rw [HL.out]; omega))
        clear hg13 hc13 PD GD c33
        refine hK.out _ _ (pf_at P13.out.r3).2.2.2 (fun hHeld => ?_)
        clear hK K
        try simp only [Act.put, List.setIfInBounds_toArray, List.set_cons_zero, List.set_cons_succ]
        refine takeH 5 43 (.pointer (some ⟨gs, 0 + 32 * k, none⟩)) hHeld rfl rfl (by kernel_rfl) (by kernel_rfl) (by kernel_rfl) (fun _ _ _ h => h) (Or.inl ⟨by rfl, fun w _ => run_op rfl ((d_at gs 0 n n k (k : Int) rfl hlt) w)⟩) ?_
        simp only [Act.put, List.setIfInBounds_toArray, List.set_cons_zero, List.set_cons_succ]
        refine wpAnyH_ready (rs := [6]) (by kernel_rfl) (by simp) (AllReadyH.cons rfl (fun K hK => ?_) AllReadyH.nil)
        rw [if_pos (by rfl)]
        refine wp_storeW wD rfl rfl rfl G13.out HU.out (One.u8 _) (by rw [spl_length _ _ _ (by rw [u8s_length, u8s_length, zer_length, List.length_take, List.length_drop]; omega), u8s_length, zer_length]; omega) ?_
        intro w14 hg14 hb14
        rw [Nat.zero_add, HSP.out] at hg14
        have P14 : Hid (PV w w14 g g2 g3 a len cap xs ((18 + 32 * (k + 1) : Nat) : Int) (pfC k0 f0 s0 (.slice (some ⟨gs, 0, none⟩) n n))) := hide (by
          have q := P13.out
          rw [show 18 + 32 * k + 32 = 18 + 32 * (k + 1) by omega] at q
          exact ⟨q.r.but hb14 ng, q.s.but hb14 (fun h0 x hx e => by have := SA.out h0 x hx; omega), q.r2.but hb14 n2, q.r3.but hb14 n3, q.ch.fresh hb14 hgsl, q.gl, q.l2, q.l3, q.n23⟩)
        refine hK.out _ _ (pf_at P14.out.r3).2.2.2 (fun hHeld => ?_)
        clear hK K
        simp only [Act.put]
        refine wpAnyH_done (by kernel_rfl) ?_ _
        clear hHeld
        go_wp2
        exact ⟨⟨k + 1, by omega, by omega, by go_num, P14.out, hg14⟩, by simp [intOf]; omega⟩
      · obtain rfl : k = n := by omega
        have hxx : ¬ ((k : Int) < (k : Int)) := by omega
        obtain ⟨pp, hpp⟩ : ∃ pp, 18 + 32 * k = pp := ⟨_, rfl⟩
        have HPP := hide hpp
        rw [hpp] at P
        clear hpp hlt hkn
        obtain ⟨c0, c1⟩ := br_at P.out.r
        by_cases h8 : pp = len
        · subst h8
          go_wp2_with fail
          go_quiet (first | (go_at_call 71; exact Calls.quiet_of_same (need_ok _)))
          have PQ := hide (P.out.on (below_drewN (Below.refl wr.heap.size wr) nq))
          have GQ := hide (GS.out.drewN nq)
          clear P GS c0 c1
          generalize wr.drewN nq = wq at *
          go_wp2_with (first | (refine step_loadA wP rfl rfl PQ.out.r3 rfl ?_) | (refine step_storeA wP rfl rfl rfl PQ.out.r2 rfl (One.pf _ _ _ _ _ _) rfl ?_; intro w20 hg20 hb20))
          refine bodyPost_ret (results_wide rfl wP _ _ rfl hg20 rfl) rfl ⟨PQ.out.ch.fresh hb20 PQ.out.l2, .inr ⟨k, _, ?_, by rw [hk0, hf0, hs0], ?_⟩⟩
          · exact ⟨by rw [HL.out]; exact HPP.out.symm, by omega, by omega, by rw [hk0, hf0, hs0]; exact hc, ht0⟩
          · have hxl : (xs.drop 18).length = k * 32 := by rw [List.length_drop, HL.out]; have := HPP.out; omega
            have e := GQ.out.but hb20 n2.symm
            rw [List.take_of_length_le (by omega), spl_full (by rw [u8s_length, u8s_length, zer_length, hxl])] at e
            exact DOwn.of_blk e hgsl hxl (by omega)
        · have hne : ((pp : Int) == (len : Int)) = false := by simp; omega
          have hpl : pp ≤ len := by rw [← HPP.out]; exact hkl
          go_wp2_with fail
          refine wp_region_held_drew (S := fun v : World => v.cell? ⟨g, 0, none⟩ = some (.slice a len cap) ∧ v.cell? ⟨g, 1, none⟩ = some (.int .i64 (pp : Int))) (by kernel_rfl) ⟨c0, c1⟩ (fun hHeld => ?_)
          refine takeH 0 45 (.pointer (some ⟨g, 0, none⟩)) hHeld rfl rfl (by kernel_rfl) (by kernel_rfl) (by kernel_rfl) (fun _ _ _ h => h) (Or.inl ⟨by rfl, fun w _ => by go_simp⟩) ?_
          simp only [Act.put, List.setIfInBounds_toArray, List.set_cons_zero, List.set_cons_succ]
          refine takeH 1 46 (.pointer (some ⟨g, 0, none⟩)) hHeld rfl rfl (by kernel_rfl) (by kernel_rfl) (by kernel_rfl) (fun _ _ _ h => h) (Or.inl ⟨by rfl, fun w _ => by go_simp⟩) ?_
          simp only [Act.put, List.setIfInBounds_toArray, List.set_cons_zero, List.set_cons_succ]
          refine takeH 2 47 (.pointer (some ⟨g, 1, none⟩)) hHeld rfl rfl (by kernel_rfl) (by kernel_rfl) (by kernel_rfl) (fun _ _ _ h => h) (Or.inl ⟨by rfl, fun w _ => by go_simp⟩) ?_
          simp only [Act.put, List.setIfInBounds_toArray, List.set_cons_zero, List.set_cons_succ]
          refine takeH 3 48 (.int .i64 (pp : Int)) hHeld rfl rfl (by kernel_rfl) (by kernel_rfl) (by kernel_rfl) (fun _ _ _ h => h) (Or.inl ⟨by rfl, fun w hw => by have hw' : w.cell? ⟨g, 1, none⟩ = some (.int .i64 (pp : Int)) := And.right hw; go_simp⟩) ?_
          simp only [Act.put, List.setIfInBounds_toArray, List.set_cons_zero, List.set_cons_succ]
          refine takeH 4 49 (.pointer (some ⟨g, 0, none⟩)) hHeld rfl rfl (by kernel_rfl) (by kernel_rfl) (by kernel_rfl) (fun _ _ _ h => h) (Or.inl ⟨by rfl, fun w _ => by go_simp⟩) ?_
          simp only [Act.put, List.setIfInBounds_toArray, List.set_cons_zero, List.set_cons_succ]
          refine takeH 5 50 (.pointer (some ⟨g, 0, none⟩)) hHeld rfl rfl (by kernel_rfl) (by kernel_rfl) (by kernel_rfl) (fun _ _ _ h => h) (Or.inl ⟨by rfl, fun w _ => by go_simp⟩) ?_
          simp only [Act.put, List.setIfInBounds_toArray, List.set_cons_zero, List.set_cons_succ]
          refine takeH 6 51 (.pointer (some ⟨g, 0, none⟩)) hHeld rfl rfl (by kernel_rfl) (by kernel_rfl) (by kernel_rfl) (fun _ _ _ h => h) (Or.inl ⟨by rfl, fun w _ => by go_simp⟩) ?_
          simp only [Act.put, List.setIfInBounds_toArray, List.set_cons_zero, List.set_cons_succ]
          refine takeH 7 52 (.slice a len cap) hHeld rfl rfl (by kernel_rfl) (by kernel_rfl) (by kernel_rfl) (fun _ _ _ h => h) (Or.inl ⟨by rfl, fun w hw => by have hw' : w.cell? ⟨g, 0, none⟩ = some (.slice a len cap) := And.left hw; go_simp⟩) ?_
          simp only [Act.put, List.setIfInBounds_toArray, List.set_cons_zero, List.set_cons_succ]
          refine takeH 8 53 (.int .i64 (len : Int)) hHeld rfl rfl (by kernel_rfl) (by kernel_rfl) (by kernel_rfl) (fun _ _ _ h => h) (Or.inl ⟨by rfl, fun w _ => by go_simp⟩) ?_
          simp only [Act.put, List.setIfInBounds_toArray, List.set_cons_zero, List.set_cons_succ]
          refine takeH 9 54 (.bool false) hHeld rfl rfl (by kernel_rfl) (by kernel_rfl) (by kernel_rfl) (fun _ _ _ h => h) (Or.inl ⟨by rfl, fun w _ => by go_simp⟩) ?_
          simp only [Act.put, List.setIfInBounds_toArray, List.set_cons_zero, List.set_cons_succ]
          refine wpAnyH_ready (rs := [10]) (by kernel_rfl) (by simp) (AllReadyH.cons rfl (fun K hK => ?_) AllReadyH.nil)
          rw [if_pos (by rfl)]
          go_simp
          refine (need_no _).mono ?_
          rintro e w15 ⟨rfl, rfl⟩
          refine ⟨rfl, P.out.ch.trans (chg_drew _ _), .inl ⟨fun m h => ?_, rfl⟩⟩
          have h7 := h.c
          rw [hk0, hf0, hs0, hc] at h7
          obtain rfl := Option.some.inj h7
          have := h.len
          rw [HL.out] at this
          have := HPP.out
          omega

end Go.Proofs.YtojepbapdjkknaaDoor
