/-
  The walk of TileSubs.
-/
import Derived.Test.YtnlpgkfmjlljdabDoorTs
import Derived.Test.YtnlpgkfmjlljdabDoorTr0
import Derived.Deep.Cut
namespace Go.Proofs.YtnlpgkfmjlljdabDoor
open Go.RowKit
set_option linter.unusedVariables false
set_option linter.unusedSimpArgs false

theorem joinG {T : Program} {c : Code} {a : Act} {w : World} {Q : Exit → Act → World → Prop} {K : Act → World → Prop} (P : Nat → World → Prop) (act : Nat → Act) (h1 : ∀ g W, P g W → K (act g) W) (h2 : (∀ g W, P g W → K (act g) W) → Code.wp T c (Exit.then K Q) a w) : Code.wp T c (Exit.then K Q) a w := h2 h1
theorem joinG3 {T : Program} {c : Code} {a : Act} {w : World} {Q : Exit → Act → World → Prop} {K : Act → World → Prop} (P : Nat → World → Prop) (act : Nat → Option Addr → Nat → Act) (h1 : ∀ g x y W, P g W → K (act g x y) W) (h2 : (∀ g x y W, P g W → K (act g x y) W) → Code.wp T c (Exit.then K Q) a w) : Code.wp T c (Exit.then K Q) a w := h2 h1
section
variable {dst : Option Tmp} {ty : TypeId} {pos : String} {aft : Array Edge} {gd : Option (Nat × Bool)} {a : Act} {w : World} {K : Act → World → Prop} {Q : Exit → Act → World → Prop}
theorem wp_runT {P : Program} {o : Oper} (v : Value) (w' : World) (hrun : (execOp a.eval o).run P w = .ok (.value v) w') (h : K (a.put o.dst v) w') : Oper.wp P o a w K Q := by
  unfold Oper.wp
  rw [hrun, Oper.upon_value]
  exact h
set_option maxRecDepth 100000 in
theorem wp_allocGT {T : TypeId} {cs : List Value} (hz : Zeroed T cs) (h : ∀ w1 g, Blk w1 g T cs → w.heap.size ≤ g → Below w.heap.size w w1 → K (a.put dst (.pointer (some ⟨g, 0, none⟩))) w1) :
    Oper.wp Tryd.prog ⟨dst, .alloc T, ty, pos, aft, gd⟩ a w K Q :=
  wp_runT _ _ (hz a.eval dst ty pos aft gd w) (h _ _ (Blk.made _ _ _) (Nat.le_refl _) ((Below.refl _ _).alloc (Nat.le_refl _) _))
theorem wp_storeGT {T : TypeId} {n : Nat} (hT : Wide T n) {x y : Operand} {g : Nat} {t : TypeId} {cs vs : List Value} (hx : a.eval x = .pointer (some ⟨g, 0, none⟩)) (hy : a.eval y = .agg vs.toArray) (hg : Blk w g t cs) (hn : vs.length = n) (h1 : One vs) (hl : cs.length = n)
    (h : ∀ w1, Blk w1 g t vs → But g w w1 → K (a.put dst undef) w1) : Oper.wp Tryd.prog ⟨dst, .store T x y, ty, pos, aft, gd⟩ a w K Q :=
  wp_storeW hT rfl hx hy hg hn h1 (by omega) fun w1 hb hbut => h w1 (by
    have e : spl cs vs 0 = vs := by
      unfold spl
      rw [List.drop_of_length_le (by omega)]
      simp
    rwa [e] at hb) hbut
end
/-- What TileSubs holds of a node of the log. -/
structure SubF (H L I N : Nat) (xs : List Int) (lv X F T wd s M : Nat) (R : List Int) : Prop where
  hM : H * lv = M
  hM48 : M ≤ 48
  hS : 2 ^ M = s
  hlv : L / H = lv
  hX : oX H L I = X
  hF : oF H L I = F
  hT : oT H L I = T
  hw : tW H lv X N = wd
  hw256 : wd ≤ 256
  hTw : T ≤ wd
  hFT : F < T
  hT2 : T ≤ 2 ^ H
  hle : (X * 2 ^ H + wd) * s ≤ N
  top : (I + 1) * 2 ^ L ≤ N
  root' : root (sub (chk xs s (X * 2 ^ H * s) wd) F T) = R
  sub' : root (sub xs (I * 2 ^ L) ((I + 1) * 2 ^ L)) = R
theorem subF_of {H L I N : Nat} {xs : List Int} (hx : xs.length = 32 * N) (hb : isB xs) (hN : N ≤ 4398046511104) (hH : isH H) (hL : L ≤ 20) (hI : I < N / 2 ^ L) : ∃ lv X F T wd s M R, SubF H L I N xs lv X F T wd s M R := by
  obtain ⟨w1, w2⟩ := width_ge hH hI
  have hFT := oF_lt H L I
  have hM : H * (L / H) ≤ L := Nat.mul_div_le L H
  have hin := width_in (h := H) (l := L / H) (i := oX H L I) (n := N) (by omega)
  exact ⟨_, _, _, _, _, _, _, _, rfl, by omega, rfl, rfl, rfl, rfl, rfl, rfl, Nat.le_trans (tW_le _ _ _ _) hH.pow.2, w1, hFT, oT_le hH L I, hin, w2, node_root hx hb (by omega) (by omega) w1 hin, rfl⟩
theorem tOK_of {H lv X N wd : Nat} (hH : isH H) (hN : N ≤ 4398046511104) (hw : tW H lv X N = wd) (h1 : 1 ≤ wd) : tOK (H : Int) (lv : Int) (X : Int) (wd : Int) :=
  ⟨H, lv, X, wd, rfl, rfl, rfl, rfl, hH, h1, by rw [← hw]; exact tW_mono (by omega)⟩
set_option maxRecDepth 100000 in
set_option maxHeartbeats 4000000 in
theorem tileSubs_main (H L I N cap : Nat) (a : Option Addr) (xs : List Int) (w : World) (hH : isH H) (hL : L ≤ 20) (hI : I < N / 2 ^ L) (hs : Ds w a N cap xs) (hk : KT w) :
    Calls Tryd.prog 4 #[.int .i64 (H : Int), .slice a N cap, .agg #[.int .i64 (L : Int), .int .i64 (I : Int)]] w fun e w' => e = .returned (.bool true) ∧ Below w.heap.size w w' := by
  have hN := hs.hreach
  obtain ⟨lv, X, F, T, wd, s, M, R, sf⟩ := subF_of hs.hlen hs.hbyte hN hH hL hI
  obtain ⟨h1, h8⟩ := hH.ints
  have HS := hide hs
  have HK := hide hk
  have hsubl := sub_length hs.hlen (show I * 2 ^ L ≤ (I + 1) * 2 ^ L from Nat.mul_le_mul_right _ (by omega)) sf.top
  have HRL : Hid (R.length = 32) := hide (by rw [← sf.sub']; exact root_length hsubl (sub_isB hs.hbyte _ _))
  have HRU : Hid ((u8s R).length = 32) := hide (by rw [u8s_length, HRL.out])
  have hVI : (I : Int) < 281474976710656 / 2 ^ L := by
    have e1 := pow_int 281474976710656 L
    have e2 : N / 2 ^ L ≤ 281474976710656 / 2 ^ L := Nat.div_le_div_right (by omega)
    rw [show ((281474976710656 : Nat) : Int) = 281474976710656 from rfl] at e1
    rw [e1]
    omega
  have HOF : Hid (∀ v : World, Calls Tryd.prog 9 #[.int .i64 (H : Int), .agg (c2 (L : Int) (I : Int)).toArray] v fun r w' => r = .returned (.tuple #[.agg (c4 (H : Int) (lv : Int) (X : Int) (T : Int)).toArray, .int .i64 (F : Int), .int .i64 (T : Int), .int .i64 0]) ∧ Below v.heap.size v w') := hide (fun v => by
    have := of_ok H L I v hH (by omega) hVI
    unfold oV at this
    rw [sf.hlv, sf.hX, sf.hF, sf.hT] at this
    exact this)
  have hXN : X ≤ N := by
    have hs0 : 0 < s := by rw [← sf.hS]; exact Nat.two_pow_pos _
    have z1 := Nat.mul_le_mul_left (X * 2 ^ H) (show 1 ≤ s from hs0)
    have z2 := Nat.mul_le_mul_right s (show X * 2 ^ H ≤ X * 2 ^ H + wd by omega)
    have z3 := Nat.mul_le_mul_left X (show 1 ≤ 2 ^ H from Nat.two_pow_pos H)
    have := sf.hle
    omega
  have hlv48 : lv ≤ 48 := by
    have := Nat.mul_le_mul_right lv hH.1
    rw [Nat.one_mul, sf.hM] at this
    have := sf.hM48
    omega
  have HWD : Hid (∀ v : World, Calls Tryd.prog 10 #[.int .i64 (H : Int), .int .i64 (lv : Int), .int .i64 (X : Int), .int .i64 (N : Int)] v fun r w' => r = .returned (.tuple #[.int .i64 (wd : Int), .int .i64 0]) ∧ Below v.heap.size v w') := hide (fun v => by
    have := width_ok H lv X N v hH (by omega) (by omega) (by omega)
    rw [sf.hw] at this
    exact this)
  have hwd1 : 1 ≤ wd := by have := sf.hTw; have := sf.hFT; omega
  have DB0 := fun v (hv : Below w.heap.size w v) => bytesL_any a N cap xs H lv X wd M s (X * 2 ^ H) v (hs.below hv) (hk.below hv hk.lt) hH sf.hM sf.hM48 sf.hS rfl sf.hw256 sf.hle
  have hcl := chk_length (s := s) (b := X * 2 ^ H * s) (w := wd) hs.hlen hs.hbyte (by rw [← Nat.add_mul]; exact sf.hle)
  have hcb := chk_isB (s := s) (b := X * 2 ^ H * s) (w := wd) hs.hlen hs.hbyte (by rw [← Nat.add_mul]; exact sf.hle)
  obtain ⟨ds, e, hdg, hDD⟩ := digestT_any (H : Int) (lv : Int) (X : Int) (wd : Int) (by omega) (by omega) (32 * wd) _ hcl (by have := sf.hw256; omega) hcb (L : Int) (I : Int)
  have hres : ds = R ∧ e = 0 := by
    have hV : V (L : Int) (I : Int) := ⟨by omega, by omega, by omega, by rw [Int.toNat_natCast]; exact hVI⟩
    have htk : tOK (H : Int) (lv : Int) (X : Int) (wd : Int) := tOK_of hH hN sf.hw hwd1
    have hin : inT (H : Int) (lv : Int) (X : Int) (wd : Int) (L : Int) (I : Int) := by
      unfold inT
      simp only [Int.toNat_natCast]
      rw [sf.hlv, sf.hX, sf.hT]
      have := sf.hTw
      exact ⟨rfl, rfl, by omega⟩
    have hov : root (ovr (H : Int) (L : Int) (I : Int) (chk xs s (X * 2 ^ H * s) wd)) = R := by
      unfold ovr
      simp only [Int.toNat_natCast]
      rw [sf.hF, sf.hT]
      exact sf.root'
    have hgood : DgR (H : Int) (lv : Int) (X : Int) (wd : Int) (32 * wd) (chk xs s (X * 2 ^ H * s) wd) (L : Int) (I : Int) R 0 := .inr ⟨hV, htk, .inr ⟨by omega, .inr ⟨rfl, hin, hov.symm⟩⟩⟩
    exact hdg.uniq hgood
  obtain ⟨hr1, rfl⟩ := hres
  replace hr1 := hr1.symm
  subst hr1
  obtain ⟨YS, hYS⟩ : ∃ y, chk xs s (X * 2 ^ H * s) wd = y := ⟨_, rfl⟩
  rw [hYS] at hcl hcb hDD
  have DB : Hid (∀ v : World, Below w.heap.size w v → Calls Tryd.prog 12 #[.slice a N cap, .agg (c4 (H : Int) (lv : Int) (X : Int) (wd : Int)).toArray] v fun r w' => ∃ bs bc, r = .returned (.slice bs (32 * wd) bc) ∧ Sl w' bs (32 * wd) bc YS ∧ Below v.heap.size v w') := hide (fun v hv => (DB0 v hv).mono (fun r w' hr => by
    obtain ⟨bv, e1, e2, e3⟩ := hr
    rw [hYS] at e2
    obtain ⟨bs, bc, e4, e5⟩ := e2.sl' hcb (by rw [hcl]; have := sf.hw256; omega)
    rw [hcl] at e4 e5
    exact ⟨bs, bc, by rw [e1, e4], e5, e3⟩))
  have DD : Hid (∀ v : World, Below w.heap.size w v → ∀ (bs : Option Addr) (bc : Nat), Sl v bs (32 * wd) bc YS → Calls Tryd.prog 11 #[.agg (c4 (H : Int) (lv : Int) (X : Int) (wd : Int)).toArray, .slice bs (32 * wd) bc, .agg (c2 (L : Int) (I : Int)).toArray] v fun r w' => r = .returned (.tuple #[.agg (u8s R).toArray, .int .i64 0]) ∧ Below v.heap.size v w') := hide (fun v hv bs bc hsl => hDD bs bc v hsl (hk.below hv hk.lt))
  obtain ⟨B0, HB0⟩ : ∃ y, Hid (I * 2 ^ L = y) := ⟨_, hide rfl⟩
  obtain ⟨B1, HB1⟩ : ∃ y, Hid ((I + 1) * 2 ^ L = y) := ⟨_, hide rfl⟩
  have hB01 : B0 < B1 := by
    rw [← HB0.out, ← HB1.out, Nat.add_mul, Nat.one_mul]
    have := Nat.two_pow_pos L
    omega
  have hB1N : B1 ≤ N := by rw [← HB1.out]; exact sf.top
  have SC : Hid (∀ v : World, Below w.heap.size w v → Calls Tryd.prog 13 #[.slice a N cap, .agg #[.int .i64 (B0 : Int), .int .i64 (B1 : Int)]] v fun r w' => r = .returned (.tuple #[.agg (u8s R).toArray, .int .i64 0]) ∧ Below v.heap.size v w') := hide (fun v hv => by
    have h3 := sub_any a N cap (B0 : Int) (B1 : Int) xs v (hs.below hv) (hk.below hv hk.lt)
    obtain ⟨q1, q2⟩ := sb_ok (xs := xs) hB01 hB1N
    rw [q1, q2, ← HB0.out, ← HB1.out, sf.sub', HB0.out, HB1.out] at h3
    exact h3)
  obtain ⟨P, hP⟩ : ∃ P, 2 ^ H = P := ⟨_, rfl⟩
  obtain ⟨p1, p2, p3, p4⟩ := pow_w hP hH
  have HPW := hide p1
  clear p1 p2
  have hTP : (T : Int) ≤ (P : Int) := Int.ofNat_le.2 (by rw [← hP]; exact sf.hT2)
  have hFT : (F : Int) < (T : Int) := by have := sf.hFT; omega
  have hTw : (T : Int) ≤ (wd : Int) := by have := sf.hTw; omega
  have HQ0 := hide (pow_int N L)
  obtain ⟨Q, HQ⟩ : ∃ Q, Hid (N / 2 ^ L = Q) := ⟨_, hide rfl⟩
  have HQ1 : Hid ((N : Int) / 2 ^ L = (Q : Int)) := hide (by rw [HQ0.out, HQ.out])
  have hIQ : (I : Int) < (Q : Int) := by rw [HQ.out] at hI; omega
  have hQN : Q ≤ N := by rw [← HQ.out]; exact Nat.div_le_self _ _
  have HE0 : Hid ((I : Int) * 2 ^ L = (B0 : Int)) := hide (by rw [← HB0.out, Int.natCast_mul, Int.natCast_pow]; rfl)
  have HE1 : Hid (((I : Int) + 1) * 2 ^ L = (B1 : Int)) := hide (by rw [← HB1.out, Int.natCast_mul, Int.natCast_pow]; rfl)
  have hL2 : (L : Int) ≤ 20 := by omega
  have hw256 := sf.hw256
  clear hs hk sf hsubl hVI hXN hlv48 DB0 hcl hcb hdg hDD hYS hI hP hH HQ HQ0 hL
  go_enter Tryd.func4, Tryd.ntmps4
  have hq1 := HQ1.out
  go_wp2_with (refine step_box (cs := c2 (L : Int) (I : Int)) rfl rfl ?_)
  intro w1 g1 hg1 hle1 hb1
  have HG1 := hide hg1
  obtain ⟨c0, c1⟩ := hg1.two
  have HBB1 := hide hb1
  clear hg1 hb1
  go_upto_region 3 with fail
  clear hq1
  go_wp2_with (refine step_loadA wN rfl rfl HG1.out rfl ?_)
  refine (HOF.out _).mono ?_
  rintro r w2 ⟨rfl, hb2⟩
  have B2 := hide (on_below HBB1.out hb2)
  have N2 := hide (HG1.out.on hb2)
  clear hb2 HBB1 HG1 c0 c1 HOF
  go_wp2_with (first | (refine step_alloc zT rfl ?_; intro w3 g3 hg3 hle3 hb3; have HG3 := hide hg3; clear hg3) | (refine step_storeA wT rfl rfl rfl HG3.out rfl (One.c4 (H : Int) (lv : Int) (X : Int) (T : Int)) rfl ?_))
  intro w4 hg4 hbut4
  have hb4 : Below w2.heap.size w2 w4 := hb3.trans (hbut4.below hle3)
  have B4 := hide (on_below B2.out hb4)
  have N4 := hide (N2.out.on hb4)
  have T4 := hide hg4
  have l3 : w.heap.size ≤ g3 := Nat.le_trans B2.out.size hle3
  have hne : g1 ≠ g3 := by have := N2.out.lt; omega
  obtain ⟨t0, t1, t2, t3⟩ := hg4.four
  clear hb4 hb3 hbut4 hle3 HG3 hg4 N2 B2
  go_wp2_with (simp only [HPW.out])
  refine (HWD.out _).mono ?_
  rintro r w5 ⟨rfl, hb5⟩
  have B5 := hide (on_below B4.out hb5)
  have N5 := hide (N4.out.on hb5)
  have T5 := hide (T4.out.on hb5)
  obtain ⟨t0, t1, t2, t3⟩ := T5.out.four
  have f3 := T5.out.free 3
  clear hb5 B4 N4 T4 HWD
  go_wp2_with fail
  obtain ⟨w6, hw6⟩ : ∃ v : World, v = w5.setCell ⟨g3, 3, none⟩ (.int .i64 (wd : Int)) := ⟨_, rfl⟩
  have T6 : Hid (Blk w6 g3 23 (c4 (H : Int) (lv : Int) (X : Int) (wd : Int))) := hide (by rw [hw6]; exact T5.out.set 3 _)
  have hbut6 : But g3 w5 w6 := by rw [hw6]; exact But.setCell _ _ _ _
  have N6 := hide (N5.out.but hbut6 hne)
  have B6 := hide (B5.out.trans (hbut6.below l3))
  rw [← hw6]
  clear hw6 hbut6 N5 B5 T5 t0 t1 t2 t3 f3
  refine joinG3 (fun g W => Hid (Blk W g 40 (u8s R)) ∧ Hid (Below w6.heap.size w6 W)) ?act ?tail (fun hjoin => ?_)
  rotate_left
  rotate_left
  · refine wp_region_noPanic ?_
    have Y0 := hide ((Below.refl w6.heap.size w6).drew)
    have HI1 : Hid ((Tryd.prog.info? 23).map (·.size) = some (c4 (H : Int) (lv : Int) (X : Int) (wd : Int)).length) := hide (by rw [wT.size]; rfl)
    have HI2 : Hid ((Tryd.prog.info? 33).map (·.size) = some (c2 (L : Int) (I : Int)).length) := hide (by rw [wN.size]; rfl)
    have HX0 : Hid (∀ v : World, Below w6.heap.size w6 v → v.rangeAt g3 0 (c4 (H : Int) (lv : Int) (X : Int) (wd : Int))) := hide (fun v hv => (T6.out.on hv).range 0 _ (by simp))
    have HY0 : Hid (∀ v : World, Below w6.heap.size w6 v → v.rangeAt g1 0 (c2 (L : Int) (I : Int))) := hide (fun v hv => (N6.out.on hv).range 0 _ (by simp))
    refine wp_region_held_drew (S := fun v : World => Below w6.heap.size w6 v) (by kernel_rfl) Y0.out (fun hHeld => ?_)
    refine takeH 0 90 (.agg (c4 (H : Int) (lv : Int) (X : Int) (wd : Int)).toArray) hHeld rfl rfl (by kernel_rfl) (by kernel_rfl) (by kernel_rfl) (fun _ _ _ h => h) (yieldsIf_load_mid (by rfl) _ _ rfl g3 0 rfl _ _ (fun w h => HX0.out w h) Tryd.underlying23 rfl HI1.out) ?_
    simp only [Act.put, List.setIfInBounds_toArray, List.set_cons_zero, List.set_cons_succ]
    refine takeH 1 91 (.slice a N cap) hHeld rfl rfl (by kernel_rfl) (by kernel_rfl) (by kernel_rfl) (fun _ _ _ h => h) (Or.inl ⟨by rfl, fun w _ => by go_simp⟩) ?_
    simp only [Act.put, List.setIfInBounds_toArray, List.set_cons_zero, List.set_cons_succ]
    refine takeH 2 92 (.agg (c4 (H : Int) (lv : Int) (X : Int) (wd : Int)).toArray) hHeld rfl rfl (by kernel_rfl) (by kernel_rfl) (by kernel_rfl) (fun _ _ _ h => h) (yieldsIf_load_mid (by rfl) _ _ rfl g3 0 rfl _ _ (fun w h => HX0.out w h) Tryd.underlying23 rfl HI1.out) ?_
    simp only [Act.put, List.setIfInBounds_toArray, List.set_cons_zero, List.set_cons_succ]
    refine takeH 4 94 (.agg (c2 (L : Int) (I : Int)).toArray) hHeld rfl rfl (by kernel_rfl) (by kernel_rfl) (by kernel_rfl) (fun _ _ _ h => h) (yieldsIf_load_mid (by rfl) _ _ rfl g1 0 rfl _ _ (fun w h => HY0.out w h) Tryd.underlying33 rfl HI2.out) ?_
    simp only [Act.put, List.setIfInBounds_toArray, List.set_cons_zero, List.set_cons_succ]
    refine wpAnyH_ready (rs := [3, 9]) (by kernel_rfl) (by simp) (AllReadyH.cons rfl (fun K hK => ?_) (AllReadyH.cons rfl (fun K hK => ?_) AllReadyH.nil))
    · rw [if_pos (by rfl)]
      go_simp
      refine (DB.out _ (on_below B6.out Y0.out)).mono ?_
      rintro r va ⟨bs, bc, rfl, hbo, hv⟩
      have Y1 := hide (on_below Y0.out hv)
      have S1 := hide hbo
      refine hK.out _ _ Y1.out (fun hHeld => ?_)
      clear hK K
      try simp only [Act.put, List.setIfInBounds_toArray, List.set_cons_zero, List.set_cons_succ]
      refine wpAnyH_ready (rs := [5, 9]) (by kernel_rfl) (by simp) (AllReadyH.cons rfl (fun K hK => ?_) (AllReadyH.cons rfl (fun K hK => ?_) AllReadyH.nil))
      · rw [if_pos (by rfl)]
        go_simp
        refine (DD.out _ (on_below B6.out Y1.out) bs bc S1.out).mono ?_
        rintro r vb ⟨rfl, hv2⟩
        have Y2 := hide (on_below Y1.out hv2)
        refine hK.out _ _ Y2.out (fun hHeld => ?_)
        clear hK K
        try simp only [Act.put, List.setIfInBounds_toArray, List.set_cons_zero, List.set_cons_succ]
        refine takeH 6 89 (.tuple #[.agg (u8s R).toArray, .int .i64 0]) hHeld rfl rfl (by kernel_rfl) (by kernel_rfl) (by kernel_rfl) (fun _ _ _ h => h) (Or.inl ⟨by rfl, fun w _ => by go_simp⟩) ?_
        simp only [Act.put, List.setIfInBounds_toArray, List.set_cons_zero, List.set_cons_succ]
        refine takeH 7 96 (.agg (u8s R).toArray) hHeld rfl rfl (by kernel_rfl) (by kernel_rfl) (by kernel_rfl) (fun _ _ _ h => h) (Or.inl ⟨by rfl, fun w _ => by go_simp⟩) ?_
        simp only [Act.put, List.setIfInBounds_toArray, List.set_cons_zero, List.set_cons_succ]
        refine takeH 8 97 (.int .i64 0) hHeld rfl rfl (by kernel_rfl) (by kernel_rfl) (by kernel_rfl) (fun _ _ _ h => h) (Or.inl ⟨by rfl, fun w _ => by go_simp⟩) ?_
        simp only [Act.put, List.setIfInBounds_toArray, List.set_cons_zero, List.set_cons_succ]
        refine wpAnyH_ready (rs := [9]) (by kernel_rfl) (by simp) (AllReadyH.cons rfl (fun K hK => ?_) AllReadyH.nil)
        rw [if_pos (by rfl)]
        refine wp_allocGT zD ?_
        intro vc g12 hgn hln hbn
        have Y3 := hide (on_below Y2.out hbn)
        have GB := hide hgn
        have LE := hide (Nat.le_trans Y2.out.size hln)
        refine hK.out _ _ Y3.out (fun hHeld => ?_)
        clear hK K
        try simp only [Act.put, List.setIfInBounds_toArray, List.set_cons_zero, List.set_cons_succ]
        refine wpAnyH_ready (rs := [10]) (by kernel_rfl) (by simp) (AllReadyH.cons rfl (fun K hK => ?_) AllReadyH.nil)
        rw [if_pos (by rfl)]
        refine wp_storeGT wD rfl rfl GB.out HRU.out (One.u8 _) rfl ?_
        intro vz hgz hbutz
        have YZ := hide (Y3.out.trans (hbutz.below LE.out))
        refine hK.out _ _ YZ.out (fun hHeld => ?_)
        clear hK K
        try simp only [Act.put, List.setIfInBounds_toArray, List.set_cons_zero, List.set_cons_succ]
        refine takeH 11 10 (.int .i64 0) hHeld rfl rfl (by kernel_rfl) (by kernel_rfl) (by kernel_rfl) (fun _ _ _ h => h) (Or.inl ⟨by rfl, fun w _ => by go_simp⟩) ?_
        simp only [Act.put, List.setIfInBounds_toArray, List.set_cons_zero, List.set_cons_succ]
        refine wpAnyH_done (by kernel_rfl) ?_ _
        refine NoPanic.normal ?_
        exact hjoin g12 bs bc vz ⟨hide hgz, YZ⟩
      · rw [if_pos (by rfl)]
        refine wp_allocGT zD ?_
        intro vb g12 hgn hln hbn
        have Y2 := hide (on_below Y1.out hbn)
        have GA := hide hgn
        have S2 := hide (S1.out.below hbn)
        have LE := hide (Nat.le_trans Y1.out.size hln)
        refine hK.out _ _ Y2.out (fun hHeld => ?_)
        clear hK K
        try simp only [Act.put, List.setIfInBounds_toArray, List.set_cons_zero, List.set_cons_succ]
        refine wpAnyH_ready (rs := [5]) (by kernel_rfl) (by simp) (AllReadyH.cons rfl (fun K hK => ?_) AllReadyH.nil)
        rw [if_pos (by rfl)]
        go_simp
        refine (DD.out _ (on_below B6.out Y2.out) bs bc S2.out).mono ?_
        rintro r vc ⟨rfl, hv2⟩
        have Y3 := hide (on_below Y2.out hv2)
        have GB := hide (GA.out.on hv2)
        refine hK.out _ _ Y3.out (fun hHeld => ?_)
        clear hK K
        try simp only [Act.put, List.setIfInBounds_toArray, List.set_cons_zero, List.set_cons_succ]
        refine takeH 6 89 (.tuple #[.agg (u8s R).toArray, .int .i64 0]) hHeld rfl rfl (by kernel_rfl) (by kernel_rfl) (by kernel_rfl) (fun _ _ _ h => h) (Or.inl ⟨by rfl, fun w _ => by go_simp⟩) ?_
        simp only [Act.put, List.setIfInBounds_toArray, List.set_cons_zero, List.set_cons_succ]
        refine takeH 7 96 (.agg (u8s R).toArray) hHeld rfl rfl (by kernel_rfl) (by kernel_rfl) (by kernel_rfl) (fun _ _ _ h => h) (Or.inl ⟨by rfl, fun w _ => by go_simp⟩) ?_
        simp only [Act.put, List.setIfInBounds_toArray, List.set_cons_zero, List.set_cons_succ]
        refine takeH 8 97 (.int .i64 0) hHeld rfl rfl (by kernel_rfl) (by kernel_rfl) (by kernel_rfl) (fun _ _ _ h => h) (Or.inl ⟨by rfl, fun w _ => by go_simp⟩) ?_
        simp only [Act.put, List.setIfInBounds_toArray, List.set_cons_zero, List.set_cons_succ]
        refine wpAnyH_ready (rs := [10]) (by kernel_rfl) (by simp) (AllReadyH.cons rfl (fun K hK => ?_) AllReadyH.nil)
        rw [if_pos (by rfl)]
        refine wp_storeGT wD rfl rfl GB.out HRU.out (One.u8 _) rfl ?_
        intro vz hgz hbutz
        have YZ := hide (Y3.out.trans (hbutz.below LE.out))
        refine hK.out _ _ YZ.out (fun hHeld => ?_)
        clear hK K
        try simp only [Act.put, List.setIfInBounds_toArray, List.set_cons_zero, List.set_cons_succ]
        refine takeH 11 10 (.int .i64 0) hHeld rfl rfl (by kernel_rfl) (by kernel_rfl) (by kernel_rfl) (fun _ _ _ h => h) (Or.inl ⟨by rfl, fun w _ => by go_simp⟩) ?_
        simp only [Act.put, List.setIfInBounds_toArray, List.set_cons_zero, List.set_cons_succ]
        refine wpAnyH_done (by kernel_rfl) ?_ _
        refine NoPanic.normal ?_
        exact hjoin g12 bs bc vz ⟨hide hgz, YZ⟩
    · rw [if_pos (by rfl)]
      refine wp_allocGT zD ?_
      intro va g12 hgn hln hbn
      have Y1 := hide (on_below Y0.out hbn)
      have G0 := hide hgn
      have LE := hide (Nat.le_trans Y0.out.size hln)
      refine hK.out _ _ Y1.out (fun hHeld => ?_)
      clear hK K
      try simp only [Act.put, List.setIfInBounds_toArray, List.set_cons_zero, List.set_cons_succ]
      refine wpAnyH_ready (rs := [3]) (by kernel_rfl) (by simp) (AllReadyH.cons rfl (fun K hK => ?_) AllReadyH.nil)
      rw [if_pos (by rfl)]
      go_simp
      refine (DB.out _ (on_below B6.out Y1.out)).mono ?_
      rintro r vb ⟨bs, bc, rfl, hbo, hv⟩
      have Y2 := hide (on_below Y1.out hv)
      have S2 := hide hbo
      have GA := hide (G0.out.on hv)
      refine hK.out _ _ Y2.out (fun hHeld => ?_)
      clear hK K
      try simp only [Act.put, List.setIfInBounds_toArray, List.set_cons_zero, List.set_cons_succ]
      refine wpAnyH_ready (rs := [5]) (by kernel_rfl) (by simp) (AllReadyH.cons rfl (fun K hK => ?_) AllReadyH.nil)
      rw [if_pos (by rfl)]
      go_simp
      refine (DD.out _ (on_below B6.out Y2.out) bs bc S2.out).mono ?_
      rintro r vc ⟨rfl, hv2⟩
      have Y3 := hide (on_below Y2.out hv2)
      have GB := hide (GA.out.on hv2)
      refine hK.out _ _ Y3.out (fun hHeld => ?_)
      clear hK K
      try simp only [Act.put, List.setIfInBounds_toArray, List.set_cons_zero, List.set_cons_succ]
      refine takeH 6 89 (.tuple #[.agg (u8s R).toArray, .int .i64 0]) hHeld rfl rfl (by kernel_rfl) (by kernel_rfl) (by kernel_rfl) (fun _ _ _ h => h) (Or.inl ⟨by rfl, fun w _ => by go_simp⟩) ?_
      simp only [Act.put, List.setIfInBounds_toArray, List.set_cons_zero, List.set_cons_succ]
      refine takeH 7 96 (.agg (u8s R).toArray) hHeld rfl rfl (by kernel_rfl) (by kernel_rfl) (by kernel_rfl) (fun _ _ _ h => h) (Or.inl ⟨by rfl, fun w _ => by go_simp⟩) ?_
      simp only [Act.put, List.setIfInBounds_toArray, List.set_cons_zero, List.set_cons_succ]
      refine takeH 8 97 (.int .i64 0) hHeld rfl rfl (by kernel_rfl) (by kernel_rfl) (by kernel_rfl) (fun _ _ _ h => h) (Or.inl ⟨by rfl, fun w _ => by go_simp⟩) ?_
      simp only [Act.put, List.setIfInBounds_toArray, List.set_cons_zero, List.set_cons_succ]
      refine wpAnyH_ready (rs := [10]) (by kernel_rfl) (by simp) (AllReadyH.cons rfl (fun K hK => ?_) AllReadyH.nil)
      rw [if_pos (by rfl)]
      refine wp_storeGT wD rfl rfl GB.out HRU.out (One.u8 _) rfl ?_
      intro vz hgz hbutz
      have YZ := hide (Y3.out.trans (hbutz.below LE.out))
      refine hK.out _ _ YZ.out (fun hHeld => ?_)
      clear hK K
      try simp only [Act.put, List.setIfInBounds_toArray, List.set_cons_zero, List.set_cons_succ]
      refine takeH 11 10 (.int .i64 0) hHeld rfl rfl (by kernel_rfl) (by kernel_rfl) (by kernel_rfl) (fun _ _ _ h => h) (Or.inl ⟨by rfl, fun w _ => by go_simp⟩) ?_
      simp only [Act.put, List.setIfInBounds_toArray, List.set_cons_zero, List.set_cons_succ]
      refine wpAnyH_done (by kernel_rfl) ?_ _
      refine NoPanic.normal ?_
      exact hjoin g12 bs bc vz ⟨hide hgz, YZ⟩
  · rintro g12 bs bc w7 ⟨G7, Y7⟩
    have B7 := hide (on_below B6.out Y7.out)
    have N7 := hide (N6.out.on Y7.out)
    obtain ⟨c0, c1⟩ := N7.out.two
    have e0 := HE0.out
    have e1 := HE1.out
    go_wp2_with fail
    clear e0 e1
    refine (SC.out _ B7.out).mono ?_
    rintro r w8 ⟨rfl, hb8⟩
    have B8 := hide (on_below B7.out hb8)
    have G8 := hide (G7.out.on hb8)
    clear hb8 B7 G7 N7 c0 c1 SC
    go_wp2_with (first | (refine step_alloc zD rfl ?_; intro w9 g9 hg9 hle9 hb9; have HG9 := hide hg9; clear hg9) | (refine step_storeA wD rfl rfl rfl HG9.out HRU.out (One.u8 _) rfl ?_))
    intro wa hga hbuta
    have hba : Below w8.heap.size w8 wa := hb9.trans (hbuta.below hle9)
    have Ba := hide (on_below B8.out hba)
    have Ga := hide (G8.out.on hba)
    have Gb := hide hga
    clear hba hb9 hbuta hle9 HG9 hga B8 G8
    go_wp2_with (first | (refine step_loadA wD rfl rfl Ga.out HRU.out ?_) | (refine step_loadA wD rfl rfl Gb.out HRU.out ?_) | (refine step_eqA aD rfl rfl rfl HRL.out HRL.out ?_))
    go_ret
    exact ⟨rfl, Ba.out⟩
set_option maxRecDepth 100000 in
set_option maxHeartbeats 4000000 in
theorem tileSubs_walk (h : Int) (a : Option Addr) (N cap : Nat) (xs : List Int) (na nb : Int) (w : World) (hw : (Lit.int .i64 h).wf = true) (hs : Ds w a N cap xs) (hcp : cap ≤ 4398046510976) (hk : KT w) :
    Calls Tryd.prog 4 #[.int .i64 h, .slice a N cap, .agg #[.int .i64 na, .int .i64 nb]] w fun e w' => e = .returned (.bool true) ∧ Below w.heap.size w w' := by
  have hN := hs.hreach
  by_cases z1 : h < 1
  · clear hs hk hw
    go_enter Tryd.func4, Tryd.ntmps4
    go_wp2_with (refine step_box (cs := c2 na nb) rfl rfl ?_)
    intro w1 g1 hg1 hle1 hb1
    obtain ⟨c0, c1⟩ := hg1.two
    clear hg1
    go_wp2
    go_ret
    exact ⟨rfl, hb1⟩
  by_cases z2 : h > 8
  · clear hs hk hw
    go_enter Tryd.func4, Tryd.ntmps4
    go_wp2_with (refine step_box (cs := c2 na nb) rfl rfl ?_)
    intro w1 g1 hg1 hle1 hb1
    obtain ⟨c0, c1⟩ := hg1.two
    clear hg1
    go_wp2
    go_ret
    exact ⟨rfl, hb1⟩
  by_cases z3 : na < 0
  · clear hs hk hw
    go_enter Tryd.func4, Tryd.ntmps4
    go_wp2_with (refine step_box (cs := c2 na nb) rfl rfl ?_)
    intro w1 g1 hg1 hle1 hb1
    obtain ⟨c0, c1⟩ := hg1.two
    clear hg1
    go_wp2
    go_ret
    exact ⟨rfl, hb1⟩
  by_cases z4 : na > 20
  · clear hs hk hw
    go_enter Tryd.func4, Tryd.ntmps4
    go_wp2_with (refine step_box (cs := c2 na nb) rfl rfl ?_)
    intro w1 g1 hg1 hle1 hb1
    obtain ⟨c0, c1⟩ := hg1.two
    clear hg1
    go_wp2
    go_ret
    exact ⟨rfl, hb1⟩
  by_cases z5 : nb < 0
  · clear hs hk hw
    go_enter Tryd.func4, Tryd.ntmps4
    go_wp2_with (refine step_box (cs := c2 na nb) rfl rfl ?_)
    intro w1 g1 hg1 hle1 hb1
    obtain ⟨c0, c1⟩ := hg1.two
    clear hg1
    go_wp2
    go_ret
    exact ⟨rfl, hb1⟩
  obtain ⟨H, rfl⟩ : ∃ H : Nat, h = (H : Int) := ⟨h.toNat, by omega⟩
  obtain ⟨L, rfl⟩ : ∃ H : Nat, na = (H : Int) := ⟨na.toNat, by omega⟩
  obtain ⟨I, rfl⟩ : ∃ H : Nat, nb = (H : Int) := ⟨nb.toNat, by omega⟩
  by_cases z6 : I < N / 2 ^ L
  · exact tileSubs_main H L I N cap a xs w ⟨by omega, by omega⟩ (by omega) z6 hs hk
  · have hq := pow_int N L
    have hqn : N / 2 ^ L ≤ N := Nat.div_le_self _ _
    generalize N / 2 ^ L = Q at *
    have z7 : (I : Int) ≥ (Q : Int) := by omega
    have hL2 : (L : Int) ≤ 20 := by omega
    clear hs hk hw z6
    go_enter Tryd.func4, Tryd.ntmps4
    go_wp2_with (refine step_box (cs := c2 (L : Int) (I : Int)) rfl rfl ?_)
    intro w1 g1 hg1 hle1 hb1
    obtain ⟨c0, c1⟩ := hg1.two
    clear hg1
    go_wp2
    go_ret
    exact ⟨rfl, hb1⟩

end Go.Proofs.YtnlpgkfmjlljdabDoor
