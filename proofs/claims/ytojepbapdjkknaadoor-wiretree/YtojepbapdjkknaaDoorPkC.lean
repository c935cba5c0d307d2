/-
  Texts one behind the other: WtLaw.
-/
import Derived.Test.YtojepbapdjkknaaDoorPkB

/-
  The walk of WireTree.
-/
namespace Go.Proofs.YtojepbapdjkknaaDoor
open Go.RowKit
set_option linter.unusedVariables false
set_option linter.unusedSimpArgs false

theorem joinB {T : Program} {c : Code} {a : Act} {w : World} {Q : Exit → Act → World → Prop} {K : Act → World → Prop} (P : Nat → Nat → World → Prop) (act : Nat → Nat → Act) (h1 : ∀ g h W, P g h W → K (act g h) W) (h2 : (∀ g h W, P g h W → K (act g h) W) → Code.wp T c (Exit.then K Q) a w) : Code.wp T c (Exit.then K Q) a w := h2 h1
theorem tree_0 (a : Option Addr) (cap : Nat) (i n : Int) (w : World) :
    Calls Tryd.prog 7 #[.slice a 0 cap, .int .i64 i, .int .i64 n] w fun e w' => e = .returned (.bool true) ∧ Below w.heap.size w w' := by
  go_enter Tryd.func7, Tryd.ntmps7
  go_wp2
  go_ret
  exact ⟨rfl, Below.refl _ _⟩
theorem sub_takeW (xs : List Int) (n : Nat) : sub xs 0 n = xs.take (32 * n) := by simp [sub]
/-- A number taken into 0 .. l - 1. -/
theorem into (v : Int) (l : Nat) (hl : 0 < l) (hm : l ≤ 4398046511104) : ∃ (x : Int) (N : Nat), v.tmod (l : Int) = x ∧ -(l : Int) < x ∧ x < (l : Int) ∧ (x + (l : Int)).tmod (l : Int) = (N : Int) ∧ N < l := by
  have h1 : v.tmod (l : Int) < (l : Int) := Int.tmod_lt_of_pos _ (by omega)
  have h2 : -(l : Int) < v.tmod (l : Int) := Int.lt_tmod_of_pos v (by omega)
  have h3 : (v.tmod (l : Int) + (l : Int)).tmod (l : Int) = (v.tmod (l : Int) + (l : Int)) % (l : Int) := Int.tmod_eq_emod_of_nonneg (by omega)
  have h4 : 0 ≤ (v.tmod (l : Int) + (l : Int)) % (l : Int) := Int.emod_nonneg _ (by omega)
  have h5 : (v.tmod (l : Int) + (l : Int)) % (l : Int) < (l : Int) := Int.emod_lt_of_pos _ (by omega)
  exact ⟨_, ((v.tmod (l : Int) + (l : Int)) % (l : Int)).toNat, rfl, h2, h1, by rw [h3]; omega, by omega⟩
section
variable {dst : Option Tmp} {ty : TypeId} {pos : String} {aft : Array Edge} {gd : Option (Nat × Bool)} {ops : Array Oper} {rest : List Oper} {a : Act} {w : World} {Q : Exit → Act → World → Prop}
theorem step_buildP4 {x y z u : Operand} {K I N : Int} {sa : Option Addr} {m c : Nat} (hw : Region.wanted ⟨dst, .build 24 #[(0, x), (1, y), (2, z), (3, u)], ty, pos, aft, gd⟩ (yielded ops a.tmps) = true) (hx : a.eval x = .int .i64 K) (hy : a.eval y = .int .i64 I) (hz : a.eval z = .int .i64 N) (hu : a.eval u = .slice sa m c)
    (h : wpList Tryd.prog ops Q rest (a.put dst (.agg (pfC K I N (.slice sa m c)).toArray)) w) : wpList Tryd.prog ops Q (⟨dst, .build 24 #[(0, x), (1, y), (2, z), (3, u)], ty, pos, aft, gd⟩ :: rest) a w :=
  step_run hw _ w (by simp only [execOp, List.map_toArray, List.map_cons, List.map_nil, hx, hy, hz, hu]; kernel_rfl) h
end
theorem set_ne {xs : List Int} (hx : xs.length = 32) (z : Int) (hz : z ≠ xs.getD 3 0) : xs ≠ xs.set 3 z := by
  intro e
  have h1 : (xs.set 3 z).getD 3 0 = z := by simp [List.getD, hx]
  rw [← e] at h1
  exact hz h1.symm
set_option maxRecDepth 100000 in
set_option maxHeartbeats 8000000 in
theorem tree_walk (a : Option Addr) (l cap : Nat) (xs : List Int) (av nv : Int) (w : World) (hs : Ds w a l cap xs) (hc : cap ≤ 4398046510976) (hi : (Lit.int .i64 av).wf = true) (hn : (Lit.int .i64 nv).wf = true) (hk : KT w) :
    Calls Tryd.prog 7 #[.slice a l cap, .int .i64 av, .int .i64 nv] w fun e w' => e = .returned (.bool true) ∧ Below w.heap.size w w' := by
  by_cases h0 : l = 0
  · subst h0; exact tree_0 a cap av nv w
  have hcap := hs.hcap
  obtain ⟨b, o, rfl⟩ := hs.place (by omega)
  obtain ⟨x1, N1, hx1, hx1a, hx1b, hx2, hN1⟩ := into nv l (by omega) (by omega)
  obtain ⟨n, hnn⟩ : ∃ n, N1 + 1 = n := ⟨_, rfl⟩
  obtain ⟨y1, i, hy1, hy1a, hy1b, hy2, hin⟩ := into av n (by omega) (by omega)
  have hn1 : 1 ≤ n := by omega
  have hn2 : n ≤ l := by omega
  obtain ⟨m, hm⟩ : ∃ m, i + 1 = m := ⟨_, rfl⟩
  have hm1 : 1 ≤ m := by omega
  have hm2 : m ≤ n := by omega
  obtain ⟨p1, p2⟩ := path_root hs.hlen hs.hbyte (by omega) hin hn2
  obtain ⟨s1, s2, s3⟩ := steps_roots hs.hlen hs.hbyte (by omega) hm1 hm2 hn2
  have hPB : isB (path (sub xs 0 n) i) := (path_bd n n i (sub xs 0 n) (Nat.le_refl _) (by omega) (by rw [sub_length hs.hlen (Nat.zero_le _) hn2, Nat.sub_zero]) (by omega) (sub_isB hs.hbyte _ _) hin).2
  have hSB : isB (steps (sub xs 0 n) m true) := (steps_bd n n m true (sub xs 0 n) (Nat.le_refl _) (by omega) hm2 (by rw [sub_length hs.hlen (Nat.zero_le _) hn2, Nat.sub_zero]) (by omega) (sub_isB hs.hbyte _ _)).2
  have hDL := dat_length hs.hlen (show i < l by omega)
  have hDB := dat_isB hs.hbyte i
  have EE := hide (show inE l (i : Int) (n : Int) = 0 by unfold inE; rw [if_neg (by omega)])
  have EP := hide (show inP xs l (i : Int) (n : Int) = path (sub xs 0 n) i by unfold inP; rw [if_neg (by omega)]; simp)
  have CE := hide (show coE l (m : Int) (n : Int) = 0 by unfold coE; rw [if_neg (by omega)])
  have CP := hide (show coP xs l (m : Int) (n : Int) = steps (sub xs 0 n) m true by unfold coP; rw [if_neg (by omega)]; simp)
  have hOL : (root (sub xs 0 m)).length = 32 := root_length (sub_length hs.hlen (Nat.zero_le m) (by omega)) (sub_isB hs.hbyte _ _)
  have hOB : isB (root (sub xs 0 m)) := root_isB (sub_length hs.hlen (Nat.zero_le m) (by omega)) (sub_isB hs.hbyte _ _)
  have hNL : (root (sub xs 0 n)).length = 32 := root_length (sub_length hs.hlen (Nat.zero_le n) (by omega)) (sub_isB hs.hbyte _ _)
  have hNB : isB (root (sub xs 0 n)) := root_isB (sub_length hs.hlen (Nat.zero_le n) (by omega)) (sub_isB hs.hbyte _ _)
  have HR1 : Hid (∀ v : World, Below w.heap.size w v → Calls Tryd.prog 27 #[.slice (some ⟨b, o, none⟩) m cap] v fun e w' => e = .returned (.agg (u8s (root (sub xs 0 m))).toArray) ∧ Below v.heap.size v w') := hide fun v hv => by
    rw [sub_takeW]; exact root_any m _ m cap (xs.take (32 * m)) v (Nat.le_refl _) ((hs.take m (by omega)).below hv) (hk.below hv hk.lt)
  have HR2 : Hid (∀ v : World, Below w.heap.size w v → Calls Tryd.prog 27 #[.slice (some ⟨b, o, none⟩) n cap] v fun e w' => e = .returned (.agg (u8s (root (sub xs 0 n))).toArray) ∧ Below v.heap.size v w') := hide fun v hv => by
    rw [sub_takeW]; exact root_any n _ n cap (xs.take (32 * n)) v (Nat.le_refl _) ((hs.take n (by omega)).below hv) (hk.below hv hk.lt)
  have HRB : Hid (RB (dat xs i) (i : Int) (n : Int) (hvL i 0 n).length (path (sub xs 0 n) i) (root (sub xs 0 n)) 0) := hide ⟨hNL, hNB, fun a cap w hs hk => by rw [← p2]; exact root7_ok (dat xs i) i n a _ cap _ w hin (by omega) rfl hDL hDB hs hk, fun a cap w hs => by rw [← p2]; exact rootR7_ok (dat xs i) i n a _ cap _ w hin (by omega) rfl hDL hDB hs⟩
  have HRT : Hid (RT (root (sub xs 0 m)) (m : Int) (n : Int) ((hvM m 0 n).length + ptM m 0 n) (steps (sub xs 0 n) m true) (root (sub xs 0 m)) (root (sub xs 0 n)) 0) := hide ⟨hOL, hOB, hNL, hNB, fun a cap w hs hk => by
      have := roots7_ok (root (sub xs 0 m)) m n a _ cap _ w hm1 hm2 (by omega) rfl hOL hOB hs hk
      rwa [s2, s3] at this, fun a cap w hs => by
      have := rootsR7_ok (root (sub xs 0 m)) m n a _ cap _ w hm1 hm2 (by omega) rfl hOL hOB hs
      rwa [s2, s3] at this⟩
  have HC1 : Hid (pcnt 1 (i : Int) (n : Int) = some (hvL i 0 n).length) := hide (by unfold pcnt; rw [if_pos rfl, if_pos (by omega)]; rfl)
  have HC2 : Hid (pcnt 2 (m : Int) (n : Int) = some ((hvM m 0 n).length + ptM m 0 n)) := hide (by unfold pcnt; rw [if_neg (by decide), if_pos rfl, if_pos (by omega)]; rfl)
  have hLf := pcnt_le HC1.out
  have hLs := pcnt_le HC2.out
  have HP1 := hide p1
  have HS1 := hide s1
  have HPB := hide hPB
  have HSB := hide hSB
  have HOL := hide hOL
  have HOB := hide hOB
  have HNL := hide hNL
  have HNB := hide hNB
  have HOU := hide (show (u8s (root (sub xs 0 m))).length = 32 by rw [u8s_length, hOL])
  have HNU := hide (show (u8s (root (sub xs 0 n))).length = 32 by rw [u8s_length, hNL])
  have HDL := hide hDL
  have HDB := hide hDB
  have HDU := hide (show (u8s (dat xs i)).length = 32 by rw [u8s_length, hDL])
  have HRG : Hid (∀ v : World, Below w.heap.size w v → v.rangeAt b (o + 32 * i) (u8s (dat xs i))) := hide (fun v hv => (hs.below hv).range i (by omega))
  generalize path (sub xs 0 n) i = PP at *
  generalize steps (sub xs 0 n) m true = SS at *
  generalize root (sub xs 0 m) = RO at *
  generalize root (sub xs 0 n) = RN at *
  generalize (hvL i 0 n).length = Lp at *
  generalize (hvM m 0 n).length + ptM m 0 n = Ls at *
  have HS := hide hs
  have HK := hide hk
  have hat := d_at b o l cap i (i : Int) rfl (by omega)
  have hto1 := d_to b o l cap m (m : Int) rfl (by omega)
  have hto2 := d_to b o l cap n (n : Int) rfl (by omega)
  have h0' : ¬ ((l : Int) = 0) := by omega
  have h0n : ¬ ((n : Int) = 0) := by omega
  have hw1 : wrap64 (x1 + (l : Int)) = x1 + (l : Int) := by unfold wrap64; omega
  have hw2 : (1 : Int) + (N1 : Int) = (n : Int) := by omega
  have hw3 : wrap64 (y1 + (n : Int)) = y1 + (n : Int) := by unfold wrap64; omega
  have hw4 : (i : Int) + 1 = (m : Int) := by omega
  have hw5 : wrap64 x1 = x1 := by unfold wrap64; omega
  have hw6 : wrap64 y1 = y1 := by unfold wrap64; omega
  have hll : l ≤ 4398046510976 := by omega
  have HMC : Hid (m ≤ cap ∧ n ≤ cap) := hide (by omega)
  have HWM : Hid (IntKind.i64.wrap (m : Int) = (m : Int)) := hide (wrap_in _ (by omega) (by omega))
  have hnl : n ≤ 4398046510976 := by omega
  clear hs hk p1 p2 s1 s2 s3 hPB hSB hDL hDB hOL hOB hNL hNB hi hn hcap hc
  have HX1 : Hid (DecB (encB 1 (i : Int) (n : Int) Lp PP) 1 (i : Int) (n : Int) Lp PP 0) := hide (dec_enc HC1.out HP1.out)
  have HX2 : Hid (DecB (encB 2 (m : Int) (n : Int) Ls SS) 2 (m : Int) (n : Int) Ls SS 0) := hide (dec_enc HC2.out HS1.out)
  have HE1 := hide (encB_length (k := 1) (f := (i : Int)) (s := (n : Int)) HP1.out)
  have HE2 := hide (encB_length (k := 2) (f := (m : Int)) (s := (n : Int)) HS1.out)
  have HB1 := hide (encB_isB HC1.out HPB.out)
  have HB2 := hide (encB_isB HC2.out HSB.out)
  obtain ⟨D4, E4, hR4⟩ := root_both (dat xs i) (m : Int) (n : Int) Ls SS HDL.out HDB.out
  obtain ⟨X5, Y5, E5, hR5⟩ := roots_both RO (i : Int) (n : Int) Lp PP HOL.out HOB.out HP1.out HPB.out
  have C1 : Hid (∀ (OT : List Int) (q : Option Addr) (L c : Nat) (V : World), OT.length = 32 → Below w.heap.size w V → Sl V q L c (encB 1 (i : Int) (n : Int) Lp PP) → Calls Tryd.prog 20 #[.slice q L c, .agg (u8s (dat xs i)).toArray, .agg (u8s OT).toArray] V fun r w' => r = .returned (.int .i64 (inR RN OT 0)) ∧ Below V.heap.size V w') :=
    hide (fun OT q L c V hO hV hb => check_any HX1.out (dat xs i) OT (inR RN OT 0) q L c V hb HDL.out hO (fun va vc U hU hd => inc7_any (dat xs i) OT (i : Int) (n : Int) va Lp vc PP RN 0 U HRB.out HDL.out hO hd (HK.out.below (on_below hV hU) HK.out.lt)))
  have C2 : Hid (∀ (q : Option Addr) (L c : Nat) (V : World), Below w.heap.size w V → Sl V q L c (encB 2 (m : Int) (n : Int) Ls SS) → Calls Tryd.prog 22 #[.slice q L c, .agg (u8s RO).toArray, .agg (u8s RN).toArray] V fun r w' => r = .returned (.int .i64 0) ∧ Below V.heap.size V w') :=
    hide (fun q L c V hV hb => by
      have := check2_any HX2.out RO RN (csR RO RN RO RN 0) q L c V hb HOL.out HNL.out (fun va vc U hU hd => cons7_any RO RN (m : Int) (n : Int) va Ls vc SS RO RN 0 U HRT.out HOL.out HNL.out hd (HK.out.below (on_below hV hU) HK.out.lt))
      rwa [show ckR 0 2 2 (csR RO RN RO RN 0) = 0 by unfold ckR csR; rw [if_pos rfl, if_pos rfl, if_pos rfl, if_pos ⟨rfl, rfl⟩]] at this)
  have C4 : Hid (∀ (q : Option Addr) (L c : Nat) (V : World), Below w.heap.size w V → Sl V q L c (encB 2 (m : Int) (n : Int) Ls SS) → Calls Tryd.prog 20 #[.slice q L c, .agg (u8s (dat xs i)).toArray, .agg (u8s RN).toArray] V fun r w' => r = .returned (.int .i64 2) ∧ Below V.heap.size V w') :=
    hide (fun q L c V hV hb => check_any HX2.out (dat xs i) RN (inR D4 RN E4) q L c V hb HDL.out HNL.out (fun va vc U hU hd => inc7_any (dat xs i) RN (m : Int) (n : Int) va Ls vc SS D4 E4 U hR4 HDL.out HNL.out hd (HK.out.below (on_below hV hU) HK.out.lt)))
  have C5 : Hid (∀ (q : Option Addr) (L c : Nat) (V : World), Below w.heap.size w V → Sl V q L c (encB 1 (i : Int) (n : Int) Lp PP) → Calls Tryd.prog 22 #[.slice q L c, .agg (u8s RO).toArray, .agg (u8s RN).toArray] V fun r w' => r = .returned (.int .i64 2) ∧ Below V.heap.size V w') :=
    hide (fun q L c V hV hb => check2_any HX1.out RO RN (csR X5 Y5 RO RN E5) q L c V hb HOL.out HNL.out (fun va vc U hU hd => cons7_any RO RN (i : Int) (n : Int) va Lp vc PP X5 Y5 E5 U hR5 HOL.out HNL.out hd (HK.out.below (on_below hV hU) HK.out.lt)))
  have EN1 : Hid (∀ (q : Option Addr) (c : Nat) (V : World), Ds V q Lp c PP → Calls Tryd.prog 9 #[.agg (pfC 1 (i : Int) (n : Int) (.slice q Lp c)).toArray] V fun r w' => Below V.heap.size V w' ∧ ∃ v, r = .returned (.tuple #[v, .int .i64 0]) ∧ v ≠ .slice none 0 0 ∧ Own w' V.heap.size v (encB 1 (i : Int) (n : Int) Lp PP)) := hide (fun q c V hd => encode_ok 1 (i : Int) (n : Int) q Lp c PP V hd HC1.out)
  have EN2 : Hid (∀ (q : Option Addr) (c : Nat) (V : World), Ds V q Ls c SS → Calls Tryd.prog 9 #[.agg (pfC 2 (m : Int) (n : Int) (.slice q Ls c)).toArray] V fun r w' => Below V.heap.size V w' ∧ ∃ v, r = .returned (.tuple #[v, .int .i64 0]) ∧ v ≠ .slice none 0 0 ∧ Own w' V.heap.size v (encB 2 (m : Int) (n : Int) Ls SS)) := hide (fun q c V hd => encode_ok 2 (m : Int) (n : Int) q Ls c SS V hd HC2.out)
  obtain ⟨z3, hz3⟩ : ∃ z, RN.getD 3 0 = z := ⟨_, rfl⟩
  have hz3b := HNB.out.get 3
  rw [hz3] at hz3b
  have HZ3 := hide hz3
  have HOT : Hid (inR RN (RN.set 3 (IntKind.u8.wrap (z3 + 1))) 0 = 71) := hide (by
    unfold inR
    rw [if_pos rfl, if_neg (set_ne HNL.out _ (by rw [hz3, IntKind.wrap_u8]; omega))]
    )
  have HOTL : Hid ((RN.set 3 (IntKind.u8.wrap (z3 + 1))).length = 32) := hide (by rw [List.length_set]; exact HNL.out)
  have HOTU : Hid ((u8s (RN.set 3 (IntKind.u8.wrap (z3 + 1)))).length = 32) := hide (by rw [u8s_length, HOTL.out])
  obtain ⟨z4, hz4⟩ : ∃ z, IntKind.u8.wrap (z3 + 1) = z := ⟨_, rfl⟩
  rw [hz4] at HOT HOTL HOTU
  have HHM := hide hm
  have HHN := hide hnn
  clear hR4 hR5 HRB HRT hz3 hm hnn
  go_enter Tryd.func7, Tryd.ntmps7
  go_wp2_with fail
  refine (incl_any _ _ _ xs (i : Int) (n : Int) _ HS.out HK.out).mono ?_
  rintro r w1 ⟨v3, rfl, ⟨q3, ho3⟩, hb1⟩
  rw [EE.out]
  rw [EP.out] at ho3
  obtain rfl : q3 = Lp := by have := ho3.len; have := HP1.out; omega
  obtain ⟨ap, cp, rfl, hap, _⟩ := ho3.ds HPB.out (by omega)
  have DP := hide hap
  have B1 := hide hb1
  clear ho3 hap hb1
  go_wp2_with fail
  refine (cons_any _ _ _ xs (m : Int) (n : Int) _ (HS.out.below B1.out) (HK.out.below B1.out HK.out.lt)).mono ?_
  rintro r w2 ⟨v4, rfl, ⟨q4, ho4⟩, hb2⟩
  rw [CE.out]
  rw [CP.out] at ho4
  obtain rfl : q4 = Ls := by have := ho4.len; have := HS1.out; omega
  obtain ⟨aq, cq, rfl, haq, _⟩ := ho4.ds HSB.out (by omega)
  have DQ2 := hide haq
  have DP2 := hide (DP.out.below hb2)
  have B2 := hide (on_below B1.out hb2)
  clear ho4 haq hb2 B1 DP
  go_wp2_with (first | (refine step_buildP4 rfl rfl rfl rfl rfl ?_) | fail)
  refine (EN1.out _ _ _ DP2.out).mono ?_
  rintro r w3 ⟨hb3, v5, rfl, hn5, ho5⟩
  obtain ⟨gx, cx, rfl, _, hsx⟩ := ho5.sl HB1.out (by rw [HE1.out]; omega) hn5
  rw [HE1.out] at hsx ⊢
  have SX := hide hsx
  have DQ3 := hide (DQ2.out.below hb3)
  have B3 := hide (on_below B2.out hb3)
  clear hb3 hn5 ho5 hsx B2 DQ2 DP2
  go_wp2_with (first | (refine step_buildP4 rfl rfl rfl rfl rfl ?_) | fail)
  refine (EN2.out _ _ _ DQ3.out).mono ?_
  rintro r w4 ⟨hb4, v6, rfl, hn6, ho6⟩
  obtain ⟨gy, cy, rfl, _, hsy⟩ := ho6.sl HB2.out (by rw [HE2.out]; omega) hn6
  rw [HE2.out] at hsy ⊢
  have SY := hide hsy
  have SX4 := hide (SX.out.below hb4)
  have B4 := hide (on_below B3.out hb4)
  clear hb4 hn6 ho6 hsy B3 DQ3 SX EN1 EN2
  generalize 18 + 32 * q3 = L1 at *
  generalize 18 + 32 * q4 = L2 at *
  go_wp2_with fail
  refine joinB (fun g h W => Blk W g 45 (u8s RO) ∧ Blk W h 45 (u8s RN) ∧ Below w4.heap.size w4 W) ?act ?tail (fun hjoin => ?_)
  rotate_left
  rotate_left
  · refine wp_region_noPanic ?_
    have B0 := hide ((Below.refl w4.heap.size w4).drew)
    refine wp_region_held_drew (S := fun _ : World => True) (by kernel_rfl) trivial (fun hHeld => ?_)
    refine takeH 0 72 (.slice (some ⟨b, o, none⟩) l cap) hHeld rfl rfl (by kernel_rfl) (by kernel_rfl) (by kernel_rfl) (fun _ _ _ h => h) (Or.inl ⟨by rfl, fun w _ => by go_simp⟩) ?_
    simp only [Act.put, List.setIfInBounds_toArray, List.set_cons_zero, List.set_cons_succ]
    refine takeH 1 73 (.int .i64 (i : Int)) hHeld rfl rfl (by kernel_rfl) (by kernel_rfl) (by kernel_rfl) (fun _ _ _ h => h) (Or.inl ⟨by rfl, fun w _ => by go_simp⟩) ?_
    simp only [Act.put, List.setIfInBounds_toArray, List.set_cons_zero, List.set_cons_succ]
    refine takeH 2 74 (.int .i64 (m : Int)) hHeld rfl rfl (by kernel_rfl) (by kernel_rfl) (by kernel_rfl) (fun _ _ _ h => h) (Or.inl ⟨by rfl, fun w _ => by go_simp; exact HWM.out⟩) ?_
    simp only [Act.put, List.setIfInBounds_toArray, List.set_cons_zero, List.set_cons_succ]
    refine takeH 3 75 (.slice (some ⟨b, o, none⟩) m cap) hHeld rfl rfl (by kernel_rfl) (by kernel_rfl) (by kernel_rfl) (fun _ _ _ h => h) (Or.inl ⟨by rfl, fun w _ => run_op rfl (d_to b o l cap m (m : Int) rfl HMC.out.1 w)⟩) ?_
    simp only [Act.put, List.setIfInBounds_toArray, List.set_cons_zero, List.set_cons_succ]
    refine takeH 5 77 (.slice (some ⟨b, o, none⟩) l cap) hHeld rfl rfl (by kernel_rfl) (by kernel_rfl) (by kernel_rfl) (fun _ _ _ h => h) (Or.inl ⟨by rfl, fun w _ => by go_simp⟩) ?_
    simp only [Act.put, List.setIfInBounds_toArray, List.set_cons_zero, List.set_cons_succ]
    refine takeH 6 78 (.int .i64 (n : Int)) hHeld rfl rfl (by kernel_rfl) (by kernel_rfl) (by kernel_rfl) (fun _ _ _ h => h) (Or.inl ⟨by rfl, fun w _ => by go_simp⟩) ?_
    simp only [Act.put, List.setIfInBounds_toArray, List.set_cons_zero, List.set_cons_succ]
    refine takeH 7 79 (.slice (some ⟨b, o, none⟩) n cap) hHeld rfl rfl (by kernel_rfl) (by kernel_rfl) (by kernel_rfl) (fun _ _ _ h => h) (Or.inl ⟨by rfl, fun w _ => run_op rfl (d_to b o l cap n (n : Int) rfl HMC.out.2 w)⟩) ?_
    simp only [Act.put, List.setIfInBounds_toArray, List.set_cons_zero, List.set_cons_succ]
    refine wpAnyH_ready (rs := [4, 9, 10]) (by kernel_rfl) (by simp) (AllReadyH.cons rfl (fun K hK => ?_) (AllReadyH.cons rfl (fun K hK => ?_) (AllReadyH.cons rfl (fun K hK => ?_) AllReadyH.nil)))
    · rw [if_pos (by rfl)]
      go_simp
      refine (HR1.out _ (on_below B4.out B0.out)).mono ?_
      rintro r v1 ⟨rfl, hv1⟩
      have B1 := hide (on_below B0.out hv1)
      refine hK.out _ _ trivial (fun hHeld => ?_)
      clear hK K
      try simp only [Act.put, List.setIfInBounds_toArray, List.set_cons_zero, List.set_cons_succ]
      refine wpAnyH_ready (rs := [8, 9, 10]) (by kernel_rfl) (by simp) (AllReadyH.cons rfl (fun K hK => ?_) (AllReadyH.cons rfl (fun K hK => ?_) (AllReadyH.cons rfl (fun K hK => ?_) AllReadyH.nil)))
      · rw [if_pos (by rfl)]
        go_simp
        refine (HR2.out _ (on_below B4.out B1.out)).mono ?_
        rintro r v2 ⟨rfl, hv2⟩
        have B2 := hide (on_below B1.out hv2)
        refine hK.out _ _ trivial (fun hHeld => ?_)
        clear hK K
        try simp only [Act.put, List.setIfInBounds_toArray, List.set_cons_zero, List.set_cons_succ]
        refine wpAnyH_ready (rs := [9, 10]) (by kernel_rfl) (by simp) (AllReadyH.cons rfl (fun K hK => ?_) (AllReadyH.cons rfl (fun K hK => ?_) AllReadyH.nil))
        · rw [if_pos (by rfl)]
          refine wp_allocG zD ?_
          intro v3 g15 hg3 hl3 hv3
          have hw15 : w4.heap.size ≤ g15 := Nat.le_trans B2.out.size hl3
          have P3 := hide hg3
          have B3 := hide (on_below B2.out hv3)
          refine hK.out _ _ trivial (fun hHeld => ?_)
          clear hK K
          try simp only [Act.put, List.setIfInBounds_toArray, List.set_cons_zero, List.set_cons_succ]
          refine wpAnyH_ready (rs := [10]) (by kernel_rfl) (by simp) (AllReadyH.cons rfl (fun K hK => ?_) AllReadyH.nil)
          · rw [if_pos (by rfl)]
            refine wp_allocG zD ?_
            intro v4 g16 hg4 hl4 hv4
            have hw16 : w4.heap.size ≤ g16 := Nat.le_trans B3.out.size hl4
            have Q4 := hide hg4
            have B4 := hide (on_below B3.out hv4)
            have hne : g15 ≠ g16 := by have := P3.out.lt; omega
            have P4 := hide (P3.out.on hv4)
            refine hK.out _ _ trivial (fun hHeld => ?_)
            clear hK K
            try simp only [Act.put, List.setIfInBounds_toArray, List.set_cons_zero, List.set_cons_succ]
            refine wpAnyH_ready (rs := [11]) (by kernel_rfl) (by simp) (AllReadyH.cons rfl (fun K hK => ?_) AllReadyH.nil)
            rw [if_pos (by rfl)]
            refine wp_storeW wD rfl rfl rfl P4.out HOU.out (One.u8 _) (by rw [u8s_length, zer_length]; omega) ?_
            intro z1 hz1 hbz1
            rw [spl_same _ _ (zer_length 32) HOL.out] at hz1
            refine hK.out _ _ trivial (fun hHeld => ?_)
            clear hK K
            simp only [Act.put]
            refine wpAnyH_ready (rs := [12]) (by kernel_rfl) (by simp) (AllReadyH.cons rfl (fun K hK => ?_) AllReadyH.nil)
            rw [if_pos (by rfl)]
            refine wp_storeW wD rfl rfl rfl (Q4.out.but hbz1 hne.symm) HNU.out (One.u8 _) (by rw [u8s_length, zer_length]; omega) ?_
            intro z2 hz2 hbz2
            rw [spl_same _ _ (zer_length 32) HNL.out] at hz2
            refine hK.out _ _ trivial (fun hHeld => ?_)
            clear hK K
            simp only [Act.put]
            refine wpAnyH_done (by kernel_rfl) ?_ _
            refine NoPanic.normal ?_
            exact hjoin _ _ _ ⟨hz1.but hbz2 hne, hz2, (B4.out.trans (hbz1.below hw15)).trans (hbz2.below hw16)⟩
        · rw [if_pos (by rfl)]
          refine wp_allocG zD ?_
          intro v5 g16 hg5 hl5 hv5
          have hw16 : w4.heap.size ≤ g16 := Nat.le_trans B2.out.size hl5
          have Q5 := hide hg5
          have B5 := hide (on_below B2.out hv5)
          refine hK.out _ _ trivial (fun hHeld => ?_)
          clear hK K
          try simp only [Act.put, List.setIfInBounds_toArray, List.set_cons_zero, List.set_cons_succ]
          refine wpAnyH_ready (rs := [9]) (by kernel_rfl) (by simp) (AllReadyH.cons rfl (fun K hK => ?_) AllReadyH.nil)
          · rw [if_pos (by rfl)]
            refine wp_allocG zD ?_
            intro v6 g15 hg6 hl6 hv6
            have hw15 : w4.heap.size ≤ g15 := Nat.le_trans B5.out.size hl6
            have P6 := hide hg6
            have B6 := hide (on_below B5.out hv6)
            have hne : g15 ≠ g16 := by have := Q5.out.lt; omega
            have Q6 := hide (Q5.out.on hv6)
            refine hK.out _ _ trivial (fun hHeld => ?_)
            clear hK K
            try simp only [Act.put, List.setIfInBounds_toArray, List.set_cons_zero, List.set_cons_succ]
            refine wpAnyH_ready (rs := [11]) (by kernel_rfl) (by simp) (AllReadyH.cons rfl (fun K hK => ?_) AllReadyH.nil)
            rw [if_pos (by rfl)]
            refine wp_storeW wD rfl rfl rfl P6.out HOU.out (One.u8 _) (by rw [u8s_length, zer_length]; omega) ?_
            intro z1 hz1 hbz1
            rw [spl_same _ _ (zer_length 32) HOL.out] at hz1
            refine hK.out _ _ trivial (fun hHeld => ?_)
            clear hK K
            simp only [Act.put]
            refine wpAnyH_ready (rs := [12]) (by kernel_rfl) (by simp) (AllReadyH.cons rfl (fun K hK => ?_) AllReadyH.nil)
            rw [if_pos (by rfl)]
            refine wp_storeW wD rfl rfl rfl (Q6.out.but hbz1 hne.symm) HNU.out (One.u8 _) (by rw [u8s_length, zer_length]; omega) ?_
            intro z2 hz2 hbz2
            rw [spl_same _ _ (zer_length 32) HNL.out] at hz2
            refine hK.out _ _ trivial (fun hHeld => ?_)
            clear hK K
            simp only [Act.put]
            refine wpAnyH_done (by kernel_rfl) ?_ _
            refine NoPanic.normal ?_
            exact hjoin _ _ _ ⟨hz1.but hbz2 hne, hz2, (B6.out.trans (hbz1.below hw15)).trans (hbz2.below hw16)⟩
      · rw [if_pos (by rfl)]
        refine wp_allocG zD ?_
        intro v7 g15 hg7 hl7 hv7
        have hw15 : w4.heap.size ≤ g15 := Nat.le_trans B1.out.size hl7
        have P7 := hide hg7
        have B7 := hide (on_below B1.out hv7)
        refine hK.out _ _ trivial (fun hHeld => ?_)
        clear hK K
        try simp only [Act.put, List.setIfInBounds_toArray, List.set_cons_zero, List.set_cons_succ]
        refine wpAnyH_ready (rs := [8, 10]) (by kernel_rfl) (by simp) (AllReadyH.cons rfl (fun K hK => ?_) (AllReadyH.cons rfl (fun K hK => ?_) AllReadyH.nil))
        · rw [if_pos (by rfl)]
          go_simp
          refine (HR2.out _ (on_below B4.out B7.out)).mono ?_
          rintro r v8 ⟨rfl, hv8⟩
          have B8 := hide (on_below B7.out hv8)
          have P8 := hide (P7.out.on hv8)
          refine hK.out _ _ trivial (fun hHeld => ?_)
          clear hK K
          try simp only [Act.put, List.setIfInBounds_toArray, List.set_cons_zero, List.set_cons_succ]
          refine wpAnyH_ready (rs := [10]) (by kernel_rfl) (by simp) (AllReadyH.cons rfl (fun K hK => ?_) AllReadyH.nil)
          · rw [if_pos (by rfl)]
            refine wp_allocG zD ?_
            intro v9 g16 hg9 hl9 hv9
            have hw16 : w4.heap.size ≤ g16 := Nat.le_trans B8.out.size hl9
            have Q9 := hide hg9
            have B9 := hide (on_below B8.out hv9)
            have hne : g15 ≠ g16 := by have := P8.out.lt; omega
            have P9 := hide (P8.out.on hv9)
            refine hK.out _ _ trivial (fun hHeld => ?_)
            clear hK K
            try simp only [Act.put, List.setIfInBounds_toArray, List.set_cons_zero, List.set_cons_succ]
            refine wpAnyH_ready (rs := [11]) (by kernel_rfl) (by simp) (AllReadyH.cons rfl (fun K hK => ?_) AllReadyH.nil)
            rw [if_pos (by rfl)]
            refine wp_storeW wD rfl rfl rfl P9.out HOU.out (One.u8 _) (by rw [u8s_length, zer_length]; omega) ?_
            intro z1 hz1 hbz1
            rw [spl_same _ _ (zer_length 32) HOL.out] at hz1
            refine hK.out _ _ trivial (fun hHeld => ?_)
            clear hK K
            simp only [Act.put]
            refine wpAnyH_ready (rs := [12]) (by kernel_rfl) (by simp) (AllReadyH.cons rfl (fun K hK => ?_) AllReadyH.nil)
            rw [if_pos (by rfl)]
            refine wp_storeW wD rfl rfl rfl (Q9.out.but hbz1 hne.symm) HNU.out (One.u8 _) (by rw [u8s_length, zer_length]; omega) ?_
            intro z2 hz2 hbz2
            rw [spl_same _ _ (zer_length 32) HNL.out] at hz2
            refine hK.out _ _ trivial (fun hHeld => ?_)
            clear hK K
            simp only [Act.put]
            refine wpAnyH_done (by kernel_rfl) ?_ _
            refine NoPanic.normal ?_
            exact hjoin _ _ _ ⟨hz1.but hbz2 hne, hz2, (B9.out.trans (hbz1.below hw15)).trans (hbz2.below hw16)⟩
        · rw [if_pos (by rfl)]
          refine wp_allocG zD ?_
          intro v10 g16 hg10 hl10 hv10
          have hw16 : w4.heap.size ≤ g16 := Nat.le_trans B7.out.size hl10
          have Q10 := hide hg10
          have B10 := hide (on_below B7.out hv10)
          have hne : g15 ≠ g16 := by have := P7.out.lt; omega
          have P10 := hide (P7.out.on hv10)
          refine hK.out _ _ trivial (fun hHeld => ?_)
          clear hK K
          try simp only [Act.put, List.setIfInBounds_toArray, List.set_cons_zero, List.set_cons_succ]
          refine wpAnyH_ready (rs := [8]) (by kernel_rfl) (by simp) (AllReadyH.cons rfl (fun K hK => ?_) AllReadyH.nil)
          · rw [if_pos (by rfl)]
            go_simp
            refine (HR2.out _ (on_below B4.out B10.out)).mono ?_
            rintro r v11 ⟨rfl, hv11⟩
            have B11 := hide (on_below B10.out hv11)
            have P11 := hide (P10.out.on hv11)
            have Q11 := hide (Q10.out.on hv11)
            refine hK.out _ _ trivial (fun hHeld => ?_)
            clear hK K
            try simp only [Act.put, List.setIfInBounds_toArray, List.set_cons_zero, List.set_cons_succ]
            refine wpAnyH_ready (rs := [11]) (by kernel_rfl) (by simp) (AllReadyH.cons rfl (fun K hK => ?_) AllReadyH.nil)
            rw [if_pos (by rfl)]
            refine wp_storeW wD rfl rfl rfl P11.out HOU.out (One.u8 _) (by rw [u8s_length, zer_length]; omega) ?_
            intro z1 hz1 hbz1
            rw [spl_same _ _ (zer_length 32) HOL.out] at hz1
            refine hK.out _ _ trivial (fun hHeld => ?_)
            clear hK K
            simp only [Act.put]
            refine wpAnyH_ready (rs := [12]) (by kernel_rfl) (by simp) (AllReadyH.cons rfl (fun K hK => ?_) AllReadyH.nil)
            rw [if_pos (by rfl)]
            refine wp_storeW wD rfl rfl rfl (Q11.out.but hbz1 hne.symm) HNU.out (One.u8 _) (by rw [u8s_length, zer_length]; omega) ?_
            intro z2 hz2 hbz2
            rw [spl_same _ _ (zer_length 32) HNL.out] at hz2
            refine hK.out _ _ trivial (fun hHeld => ?_)
            clear hK K
            simp only [Act.put]
            refine wpAnyH_done (by kernel_rfl) ?_ _
            refine NoPanic.normal ?_
            exact hjoin _ _ _ ⟨hz1.but hbz2 hne, hz2, (B11.out.trans (hbz1.below hw15)).trans (hbz2.below hw16)⟩
      · rw [if_pos (by rfl)]
        refine wp_allocG zD ?_
        intro v12 g16 hg12 hl12 hv12
        have hw16 : w4.heap.size ≤ g16 := Nat.le_trans B1.out.size hl12
        have Q12 := hide hg12
        have B12 := hide (on_below B1.out hv12)
        refine hK.out _ _ trivial (fun hHeld => ?_)
        clear hK K
        try simp only [Act.put, List.setIfInBounds_toArray, List.set_cons_zero, List.set_cons_succ]
        refine wpAnyH_ready (rs := [8, 9]) (by kernel_rfl) (by simp) (AllReadyH.cons rfl (fun K hK => ?_) (AllReadyH.cons rfl (fun K hK => ?_) AllReadyH.nil))
        · rw [if_pos (by rfl)]
          go_simp
          refine (HR2.out _ (on_below B4.out B12.out)).mono ?_
          rintro r v13 ⟨rfl, hv13⟩
          have B13 := hide (on_below B12.out hv13)
          have Q13 := hide (Q12.out.on hv13)
          refine hK.out _ _ trivial (fun hHeld => ?_)
          clear hK K
          try simp only [Act.put, List.setIfInBounds_toArray, List.set_cons_zero, List.set_cons_succ]
          refine wpAnyH_ready (rs := [9]) (by kernel_rfl) (by simp) (AllReadyH.cons rfl (fun K hK => ?_) AllReadyH.nil)
          · rw [if_pos (by rfl)]
            refine wp_allocG zD ?_
            intro v14 g15 hg14 hl14 hv14
            have hw15 : w4.heap.size ≤ g15 := Nat.le_trans B13.out.size hl14
            have P14 := hide hg14
            have B14 := hide (on_below B13.out hv14)
            have hne : g15 ≠ g16 := by have := Q13.out.lt; omega
            have Q14 := hide (Q13.out.on hv14)
            refine hK.out _ _ trivial (fun hHeld => ?_)
            clear hK K
            try simp only [Act.put, List.setIfInBounds_toArray, List.set_cons_zero, List.set_cons_succ]
            refine wpAnyH_ready (rs := [11]) (by kernel_rfl) (by simp) (AllReadyH.cons rfl (fun K hK => ?_) AllReadyH.nil)
            rw [if_pos (by rfl)]
            refine wp_storeW wD rfl rfl rfl P14.out HOU.out (One.u8 _) (by rw [u8s_length, zer_length]; omega) ?_
            intro z1 hz1 hbz1
            rw [spl_same _ _ (zer_length 32) HOL.out] at hz1
            refine hK.out _ _ trivial (fun hHeld => ?_)
            clear hK K
            simp only [Act.put]
            refine wpAnyH_ready (rs := [12]) (by kernel_rfl) (by simp) (AllReadyH.cons rfl (fun K hK => ?_) AllReadyH.nil)
            rw [if_pos (by rfl)]
            refine wp_storeW wD rfl rfl rfl (Q14.out.but hbz1 hne.symm) HNU.out (One.u8 _) (by rw [u8s_length, zer_length]; omega) ?_
            intro z2 hz2 hbz2
            rw [spl_same _ _ (zer_length 32) HNL.out] at hz2
            refine hK.out _ _ trivial (fun hHeld => ?_)
            clear hK K
            simp only [Act.put]
            refine wpAnyH_done (by kernel_rfl) ?_ _
            refine NoPanic.normal ?_
            exact hjoin _ _ _ ⟨hz1.but hbz2 hne, hz2, (B14.out.trans (hbz1.below hw15)).trans (hbz2.below hw16)⟩
        · rw [if_pos (by rfl)]
          refine wp_allocG zD ?_
          intro v15 g15 hg15 hl15 hv15
          have hw15 : w4.heap.size ≤ g15 := Nat.le_trans B12.out.size hl15
          have P15 := hide hg15
          have B15 := hide (on_below B12.out hv15)
          have hne : g15 ≠ g16 := by have := Q12.out.lt; omega
          have Q15 := hide (Q12.out.on hv15)
          refine hK.out _ _ trivial (fun hHeld => ?_)
          clear hK K
          try simp only [Act.put, List.setIfInBounds_toArray, List.set_cons_zero, List.set_cons_succ]
          refine wpAnyH_ready (rs := [8]) (by kernel_rfl) (by simp) (AllReadyH.cons rfl (fun K hK => ?_) AllReadyH.nil)
          · rw [if_pos (by rfl)]
            go_simp
            refine (HR2.out _ (on_below B4.out B15.out)).mono ?_
            rintro r v16 ⟨rfl, hv16⟩
            have B16 := hide (on_below B15.out hv16)
            have P16 := hide (P15.out.on hv16)
            have Q16 := hide (Q15.out.on hv16)
            refine hK.out _ _ trivial (fun hHeld => ?_)
            clear hK K
            try simp only [Act.put, List.setIfInBounds_toArray, List.set_cons_zero, List.set_cons_succ]
            refine wpAnyH_ready (rs := [11]) (by kernel_rfl) (by simp) (AllReadyH.cons rfl (fun K hK => ?_) AllReadyH.nil)
            rw [if_pos (by rfl)]
            refine wp_storeW wD rfl rfl rfl P16.out HOU.out (One.u8 _) (by rw [u8s_length, zer_length]; omega) ?_
            intro z1 hz1 hbz1
            rw [spl_same _ _ (zer_length 32) HOL.out] at hz1
            refine hK.out _ _ trivial (fun hHeld => ?_)
            clear hK K
            simp only [Act.put]
            refine wpAnyH_ready (rs := [12]) (by kernel_rfl) (by simp) (AllReadyH.cons rfl (fun K hK => ?_) AllReadyH.nil)
            rw [if_pos (by rfl)]
            refine wp_storeW wD rfl rfl rfl (Q16.out.but hbz1 hne.symm) HNU.out (One.u8 _) (by rw [u8s_length, zer_length]; omega) ?_
            intro z2 hz2 hbz2
            rw [spl_same _ _ (zer_length 32) HNL.out] at hz2
            refine hK.out _ _ trivial (fun hHeld => ?_)
            clear hK K
            simp only [Act.put]
            refine wpAnyH_done (by kernel_rfl) ?_ _
            refine NoPanic.normal ?_
            exact hjoin _ _ _ ⟨hz1.but hbz2 hne, hz2, (B16.out.trans (hbz1.below hw15)).trans (hbz2.below hw16)⟩
    · rw [if_pos (by rfl)]
      refine wp_allocG zD ?_
      intro v17 g15 hg17 hl17 hv17
      have hw15 : w4.heap.size ≤ g15 := Nat.le_trans B0.out.size hl17
      have P17 := hide hg17
      have B17 := hide (on_below B0.out hv17)
      refine hK.out _ _ trivial (fun hHeld => ?_)
      clear hK K
      try simp only [Act.put, List.setIfInBounds_toArray, List.set_cons_zero, List.set_cons_succ]
      refine wpAnyH_ready (rs := [4, 10]) (by kernel_rfl) (by simp) (AllReadyH.cons rfl (fun K hK => ?_) (AllReadyH.cons rfl (fun K hK => ?_) AllReadyH.nil))
      · rw [if_pos (by rfl)]
        go_simp
        refine (HR1.out _ (on_below B4.out B17.out)).mono ?_
        rintro r v18 ⟨rfl, hv18⟩
        have B18 := hide (on_below B17.out hv18)
        have P18 := hide (P17.out.on hv18)
        refine hK.out _ _ trivial (fun hHeld => ?_)
        clear hK K
        try simp only [Act.put, List.setIfInBounds_toArray, List.set_cons_zero, List.set_cons_succ]
        refine wpAnyH_ready (rs := [8, 10]) (by kernel_rfl) (by simp) (AllReadyH.cons rfl (fun K hK => ?_) (AllReadyH.cons rfl (fun K hK => ?_) AllReadyH.nil))
        · rw [if_pos (by rfl)]
          go_simp
          refine (HR2.out _ (on_below B4.out B18.out)).mono ?_
          rintro r v19 ⟨rfl, hv19⟩
          have B19 := hide (on_below B18.out hv19)
          have P19 := hide (P18.out.on hv19)
          refine hK.out _ _ trivial (fun hHeld => ?_)
          clear hK K
          try simp only [Act.put, List.setIfInBounds_toArray, List.set_cons_zero, List.set_cons_succ]
          refine wpAnyH_ready (rs := [10]) (by kernel_rfl) (by simp) (AllReadyH.cons rfl (fun K hK => ?_) AllReadyH.nil)
          · rw [if_pos (by rfl)]
            refine wp_allocG zD ?_
            intro v20 g16 hg20 hl20 hv20
            have hw16 : w4.heap.size ≤ g16 := Nat.le_trans B19.out.size hl20
            have Q20 := hide hg20
            have B20 := hide (on_below B19.out hv20)
            have hne : g15 ≠ g16 := by have := P19.out.lt; omega
            have P20 := hide (P19.out.on hv20)
            refine hK.out _ _ trivial (fun hHeld => ?_)
            clear hK K
            try simp only [Act.put, List.setIfInBounds_toArray, List.set_cons_zero, List.set_cons_succ]
            refine wpAnyH_ready (rs := [11]) (by kernel_rfl) (by simp) (AllReadyH.cons rfl (fun K hK => ?_) AllReadyH.nil)
            rw [if_pos (by rfl)]
            refine wp_storeW wD rfl rfl rfl P20.out HOU.out (One.u8 _) (by rw [u8s_length, zer_length]; omega) ?_
            intro z1 hz1 hbz1
            rw [spl_same _ _ (zer_length 32) HOL.out] at hz1
            refine hK.out _ _ trivial (fun hHeld => ?_)
            clear hK K
            simp only [Act.put]
            refine wpAnyH_ready (rs := [12]) (by kernel_rfl) (by simp) (AllReadyH.cons rfl (fun K hK => ?_) AllReadyH.nil)
            rw [if_pos (by rfl)]
            refine wp_storeW wD rfl rfl rfl (Q20.out.but hbz1 hne.symm) HNU.out (One.u8 _) (by rw [u8s_length, zer_length]; omega) ?_
            intro z2 hz2 hbz2
            rw [spl_same _ _ (zer_length 32) HNL.out] at hz2
            refine hK.out _ _ trivial (fun hHeld => ?_)
            clear hK K
            simp only [Act.put]
            refine wpAnyH_done (by kernel_rfl) ?_ _
            refine NoPanic.normal ?_
            exact hjoin _ _ _ ⟨hz1.but hbz2 hne, hz2, (B20.out.trans (hbz1.below hw15)).trans (hbz2.below hw16)⟩
        · rw [if_pos (by rfl)]
          refine wp_allocG zD ?_
          intro v21 g16 hg21 hl21 hv21
          have hw16 : w4.heap.size ≤ g16 := Nat.le_trans B18.out.size hl21
          have Q21 := hide hg21
          have B21 := hide (on_below B18.out hv21)
          have hne : g15 ≠ g16 := by have := P18.out.lt; omega
          have P21 := hide (P18.out.on hv21)
          refine hK.out _ _ trivial (fun hHeld => ?_)
          clear hK K
          try simp only [Act.put, List.setIfInBounds_toArray, List.set_cons_zero, List.set_cons_succ]
          refine wpAnyH_ready (rs := [8]) (by kernel_rfl) (by simp) (AllReadyH.cons rfl (fun K hK => ?_) AllReadyH.nil)
          · rw [if_pos (by rfl)]
            go_simp
            refine (HR2.out _ (on_below B4.out B21.out)).mono ?_
            rintro r v22 ⟨rfl, hv22⟩
            have B22 := hide (on_below B21.out hv22)
            have P22 := hide (P21.out.on hv22)
            have Q22 := hide (Q21.out.on hv22)
            refine hK.out _ _ trivial (fun hHeld => ?_)
            clear hK K
            try simp only [Act.put, List.setIfInBounds_toArray, List.set_cons_zero, List.set_cons_succ]
            refine wpAnyH_ready (rs := [11]) (by kernel_rfl) (by simp) (AllReadyH.cons rfl (fun K hK => ?_) AllReadyH.nil)
            rw [if_pos (by rfl)]
            refine wp_storeW wD rfl rfl rfl P22.out HOU.out (One.u8 _) (by rw [u8s_length, zer_length]; omega) ?_
            intro z1 hz1 hbz1
            rw [spl_same _ _ (zer_length 32) HOL.out] at hz1
            refine hK.out _ _ trivial (fun hHeld => ?_)
            clear hK K
            simp only [Act.put]
            refine wpAnyH_ready (rs := [12]) (by kernel_rfl) (by simp) (AllReadyH.cons rfl (fun K hK => ?_) AllReadyH.nil)
            rw [if_pos (by rfl)]
            refine wp_storeW wD rfl rfl rfl (Q22.out.but hbz1 hne.symm) HNU.out (One.u8 _) (by rw [u8s_length, zer_length]; omega) ?_
            intro z2 hz2 hbz2
            rw [spl_same _ _ (zer_length 32) HNL.out] at hz2
            refine hK.out _ _ trivial (fun hHeld => ?_)
            clear hK K
            simp only [Act.put]
            refine wpAnyH_done (by kernel_rfl) ?_ _
            refine NoPanic.normal ?_
            exact hjoin _ _ _ ⟨hz1.but hbz2 hne, hz2, (B22.out.trans (hbz1.below hw15)).trans (hbz2.below hw16)⟩
      · rw [if_pos (by rfl)]
        refine wp_allocG zD ?_
        intro v23 g16 hg23 hl23 hv23
        have hw16 : w4.heap.size ≤ g16 := Nat.le_trans B17.out.size hl23
        have Q23 := hide hg23
        have B23 := hide (on_below B17.out hv23)
        have hne : g15 ≠ g16 := by have := P17.out.lt; omega
        have P23 := hide (P17.out.on hv23)
        refine hK.out _ _ trivial (fun hHeld => ?_)
        clear hK K
        try simp only [Act.put, List.setIfInBounds_toArray, List.set_cons_zero, List.set_cons_succ]
        refine wpAnyH_ready (rs := [4]) (by kernel_rfl) (by simp) (AllReadyH.cons rfl (fun K hK => ?_) AllReadyH.nil)
        · rw [if_pos (by rfl)]
          go_simp
          refine (HR1.out _ (on_below B4.out B23.out)).mono ?_
          rintro r v24 ⟨rfl, hv24⟩
          have B24 := hide (on_below B23.out hv24)
          have P24 := hide (P23.out.on hv24)
          have Q24 := hide (Q23.out.on hv24)
          refine hK.out _ _ trivial (fun hHeld => ?_)
          clear hK K
          try simp only [Act.put, List.setIfInBounds_toArray, List.set_cons_zero, List.set_cons_succ]
          refine wpAnyH_ready (rs := [8]) (by kernel_rfl) (by simp) (AllReadyH.cons rfl (fun K hK => ?_) AllReadyH.nil)
          · rw [if_pos (by rfl)]
            go_simp
            refine (HR2.out _ (on_below B4.out B24.out)).mono ?_
            rintro r v25 ⟨rfl, hv25⟩
            have B25 := hide (on_below B24.out hv25)
            have P25 := hide (P24.out.on hv25)
            have Q25 := hide (Q24.out.on hv25)
            refine hK.out _ _ trivial (fun hHeld => ?_)
            clear hK K
            try simp only [Act.put, List.setIfInBounds_toArray, List.set_cons_zero, List.set_cons_succ]
            refine wpAnyH_ready (rs := [11]) (by kernel_rfl) (by simp) (AllReadyH.cons rfl (fun K hK => ?_) AllReadyH.nil)
            rw [if_pos (by rfl)]
            refine wp_storeW wD rfl rfl rfl P25.out HOU.out (One.u8 _) (by rw [u8s_length, zer_length]; omega) ?_
            intro z1 hz1 hbz1
            rw [spl_same _ _ (zer_length 32) HOL.out] at hz1
            refine hK.out _ _ trivial (fun hHeld => ?_)
            clear hK K
            simp only [Act.put]
            refine wpAnyH_ready (rs := [12]) (by kernel_rfl) (by simp) (AllReadyH.cons rfl (fun K hK => ?_) AllReadyH.nil)
            rw [if_pos (by rfl)]
            refine wp_storeW wD rfl rfl rfl (Q25.out.but hbz1 hne.symm) HNU.out (One.u8 _) (by rw [u8s_length, zer_length]; omega) ?_
            intro z2 hz2 hbz2
            rw [spl_same _ _ (zer_length 32) HNL.out] at hz2
            refine hK.out _ _ trivial (fun hHeld => ?_)
            clear hK K
            simp only [Act.put]
            refine wpAnyH_done (by kernel_rfl) ?_ _
            refine NoPanic.normal ?_
            exact hjoin _ _ _ ⟨hz1.but hbz2 hne, hz2, (B25.out.trans (hbz1.below hw15)).trans (hbz2.below hw16)⟩
    · rw [if_pos (by rfl)]
      refine wp_allocG zD ?_
      intro v26 g16 hg26 hl26 hv26
      have hw16 : w4.heap.size ≤ g16 := Nat.le_trans B0.out.size hl26
      have Q26 := hide hg26
      have B26 := hide (on_below B0.out hv26)
      refine hK.out _ _ trivial (fun hHeld => ?_)
      clear hK K
      try simp only [Act.put, List.setIfInBounds_toArray, List.set_cons_zero, List.set_cons_succ]
      refine wpAnyH_ready (rs := [4, 9]) (by kernel_rfl) (by simp) (AllReadyH.cons rfl (fun K hK => ?_) (AllReadyH.cons rfl (fun K hK => ?_) AllReadyH.nil))
      · rw [if_pos (by rfl)]
        go_simp
        refine (HR1.out _ (on_below B4.out B26.out)).mono ?_
        rintro r v27 ⟨rfl, hv27⟩
        have B27 := hide (on_below B26.out hv27)
        have Q27 := hide (Q26.out.on hv27)
        refine hK.out _ _ trivial (fun hHeld => ?_)
        clear hK K
        try simp only [Act.put, List.setIfInBounds_toArray, List.set_cons_zero, List.set_cons_succ]
        refine wpAnyH_ready (rs := [8, 9]) (by kernel_rfl) (by simp) (AllReadyH.cons rfl (fun K hK => ?_) (AllReadyH.cons rfl (fun K hK => ?_) AllReadyH.nil))
        · rw [if_pos (by rfl)]
          go_simp
          refine (HR2.out _ (on_below B4.out B27.out)).mono ?_
          rintro r v28 ⟨rfl, hv28⟩
          have B28 := hide (on_below B27.out hv28)
          have Q28 := hide (Q27.out.on hv28)
          refine hK.out _ _ trivial (fun hHeld => ?_)
          clear hK K
          try simp only [Act.put, List.setIfInBounds_toArray, List.set_cons_zero, List.set_cons_succ]
          refine wpAnyH_ready (rs := [9]) (by kernel_rfl) (by simp) (AllReadyH.cons rfl (fun K hK => ?_) AllReadyH.nil)
          · rw [if_pos (by rfl)]
            refine wp_allocG zD ?_
            intro v29 g15 hg29 hl29 hv29
            have hw15 : w4.heap.size ≤ g15 := Nat.le_trans B28.out.size hl29
            have P29 := hide hg29
            have B29 := hide (on_below B28.out hv29)
            have hne : g15 ≠ g16 := by have := Q28.out.lt; omega
            have Q29 := hide (Q28.out.on hv29)
            refine hK.out _ _ trivial (fun hHeld => ?_)
            clear hK K
            try simp only [Act.put, List.setIfInBounds_toArray, List.set_cons_zero, List.set_cons_succ]
            refine wpAnyH_ready (rs := [11]) (by kernel_rfl) (by simp) (AllReadyH.cons rfl (fun K hK => ?_) AllReadyH.nil)
            rw [if_pos (by rfl)]
            refine wp_storeW wD rfl rfl rfl P29.out HOU.out (One.u8 _) (by rw [u8s_length, zer_length]; omega) ?_
            intro z1 hz1 hbz1
            rw [spl_same _ _ (zer_length 32) HOL.out] at hz1
            refine hK.out _ _ trivial (fun hHeld => ?_)
            clear hK K
            simp only [Act.put]
            refine wpAnyH_ready (rs := [12]) (by kernel_rfl) (by simp) (AllReadyH.cons rfl (fun K hK => ?_) AllReadyH.nil)
            rw [if_pos (by rfl)]
            refine wp_storeW wD rfl rfl rfl (Q29.out.but hbz1 hne.symm) HNU.out (One.u8 _) (by rw [u8s_length, zer_length]; omega) ?_
            intro z2 hz2 hbz2
            rw [spl_same _ _ (zer_length 32) HNL.out] at hz2
            refine hK.out _ _ trivial (fun hHeld => ?_)
            clear hK K
            simp only [Act.put]
            refine wpAnyH_done (by kernel_rfl) ?_ _
            refine NoPanic.normal ?_
            exact hjoin _ _ _ ⟨hz1.but hbz2 hne, hz2, (B29.out.trans (hbz1.below hw15)).trans (hbz2.below hw16)⟩
        · rw [if_pos (by rfl)]
          refine wp_allocG zD ?_
          intro v30 g15 hg30 hl30 hv30
          have hw15 : w4.heap.size ≤ g15 := Nat.le_trans B27.out.size hl30
          have P30 := hide hg30
          have B30 := hide (on_below B27.out hv30)
          have hne : g15 ≠ g16 := by have := Q27.out.lt; omega
          have Q30 := hide (Q27.out.on hv30)
          refine hK.out _ _ trivial (fun hHeld => ?_)
          clear hK K
          try simp only [Act.put, List.setIfInBounds_toArray, List.set_cons_zero, List.set_cons_succ]
          refine wpAnyH_ready (rs := [8]) (by kernel_rfl) (by simp) (AllReadyH.cons rfl (fun K hK => ?_) AllReadyH.nil)
          · rw [if_pos (by rfl)]
            go_simp
            refine (HR2.out _ (on_below B4.out B30.out)).mono ?_
            rintro r v31 ⟨rfl, hv31⟩
            have B31 := hide (on_below B30.out hv31)
            have P31 := hide (P30.out.on hv31)
            have Q31 := hide (Q30.out.on hv31)
            refine hK.out _ _ trivial (fun hHeld => ?_)
            clear hK K
            try simp only [Act.put, List.setIfInBounds_toArray, List.set_cons_zero, List.set_cons_succ]
            refine wpAnyH_ready (rs := [11]) (by kernel_rfl) (by simp) (AllReadyH.cons rfl (fun K hK => ?_) AllReadyH.nil)
            rw [if_pos (by rfl)]
            refine wp_storeW wD rfl rfl rfl P31.out HOU.out (One.u8 _) (by rw [u8s_length, zer_length]; omega) ?_
            intro z1 hz1 hbz1
            rw [spl_same _ _ (zer_length 32) HOL.out] at hz1
            refine hK.out _ _ trivial (fun hHeld => ?_)
            clear hK K
            simp only [Act.put]
            refine wpAnyH_ready (rs := [12]) (by kernel_rfl) (by simp) (AllReadyH.cons rfl (fun K hK => ?_) AllReadyH.nil)
            rw [if_pos (by rfl)]
            refine wp_storeW wD rfl rfl rfl (Q31.out.but hbz1 hne.symm) HNU.out (One.u8 _) (by rw [u8s_length, zer_length]; omega) ?_
            intro z2 hz2 hbz2
            rw [spl_same _ _ (zer_length 32) HNL.out] at hz2
            refine hK.out _ _ trivial (fun hHeld => ?_)
            clear hK K
            simp only [Act.put]
            refine wpAnyH_done (by kernel_rfl) ?_ _
            refine NoPanic.normal ?_
            exact hjoin _ _ _ ⟨hz1.but hbz2 hne, hz2, (B31.out.trans (hbz1.below hw15)).trans (hbz2.below hw16)⟩
      · rw [if_pos (by rfl)]
        refine wp_allocG zD ?_
        intro v32 g15 hg32 hl32 hv32
        have hw15 : w4.heap.size ≤ g15 := Nat.le_trans B26.out.size hl32
        have P32 := hide hg32
        have B32 := hide (on_below B26.out hv32)
        have hne : g15 ≠ g16 := by have := Q26.out.lt; omega
        have Q32 := hide (Q26.out.on hv32)
        refine hK.out _ _ trivial (fun hHeld => ?_)
        clear hK K
        try simp only [Act.put, List.setIfInBounds_toArray, List.set_cons_zero, List.set_cons_succ]
        refine wpAnyH_ready (rs := [4]) (by kernel_rfl) (by simp) (AllReadyH.cons rfl (fun K hK => ?_) AllReadyH.nil)
        · rw [if_pos (by rfl)]
          go_simp
          refine (HR1.out _ (on_below B4.out B32.out)).mono ?_
          rintro r v33 ⟨rfl, hv33⟩
          have B33 := hide (on_below B32.out hv33)
          have P33 := hide (P32.out.on hv33)
          have Q33 := hide (Q32.out.on hv33)
          refine hK.out _ _ trivial (fun hHeld => ?_)
          clear hK K
          try simp only [Act.put, List.setIfInBounds_toArray, List.set_cons_zero, List.set_cons_succ]
          refine wpAnyH_ready (rs := [8]) (by kernel_rfl) (by simp) (AllReadyH.cons rfl (fun K hK => ?_) AllReadyH.nil)
          · rw [if_pos (by rfl)]
            go_simp
            refine (HR2.out _ (on_below B4.out B33.out)).mono ?_
            rintro r v34 ⟨rfl, hv34⟩
            have B34 := hide (on_below B33.out hv34)
            have P34 := hide (P33.out.on hv34)
            have Q34 := hide (Q33.out.on hv34)
            refine hK.out _ _ trivial (fun hHeld => ?_)
            clear hK K
            try simp only [Act.put, List.setIfInBounds_toArray, List.set_cons_zero, List.set_cons_succ]
            refine wpAnyH_ready (rs := [11]) (by kernel_rfl) (by simp) (AllReadyH.cons rfl (fun K hK => ?_) AllReadyH.nil)
            rw [if_pos (by rfl)]
            refine wp_storeW wD rfl rfl rfl P34.out HOU.out (One.u8 _) (by rw [u8s_length, zer_length]; omega) ?_
            intro z1 hz1 hbz1
            rw [spl_same _ _ (zer_length 32) HOL.out] at hz1
            refine hK.out _ _ trivial (fun hHeld => ?_)
            clear hK K
            simp only [Act.put]
            refine wpAnyH_ready (rs := [12]) (by kernel_rfl) (by simp) (AllReadyH.cons rfl (fun K hK => ?_) AllReadyH.nil)
            rw [if_pos (by rfl)]
            refine wp_storeW wD rfl rfl rfl (Q34.out.but hbz1 hne.symm) HNU.out (One.u8 _) (by rw [u8s_length, zer_length]; omega) ?_
            intro z2 hz2 hbz2
            rw [spl_same _ _ (zer_length 32) HNL.out] at hz2
            refine hK.out _ _ trivial (fun hHeld => ?_)
            clear hK K
            simp only [Act.put]
            refine wpAnyH_done (by kernel_rfl) ?_ _
            refine NoPanic.normal ?_
            exact hjoin _ _ _ ⟨hz1.but hbz2 hne, hz2, (B34.out.trans (hbz1.below hw15)).trans (hbz2.below hw16)⟩
  · rintro g15 g16 w5 ⟨hg5, hg6, hb5⟩
    have G15 := hide hg5
    have G16 := hide hg6
    have SX5 := hide (SX4.out.below hb5)
    have SY5 := hide (SY.out.below hb5)
    have B5 := hide (on_below B4.out hb5)
    clear hg5 hg6 hb5 SX4 SY B4
    go_wp2_with (first | (refine step_loadA wD rfl rfl G16.out HNU.out ?_) | (refine step_alloc zD rfl ?_))
    intro w6 g18 hr6 hl6 hb6
    have R6 := hide hr6
    clear hr6
    go_wp2_with (refine step_storeA wD rfl rfl rfl R6.out HNU.out (One.u8 _) (by rw [u8s_length, zer_length]) ?_)
    intro w7 hg7 hbut7
    have Y7 := hide (hb6.trans (hbut7.below hl6))
    have hcz : w7.cell? ⟨g18, 3, none⟩ = some (.int .u8 z3) := by rw [hg7.cell, u8s_get _ _ (by rw [HNL.out]; omega), HZ3.out]
    have hfz := hg7.free 3
    have G18 : Hid (Blk (w7.setCell ⟨g18, 3, none⟩ (.int .u8 z4)) g18 45 (u8s (RN.set 3 z4))) := hide (by rw [← u8s_set]; exact hg7.set 3 _)
    have Y8 := hide (Y7.out.trans ((But.setCell w7 g18 3 (.int .u8 z4)).below hl6))
    have P15 := hide (G15.out.on Y8.out)
    have P16 := hide (G16.out.on Y8.out)
    have SX7 := hide (SX5.out.below Y8.out)
    have SY7 := hide (SY5.out.below Y8.out)
    have B7 := hide (on_below B5.out Y8.out)
    have hid3 := fun (V : World) => index_at (T := 45) (n := 32) (by kernel_rfl) (by kernel_rfl) (fun _ => by kernel_rfl) g18 3 (3 : Int) rfl (by omega) V
    clear hg7 hbut7 hb6 hl6 R6 Y7 Y8 G15 G16 SX5 SY5 B5
    go_wp2_with fail
    generalize w7.setCell ⟨g18, 3, none⟩ (.int .u8 z4) = w8 at *
    clear hcz hfz hid3
    have hu := aD.und
    have HI1 : Hid ((Tryd.prog.info? 45).map (·.size) = some (u8s (dat xs i)).length) := hide (by rw [wD.size, HDU.out])
    have HI2 : Hid ((Tryd.prog.info? 45).map (·.size) = some (u8s RO).length) := hide (by rw [wD.size, HOU.out])
    have HI3 : Hid ((Tryd.prog.info? 45).map (·.size) = some (u8s RN).length) := hide (by rw [wD.size, HNU.out])
    have HI4 : Hid ((Tryd.prog.info? 45).map (·.size) = some (u8s (RN.set 3 z4)).length) := hide (by rw [wD.size, HOTU.out])
    have HR7 : Hid (∀ v : World, Below w8.heap.size w8 v → v.rangeAt b (o + 32 * i) (u8s (dat xs i))) := hide fun v hv => HRG.out v (on_below B7.out hv)
    have HSX : Hid (∀ v : World, Below w8.heap.size w8 v → Sl v (some ⟨gx, 0, none⟩) L1 cx (encB 1 (i : Int) (n : Int) q3 PP)) := hide fun v hv => SX7.out.below hv
    have HSY : Hid (∀ v : World, Below w8.heap.size w8 v → Sl v (some ⟨gy, 0, none⟩) L2 cy (encB 2 (m : Int) (n : Int) q4 SS)) := hide fun v hv => SY7.out.below hv
    refine wp_region_noPanic ?_
    refine wp_region_held_drew (S := fun v : World => Below w8.heap.size w8 v) (by kernel_rfl) ((Below.refl _ _).drew) (fun hHeld => ?_)
    have Y0 := hide (show Below w8.heap.size w8 w8.drew from (Below.refl _ _).drew)
    refine takeH 0 92 (.slice (some ⟨gx, 0, none⟩) L1 cx) hHeld rfl rfl (by kernel_rfl) (by kernel_rfl) (by kernel_rfl) (fun _ _ _ h => h) (Or.inl ⟨by rfl, fun w _ => by go_simp⟩) ?_
    simp only [Act.put, List.setIfInBounds_toArray, List.set_cons_zero, List.set_cons_succ]
    refine takeH 1 93 (.slice (some ⟨b, o, none⟩) l cap) hHeld rfl rfl (by kernel_rfl) (by kernel_rfl) (by kernel_rfl) (fun _ _ _ h => h) (Or.inl ⟨by rfl, fun w _ => by go_simp⟩) ?_
    simp only [Act.put, List.setIfInBounds_toArray, List.set_cons_zero, List.set_cons_succ]
    refine takeH 2 94 (.int .i64 (i : Int)) hHeld rfl rfl (by kernel_rfl) (by kernel_rfl) (by kernel_rfl) (fun _ _ _ h => h) (Or.inl ⟨by rfl, fun w _ => by go_simp⟩) ?_
    simp only [Act.put, List.setIfInBounds_toArray, List.set_cons_zero, List.set_cons_succ]
    refine takeH 3 95 (.pointer (some ⟨b, o + 32 * i, none⟩)) hHeld rfl rfl (by kernel_rfl) (by kernel_rfl) (by kernel_rfl) (fun _ _ _ h => h) (Or.inl ⟨by rfl, fun w _ => run_op rfl ((d_at b o l cap i (i : Int) rfl (by omega)) w)⟩) ?_
    simp only [Act.put, List.setIfInBounds_toArray, List.set_cons_zero, List.set_cons_succ]
    refine takeH 4 96 (.agg (u8s (dat xs i)).toArray) hHeld rfl rfl (by kernel_rfl) (by kernel_rfl) (by kernel_rfl) (fun _ _ _ h => h) (yieldsIf_load_mid (by rfl) _ _ rfl b (o + 32 * i) rfl _ _ (fun w h => HR7.out w h) hu rfl HI1.out) ?_
    simp only [Act.put, List.setIfInBounds_toArray, List.set_cons_zero, List.set_cons_succ]
    refine takeH 5 97 (.agg (u8s RN).toArray) hHeld rfl rfl (by kernel_rfl) (by kernel_rfl) (by kernel_rfl) (fun _ _ _ h => h) (yieldsIf_load_mid (by rfl) _ _ rfl g16 0 rfl _ _ (fun w h => (P16.out.on h).range 0 _ (by simp)) hu rfl HI3.out) ?_
    simp only [Act.put, List.setIfInBounds_toArray, List.set_cons_zero, List.set_cons_succ]
    refine wpAnyH_ready (rs := [6]) (by kernel_rfl) (by simp) (AllReadyH.cons rfl (fun K hK => ?_) AllReadyH.nil)
    rw [if_pos (by rfl)]
    go_simp
    refine (C1.out RN _ _ _ _ HNL.out (on_below B7.out Y0.out) (HSX.out _ Y0.out)).mono ?_
    rintro r v1 ⟨rfl, hv1⟩
    rw [inR_self]
    have Y1 := hide (on_below Y0.out hv1)
    refine hK.out _ _ (Y1.out) (fun hHeld => ?_)
    clear hK K
    refine takeH 7 99 (.bool true) hHeld rfl rfl (by kernel_rfl) (by kernel_rfl) (by kernel_rfl) (fun _ _ _ h => h) (Or.inl ⟨by rfl, fun w _ => by go_simp⟩) ?_
    simp only [Act.put, List.setIfInBounds_toArray, List.set_cons_zero, List.set_cons_succ]
    refine takeH 8 100 (.bool true) hHeld rfl rfl (by kernel_rfl) (by kernel_rfl) (by kernel_rfl) (fun _ _ _ h => h) (Or.inl ⟨by rfl, fun w _ => by go_simp⟩) ?_
    simp only [Act.put, List.setIfInBounds_toArray, List.set_cons_zero, List.set_cons_succ]
    refine takeH 9 101 (.slice (some ⟨gy, 0, none⟩) L2 cy) hHeld rfl rfl (by kernel_rfl) (by kernel_rfl) (by kernel_rfl) (fun _ _ _ h => h) (Or.inl ⟨by rfl, fun w _ => by go_simp⟩) ?_
    simp only [Act.put, List.setIfInBounds_toArray, List.set_cons_zero, List.set_cons_succ]
    refine takeH 10 102 (.agg (u8s RO).toArray) hHeld rfl rfl (by kernel_rfl) (by kernel_rfl) (by kernel_rfl) (fun _ _ _ h => h) (yieldsIf_load_mid (by rfl) _ _ rfl g15 0 rfl _ _ (fun w h => (P15.out.on h).range 0 _ (by simp)) hu rfl HI2.out) ?_
    simp only [Act.put, List.setIfInBounds_toArray, List.set_cons_zero, List.set_cons_succ]
    refine takeH 11 103 (.agg (u8s RN).toArray) hHeld rfl rfl (by kernel_rfl) (by kernel_rfl) (by kernel_rfl) (fun _ _ _ h => h) (yieldsIf_load_mid (by rfl) _ _ rfl g16 0 rfl _ _ (fun w h => (P16.out.on h).range 0 _ (by simp)) hu rfl HI3.out) ?_
    simp only [Act.put, List.setIfInBounds_toArray, List.set_cons_zero, List.set_cons_succ]
    refine wpAnyH_ready (rs := [12]) (by kernel_rfl) (by simp) (AllReadyH.cons rfl (fun K hK => ?_) AllReadyH.nil)
    rw [if_pos (by rfl)]
    go_simp
    refine (C2.out _ _ _ _ (on_below B7.out Y1.out) (HSY.out _ Y1.out)).mono ?_
    rintro r v2 ⟨rfl, hv2⟩
    have Y2 := hide (on_below Y1.out hv2)
    refine hK.out _ _ (Y2.out) (fun hHeld => ?_)
    clear hK K
    refine takeH 13 105 (.bool true) hHeld rfl rfl (by kernel_rfl) (by kernel_rfl) (by kernel_rfl) (fun _ _ _ h => h) (Or.inl ⟨by rfl, fun w _ => by go_simp⟩) ?_
    simp only [Act.put, List.setIfInBounds_toArray, List.set_cons_zero, List.set_cons_succ]
    refine takeH 14 106 (.bool true) hHeld rfl rfl (by kernel_rfl) (by kernel_rfl) (by kernel_rfl) (fun _ _ _ h => h) (Or.inl ⟨by rfl, fun w _ => by go_simp⟩) ?_
    simp only [Act.put, List.setIfInBounds_toArray, List.set_cons_zero, List.set_cons_succ]
    refine takeH 15 107 (.bool true) hHeld rfl rfl (by kernel_rfl) (by kernel_rfl) (by kernel_rfl) (fun _ _ _ h => h) (Or.inl ⟨by rfl, fun w _ => by go_simp⟩) ?_
    simp only [Act.put, List.setIfInBounds_toArray, List.set_cons_zero, List.set_cons_succ]
    refine takeH 16 108 (.slice (some ⟨gx, 0, none⟩) L1 cx) hHeld rfl rfl (by kernel_rfl) (by kernel_rfl) (by kernel_rfl) (fun _ _ _ h => h) (Or.inl ⟨by rfl, fun w _ => by go_simp⟩) ?_
    simp only [Act.put, List.setIfInBounds_toArray, List.set_cons_zero, List.set_cons_succ]
    refine takeH 17 109 (.slice (some ⟨b, o, none⟩) l cap) hHeld rfl rfl (by kernel_rfl) (by kernel_rfl) (by kernel_rfl) (fun _ _ _ h => h) (Or.inl ⟨by rfl, fun w _ => by go_simp⟩) ?_
    simp only [Act.put, List.setIfInBounds_toArray, List.set_cons_zero, List.set_cons_succ]
    refine takeH 18 110 (.int .i64 (i : Int)) hHeld rfl rfl (by kernel_rfl) (by kernel_rfl) (by kernel_rfl) (fun _ _ _ h => h) (Or.inl ⟨by rfl, fun w _ => by go_simp⟩) ?_
    simp only [Act.put, List.setIfInBounds_toArray, List.set_cons_zero, List.set_cons_succ]
    refine takeH 19 111 (.pointer (some ⟨b, o + 32 * i, none⟩)) hHeld rfl rfl (by kernel_rfl) (by kernel_rfl) (by kernel_rfl) (fun _ _ _ h => h) (Or.inl ⟨by rfl, fun w _ => run_op rfl ((d_at b o l cap i (i : Int) rfl (by omega)) w)⟩) ?_
    simp only [Act.put, List.setIfInBounds_toArray, List.set_cons_zero, List.set_cons_succ]
    refine takeH 20 112 (.agg (u8s (dat xs i)).toArray) hHeld rfl rfl (by kernel_rfl) (by kernel_rfl) (by kernel_rfl) (fun _ _ _ h => h) (yieldsIf_load_mid (by rfl) _ _ rfl b (o + 32 * i) rfl _ _ (fun w h => HR7.out w h) hu rfl HI1.out) ?_
    simp only [Act.put, List.setIfInBounds_toArray, List.set_cons_zero, List.set_cons_succ]
    refine takeH 21 113 (.agg (u8s (RN.set 3 z4)).toArray) hHeld rfl rfl (by kernel_rfl) (by kernel_rfl) (by kernel_rfl) (fun _ _ _ h => h) (yieldsIf_load_mid (by rfl) _ _ rfl g18 0 rfl _ _ (fun w h => (G18.out.on h).range 0 _ (by simp)) hu rfl HI4.out) ?_
    simp only [Act.put, List.setIfInBounds_toArray, List.set_cons_zero, List.set_cons_succ]
    refine wpAnyH_ready (rs := [22]) (by kernel_rfl) (by simp) (AllReadyH.cons rfl (fun K hK => ?_) AllReadyH.nil)
    rw [if_pos (by rfl)]
    go_simp
    refine (C1.out (RN.set 3 z4) _ _ _ _ HOTL.out (on_below B7.out Y2.out) (HSX.out _ Y2.out)).mono ?_
    rintro r v3 ⟨rfl, hv3⟩
    rw [HOT.out]
    have Y3 := hide (on_below Y2.out hv3)
    refine hK.out _ _ (Y3.out) (fun hHeld => ?_)
    clear hK K
    refine takeH 23 115 (.bool true) hHeld rfl rfl (by kernel_rfl) (by kernel_rfl) (by kernel_rfl) (fun _ _ _ h => h) (Or.inl ⟨by rfl, fun w _ => by go_simp⟩) ?_
    simp only [Act.put, List.setIfInBounds_toArray, List.set_cons_zero, List.set_cons_succ]
    refine takeH 24 116 (.bool true) hHeld rfl rfl (by kernel_rfl) (by kernel_rfl) (by kernel_rfl) (fun _ _ _ h => h) (Or.inl ⟨by rfl, fun w _ => by go_simp⟩) ?_
    simp only [Act.put, List.setIfInBounds_toArray, List.set_cons_zero, List.set_cons_succ]
    refine takeH 25 117 (.bool true) hHeld rfl rfl (by kernel_rfl) (by kernel_rfl) (by kernel_rfl) (fun _ _ _ h => h) (Or.inl ⟨by rfl, fun w _ => by go_simp⟩) ?_
    simp only [Act.put, List.setIfInBounds_toArray, List.set_cons_zero, List.set_cons_succ]
    refine takeH 26 118 (.slice (some ⟨gy, 0, none⟩) L2 cy) hHeld rfl rfl (by kernel_rfl) (by kernel_rfl) (by kernel_rfl) (fun _ _ _ h => h) (Or.inl ⟨by rfl, fun w _ => by go_simp⟩) ?_
    simp only [Act.put, List.setIfInBounds_toArray, List.set_cons_zero, List.set_cons_succ]
    refine takeH 27 119 (.slice (some ⟨b, o, none⟩) l cap) hHeld rfl rfl (by kernel_rfl) (by kernel_rfl) (by kernel_rfl) (fun _ _ _ h => h) (Or.inl ⟨by rfl, fun w _ => by go_simp⟩) ?_
    simp only [Act.put, List.setIfInBounds_toArray, List.set_cons_zero, List.set_cons_succ]
    refine takeH 28 120 (.int .i64 (i : Int)) hHeld rfl rfl (by kernel_rfl) (by kernel_rfl) (by kernel_rfl) (fun _ _ _ h => h) (Or.inl ⟨by rfl, fun w _ => by go_simp⟩) ?_
    simp only [Act.put, List.setIfInBounds_toArray, List.set_cons_zero, List.set_cons_succ]
    refine takeH 29 121 (.pointer (some ⟨b, o + 32 * i, none⟩)) hHeld rfl rfl (by kernel_rfl) (by kernel_rfl) (by kernel_rfl) (fun _ _ _ h => h) (Or.inl ⟨by rfl, fun w _ => run_op rfl ((d_at b o l cap i (i : Int) rfl (by omega)) w)⟩) ?_
    simp only [Act.put, List.setIfInBounds_toArray, List.set_cons_zero, List.set_cons_succ]
    refine takeH 30 122 (.agg (u8s (dat xs i)).toArray) hHeld rfl rfl (by kernel_rfl) (by kernel_rfl) (by kernel_rfl) (fun _ _ _ h => h) (yieldsIf_load_mid (by rfl) _ _ rfl b (o + 32 * i) rfl _ _ (fun w h => HR7.out w h) hu rfl HI1.out) ?_
    simp only [Act.put, List.setIfInBounds_toArray, List.set_cons_zero, List.set_cons_succ]
    refine takeH 31 123 (.agg (u8s RN).toArray) hHeld rfl rfl (by kernel_rfl) (by kernel_rfl) (by kernel_rfl) (fun _ _ _ h => h) (yieldsIf_load_mid (by rfl) _ _ rfl g16 0 rfl _ _ (fun w h => (P16.out.on h).range 0 _ (by simp)) hu rfl HI3.out) ?_
    simp only [Act.put, List.setIfInBounds_toArray, List.set_cons_zero, List.set_cons_succ]
    refine wpAnyH_ready (rs := [32]) (by kernel_rfl) (by simp) (AllReadyH.cons rfl (fun K hK => ?_) AllReadyH.nil)
    rw [if_pos (by rfl)]
    go_simp
    refine (C4.out _ _ _ _ (on_below B7.out Y3.out) (HSY.out _ Y3.out)).mono ?_
    rintro r v4 ⟨rfl, hv4⟩
    have Y4 := hide (on_below Y3.out hv4)
    refine hK.out _ _ (Y4.out) (fun hHeld => ?_)
    clear hK K
    refine takeH 33 125 (.bool true) hHeld rfl rfl (by kernel_rfl) (by kernel_rfl) (by kernel_rfl) (fun _ _ _ h => h) (Or.inl ⟨by rfl, fun w _ => by go_simp⟩) ?_
    simp only [Act.put, List.setIfInBounds_toArray, List.set_cons_zero, List.set_cons_succ]
    refine takeH 34 126 (.bool true) hHeld rfl rfl (by kernel_rfl) (by kernel_rfl) (by kernel_rfl) (fun _ _ _ h => h) (Or.inl ⟨by rfl, fun w _ => by go_simp⟩) ?_
    simp only [Act.put, List.setIfInBounds_toArray, List.set_cons_zero, List.set_cons_succ]
    refine takeH 35 127 (.bool true) hHeld rfl rfl (by kernel_rfl) (by kernel_rfl) (by kernel_rfl) (fun _ _ _ h => h) (Or.inl ⟨by rfl, fun w _ => by go_simp⟩) ?_
    simp only [Act.put, List.setIfInBounds_toArray, List.set_cons_zero, List.set_cons_succ]
    refine takeH 36 128 (.slice (some ⟨gx, 0, none⟩) L1 cx) hHeld rfl rfl (by kernel_rfl) (by kernel_rfl) (by kernel_rfl) (fun _ _ _ h => h) (Or.inl ⟨by rfl, fun w _ => by go_simp⟩) ?_
    simp only [Act.put, List.setIfInBounds_toArray, List.set_cons_zero, List.set_cons_succ]
    refine takeH 37 129 (.agg (u8s RO).toArray) hHeld rfl rfl (by kernel_rfl) (by kernel_rfl) (by kernel_rfl) (fun _ _ _ h => h) (yieldsIf_load_mid (by rfl) _ _ rfl g15 0 rfl _ _ (fun w h => (P15.out.on h).range 0 _ (by simp)) hu rfl HI2.out) ?_
    simp only [Act.put, List.setIfInBounds_toArray, List.set_cons_zero, List.set_cons_succ]
    refine takeH 38 130 (.agg (u8s RN).toArray) hHeld rfl rfl (by kernel_rfl) (by kernel_rfl) (by kernel_rfl) (fun _ _ _ h => h) (yieldsIf_load_mid (by rfl) _ _ rfl g16 0 rfl _ _ (fun w h => (P16.out.on h).range 0 _ (by simp)) hu rfl HI3.out) ?_
    simp only [Act.put, List.setIfInBounds_toArray, List.set_cons_zero, List.set_cons_succ]
    refine wpAnyH_ready (rs := [39]) (by kernel_rfl) (by simp) (AllReadyH.cons rfl (fun K hK => ?_) AllReadyH.nil)
    rw [if_pos (by rfl)]
    go_simp
    refine (C5.out _ _ _ _ (on_below B7.out Y4.out) (HSX.out _ Y4.out)).mono ?_
    rintro r v5 ⟨rfl, hv5⟩
    have Y5 := hide (on_below Y4.out hv5)
    refine hK.out _ _ (Y5.out) (fun hHeld => ?_)
    clear hK K
    refine takeH 40 132 (.bool true) hHeld rfl rfl (by kernel_rfl) (by kernel_rfl) (by kernel_rfl) (fun _ _ _ h => h) (Or.inl ⟨by rfl, fun w _ => by go_simp⟩) ?_
    simp only [Act.put, List.setIfInBounds_toArray, List.set_cons_zero, List.set_cons_succ]
    refine takeH 41 133 (.bool true) hHeld rfl rfl (by kernel_rfl) (by kernel_rfl) (by kernel_rfl) (fun _ _ _ h => h) (Or.inl ⟨by rfl, fun w _ => by go_simp⟩) ?_
    simp only [Act.put, List.setIfInBounds_toArray, List.set_cons_zero, List.set_cons_succ]
    refine takeH 42 6 (.bool true) hHeld rfl rfl (by kernel_rfl) (by kernel_rfl) (by kernel_rfl) (fun _ _ _ h => h) (Or.inl ⟨by rfl, fun w _ => by go_simp⟩) ?_
    simp only [Act.put, List.setIfInBounds_toArray, List.set_cons_zero, List.set_cons_succ]
    refine wpAnyH_done (by kernel_rfl) ?_ _
    refine NoPanic.normal ?_
    clear hHeld hu
    go_wp2
    go_ret
    exact ⟨rfl, on_below B7.out Y5.out⟩

end Go.Proofs.YtojepbapdjkknaaDoor
