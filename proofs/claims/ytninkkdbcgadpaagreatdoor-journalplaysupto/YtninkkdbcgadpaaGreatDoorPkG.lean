/-
  Texts one behind the other: Jqo Jqp Jqc Jqd Jpq Jst JplLaw.
-/
import Derived.Test.YtninkkdbcgadpaaGreatDoorPkF
import Derived.Test.YtninkkdbcgadpaaGreatDoorPkC
import Derived.Test.YtninkkdbcgadpaaGreatDoorPkE
import Derived.Test.YtninkkdbcgadpaaGreatDoorPkB
import Derived.Deep.Cut
import Derived.Test.YtninkkdbcgadpaaGreatDoorPkA
import Derived.Deep.CutRange
import Derived.Deep.CutBlock

/-
  The document's Open.
-/
namespace Go.Proofs.YtninkkdbcgadpaaGreatDoor
open Go.RowKit Go.Shelf
set_option linter.unusedVariables false
set_option linter.unusedSimpArgs false
set_option maxRecDepth 100000

theorem sl_bytes (w : World) (xs : List Int) (hb : isB xs) (hl : xs.length ≤ 140737488355328) : Sl (Lib.bytesWorld w 5 (str xs)) (some ⟨w.heap.size, 0, none⟩) xs.length (grownCap w xs.length 0 5) xs := by
  refine ⟨rfl, grownCap_ge _ _ _ _, ?_, hl, hb, (fun e => by cases e), fun _ => ⟨_, 0, rfl, fun i hi => ?_⟩⟩
  · have := grownCap_le_maxLen w xs.length 0 5 (by unfold maxLen; omega)
    unfold maxLen at this
    omega
  · have hc := Lib.bytesWorld_cell w 5 (str xs) i (by rw [str_size]; exact hi)
    rw [Nat.zero_add, hc]
    have e1 : (str xs).data.toList = xs.map fun n => UInt8.ofNat n.toNat := strOfNums_data xs
    have h1 := hb (xs[i]) (List.getElem_mem hi)
    have e2 : ((str xs).data.toList.getD i 0).toNat = (xs.getD i 0).toNat := by
      rw [e1]
      simp only [List.getD, List.getElem?_map, List.getElem?_eq_getElem hi, Option.map_some, Option.getD_some, UInt8.toNat_ofNat']
      omega
    rw [e2]
    have e3 : xs.getD i 0 = xs[i] := by simp [List.getD, hi]
    rw [e3]
    congr 2
    omega
section
variable {dst : Option Tmp} {ty : TypeId} {pos : String} {aft : Array Edge} {gd : Option (Nat × Bool)} {ops : Array Oper} {rest : List Oper} {a : Act} {w : World} {Q : Exit → Act → World → Prop}
/-- []byte of a string. -/
theorem step_toB {x : Operand} {xs : List Int} (hb : isB xs) (hl : xs.length ≤ 140737488355328) (hw : Region.wanted ⟨dst, .convert 9 39 x, ty, pos, aft, gd⟩ (yielded ops a.tmps) = true) (hx : a.eval x = .string (str xs))
    (h : ∀ w1 g cap, Sl w1 (some ⟨g, 0, none⟩) xs.length cap xs → Below w.heap.size w w1 → wpList Tryz.prog ops Q rest (a.put dst (.slice (some ⟨g, 0, none⟩) xs.length cap)) w1) :
    wpList Tryz.prog ops Q (⟨dst, .convert 9 39 x, ty, pos, aft, gd⟩ :: rest) a w :=
  step_run hw (.slice (some ⟨w.heap.size, 0, none⟩) xs.length (grownCap w xs.length 0 5)) (Lib.bytesWorld w 5 (str xs)) (by
    have := Lib.run_convert_string_bytes (P := Tryz.prog) w 9 39 5 (str xs) undS undBs undB
    rw [str_size] at this
    simp [execOp, hx, this, Result.andThen]) (h _ _ _ (sl_bytes w xs hb hl) (Lib.bytesWorld_below _ _ _))
theorem run_buildQ2 (p : Option Addr) (g : Int) (w : World) : (Instr.build 88 #[(0, .pointer p), (1, .int .i64 g)]).run Tryz.prog w = .ok (.agg (jnC p g (.slice none 0 0)).toArray) w := by kernel_rfl
theorem run_buildQ3 (p : Option Addr) (g : Int) (b : Option Addr) (n c : Nat) (w : World) : (Instr.build 88 #[(0, .pointer p), (1, .int .i64 g), (2, .slice b n c)]).run Tryz.prog w = .ok (.agg (jnC p g (.slice b n c)).toArray) w := by kernel_rfl
theorem step_buildQ2 {x y : Operand} {p : Option Addr} {g : Int} (hw : Region.wanted ⟨dst, .build 88 #[(0, x), (1, y)], ty, pos, aft, gd⟩ (yielded ops a.tmps) = true) (hx : a.eval x = .pointer p) (hy : a.eval y = .int .i64 g)
    (h : wpList Tryz.prog ops Q rest (a.put dst (.agg (jnC p g (.slice none 0 0)).toArray)) w) : wpList Tryz.prog ops Q (⟨dst, .build 88 #[(0, x), (1, y)], ty, pos, aft, gd⟩ :: rest) a w :=
  step_run hw _ w (run_op (M := Instr.build 88 #[(0, .pointer p), (1, .int .i64 g)]) (by simp [execOp, hx, hy]) (run_buildQ2 p g w)) h
theorem step_buildQ3 {x y z : Operand} {p : Option Addr} {g : Int} {b : Option Addr} {n c : Nat} (hw : Region.wanted ⟨dst, .build 88 #[(0, x), (1, y), (2, z)], ty, pos, aft, gd⟩ (yielded ops a.tmps) = true) (hx : a.eval x = .pointer p) (hy : a.eval y = .int .i64 g) (hz : a.eval z = .slice b n c)
    (h : wpList Tryz.prog ops Q rest (a.put dst (.agg (jnC p g (.slice b n c)).toArray)) w) : wpList Tryz.prog ops Q (⟨dst, .build 88 #[(0, x), (1, y), (2, z)], ty, pos, aft, gd⟩ :: rest) a w :=
  step_run hw _ w (run_op (M := Instr.build 88 #[(0, .pointer p), (1, .int .i64 g), (2, .slice b n c)]) (by simp [execOp, hx, hy, hz]) (run_buildQ3 p g b n c w)) h
end
/-- What calls of the document's disk have left, one behind the other. -/
structure RoA (w W : World) (r s : Nat) (R : Rm) (rs' : List Rw) (R' : Rm) : Prop where
  rk : RkAt W r s rs' R'
  ch : Chs (R.own r) w W
  ow : ∀ k, R'.own r k → R.own r k ∨ w.heap.size ≤ k
  ro : ∀ k, R'.ro k → R.ro k ∨ w.heap.size ≤ k
section
variable {w W W' : World} {r s : Nat} {R R1 : Rm} {rs rs1 rs2 : List Rw}
theorem RoA.refl (h : RkAt w r s rs R) : RoA w w r s R rs R := ⟨h, Chs.refl _ _, fun k hk => .inl hk, fun k hk => .inl hk⟩
theorem RoA.on (h : RoA w W r s R rs1 R1) (hb : Below W.heap.size W W') : RoA w W' r s R rs1 R1 := ⟨h.rk.below hb, h.ch.thenBelow hb, h.ow, h.ro⟩
theorem RoA.step (h : RoA w W r s R rs1 R1) (ho : RoP W W' r s R1 rs2) : ∃ R2, RoA w W' r s R rs2 R2 := by
  obtain ⟨R2, h1, h2, h3, h4⟩ := ho
  have hs := h.ch.size
  refine ⟨R2, h1, h.ch.after h2 h.ow, fun k hk => ?_, fun k hk => ?_⟩
  · rcases h3 k hk with e | e
    · exact h.ow k e
    · exact .inr (by omega)
  · rcases h4 k hk with e | e
    · exact h.ro k e
    · exact .inr (by omega)
/-- Blocks of other kinds are left. -/
theorem RoA.left (h : RoA w W r s R rs1 R1) (h0 : RkAt w r s rs R) {k : Nat} {t : TypeId} {cs : List Value} (hc : Blk w k t cs) (ht : t ≠ 103 ∧ t ≠ 129 ∧ t ≠ 111) : W.heap[k]? = w.heap[k]? :=
  h.ch.block k hc.lt (fun hk => by
    obtain ⟨t', cs', h1, h2⟩ := h0.kind hk
    rcases h2 with rfl | rfl | rfl
    · exact hc.apart h1 ht.1 rfl
    · exact hc.apart h1 ht.2.1 rfl
    · exact hc.apart h1 ht.2.2 rfl)
end
/-- What Open leaves: a journal in memory of its own, over the document's disk. -/
def OpqR (w w' : World) (r q s : Nat) (R : Rm) (rs' : List Rw) (g : Nat) (ls : List (List Int)) : Prop :=
  ∃ R' N, QJ w' r q s rs' R' g ls N ∧ Chs (R.own r) w w' ∧ ∀ k, QF r q R' N k → (R.own r k ∨ R.ro k) ∨ w.heap.size ≤ k
theorem crE_new {rs : List Rw} (hG : Gens (play rs) []) : crE rs (jN 1) = 0 := crE_none (jN_nm (by omega)) (by
  cases hf : play rs (jN 1) with
  | none => rfl
  | some y =>
    have := (hG.mem 1).2 ⟨by omega, by omega, by rw [hf]; rfl⟩
    cases this)
section
variable (r s : Nat) (rs : List Rw) (R : Rm) (w : World) (h : RkAt w r s rs R)
include h
set_option maxHeartbeats 2000000 in
theorem openR_new (hG : Gens (play rs) []) (hfw : R.l.length ≤ 1000000) (hwt : wt rs + 1 ≤ 1099511000000) :
    Calls Tryz.prog 9 #[.pointer (some ⟨r, 0, none⟩)] w fun e w' => ∃ q, e = .returned (.tuple #[.pointer (some ⟨q, 0, none⟩), .int .i64 0]) ∧ OpqR w w' r q s R (crS rs (jN 1)) 1 [] := by
  have HGA := hide (gensR_any r s rs R w h (by omega) hfw)
  have HH := hide h
  have HG := hide hG
  have HC := hide (crE_new hG)
  have HW := hide hwt
  have NM : Hid (∀ W, Calls Tryz.prog 39 #[.int .i64 1] W fun e w' => e = .returned (.tuple #[.string (jN 1), .int .i64 0]) ∧ w' = W) := hide (fun W => nameR_ok 1 W (by omega) (by omega))
  obtain ⟨A, HA⟩ : ∃ A, Hid (jN 1 = A) := ⟨_, hide rfl⟩
  rw [HA.out] at NM HC
  rw [HA.out]
  clear h hG hfw hwt
  go_enter Tryz.func9, Tryz.ntmps9
  go_wp2_with fail
  refine HGA.out.mono ?_
  rintro e w1 ⟨v, gl, rfl, hgl, hrow, hb1⟩
  obtain rfl : gl = [] := hgl.uniq HG.out
  obtain ⟨va, vc, rfl⟩ := hrow.slice
  have hz : (nI []).length = 0 := rfl
  rw [hz]
  have B1 := hide hb1
  clear hrow hgl hb1 HGA hz
  go_wp2_with fail
  refine (NM.out w1).mono ?_
  rintro e w1 ⟨rfl, rfl⟩
  go_wp2_with fail
  refine (createR_any r s rs R w1 (HH.out.below B1.out) A (by have := HW.out; omega)).mono ?_
  rw [HC.out]
  rintro e w2 ⟨rfl, hop⟩
  have HOP := hide hop
  clear hop NM
  go_wp2_with (first | (refine step_buildQ2 rfl rfl rfl ?_) | (refine step_box (cs := jnC (some ⟨r, 0, none⟩) 1 (.slice none 0 0)) rfl rfl ?_))
  intro w3 q hq hle hb3
  have HQ := hide hq
  have B3 := hide hb3
  have HLE := hide hle
  clear hq hb3 hle
  go_wp2
  go_ret2
  obtain ⟨R2, k1, k2, k3, k4⟩ := HOP.out
  have s1 := B1.out.size
  have s2 := k2.size
  refine ⟨q, rfl, R2, ⟨.slice none 0 0, []⟩, ⟨k1.below B3.out, ⟨HQ.out, OwnV.nil _ _ _, Cts.nil _ _, (fun l hl => by cases hl)⟩⟩, ((Chs.of_below _ B1.out).after k2 (fun k hk => .inl hk)).thenBelow B3.out, ?_⟩
  have hql := HLE.out
  rintro k ((hk | hk) | (hk | hk) | ⟨v, hv, _⟩)
  · rcases k3 k hk with e | e
    · exact .inl (.inl e)
    · exact .inr (by omega)
  · rcases k4 k hk with e | e
    · exact .inl (.inr e)
    · exact .inr (by omega)
  · exact .inr (by omega)
  · cases hk
  · cases hv
set_option maxHeartbeats 4000000 in
theorem openR_old (g : Nat) (t : List Nat) (hG : Gens (play rs) (g :: t)) (hfw : R.l.length ≤ 1000000) (htl : t.length ≤ 1000000) (xs : List Int) (L : List (Int × List Int)) (P : Nat → Nat) (E : Int) (hp : play rs (jN g) = some xs) (hib : isB xs) (hxl : xs.length ≤ 1048576) (hF : Frs xs L P E) (hwt : wt rs + t.length + 2 ≤ 1099511000000) :
    Calls Tryz.prog 9 #[.pointer (some ⟨r, 0, none⟩)] w fun e w' => (¬ Shrt L ∧ e = .returned (.tuple #[.pointer none, .int .i64 130]) ∧ Below w.heap.size w w') ∨ (Shrt L ∧ ∃ q, e = .returned (.tuple #[.pointer (some ⟨q, 0, none⟩), .int .i64 0]) ∧ OpqR w w' r q s R (opS rs g t (P L.length)) g (L.map (·.2))) := by
  have hg := (hG.mem g).1 (by simp)
  have HPL := hide (hF.le hib L.length (Nat.le_refl _)).1
  have hfew := hF.few hib
  have HGA := hide (gensR_any r s rs R w h (by omega) hfw)
  have HH := hide h
  have HG := hide hG
  have HF := hide hF
  have HW := hide hwt
  have HX := hide hxl
  have HIB := hide hib
  have HALL : Hid (∀ W : World, RkAt W r s rs R → Calls Tryz.prog 40 #[.pointer (some ⟨r, 0, none⟩), .string (jN g)] W fun e w' => e = .returned (.tuple #[.string (str xs), .bool true]) ∧ Below W.heap.size W w') := hide (fun W hW => by
    have := all_any r s rs R W hW (jN g) (by omega)
    have e1 : fl (play rs) (jN g) = xs := by simp [fl, hp]
    rw [e1, hp] at this
    exact this)
  have HTN : Hid (∀ k ∈ t, 1 ≤ k ∧ k ≤ 2147483647) := hide (fun k hk => by
    have := (hG.mem k).1 (by simp [hk])
    exact ⟨this.1, this.2.1⟩)
  obtain ⟨Z, HZ⟩ : ∃ Z, Hid (P L.length = Z) := ⟨_, hide rfl⟩
  have OP := hide (open_pure hG hp (n := P L.length) HPL.out).1
  rw [HZ.out] at OP
  obtain ⟨K, HK⟩ : ∃ K, Hid (L.length = K) := ⟨_, hide rfl⟩
  have hKb : K ≤ 1048576 := by have := HK.out; omega
  obtain ⟨n, HN⟩ : ∃ n, Hid (t.length = n) := ⟨_, hide rfl⟩
  have hnb : n ≤ 1000000 := by have := HN.out; omega
  clear h hG hF hfw htl hwt hp hib hxl hfew
  go_enter Tryz.func9, Tryz.ntmps9
  go_wp2_with fail
  refine HGA.out.mono ?_
  rintro e w1 ⟨v, gl, rfl, hgl, hrow, hb1⟩
  obtain rfl : gl = g :: t := hgl.uniq HG.out
  rcases hrow.lies with ⟨_, e0⟩ | ⟨gb, cap, cs, rfl, hgb, hblk, hcap, htk⟩
  · cases e0
  have hz : (nI (g :: t)).length = n + 1 := by simp [nI, HN.out]
  rw [hz] at hcap htk
  rw [hz]
  have hcell : ∀ i, i < n + 1 → cs[i]? = some (.int .i64 ((g :: t).getD i 0 : Int)) := fun i hi => by
    have h1 := congrArg (fun l => l[i]?) htk
    simp only [List.getElem?_take, if_pos hi] at h1
    rw [h1]
    simp only [nI, List.getElem?_map, List.getD]
    rw [List.getElem?_eq_getElem (by have := HN.out; simp only [List.length_cons]; omega)]
    rfl
  have HCE := hide hcell
  have BK1 := hide hblk
  have c0 : w1.cell? ⟨gb, 0, none⟩ = some (.int .i64 (g : Int)) := by rw [hblk.cell]; exact hcell 0 (by omega)
  have hix := tinI.at gb (n + 1) cap 0 0 rfl (by omega)
  have hn1 : (((n + 1 : Nat) : Int) == 0) = false := by rw [beq_eq_false_iff_ne]; omega
  have hn2 : (((n : Int) + 1) == 0) = false := by rw [beq_eq_false_iff_ne]; omega
  have B1 := hide hb1
  clear hrow hgl hb1 HGA hz hblk hcell htk
  go_wp2_with fail
  refine (nameR_ok g w1 hg.1 hg.2.1).mono ?_
  rintro e w1 ⟨rfl, rfl⟩
  clear c0
  go_wp2_with fail
  refine (HALL.out _ (HH.out.below B1.out)).mono ?_
  rintro e w2 ⟨rfl, hb2⟩
  have B2 := hide (on_below B1.out hb2)
  have BK2 := hide (BK1.out.on hb2)
  clear hb2 HALL BK1 B1
  go_wp2_with (refine step_toB HIB.out (by have := HX.out; omega) rfl rfl ?_)
  intro w3 gx cx hsx hb3
  have B3 := hide (on_below B2.out hb3)
  have BK3 := hide (BK2.out.on hb3)
  have SX := hide hsx
  clear hb3 hsx BK2 B2
  go_wp2_with fail
  refine (allR_any _ xs.length cx xs L P E w3 SX.out HX.out HF.out).mono ?_
  rintro _ w4 ⟨o, ev, vs, rfl, T⟩
  obtain ⟨oa, oc, rfl⟩ := T.out.slice
  obtain ⟨ea, ec, rfl⟩ := T.ends.slice
  have hvl : vs.length = K := by rw [T.cts.1, dL_length, HK.out]
  have hel : (eC L).length = K := by rw [eC_length, HK.out]
  rw [hvl, hel] at T
  rw [hvl, hel]
  have HVL := hide hvl
  have HT := hide T
  have B4 := hide (on_below B3.out T.bel)
  have BK := hide (BK3.out.on T.bel)
  have H4 := hide (HH.out.below B4.out)
  have L34 : Hid (w.heap.size ≤ w3.heap.size ∧ w3.heap.size ≤ w4.heap.size) := hide ⟨B3.out.size, T.bel.size⟩
  clear hvl hel T SX BK3 B3
  have FIN : Hid (∀ (w6 w7 : World) (R6 : Rm) (q : Nat), RoA w4 w6 r s R (opS rs g t Z) R6 → Blk w7 q 88 (jnC (some ⟨r, 0, none⟩) (g : Int) (.slice oa K oc)) → Below w6.heap.size w6 w7 → w6.heap.size ≤ q → Shrt L → OpqR w w7 r q s R (opS rs g t Z) g (L.map (·.2))) := hide (fun w6 w7 R6 q ha hq hb7 hle hS => by
    obtain ⟨l1, l2⟩ := L34.out
    have sz := ha.ch.size
    have keep : ∀ {k : Nat} {u : TypeId} {ds : List Value}, Blk w4 k u ds → (u ≠ 103 ∧ u ≠ 129 ∧ u ≠ 111) → w7.heap[k]? = w4.heap[k]? := fun {k u ds} hc hu => by
      have hlt := hc.lt
      rw [hb7.block k (by omega), ha.left H4.out hc hu]
    refine ⟨R6, ⟨.slice oa K oc, vs⟩, ⟨ha.rk.below hb7, ⟨hq, ?_, ?_, ?_⟩⟩, ((Chs.of_below _ B4.out).after ha.ch (fun k hk => .inl hk)).thenBelow hb7, ?_⟩
    · exact (HT.out.out.mono (Nat.zero_le _)).same (fun k hk => by
        obtain ⟨ds, hc⟩ := HT.out.out.blk hk
        exact keep hc (by decide))
    · exact (show Cts w4 0 vs (L.map (·.2)) from ⟨HT.out.cts.1, fun i hi => (HT.out.cts.2 i hi).mono (Nat.zero_le _)⟩).same (fun u hu k hk => by
        obtain ⟨l, _, ho⟩ := HT.out.cts.mem hu
        obtain ⟨ds, hc⟩ := ho.lies hk
        exact keep hc (by decide))
    · intro l hl
      obtain ⟨y, hy, rfl⟩ := List.mem_map.1 hl
      refine ⟨?_, hS y hy⟩
      obtain ⟨i, hi, rfl⟩ := List.mem_iff_getElem.1 hy
      have := (HF.out.data HIB.out i hi).1
      simpa [List.getD, hi] using this
    · rintro k ((hk | hk) | (hk | hk) | ⟨u, hu, hk⟩)
      · rcases ha.ow k hk with e | e
        · exact .inl (.inl e)
        · exact .inr (by omega)
      · rcases ha.ro k hk with e | e
        · exact .inl (.inr e)
        · exact .inr (by omega)
      · exact .inr (by omega)
      · have := (HT.out.out.lt k hk).1
        exact .inr (by omega)
      · obtain ⟨l, _, ho⟩ := HT.out.cts.mem hu
        have := ho.lt k hk
        exact .inr (by omega))
  go_wp2_with fail
  go_loopw [15] (fun i W => w4 = W ∧ ∃ k : Nat, i = .int .i64 (k : Int) ∧ k ≤ K ∧ Hid (Shrt (L.take k))) (fun i _ => K - (intOf i).toNat)
  case atStart => exact ⟨rfl, 0, rfl, Nat.zero_le _, hide (fun y hy => by simp at hy)⟩
  case round =>
    obtain ⟨rfl, k, rfl, hk, HS⟩ := hrel
    by_cases hlt : k < K
    · have hlti : (k : Int) < (K : Int) := by omega
      obtain ⟨gr, e1, _, hcell⟩ := HT.out.out.cell k (by rw [HVL.out]; exact hlt)
      subst e1
      have hix2 := tinB.at gr K oc k (k : Int) rfl hlt
      have hkL : k < L.length := by rw [HK.out]; exact hlt
      have hown := HT.out.cts.2 k (by rw [dL_length]; exact hkL)
      obtain ⟨ua, uc, hu⟩ := hown.slice
      have hlen : (dLF L).getD k [] = (L.getD k (0, [])).2 := by simp [dLF, List.getD, hkL]
      rw [hlen] at hu
      have hvk : k < vs.length := by rw [HVL.out]; exact hlt
      have hc : w4.cell? ⟨gr, k, none⟩ = some (.slice ua (L.getD k (0, [])).2.length uc) := by
        rw [hcell, ← hu]
        simp [List.getD, hvk]
      have HTK := hide (take_snocL L k hkL)
      have HMEM : Hid (L.getD k (0, []) ∈ L) := hide (by simp only [List.getD, List.getElem?_eq_getElem hkL, Option.getD_some]; exact List.getElem_mem hkL)
      obtain ⟨m, HM⟩ : ∃ m, Hid ((L.getD k (0, [])).2.length = m) := ⟨_, hide rfl⟩
      rw [HM.out] at hc
      clear hcell hown hu hlen hkL hvk
      by_cases hm : 65535 < m
      · have hm' : (65535 : Int) < (m : Int) := by omega
        have HNS : Hid (¬ Shrt L) := hide (fun hs => by have h1 := hs _ HMEM.out; have h2 := HM.out; omega)
        go_wp2
        go_ret2
        exact .inl ⟨HNS.out, rfl, B4.out⟩
      · have hm' : ¬ (65535 : Int) < (m : Int) := by omega
        have HS2 : Hid (Shrt (L.take (k + 1))) := hide (fun y hy => by
          rw [HTK.out] at hy
          rcases List.mem_append.1 hy with hy | hy
          · exact HS.out y hy
          · simp at hy
            have h2 := HM.out
            simp only [List.getD] at h2
            rw [hy]
            omega)
        go_wp2
        go_roundw
        case rel => exact ⟨trivial, k + 1, by go_num, by omega, HS2⟩
        case measure => simp [intOf]; omega
    · have hlti : ¬ (k : Int) < (K : Int) := by omega
      have HSH : Hid (Shrt L) := hide (by
        have e : k = K := by omega
        have h1 := HS.out
        rwa [e, List.take_of_length_le (by rw [HK.out]; exact Nat.le_refl _)] at h1)
      have FIN : Hid (∀ (w6 w7 : World) (R6 : Rm) (q : Nat), RoA w4 w6 r s R (opS rs g t Z) R6 → Blk w7 q 88 (jnC (some ⟨r, 0, none⟩) (g : Int) (.slice oa K oc)) → Below w6.heap.size w6 w7 → w6.heap.size ≤ q → OpqR w w7 r q s R (opS rs g t Z) g (L.map (·.2))) := hide (fun w6 w7 R6 q ha hq hb hl => FIN.out w6 w7 R6 q ha hq hb hl HSH.out)
      clear HS
      have A0 := hide (RoA.refl H4.out)
      go_wp2_with fail
      go_loopw [16] (fun i W => ∃ (i' : Nat) (R' : Rm), i = .int .i64 (i' : Int) ∧ 1 ≤ i' ∧ i' ≤ n + 1 ∧ Hid (RoA w4 W r s R (rmAll rs (t.take (i' - 1))) R')) (fun i _ => n + 1 - (intOf i).toNat)
      case atStart => exact ⟨1, R, rfl, Nat.le_refl _, by omega, A0⟩
      case round =>
        clear A0
        obtain ⟨i, R', rfl, hi1, hi2, HA⟩ := hrel
        by_cases hlt2 : i < n + 1
        · have hlti2 : (i : Int) < (n : Int) + 1 := by omega
          have hlti3 : (i : Int) < ((n + 1 : Nat) : Int) := by omega
          have hix3 := tinI.at gb (n + 1) cap i (i : Int) rfl hlt2
          have hit : i - 1 < t.length := by rw [HN.out]; omega
          obtain ⟨x, HXX⟩ : ∃ x, Hid (t.getD (i - 1) 0 = x) := ⟨_, hide rfl⟩
          have hc : wr.cell? ⟨gb, i, none⟩ = some (.int .i64 (x : Int)) := by
            rw [(BK.out.same (HA.out.left H4.out BK.out (by decide))).cell, HCE.out i hlt2, ← HXX.out]
            obtain ⟨i0, rfl⟩ : ∃ i0, i = i0 + 1 := ⟨i - 1, by omega⟩
            rfl
          have hxm : x ∈ t := by
            rw [← HXX.out]
            simp only [List.getD, List.getElem?_eq_getElem hit, Option.getD_some]
            exact List.getElem_mem hit
          have hx1 := HTN.out x hxm
          have HRM : Hid (rmAll rs (t.take i) = rmS (rmAll rs (t.take (i - 1))) (jN x)) := hide (by
            have e : t.take i = t.take (i - 1) ++ [x] := by
              obtain ⟨i0, rfl⟩ : ∃ i0, i = i0 + 1 := ⟨i - 1, by omega⟩
              rw [List.take_succ_eq_append_getElem (by omega)]
              have h2 := HXX.out
              simp only [Nat.add_sub_cancel] at h2 hit ⊢
              simp only [List.getD, List.getElem?_eq_getElem hit, Option.getD_some] at h2
              rw [h2]
            rw [e, rmAll_snoc])
          have HWT : Hid (wt (rmAll rs (t.take (i - 1))) + 1 ≤ 1099511000000) := hide (by
            have h1 := rmAll_wt rs (t.take (i - 1))
            rw [List.length_take] at h1
            have h2 := HW.out
            omega)
          clear hxm hit
          go_wp2_with fail
          refine (nameR_ok x wr hx1.1 hx1.2).mono ?_
          rintro e wr ⟨rfl, rfl⟩
          go_wp2_with fail
          refine (removeR_any r s _ R' wr HA.out.rk (jN x) HWT.out).mono ?_
          rintro e w5 ⟨rfl, hop⟩
          rw [← HRM.out] at hop
          obtain ⟨R5, a5⟩ := HA.out.step hop
          have A5 := hide a5
          generalize fE (rmAll rs (t.take (i - 1))) (jN x) = E5
          clear hop a5 HA hc hix3
          go_wp2_with fail
          go_roundw
          case rel => exact ⟨i + 1, R5, by go_num, by omega, by omega, by rw [Nat.add_sub_cancel]; exact A5⟩
          case measure => simp [intOf]; omega
        · have hlti2 : ¬ (i : Int) < (n : Int) + 1 := by omega
          have hlti3 : ¬ (i : Int) < ((n + 1 : Nat) : Int) := by omega
          have A5 : Hid (RoA w4 wr r s R (rmAll rs t) R') := hide (by
            have h1 := HA.out
            rwa [List.take_of_length_le (by rw [HN.out]; omega)] at h1)
          have HWT : Hid (wt (rmAll rs t) + 1 ≤ 1099511000000) := hide (by
            have h1 := rmAll_wt rs t
            have h2 := HW.out
            omega)
          clear HA
          by_cases hK0 : K = 0
          · have hZ0 : Z = 0 := by rw [← HZ.out, HK.out, hK0]; exact HF.out.p0
            have hk0 : ¬ (0 : Int) < (K : Int) := by omega
            have HCUT : Hid (∀ (W : World) (R' : Rm), RkAt W r s (rmAll rs t) R' → Calls Tryz.prog 43 #[.pointer (some ⟨r, 0, none⟩), .string (jN g), .int .i64 0] W fun e w' => e = .returned (.int .i64 0) ∧ RoP W w' r s R' (opS rs g t Z)) := hide (fun W R' hW => by
              have := cutR_any r s (rmAll rs t) R' W hW (jN g) (Z : Int) HWT.out
              rw [OP.out] at this
              rw [hZ0] at this ⊢
              exact this)
            clear hZ0 hK0
            go_wp2_with fail
            refine (HCUT.out _ _ A5.out.rk).mono ?_
            rintro e w6 ⟨rfl, hop⟩
            obtain ⟨R6, a6⟩ := A5.out.step hop
            have A6 := hide a6
            have d0 : w6.cell? ⟨gb, 0, none⟩ = some (.int .i64 (g : Int)) := ((BK.out.same (a6.left H4.out BK.out (by decide))).cell 0).trans (HCE.out 0 (by omega))
            clear hop a6 A5
            go_wp2_with (first | (refine step_buildQ3 rfl rfl rfl rfl ?_) | (refine step_box (cs := jnC (some ⟨r, 0, none⟩) (g : Int) (.slice oa K oc)) rfl rfl ?_))
            intro w7 q hq hle hb7
            have HQ := hide hq
            have B7 := hide hb7
            have HLE := hide hle
            clear hq hb7 hle d0
            go_wp2
            go_ret2
            refine .inr ⟨HSH.out, q, rfl, ?_⟩
            rw [HZ.out]
            exact FIN.out _ _ _ _ A6.out HQ.out B7.out HLE.out
          · have hk0 : (0 : Int) < (K : Int) := by omega
            have HCUT : Hid (∀ (W : World) (R' : Rm), RkAt W r s (rmAll rs t) R' → Calls Tryz.prog 43 #[.pointer (some ⟨r, 0, none⟩), .string (jN g), .int .i64 (Z : Int)] W fun e w' => e = .returned (.int .i64 0) ∧ RoP W w' r s R' (opS rs g t Z)) := hide (fun W R' hW => by
              have := cutR_any r s (rmAll rs t) R' W hW (jN g) (Z : Int) HWT.out
              rwa [OP.out] at this)
            obtain ⟨ge, e1, _, hce⟩ := HT.out.ends.cell (K - 1) (by rw [eC_length, HK.out]; omega)
            subst e1
            have e1 : (eC L)[K - 1]? = some (.int .i64 (Z : Int)) := by
              rw [← HZ.out]
              have hKL : K - 1 < L.length := by rw [HK.out]; omega
              have h3 := (HF.out.step (K - 1) hKL).2.2
              have h4 : K - 1 + 1 = L.length := by rw [HK.out]; omega
              rw [h4] at h3
              rw [← h3]
              simp [eC, List.getD, hKL]
            rw [e1] at hce
            have hce5 : wr.cell? ⟨ge, K - 1, none⟩ = some (.int .i64 (Z : Int)) := by
              obtain ⟨ds, hds⟩ := HT.out.ends.blk (k := ge) rfl
              rw [World.cell?_of_block (w := w4) (A5.out.left H4.out hds (by decide))]
              exact hce
            have hx := tinI.at ge K ec (K - 1) ((K : Int) - 1) (by omega) (by omega)
            clear e1 hce
            go_wp2_with fail
            refine (HCUT.out _ _ A5.out.rk).mono ?_
            rintro e w6 ⟨rfl, hop⟩
            obtain ⟨R6, a6⟩ := A5.out.step hop
            have A6 := hide a6
            have d0 : w6.cell? ⟨gb, 0, none⟩ = some (.int .i64 (g : Int)) := ((BK.out.same (a6.left H4.out BK.out (by decide))).cell 0).trans (HCE.out 0 (by omega))
            clear hop a6 A5
            go_wp2_with (first | (refine step_buildQ3 rfl rfl rfl rfl ?_) | (refine step_box (cs := jnC (some ⟨r, 0, none⟩) (g : Int) (.slice oa K oc)) rfl rfl ?_))
            intro w7 q hq hle hb7
            have HQ := hide hq
            have B7 := hide hb7
            have HLE := hide hle
            clear hq hb7 hle d0
            go_wp2
            go_ret2
            refine .inr ⟨HSH.out, q, rfl, ?_⟩
            rw [HZ.out]
            exact FIN.out _ _ _ _ A6.out HQ.out B7.out HLE.out
end

end Go.Proofs.YtninkkdbcgadpaaGreatDoor

/-
  Both journals beside each other; the bounds of what acts make.
-/
namespace Go.Proofs.YtninkkdbcgadpaaGreatDoor
open Go.RowKit Go.Shelf
set_option linter.unusedVariables false

/-- The program's journal and the document's, with the same raw writes and the same leaves, in memory of their own. -/
structure PQ (w W : World) (d j r q s m : Nat) (rs : List Rw) (g : Nat) (ls : List (List Int)) (D : Dm) (M : Jm) (R : Rm) (N : Jm) : Prop where
  pj : PJ W d j s rs D g ls M
  qj : QJ W r q s rs R g ls N
  ap : ∀ k, JF d j D M k → ¬ QF r q R N k
  gen : Gens (play rs) [g]
  oj : ∀ k, JF d j D M k → w.heap.size ≤ k
  oq : ∀ k, QF r q R N k → w.heap.size ≤ k
  bel : Below w.heap.size w W
  bd : Bd m (wt rs) (fmA ls).length ls.length
section
variable {w W W1 W2 : World} {d j r q s m m' : Nat} {rs rs' : List Rw} {g g' : Nat} {ls ls' : List (List Int)} {D : Dm} {M : Jm} {R : Rm} {N : Jm}
theorem PQ.lt (h : PQ w W d j r q s m rs g ls D M R N) {k : Nat} (hk : JF d j D M k ∨ QF r q R N k) : k < W.heap.size := hk.elim h.pj.lt h.qj.lt
theorem PQ.on (h : PQ w W d j r q s m rs g ls D M R N) (hb : Below W.heap.size W W1) : PQ w W1 d j r q s m rs g ls D M R N :=
  ⟨h.pj.below hb, h.qj.below hb, h.ap, h.gen, h.oj, h.oq, on_below h.bel hb, h.bd⟩
theorem PQ.more (h : PQ w W d j r q s m rs g ls D M R N) (hm : m ≤ m') : PQ w W d j r q s m' rs g ls D M R N :=
  ⟨h.pj, h.qj, h.ap, h.gen, h.oj, h.oq, h.bel, h.bd.mono hm (Nat.le_refl _) (Nat.le_refl _) (Nat.le_refl _)⟩
theorem PQ.but {g0 : Nat} (h : PQ w W d j r q s m rs g ls D M R N) (hb : But g0 W W1) (hg : w.heap.size ≤ g0) (hn : ¬ (JF d j D M g0 ∨ QF r q R N g0)) : PQ w W1 d j r q s m rs g ls D M R N :=
  ⟨h.pj.same (fun k hk => hb.block k (fun e => hn (.inl (e ▸ hk)))), h.qj.same (fun k hk => hb.block k (fun e => hn (.inr (e ▸ hk)))), h.ap, h.gen, h.oj, h.oq, h.bel.trans (hb.below hg), h.bd⟩
theorem PQ.tt (h : PQ w W d j r q s m rs g ls D M R N) (ht : TT w) : TT W := ht.under h.bel ht.kt.lt ht.pt.lt
/-- Behind the program's call the document's is as it was. -/
theorem PQ.mid (h : PQ w W d j r q s m rs g ls D M R N) (h1 : JR W W1 d j s D M rs' g' ls') : QJ W1 r q s rs R g ls N ∧ Below w.heap.size w W1 := by
  obtain ⟨D', M', _, hc, _⟩ := h1
  exact ⟨h.qj.chs hc (fun k hk hj => h.ap k hj hk), h.bel.trans (hc.below (fun k hk hj => by have := h.oj k hj; omega) h.bel.size)⟩
/-- Both calls, one behind the other. -/
theorem PQ.both (h : PQ w W d j r q s m rs g ls D M R N) (h1 : JR W W1 d j s D M rs' g' ls') (h2 : QR W1 W2 r q s R N rs' g' ls') (hg : Gens (play rs') [g']) (hbd : Bd m' (wt rs') (fmA ls').length ls'.length) :
    ∃ D' M' R' N', PQ w W2 d j r q s m' rs' g' ls' D' M' R' N' ∧ ∀ k, JF d j D' M' k ∨ QF r q R' N' k → (JF d j D M k ∨ QF r q R N k) ∨ W.heap.size ≤ k := by
  obtain ⟨hq1, hb1⟩ := h.mid h1
  obtain ⟨D', M', p1, c1, n1⟩ := h1
  obtain ⟨R', N', p2, c2, n2⟩ := h2
  have s0 := h.bel.size
  have s1 := c1.size
  have aw : ∀ k, JF d j D' M' k → ¬ QF r q R N k := fun k hk hq => by
    rcases n1 k hk with e | e
    · exact h.ap k e hq
    · have := h.qj.lt hq; omega
  refine ⟨D', M', R', N', ⟨p1.chs c2 aw, p2, fun k hk hq => ?_, hg, fun k hk => ?_, fun k hk => ?_, hb1.trans (c2.below (fun k hk hj => by have := h.oq k hj; omega) hb1.size), hbd⟩, fun k hk => ?_⟩
  · rcases n2 k hq with e | e
    · exact aw k hk e
    · have := p1.lt hk; omega
  · rcases n1 k hk with e | e
    · exact h.oj k e
    · omega
  · rcases n2 k hk with e | e
    · exact h.oq k e
    · omega
  · rcases hk with hk | hk
    · exact (n1 k hk).imp .inl id
    · rcases n2 k hk with e | e
      · exact .inl (.inr e)
      · exact .inr (by omega)
/-- Something of the call's own, beside them. -/
theorem PQ.keepV (h : PQ w W d j r q s m rs g ls D M R N) (h1 : JR W W1 d j s D M rs' g' ls') (h2 : QR W1 W2 r q s R N rs' g' ls') {k : Nat} (hk : k < W.heap.size) (hn : ¬ (JF d j D M k ∨ QF r q R N k)) : W2.heap[k]? = W.heap[k]? := by
  obtain ⟨D', M', p1, c1, n1⟩ := h1
  obtain ⟨R', N', p2, c2, n2⟩ := h2
  have s1 := c1.size
  rw [c2.block k (by omega) (fun e => hn (.inr e)), c1.block k hk (fun e => hn (.inl e))]
end

end Go.Proofs.YtninkkdbcgadpaaGreatDoor

/-
  The document's Add.
-/
namespace Go.Proofs.YtninkkdbcgadpaaGreatDoor
open Go.RowKit Go.Shelf
set_option linter.unusedVariables false
set_option linter.unusedSimpArgs false
set_option maxRecDepth 100000

theorem rBs : Ro 48 39 1 24 (.slice none 0 0) := ⟨by kernel_rfl, by kernel_rfl, by kernel_rfl, rfl, by decide, by decide, fun w => by kernel_rfl⟩
theorem row0B (w : World) : (w.alloc (.cells #[] 39)).ownsRow w.heap.size 39 1 (.slice (some ⟨w.heap.size, 0, none⟩) 0 0) 0 [] := by
  refine ⟨rfl, .inr ⟨w.heap.size, 0, #[], rfl, Nat.le_refl _, ?_, Nat.le_refl _, by unfold maxLen; omega, rfl, rfl⟩⟩
  have := Blk.made w 39 []
  unfold Blk at this
  simpa using this
theorem own_sloff {w1 : World} {r s : Nat} {rs : List Rw} {R : Rm} (h : RkAt w1 r s rs R) {B n c : Nat} {a : Option Addr} {xs : List Int} (ho : Own w1 B (.slice a n c) xs) (hs : Sl w1 a n c xs) : xs ≠ [] → ∀ x, a = some x → ¬ R.own r x.block ∧ x.block < w1.heap.size := fun hne x hx => by
  have h0 : 0 < n := by rw [← hs.hlen]; exact List.length_pos_iff.2 hne
  obtain ⟨b, o, e, _⟩ := hs.hcell h0
  subst hx
  injection e with e
  subst e
  obtain ⟨cs, hc⟩ := ho.lies (k := b) rfl
  exact ⟨h.off hc, hc.lt⟩
section
variable {w : World} {q r g : Nat} {ls : List (List Int)} {N : Jm}
set_option maxHeartbeats 400000 in
theorem addR_big (w : World) (q : Nat) (a : Option Addr) (n c : Nat) (hn : 65535 < n) : Calls Tryz.prog 15 #[.pointer (some ⟨q, 0, none⟩), .slice a n c] w fun e w' => e = .returned (.int .i64 3) ∧ w' = w := by
  have hn' : (65535 : Int) < (n : Int) := by omega
  go_enter Tryz.func15, Tryz.ntmps15
  go_wp2
  go_ret
  exact ⟨rfl, rfl⟩
end
set_option maxHeartbeats 2000000 in
theorem addR_ok (r q s : Nat) (rs : List Rw) (R : Rm) (g : Nat) (ls : List (List Int)) (N : Jm) (w : World) (h : QJ w r q s rs R g ls N) (a : Option Addr) (n c : Nat) (xs : List Int) (hx : Sl w a n c xs) (hn : n ≤ 65535) (hg1 : 1 ≤ g) (hg2 : g ≤ 2147483647) (hf : fE rs (jN g) = 0) (hls : ls.length ≤ 1000000) (hoff : 0 < n → ∀ x, a = some x → ¬ R.own r x.block) (hwt : wt rs + 2 * (8 + n) + 2 ≤ 1099511000000) :
    Calls Tryz.prog 15 #[.pointer (some ⟨q, 0, none⟩), .slice a n c] w fun e w' => e = .returned (.int .i64 0) ∧ QR w w' r q s R N (apS s rs (jN g) (fmB xs)) g (ls ++ [xs]) := by
  have c1 := h.qn.c1
  have hn' : ¬ (65535 : Int) < (n : Int) := by omega
  have HX := hide hx
  have HH := hide h
  have HF := hide hf
  have HW := hide hwt
  have HLS := hide hls
  have HOFF := hide hoff
  have HFB : Hid (isB (fmB xs) ∧ (fmB xs).length = 8 + n) := hide ⟨fmB_isB xs hx.hbyte, by rw [fmB_length, hx.hlen]⟩
  obtain ⟨la, lc, hlv⟩ := h.qn.slice
  have HLV := hide hlv
  clear h hx hf hwt hls hoff hlv
  go_enter Tryz.func15, Tryz.ntmps15
  go_wp2_with fail
  refine (nameR_ok g w hg1 hg2).mono ?_
  rintro e w ⟨rfl, rfl⟩
  clear c1
  obtain ⟨A, HA⟩ : ∃ A, Hid (jN g = A) := ⟨_, hide rfl⟩
  rw [HA.out] at HF
  rw [HA.out]
  go_wp2_with fail
  refine wp_region_noPanic ?_
  have HD := hide (HH.out.below (Below.refl w.heap.size w).drew)
  have SD := hide (HX.out.below (Below.refl w.heap.size w).drew)
  refine wp_region_held_drew (S := fun v : World => Blk v q 88 (jnC (some ⟨r, 0, none⟩) (g : Int) N.lv)) (by kernel_rfl) HD.out.qn.blk (fun hHeld => ?_)
  refine takeH 0 21 (.pointer (some ⟨q, 0, none⟩)) hHeld rfl rfl (by kernel_rfl) (by kernel_rfl) (by kernel_rfl) (fun _ _ _ h => h) (Or.inl ⟨by rfl, fun w _ => by go_simp⟩) ?_
  simp only [Act.put, List.setIfInBounds_toArray, List.set_cons_zero, List.set_cons_succ]
  refine takeH 1 22 (.pointer (some ⟨q, 0, none⟩)) hHeld rfl rfl (by kernel_rfl) (by kernel_rfl) (by kernel_rfl) (fun _ _ _ h => h) (Or.inl ⟨by rfl, fun w _ => by go_simp⟩) ?_
  simp only [Act.put, List.setIfInBounds_toArray, List.set_cons_zero, List.set_cons_succ]
  refine takeH 2 23 (.pointer (some ⟨q, 0, none⟩)) hHeld rfl rfl (by kernel_rfl) (by kernel_rfl) (by kernel_rfl) (fun _ _ _ h => h) (Or.inl ⟨by rfl, fun w _ => by go_simp⟩) ?_
  simp only [Act.put, List.setIfInBounds_toArray, List.set_cons_zero, List.set_cons_succ]
  refine takeH 3 24 (.pointer (some ⟨r, 0, none⟩)) hHeld rfl rfl (by kernel_rfl) (by kernel_rfl) (by kernel_rfl) (fun _ _ _ h => h) (Or.inl ⟨by rfl, fun w hw => by have hw' : w.cell? ⟨q, 0, none⟩ = some (.pointer (some ⟨r, 0, none⟩)) := (fun hw => by rw [Blk.cell hw]; rfl) hw; go_simp⟩) ?_
  simp only [Act.put, List.setIfInBounds_toArray, List.set_cons_zero, List.set_cons_succ]
  refine takeH 4 25 (.string A) hHeld rfl rfl (by kernel_rfl) (by kernel_rfl) (by kernel_rfl) (fun _ _ _ h => h) (Or.inl ⟨by rfl, fun w _ => by go_simp⟩) ?_
  simp only [Act.put, List.setIfInBounds_toArray, List.set_cons_zero, List.set_cons_succ]
  refine takeH 5 26 (.slice a n c) hHeld rfl rfl (by kernel_rfl) (by kernel_rfl) (by kernel_rfl) (fun _ _ _ h => h) (Or.inl ⟨by rfl, fun w _ => by go_simp⟩) ?_
  simp only [Act.put, List.setIfInBounds_toArray, List.set_cons_zero, List.set_cons_succ]
  refine wpAnyH_ready (rs := [6]) (by kernel_rfl) (by simp) (AllReadyH.cons rfl (fun K hK => ?_) AllReadyH.nil)
  rw [if_pos (by rfl)]
  go_simp
  refine (frameR_any a n c xs _ SD.out (by omega)).mono ?_
  rintro e w2 ⟨v, rfl, hov, hb2⟩
  have H2 := hide (HD.out.below hb2)
  have B2 := hide (on_below (Below.refl w.heap.size w).drew hb2)
  obtain ⟨va, vc, rfl, hsv⟩ := hov.sl' HFB.out.1 (by rw [HFB.out.2]; omega)
  have OFF2 := hide (own_sloff H2.out.rk hov hsv)
  have SV := hide hsv
  clear hov hb2 hsv HD SD
  refine hK.out _ _ H2.out.qn.blk (fun hHeld => ?_)
  clear hK K
  try simp only [Act.put, List.setIfInBounds_toArray, List.set_cons_zero, List.set_cons_succ]
  refine wpAnyH_ready (rs := [7]) (by kernel_rfl) (by simp) (AllReadyH.cons rfl (fun K hK => ?_) AllReadyH.nil)
  rw [if_pos (by rfl)]
  go_simp
  refine (appendR_any r s rs R _ H2.out.rk A _ _ _ (fmB xs) SV.out OFF2.out (by have := HW.out; rw [HFB.out.2]; omega)).mono ?_
  rw [HF.out]
  rintro e w3 ⟨rfl, hop⟩
  obtain ⟨R3, q3⟩ := (QA.refl HH.out).on B2.out |>.step hop
  have X3 : Hid (Sl w3 a n c xs) := hide (by
    obtain ⟨_, _, hch, _, _⟩ := hop
    exact (HX.out.below B2.out).chs hch HOFF.out)
  have Q3 := hide q3
  clear hop q3 H2 SV OFF2
  refine hK.out _ _ Q3.out.qj.qn.blk (fun hHeld => ?_)
  clear hK K
  try simp only [Act.put, List.setIfInBounds_toArray, List.set_cons_zero, List.set_cons_succ]
  refine takeH 8 7 (.int .i64 0) hHeld rfl rfl (by kernel_rfl) (by kernel_rfl) (by kernel_rfl) (fun _ _ _ h => h) (Or.inl ⟨by rfl, fun w _ => by go_simp⟩) ?_
  simp only [Act.put, List.setIfInBounds_toArray, List.set_cons_zero, List.set_cons_succ]
  refine wpAnyH_done (by kernel_rfl) ?_ _
  refine NoPanic.normal ?_
  clear hHeld B2 HX
  obtain ⟨K, HK⟩ : ∃ K, Hid (ls.length = K) := ⟨_, hide rfl⟩
  have hKb : K ≤ 1000000 := by have := HK.out; have := HLS.out; omega
  have R0 := hide (row0B w3)
  have B4 : Hid (Below w3.heap.size w3 (w3.alloc (.cells #[] 39))) := hide ((Below.refl _ _).alloc (Nat.le_refl _) _)
  have c2 : (w3.alloc (.cells #[] 39)).cell? ⟨q, 2, none⟩ = some (.slice la K lc) := by rw [(Q3.out.qj.below B4.out).qn.c2, HLV.out, HK.out]
  have V4 : Hid (Vw (w3.alloc (.cells #[] 39)) 39 1 (.slice la K lc) K N.vs) := hide (by
    have h1 := Vw.of_row (Q3.out.qj.below B4.out).qn.row.2
    rwa [HLV.out, Q3.out.qj.qn.vlen, HK.out] at h1)
  go_wp2_with (refine step_appV rBs rfl rfl rfl R0.out V4.out (fun x hx => Q3.out.qj.qn.row.1 x hx) (by omega) B4.out.size ?_)
  intro v5 w5 hr5 hg5 _
  have O5 : Hid (OwnV 39 w5 w3.heap.size v5 N.vs) := hide ⟨Q3.out.qj.qn.row.1, by
    rw [List.nil_append, Nat.zero_add] at hr5
    rw [Q3.out.qj.qn.vlen, HK.out]
    exact hr5⟩
  have B5 : Hid (Below w3.heap.size w3 w5) := hide (B4.out.trans (Below.of_grown hg5 B4.out.size (fun k hk => (World.ownsRow.lt R0.out k hk).1)))
  clear hr5 hg5 c2 V4 R0 B4
  have ho0 : Own (w5.alloc (.cells #[] 5)) w5.heap.size (.slice (some ⟨w5.heap.size, 0, none⟩) 0 0) [] := Own.of_blk (xs := []) (Blk.made w5 5 []) (Nat.le_refl _) (by simp)
  have hb0 : Below w5.heap.size w5 (w5.alloc (.cells #[] 5)) := (Below.refl _ _).alloc (Nat.le_refl _) _
  have HO0 := hide ho0
  have HB0 := hide hb0
  have X6 : Hid (Sl (w5.alloc (.cells #[] 5)) a n c xs) := hide ((X3.out.below B5.out).below hb0)
  have HSM : Hid (([] : List Int).length + n ≤ 140737488355328) := hide (by show 0 + n ≤ _; omega)
  clear ho0 hb0
  go_wp2_with (refine step_append rfl rfl rfl HO0.out X6.out HSM.out (by simp) ?_)
  intro v6 w6 ho6 hg6 _
  rw [List.nil_append] at ho6
  have b56 : Below w5.heap.size w5 w6 := HB0.out.trans (Below.of_grown hg6 HB0.out.size HO0.out.lt)
  have B6 := hide (on_below B5.out b56)
  have O6 := hide (O5.out.below b56)
  have V6 := hide (ho6.mono B5.out.size)
  have hone := ho6.one
  clear ho6 hg6 b56 HO0 HB0 X6 HSM O5
  go_wp2_with (refine step_one1 tinB hone rfl rfl ?_)
  intro w7 g7 hg7 hl7 hb7
  have O7 := hide (O6.out.below hb7)
  have V7 := hide (V6.out.below hb7)
  have B7 := hide (on_below B6.out hb7)
  have G7 := hide hg7
  clear hg7 hl7 hb7 O6 V6 B6
  go_wp2_with (refine step_app1 tinB hone rfl rfl rfl O7.out G7.out (by rw [Q3.out.qj.qn.vlen, HK.out]; omega) B7.out.size ?_)
  intro v8 w8 ho8 hg8
  obtain ⟨a8, c8, rfl⟩ := ho8.slice
  have B8 := hide (B7.out.trans (Below.of_grown hg8 B7.out.size (fun k hk => (O7.out.lt k hk).1)))
  have V8 := hide (V7.out.kept hg8 (V7.out.ne O7.out (by decide)))
  have O8 := hide ho8
  have hb8 := (Q3.out.qj.below B8.out).qn.blk
  have c2 : w8.cell? ⟨q, 2, none⟩ = some N.lv := by rw [hb8.cell]; rfl
  rw [HLV.out] at c2
  have f2 := hb8.free 2
  have hql : q < w3.heap.size := Q3.out.qj.qn.blk.lt
  have FIN : Hid (QR w3 (w8.setCell ⟨q, 2, none⟩ (.slice a8 (N.vs ++ [v6]).length c8)) r q s R3 N (apS s rs A (fmB xs)) g (ls ++ [xs])) := hide (by
    have hbut := But.setCell w8 q 2 (.slice a8 (N.vs ++ [v6]).length c8)
    refine Q3.out.qj.put ((Chs.of_below _ B8.out).thenBut hbut (.inl rfl)) (hb8.set 2 _) (O8.out.same (fun k hk => hbut.block k (fun e => by have := (O8.out.lt k hk).1; omega))) ?_ ?_ ?_
    · refine Cts.snoc ((Q3.out.qj.below B8.out).qn.cts.same (fun u hu k hk => hbut.block k (fun e => ?_))) ((V8.out.mono (Nat.zero_le _)).same (fun k hk => hbut.block k (fun e => by have := V8.out.lt k hk; omega)))
      subst e
      obtain ⟨cs, hc⟩ := (Q3.out.qj.below B8.out).qn.kindR ⟨u, hu, hk⟩
      exact hc.apart hb8 (by decide) rfl
    · intro l hl
      rcases List.mem_append.1 hl with hl | hl
      · exact Q3.out.qj.qn.byt l hl
      · simp at hl
        rw [hl]
        exact ⟨X3.out.hbyte, by rw [X3.out.hlen]; exact hn⟩
    · intro u hu k hk
      rcases List.mem_append.1 hu with hu | hu
      · exact .inl ⟨u, hu, hk⟩
      · simp at hu
        subst hu
        exact .inr (V8.out.lt k hk))
  clear hb8 ho8 hg8 hone
  obtain ⟨n8, HN8⟩ : ∃ n8, Hid ((N.vs ++ [v6]).length = n8) := ⟨_, hide rfl⟩
  rw [HN8.out] at FIN
  rw [HN8.out]
  go_wp2
  go_ret
  exact ⟨rfl, by rw [HA.out]; exact QR.after Q3.out.ch Q3.out.ft FIN.out⟩

end Go.Proofs.YtninkkdbcgadpaaGreatDoor

/-
  The document's Clear.
-/
namespace Go.Proofs.YtninkkdbcgadpaaGreatDoor
open Go.RowKit Go.Shelf
set_option linter.unusedVariables false
set_option linter.unusedSimpArgs false
set_option maxRecDepth 100000

section
variable {w : World} {q r g : Nat} {ls : List (List Int)} {N : Jm} (h : QnAt w q r g ls N)
include h
set_option maxHeartbeats 1000000 in
theorem clearR_bad (k : Int) (hk : k < 0 ∨ (ls.length : Int) < k) : Calls Tryz.prog 13 #[.pointer (some ⟨q, 0, none⟩), .int .i64 k] w fun e w' => e = .returned (.int .i64 2) ∧ w' = w := by
  have c0 := h.c0
  have c2 := h.c2
  obtain ⟨a, c, e⟩ := h.slice
  rw [e] at c2
  clear h e
  by_cases h1 : k < 0
  · clear hk
    go_enter Tryz.func13, Tryz.ntmps13
    go_wp2
    go_ret
    exact ⟨rfl, rfl⟩
  · have h2 : (ls.length : Int) < k := by omega
    clear hk
    go_enter Tryz.func13, Tryz.ntmps13
    go_wp2
    go_ret
    exact ⟨rfl, rfl⟩
set_option maxHeartbeats 1000000 in
theorem clearR_0 : Calls Tryz.prog 13 #[.pointer (some ⟨q, 0, none⟩), .int .i64 0] w fun e w' => e = .returned (.int .i64 0) ∧ w' = w := by
  have c0 := h.c0
  have c2 := h.c2
  obtain ⟨a, c, e⟩ := h.slice
  rw [e] at c2
  have hn : ¬ (ls.length : Int) < 0 := by omega
  clear h e
  go_enter Tryz.func13, Tryz.ntmps13
  go_wp2
  go_ret
  exact ⟨rfl, rfl⟩
set_option maxHeartbeats 1000000 in
theorem clearR_top (k : Nat) (hk : 0 < k) (hl : k ≤ ls.length) (hg : g = 2147483647) : Calls Tryz.prog 13 #[.pointer (some ⟨q, 0, none⟩), .int .i64 (k : Int)] w fun e w' => e = .returned (.int .i64 3) ∧ w' = w := by
  have c0 := h.c0
  have c1 := h.c1
  have c2 := h.c2
  obtain ⟨a, c, e⟩ := h.slice
  rw [e] at c2
  rw [hg] at c1
  have h0 : ¬ (k : Int) < 0 := by omega
  have h1 : ¬ (ls.length : Int) < (k : Int) := by omega
  have h2 : ((k : Int) == 0) = false := by rw [beq_eq_false_iff_ne]; omega
  clear h e hg
  go_enter Tryz.func13, Tryz.ntmps13
  go_wp2
  go_ret
  exact ⟨rfl, rfl⟩
end
/-- The first of some leaves, behind the k-th. -/
theorem drop_take_snoc (ls : List (List Int)) (k i : Nat) (hk : k ≤ i) (hi : i < ls.length) : (ls.take (i + 1)).drop k = (ls.take i).drop k ++ [ls.getD i []] := by
  rw [take_snocN ls i hi, List.drop_append_of_le_length (by rw [List.length_take]; omega)]
theorem wt_apS {s : Nat} (hs : 1 ≤ s) (rs : List Rw) (n : ByteArray) (b : List Int) : wt (apS s rs n b) ≤ wt rs + 2 * b.length + 1 := by
  unfold apS
  split
  · rw [wt_app]
    have := expd_wt hs ⟨rAp n b, rs.length, (fl (play rs) n).length⟩
    have e : (rAp n b).b = b := rfl
    simp only [e] at this
    omega
  · omega
theorem fmA_snoc (ps : List (List Int)) (y : List Int) : fmA (ps ++ [y]) = fmA ps ++ fmB y := by simp [fmA]
theorem fmA_le (ls : List (List Int)) (i k : Nat) : (fmA ((ls.take i).drop k)).length ≤ (fmA ls).length := fmA_part ls i k
theorem Cts.dropK {W : World} {B : Nat} {vs : List Value} {ds : List (List Int)} (h : Cts W B vs ds) (k : Nat) : Cts W B (vs.drop k) (ds.drop k) :=
  ⟨by rw [List.length_drop, List.length_drop, h.1], fun i hi => by
    rw [List.length_drop] at hi
    have := h.2 (k + i) (by omega)
    simpa [List.getD, List.getElem?_drop] using this⟩
set_option maxHeartbeats 4000000 in
theorem clearR_ok (r q s : Nat) (rs : List Rw) (R : Rm) (g : Nat) (ls : List (List Int)) (N : Jm) (w : World) (h : QJ w r q s rs R g ls N) (hs1 : 1 ≤ s) (hG : Gens (play rs) [g]) (hg : g < 2147483647) (k : Nat) (hk : 0 < k) (hl : k ≤ ls.length) (hls : ls.length ≤ 1000000) (hwt : wt rs + 2 * (fmA ls).length + 6 ≤ 1099511000000) :
    Calls Tryz.prog 13 #[.pointer (some ⟨q, 0, none⟩), .int .i64 (k : Int)] w fun e w' => e = .returned (.int .i64 0) ∧ QR w w' r q s R N (clS s rs g (fmA (ls.drop k))) (g + 1) (ls.drop k) := by
  have c0 := h.qn.c0
  have c1 := h.qn.c1
  have c2 := h.qn.c2
  obtain ⟨la, lc, e⟩ := h.qn.slice
  have HLV := hide e
  rw [e] at c2
  have hg1 := hG.one
  obtain ⟨ha, _, _⟩ := hg1
  have h0 : ¬ (k : Int) < 0 := by omega
  have h1 : ¬ (ls.length : Int) < (k : Int) := by omega
  have h2 : ((k : Int) == 0) = false := by rw [beq_eq_false_iff_ne]; omega
  have h3 : ((g : Int) == 2147483647) = false := by rw [beq_eq_false_iff_ne]; omega
  have HIB : Hid (∀ i, isB (fmA ((ls.take i).drop k))) := hide (fun i => fmA_isB _ (fun p hp => (h.qn.byt p (List.mem_of_mem_take (List.mem_of_mem_drop hp))).1))
  have HBY : Hid (∀ i, i < ls.length → isB (ls.getD i []) ∧ (ls.getD i []).length ≤ 65535) := hide (fun i hi => h.qn.byt _ (by
    simp only [List.getD, List.getElem?_eq_getElem hi, Option.getD_some]
    exact List.getElem_mem hi))
  have HP := hide (clear_pure hs1 (HIB.out ls.length) hG hg)
  rw [List.take_length] at HP
  have HS1 := hide hs1
  have HH := hide h
  have HW := hide hwt
  have HFL : Hid (∀ i, (fmA ((ls.take i).drop k)).length ≤ (fmA ls).length) := hide (fun i => fmA_le ls i k)
  have NM : Hid (∀ W, Calls Tryz.prog 39 #[.int .i64 (g : Int)] W fun e w' => e = .returned (.tuple #[.string (jN g), .int .i64 0]) ∧ w' = W) := hide (fun W => nameR_ok g W ha (by omega))
  obtain ⟨g1, HG1⟩ : ∃ g1, Hid (g + 1 = g1) := ⟨_, hide rfl⟩
  have NM1 : Hid (∀ W, Calls Tryz.prog 39 #[.int .i64 (g1 : Int)] W fun e w' => e = .returned (.tuple #[.string (jN g1), .int .i64 0]) ∧ w' = W) := hide (fun W => nameR_ok g1 W (by have := HG1.out; omega) (by have := HG1.out; omega))
  have hgw : wrap64 ((g : Int) + 1) = (g1 : Int) := by have := HG1.out; unfold wrap64; omega
  have hgi : IntKind.i64.wrap ((g : Int) + 1) = (g1 : Int) := by have := HG1.out; rw [IntKind.wrap_i64]; omega
  obtain ⟨n, HN⟩ : ∃ n, Hid (ls.length = n) := ⟨_, hide rfl⟩
  have hnb : n ≤ 1000000 := by have := HN.out; omega
  have hkn : k ≤ n := by have := HN.out; omega
  rw [HN.out] at c2 h1 HLV
  obtain ⟨rs1, HR1⟩ : ∃ rs1, Hid (crS rs (jN g1) = rs1) := ⟨_, hide rfl⟩
  have HWT1 : Hid (wt rs1 ≤ wt rs + 1) := hide (by
    rw [← HR1.out]
    unfold crS
    split
    · rw [wt_app]; simp [wt, rCr]
    · omega)
  have HC : Hid (crE rs (jN g1) = 0 ∧ fE rs1 (jN g1) = 0 ∧ fE (apS s rs1 (jN g1) (fmA (ls.drop k))) (jN g) = 0) := hide (by
    obtain ⟨p1, _, _, p4, p5, _, _⟩ := HP.out
    rw [← HR1.out, ← HG1.out]
    exact ⟨p1, p4, p5⟩)
  have HCL : Hid (clS s rs g (fmA (ls.drop k)) = rmS (apS s rs1 (jN g1) (fmA (ls.drop k))) (jN g)) := hide (by rw [← HR1.out, ← HG1.out]; rfl)
  rw [HCL.out, HG1.out]
  clear h hwt hG hls hl e hs1 ha HP
  go_enter Tryz.func13, Tryz.ntmps13
  go_wp2_with fail
  refine (NM.out w).mono ?_
  rintro e w ⟨rfl, rfl⟩
  go_wp2_with fail
  refine (NM1.out w).mono ?_
  rintro e w ⟨rfl, rfl⟩
  obtain ⟨A, HA⟩ : ∃ A, Hid (jN g = A) := ⟨_, hide rfl⟩
  obtain ⟨A1, HA1⟩ : ∃ A1, Hid (jN g1 = A1) := ⟨_, hide rfl⟩
  rw [HA.out]
  rw [HA1.out]
  rw [HA.out, HA1.out] at HC
  rw [HA1.out] at HR1
  clear NM NM1 hgw hgi c1 c2
  go_wp2_with fail
  refine (createR_any r s rs R w HH.out.rk A1 (by have := HW.out; omega)).mono ?_
  rw [HC.out.1, HR1.out]
  rintro e w1 ⟨rfl, hop⟩
  obtain ⟨R1, q1⟩ := (QA.refl HH.out).step hop
  have Q1 := hide q1
  clear hop q1 c0
  go_wp2_with fail
  go_loopw [10, 11] (fun b p W => ∃ i : Nat, p = .int .i64 (i : Int) ∧ k ≤ i ∧ i ≤ n ∧ Hid (Own W w1.heap.size b (fmA ((ls.take i).drop k))) ∧ Hid (Below w1.heap.size w1 W)) (fun _ p _ => n - (intOf p).toNat)
  case atStart => exact ⟨k, rfl, Nat.le_refl _, hkn, hide (by rw [List.drop_of_length_le (by rw [List.length_take]; omega)]; exact Own.nil _ _), hide (Below.refl _ _)⟩
  case round =>
    obtain ⟨i, rfl, hi1, hi2, HO, HB⟩ := hrel
    have QW := hide (Q1.out.on HB.out)
    have c2 : wr.cell? ⟨q, 2, none⟩ = some (.slice la n lc) := by rw [QW.out.qj.qn.c2, HLV.out]
    by_cases hlt : i < n
    · have hlti : (i : Int) < (n : Int) := by omega
      have hrow := QW.out.qj.qn.row
      rw [HLV.out] at hrow
      have hvi : i < N.vs.length := by rw [QW.out.qj.qn.vlen, HN.out]; exact hlt
      obtain ⟨gr, e1, _, hcell⟩ := hrow.cell i hvi
      subst e1
      have hix := tinB.at gr n lc i (i : Int) rfl hlt
      obtain ⟨y, HY⟩ : ∃ y, Hid (ls.getD i [] = y) := ⟨_, hide rfl⟩
      obtain ⟨u, HU⟩ : ∃ u, Hid (N.vs.getD i undef = u) := ⟨_, hide rfl⟩
      have hown : Own wr 0 u y := by
        have := QW.out.qj.qn.cts.2 i (by rw [HN.out]; exact hlt)
        rw [HU.out, HY.out] at this
        exact this
      have hc : wr.cell? ⟨gr, i, none⟩ = some u := by rw [hcell, List.getElem?_eq_getElem hvi, ← HU.out]; simp [List.getD, hvi]
      have hby := HBY.out i (by rw [HN.out]; exact hlt)
      rw [HY.out] at hby
      obtain ⟨ua, uc, rfl, hus⟩ := hown.sl' hby.1 (by omega)
      have HE : Hid ((ls.take (i + 1)).drop k = (ls.take i).drop k ++ [y]) := hide (by rw [← HY.out]; exact drop_take_snoc ls k i hi1 (by rw [HN.out]; exact hlt))
      have HUS := hide hus
      have HBB := hide hby
      have HM : Hid (y.length ≤ 65535) := hide hby.2
      clear hrow hvi hcell hown hby hus
      go_wp2_with fail
      refine (frameR_any ua y.length uc y _ HUS.out (by have := HM.out; omega)).mono ?_
      rintro e w2 ⟨v, rfl, hov, hb2⟩
      obtain ⟨va, vc, rfl, hsv⟩ := hov.sl' (fmB_isB y HBB.out.1) (by rw [fmB_length]; have := HM.out; omega)
      have B2 := hide (on_below HB.out hb2)
      have O2 := hide (HO.out.below hb2)
      have SV := hide hsv
      have HSM : Hid ((fmA ((ls.take i).drop k)).length + (fmB y).length ≤ 140737488355328) := hide (by
        have h5 := HFL.out i
        have h6 := HW.out
        have h7 := HM.out
        rw [fmB_length]
        omega)
      clear hov hb2 hsv hc hix
      go_wp2_with (refine step_append rfl rfl rfl O2.out SV.out HSM.out B2.out.size ?_)
      intro v3 w3 ho3 hg3 _
      have B3 := hide (B2.out.trans (Below.of_grown hg3 B2.out.size O2.out.lt))
      have O3 : Hid (Own w3 w1.heap.size v3 (fmA ((ls.take (i + 1)).drop k))) := hide (by rw [HE.out, fmA_snoc]; exact ho3)
      clear ho3 hg3 O2 SV HSM c2
      go_wp2
      go_roundw
      case rel => exact ⟨i + 1, by go_num, by omega, by omega, O3, B3⟩
      case measure => simp [intOf]; omega
    · have hlti : ¬ (i : Int) < (n : Int) := by omega
      obtain rfl : i = n := by omega
      have hO := HO.out
      rw [← HN.out, List.take_length] at hO
      have hib := HIB.out ls.length
      rw [List.take_length] at hib
      have hfl := HFL.out ls.length
      rw [List.take_length] at hfl
      obtain ⟨fa, fc, rfl, hsf⟩ := hO.sl' hib (by have := HW.out; omega)
      have HO1 := hide hO
      have SF := hide hsf
      have OFF := hide (own_sloff QW.out.qj.rk hO hsf)
      obtain ⟨F, HF⟩ : ∃ F, Hid (fmA (ls.drop k) = F) := ⟨_, hide rfl⟩
      rw [HF.out] at HO1 SF OFF HC hfl
      rw [HF.out]
      have HFB := hide hfl
      have c0 := QW.out.qj.qn.c0
      clear hO hsf hib hfl HO
      go_wp2_with fail
      clear c2
      refine (appendR_any r s rs1 R1 _ QW.out.qj.rk A1 _ _ _ F SF.out OFF.out (by have h5 := HW.out; have h6 := HWT1.out; have h7 := HFB.out; omega)).mono ?_
      rw [HC.out.2.1]
      rintro e w3 ⟨rfl, hop⟩
      obtain ⟨R3, q3⟩ := QW.out.step hop
      have Q3 := hide q3
      have HWT3 : Hid (wt (apS s rs1 A1 F) ≤ wt rs1 + 2 * F.length + 1) := hide (wt_apS HS1.out _ _ _)
      clear hop q3 c0 SF OFF HO1
      have c0 := Q3.out.qj.qn.c0
      go_wp2_with fail
      refine (removeR_any r s _ R3 _ Q3.out.qj.rk A (by have h5 := HW.out; have h6 := HWT1.out; have h7 := HFB.out; have h8 := HWT3.out; omega)).mono ?_
      rw [HC.out.2.2]
      rintro e w4 ⟨rfl, hop⟩
      obtain ⟨R4, q4⟩ := Q3.out.step hop
      have Q4 := hide q4
      have c0 := q4.qj.qn.c0
      have c1 := q4.qj.qn.c1
      have hb4 := q4.qj.qn.blk
      have f1 := hb4.free 1
      have hgw : wrap64 ((g : Int) + 1) = (g1 : Int) := by have := HG1.out; unfold wrap64; omega
      have hgi : IntKind.i64.wrap ((g : Int) + 1) = (g1 : Int) := by have := HG1.out; rw [IntKind.wrap_i64]; omega
      have hb5 : Blk (w4.setCell ⟨q, 1, none⟩ (.int .i64 (g1 : Int))) q 88 (jnC (some ⟨r, 0, none⟩) (g1 : Int) N.lv) := hb4.set 1 _
      have but5 := But.setCell w4 q 1 (.int .i64 (g1 : Int))
      have hnq : ∀ j, N.lv.ownBlock = some j → j ≠ q := fun j hj e => by
        subst e
        obtain ⟨cs, hc⟩ := q4.qj.qn.row.blk hj
        exact hb4.apart hc (by decide) rfl
      have HB5 := hide hb5
      have BU5 := hide but5
      have HNQ := hide hnq
      clear hop q4 hb4 hb5 but5 hnq Q3 QW HB
      go_upto_region 24 with fail
      revert HB5 BU5
      generalize w4.setCell ⟨q, 1, none⟩ (.int .i64 (g1 : Int)) = w5
      intro HB5 BU5
      clear c1 f1 hgw hgi c0
      have row5 := Q4.out.qj.qn.row.same (w' := w5) (fun j hj => BU5.out.block j (HNQ.out j hj))
      have vl : N.vs.length = i := by rw [Q4.out.qj.qn.vlen, HN.out]
      rw [HLV.out] at row5
      obtain ⟨v1, hv1, hvw⟩ := (Vw.of_row row5.2).from rBs (k := k) (by omega)
      rw [vl] at hvw
      have ROW5 := hide row5
      have HVW := hide hvw
      have VL := hide vl
      clear row5 hvw vl
      have R0 := hide (row0B w5)
      have B6 : Hid (Below w5.heap.size w5 (w5.alloc (.cells #[] 39))) := hide ((Below.refl _ _).alloc (Nat.le_refl _) _)
      have c2 : (w5.alloc (.cells #[] 39)).cell? ⟨q, 2, none⟩ = some (.slice la i lc) := by rw [(HB5.out.on B6.out).cell, ← HLV.out]; rfl
      have V6 : Hid (Vw (w5.alloc (.cells #[] 39)) 39 1 v1 (i - k) (N.vs.drop (k * 1))) := hide (HVW.out _ (by
        have h5 := Vw.of_row (ROW5.out.below B6.out).2
        rwa [VL.out] at h5))
      go_wp2_with (refine step_appV rBs rfl rfl rfl R0.out V6.out (fun x hx => ROW5.out.1 x (List.mem_of_mem_drop hx)) (by omega) B6.out.size ?_)
      intro v7 w7 hr7 hg7 _
      have hdl : (N.vs.drop (k * 1)).length = i - k := by rw [List.length_drop, VL.out, Nat.mul_one]
      have O7 : Hid (OwnV 39 w7 w5.heap.size v7 (N.vs.drop k)) := hide ⟨fun x hx => ROW5.out.1 x (List.mem_of_mem_drop hx), by
        rw [List.nil_append, Nat.zero_add, Nat.mul_one] at hr7
        rw [Nat.mul_one] at hdl
        rw [hdl]
        exact hr7⟩
      have B7 : Hid (Below w5.heap.size w5 w7) := hide (B6.out.trans (Below.of_grown hg7 B6.out.size (fun j hj => (World.ownsRow.lt R0.out j hj).1)))
      clear hr7 hg7 hdl c2 V6 R0 B6 hv1
      obtain ⟨a7, c7, e7⟩ := O7.out.slice
      subst e7
      have hb7 := HB5.out.on B7.out
      have c2 : w7.cell? ⟨q, 2, none⟩ = some N.lv := by rw [hb7.cell]; rfl
      rw [HLV.out] at c2
      have f2 := hb7.free 2
      have hql := Q4.out.qj.qn.blk.lt
      have s5 : w5.heap.size = w4.heap.size := BU5.out.size
      have FIN : Hid (QR w4 (w7.setCell ⟨q, 2, none⟩ (.slice a7 (N.vs.drop k).length c7)) r q s R4 N (rmS (apS s rs1 A1 F) A) g1 (ls.drop k)) := hide (by
        have hbut := But.setCell w7 q 2 (.slice a7 (N.vs.drop k).length c7)
        refine Q4.out.qj.put (vs := N.vs.drop k) ((((Chs.refl (fun j => j = q) w4).thenBut BU5.out (.inl rfl)).thenBelow B7.out).thenBut hbut (.inl rfl)) (hb7.set 2 _) ?_ ?_ ?_ ?_
        · rw [← s5]
          exact O7.out.same (fun j hj => hbut.block j (fun e => by have := (O7.out.lt j hj).1; omega))
        · have hcd : Cts w4 0 (N.vs.drop k) (ls.drop k) := Q4.out.qj.qn.cts.dropK k
          refine hcd.same (fun u hu j hj => ?_)
          have hne : j ≠ q := fun e => by
            subst e
            obtain ⟨cs, hc⟩ := Q4.out.qj.qn.kindR ⟨u, List.mem_of_mem_drop hu, hj⟩
            exact hc.apart Q4.out.qj.qn.blk (by decide) rfl
          have hjl : j < w4.heap.size := by
            obtain ⟨cs, hc⟩ := Q4.out.qj.qn.kindR ⟨u, List.mem_of_mem_drop hu, hj⟩
            exact hc.lt
          rw [hbut.block j hne, B7.out.block j (by omega), BU5.out.block j hne]
        · exact fun l hl => Q4.out.qj.qn.byt l (List.mem_of_mem_drop hl)
        · exact fun u hu j hj => .inl ⟨u, List.mem_of_mem_drop hu, hj⟩)
      clear hb7
      obtain ⟨n7, HN7⟩ : ∃ n7, Hid ((N.vs.drop k).length = n7) := ⟨_, hide rfl⟩
      rw [HN7.out] at FIN
      rw [HN7.out]
      go_wp2
      go_ret
      refine ⟨rfl, ?_⟩
      try rw [HF.out]
      try rw [HA.out]
      try rw [HA1.out]
      exact QR.after Q4.out.ch Q4.out.ft FIN.out

end Go.Proofs.YtninkkdbcgadpaaGreatDoor

/-
  Open, Add and Clear of both journals beside each other.
-/
namespace Go.Proofs.YtninkkdbcgadpaaGreatDoor
open Go.RowKit Go.Shelf
set_option linter.unusedVariables false
set_option linter.unusedSimpArgs false
set_option maxRecDepth 100000

theorem gens_few {rs : List Rw} {gl : List Nat} (h : Gens (play rs) gl) {l : List (ByteArray × List Int)} (hl : FL (play rs) l) : gl.length ≤ l.length := by
  obtain ⟨fs, h1, h2, h3⟩ := gens_names (l.map (·.1))
  have hp : gl.Perm fs := perm_of_mem (h.srt.imp (fun {x y} hxy => Nat.ne_of_lt hxy)) h1 (fun x => by
    rw [h.mem x, h3 x]
    refine and_congr_right fun _ => and_congr_right fun _ => ⟨fun hs => ?_, fun hm => ?_⟩
    · obtain ⟨ys, hy⟩ := Option.isSome_iff_exists.1 hs
      exact List.mem_map.2 ⟨_, (hl.mem _ _).1 hy, rfl⟩
    · obtain ⟨⟨a, ys⟩, hm, e⟩ := List.mem_map.1 hm
      rw [← e]
      rw [(hl.mem a ys).2 hm]
      rfl)
  rw [hp.length_eq]
  rw [List.length_map] at h2
  exact h2
/-- How both Opens answer. -/
theorem opens_any {w W : World} {d r s : Nat} {rs : List Rw} {D : Dm} {R : Rm} (h : LP w W d r s rs D R) (ht : TT w) {m k : Nat} (hl : Lw rs m k) (hm : m ≤ 1048576) (hk : 3 * k ≤ m) :
    ((Calls Tryz.prog 8 #[.pointer (some ⟨d, 0, none⟩)] W fun e w' => e = .returned (.tuple #[.pointer none, .int .i64 130]) ∧ Below W.heap.size W w') ∧
      ∀ W1, RkAt W1 r s rs R → Calls Tryz.prog 9 #[.pointer (some ⟨r, 0, none⟩)] W1 fun e w' => e = .returned (.tuple #[.pointer none, .int .i64 130]) ∧ Below W1.heap.size W1 w') ∨
    ∃ g ls rs', Gens (play rs') [g] ∧ Bd m (wt rs') (fmA ls).length ls.length ∧
      (Calls Tryz.prog 8 #[.pointer (some ⟨d, 0, none⟩)] W fun e w' => ∃ j, e = .returned (.tuple #[.pointer (some ⟨j, 0, none⟩), .int .i64 0]) ∧ OpnR W w' d j s D rs' g ls) ∧
      ∀ W1, RkAt W1 r s rs R → Calls Tryz.prog 9 #[.pointer (some ⟨r, 0, none⟩)] W1 fun e w' => ∃ q, e = .returned (.tuple #[.pointer (some ⟨q, 0, none⟩), .int .i64 0]) ∧ OpqR W1 w' r q s R rs' g ls := by
  have tW := ht.on h.bel
  have hfw : ∀ l, FL (play rs) l → l.length ≤ 1000000 := fun l hl' => by have := hl.all l hl'; omega
  have hRl := hfw _ h.rk.fls
  have hw := hl.wt
  obtain ⟨gl, hG⟩ := gens_ex rs
  cases gl with
  | nil =>
    right
    have hc := crE_new hG
    have hp := play_cr hc
    have w1 := wt_crL rs (jN 1)
    refine ⟨1, [], crS rs (jN 1), ?_, ⟨m, 0, by omega, by omega, Nat.zero_le _, Nat.zero_le _⟩, jopen_new d s rs D W h.dk tW hG hfw (by omega), fun W1 hR => openR_new r s rs R W1 hR hG hRl (by omega)⟩
    rw [hp]
    refine Gens.mk1 (by omega) (by omega) (xs := []) (upd_same _ _ _) (fun k k1 k2 hk => ?_)
    rw [upd_ne _ _ (jN_ne hk)]
    cases hf : play rs (jN k) with
    | none => rfl
    | some y =>
      have := (hG.mem k).2 ⟨k1, k2, by rw [hf]; rfl⟩
      cases this
  | cons g t =>
    obtain ⟨h1, h2, h3⟩ := (hG.mem g).1 (by simp)
    obtain ⟨xs, hp⟩ := Option.isSome_iff_exists.1 h3
    have hib := h.rk.isb hp
    have hxl : xs.length ≤ m := by
      have := hl.len (jN g)
      simpa [fl, hp] using this
    have htl : t.length + 1 ≤ k := by
      obtain ⟨l, q1, q2⟩ := hl.cnt
      have := gens_few hG q1
      simp at this
      omega
    obtain ⟨L, P, E, hF⟩ := frs_any xs hib
    have hple := hF.le hib L.length (Nat.le_refl _)
    by_cases hS : Shrt L
    · right
      have hop := open_pure hG hp (n := P L.length) hple.1
      have hwt := wt_opS rs g t (P L.length)
      have hsum := hF.sum hib L.length (Nat.le_refl _)
      rw [List.take_length] at hsum
      refine ⟨g, L.map (·.2), opS rs g t (P L.length), hop.2.2.1, ⟨m, 0, by omega, by omega, by rw [hsum]; omega, by rw [List.length_map]; omega⟩, ?_, fun W1 hR => ?_⟩
      · refine jopen_old d s rs D W h.dk tW (fun V hV => ?_) g t hG hfw (by omega) xs L P E hp hib (by omega) hF hS (by omega)
        exact ht.under (h.chs1 hV (fun k hk => hk)).2 ht.kt.lt ht.pt.lt
      · refine (openR_old r s rs R W1 hR g t hG hRl (by omega) xs L P E hp hib (by omega) hF (by omega)).mono ?_
        rintro e w' (⟨hn, _⟩ | ⟨_, q, he, ho⟩)
        · exact absurd hS hn
        · exact ⟨q, he, ho⟩
    · left
      refine ⟨jopen_lost d s rs D W h.dk tW g t hG hfw xs L P E hp hib (by omega) hF hS (by omega), fun W1 hR => ?_⟩
      refine (openR_old r s rs R W1 hR g t hG hRl (by omega) xs L P E hp hib (by omega) hF (by omega)).mono ?_
      rintro e w' (⟨_, he, hb⟩ | ⟨hs, _⟩)
      · exact ⟨he, hb⟩
      · exact absurd hs hS
/-- Behind both Opens. -/
theorem PQ.opn {w W W1 W2 : World} {d j r q s m : Nat} {rs rs' : List Rw} {D : Dm} {R : Rm} {g : Nat} {ls : List (List Int)} (h : LP w W d r s rs D R) (ho : OpnR W W1 d j s D rs' g ls) (hq : OpqR W1 W2 r q s R rs' g ls) (hG : Gens (play rs') [g]) (hbd : Bd m (wt rs') (fmA ls).length ls.length) :
    ∃ D' M R' N, PQ w W2 d j r q s m rs' g ls D' M R' N := by
  obtain ⟨D', M, p1, c1, _, _, n1⟩ := ho
  obtain ⟨R', N, p2, c2, n2⟩ := hq
  have s0 := h.bel.size
  have s1 := c1.size
  have hb1 := (h.chs1 c1 (fun k hk => hk)).2
  have aw : ∀ k, JF d j D' M k → ¬ (R.own r k ∨ R.ro k) := fun k hk hR => by
    rcases n1 k hk with e | e
    · exact h.ap k e hR
    · have := h.rk.lt hR; omega
  refine ⟨D', M, R', N, ⟨p1.chs c2 (fun k hk hR => aw k hk (.inl hR)), p2, fun k hk hQ => ?_, hG, fun k hk => ?_, fun k hk => ?_, hb1.trans (c2.below (fun k hk ho => by have := h.lo k (.inr (.inl ho)); omega) hb1.size), hbd⟩⟩
  · rcases n2 k hQ with e | e
    · exact aw k hk e
    · have := p1.lt hk; omega
  · rcases n1 k hk with e | e
    · exact h.lo k (.inl e)
    · omega
  · rcases n2 k hk with e | e
    · exact h.lo k (.inr e)
    · omega
section
variable {w0 W0 : World} {d j r q s m : Nat} {rs : List Rw} {g : Nat} {ls : List (List Int)} {D : Dm} {M : Jm} {R : Rm} {N : Jm} (h0 : PQ w0 W0 d j r q s m rs g ls D M R N) (ht : TT w0)
include h0 ht
theorem clear_pq (k : Int) (m' : Nat) (hm : m + 4 ≤ m') (hmm : m' ≤ 1048576) :
    ∃ E rs' g' ls', Gens (play rs') [g'] ∧ Bd m' (wt rs') (fmA ls').length ls'.length ∧
      (∀ W, PQ w0 W d j r q s m rs g ls D M R N → Calls Tryz.prog 12 #[.pointer (some ⟨j, 0, none⟩), .int .i64 k] W fun e w' => e = .returned (.int .i64 E) ∧ JR W w' d j s D M rs' g' ls') ∧
      ∀ W, QJ W r q s rs R g ls N → Calls Tryz.prog 13 #[.pointer (some ⟨q, 0, none⟩), .int .i64 k] W fun e w' => e = .returned (.int .i64 E) ∧ QR W w' r q s R N rs' g' ls' := by
  obtain ⟨b1, b2, b3⟩ := h0.bd.out (by omega)
  have bd' : Bd m' (wt rs) (fmA ls).length ls.length := h0.bd.mono (by omega) (Nat.le_refl _) (Nat.le_refl _) (Nat.le_refl _)
  by_cases hb : k < 0 ∨ (ls.length : Int) < k
  · refine ⟨2, rs, g, ls, h0.gen, bd', fun W h => (jclear_bad h.pj.jn k hb).mono ?_, fun W h => (clearR_bad h.qn k hb).mono ?_⟩
    · rintro e w' ⟨rfl, rfl⟩
      exact ⟨rfl, JR.refl h.pj⟩
    · rintro e w' ⟨rfl, rfl⟩
      exact ⟨rfl, QR.below h (Below.refl _ _)⟩
  by_cases hk0 : k = 0
  · subst hk0
    refine ⟨0, rs, g, ls, h0.gen, bd', fun W h => (jclear_0 h.pj.jn).mono ?_, fun W h => (clearR_0 h.qn).mono ?_⟩
    · rintro e w' ⟨rfl, rfl⟩
      exact ⟨rfl, JR.refl h.pj⟩
    · rintro e w' ⟨rfl, rfl⟩
      exact ⟨rfl, QR.below h (Below.refl _ _)⟩
  obtain ⟨n, rfl⟩ : ∃ n : Nat, k = (n : Int) := ⟨k.toNat, by omega⟩
  have hn0 : 0 < n := by omega
  have hnl : n ≤ ls.length := by omega
  by_cases hg : g = 2147483647
  · refine ⟨3, rs, g, ls, h0.gen, bd', fun W h => (jclear_top h.pj.jn n hn0 hnl hg).mono ?_, fun W h => (clearR_top h.qn n hn0 hnl hg).mono ?_⟩
    · rintro e w' ⟨rfl, rfl⟩
      exact ⟨rfl, JR.refl h.pj⟩
    · rintro e w' ⟨rfl, rfl⟩
      exact ⟨rfl, QR.below h (Below.refl _ _)⟩
  have hg1 := h0.gen.one
  have hg2 : g < 2147483647 := by have := hg1.2.1; omega
  have hs1 := h0.pj.dk.s1
  have hbyt : ∀ p ∈ ls.drop n, isB p ∧ p.length ≤ 65535 := fun p hp => h0.pj.jn.byt p (List.mem_of_mem_drop hp)
  have hB := fmA_isB (ls.drop n) (fun p hp => (hbyt p hp).1)
  have hfl : (fmA (ls.drop n)).length ≤ (fmA ls).length := by
    have := fmA_part ls ls.length n
    rwa [List.take_length] at this
  have hw := wt_clS hs1 rs g (fmA (ls.drop n))
  refine ⟨0, clS s rs g (fmA (ls.drop n)), g + 1, ls.drop n, (clear_pure hs1 hB h0.gen hg2).2.2.2.2.2.2, ?_, fun W h => jclear_ok d j s rs D g ls M W h.pj (h.tt ht) h.gen hg2 n hn0 hnl (by omega) (by omega), fun W h => clearR_ok r q s rs R g ls N W h hs1 h0.gen hg2 n hn0 hnl (by omega) (by omega)⟩
  exact (h0.bd.clear hfl (f' := (fmA (ls.drop n)).length) (l' := (ls.drop n).length) (by rw [List.length_drop]; omega)).mono hm (by omega) (Nat.le_refl _) (Nat.le_refl _)
theorem add_pq (n : Nat) (xs : List Int) (hxl : xs.length = n) (hxb : isB xs) (hmm : m + (n + 4) ≤ 1048576) :
    ∃ E rs' g' ls', Gens (play rs') [g'] ∧ Bd (m + (n + 4)) (wt rs') (fmA ls').length ls'.length ∧
      (∀ W a c, PQ w0 W d j r q s m rs g ls D M R N → Sl W a n c xs → (0 < n → ∀ x, a = some x → ¬ D.own d x.block) → Calls Tryz.prog 14 #[.pointer (some ⟨j, 0, none⟩), .slice a n c] W fun e w' => e = .returned (.int .i64 E) ∧ JR W w' d j s D M rs' g' ls') ∧
      ∀ W a c, QJ W r q s rs R g ls N → Sl W a n c xs → (0 < n → ∀ x, a = some x → ¬ R.own r x.block) → Calls Tryz.prog 15 #[.pointer (some ⟨q, 0, none⟩), .slice a n c] W fun e w' => e = .returned (.int .i64 E) ∧ QR W w' r q s R N rs' g' ls' := by
  obtain ⟨b1, b2, b3⟩ := h0.bd.out (by omega)
  by_cases hn : n ≤ 65535
  · obtain ⟨g1, g2, ⟨ys, g3⟩, g4⟩ := h0.gen.one
    have hs1 := h0.pj.dk.s1
    have hf := fE_some (jN_nm g2) g3
    have hB := fmB_isB xs hxb
    have hl := fmB_length xs
    have hw := wt_apL hs1 rs (jN g) (fmB xs)
    have hp := play_ap hs1 hB hf
    have e1 : (fmA (ls ++ [xs])).length = (fmA ls).length + (8 + n) := by
      rw [fmA_snoc, List.length_append, hl, hxl]
    refine ⟨0, apS s rs (jN g) (fmB xs), g, ls ++ [xs], ?_, (h0.bd.add n).mono (Nat.le_refl _) (by omega) (by omega) (by simp), fun W a c h hx ho => ?_, fun W a c h hx ho => ?_⟩
    · rw [hp]
      refine Gens.mk1 g1 g2 (upd_same _ _ _) (fun k k1 k2 hk => ?_)
      rw [upd_ne _ _ (jN_ne hk)]
      exact g4 k k1 k2 hk
    · exact jadd_ok d j s rs D g ls M W h.pj (h.tt ht) a n c xs hx hn g2 hf (by omega) ho (by omega)
    · exact addR_ok r q s rs R g ls N W h a n c xs hx hn g1 g2 hf (by omega) ho (by omega)
  · refine ⟨3, rs, g, ls, h0.gen, h0.bd.mono (by omega) (Nat.le_refl _) (Nat.le_refl _) (Nat.le_refl _), fun W a c h hx ho => (jadd_big h.pj.jn a n c (by omega)).mono ?_, fun W a c h hx ho => (addR_big W q a n c (by omega)).mono ?_⟩
    · rintro e w' ⟨rfl, rfl⟩
      exact ⟨rfl, JR.refl h.pj⟩
    · rintro e w' ⟨rfl, rfl⟩
      exact ⟨rfl, QR.below h (Below.refl _ _)⟩
end

end Go.Proofs.YtninkkdbcgadpaaGreatDoor

/-
  The law's stands: a journal has the document's leaves.
-/
namespace Go.Proofs.YtninkkdbcgadpaaGreatDoor
open Go.RowKit Go.Shelf
set_option linter.unusedVariables false
set_option linter.unusedSimpArgs false
set_option maxRecDepth 100000

/-- A byte of a slice of the call's own, written over. -/
theorem Own.turn {w : World} {B g n cap k : Nat} {xs : List Int} (h : Own w B (.slice (some ⟨g, 0, none⟩) n cap) xs) (hn : xs.length = n) (hk : k < n) (x : Int) : Own (w.setCell ⟨g, k, none⟩ (.int .u8 x)) B (.slice (some ⟨g, 0, none⟩) n cap) (xs.set k x) := by
  subst hn
  obtain ⟨cs, hc⟩ := h.lies (k := g) rfl
  have h2 := h.2
  rcases h2 with ⟨e, _⟩ | ⟨g', c', cur, e, h3, hh, h5, h6, h7, h8⟩
  · cases e
  · injection e with e1 e2 e3
    injection e1 with e1
    injection e1 with e1
    subst e1 e3
    have hb : Blk w g 5 cur.toList := by unfold Blk; simpa using hh
    have hl : (u8s (xs.set k x)).length = (xs.set k x).length * 1 := by simp [u8s]
    unfold Own
    rw [List.length_set] at hl ⊢
    refine row_set h hb (hb.set k (.int .u8 x)) (by rw [List.length_set]) ?_ hl
    rw [Nat.mul_one, List.take_set]
    have : cur.toList.take xs.length = u8s xs := by simpa using h8
    rw [this, u8s_set]
/-- A byte that is there. -/
theorem Own.byte {w : World} {B g n cap k : Nat} {xs : List Int} (h : Own w B (.slice (some ⟨g, 0, none⟩) n cap) xs) (hn : xs.length = n) (hk : k < n) : w.cell? ⟨g, k, none⟩ = some (.int .u8 (xs.getD k 0)) ∧ w.frozen? ⟨g, k, none⟩ = false := by
  subst hn
  have h2 := h.2
  rcases h2 with ⟨e, _⟩ | ⟨g', c', cur, e, h3, hh, h5, h6, h7, h8⟩
  · cases e
  · injection e with e1 e2 e3
    injection e1 with e1
    injection e1 with e1
    subst e1 e3
    have hb : Blk w g 5 cur.toList := by unfold Blk; simpa using hh
    refine ⟨?_, hb.free k⟩
    have e : (cur.toList.take xs.length)[k]? = some (.int .u8 (xs.getD k 0)) := by
      have : cur.toList.take xs.length = u8s xs := by simpa using h8
      rw [this]
      exact u8s_get _ _ hk
    rw [hb.cell]
    rw [List.getElem?_take, if_pos hk] at e
    exact e
/-- What stands through the law's stands. -/
structure ZS (w W : World) (b3 b4 b5 q i : Nat) : Prop where
  c3 : Blk W b3 34 [.pointer (some ⟨q, 0, none⟩)]
  c4 : Blk W b4 4 [.bool false]
  c5 : Blk W b5 3 [.int .i64 (i : Int)]
  l3 : w.heap.size ≤ b3
  l4 : w.heap.size ≤ b4
  l5 : w.heap.size ≤ b5
  bel : Below w.heap.size w W
section
variable {w W W' : World} {b3 b4 b5 q i : Nat}
theorem ZS.ck (h : ZS w W b3 b4 b5 q i) (hk : CK W W') (hb : Below w.heap.size w W') : ZS w W' b3 b4 b5 q i := ⟨h.c3.ck hk, h.c4.ck hk, h.c5.ck hk, h.l3, h.l4, h.l5, hb⟩
theorem ZS.on (h : ZS w W b3 b4 b5 q i) (hb : Below W.heap.size W W') : ZS w W' b3 b4 b5 q i := h.ck (CK.below hb) (on_below h.bel hb)
theorem ZS.but {g : Nat} (h : ZS w W b3 b4 b5 q i) (hb : But g W W') {cs : List Value} (hg : Blk W g 5 cs) (hl : w.heap.size ≤ g) : ZS w W' b3 b4 b5 q i :=
  ⟨h.c3.but hb (h.c3.apart hg (by decide)), h.c4.but hb (h.c4.apart hg (by decide)), h.c5.but hb (h.c5.apart hg (by decide)), h.l3, h.l4, h.l5, h.bel.trans (hb.below hl)⟩
theorem ZS.set (h : ZS w W b3 b4 b5 q i) (j : Nat) : ZS w (W.setCell ⟨b5, 0, none⟩ (.int .i64 (j : Int))) b3 b4 b5 q j :=
  have hb := But.setCell W b5 0 (.int .i64 (j : Int))
  ⟨h.c3.but hb (h.c3.apart h.c5 (by decide)), h.c4.but hb (h.c4.apart h.c5 (by decide)), h.c5.set 0 _, h.l3, h.l4, h.l5, h.bel.trans (hb.below h.l5)⟩
theorem ZS.q3 (h : ZS w W b3 b4 b5 q i) : W.cell? ⟨b3, 0, none⟩ = some (.pointer (some ⟨q, 0, none⟩)) := by rw [h.c3.cell]; rfl
theorem ZS.q4 (h : ZS w W b3 b4 b5 q i) : W.cell? ⟨b4, 0, none⟩ = some (.bool false) := by rw [h.c4.cell]; rfl
theorem ZS.q5 (h : ZS w W b3 b4 b5 q i) : W.cell? ⟨b5, 0, none⟩ = some (.int .i64 (i : Int)) := by rw [h.c5.cell]; rfl
end
/-- The variables of stands, as they are made. -/
def st3 (w : World) (q : Nat) : World := ((w.alloc (.cells #[.pointer (some ⟨q, 0, none⟩)] 34)).alloc (.cells #[.bool false] 4)).alloc (.cells #[.int .i64 0] 3)
theorem st3_zs (w : World) (q : Nat) : ZS w (st3 w q) w.heap.size (w.heap.size + 1) (w.heap.size + 1 + 1) q 0 := by
  have s1 : (w.alloc (.cells #[.pointer (some ⟨q, 0, none⟩)] 34)).heap.size = w.heap.size + 1 := World.size_alloc _ _
  have s2 : ((w.alloc (.cells #[.pointer (some ⟨q, 0, none⟩)] 34)).alloc (.cells #[.bool false] 4)).heap.size = w.heap.size + 1 + 1 := by rw [World.size_alloc, s1]
  have a1 := Blk.made w 34 [.pointer (some ⟨q, 0, none⟩)]
  have a2 := Blk.made (w.alloc (.cells #[.pointer (some ⟨q, 0, none⟩)] 34)) 4 [.bool false]
  have a3 := Blk.made ((w.alloc (.cells #[.pointer (some ⟨q, 0, none⟩)] 34)).alloc (.cells #[.bool false] 4)) 3 [.int .i64 0]
  rw [s1] at a2
  rw [s2] at a3
  have nx : ∀ (v : World) (o : Obj), Below v.heap.size v (v.alloc o) := fun v o => (Below.refl _ _).alloc (Nat.le_refl _) _
  exact ⟨(a1.on (nx _ _)).on (nx _ _), a2.on (nx _ _), a3, Nat.le_refl _, by omega, by omega, (((Below.refl _ _).alloc (Nat.le_refl _) _).alloc (by simp) _).alloc (by simp; omega) _⟩
set_option maxHeartbeats 4000000 in
theorem stands13_any (j d g q r : Nat) (ls : List (List Int)) (M N : Jm) (w : World) (h : JnAt w j d g ls M) (h' : QnAt w q r g ls N) (hls : ls.length ≤ 1000000) :
    Calls Tryz.prog 16 #[.pointer (some ⟨j, 0, none⟩), .pointer (some ⟨q, 0, none⟩)] w fun e w' => e = .returned (.bool true) ∧ Below w.heap.size w w' := by
  have HH := hide h
  have HQ := hide h'
  have HLS := hide hls
  clear h h' hls
  refine (callsIn_wide (n := 3)).1 ?_
  refine callsIn_of_wp_marks Tryz.func16 rfl trivial ?_ rfl
  refine wpIn_wide.2 ?_
  simp only [Tryz.ntmps16, List.size_toArray, List.length_cons, List.length_nil, Nat.reduceAdd, Nat.reduceSub, Array.replicate_succ, Array.replicate_zero, List.push_toArray, List.append_toArray, List.nil_append, List.cons_append]
  go_wp2_with fail
  have Z0 := st3_zs w q
  unfold st3 at Z0
  revert Z0
  generalize ((w.alloc (.cells #[.pointer (some ⟨q, 0, none⟩)] 34)).alloc (.cells #[.bool false] 4)).alloc (.cells #[.int .i64 0] 3) = W3
  obtain ⟨b5, hb5⟩ : ∃ b, w.heap.size + 1 + 1 = b := ⟨_, rfl⟩
  obtain ⟨b4, hb4⟩ : ∃ b, w.heap.size + 1 = b := ⟨_, rfl⟩
  obtain ⟨b3, hb3⟩ : ∃ b, w.heap.size = b := ⟨_, rfl⟩
  rw [hb5, hb4]
  intro Z0
  have G3 : Hid (ZS w W3 b3 b4 b5 q 0) := hide (by rw [← hb3]; exact Z0)
  rw [hb3]
  clear hb5 hb4 hb3 Z0
  refine (jall_any _ _).mono ?_
  rintro e W5 ⟨rfl, rfl⟩
  have hbA : Below W3.heap.size W3 (W3.alloc (.cells #[.pointer (some ⟨j, 0, none⟩)] 30)) := (Below.refl _ _).alloc (Nat.le_refl _) _
  have G4 := hide (G3.out.on hbA)
  revert G4
  generalize W3.alloc (.cells #[.pointer (some ⟨j, 0, none⟩)] 30) = W4
  generalize W3.heap.size = bx0
  intro G4
  have heq : ∀ v : World, (binOp BinOp.eql 53 (.func (.func 53) #[] #[.pointer (some ⟨bx0, 0, none⟩)]) .nilFunc).run Tryz.prog v = .ok (.bool false) v := fun v => by kernel_rfl
  clear hbA G3
  go_wp2_with fail
  refine (jall_any _ _).mono ?_
  rintro e W5 ⟨rfl, rfl⟩
  have hbB : Below W4.heap.size W4 (W4.alloc (.cells #[.pointer (some ⟨j, 0, none⟩)] 30)) := (Below.refl _ _).alloc (Nat.le_refl _) _
  have BX : Blk (W4.alloc (.cells #[.pointer (some ⟨j, 0, none⟩)] 30)) W4.heap.size 30 [.pointer (some ⟨j, 0, none⟩)] := Blk.made _ _ _
  have G5 := hide (G4.out.on hbB)
  revert G5 BX
  generalize W4.alloc (.cells #[.pointer (some ⟨j, 0, none⟩)] 30) = W5
  generalize W4.heap.size = bx
  intro BX G5
  clear hbB heq G4
  have HSQ := hide (jall_seq bx j d g ls M W5 (HH.out.below G5.out.bel) BX (by have := HLS.out; omega))
  have HJL : Hid (∀ k, M.own j k ∨ M.ro k → k < w.heap.size) := hide (fun k hk => HH.out.lt hk)
  have S5 : w.heap.size ≤ W5.heap.size := G5.out.bel.size
  obtain ⟨la, lc, hlv⟩ := HQ.out.slice
  obtain ⟨n, HN⟩ : ∃ n, Hid (ls.length = n) := ⟨_, hide rfl⟩
  rw [HN.out] at hlv
  have HLV := hide hlv
  clear BX hlv
  go_wp2_with fail
  refine (wpIn_wide (n := 3)).1 ?_
  refine rangeQ rfl (by decide) (gf := 53) (lb := #[.pointer (some ⟨bx, 0, none⟩)]) rfl trivial (enters_of Tryz.func53 (by kernel_rfl) rfl)
    HSQ.out KJ.trans (fun x W l o o' hl h hc => KJ.book (B := w.heap.size) HJL.out W l o' (by omega)) (fun _ => rfl) (fun pre x W0 => rj_own _ _ pre x W0)
    (fun pre W => ZS w W b3 b4 b5 q pre.length) (fun _ _ _ => False)
    (fun _ A C row h hg hr => h.ck (CK.of_grown hg (fun r e => (hr r e).2)) (h.bel.grown hg h.bel.size (fun r e => by have := (hr r e).1; omega))) (fun c _ A C row h hg hr => h) G5.out ?act ?assign ?body ?done ?stop
  case assign =>
    rintro l x W K hK
    have hsem := Oper.semAt_some
    simp only [encL]
    gi_wp2
    exact hK
  case stop =>
    rintro D c pre W hD hSp hF2 hK2
    exact hF2.elim
  case body =>
    rintro l pre ⟨i0, v, y⟩ W0 W hf0 hck hsz hf ⟨h1, h2, h3, h4, h5⟩
    have hsem := Oper.semAt_some
    obtain ⟨i, HI⟩ : ∃ i, Hid (pre.length = i) := ⟨_, hide rfl⟩
    simp only at h3 h4 h5
    rw [HI.out] at h1 h3 h4 hf hf0
    rw [HN.out] at h1
    have hby : isB y ∧ y.length ≤ 65535 := HH.out.byt y (by
      rw [h4]
      have h6 : i < ls.length := by rw [HN.out]; exact h1
      simp only [List.getD, List.getElem?_eq_getElem h6, Option.getD_some]
      exact List.getElem_mem h6)
    obtain ⟨av, cv, ev, sv⟩ := h5.sl' hby.1 (by omega)
    subst ev h3
    have HP1 : Hid ((pre ++ [((i : Int), Value.slice av y.length cv, y)]).length = i + 1) := hide (by rw [List.length_append, HI.out]; rfl)
    have HF := hide hf
    have HV := hide h5
    have hV0 : Hid (w.heap.size ≤ W0.heap.size) := hide hf0.bel.size
    have HQW := HQ.out.below hf.bel
    have d3 := hf.q3
    have d5 := hf.q5
    have dq2 : W.cell? ⟨q, 2, none⟩ = some (.slice la n lc) := by rw [HQW.c2, HLV.out]
    have hrow := HQW.row
    rw [HLV.out] at hrow
    have hvk : i < N.vs.length := by rw [HQW.vlen, HN.out]; exact h1
    obtain ⟨gr, e1, _, hcell⟩ := hrow.cell i hvk
    subst e1
    have hix := tinB.at gr n lc i (i : Int) rfl h1
    obtain ⟨u, HU⟩ : ∃ u, Hid (N.vs.getD i undef = u) := ⟨_, hide rfl⟩
    have hown : Own W 0 u y := by
      have := HQW.cts.2 i (by rw [HN.out]; exact h1)
      rw [HU.out, ← h4] at this
      exact this
    have hc : W.cell? ⟨gr, i, none⟩ = some u := by rw [hcell, List.getElem?_eq_getElem hvk, ← HU.out]; simp [List.getD, hvk]
    obtain ⟨ua, uc, rfl, su⟩ := hown.sl' hby.1 (by omega)
    have hv1 : ∀ m, (convert 39 9 (.slice av y.length cv)).run Tryz.prog (W.drewN m) = .ok (.string (str y)) (W.drewN m) := fun m => toStr (sv.drewN m)
    have hv2 : ∀ m, (convert 39 9 (.slice ua y.length uc)).run Tryz.prog (W.drewN m) = .ok (.string (str y)) (W.drewN m) := fun m => toStr (su.drewN m)
    have g0 : decide ((n : Int) ≤ (i : Int)) = false := by simp; omega
    have g1 : decide ((i : Int) ≥ (n : Int)) = false := by simp; omega
    have g2 : decide (n ≤ i) = false := by simp; omega
    have HYL := hide hby.2
    have hib : (i : Int) < 9223372036854775807 := by have := HLS.out; have := HN.out; omega
    clear hf hf0 h2 h4 h5 hck hby sv hcell hown su HQW hrow hvk
    gi_wp2_with fail
    refine wpIn_region_round (.round l) (by kernel_rfl) (by kernel_rfl) (by kernel_rfl) ?_
    repeat (go_big_quiet_step (fail))
    refine wpQuiet_nil ?_
    rintro _ ⟨nq, rfl⟩
    have bq : Below W.heap.size W (W.drewN nq) := below_drews (Below.refl _ _) nq
    have F1 := hide (HF.out.on bq)
    have V1 := hide (HV.out.below bq)
    have S1 : Hid (W.heap.size = (W.drewN nq).heap.size) := hide rfl
    have KO1 := hide (keepsO_below bq)
    clear g0 g1 g2 hix hv1 hv2 d3 d5 dq2 hc bq
    revert F1 V1 S1 KO1
    generalize W.drewN nq = Wd
    intro F1 V1 S1 KO1
    obtain ⟨m, HM⟩ : ∃ m, Hid (y.length = m) := ⟨_, hide rfl⟩
    rw [HM.out] at HYL V1
    rw [HM.out]
    gi_wp2_with fail
    try simp only [Act.put]
    gi_loopw [8] (fun p wr => ∃ (k : Nat) (zs : List Int), p = .int .i64 (k : Int) ∧ k ≤ m ∧ Hid (Own wr W0.heap.size (.slice av m cv) zs ∧ zs.length = m) ∧ Hid (ZS w wr b3 b4 b5 q i) ∧ Hid (KeepsOthers W wr ∧ W.heap.size ≤ wr.heap.size)) (fun p _ => m - (intOf p).toNat)
    case atStart => exact ⟨0, y, rfl, Nat.zero_le _, hide ⟨V1.out, HM.out⟩, F1, hide ⟨KO1.out, KO1.out.size⟩⟩
    case round =>
      clear F1 V1 S1 KO1
      obtain ⟨k, zs, rfl, hk, HO, HZ, HK⟩ := hrel
      have hmb : m ≤ 65535 := HYL.out
      by_cases hlt : k < m
      · have hlti : (k : Int) < (m : Int) := by omega
        obtain ⟨gv, hgv⟩ : ∃ gv, av = some ⟨gv, 0, none⟩ := by
          rcases HO.out.1.2 with ⟨e, _⟩ | ⟨g', c', cur, e, _⟩
          · injection e with _ e2 _
            omega
          · injection e with e1 _ _
            exact ⟨g', e1⟩
        subst hgv
        obtain ⟨hcell, hfree⟩ := HO.out.1.byte HO.out.2 hlt
        have O2 := hide (HO.out.1.turn HO.out.2 hlt ((zs.getD k 0 + 1) % 256))
        obtain ⟨cs, hcs⟩ := HO.out.1.lies (k := gv) rfl
        have hgl := HO.out.1.lt gv rfl
        have hbut := But.setCell wr gv k (.int .u8 ((zs.getD k 0 + 1) % 256))
        have Z2 := hide (HZ.out.but hbut hcs (Nat.le_trans hV0.out hgl))
        have K2 : Hid (KeepsOthers W (wr.setCell ⟨gv, k, none⟩ (.int .u8 ((zs.getD k 0 + 1) % 256))) ∧ W.heap.size ≤ (wr.setCell ⟨gv, k, none⟩ (.int .u8 ((zs.getD k 0 + 1) % 256))).heap.size) := hide ⟨HK.out.1.trans (KeepsOthers.setCell _ _ _), by rw [hbut.size]; exact HK.out.2⟩
        have L2 : Hid ((zs.set k ((zs.getD k 0 + 1) % 256)).length = m) := hide (by rw [List.length_set]; exact HO.out.2)
        clear hcs hgl hbut HO HZ HK
        gi_wp2
        go_roundw
        case rel => exact ⟨k + 1, _, by go_num, by omega, hide ⟨O2.out, L2.out⟩, Z2, K2⟩
        case measure => simp [intOf]; omega
      · have hlti : ¬ (k : Int) < (m : Int) := by omega
        have d5 := HZ.out.q5
        have f5 := HZ.out.c5.free 0
        have Z7 := hide (HZ.out.set (i + 1))
        have K7 : Hid (KeepsOthers W (wr.setCell ⟨b5, 0, none⟩ (.int .i64 ((i + 1 : Nat) : Int))) ∧ W.heap.size ≤ (wr.setCell ⟨b5, 0, none⟩ (.int .i64 ((i + 1 : Nat) : Int))).heap.size) := hide ⟨HK.out.1.trans (KeepsOthers.setCell _ _ _), by rw [(But.setCell wr b5 0 (.int .i64 ((i + 1 : Nat) : Int))).size]; exact HK.out.2⟩
        have hk1 : (((i + 1 : Nat) : Int)) = (i : Int) + 1 := by omega
        rw [hk1] at Z7 K7
        clear HO HZ HK hk1
        gi_wp2
        refine ⟨K7.out.1.from _, KJ.between HJL.out HF.out.bel Z7.out.bel K7.out.2, ?_⟩
        show ZS w _ b3 b4 b5 q (pre ++ [((i : Int), Value.slice av y.length cv, y)]).length
        rw [HP1.out]
        exact Z7.out
  case done =>
    rintro D2 ys W hD hS hf hK2
    have hyl : ys.length = n := by rw [← HN.out, ← hS, List.length_map]
    rw [hyl] at hf
    have HF := hide hf
    have HM := hide hK2
    have HWD : Hid (w.heap.size ≤ D2) := hide (by omega)
    have HS : Hid (∀ V : World, Below W.heap.size W V → ZS w V b3 b4 b5 q n) := hide (fun V hV => HF.out.on hV)
    have HQ2 : Hid (∀ V : World, Below W.heap.size W V → V.cell? ⟨q, 2, none⟩ = some (.slice la n lc) ∧ V.cell? ⟨q, 1, none⟩ = some (.int .i64 (g : Int))) := hide (fun V hV => by
      have h1 := HQ.out.below (on_below HF.out.bel hV)
      exact ⟨by rw [h1.c2, HLV.out], h1.c1⟩)
    have HLE : Hid (∀ V : World, Below W.heap.size W V → Calls Tryz.prog 18 #[.pointer (some ⟨j, 0, none⟩)] V fun e w' => e = .returned (.int .i64 (n : Int)) ∧ w' = V) := hide (fun V hV => by
      have := jlen_ok (HH.out.below (on_below HF.out.bel hV))
      rwa [HN.out] at this)
    have HGE : Hid (∀ V : World, Below W.heap.size W V → Calls Tryz.prog 19 #[.pointer (some ⟨j, 0, none⟩)] V fun e w' => e = .returned (.int .i64 (g : Int)) ∧ w' = V) := hide (fun V hV => jgen_ok (HH.out.below (on_below HF.out.bel hV)))
    clear hf hK2 hS hyl
    go_wp2_with fail
    refine wp_region_noPanic ?_
    refine wp_region_U (q := 22) (S := fun v : World => Below W.heap.size W v) (by kernel_rfl) ?_
    have hHeld := (Below.refl W.heap.size W).drew
    refine takeU 22 0 57 (.int .i64 (n : Int)) hHeld rfl rfl (by kernel_rfl) (by kernel_rfl) (by kernel_rfl) (by kernel_rfl) (by kernel_rfl) (by kernel_rfl) (fun _ _ _ h => h) (Or.inl ⟨by rfl, fun w hw => by have hw' : w.cell? ⟨b5, 0, none⟩ = some (.int .i64 (n : Int)) := (fun hw => (HS.out _ hw).q5) hw; go_simp⟩) ?_
    simp only [Act.put, List.setIfInBounds_toArray, List.set_cons_zero, List.set_cons_succ]
    refine takeU 22 1 58 (.pointer (some ⟨q, 0, none⟩)) hHeld rfl rfl (by kernel_rfl) (by kernel_rfl) (by kernel_rfl) (by kernel_rfl) (by kernel_rfl) (by kernel_rfl) (fun _ _ _ h => h) (Or.inl ⟨by rfl, fun w hw => by have hw' : w.cell? ⟨b3, 0, none⟩ = some (.pointer (some ⟨q, 0, none⟩)) := (fun hw => (HS.out _ hw).q3) hw; go_simp⟩) ?_
    simp only [Act.put, List.setIfInBounds_toArray, List.set_cons_zero, List.set_cons_succ]
    refine takeU 22 2 59 (.pointer (some ⟨q, 0, none⟩)) hHeld rfl rfl (by kernel_rfl) (by kernel_rfl) (by kernel_rfl) (by kernel_rfl) (by kernel_rfl) (by kernel_rfl) (fun _ _ _ h => h) (Or.inl ⟨by rfl, fun w _ => by go_simp⟩) ?_
    simp only [Act.put, List.setIfInBounds_toArray, List.set_cons_zero, List.set_cons_succ]
    refine takeU 22 3 60 (.pointer (some ⟨q, 2, none⟩)) hHeld rfl rfl (by kernel_rfl) (by kernel_rfl) (by kernel_rfl) (by kernel_rfl) (by kernel_rfl) (by kernel_rfl) (fun _ _ _ h => h) (Or.inl ⟨by rfl, fun w _ => by go_simp⟩) ?_
    simp only [Act.put, List.setIfInBounds_toArray, List.set_cons_zero, List.set_cons_succ]
    refine takeU 22 4 61 (.slice la n lc) hHeld rfl rfl (by kernel_rfl) (by kernel_rfl) (by kernel_rfl) (by kernel_rfl) (by kernel_rfl) (by kernel_rfl) (fun _ _ _ h => h) (Or.inl ⟨by rfl, fun w hw => by have hw' : w.cell? ⟨q, 2, none⟩ = some (.slice la n lc) := (fun hw => (HQ2.out _ hw).1) hw; go_simp⟩) ?_
    simp only [Act.put, List.setIfInBounds_toArray, List.set_cons_zero, List.set_cons_succ]
    refine takeU 22 5 62 (.int .i64 (n : Int)) hHeld rfl rfl (by kernel_rfl) (by kernel_rfl) (by kernel_rfl) (by kernel_rfl) (by kernel_rfl) (by kernel_rfl) (fun _ _ _ h => h) (Or.inl ⟨by rfl, fun w _ => by go_simp⟩) ?_
    simp only [Act.put, List.setIfInBounds_toArray, List.set_cons_zero, List.set_cons_succ]
    refine takeU 22 6 63 (.bool true) hHeld rfl rfl (by kernel_rfl) (by kernel_rfl) (by kernel_rfl) (by kernel_rfl) (by kernel_rfl) (by kernel_rfl) (fun _ _ _ h => h) (Or.inl ⟨by rfl, fun w _ => by go_simp⟩) ?_
    simp only [Act.put, List.setIfInBounds_toArray, List.set_cons_zero, List.set_cons_succ]
    refine takeU 22 7 64 (.bool true) hHeld rfl rfl (by kernel_rfl) (by kernel_rfl) (by kernel_rfl) (by kernel_rfl) (by kernel_rfl) (by kernel_rfl) (fun _ _ _ h => h) (Or.inl ⟨by rfl, fun w _ => by go_simp⟩) ?_
    simp only [Act.put, List.setIfInBounds_toArray, List.set_cons_zero, List.set_cons_succ]
    refine takeU 22 8 65 (.pointer (some ⟨j, 0, none⟩)) hHeld rfl rfl (by kernel_rfl) (by kernel_rfl) (by kernel_rfl) (by kernel_rfl) (by kernel_rfl) (by kernel_rfl) (fun _ _ _ h => h) (Or.inl ⟨by rfl, fun w _ => by go_simp⟩) ?_
    simp only [Act.put, List.setIfInBounds_toArray, List.set_cons_zero, List.set_cons_succ]
    refine takeU 22 10 67 (.int .i64 (n : Int)) hHeld rfl rfl (by kernel_rfl) (by kernel_rfl) (by kernel_rfl) (by kernel_rfl) (by kernel_rfl) (by kernel_rfl) (fun _ _ _ h => h) (Or.inl ⟨by rfl, fun w hw => by have hw' : w.cell? ⟨b5, 0, none⟩ = some (.int .i64 (n : Int)) := (fun hw => (HS.out _ hw).q5) hw; go_simp⟩) ?_
    simp only [Act.put, List.setIfInBounds_toArray, List.set_cons_zero, List.set_cons_succ]
    refine wpAnyU_ready (rs := [9]) (by kernel_rfl) (by simp) (AllReadyU.cons rfl (fun K hK => ?_) AllReadyU.nil)
    rw [if_pos (by rfl)]
    go_simp
    refine (HLE.out _ hHeld).mono ?_
    rintro e wa ⟨rfl, rfl⟩
    refine hK.out _ _ (fun _ => hHeld) ?_
    have hHeld := hHeld
    clear hK K
    try simp only [Act.put, List.setIfInBounds_toArray, List.set_cons_zero, List.set_cons_succ]
    refine takeU 22 11 68 (.bool true) hHeld rfl rfl (by kernel_rfl) (by kernel_rfl) (by kernel_rfl) (by kernel_rfl) (by kernel_rfl) (by kernel_rfl) (fun _ _ _ h => h) (Or.inl ⟨by rfl, fun w _ => by go_simp⟩) ?_
    simp only [Act.put, List.setIfInBounds_toArray, List.set_cons_zero, List.set_cons_succ]
    refine takeU 22 12 69 (.bool true) hHeld rfl rfl (by kernel_rfl) (by kernel_rfl) (by kernel_rfl) (by kernel_rfl) (by kernel_rfl) (by kernel_rfl) (fun _ _ _ h => h) (Or.inl ⟨by rfl, fun w _ => by go_simp⟩) ?_
    simp only [Act.put, List.setIfInBounds_toArray, List.set_cons_zero, List.set_cons_succ]
    refine takeU 22 13 70 (.bool true) hHeld rfl rfl (by kernel_rfl) (by kernel_rfl) (by kernel_rfl) (by kernel_rfl) (by kernel_rfl) (by kernel_rfl) (fun _ _ _ h => h) (Or.inl ⟨by rfl, fun w _ => by go_simp⟩) ?_
    simp only [Act.put, List.setIfInBounds_toArray, List.set_cons_zero, List.set_cons_succ]
    refine takeU 22 14 71 (.pointer (some ⟨j, 0, none⟩)) hHeld rfl rfl (by kernel_rfl) (by kernel_rfl) (by kernel_rfl) (by kernel_rfl) (by kernel_rfl) (by kernel_rfl) (fun _ _ _ h => h) (Or.inl ⟨by rfl, fun w _ => by go_simp⟩) ?_
    simp only [Act.put, List.setIfInBounds_toArray, List.set_cons_zero, List.set_cons_succ]
    refine takeU 22 16 73 (.pointer (some ⟨q, 0, none⟩)) hHeld rfl rfl (by kernel_rfl) (by kernel_rfl) (by kernel_rfl) (by kernel_rfl) (by kernel_rfl) (by kernel_rfl) (fun _ _ _ h => h) (Or.inl ⟨by rfl, fun w hw => by have hw' : w.cell? ⟨b3, 0, none⟩ = some (.pointer (some ⟨q, 0, none⟩)) := (fun hw => (HS.out _ hw).q3) hw; go_simp⟩) ?_
    simp only [Act.put, List.setIfInBounds_toArray, List.set_cons_zero, List.set_cons_succ]
    refine takeU 22 17 74 (.pointer (some ⟨q, 0, none⟩)) hHeld rfl rfl (by kernel_rfl) (by kernel_rfl) (by kernel_rfl) (by kernel_rfl) (by kernel_rfl) (by kernel_rfl) (fun _ _ _ h => h) (Or.inl ⟨by rfl, fun w _ => by go_simp⟩) ?_
    simp only [Act.put, List.setIfInBounds_toArray, List.set_cons_zero, List.set_cons_succ]
    refine takeU 22 18 75 (.pointer (some ⟨q, 1, none⟩)) hHeld rfl rfl (by kernel_rfl) (by kernel_rfl) (by kernel_rfl) (by kernel_rfl) (by kernel_rfl) (by kernel_rfl) (fun _ _ _ h => h) (Or.inl ⟨by rfl, fun w _ => by go_simp⟩) ?_
    simp only [Act.put, List.setIfInBounds_toArray, List.set_cons_zero, List.set_cons_succ]
    refine takeU 22 19 76 (.int .i64 (g : Int)) hHeld rfl rfl (by kernel_rfl) (by kernel_rfl) (by kernel_rfl) (by kernel_rfl) (by kernel_rfl) (by kernel_rfl) (fun _ _ _ h => h) (Or.inl ⟨by rfl, fun w hw => by have hw' : w.cell? ⟨q, 1, none⟩ = some (.int .i64 (g : Int)) := (fun hw => (HQ2.out _ hw).2) hw; go_simp⟩) ?_
    simp only [Act.put, List.setIfInBounds_toArray, List.set_cons_zero, List.set_cons_succ]
    refine wpAnyU_ready (rs := [15]) (by kernel_rfl) (by simp) (AllReadyU.cons rfl (fun K hK => ?_) AllReadyU.nil)
    rw [if_pos (by rfl)]
    go_simp
    refine (HGE.out _ hHeld).mono ?_
    rintro e wa ⟨rfl, rfl⟩
    refine hK.out _ _ (fun _ => hHeld) ?_
    have hHeld := hHeld
    clear hK K
    try simp only [Act.put, List.setIfInBounds_toArray, List.set_cons_zero, List.set_cons_succ]
    refine takeU 22 20 77 (.bool true) hHeld rfl rfl (by kernel_rfl) (by kernel_rfl) (by kernel_rfl) (by kernel_rfl) (by kernel_rfl) (by kernel_rfl) (fun _ _ _ h => h) (Or.inl ⟨by rfl, fun w _ => by go_simp⟩) ?_
    simp only [Act.put, List.setIfInBounds_toArray, List.set_cons_zero, List.set_cons_succ]
    refine takeU 22 21 78 (.bool true) hHeld rfl rfl (by kernel_rfl) (by kernel_rfl) (by kernel_rfl) (by kernel_rfl) (by kernel_rfl) (by kernel_rfl) (fun _ _ _ h => h) (Or.inl ⟨by rfl, fun w _ => by go_simp⟩) ?_
    simp only [Act.put, List.setIfInBounds_toArray, List.set_cons_zero, List.set_cons_succ]
    have S10 := hide (HS.out _ hHeld)
    have M10 : Hid (W.drew.heap[D2]? = some (.deferred (some []))) := HM
    have h4 := S10.out.q4
    have f4 := S10.out.c4.free 0
    revert S10 M10 h4 f4
    generalize W.drew = Vd
    intro S10 M10 h4 f4
    refine wpAnyU_ready (rs := [22]) (by kernel_rfl) (by simp) (AllReadyU.cons rfl (fun K hK => ?_) AllReadyU.nil)
    rw [if_pos (by rfl)]
    go_simp
    refine hK.out _ _ (fun h => absurd h (by decide)) ?_
    clear hK K
    refine wpAnyU_done (by kernel_rfl) ?_ _
    refine NoPanic.normal ?_
    go_wp2_with fail
    have q8 := (KeepsOthers.setCell Vd ⟨b4, 0, none⟩ (.bool true)).same D2 _ M10.out rfl
    have hcA := World.cell?_setCell_same' Vd ⟨b4, 0, none⟩ (.bool true) (by rw [h4]; rfl)
    have hcC := Go.cell_kept hcA (grownBy_putObj' _ D2 (.deferred none)) (fun r e => by cases e; exact ⟨_, q8, rfl⟩)
    have B8 := S10.out.bel.setCell (p := ⟨b4, 0, none⟩) S10.out.l4 (.bool true)
    refine ⟨by simp, .inl ⟨_, _, rfl, run_takeDeferred q8, ?_⟩⟩
    refine ⟨.bool true, ?_, rfl, B8.trans (belowK_b (w := w) (Nat.le_refl _) _ D2 _ (.deferred none) HWD.out q8 rfl rfl)⟩
    simp [results, Tryz.f16, go_sem, hcC]

end Go.Proofs.YtninkkdbcgadpaaGreatDoor

/-
  The walk of JournalPlays.
-/
namespace Go.Proofs.YtninkkdbcgadpaaGreatDoor
open Go.RowKit Go.Shelf
set_option linter.unusedVariables false
set_option linter.unusedSimpArgs false
set_option maxRecDepth 100000

theorem wWd : Wide 24 2 := ⟨by kernel_rfl, by kernel_rfl⟩
theorem wAj : Wide 41 3 := ⟨by kernel_rfl, by kernel_rfl⟩
theorem zAj : Zeroed 41 [.bool false, .int .i64 0, .slice none 0 0] := fun _ _ _ _ _ _ _ => by kernel_rfl
theorem names13_any (w : World) : Calls Tryz.prog 11 #[] w fun r w' => r = .returned (.bool true) ∧ w' = w := by
  go_enter Tryz.func11, Tryz.ntmps11
  go_wp2
  go_ret
  exact ⟨rfl, rfl⟩
/-- Something of another kind, beside both journals. -/
structure PX (w W : World) (d j r q s m : Nat) (rs : List Rw) (g : Nat) (ls : List (List Int)) (D : Dm) (M : Jm) (R : Rm) (N : Jm) (b : Nat) (cs : List Value) : Prop where
  pq : PQ w W d j r q s m rs g ls D M R N
  blk : Blk W b 41 cs
  nf : ¬ (JF d j D M b ∨ QF r q R N b)
section
variable {w W W1 W2 : World} {d j r q s m m' : Nat} {rs rs' : List Rw} {g g' : Nat} {ls ls' : List (List Int)} {D : Dm} {M : Jm} {R : Rm} {N : Jm} {b : Nat} {cs : List Value}
theorem PX.on (h : PX w W d j r q s m rs g ls D M R N b cs) (hb : Below W.heap.size W W1) : PX w W1 d j r q s m rs g ls D M R N b cs := ⟨h.pq.on hb, h.blk.on hb, h.nf⟩
theorem PX.mid (h : PX w W d j r q s m rs g ls D M R N b cs) (h1 : JR W W1 d j s D M rs' g' ls') : Blk W1 b 41 cs := by
  obtain ⟨D', M', _, hc, _⟩ := h1
  exact h.blk.chs hc (fun e => h.nf (.inl e))
theorem PX.both (h : PX w W d j r q s m rs g ls D M R N b cs) (h1 : JR W W1 d j s D M rs' g' ls') (h2 : QR W1 W2 r q s R N rs' g' ls') (hg : Gens (play rs') [g']) (hbd : Bd m' (wt rs') (fmA ls').length ls'.length) :
    (∃ D' M' R' N', PQ w W2 d j r q s m' rs' g' ls' D' M' R' N' ∧ ∀ k, JF d j D' M' k ∨ QF r q R' N' k → (JF d j D M k ∨ QF r q R N k) ∨ W.heap.size ≤ k) ∧ Blk W2 b 41 cs := by
  refine ⟨h.pq.both h1 h2 hg hbd, ?_⟩
  have hm := h.mid h1
  obtain ⟨R', N', _, hc, _⟩ := h2
  exact hm.chs hc (fun e => h.nf (.inr e))
end
set_option maxHeartbeats 4000000 in
theorem jplays_walk (sec : Int) (a : Option Addr) (n c : Nat) (L : List Fw) (a1 : Option Addr) (n1 c1 : Nat) (A : List Aj) (w : World) (hL : Fws w a n c L) (hA : Ajs w a1 n1 c1 A) (hsum : fbulk L + jbulk A ≤ 1048576) (ht : TT w) :
    Calls Tryz.prog 3 #[.agg #[.int .i64 sec, .slice a n c], .slice a1 n1 c1] w fun e w' => e = .returned (.bool true) ∧ Below w.heap.size w w' := by
  have HL := hide hL
  have HA := hide hA
  have HT := hide ht
  have HSM := hide hsum
  clear hL hA ht hsum
  go_enter Tryz.func3, Tryz.ntmps3
  go_wp2_with (first | (refine step_box (cs := [.int .i64 sec, .slice a n c]) rfl rfl ?_))
  intro w1 b1 hg1 hl1 hb1
  have RG : Hid (w1.rangeAt b1 0 [.int .i64 sec, .slice a n c]) := hide (hg1.range 0 _ rfl)
  have B1 := hide hb1
  clear hg1 hl1 hb1
  go_wp2_with (refine step_loadR wWd rfl rfl [.int .i64 sec, .slice a n c] RG.out rfl ?_)
  go_wp2_with fail
  refine (laid_any sec a n c L w1 (HL.out.below B1.out)).mono ?_
  rintro e w2 ⟨s, d, r, rs, D, R, rfl, hs1, hs2, hp, hlw⟩
  have P0 : Hid (LP w w2 d r s rs D R) := hide ⟨hp.dk, hp.rk, hp.ap, fun k hk => Nat.le_trans B1.out.size (hp.lo k hk), on_below B1.out hp.bel⟩
  have HLW := hide hlw
  have HFB : Hid (fbulk L ≤ 1048576 ∧ 3 * L.length ≤ fbulk L) := hide ⟨by have := HSM.out; omega, len_fbulk L⟩
  clear hp hlw RG
  rcases opens_any P0.out HT.out HLW.out HFB.out.1 HFB.out.2 with ⟨ho1, ho2⟩ | ⟨g, ls, rs', hG, hbd, ho1, ho2⟩
  · have HO1 := hide ho1
    have HO2 := hide ho2
    have HBD : Hid (wt rs ≤ 1000000000000) := hide (by have h1 := HLW.out.wt; have h2 := HFB.out; omega)
    clear ho1 ho2 HLW
    go_wp2_with fail
    refine HO1.out.mono ?_
    rintro e w3 ⟨rfl, hb3⟩
    have P3 := hide (P0.out.on hb3)
    clear hb3 HO1 P0
    go_wp2_with fail
    refine (HO2.out _ P3.out.rk).mono ?_
    rintro e w4 ⟨rfl, hb4⟩
    have P4 := hide (P3.out.on hb4)
    clear hb4 HO2 P3
    go_wp2_with fail
    refine (disks_any d r s rs D R _ P4.out.dk P4.out.rk HBD.out).mono ?_
    rintro e w5 ⟨rfl, hb5⟩
    have P5 := hide (P4.out.on hb5)
    clear hb5 P4
    go_wp2_with fail
    refine (names13_any _).mono ?_
    rintro e w5 ⟨rfl, rfl⟩
    go_wp2_with fail
    go_loopw [12] (fun i wr => i = .int .i64 0 ∧ w5 = wr) (fun i _ => 0)
    case atStart => exact ⟨rfl, rfl⟩
    case round =>
      obtain ⟨rfl, rfl⟩ := hrel
      have BB := hide P5.out.bel
      clear P5
      by_cases hn : (0 : Int) < (n1 : Int)
      · go_wp2
        go_ret
        exact ⟨rfl, BB.out⟩
      · go_wp2
        go_ret
        exact ⟨rfl, BB.out⟩
  · have HO1 := hide ho1
    have HO2 := hide ho2
    have HG := hide hG
    have HBD0 := hide hbd
    clear ho1 ho2 HLW hG hbd
    go_wp2_with fail
    refine HO1.out.mono ?_
    rintro e w3 ⟨j, rfl, ho⟩
    have HO := hide ho
    have HR3 : Hid (RkAt w3 r s rs R) := hide (by
      obtain ⟨_, _, _, hc, _⟩ := ho
      exact (P0.out.chs1 hc (fun k hk => hk)).1)
    clear ho HO1
    go_wp2_with fail
    refine (HO2.out _ HR3.out).mono ?_
    rintro e w4 ⟨q, rfl, hq⟩
    obtain ⟨D0, M0, R0, N0, hpq⟩ := PQ.opn P0.out HO.out hq HG.out HBD0.out
    have P4 := hide hpq
    clear hq hpq HO HR3 P0 HO2
    have HBD : Hid (∀ m x f l, Bd m x f l → m ≤ 1048576 → x ≤ 1000000000000 ∧ l ≤ 1000000) := hide (fun m x f l hb hm => by have := hb.out hm; omega)
    go_wp2_with fail
    refine (disks_any d r s rs' D0 R0 _ P4.out.pj.dk P4.out.qj.rk (HBD.out _ _ _ _ HBD0.out HFB.out.1).1).mono ?_
    rintro e w5 ⟨rfl, hb5⟩
    have P5 : Hid (PQ w w5 d j r q s (fbulk L + jbulk (A.take 0)) rs' g ls D0 M0 R0 N0) := hide ((P4.out.on hb5).more (by omega))
    clear hb5 P4 HBD0 HG
    go_wp2_with fail
    refine (names13_any _).mono ?_
    rintro e w5 ⟨rfl, rfl⟩
    go_wp2_with fail
    go_loopw [12] (fun i wr => ∃ (k : Nat) (rs : List Rw) (g : Nat) (ls : List (List Int)) (D : Dm) (M : Jm) (R : Rm) (N : Jm), i = .int .i64 (k : Int) ∧ k ≤ n1 ∧ Hid (PQ w wr d j r q s (fbulk L + jbulk (A.take k)) rs g ls D M R N)) (fun i _ => n1 - (intOf i).toNat)
    case atStart => exact ⟨0, _, _, _, _, _, _, _, rfl, Nat.zero_le _, P5⟩
    case round =>
      clear P5
      obtain ⟨k, rs, g, ls, D, M, R, N, rfl, hkl, HP⟩ := hrel
      have HMB : Hid (fbulk L + jbulk (A.take k) ≤ 1048576) := hide (by have h1 := jbulk_take A k; have h2 := HSM.out; omega)
      have hlenA := HA.out.hlen
      have hjA := len_jbulk A
      have hn1 : n1 ≤ 1048576 := by have := HSM.out; omega
      by_cases hlt : k < n1
      · have hlti : (k : Int) < (n1 : Int) := by omega
        obtain ⟨x, hx⟩ : ∃ x, A[k]? = some x := ⟨_, List.getElem?_eq_getElem (by omega)⟩
        obtain ⟨b0, o0, rfl, hrg⟩ := HA.out.hcell k x hx
        have hix := aj_at b0 o0 n1 c1 k hlt
        have HRG := hide (rangeAt_below hrg HP.out.bel)
        have HXI := hide (HA.out.hin k x hx)
        have HM1 : Hid (jbulk (A.take (k + 1)) = jbulk (A.take k) + (x.xs.length + 4) ∧ fbulk L + jbulk (A.take (k + 1)) ≤ 1048576) := hide (by
          have h1 := jbulk_succ A k x hx
          have h2 := jbulk_take A (k + 1)
          have h3 := HSM.out
          unfold Aj.bulk at h1
          exact ⟨h1, by omega⟩)
        clear hrg hx hlenA hjA
        go_wp2_with (first | (refine step_loadR wAj rfl rfl x.cells HRG.out rfl ?_) | (refine step_alloc zAj rfl ?_))
        intro w8 g13 hr8 hl8 hb8
        go_wp2_with (refine step_storeA wAj rfl rfl rfl hr8 rfl (Aj.one _) rfl ?_)
        intro w9 hg9 hbut9
        have hb9 := hb8.trans (hbut9.below hl8)
        have P9 : Hid (PX w w9 d j r q s (fbulk L + jbulk (A.take k)) rs g ls D M R N g13 [.bool x.cl, .int .i64 x.k, .slice x.a x.l x.c]) := hide ⟨HP.out.on hb9, hg9, fun h => by have := HP.out.lt h; omega⟩
        have LG : Hid (w.heap.size ≤ g13) := hide (Nat.le_trans HP.out.bel.size hl8)
        clear hr8 hl8 hb8 hg9 hbut9 hb9 hix HRG HP
        obtain ⟨m0, HM0⟩ : ∃ m0, Hid (fbulk L + jbulk (A.take k) = m0) := ⟨_, hide rfl⟩
        obtain ⟨m1, HMM⟩ : ∃ m1, Hid (fbulk L + jbulk (A.take (k + 1)) = m1) := ⟨_, hide rfl⟩
        have HM2 : Hid (m1 = m0 + (x.xs.length + 4) ∧ m1 ≤ 1048576) := hide (by have h1 := HM0.out; have h2 := HMM.out; have h3 := HM1.out; omega)
        rw [HM0.out] at P9
        clear HM1
        obtain ⟨xc, HCL⟩ : ∃ xc, Hid (x.cl = xc) := ⟨_, hide rfl⟩
        rw [HCL.out] at P9
        have c0 : w9.cell? ⟨g13, 0, none⟩ = some (.bool xc) := by rw [P9.out.blk.cell]; rfl
        go_upto_if 69 with fail
        go_cut [14, 15] from 68 to 105 (fun _ _ W => ∃ (rs : List Rw) (g : Nat) (ls : List (List Int)) (D : Dm) (M : Jm) (R : Rm) (N : Jm), Hid (PQ w W d j r q s m1 rs g ls D M R N))
        case first =>
          cases xc
          · as_aux_lemma =>
            obtain ⟨E, rs', g', ls', hG, hbd, hA1, hA2⟩ := add_pq P9.out.pq HT.out x.l x.xs HXI.out.sl.hlen HXI.out.sl.hbyte (by have h1 := HM2.out; have h2 := HXI.out.sl.hlen; omega)
            have hmm : m0 + (x.l + 4) = m1 := by have h1 := HM2.out; have h2 := HXI.out.sl.hlen; omega
            rw [hmm] at hbd
            have HA1 := hide hA1
            have HA2 := hide hA2
            have HGB := hide (And.intro hG hbd)
            clear hG hbd hA1 hA2 hmm c0
            have ho0 : Own (w9.alloc (.cells #[] 5)) w9.heap.size (.slice (some ⟨w9.heap.size, 0, none⟩) 0 0) [] := Own.of_blk (xs := []) (Blk.made w9 5 []) (Nat.le_refl _) (by simp)
            have hb0 : Below w9.heap.size w9 (w9.alloc (.cells #[] 5)) := (Below.refl _ _).alloc (Nat.le_refl _) _
            have HO0 := hide ho0
            have HB0 := hide hb0
            have c3 : (w9.alloc (.cells #[] 5)).cell? ⟨g13, 2, none⟩ = some (.slice x.a x.l x.c) := by rw [(P9.out.blk.on hb0).cell]; rfl
            have HSX : Hid (Sl (w9.alloc (.cells #[] 5)) x.a x.l x.c x.xs) := hide ((HXI.out.sl.below P9.out.pq.bel).below hb0)
            have HSMM : Hid (([] : List Int).length + x.l ≤ 140737488355328) := hide (by have := HXI.out.sl.hreach; simpa using this)
            clear ho0 hb0
            go_wp2_with (refine step_append rfl rfl rfl HO0.out HSX.out HSMM.out (by simp) ?_)
            intro v14 w10 ho1 hg1 _
            have hb1 : Below w9.heap.size w9 w10 := HB0.out.trans (Below.of_grown hg1 HB0.out.size HO0.out.lt)
            rw [List.nil_append] at ho1
            obtain ⟨a14, c14, rfl, s14⟩ := ho1.sl' HXI.out.sl.hbyte (by rw [HXI.out.sl.hlen]; exact HXI.out.sl.hreach)
            rw [HXI.out.sl.hlen] at s14 ho1
            rw [HXI.out.sl.hlen]
            have P10 := hide (P9.out.on hb1)
            have O14 := hide ho1
            have S14 := hide s14
            have L14 : Hid (∀ i, (Value.slice a14 x.l c14).ownBlock = some i → w.heap.size ≤ i ∧ i < w10.heap.size ∧ ¬ (JF d j D M i ∨ QF r q R N i)) := hide (fun i hi => by
              have h1 := ho1.lt i hi
              have h2 := P9.out.pq.bel.size
              obtain ⟨cs, hc⟩ := ho1.lies hi
              exact ⟨by omega, hc.lt, fun hf => by have := P9.out.pq.lt hf; omega⟩)
            have XO : Hid (0 < x.l → ∀ y, x.a = some y → y.block < w.heap.size) := hide (fun h0 y hy => HXI.out.sl.lt h0 y hy)
            clear ho1 hg1 hb1 s14 c3 HO0 HB0 HSX HSMM P9
            go_wp2_with fail
            refine wp_region_noPanic ?_
            have PD := hide (P10.out.on (Below.refl w10.heap.size w10).drew)
            refine wp_region_held_drew (S := fun v : World => Blk v g13 41 [.bool false, .int .i64 x.k, .slice x.a x.l x.c]) (by kernel_rfl) PD.out.blk (fun hHeld => ?_)
            refine takeH 0 83 (.pointer (some ⟨j, 0, none⟩)) hHeld rfl rfl (by kernel_rfl) (by kernel_rfl) (by kernel_rfl) (fun _ _ _ h => h) (Or.inl ⟨by rfl, fun w _ => by go_simp⟩) ?_
            simp only [Act.put, List.setIfInBounds_toArray, List.set_cons_zero, List.set_cons_succ]
            refine takeH 1 84 (.slice a14 x.l c14) hHeld rfl rfl (by kernel_rfl) (by kernel_rfl) (by kernel_rfl) (fun _ _ _ h => h) (Or.inl ⟨by rfl, fun w _ => by go_simp⟩) ?_
            simp only [Act.put, List.setIfInBounds_toArray, List.set_cons_zero, List.set_cons_succ]
            refine takeH 3 86 (.pointer (some ⟨q, 0, none⟩)) hHeld rfl rfl (by kernel_rfl) (by kernel_rfl) (by kernel_rfl) (fun _ _ _ h => h) (Or.inl ⟨by rfl, fun w _ => by go_simp⟩) ?_
            simp only [Act.put, List.setIfInBounds_toArray, List.set_cons_zero, List.set_cons_succ]
            refine takeH 4 87 (.pointer (some ⟨g13, 2, none⟩)) hHeld rfl rfl (by kernel_rfl) (by kernel_rfl) (by kernel_rfl) (fun _ _ _ h => h) (Or.inl ⟨by rfl, fun w _ => by go_simp⟩) ?_
            simp only [Act.put, List.setIfInBounds_toArray, List.set_cons_zero, List.set_cons_succ]
            refine takeH 5 88 (.slice x.a x.l x.c) hHeld rfl rfl (by kernel_rfl) (by kernel_rfl) (by kernel_rfl) (fun _ _ _ h => h) (Or.inl ⟨by rfl, fun w hw => by have hw' : w.cell? ⟨g13, 2, none⟩ = some (.slice x.a x.l x.c) := (fun hw => by rw [Blk.cell hw]; rfl) hw; go_simp⟩) ?_
            simp only [Act.put, List.setIfInBounds_toArray, List.set_cons_zero, List.set_cons_succ]
            refine wpAnyH_ready (rs := [2]) (by kernel_rfl) (by simp) (AllReadyH.cons rfl (fun K hK => ?_) AllReadyH.nil)
            rw [if_pos (by rfl)]
            go_simp
            refine (HA1.out _ _ _ PD.out.pq (S14.out.below (Below.refl w10.heap.size w10).drew) (fun h0 y hy hd => by
              obtain ⟨b, o, e, _⟩ := S14.out.hcell h0
              rw [hy] at e
              injection e with e
              subst e
              exact (L14.out b (by rw [hy]; rfl)).2.2 (.inl (.inl hd)))).mono ?_
            rintro e wa ⟨rfl, hy1⟩
            have HY1 := hide hy1
            have GA := hide (PD.out.mid hy1)
            obtain ⟨hqm, hbm⟩ := PD.out.pq.mid hy1
            have QM := hide hqm
            have BM := hide hbm
            clear hy1 hqm hbm
            refine hK.out _ _ GA.out (fun hHeld => ?_)
            clear hK K
            try simp only [Act.put, List.setIfInBounds_toArray, List.set_cons_zero, List.set_cons_succ]
            refine wpAnyH_ready (rs := [6]) (by kernel_rfl) (by simp) (AllReadyH.cons rfl (fun K hK => ?_) AllReadyH.nil)
            rw [if_pos (by rfl)]
            go_simp
            refine (HA2.out _ _ _ QM.out (HXI.out.sl.below BM.out) (fun h0 y hy hd => by
              have h1 := XO.out h0 y hy
              have h2 := PD.out.pq.oq _ (.inl (.inl hd))
              omega)).mono ?_
            rintro e wb ⟨rfl, hy2⟩
            obtain ⟨⟨D', M', R', N', hpq, hft⟩, hblk⟩ := PD.out.both HY1.out hy2 HGB.out.1 HGB.out.2
            have PM := hide hpq
            have GB := hide hblk
            have O2 : Hid (Own wb w9.heap.size (.slice a14 x.l c14) x.xs) := hide (O14.out.same (fun i hi => by
              obtain ⟨_, q2, q3⟩ := L14.out i hi
              exact PD.out.pq.keepV HY1.out hy2 q2 q3))
            have HFT : Hid (∀ i, (Value.slice a14 x.l c14).ownBlock = some i → w.heap.size ≤ i ∧ ¬ (JF d j D' M' i ∨ QF r q R' N' i)) := hide (fun i hi => by
              obtain ⟨q1, q2, q3⟩ := L14.out i hi
              refine ⟨q1, fun hf => ?_⟩
              rcases hft i hf with h | h
              · exact q3 h
              · have : w10.drew.heap.size = w10.heap.size := rfl
                omega)
            clear hy2 hpq hft hblk
            refine hK.out _ _ GB.out (fun hHeld => ?_)
            clear hK K
            try simp only [Act.put, List.setIfInBounds_toArray, List.set_cons_zero, List.set_cons_succ]
            refine takeH 7 90 (.bool false) hHeld rfl rfl (by kernel_rfl) (by kernel_rfl) (by kernel_rfl) (fun _ _ _ h => h) (Or.inl ⟨by rfl, fun w _ => by go_simp⟩) ?_
            simp only [Act.put, List.setIfInBounds_toArray, List.set_cons_zero, List.set_cons_succ]
            refine wpAnyH_done (by kernel_rfl) ?_ _
            refine NoPanic.normal ?_
            clear hHeld GA GB HY1 QM BM PD O14 S14 L14 XO P10 HA1 HA2 HGB
            obtain ⟨ml, HML⟩ : ∃ ml, Hid (x.l = ml) := ⟨_, hide rfl⟩
            have HMLB : Hid (ml ≤ 1048576 ∧ x.xs.length = ml) := hide (by have h1 := HML.out; have h2 := HM2.out; have h3 := HXI.out.sl.hlen; omega)
            rw [HML.out] at O2 HFT
            rw [HML.out]
            go_wp2_with fail
            go_loopw [15] (fun i wr => ∃ (z : Nat) (zs : List Int), i = .int .i64 (z : Int) ∧ z ≤ ml ∧ Hid (Own wr w9.heap.size (.slice a14 ml c14) zs ∧ zs.length = ml) ∧ Hid (PQ w wr d j r q s m1 rs' g' ls' D' M' R' N')) (fun i _ => ml - (intOf i).toNat)
            case atStart => exact ⟨0, x.xs, rfl, Nat.zero_le _, hide ⟨O2.out, HMLB.out.2⟩, PM⟩
            case round =>
              clear O2 PM
              obtain ⟨z, zs, rfl, hz, HO, HPZ⟩ := hrel
              have hmlb : ml ≤ 1048576 := HMLB.out.1
              by_cases hzt : z < ml
              · have hzti : (z : Int) < (ml : Int) := by omega
                obtain ⟨gv, hgv⟩ : ∃ gv, a14 = some ⟨gv, 0, none⟩ := by
                  rcases HO.out.1.2 with ⟨e, _⟩ | ⟨g', c', cur, e, _⟩
                  · injection e with _ e2 _
                    omega
                  · injection e with e1 _ _
                    exact ⟨g', e1⟩
                subst hgv
                obtain ⟨hcell, hfree⟩ := HO.out.1.byte HO.out.2 hzt
                have O3 := hide (HO.out.1.turn HO.out.2 hzt ((zs.getD z 0 + 1) % 256))
                have L3 : Hid ((zs.set z ((zs.getD z 0 + 1) % 256)).length = ml) := hide (by rw [List.length_set]; exact HO.out.2)
                have P3 := hide (HPZ.out.but (But.setCell wr gv z (.int .u8 ((zs.getD z 0 + 1) % 256))) (HFT.out gv rfl).1 (HFT.out gv rfl).2)
                clear HO HPZ
                go_wp2
                go_roundw
                case rel => exact ⟨z + 1, _, by go_num, by omega, hide ⟨O3.out, L3.out⟩, P3⟩
                case measure => simp [intOf]; omega
              · have hzti : ¬ (z : Int) < (ml : Int) := by omega
                clear HO
                go_wp2_with fail
                go_meet
                case rel => exact ⟨_, _, _, _, _, _, _, HPZ⟩
          · as_aux_lemma =>
            obtain ⟨E, rs', g', ls', hG, hbd, hA1, hA2⟩ := clear_pq P9.out.pq HT.out x.k m1 (by have h1 := HM2.out; omega) HM2.out.2
            have HA1 := hide hA1
            have HA2 := hide hA2
            have HGB := hide (And.intro hG hbd)
            clear hG hbd hA1 hA2 c0
            go_wp2_with fail
            refine wp_region_noPanic ?_
            have PD := hide (P9.out.on (Below.refl w9.heap.size w9).drew)
            refine wp_region_held_drew (S := fun v : World => Blk v g13 41 [.bool true, .int .i64 x.k, .slice x.a x.l x.c]) (by kernel_rfl) PD.out.blk (fun hHeld => ?_)
            refine takeH 0 70 (.pointer (some ⟨j, 0, none⟩)) hHeld rfl rfl (by kernel_rfl) (by kernel_rfl) (by kernel_rfl) (fun _ _ _ h => h) (Or.inl ⟨by rfl, fun w _ => by go_simp⟩) ?_
            simp only [Act.put, List.setIfInBounds_toArray, List.set_cons_zero, List.set_cons_succ]
            refine takeH 1 71 (.pointer (some ⟨g13, 1, none⟩)) hHeld rfl rfl (by kernel_rfl) (by kernel_rfl) (by kernel_rfl) (fun _ _ _ h => h) (Or.inl ⟨by rfl, fun w _ => by go_simp⟩) ?_
            simp only [Act.put, List.setIfInBounds_toArray, List.set_cons_zero, List.set_cons_succ]
            refine takeH 2 72 (.int .i64 x.k) hHeld rfl rfl (by kernel_rfl) (by kernel_rfl) (by kernel_rfl) (fun _ _ _ h => h) (Or.inl ⟨by rfl, fun w hw => by have hw' : w.cell? ⟨g13, 1, none⟩ = some (.int .i64 x.k) := (fun hw => by rw [Blk.cell hw]; rfl) hw; go_simp⟩) ?_
            simp only [Act.put, List.setIfInBounds_toArray, List.set_cons_zero, List.set_cons_succ]
            refine takeH 4 74 (.pointer (some ⟨q, 0, none⟩)) hHeld rfl rfl (by kernel_rfl) (by kernel_rfl) (by kernel_rfl) (fun _ _ _ h => h) (Or.inl ⟨by rfl, fun w _ => by go_simp⟩) ?_
            simp only [Act.put, List.setIfInBounds_toArray, List.set_cons_zero, List.set_cons_succ]
            refine takeH 5 75 (.pointer (some ⟨g13, 1, none⟩)) hHeld rfl rfl (by kernel_rfl) (by kernel_rfl) (by kernel_rfl) (fun _ _ _ h => h) (Or.inl ⟨by rfl, fun w _ => by go_simp⟩) ?_
            simp only [Act.put, List.setIfInBounds_toArray, List.set_cons_zero, List.set_cons_succ]
            refine takeH 6 76 (.int .i64 x.k) hHeld rfl rfl (by kernel_rfl) (by kernel_rfl) (by kernel_rfl) (fun _ _ _ h => h) (Or.inl ⟨by rfl, fun w hw => by have hw' : w.cell? ⟨g13, 1, none⟩ = some (.int .i64 x.k) := (fun hw => by rw [Blk.cell hw]; rfl) hw; go_simp⟩) ?_
            simp only [Act.put, List.setIfInBounds_toArray, List.set_cons_zero, List.set_cons_succ]
            refine wpAnyH_ready (rs := [3]) (by kernel_rfl) (by simp) (AllReadyH.cons rfl (fun K hK => ?_) AllReadyH.nil)
            rw [if_pos (by rfl)]
            go_simp
            refine (HA1.out _ PD.out.pq).mono ?_
            rintro e wa ⟨rfl, hy1⟩
            have HY1 := hide hy1
            have GA := hide (PD.out.mid hy1)
            have QM := hide (PD.out.pq.mid hy1).1
            clear hy1
            refine hK.out _ _ GA.out (fun hHeld => ?_)
            clear hK K
            try simp only [Act.put, List.setIfInBounds_toArray, List.set_cons_zero, List.set_cons_succ]
            refine wpAnyH_ready (rs := [7]) (by kernel_rfl) (by simp) (AllReadyH.cons rfl (fun K hK => ?_) AllReadyH.nil)
            rw [if_pos (by rfl)]
            go_simp
            refine (HA2.out _ QM.out).mono ?_
            rintro e wb ⟨rfl, hy2⟩
            obtain ⟨⟨D', M', R', N', hpq, hft⟩, hblk⟩ := PD.out.both HY1.out hy2 HGB.out.1 HGB.out.2
            have PM := hide hpq
            have GB := hide hblk
            clear hy2 hpq hft hblk
            refine hK.out _ _ GB.out (fun hHeld => ?_)
            clear hK K
            try simp only [Act.put, List.setIfInBounds_toArray, List.set_cons_zero, List.set_cons_succ]
            refine takeH 8 78 (.bool false) hHeld rfl rfl (by kernel_rfl) (by kernel_rfl) (by kernel_rfl) (fun _ _ _ h => h) (Or.inl ⟨by rfl, fun w _ => by go_simp⟩) ?_
            simp only [Act.put, List.setIfInBounds_toArray, List.set_cons_zero, List.set_cons_succ]
            refine wpAnyH_done (by kernel_rfl) ?_ _
            refine NoPanic.normal ?_
            clear hHeld GA GB HY1 QM PD P9 HA1 HA2 HGB
            go_wp2_with fail
            go_meet
            case rel => exact ⟨_, _, _, _, _, _, _, PM⟩
        case rest =>
          as_aux_lemma =>
          obtain ⟨rs, g, ls, D, M, R, N, HQ⟩ := hcut
          have HBB := hide (HBD.out _ _ _ _ HQ.out.bd HM2.out.2)
          clear P9 c0 HXI LG
          go_wp2_with fail
          refine (stands13_any j d g q r ls M N _ HQ.out.pj.jn HQ.out.qj.qn HBB.out.2).mono ?_
          rintro e wx ⟨rfl, hbx⟩
          have Q1 := hide (HQ.out.on hbx)
          clear hbx HQ
          go_wp2_with fail
          refine (stands13_any j d g q r ls M N _ Q1.out.pj.jn Q1.out.qj.qn HBB.out.2).mono ?_
          rintro e wy ⟨rfl, hby⟩
          have Q2 := hide (Q1.out.on hby)
          clear hby Q1
          go_wp2_with fail
          refine (disks_any d r s rs D R _ Q2.out.pj.dk Q2.out.qj.rk HBB.out.1).mono ?_
          rintro e wz ⟨rfl, hbz⟩
          have Q3 := hide (Q2.out.on hbz)
          rw [← HMM.out] at Q3
          clear hbz Q2
          go_wp2
          go_roundw
          case rel => exact ⟨k + 1, rs, g, ls, D, M, R, N, by go_num, by omega, Q3⟩
          case measure => simp [intOf]; omega
      · as_aux_lemma =>
        have hlti : ¬ (k : Int) < (n1 : Int) := by omega
        have HBB := hide (HBD.out _ _ _ _ HP.out.bd HMB.out)
        clear hlenA hjA
        go_wp2_with fail
        refine (stands13_any j d g q r ls M N _ HP.out.pj.jn HP.out.qj.qn HBB.out.2).mono ?_
        rintro e wx ⟨rfl, hbx⟩
        have BB := hide (on_below HP.out.bel hbx)
        clear hbx HP
        go_wp2
        go_ret
        exact ⟨rfl, BB.out⟩

end Go.Proofs.YtninkkdbcgadpaaGreatDoor
