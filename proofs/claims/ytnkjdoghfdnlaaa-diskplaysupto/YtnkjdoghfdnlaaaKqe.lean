/-
  The document's do: a file made.
-/
import Derived.Test.YtnkjdoghfdnlaaaKqd
import Derived.Deep.Cut
namespace Go.Proofs.Ytnkjdoghfdnlaaa
open Go.RowKit
set_option linter.unusedVariables false

theorem join4 {T : Program} {c : Code} {a : Act} {w : World} {Q : Exit → Act → World → Prop} {K : Act → World → Prop} (P : Value → Value → Value → Value → World → Prop) (act : Value → Value → Value → Value → Act) (h1 : ∀ x y z u W, P x y z u W → K (act x y z u) W) (h2 : (∀ x y z u W, P x y z u W → K (act x y z u) W) → Code.wp T c (Exit.then K Q) a w) : Code.wp T c (Exit.then K Q) a w := h2 h1
section
variable {dst : Option Tmp} {ty : TypeId} {pos : String} {aft : Array Edge} {gd : Option (Nat × Bool)} {ops : Array Oper} {rest : List Oper} {a : Act} {w : World} {K : Act → World → Prop} {Q : Exit → Act → World → Prop}
theorem build_R (k : Int) (n : ByteArray) (b : Option Addr) (l c : Nat) (s : Int) (t : ByteArray) (w : World) :
    (Instr.buildSlice 74 1 #[(0, .agg (rwC k n (.slice b l c) s t).toArray)]).run Try.prog w = .ok (.slice (some ⟨w.heap.size, 0, none⟩) 1 1) (w.alloc (.cells (rwC k n (.slice b l c) s t).toArray 62)) := by kernel_rfl
set_option maxRecDepth 100000 in
theorem wp_oneR {x : Operand} {r : Rw} {v : Value} (hv : ∃ b l c, v = .slice b l c) (hx : a.eval x = .agg (rwC r.k r.n v r.s r.t).toArray) (h : ∀ w1 u, Vw w1 62 5 u 1 (rwsC [(r, v)]) → Below w.heap.size w w1 → K (a.put dst u) w1) :
    Oper.wp Try.prog ⟨dst, .buildSlice 74 1 #[(0, x)], ty, pos, aft, gd⟩ a w K Q := by
  obtain ⟨b, l, c, rfl⟩ := hv
  refine wp_runV (.slice (some ⟨w.heap.size, 0, none⟩) 1 1) (w.alloc (.cells (rwC r.k r.n (.slice b l c) r.s r.t).toArray 62)) ?_ (h _ _ ⟨by simp [rwsC, rwC], _, _, rfl, Nat.le_refl _, fun _ => ⟨_, 0, rwC r.k r.n (.slice b l c) r.s r.t, rfl, Blk.made w 62 _, rfl⟩⟩ ((Below.refl _ _).alloc (Nat.le_refl _) _))
  unfold execOp
  simp only [List.map_toArray, List.map_cons, List.map_nil, hx]
  simp only [Sem.run_bind, build_R, Result.andThen_ok, Sem.run_pure]
end
theorem rwsC_one (l : List (Rw × Value)) (h : ∀ x ∈ l, ∃ b n c, x.2 = .slice b n c) : ∀ x ∈ rwsC l, x.oneCell' = true := by
  intro x hx
  simp only [rwsC, List.mem_flatMap] at hx
  obtain ⟨y, hy, hx⟩ := hx
  obtain ⟨b, n, c, e⟩ := h y hy
  simp [rwC, e] at hx
  rcases hx with rfl | rfl | rfl | rfl | rfl <;> rfl

theorem row_on {w w' : World} {B : Nat} {e : TypeId} {q n : Nat} {v : Value} {xs : List Value} (h : w.ownsRow B e q v n xs) (hb : Below w.heap.size w w') : w'.ownsRow B e q v n xs := row_same h (fun k hk => by obtain ⟨cs, hc⟩ := row_lies h hk; exact hb.block k hc.lt)
theorem Vw.row0 {w : World} {B : Nat} {e : TypeId} {q n : Nat} {v : Value} {xs : List Value} (h : w.ownsRow B e q v n xs) : w.ownsRow 0 e q v n xs := by
  obtain ⟨h1, h2⟩ := h
  refine ⟨h1, ?_⟩
  rcases h2 with h2 | ⟨g, cap, cur, rfl, hg, r⟩
  · exact .inl h2
  · exact .inr ⟨g, cap, cur, rfl, Nat.zero_le _, r⟩
set_option maxRecDepth 100000 in
/-- Append to an empty slice of the call's own that has no room: only new memory. -/
theorem wp_app0 {T e : TypeId} {q by' : Nat} {z : Value} (R : Ro T e q by' z) {dst : Option Tmp} {ty : TypeId} {pos : String} {aft : Array Edge} {gd : Option (Nat × Bool)} {a : Act} {w : World} {K : Act → World → Prop} {Q : Exit → Act → World → Prop} {s x : Operand} {B : Nat} {v u : Value} {m : Nat} {ys : List Value} (hs : a.eval s = v) (hx : a.eval x = u) (hown : (∃ g, v = .slice (some ⟨g, 0, none⟩) 0 0) ∧ w.ownsRow B e q v 0 []) (hu : Vw w e q u m ys) (h1 : ∀ x ∈ ys, x.oneCell' = true) (hlen : m ≤ 1099511627776) (hB : B ≤ w.heap.size)
    (h : ∀ v' w', w'.ownsRow B e q v' m ys → Below w.heap.size w w' → K (a.put dst v') w') :
    Oper.wp Try.prog ⟨dst, .call { callee := .builtin .append, args := #[s, x], argTypes := #[T, T] }, ty, pos, aft, gd⟩ a w K Q := by
  obtain ⟨⟨g, rfl⟩, hown⟩ := hown
  obtain ⟨v', w', hr, h2, h3, h4⟩ := run_appV R hown hu h1 (by omega) hB ty
  have hbel : Below w.heap.size w w' := by
    obtain ⟨i0, hi, hz0, hz1, hz2⟩ := info_parts R.info
    obtain ⟨hl, ua, uc, rfl, hle, hat⟩ := hu
    by_cases h0 : m = 0
    · subst h0
      have e := run_append_nothing w T T ty e i0 R.und hi (some ⟨g, 0, none⟩) 0 0 (Nat.le_refl _) (.slice ua 0 uc) ⟨.inl ⟨e, R.und⟩, fun w' => by simp [Builtin.lenOf], by cases ua <;> simp [Builtin.firstCells, loadCells, loadCellsFrom], by cases ua <;> simp [Builtin.firstCells, loadCells, loadCellsFrom], by simp, by simp⟩
      rw [e] at hr
      injection hr with _ hr
      subst hr
      exact Below.refl _ _
    · obtain ⟨g', o, cs, rfl, hb, hcs⟩ := hat h0
      have hb9 := R.q9
      have e := run_append_grow w T ty e i0 z R.und hi hz0 ⟨g, 0, none⟩ 0 0 [] (by simp) (fun j v hv => by simp at hv) ⟨g', o, none⟩ m uc ys (by rw [hz1]; exact hl) (fun j x hx => by
        rw [Addr.add_lit, hb.cell]
        have : ys[j]? = cs[o + j]? := by
          rw [← hcs, List.getElem?_take, List.getElem?_drop, if_pos (by have := (List.getElem?_eq_some_iff.1 hx).1; omega)]
        rw [← this]
        exact hx) (by omega) (by omega) (by
          rw [Nat.zero_add, nextslicecap_zero (by omega), hz2]
          have : m * by' ≤ 1099511627776 * 128 := Nat.mul_le_mul hlen hb9
          omega)
      rw [e] at hr
      injection hr with _ hr
      subst hr
      exact ((Below.refl _ _).drew).alloc (by simp) _
  unfold Oper.wp execOp
  simp only [resolve, invoke, builtin, Sem.run_bind, Sem.run_pure, Result.andThen_ok, List.map_toArray, List.map_cons, List.map_nil, hs, hx, hr]
  exact h v' w' (by simpa using h2) hbel

theorem run_buildF1 {dst : Option Tmp} {ty : TypeId} {pos : String} {aft : Array Edge} {gd : Option (Nat × Bool)} {ac : Act} {w : World} {x : Operand} {n : ByteArray} (hx : ac.eval x = .string n) :
    (execOp ac.eval ⟨dst, .build 90 #[(0, x)], ty, pos, aft, gd⟩).run Try.prog w = .ok (.value (.agg #[.string n, .string (str [])])) w :=
  run_op (M := Instr.build 90 #[(0, .string n)]) (by simp [execOp, hx]) (by kernel_rfl)
theorem run_buildF2 {dst : Option Tmp} {ty : TypeId} {pos : String} {aft : Array Edge} {gd : Option (Nat × Bool)} {ac : Act} {w : World} {x y : Operand} {n b : ByteArray} (hx : ac.eval x = .string n) (hy : ac.eval y = .string b) :
    (execOp ac.eval ⟨dst, .build 90 #[(0, x), (1, y)], ty, pos, aft, gd⟩).run Try.prog w = .ok (.value (.agg #[.string n, .string b])) w :=
  run_op (M := Instr.build 90 #[(0, .string n), (1, .string b)]) (by simp [execOp, hx, hy]) (by kernel_rfl)
section
variable (r s : Nat) (rs : List Rw) (R : Rm) (n : ByteArray) (w : World) (h : RkAt w r s rs R) (hn : nmB n = true) (hwt : wt rs + 1 ≤ 16777216)
include h hn hwt
set_option maxRecDepth 100000 in
set_option maxHeartbeats 1000000 in
theorem doR_cr (hf : play rs n = none) (hv : BV w (.slice none 0 0) []) : Calls Try.prog 40 #[.pointer (some ⟨r, 0, none⟩), .agg (rwC 1 n (.slice none 0 0) 0 ByteArray.empty).toArray] w fun e w' => e = .returned (.tuple #[]) ∧ RoR w w' r s R (rs ++ [rCr n]) (.slice none 0 0) := by
  obtain ⟨A, B, hAB, hA, hlt, hB⟩ := h.fls.split n
  obtain ⟨I, hI⟩ : ∃ I, A.length = I := ⟨_, rfl⟩
  have hB2 : ∀ b ∈ B, blt n b.1 = true := by
    rcases hB with ⟨_, h2⟩ | ⟨xs, _, h1, _⟩
    · exact h2
    · rw [hf] at h1; cases h1
  have HLR : Hid (Lraw s (play rs) (rCr n)) := hide ⟨.inl ⟨n, rfl, hn, hf⟩, fun h2 => by cases h2⟩
  have HFL : Hid (FL (doR (play rs) (rCr n)) ((A ++ [(n, [])]) ++ B)) := hide (by
    have := h.fls
    rw [hAB] at this
    have := this.put hlt hB2 []
    rw [List.append_assoc]
    exact this)
  have HLN : Hid (((A ++ [(n, [])]) ++ B).length ≤ rs.length + 1) := hide (by
    have := h.few
    rw [hAB] at this
    simp at this ⊢
    omega)
  clear hB hB2 hn
  obtain ⟨fa, fc, hfe⟩ := row_slice h.fk.row
  have HH := hide h
  have HL : Hid (R.l.length ≤ 16777216) := hide (by have h1 := h.few; have h2 := len_wt rs; omega)
  have hrl : R.qs.length = rs.length := by rw [← h.raw]; simp
  have HRL : Hid (R.qs.length ≤ 16777216) := hide (by have h2 := len_wt rs; omega)
  clear hrl
  have HFE := hide hfe
  have HAB := hide hAB
  have HA := hide hA
  have HLTA := hide hlt
  have HV := hide hv
  have hfind : ∀ (W : World), FkAt W r s R.fv R.qv R.l → Calls Try.prog 57 #[.pointer (some ⟨r, 0, none⟩), .string n] W fun e w' => e = .returned (.tuple #[.int .i64 (I : Int), .bool false]) ∧ Below W.heap.size W w' := fun W hW => by
    have := find_any r s R.fv R.qv R.l (play rs) n W hW h.fls HL.out
    rw [← hA, hI, hf] at this
    exact this
  have HFD := hide hfind
  clear h hAB hA hlt hv hfe hfind hwt
  go_enter Try.func40, Try.ntmps40
  go_wp2_with (refine step_box (cs := rwC 1 n (.slice none 0 0) 0 ByteArray.empty) rfl rfl ?_)
  intro w1 g3 hg3 hle3 hb1
  have D1 : Hid (DsR w w1 r s R R.fv R.l (rCr n) (Value.slice none 0 0) g3) := hide (HH.out.ds hb1 hg3 hle3)
  have c1 : w1.cell? ⟨g3, 1, none⟩ = some (.string n) := D1.out.r1
  clear hg3 hle3 hb1
  go_wp2_with (go_at_call 57; refine (HFD.out _ D1.out.fk).mono ?_; rintro e w2 ⟨rfl, hb2⟩; have D2 := hide (D1.out.below hb2); have c0 : w2.cell? ⟨g3, 0, none⟩ = some (.int .i64 1) := D2.out.r0; clear c1 D1 hb2)
  clear HFD
  obtain ⟨vA, hto, hvt⟩ := (Vw.of_row D2.out.fk.row).to rFi (k := I) (by rw [HAB.out, List.length_append, hI]; omega)
  obtain ⟨vB, hfr, hvf⟩ := (Vw.of_row D2.out.fk.row).from rFi (k := I) (by rw [HAB.out, List.length_append, hI]; omega)
  have HTO := hide hto
  have HFR := hide hfr
  have HC1 : Hid (∀ z : World, Below w2.heap.size w2 z → z.cell? ⟨r, 1, none⟩ = some R.fv) := hide (fun z hz => (D2.out.below hz).c1)
  have HCN : Hid (∀ z : World, Below w2.heap.size w2 z → z.cell? ⟨g3, 1, none⟩ = some (.string n)) := hide (fun z hz => (D2.out.below hz).r1)
  have HVT : Hid (∀ z : World, Below w2.heap.size w2 z → Vw z 90 2 vA A.length (filC A)) := hide (fun z hz => by
    have := hvt z (Vw.of_row (D2.out.below hz).fk.row)
    rw [← filC_take, HAB.out, ← hI, List.take_left' rfl] at this
    exact this)
  have HVF : Hid (∀ z : World, Below w2.heap.size w2 z → Vw z 90 2 vB B.length (filC B)) := hide (fun z hz => by
    have := hvf z (Vw.of_row (D2.out.below hz).fk.row)
    rw [← filC_drop, HAB.out, ← hI, List.drop_left' rfl, List.length_append, Nat.add_sub_cancel_left] at this
    exact this)
  clear hto hfr hvt hvf
  clear c0
  refine join4 (fun x y z u W => Hid (W.ownsRow w2.heap.size 90 2 u (A ++ [(n, [])]).length (filC (A ++ [(n, [])]))) ∧ Hid (Below w2.heap.size w2 W)) ?act ?tail (fun hjoin => ?_)
  rotate_left
  rotate_left
  · refine wp_region_noPanic ?_
    refine wp_region_U (q := 13) (S := fun z : World => Below w2.heap.size w2 z) (by kernel_rfl) ?_
    have Z0 := hide ((Below.refl w2.heap.size w2).drew)
    have hHeld := Z0.out
    refine takeU 13 1 23 (.pointer (some ⟨r, 0, none⟩)) hHeld rfl rfl (by kernel_rfl) (by kernel_rfl) (by kernel_rfl) (by kernel_rfl) (by kernel_rfl) (by kernel_rfl) (fun _ _ _ h => h) (Or.inl ⟨by rfl, fun w _ => by go_simp⟩) ?_
    simp only [Act.put, List.setIfInBounds_toArray, List.set_cons_zero, List.set_cons_succ]
    refine takeU 13 2 24 (.pointer (some ⟨r, 0, none⟩)) hHeld rfl rfl (by kernel_rfl) (by kernel_rfl) (by kernel_rfl) (by kernel_rfl) (by kernel_rfl) (by kernel_rfl) (fun _ _ _ h => h) (Or.inl ⟨by rfl, fun w _ => by go_simp⟩) ?_
    simp only [Act.put, List.setIfInBounds_toArray, List.set_cons_zero, List.set_cons_succ]
    refine takeU 13 3 25 (.pointer (some ⟨r, 1, none⟩)) hHeld rfl rfl (by kernel_rfl) (by kernel_rfl) (by kernel_rfl) (by kernel_rfl) (by kernel_rfl) (by kernel_rfl) (fun _ _ _ h => h) (Or.inl ⟨by rfl, fun w _ => by go_simp⟩) ?_
    simp only [Act.put, List.setIfInBounds_toArray, List.set_cons_zero, List.set_cons_succ]
    refine takeU 13 4 26 (R.fv) hHeld rfl rfl (by kernel_rfl) (by kernel_rfl) (by kernel_rfl) (by kernel_rfl) (by kernel_rfl) (by kernel_rfl) (fun _ _ _ h => h) (Or.inl ⟨by rfl, fun w hw => by have hw' : w.cell? ⟨r, 1, none⟩ = some (R.fv) := (fun hw => HC1.out _ hw) hw; go_simp⟩) ?_
    simp only [Act.put, List.setIfInBounds_toArray, List.set_cons_zero, List.set_cons_succ]
    refine takeU 13 5 27 (.int .i64 (I : Int)) hHeld rfl rfl (by kernel_rfl) (by kernel_rfl) (by kernel_rfl) (by kernel_rfl) (by kernel_rfl) (by kernel_rfl) (fun _ _ _ h => h) (Or.inl ⟨by rfl, fun w _ => by go_simp⟩) ?_
    simp only [Act.put, List.setIfInBounds_toArray, List.set_cons_zero, List.set_cons_succ]
    refine takeU 13 6 28 (vA) hHeld rfl rfl (by kernel_rfl) (by kernel_rfl) (by kernel_rfl) (by kernel_rfl) (by kernel_rfl) (by kernel_rfl) (fun _ _ _ h => h) (Or.inl ⟨by rfl, fun w h => run_op rfl (HTO.out w)⟩) ?_
    simp only [Act.put, List.setIfInBounds_toArray, List.set_cons_zero, List.set_cons_succ]
    refine takeU 13 8 30 (.pointer (some ⟨g3, 1, none⟩)) hHeld rfl rfl (by kernel_rfl) (by kernel_rfl) (by kernel_rfl) (by kernel_rfl) (by kernel_rfl) (by kernel_rfl) (fun _ _ _ h => h) (Or.inl ⟨by rfl, fun w _ => by go_simp⟩) ?_
    simp only [Act.put, List.setIfInBounds_toArray, List.set_cons_zero, List.set_cons_succ]
    refine takeU 13 9 31 (.string n) hHeld rfl rfl (by kernel_rfl) (by kernel_rfl) (by kernel_rfl) (by kernel_rfl) (by kernel_rfl) (by kernel_rfl) (fun _ _ _ h => h) (Or.inl ⟨by rfl, fun w hw => by have hw' : w.cell? ⟨g3, 1, none⟩ = some (.string n) := (fun hw => HCN.out _ hw) hw; go_simp⟩) ?_
    simp only [Act.put, List.setIfInBounds_toArray, List.set_cons_zero, List.set_cons_succ]
    refine takeU 13 10 32 (.agg #[.string n, .string (str [])]) hHeld rfl rfl (by kernel_rfl) (by kernel_rfl) (by kernel_rfl) (by kernel_rfl) (by kernel_rfl) (by kernel_rfl) (fun _ _ _ h => h) (Or.inl ⟨by rfl, fun w h => run_buildF1 rfl⟩) ?_
    simp only [Act.put, List.setIfInBounds_toArray, List.set_cons_zero, List.set_cons_succ]
    have ONE1 : Hid (∀ x ∈ filC A, x.oneCell' = true) := hide (filC_one A)
    have ONE2 : Hid (∀ x ∈ filC [(n, [])], x.oneCell' = true) := hide (filC_one _)
    have HLA : Hid (A.length ≤ 16777216) := hide (by have := HL.out; rw [HAB.out, List.length_append] at this; omega)
    have HVA : Hid (∀ z : World, Below w2.heap.size w2 z → Vw z 90 2 vA A.length (filC A)) := hide (fun z hz => HVT.out z hz)
    refine wpAnyU_ready (rs := [0, 11]) (by kernel_rfl) (by simp) (AllReadyU.cons rfl (fun K hK => ?_) (AllReadyU.cons rfl (fun K hK => ?_) AllReadyU.nil))
    · rw [if_pos (by rfl)]
      refine wp_0F Z0.out.size ?_
      intro w3 g0 hv0 hb0
      have Z3 := hide (Z0.out.trans (hb0.mono Z0.out.size))
      have V0 := hide hv0
      have B0 := hide hb0
      refine hK.out _ _ (fun _ => Z3.out) ?_
      have hHeld := Z3.out
      clear hK K
      clear hv0 hb0
      simp only [Act.put]
      refine wpAnyU_ready (rs := [7, 11]) (by kernel_rfl) (by simp) (AllReadyU.cons rfl (fun K hK => ?_) (AllReadyU.cons rfl (fun K hK => ?_) AllReadyU.nil))
      · rw [if_pos (by rfl)]
        refine wp_app0 rFi rfl rfl V0.out (HVA.out _ Z3.out) ONE1.out (by have := HLA.out; omega) Z3.out.size ?_
        intro v29 w4 hv29 hb7
        have Z4 := hide (Z3.out.trans (hb7.mono Z3.out.size))
        have V29 := hide hv29
        have B7 := hide hb7
        refine hK.out _ _ (fun _ => Z4.out) ?_
        have hHeld := Z4.out
        clear hK K
        clear hv29 hb7
        simp only [Act.put]
        refine wpAnyU_ready (rs := [11]) (by kernel_rfl) (by simp) (AllReadyU.cons rfl (fun K hK => ?_) AllReadyU.nil)
        rw [if_pos (by rfl)]
        refine wp_oneF (n := n) (xs := []) rfl ?_
        intro w5 v33 hu33 hb11
        have Z5 := hide (Z4.out.trans (hb11.mono Z4.out.size))
        have U33 := hide hu33
        have B11 := hide hb11
        refine hK.out _ _ (fun _ => Z5.out) ?_
        have hHeld := Z5.out
        clear hK K
        clear hu33 hb11
        simp only [Act.put]
        have V29' := hide (row_on V29.out B11.out)
        refine wpAnyU_ready (rs := [12]) (by kernel_rfl) (by simp) (AllReadyU.cons rfl (fun K hK => ?_) AllReadyU.nil)
        rw [if_pos (by rfl)]
        refine wp_appV rFi rfl rfl V29'.out U33.out ONE2.out (by have := HLA.out; omega) Z5.out.size ?_
        intro v34 w6 hv34 hgr12 hat12
        have Z6 := hide (Z5.out.trans (grown_below hgr12 (fun k hk => row_ge V29'.out hk) Z5.out.size))
        have V34 : Hid (w6.ownsRow w2.heap.size 90 2 v34 (A ++ [(n, [])]).length (filC (A ++ [(n, [])]))) := hide (by rw [filC_app, List.length_append]; exact hv34)
        refine hK.out _ _ (fun _ => Z6.out) ?_
        have hHeld := Z6.out
        clear hK K
        clear hv34 hgr12 hat12
        simp only [Act.put]
        refine wpAnyU_ready (rs := [13]) (by kernel_rfl) (by simp) (AllReadyU.cons rfl (fun K hK => ?_) AllReadyU.nil)
        rw [if_pos (by rfl)]
        go_simp
        refine hK.out _ _ (fun h => absurd h (by decide)) ?_
        clear hK K
        refine wpAnyU_done (by kernel_rfl) ?_ _
        refine NoPanic.normal ?_
        exact hjoin g0 v29 v33 v34 w6 ⟨V34, Z6⟩
      · rw [if_pos (by rfl)]
        refine wp_oneF (n := n) (xs := []) rfl ?_
        intro w4 v33 hu33 hb11
        have Z4 := hide (Z3.out.trans (hb11.mono Z3.out.size))
        have U33 := hide hu33
        have B11 := hide hb11
        refine hK.out _ _ (fun _ => Z4.out) ?_
        have hHeld := Z4.out
        clear hK K
        clear hu33 hb11
        simp only [Act.put]
        have V0' := hide (And.intro V0.out.1 (row_on V0.out.2 B11.out))
        refine wpAnyU_ready (rs := [7]) (by kernel_rfl) (by simp) (AllReadyU.cons rfl (fun K hK => ?_) AllReadyU.nil)
        rw [if_pos (by rfl)]
        refine wp_app0 rFi rfl rfl V0'.out (HVA.out _ Z4.out) ONE1.out (by have := HLA.out; omega) Z4.out.size ?_
        intro v29 w5 hv29 hb7
        have Z5 := hide (Z4.out.trans (hb7.mono Z4.out.size))
        have V29 := hide hv29
        have B7 := hide hb7
        refine hK.out _ _ (fun _ => Z5.out) ?_
        have hHeld := Z5.out
        clear hK K
        clear hv29 hb7
        simp only [Act.put]
        have U33' := hide (U33.out.on B7.out)
        refine wpAnyU_ready (rs := [12]) (by kernel_rfl) (by simp) (AllReadyU.cons rfl (fun K hK => ?_) AllReadyU.nil)
        rw [if_pos (by rfl)]
        refine wp_appV rFi rfl rfl V29.out U33'.out ONE2.out (by have := HLA.out; omega) Z5.out.size ?_
        intro v34 w6 hv34 hgr12 hat12
        have Z6 := hide (Z5.out.trans (grown_below hgr12 (fun k hk => row_ge V29.out hk) Z5.out.size))
        have V34 : Hid (w6.ownsRow w2.heap.size 90 2 v34 (A ++ [(n, [])]).length (filC (A ++ [(n, [])]))) := hide (by rw [filC_app, List.length_append]; exact hv34)
        refine hK.out _ _ (fun _ => Z6.out) ?_
        have hHeld := Z6.out
        clear hK K
        clear hv34 hgr12 hat12
        simp only [Act.put]
        refine wpAnyU_ready (rs := [13]) (by kernel_rfl) (by simp) (AllReadyU.cons rfl (fun K hK => ?_) AllReadyU.nil)
        rw [if_pos (by rfl)]
        go_simp
        refine hK.out _ _ (fun h => absurd h (by decide)) ?_
        clear hK K
        refine wpAnyU_done (by kernel_rfl) ?_ _
        refine NoPanic.normal ?_
        exact hjoin g0 v29 v33 v34 w6 ⟨V34, Z6⟩
    · rw [if_pos (by rfl)]
      refine wp_oneF (n := n) (xs := []) rfl ?_
      intro w3 v33 hu33 hb11
      have Z3 := hide (Z0.out.trans (hb11.mono Z0.out.size))
      have U33 := hide hu33
      have B11 := hide hb11
      refine hK.out _ _ (fun _ => Z3.out) ?_
      have hHeld := Z3.out
      clear hK K
      clear hu33 hb11
      simp only [Act.put]
      refine wpAnyU_ready (rs := [0]) (by kernel_rfl) (by simp) (AllReadyU.cons rfl (fun K hK => ?_) AllReadyU.nil)
      rw [if_pos (by rfl)]
      refine wp_0F Z3.out.size ?_
      intro w4 g0 hv0 hb0
      have Z4 := hide (Z3.out.trans (hb0.mono Z3.out.size))
      have V0 := hide hv0
      have B0 := hide hb0
      refine hK.out _ _ (fun _ => Z4.out) ?_
      have hHeld := Z4.out
      clear hK K
      clear hv0 hb0
      simp only [Act.put]
      have U33' := hide (U33.out.on B0.out)
      refine wpAnyU_ready (rs := [7]) (by kernel_rfl) (by simp) (AllReadyU.cons rfl (fun K hK => ?_) AllReadyU.nil)
      rw [if_pos (by rfl)]
      refine wp_app0 rFi rfl rfl V0.out (HVA.out _ Z4.out) ONE1.out (by have := HLA.out; omega) Z4.out.size ?_
      intro v29 w5 hv29 hb7
      have Z5 := hide (Z4.out.trans (hb7.mono Z4.out.size))
      have V29 := hide hv29
      have B7 := hide hb7
      refine hK.out _ _ (fun _ => Z5.out) ?_
      have hHeld := Z5.out
      clear hK K
      clear hv29 hb7
      simp only [Act.put]
      have U33'' := hide (U33'.out.on B7.out)
      refine wpAnyU_ready (rs := [12]) (by kernel_rfl) (by simp) (AllReadyU.cons rfl (fun K hK => ?_) AllReadyU.nil)
      rw [if_pos (by rfl)]
      refine wp_appV rFi rfl rfl V29.out U33''.out ONE2.out (by have := HLA.out; omega) Z5.out.size ?_
      intro v34 w6 hv34 hgr12 hat12
      have Z6 := hide (Z5.out.trans (grown_below hgr12 (fun k hk => row_ge V29.out hk) Z5.out.size))
      have V34 : Hid (w6.ownsRow w2.heap.size 90 2 v34 (A ++ [(n, [])]).length (filC (A ++ [(n, [])]))) := hide (by rw [filC_app, List.length_append]; exact hv34)
      refine hK.out _ _ (fun _ => Z6.out) ?_
      have hHeld := Z6.out
      clear hK K
      clear hv34 hgr12 hat12
      simp only [Act.put]
      refine wpAnyU_ready (rs := [13]) (by kernel_rfl) (by simp) (AllReadyU.cons rfl (fun K hK => ?_) AllReadyU.nil)
      rw [if_pos (by rfl)]
      go_simp
      refine hK.out _ _ (fun h => absurd h (by decide)) ?_
      clear hK K
      refine wpAnyU_done (by kernel_rfl) ?_ _
      refine NoPanic.normal ?_
      exact hjoin g0 v29 v33 v34 w6 ⟨V34, Z6⟩
  intro x y z u W3 hP
  obtain ⟨V3, Z3⟩ := hP
  have D3 := hide (D2.out.below Z3.out)
  have c1 : W3.cell? ⟨r, 1, none⟩ = some R.fv := D3.out.c1
  have hfr := HFR.out
  obtain ⟨L4, hL4⟩ : ∃ L4, ((A ++ [(n, [])]) ++ B).length = L4 := ⟨_, rfl⟩
  have HL4 := hide hL4
  clear hL4
  have HLB : Hid ((A ++ [(n, [])]).length + B.length ≤ 16777218) := hide (by have := HL.out; rw [HAB.out, List.length_append] at this; simp; omega)
  go_upto_region 20 with (refine step_appV rFi rfl rfl rfl V3.out (HVF.out _ Z3.out) (filC_one _) (by have := HLB.out; omega) Z3.out.size ?_; intro v43 w4 hv43 hgr4 hat4; have V4 : Hid (w4.ownsRow w2.heap.size 90 2 v43 L4 (filC ((A ++ [(n, [])]) ++ B))) := hide (by rw [filC_app, ← HL4.out, List.length_append]; exact hv43); have Z4 := hide (Z3.out.trans (grown_below hgr4 (fun k hk => row_ge V3.out hk) Z3.out.size)); have D4 := hide (D2.out.below Z4.out); clear hv43 hgr4 hat4; obtain ⟨a4, c4, hve4⟩ := row_slice V4.out; subst hve4; have k1 : w4.cell? ⟨r, 1, none⟩ = some R.fv := D4.out.c1; have k2 : w4.frozen? ⟨r, 1, none⟩ = false := D4.out.fk.blk.free 1)
  have B6 := But.setCell w4 r 1 (.slice a4 L4 c4)
  have D6 : Hid (DsR w (w4.setCell ⟨r, 1, none⟩ (.slice a4 L4 c4)) r s R (.slice a4 L4 c4) ((A ++ [(n, [])]) ++ B) (rCr n) (Value.slice none 0 0) g3) := hide (by
    have hne : ∀ {k : Nat} {t : TypeId} {cs : List Value}, Blk w4 k t cs → t ≠ 76 → k ≠ r := fun hc ht => hc.apart D4.out.fk.blk ht
    refine ⟨⟨D4.out.fk.blk.set 1 _, ?_⟩, ?_, ?_, D4.out.new, D4.out.chs.thenBut B6 (.inl (.inl rfl)), fun k hk => ?_, D4.out.off⟩
    · rw [HL4.out]
      refine row_same (Vw.row0 V4.out) (fun k hk => B6.block k ?_)
      obtain ⟨cs, hc⟩ := row_lies V4.out hk
      exact hne hc (by decide)
    · refine row_same D4.out.row (fun k hk => B6.block k ?_)
      obtain ⟨cs, hc⟩ := row_lies D4.out.row hk
      exact hne hc (by decide)
    · exact D4.out.gb.but B6 (hne D4.out.gb (by decide))
    · right
      have h1 := row_ge V4.out hk
      have h2 := D2.out.chs.size
      omega)
  revert D6
  generalize w4.setCell ⟨r, 1, none⟩ (.slice a4 L4 c4) = w6
  intro D6
  clear k1 k2 c1 hfr B6 D4 Z4 V4 D3
  have c0 : w6.cell? ⟨g3, 0, none⟩ = some (.int .i64 1) := D6.out.r0
  go_wp2_with fail
  clear c0
  have HRE5 : Hid (∃ q1 q2, R.qv = .slice q1 R.qs.length q2) := hide (by obtain ⟨q1, q2, hq⟩ := row_slice HH.out.row; exact ⟨q1, q2, hq⟩)
  obtain ⟨L5, hL5⟩ : ∃ L5, (R.qs ++ [(rCr n, (Value.slice none 0 0))]).length = L5 := ⟨_, rfl⟩
  have HL5 := hide hL5
  clear hL5
  refine wp_region_noPanic ?_
  refine wp_region_U (q := 10) (S := fun z : World => z.cell? ⟨r, 2, none⟩ = some R.qv ∧ z.rangeAt g3 0 (rwC 1 n (.slice none 0 0) 0 ByteArray.empty)) (by kernel_rfl) ?_
  have Z0 := hide ((Below.refl w6.heap.size w6).drew)
  have E0 := hide (D6.out.below Z0.out)
  have HIR : Hid ((Try.prog.info? 62).map (·.size) = some (rwC 1 n (.slice none 0 0) 0 ByteArray.empty).length) := hide (by rw [wRw.size]; rfl)
  have gb0 : Blk w6.drew g3 62 (rwC 1 n (.slice none 0 0) 0 ByteArray.empty) := E0.out.gb
  have hHeld : w6.drew.cell? ⟨r, 2, none⟩ = some R.qv ∧ w6.drew.rangeAt g3 0 (rwC 1 n (.slice none 0 0) 0 ByteArray.empty) := ⟨E0.out.c2, gb0.range 0 _ (by simp)⟩
  clear gb0
  refine takeU 10 0 168 (.pointer (some ⟨r, 0, none⟩)) hHeld rfl rfl (by kernel_rfl) (by kernel_rfl) (by kernel_rfl) (by kernel_rfl) (by kernel_rfl) (by kernel_rfl) (fun _ _ _ h => h) (Or.inl ⟨by rfl, fun w _ => by go_simp⟩) ?_
  simp only [Act.put, List.setIfInBounds_toArray, List.set_cons_zero, List.set_cons_succ]
  refine takeU 10 1 169 (.pointer (some ⟨r, 0, none⟩)) hHeld rfl rfl (by kernel_rfl) (by kernel_rfl) (by kernel_rfl) (by kernel_rfl) (by kernel_rfl) (by kernel_rfl) (fun _ _ _ h => h) (Or.inl ⟨by rfl, fun w _ => by go_simp⟩) ?_
  simp only [Act.put, List.setIfInBounds_toArray, List.set_cons_zero, List.set_cons_succ]
  refine takeU 10 2 170 (.pointer (some ⟨r, 0, none⟩)) hHeld rfl rfl (by kernel_rfl) (by kernel_rfl) (by kernel_rfl) (by kernel_rfl) (by kernel_rfl) (by kernel_rfl) (fun _ _ _ h => h) (Or.inl ⟨by rfl, fun w _ => by go_simp⟩) ?_
  simp only [Act.put, List.setIfInBounds_toArray, List.set_cons_zero, List.set_cons_succ]
  refine takeU 10 3 171 (.pointer (some ⟨r, 2, none⟩)) hHeld rfl rfl (by kernel_rfl) (by kernel_rfl) (by kernel_rfl) (by kernel_rfl) (by kernel_rfl) (by kernel_rfl) (fun _ _ _ h => h) (Or.inl ⟨by rfl, fun w _ => by go_simp⟩) ?_
  simp only [Act.put, List.setIfInBounds_toArray, List.set_cons_zero, List.set_cons_succ]
  refine takeU 10 4 172 (R.qv) hHeld rfl rfl (by kernel_rfl) (by kernel_rfl) (by kernel_rfl) (by kernel_rfl) (by kernel_rfl) (by kernel_rfl) (fun _ _ _ h => h) (Or.inl ⟨by rfl, fun w hw => by have hw' : w.cell? ⟨r, 2, none⟩ = some (R.qv) := (fun h => h.1) hw; go_simp⟩) ?_
  simp only [Act.put, List.setIfInBounds_toArray, List.set_cons_zero, List.set_cons_succ]
  refine takeU 10 5 173 (.agg (rwC 1 n (.slice none 0 0) 0 ByteArray.empty).toArray) hHeld rfl rfl (by kernel_rfl) (by kernel_rfl) (by kernel_rfl) (by kernel_rfl) (by kernel_rfl) (by kernel_rfl) (fun _ _ _ h => h) (yieldsIf_load_mid (by rfl) _ _ rfl g3 0 rfl _ _ (fun w h => h.2) Try.underlying62 rfl HIR.out) ?_
  simp only [Act.put, List.setIfInBounds_toArray, List.set_cons_zero, List.set_cons_succ]
  refine wpAnyU_ready (rs := [6]) (by kernel_rfl) (by simp) (AllReadyU.cons rfl (fun K hK => ?_) AllReadyU.nil)
  rw [if_pos (by rfl)]
  refine wp_oneR (r := rCr n) (v := (Value.slice none 0 0)) ⟨_, _, _, rfl⟩ rfl ?_
  intro w4 u4 hu4 hb4
  have E4 := hide (E0.out.below hb4)
  have HU4 := hide hu4
  have gb0 : Blk w4 g3 62 (rwC 1 n (.slice none 0 0) 0 ByteArray.empty) := E4.out.gb
  have hH4 : w4.cell? ⟨r, 2, none⟩ = some R.qv ∧ w4.rangeAt g3 0 (rwC 1 n (.slice none 0 0) 0 ByteArray.empty) := ⟨E4.out.c2, gb0.range 0 _ (by simp)⟩
  clear gb0
  refine hK.out _ _ (fun _ => hH4) ?_
  have hHeld := hH4
  clear hK K
  clear hu4 hb4 hH4
  simp only [Act.put]
  refine wpAnyU_ready (rs := [7]) (by kernel_rfl) (by simp) (AllReadyU.cons rfl (fun K hK => ?_) AllReadyU.nil)
  rw [if_pos (by rfl)]
  refine wp_appV rRw rfl rfl E4.out.row HU4.out (rwsC_one _ (fun x hx => by simp at hx; subst hx; exact ⟨_, _, _, rfl⟩)) (by have := HRL.out; omega) (Nat.zero_le _) ?_
  intro qv5 w5 hrow5 hgr5 hat5
  have hne5 : ∀ k, R.qv.ownBlock = some k → k ≠ r := fun k hk e => by
    obtain ⟨cs, hc⟩ := row_lies E4.out.row hk
    exact hc.apart E4.out.fk.blk (by decide) e
  have hnf5 : ∀ k, (Value.slice a4 L4 c4).ownBlock = some k → R.qv.ownBlock ≠ some k := fun k hk e => by
    obtain ⟨cs, hc⟩ := row_lies E4.out.row e
    obtain ⟨cs', hc'⟩ := row_lies E4.out.fk.row hk
    exact hc.apart hc' (by decide) rfl
  have DK5 : Hid (Blk w5 r 76 (rkC s (Value.slice a4 L4 c4) R.qv)) := hide (E4.out.fk.blk.same (hgr5.block r E4.out.fk.blk.lt (fun e => hne5 r e.symm rfl)))
  have G5 : Hid (Blk w5 g3 62 (rwC 1 n (.slice none 0 0) 0 ByteArray.empty)) := hide (Blk.same E4.out.gb (hgr5.block g3 E4.out.gb.lt (fun e => E4.out.off e.symm)))
  have F5 : Hid (w5.ownsRow 0 90 2 (Value.slice a4 L4 c4) ((A ++ [(n, [])]) ++ B).length (filC (((A ++ [(n, [])]) ++ B)))) := hide (row_same E4.out.fk.row (fun k hk => by
    obtain ⟨cs, hc⟩ := row_lies E4.out.fk.row hk
    exact hgr5.block k hc.lt (fun e => hnf5 k hk e.symm)))
  have CH5 : Hid (Chs (R.own r) w w5) := hide (E4.out.chs.thenGrown hgr5 (fun k hk => .inl (.inr (.inr hk))))
  have LQ5 : Hid (∀ k, qv5.ownBlock = some k → R.own r k ∨ w.heap.size ≤ k) := hide (fun k hk => by
    rcases hat5 with e | e
    · exact .inl (.inr (.inr (by rw [e] at hk; exact hk)))
    · rw [e] at hk
      injection hk with hk
      have := E4.out.chs.size
      right
      omega)
  have ROW5 : Hid (w5.ownsRow 0 62 5 qv5 L5 (rwsC (R.qs ++ [(rCr n, (Value.slice none 0 0))]))) := hide (by rw [rwsC_app, ← HL5.out, List.length_append]; exact hrow5)
  obtain ⟨qa5, qc5, hqe5⟩ := row_slice ROW5.out
  subst hqe5
  have k1 : w5.cell? ⟨r, 2, none⟩ = some R.qv := by rw [DK5.out.cell]; rfl
  have k2 : w5.frozen? ⟨r, 2, none⟩ = false := DK5.out.free 2
  have hH5 : w5.cell? ⟨r, 2, none⟩ = some R.qv ∧ w5.rangeAt g3 0 (rwC 1 n (.slice none 0 0) 0 ByteArray.empty) := ⟨k1, G5.out.range 0 _ (by simp)⟩
  refine hK.out _ _ (fun _ => hH5) ?_
  have hHeld := hH5
  clear hK K
  clear hrow5 hgr5 hat5 hne5 hnf5
  simp only [Act.put]
  refine wpAnyU_ready (rs := [8]) (by kernel_rfl) (by simp) (AllReadyU.cons rfl (fun K hK => ?_) AllReadyU.nil)
  rw [if_pos (by rfl)]
  go_simp
  refine hK.out _ _ (fun _ => hH5) ?_
  have hHeld := hH5
  clear hK K
  clear hH5
  refine takeU 10 9 177 (.pointer (some ⟨r, 2, none⟩)) hHeld rfl rfl (by kernel_rfl) (by kernel_rfl) (by kernel_rfl) (by kernel_rfl) (by kernel_rfl) (by kernel_rfl) (fun _ _ _ h => h) (Or.inl ⟨by rfl, fun w _ => by go_simp⟩) ?_
  simp only [Act.put, List.setIfInBounds_toArray, List.set_cons_zero, List.set_cons_succ]
  refine wpAnyU_ready (rs := [10]) (by kernel_rfl) (by simp) (AllReadyU.cons rfl (fun K hK => ?_) AllReadyU.nil)
  rw [if_pos (by rfl)]
  go_simp
  refine hK.out _ _ (fun h => absurd h (by decide)) ?_
  clear hK K
  refine wpAnyU_done (by kernel_rfl) ?_ _
  refine NoPanic.normal ?_
  have B6 := But.setCell w5 r 2 (.slice qa5 L5 qc5)
  have FK6 : FkAt (w5.setCell ⟨r, 2, none⟩ (.slice qa5 L5 qc5)) r s (Value.slice a4 L4 c4) (.slice qa5 L5 qc5) (((A ++ [(n, [])]) ++ B)) := ⟨DK5.out.set 2 _, row_same F5.out (fun k hk => B6.block k (fun e => by
    obtain ⟨cs, hc⟩ := row_lies F5.out hk
    exact hc.apart DK5.out (by decide) e))⟩
  have hres : RoR w (w5.setCell ⟨r, 2, none⟩ (.slice qa5 L5 qc5)) r s R (rs ++ [rCr n]) (Value.slice none 0 0) := DsR.done HH.out HLR.out HV.out (by exact HFL.out) HLN.out FK6 (by rw [HL5.out]; exact row_same ROW5.out (fun k hk => B6.block k (fun e => by
    obtain ⟨cs, hc⟩ := row_lies ROW5.out hk
    exact hc.apart DK5.out (by decide) e))) (CH5.out.thenBut B6 (.inl (.inl rfl))) D6.out.lie LQ5.out rfl
  revert hres
  generalize w5.setCell ⟨r, 2, none⟩ (.slice qa5 L5 qc5) = w6
  intro hres
  have HRES := hide hres
  clear hres
  go_wp2
  go_end0
  exact ⟨rfl, HRES.out⟩
end

end Go.Proofs.Ytnkjdoghfdnlaaa
