/-
  Texts one behind the other: Tqe TptLaw.
-/
import Derived.Test.YtnlpgkfmjlljdaaDoorPkA
import Derived.Deep.Cut
import Derived.Deep.Upon

/-
  A text read as a tile's path: the document's Parse.
-/
namespace Go.Proofs.YtnlpgkfmjlljdaaDoor
open Go.RowKit
set_option linter.unusedVariables false
set_option linter.unusedSimpArgs false

/-- How the document's Parse may end. -/
def PsR (s : List UInt8) (r : Ending) : Prop := (∃ h l i n : Nat, rqR s = some (h, l, i, n) ∧ tOK (h : Int) (l : Int) (i : Int) (n : Int) ∧ pathI (h : Int) (l : Int) (i : Int) (n : Int) = s ∧ r = .returned (.tuple #[.agg (c4 (h : Int) (l : Int) (i : Int) (n : Int)).toArray, .int .i64 0])) ∨
  (r = .returned (.tuple #[.agg (c4 0 0 0 0).toArray, .int .i64 100]) ∧ (rqR s = none ∨ ∃ h l i n : Nat, rqR s = some (h, l, i, n) ∧ ¬ (tOK (h : Int) (l : Int) (i : Int) (n : Int) ∧ pathI (h : Int) (l : Int) (i : Int) (n : Int) = s)))
theorem step_addW {dst : Option Tmp} {ty : TypeId} {pos : String} {aft : Array Edge} {gd : Option (Nat × Bool)} {ops : Array Oper} {rest : List Oper} {a : Act} {w : World} {Q : Exit → Act → World → Prop} {x y : Operand} {p q r : List UInt8} (hw : Region.wanted ⟨dst, .binOp .add 9 x y 9, ty, pos, aft, gd⟩ (yielded ops a.tmps) = true) (hx : a.eval x = .string (bA p)) (hy : a.eval y = .string (bA q)) (hs : p ++ q = r ∧ p.length + q.length ≤ 9000000)
    (h : wpList Tryd.prog ops Q rest (a.put dst (.string (bA r))) w) : wpList Tryd.prog ops Q (⟨dst, .binOp .add 9 x y 9, ty, pos, aft, gd⟩ :: rest) a w := by
  obtain ⟨rfl, hs⟩ := hs
  have hr := run_addS (dst := dst) (ty := ty) (pos := pos) (aft := aft) (gd := gd) (w := w) hx hy (by rw [bA_size, bA_size]; omega)
  rw [bA_app] at hr
  exact step_run hw _ w hr h
theorem tl_tile : (bA tileW).toList = [116, 105, 108, 101] := by decide +kernel
theorem tl_mark : (bA [46, 112]).toList = [46, 112] := by decide +kernel
theorem st_from (g o n cap k : Nat) (K : Int) (hK : K = (k : Int)) (hk : k ≤ n) (hn : n ≤ cap) (hlt : k < cap) (v : World) : (Instr.slice 51 (.slice (some ⟨g, o, none⟩) n cap) (some (.int .i64 K)) none none).run Tryd.prog v = .ok (.slice (some ⟨g, o + k, none⟩) (n - k) (cap - k)) v := by
  subst hK
  rw [run_slice_l v _ _ _ _ undSs .i64 k (by omega) (by omega), elemSt, sizeSt]
  have : ¬ cap = k := by omega
  simp [sliced, this, Addr.add_lit]

theorem st_atO (b o n cap i : Nat) (I : Int) (hI : I = (i : Int)) (hi : i < n) (v : World) : (Instr.indexAt 51 (.slice (some ⟨b, o, none⟩) n cap) (.int .i64 I)).run Tryd.prog v = .ok (.pointer (some ⟨b, o + i, none⟩)) v := by
  subst hI
  rw [run_indexAt_slice v _ _ _ _ .i64 i undSs, if_pos ⟨by omega, by omega⟩, elemSt, sizeSt]
  simp only [Result.andThen_ok, Int.toNat_natCast]
  rw [Addr.add_lit, Nat.mul_one]
/-- Texts that lie somewhere. -/
def SL (w : World) (g o : Nat) (L : List (List UInt8)) : Prop := ∀ i l, L[i]? = some l → w.cell? ⟨g, o + i, none⟩ = some (.string (bA l))
theorem SL.below {w w' : World} {g o : Nat} {L : List (List UInt8)} (h : SL w g o L) (hb : Below w.heap.size w w') : SL w' g o L := fun i l hl => cell_kept (h i l hl) hb
theorem SL.but {w w' : World} {g o k : Nat} {L : List (List UInt8)} (h : SL w g o L) (hb : But k w w') (hk : g ≠ k) : SL w' g o L := fun i l hl => by
  rw [World.cell?_of_block (w := w) (hb.block g hk)]
  exact h i l hl
theorem rqX_le (x : List UInt8) : (rqX x).length ≤ x.length := by
  match x with
  | [] => exact Nat.le_refl _
  | a :: t =>
    show (if a = 120 then t else a :: t).length ≤ _
    split
    · simp
    · exact Nat.le_refl _
theorem first_of {q : List UInt8} {a : UInt8} {t : List UInt8} (h : q = a :: t) (hz : 0 < (bA q).size) : ((bA q)[0]'hz) = a := by subst h; rfl
theorem flat_snoc {L : List (List UInt8)} {j : Nat} {x : List UInt8} (h : L[j]? = some x) : (L.take (j + 1)).flatMap rqX = (L.take j).flatMap rqX ++ rqX x := by
  have hj : j < L.length := (List.getElem?_eq_some_iff.1 h).1
  rw [List.take_add_one, h, List.flatMap_append]
  simp
theorem take_snoc_all {L : List (List UInt8)} {j : Nat} {x : List UInt8} (h : L[j]? = some x) (ha : ∀ y ∈ L.take j, (rqX y).length ≤ 3) (hx : (rqX x).length ≤ 3) : ∀ y ∈ L.take (j + 1), (rqX y).length ≤ 3 := by
  intro y hy
  rw [List.take_add_one, h, List.mem_append] at hy
  rcases hy with hy | hy
  · exact ha y hy
  · rw [show y = x by simpa using hy]; exact hx
/-- What stands at the loop over the groups. -/
def LD (L : List (List UInt8)) (j : Nat) (D : List UInt8) : Prop := D = (L.take j).flatMap rqX ∧ ∀ y ∈ L.take j, (rqX y).length ≤ 3
theorem build0St (w : World) : (Instr.buildSlice 51 0 #[]).run Tryd.prog w = .ok (.slice (some ⟨w.heap.size, 0, none⟩) 0 0) (w.alloc (.cells #[] 9)) := by kernel_rfl
theorem st_to (g o n cap k : Nat) (hk : k ≤ n) (hn : n ≤ cap) (h0 : 0 < cap) (v : World) : (Instr.slice 51 (.slice (some ⟨g, o, none⟩) n cap) none (some (.int .i64 (k : Int))) none).run Tryd.prog v = .ok (.slice (some ⟨g, o, none⟩) k cap) v := by
  rw [run_slice_h v _ _ _ _ undSs .i64 k (by omega) (by omega), elemSt, sizeSt]
  have : ¬ cap = 0 := by omega
  simp [sliced, this, Addr.add_lit]
theorem joinQ {T : Program} {c : Code} {a : Act} {w : World} {Q : Exit → Act → World → Prop} {K : Act → World → Prop} (P : Value → World → Prop) (act : Nat → Value → Nat → Value → Act) (h1 : ∀ g v g' v' W, P v' W → K (act g v g' v') W) (h2 : (∀ g v g' v' W, P v' W → K (act g v g' v') W) → Code.wp T c (Exit.then K Q) a w) : Code.wp T c (Exit.then K Q) a w := h2 h1
section
variable {dst : Option Tmp} {ty : TypeId} {pos : String} {aft : Array Edge} {gd : Option (Nat × Bool)} {a : Act} {w : World} {K : Act → World → Prop} {Q : Exit → Act → World → Prop}
set_option maxRecDepth 100000 in
theorem wp_0st (h : ∀ w1 g, TO w1 w.heap.size (.slice (some ⟨g, 0, none⟩) 0 0) [] → w.heap.size ≤ g → g < w1.heap.size → Below w.heap.size w w1 → K (a.put dst (.slice (some ⟨g, 0, none⟩) 0 0)) w1) :
    Oper.wp Tryd.prog ⟨dst, .buildSlice 51 0 #[], ty, pos, aft, gd⟩ a w K Q := by
  refine wp_runV (.slice (some ⟨w.heap.size, 0, none⟩) 0 0) (w.alloc (.cells #[] 9)) ?_ (h _ _ ⟨by simp [sts], .inr ⟨w.heap.size, 0, #[], rfl, Nat.le_refl _, heap_alloc_new w _, Nat.le_refl _, by unfold maxLen; omega, by simp, by simp [sts]⟩⟩ (Nat.le_refl _) (by simp) ((Below.refl _ _).alloc (Nat.le_refl _) _))
  unfold execOp
  simp only [List.map_toArray, List.map_nil]
  simp only [Sem.run_bind, build0St, Result.andThen_ok, Sem.run_pure]
theorem wp_app0 {s x : Operand} {B g0 : Nat} {ms : List (List UInt8)} {g o n c : Nat} (hs : a.eval s = .slice (some ⟨g0, 0, none⟩) 0 0) (hx : a.eval x = .slice (some ⟨g, o, none⟩) n c) (hown : TO w B (.slice (some ⟨g0, 0, none⟩) 0 0) []) (hn : ms.length = n) (hy : SL w g o ms) (hlen : ms.length ≤ 2097160) (hB : B ≤ w.heap.size)
    (h : ∀ v' w', TO w' B v' ms → w.grownBy w' (some g0) → K (a.put dst v') w') :
    Oper.wp Tryd.prog ⟨dst, .call { callee := .builtin .append, args := #[s, x], argTypes := #[51, 51] }, ty, pos, aft, gd⟩ a w K Q := by
  by_cases hm : ms = []
  · subst hm
    subst hn
    obtain ⟨i0, hi, hz0, hz1, hz2⟩ := info_parts infoSt
    have hr : (Builtin.append_ #[51, 51] ty #[.slice (some ⟨g0, 0, none⟩) 0 0, .slice (some ⟨g, o, none⟩) 0 c]).run Tryd.prog w = .ok (.slice (some ⟨g0, 0, none⟩) 0 0) w :=
      run_append_nothing w _ _ ty _ i0 undSt hi _ 0 0 (Nat.le_refl _) _ (Src.ofSlice w undSt ⟨g, o, none⟩ 0 c [] (by simp) (fun j u hu => by simp at hu) (fun u hu => by simp at hu))
    unfold Oper.wp
    simp only [List.length_nil] at hx
    simp [execOp, resolve, invoke, builtin, hs, hx, hr, Result.andThen]
    exact h _ _ hown (World.grownBy.refl _ _)
  · exact wp_appSt (ls := []) hs hx hown hn hy hm (by simp; omega) hB fun v' w' h1 h2 => h v' w' (by simpa using h1) h2
end
theorem TO.lower {w : World} {B B' : Nat} {v : Value} {ls : List (List UInt8)} (h : TO w B v ls) (hB : B' ≤ B) : TO w B' v ls := by
  obtain ⟨h1, h2⟩ := h
  refine ⟨h1, ?_⟩
  rcases h2 with h2 | ⟨g, cap, cur, e, hg, r⟩
  · exact .inl h2
  · exact .inr ⟨g, cap, cur, e, Nat.le_trans hB hg, r⟩
theorem keep_row {w w' : World} {g : Nat} {t : TypeId} {cs : List Value} {row : Option Nat} (h : Blk w g t cs) (hg : w.grownBy w' row) (hne : some g ≠ row) : Blk w' g t cs := by
  unfold Blk
  rw [hg.block g h.lt hne]
  exact h
set_option maxRecDepth 100000 in
set_option maxHeartbeats 16000000 in
theorem parseR_walk (s : List UInt8) (w : World) (hs : s.length ≤ 1048576) : Calls Tryd.prog 8 #[.string (bA s)] w fun r w' => PsR s r ∧ Below w.heap.size w w' := by
  have HPc := hide (fun v => pieces_any s v hs)
  obtain ⟨P, hP⟩ : ∃ P, splitS s = P := ⟨_, rfl⟩
  have hPn : P ≠ [] := by rw [← hP]; exact splitS_ne s
  have hPl : P.length ≤ 1048577 := by rw [← hP]; have := splitS_len s; omega
  have HPe : Hid (∀ x ∈ P, x.length ≤ 1048576) := hide (fun x hx => by rw [← hP] at hx; exact Nat.le_trans (splitS_each s x hx) hs)
  rw [hP] at HPc
  go_enter Tryd.func8, Tryd.ntmps8
  go_wp2_with (refine step_alloc zT rfl ?_)
  intro w0 g2 hg hle hb
  have G0 := hide hg
  have B0 := hide hb
  have LE := hide hle
  clear hg hb hle
  go_wp2_with fail
  refine (HPc.out _).mono ?_
  rintro r w1 ⟨v, rfl, hto, hb1⟩
  obtain ⟨gp, cp, rfl, hgB, hgl, hcap, hcm, hcell⟩ := hto.lies hPn
  have G1 := hide (G0.out.on hb1)
  have B1 := hide (on_below B0.out hb1)
  have C1 := hide hcell
  clear hto hb1 hcell HPc G0 B0
  by_cases h4 : P.length < 4
  · have h4' : (P.length : Int) < 4 := by omega
    have HNo : Hid (rqR s = none) := hide (by
      unfold rqR
      rw [hP]
      match P, h4 with
      | [], _ => rfl
      | [a], _ => rfl
      | [a, b], _ => rfl
      | [a, b, c], _ => rfl)
    go_upto_region 3 with fail
    go_wp2_with (refine step_storeA wT rfl rfl (vs := c4 0 0 0 0) rfl G1.out rfl (One.c4 0 0 0 0) rfl ?_)
    intro wz hgz hbutz
    have BE := hide (B1.out.trans (hbutz.below LE.out))
    go_wp2
    refine bodyPost_ret (results_wide2 rfl wT _ _ rfl hgz rfl) rfl ⟨.inr ⟨rfl, .inl HNo.out⟩, BE.out⟩
  · obtain ⟨p0, p1, p2, p3, rest, rfl⟩ : ∃ a b c d l, P = a :: b :: c :: d :: l := by
      match P, h4 with
      | [], h => exact absurd (by simp) h
      | [a], h => exact absurd (by simp) h
      | [a, b], h => exact absurd (by simp) h
      | [a, b, c], h => exact absurd (by simp) h
      | a :: b :: c :: d :: l, _ => exact ⟨a, b, c, d, l, rfl⟩
    have HR0 : Hid (rqR s = if p0 = tileW then (nmO (stz p1)).bind fun h => (nmO (stz p2)).bind fun l => if 1 ≤ h ∧ h ≤ 8 then rqT h l (p3 :: rest) else none else none) := hide (by unfold rqR; rw [hP])
    obtain ⟨NP, HNP⟩ : ∃ n, Hid ((p0 :: p1 :: p2 :: p3 :: rest).length = n) := ⟨_, hide rfl⟩
    rw [HNP.out] at h4 hPl hcap ⊢
    have h4' : ¬ (NP : Int) < 4 := by omega
    have c0 := C1.out 0 p0 rfl
    have x0 := st_at gp NP cp 0 0 rfl (by omega)
    by_cases hp0 : p0 = tileW
    · have HR1 : Hid (rqR s = (nmO (stz p1)).bind fun h => (nmO (stz p2)).bind fun l => if 1 ≤ h ∧ h ≤ 8 then rqT h l (p3 :: rest) else none) := hide (by rw [HR0.out, if_pos hp0])
      have e0 : ((bA p0).toList == [116, 105, 108, 101]) = true := by have := beq_bA p0 tileW; rw [decide_eq_true hp0, tl_tile] at this; exact this
      clear hp0 HR0
      go_upto_region 4 with fail
      clear c0 x0 h4' e0
      go_wp2_with (refine step_alloc zT rfl ?_)
      intro w2 g5 hg5 hle5 hb5
      have G2 := hide (G1.out.on hb5)
      have B2 := hide (on_below B1.out hb5)
      have T2 := hide hg5
      have C2 : Hid (∀ (i : Nat) (l : List UInt8), (p0 :: p1 :: p2 :: p3 :: rest)[i]? = some l → w2.cell? ⟨gp, i, none⟩ = some (.string (bA l))) := hide (fun i l hl => cell_kept (C1.out i l hl) hb5)
      have L5 := hide (Nat.le_trans B1.out.size hle5)
      have hne25 : g2 ≠ g5 := by have := G1.out.lt; omega
      have hgp5 : gp ≠ g5 := by omega
      clear hg5 hle5 hb5 G1 B1 C1
      have c1 := C2.out 1 p1 rfl
      have x1 := st_at gp NP cp 1 1 rfl (by omega)
      have HL1 := hide (plain_any p1 w2 (Nat.le_trans (HPe.out p1 (by simp)) (by decide)))
      go_wp2_with fail
      refine HL1.out.mono ?_
      rintro r w3 ⟨hb3, hr3⟩
      have G3 := hide (G2.out.on hb3)
      have B3 := hide (on_below B2.out hb3)
      have T3 := hide (T2.out.on hb3)
      have C3 : Hid (∀ (i : Nat) (l : List UInt8), (p0 :: p1 :: p2 :: p3 :: rest)[i]? = some l → w3.cell? ⟨gp, i, none⟩ = some (.string (bA l))) := hide (fun i l hl => cell_kept (C2.out i l hl) hb3)
      clear hb3 G2 B2 T2 C2 HL1 c1 x1
      have c2 := C3.out 2 p2 rfl
      have x2 := st_at gp NP cp 2 2 rfl (by omega)
      have HL2 := hide (plain_any p2 w3 (Nat.le_trans (HPe.out p2 (by simp)) (by decide)))
      rcases hr3 with ⟨h, hh, rfl⟩ | ⟨hno, x, rfl⟩
      · have HH1 := hide hh
        clear hh
        go_wp2_with fail
        refine HL2.out.mono ?_
        rintro r w4 ⟨hb4, hr4⟩
        have G4 := hide (G3.out.on hb4)
        have B4 := hide (on_below B3.out hb4)
        have T4 := hide (T3.out.on hb4)
        have C4 : Hid (∀ (i : Nat) (l : List UInt8), (p0 :: p1 :: p2 :: p3 :: rest)[i]? = some l → w4.cell? ⟨gp, i, none⟩ = some (.string (bA l))) := hide (fun i l hl => cell_kept (C3.out i l hl) hb4)
        clear hb4 G3 B3 T3 C3 HL2 c2 x2
        rcases hr4 with ⟨l, hl, rfl⟩ | ⟨hno, x, rfl⟩
        · have HL1 := hide hl
          clear hl
          by_cases hH : 1 ≤ h ∧ h ≤ 8
          · have HRT : Hid (rqR s = rqT h l (p3 :: rest)) := hide (by rw [HR1.out, HH1.out, Option.bind_some, HL1.out, Option.bind_some, if_pos hH])
            have HHc := hide (fun v => heightR_yes h v ⟨hH.1, hH.2⟩)
            obtain ⟨Pw, hPw⟩ : ∃ P, 2 ^ h = P := ⟨_, rfl⟩
            have HFu := hide (fun v => full_any h Pw v ⟨hH.1, hH.2⟩ hPw)
            have HPw := hide hPw
            clear HR1 hPw
            go_upto_region 9 with (go_at_call 24; refine (HHc.out _).mono ?_; rintro r w' ⟨rfl, hv⟩; replace hv := hv.symm; subst hv)
            clear HHc
            have f0 := T4.out.free 0
            obtain ⟨t0, t1, t2, t3⟩ := T4.out.four
            have S4 : Hid (SL w4 gp 3 (p3 :: rest)) := hide (fun i l hl => by
              rw [Nat.add_comm]
              exact C4.out (i + 3) l hl)
            clear C4
            go_upto_region 10 with fail
            obtain ⟨w5, hv⟩ : ∃ v : World, v = w4.setCell ⟨g5, 0, none⟩ (.int .i64 (h : Int)) := ⟨_, rfl⟩
            have T5 : Hid (Blk w5 g5 23 (c4 (h : Int) 0 0 0)) := hide (by rw [hv]; exact T4.out.set 0 _)
            have hbut : But g5 w4 w5 := by rw [hv]; exact But.setCell _ _ _ _
            have G5 := hide (G4.out.but hbut hne25)
            have B5 := hide (B4.out.trans (hbut.below L5.out))
            have S5 := hide (S4.out.but hbut hgp5)
            rw [← hv]
            clear hv hbut T4 G4 B4 S4 t0 t1 t2 t3 f0
            obtain ⟨t0, t1, t2, t3⟩ := T5.out.four
            have f0 := T5.out.free 1
            go_upto_region 11 with fail
            obtain ⟨w6, hv⟩ : ∃ v : World, v = w5.setCell ⟨g5, 1, none⟩ (.int .i64 (l : Int)) := ⟨_, rfl⟩
            have T6 : Hid (Blk w6 g5 23 (c4 (h : Int) (l : Int) 0 0)) := hide (by rw [hv]; exact T5.out.set 1 _)
            have hbut : But g5 w5 w6 := by rw [hv]; exact But.setCell _ _ _ _
            have G6 := hide (G5.out.but hbut hne25)
            have B6 := hide (B5.out.trans (hbut.below L5.out))
            have S6 := hide (S5.out.but hbut hgp5)
            rw [← hv]
            clear hv hbut T5 G5 B5 S5 t0 t1 t2 t3 f0
            obtain ⟨t0, t1, t2, t3⟩ := T6.out.four
            have f0 := T6.out.free 3
            go_upto_region 12 with (go_at_call 20; refine (HFu.out _).mono ?_; rintro r w' ⟨rfl, hv⟩; replace hv := hv.symm; subst hv)
            obtain ⟨w7, hv⟩ : ∃ v : World, v = w6.setCell ⟨g5, 3, none⟩ (.int .i64 (Pw : Int)) := ⟨_, rfl⟩
            have T7 : Hid (Blk w7 g5 23 (c4 (h : Int) (l : Int) 0 (Pw : Int))) := hide (by rw [hv]; exact T6.out.set 3 _)
            have hbut : But g5 w6 w7 := by rw [hv]; exact But.setCell _ _ _ _
            have G7 := hide (G6.out.but hbut hne25)
            have B7 := hide (B6.out.trans (hbut.below L5.out))
            have S7 := hide (S6.out.but hbut hgp5)
            rw [← hv]
            clear hv hbut T6 G6 B6 S6 t0 t1 t2 t3 f0
            obtain ⟨t0, t1, t2, t3⟩ := T7.out.four
            have x12 := st_from gp 0 NP cp 3 3 rfl (by omega) hcap (by omega)
            rw [Nat.zero_add] at x12
            obtain ⟨NR, hNR⟩ : ∃ n, NP - 3 = n := ⟨_, rfl⟩
            obtain ⟨cr, hcr⟩ : ∃ n, cp - 3 = n := ⟨_, rfl⟩
            rw [hNR, hcr] at x12
            have HLR : Hid ((p3 :: rest).length = NR) := hide (by have := HNP.out; simp only [List.length_cons] at this ⊢; omega)
            have HRe : Hid (∀ x ∈ p3 :: rest, x.length ≤ 1048576) := hide (fun x hx => HPe.out x (by simp at hx ⊢; rcases hx with rfl | hx <;> simp [*]))
            have hNRb : 1 ≤ NR ∧ NR ≤ 1048574 := by omega
            have hNRc : NR ≤ cr := by omega
            clear HPe HNP hP hPn hNR hcr h4 HFu HH1 HL1 t0 t1 t2 t3 hcm
            generalize p3 :: rest = R at *
            go_upto_region 14 with fail
            have B7r := B7.out
            by_cases hn2 : NR < 2
            · have d2 : decide (2 ≤ (NR : Int)) = false := by simp; omega
              have d2b : decide (2 ≤ NR) = false := by simp; omega
              have d2c : decide ((NR : Int) ≥ 2) = false := by simp; omega
              go_quiet (fail)
              have HE : Hid (rqR s = rqE h l Pw R) := hide (by
                rw [HRT.out, ← HPw.out]
                unfold rqT rqP
                rw [HLR.out, decide_eq_false (by omega)]
                simp)
              obtain ⟨V, hV⟩ : ∃ V : World, V = w7.drewN nq := ⟨_, rfl⟩
              have hbV : Below w7.heap.size w7 V := by rw [hV]; exact below_drews (Below.refl _ _) nq
              have G8 := hide (G7.out.on hbV)
              have T8 := hide (T7.out.on hbV)
              have B8 := hide (on_below B7.out hbV)
              have S8 := hide (S7.out.below hbV)
              rw [← hV]
              clear hV hbV G7 T7 B7 S7 B7r
              have HLN := HLR
              have HLE := HRe
              go_wp2_with fail
              go_loopw [14, 15] (fun d i wr => ∃ (j : Nat) (D : List UInt8), d = .string (bA D) ∧ i = .int .i64 (j : Int) ∧ j ≤ NR ∧ D.length ≤ 3 * j ∧ Hid (LD R j D) ∧ wr = V) (fun _ i _ => NR - (intOf i).toNat)
              case atStart => exact ⟨0, [], rfl, rfl, Nat.zero_le _, by simp, hide ⟨rfl, by simp⟩, rfl⟩
              case round =>
                obtain ⟨j, D, rfl, rfl, hj, hDl, HD, rfl⟩ := hrel
                by_cases hlt : j < NR
                · have hlt' : (j : Int) < (NR : Int) := by omega
                  obtain ⟨x, hx⟩ : ∃ x, R[j]? = some x := ⟨R[j]'(by rw [HLN.out]; exact hlt), List.getElem?_eq_getElem (by rw [HLN.out]; exact hlt)⟩
                  have HX := hide hx
                  have cx := S8.out j x hx
                  have xa := st_atO gp 3 NR cr j (j : Int) rfl hlt
                  have hxl := HLE.out x (List.mem_of_getElem? hx)
                  have hszx := bA_size x
                  try rw [Nat.zero_add] at cx
                  try rw [Nat.zero_add] at xa
                  clear hx
                  cases hxe : x with
                  | nil =>
                    subst hxe
                    have W1 : Hid (D ++ [] = D ∧ D.length + ([] : List UInt8).length ≤ 9000000) := hide ⟨by simp, by simp; omega⟩
                    have HN2 : Hid (LD R (j + 1) D) := hide ⟨by rw [flat_snoc HX.out, ← HD.out.1]; simp [rqX], take_snoc_all HX.out HD.out.2 (by simp [rqX])⟩
                    have hsz0 : (bA []).size = 0 := rfl
                    go_wp2_with (refine step_addW (p := D) (q := []) (r := D) rfl rfl rfl W1.out ?_)
                    exact ⟨⟨j + 1, D, rfl, by simp, hlt, by omega, HN2, trivial⟩, by simp only [intOf]; omega⟩
                  | cons a t =>
                    have hz : 0 < (bA x).size := by rw [hszx, hxe]; simp
                    have hz' : (0 : Int) < ((bA x).size : Int) := by omega
                    have hfa := first_of hxe hz
                    have hpos : 0 < x.length := by rw [hxe]; simp
                    by_cases ha : a = 120
                    · have e120 : (((((bA x)[0]'hz).toNat : Nat) : Int) == 120) = true := by rw [hfa, ha]; rfl
                      have x1 := slice_str x 1 1 rfl (by omega)
                      have hdr : x.drop 1 = t := by rw [hxe]; rfl
                      rw [hdr] at x1
                      have HYE : Hid (rqX x = t) := hide (by rw [hxe, ha]; rfl)
                      have hszt := bA_size t
                      have htl : t.length ≤ 1048576 := by have := congrArg List.length hxe; simp at this; omega
                      clear hxe ha hfa hdr
                      by_cases hx3 : 3 < t.length
                      · have HNo : Hid (rqR s = none) := hide (by
                          rw [HE.out]
                          unfold rqE
                          rw [if_neg (fun h => absurd (h _ (List.mem_of_getElem? HX.out)) (by rw [HYE.out]; omega))])
                        have hx3' : (3 : Int) < (t.length : Int) := by omega
                        go_upto_region 28 with fail
                        go_wp2_with (refine step_storeA wT rfl rfl (vs := c4 0 0 0 0) rfl G8.out rfl (One.c4 0 0 0 0) rfl ?_)
                        intro wz hgz hbutz
                        have BE := hide (B8.out.trans (hbutz.below LE.out))
                        go_wp2
                        refine bodyPost_ret (results_wide2 rfl wT _ _ rfl hgz rfl) rfl ⟨.inr ⟨rfl, .inl HNo.out⟩, BE.out⟩
                      · have HN2 : Hid (LD R (j + 1) (D ++ t)) := hide ⟨by rw [flat_snoc HX.out, ← HD.out.1, HYE.out], take_snoc_all HX.out HD.out.2 (by rw [HYE.out]; omega)⟩
                        have hx3' : ¬ (3 : Int) < (t.length : Int) := by omega
                        obtain ⟨DD, hDD⟩ : ∃ z, D ++ t = z := ⟨_, rfl⟩
                        have W1 : Hid (D ++ t = DD ∧ D.length + t.length ≤ 9000000) := hide ⟨hDD, by omega⟩
                        rw [hDD] at HN2
                        have hdl : DD.length ≤ 3 * (j + 1) := by rw [← hDD, List.length_append]; omega
                        clear hDD
                        go_wp2_with (refine step_addW (p := D) (q := t) (r := DD) rfl rfl rfl W1.out ?_)
                        exact ⟨⟨j + 1, DD, rfl, by simp, hlt, hdl, HN2, trivial⟩, by simp only [intOf]; omega⟩
                    · have e120 : (((((bA x)[0]'hz).toNat : Nat) : Int) == 120) = false := by
                        rw [hfa]
                        simp only [beq_eq_false_iff_ne, ne_eq]
                        intro e
                        refine ha (UInt8.toNat_inj.1 ?_)
                        have : a.toNat = 120 := by omega
                        rw [this]; rfl
                      have HYE : Hid (rqX x = x) := hide (by
                        rw [hxe]
                        show (if a = 120 then t else a :: t) = _
                        rw [if_neg ha])
                      clear hxe ha hfa
                      by_cases hx3 : 3 < x.length
                      · have HNo : Hid (rqR s = none) := hide (by
                          rw [HE.out]
                          unfold rqE
                          rw [if_neg (fun h => absurd (h _ (List.mem_of_getElem? HX.out)) (by rw [HYE.out]; omega))])
                        have hx3' : (3 : Int) < (x.length : Int) := by omega
                        go_upto_region 28 with fail
                        go_wp2_with (refine step_storeA wT rfl rfl (vs := c4 0 0 0 0) rfl G8.out rfl (One.c4 0 0 0 0) rfl ?_)
                        intro wz hgz hbutz
                        have BE := hide (B8.out.trans (hbutz.below LE.out))
                        go_wp2
                        refine bodyPost_ret (results_wide2 rfl wT _ _ rfl hgz rfl) rfl ⟨.inr ⟨rfl, .inl HNo.out⟩, BE.out⟩
                      · have HN2 : Hid (LD R (j + 1) (D ++ x)) := hide ⟨by rw [flat_snoc HX.out, ← HD.out.1, HYE.out], take_snoc_all HX.out HD.out.2 (by rw [HYE.out]; omega)⟩
                        have hx3' : ¬ (3 : Int) < (x.length : Int) := by omega
                        obtain ⟨DD, hDD⟩ : ∃ z, D ++ x = z := ⟨_, rfl⟩
                        have W1 : Hid (D ++ x = DD ∧ D.length + x.length ≤ 9000000) := hide ⟨hDD, by omega⟩
                        rw [hDD] at HN2
                        have hdl : DD.length ≤ 3 * (j + 1) := by rw [← hDD, List.length_append]; omega
                        clear hDD
                        go_wp2_with (refine step_addW (p := D) (q := x) (r := DD) rfl rfl rfl W1.out ?_)
                        exact ⟨⟨j + 1, DD, rfl, by simp, hlt, hdl, HN2, trivial⟩, by simp only [intOf]; omega⟩
                · have hge : ¬ (j : Int) < (NR : Int) := by omega
                  have HDA : Hid (D = R.flatMap rqX ∧ ∀ y ∈ R, (rqX y).length ≤ 3) := hide (by
                    have hd := HD.out
                    unfold LD at hd
                    rw [List.take_of_length_le (by rw [HLN.out]; omega)] at hd
                    exact hd)
                  have HL3 := hide (plain_any D wr (by omega))
                  clear HD
                  go_wp2_with fail
                  refine HL3.out.mono ?_
                  rintro r w9 ⟨hb9, hr9⟩
                  have G9 := hide (G8.out.on hb9)
                  have T9 := hide (T8.out.on hb9)
                  have B9 := hide (on_below B8.out hb9)
                  clear hb9 HL3 G8 T8 B8 S8 HLN HLE
                  rcases hr9 with ⟨ix, hix, rfl⟩ | ⟨hno, y, rfl⟩
                  · have HSm : Hid (rqR s = some (h, l, ix, Pw)) := hide (by
                      rw [HE.out]
                      unfold rqE
                      rw [if_pos HDA.out.2, ← HDA.out.1, hix]
                      rfl)
                    clear hix HDA HE
                    have f2 := T9.out.free 2
                    obtain ⟨t0, t1, t2, t3⟩ := T9.out.four
                    go_upto_region 34 with fail
                    obtain ⟨wA, hv⟩ : ∃ v : World, v = w9.setCell ⟨g5, 2, none⟩ (.int .i64 (ix : Int)) := ⟨_, rfl⟩
                    have TA : Hid (Blk wA g5 23 (c4 (h : Int) (l : Int) (ix : Int) (Pw : Int))) := hide (by rw [hv]; exact T9.out.set 2 _)
                    have hbut : But g5 w9 wA := by rw [hv]; exact But.setCell _ _ _ _
                    have GA := hide (G9.out.but hbut hne25)
                    have BA' := hide (B9.out.trans (hbut.below L5.out))
                    rw [← hv]
                    clear hv hbut T9 G9 B9 t0 t1 t2 t3 f2
                    obtain ⟨pz, ez, hz, hzc⟩ := pathR_any (h : Int) (l : Int) (ix : Int) (Pw : Int)
                    have HPz := hide hzc
                    clear hzc
                    go_wp2_with (refine step_loadA wT rfl rfl TA.out rfl ?_)
                    refine (HPz.out _).mono ?_
                    rintro r wB ⟨rfl, hbB⟩
                    have GB := hide (GA.out.on hbB)
                    have TB := hide (TA.out.on hbB)
                    have BB := hide (on_below BA'.out hbB)
                    clear hbB GA TA BA' HPz
                    rcases hz with ⟨rfl, kz, rfl⟩ | ⟨rfl, kz, rfl⟩
                    · obtain ⟨pz, hpz⟩ : ∃ z, pathI (h : Int) (l : Int) (ix : Int) (Pw : Int) = z := ⟨_, rfl⟩
                      rw [hpz]
                      by_cases hps : pz = s
                      · have HOK : Hid (tOK (h : Int) (l : Int) (ix : Int) (Pw : Int) ∧ pathI (h : Int) (l : Int) (ix : Int) (Pw : Int) = s) := hide ⟨kz, hpz.trans hps⟩
                        have e0 : ((bA pz).toList == (bA s).toList) = true := by rw [beq_bA, decide_eq_true hps]
                        clear hps hpz kz
                        go_wp2_with (first | (refine step_loadA wT rfl rfl TB.out rfl ?_) | (refine step_storeA wT rfl rfl rfl GB.out rfl (One.c4 (h : Int) (l : Int) (ix : Int) (Pw : Int)) rfl ?_))
                        intro wz hgz hbutz
                        have BE := hide (BB.out.trans (hbutz.below LE.out))
                        go_wp2
                        refine bodyPost_ret (results_wide2 rfl wT _ _ rfl hgz rfl) rfl ⟨.inl ⟨h, l, ix, Pw, HSm.out, HOK.out.1, HOK.out.2, rfl⟩, BE.out⟩
                      · have HNt : Hid (¬ (tOK (h : Int) (l : Int) (ix : Int) (Pw : Int) ∧ pathI (h : Int) (l : Int) (ix : Int) (Pw : Int) = s)) := hide (fun k => hps (hpz.symm.trans k.2))
                        have e0 : ((bA pz).toList == (bA s).toList) = false := by rw [beq_bA, decide_eq_false hps]
                        clear hps hpz kz
                        go_upto_region 36 with fail
                        go_wp2_with (refine step_storeA wT rfl rfl (vs := c4 0 0 0 0) rfl GB.out rfl (One.c4 0 0 0 0) rfl ?_)
                        intro wz hgz hbutz
                        have BE := hide (BB.out.trans (hbutz.below LE.out))
                        go_wp2
                        refine bodyPost_ret (results_wide2 rfl wT _ _ rfl hgz rfl) rfl ⟨.inr ⟨rfl, .inr ⟨h, l, ix, _, HSm.out, HNt.out⟩⟩, BE.out⟩
                    · have HNt : Hid (¬ (tOK (h : Int) (l : Int) (ix : Int) (Pw : Int) ∧ pathI (h : Int) (l : Int) (ix : Int) (Pw : Int) = s)) := hide (fun k => kz k.1)
                      clear kz
                      go_upto_region 36 with fail
                      go_wp2_with (refine step_storeA wT rfl rfl (vs := c4 0 0 0 0) rfl GB.out rfl (One.c4 0 0 0 0) rfl ?_)
                      intro wz hgz hbutz
                      have BE := hide (BB.out.trans (hbutz.below LE.out))
                      go_wp2
                      refine bodyPost_ret (results_wide2 rfl wT _ _ rfl hgz rfl) rfl ⟨.inr ⟨rfl, .inr ⟨h, l, ix, _, HSm.out, HNt.out⟩⟩, BE.out⟩
                  · have HNo : Hid (rqR s = none) := hide (by
                      rw [HE.out]
                      unfold rqE
                      rw [if_pos HDA.out.2, ← HDA.out.1, hno]
                      rfl)
                    clear hno HDA HE
                    go_upto_region 32 with fail
                    go_wp2_with (refine step_storeA wT rfl rfl (vs := c4 0 0 0 0) rfl G9.out rfl (One.c4 0 0 0 0) rfl ?_)
                    intro wz hgz hbutz
                    have BE := hide (B9.out.trans (hbutz.below LE.out))
                    go_wp2
                    refine bodyPost_ret (results_wide2 rfl wT _ _ rfl hgz rfl) rfl ⟨.inr ⟨rfl, .inl HNo.out⟩, BE.out⟩
            · obtain ⟨K2, hK2⟩ : ∃ k, NR - 2 = k := ⟨_, rfl⟩
              have kw : IntKind.i64.wrap ((NR : Int) - 2) = (K2 : Int) := by rw [IntKind.wrap_i64]; omega
              have ke : (NR : Int) - 2 = (K2 : Int) := by omega
              have hK2n : K2 < NR := by omega
              have hKn : K2 < R.length := by rw [HLR.out]; exact hK2n
              obtain ⟨x, hx⟩ : ∃ x, R[K2]? = some x := ⟨R[K2], List.getElem?_eq_getElem hKn⟩
              have HGX : Hid (R.getD (R.length - 2) [] = x) := hide (by rw [HLR.out, hK2, List.getD_eq_getElem?_getD, hx]; rfl)
              have cx := S7.out K2 x hx
              have xa := st_atO gp 3 NR cr K2 (K2 : Int) rfl hK2n
              have hxl := HRe.out x (List.mem_of_getElem? hx)
              have hszx := bA_size x
              obtain ⟨LX, hLX⟩ : ∃ n, x.length = n := ⟨_, rfl⟩
              rw [hLX] at hszx hxl
              have HLX := hide hLX
              have d2 : decide (2 ≤ (NR : Int)) = true := by simp; omega
              have d2b : decide (2 ≤ NR) = true := by simp; omega
              have d2c : decide ((NR : Int) ≥ 2) = true := by simp; omega
              clear hx hLX
              by_cases h2x : 2 < LX
              · obtain ⟨M2, hM2⟩ : ∃ m, LX - 2 = m := ⟨_, rfl⟩
                have mw : IntKind.i64.wrap ((LX : Int) - 2) = (M2 : Int) := by rw [IntKind.wrap_i64]; omega
                have me : (LX : Int) - 2 = (M2 : Int) := by omega
                have e2 : decide (2 < (LX : Int)) = true := by simp; omega
                have e2b : decide (2 < LX) = true := by simp; omega
                have e2c : decide ((LX : Int) > 2) = true := by simp; omega
                have xs := slice_str x M2 (M2 : Int) rfl (by rw [HLX.out]; omega)
                obtain ⟨y, hy⟩ : ∃ y, x.drop M2 = y := ⟨_, rfl⟩
                rw [hy] at xs
                have HYM : Hid (x.drop (x.length - 2) = y) := hide (by rw [HLX.out, hM2, hy])
                clear hy
                by_cases hm : y = [46, 112]
                · have em : ((bA y).toList == [46, 112]) = true := by have := beq_bA y [46, 112]; rw [decide_eq_true hm, tl_mark] at this; exact this
                  have HR2 : Hid (rqR s = (nmO (stz (R.getD (R.length - 1) []))).bind fun w => rqE h l w (rqG R)) := hide (by
                    rw [HRT.out]
                    unfold rqT
                    rw [if_pos (show rqP R = true by unfold rqP; rw [HGX.out, HYM.out, HLX.out, HLR.out, decide_eq_true (by omega), decide_eq_true h2x, decide_eq_true hm]; rfl)])
                  have HRG : Hid (rqG R = R.take K2 ++ [x.take M2]) := hide (by unfold rqG; rw [HGX.out, HLX.out, HLR.out, hK2, hM2])
                  clear hm HYM HRT
                  go_quiet (fail)
                  obtain ⟨V, hV⟩ : ∃ V : World, V = w7.drewN nq := ⟨_, rfl⟩
                  have hbV : Below w7.heap.size w7 V := by rw [hV]; exact below_drews (Below.refl _ _) nq
                  have G8 := hide (G7.out.on hbV)
                  have T8 := hide (T7.out.on hbV)
                  have B8 := hide (on_below B7.out hbV)
                  have S8 := hide (S7.out.below hbV)
                  rw [← hV]
                  clear hV hbV G7 T7 B7 S7 B7r
                  clear kw xa cx d2 d2b d2c mw e2 e2b e2c xs em
                  obtain ⟨K1, hK1⟩ : ∃ k, NR - 1 = k := ⟨_, rfl⟩
                  have k1 : (NR : Int) - 1 = (K1 : Int) := by omega
                  have hK1n : K1 < NR := by omega
                  have hK1l : K1 < R.length := by rw [HLR.out]; exact hK1n
                  obtain ⟨z, hz⟩ : ∃ z, R[K1]? = some z := ⟨R[K1], List.getElem?_eq_getElem hK1l⟩
                  have HGZ : Hid (R.getD (R.length - 1) [] = z) := hide (by rw [HLR.out, hK1, List.getD_eq_getElem?_getD, hz]; rfl)
                  have cz := S8.out K1 z hz
                  have xz := st_atO gp 3 NR cr K1 (K1 : Int) rfl hK1n
                  have HLz := hide (plain_any z V (Nat.le_trans (HRe.out z (List.mem_of_getElem? hz)) (by decide)))
                  have hNRi : (NR : Int) ≤ 1048574 := by omega
                  clear hz
                  go_wp2_with fail
                  refine HLz.out.mono ?_
                  rintro r w9 ⟨hb9, hr9⟩
                  have G9 := hide (G8.out.on hb9)
                  have T9 := hide (T8.out.on hb9)
                  have B9 := hide (on_below B8.out hb9)
                  have S9 := hide (S8.out.below hb9)
                  clear hb9 G8 T8 B8 S8 HLz cz xz k1
                  rcases hr9 with ⟨wv, hwv, rfl⟩ | ⟨hno, y, rfl⟩
                  · have HE : Hid (rqR s = rqE h l wv (rqG R)) := hide (by rw [HR2.out, HGZ.out, hwv]; rfl)
                    clear hwv HR2 HGZ
                    have f0 := T9.out.free 3
                    obtain ⟨t0, t1, t2, t3⟩ := T9.out.four
                    go_upto_region 19 with fail
                    obtain ⟨wA, hv⟩ : ∃ v : World, v = w9.setCell ⟨g5, 3, none⟩ (.int .i64 (wv : Int)) := ⟨_, rfl⟩
                    have TA : Hid (Blk wA g5 23 (c4 (h : Int) (l : Int) 0 (wv : Int))) := hide (by rw [hv]; exact T9.out.set 3 _)
                    have hbut : But g5 w9 wA := by rw [hv]; exact But.setCell _ _ _ _
                    have GA := hide (G9.out.but hbut hne25)
                    have BA := hide (B9.out.trans (hbut.below L5.out))
                    have SA := hide (S9.out.but hbut hgp5)
                    rw [← hv]
                    clear hv hbut T9 G9 B9 S9 t0 t1 t2 t3 f0
                    obtain ⟨t0, t1, t2, t3⟩ := TA.out.four
                    clear t0 t1 t2 t3
                    have Y0 := hide ((Below.refl wA.heap.size wA).drew)
                    have kw : IntKind.i64.wrap ((NR : Int) - 2) = (K2 : Int) := by rw [IntKind.wrap_i64]; omega
                    have mw : IntKind.i64.wrap ((LX : Int) - 2) = (M2 : Int) := by rw [IntKind.wrap_i64]; omega
                    have kk : IntKind.i64.wrap (K2 : Int) = (K2 : Int) := by rw [IntKind.wrap_i64]; omega
                    have mm : IntKind.i64.wrap (M2 : Int) = (M2 : Int) := by rw [IntKind.wrap_i64]; omega
                    have HXx : Hid (R[K2]? = some x) := hide (by
                      have := HGX.out
                      rw [HLR.out, hK2, List.getD_eq_getElem?_getD, List.getElem?_eq_getElem hKn] at this
                      rw [List.getElem?_eq_getElem hKn]
                      exact congrArg some this)
                    have CX : Hid (∀ v : World, Below wA.heap.size wA v → v.cell? ⟨gp, 3 + K2, none⟩ = some (.string (bA x))) := hide (fun v hv => (SA.out.below hv) K2 x HXx.out)
                    have q1 := st_to gp 3 NR cr K2 (by omega) (by omega) (by omega)
                    have q2 := st_atO gp 3 NR cr K2 (K2 : Int) rfl hK2n
                    have q3 := slice_to x M2 (M2 : Int) rfl (by rw [HLX.out]; omega)
                    obtain ⟨xm, hxm⟩ : ∃ z, x.take M2 = z := ⟨_, rfl⟩
                    rw [hxm] at q3 HRG
                    have HTK : Hid ((R.take K2).length = K2) := hide (by rw [List.length_take, HLR.out]; omega)
                    obtain ⟨RT, hRT⟩ : ∃ z, R.take K2 = z := ⟨_, rfl⟩
                    have SRT : Hid (∀ v : World, Below wA.heap.size wA v → SL v gp 3 RT) := hide (fun v hv i q hq => by
                      refine (SA.out.below hv) i q ?_
                      rw [← hRT, List.getElem?_take] at hq
                      split at hq
                      · exact hq
                      · cases hq)
                    rw [hRT] at HTK HRG
                    have HRTe : Hid (∀ z ∈ RT ++ [xm], z.length ≤ 1048576) := hide (fun z hz => by
                      rcases List.mem_append.1 hz with hz | hz
                      · rw [← hRT] at hz
                        exact HRe.out z (List.mem_of_mem_take hz)
                      · rw [show z = xm by simpa using hz, ← hxm, List.length_take, HLX.out]
                        omega)
                    clear hRT hxm
                    refine joinQ (fun v W => Hid (TO W wA.heap.size v (rqG R)) ∧ Hid (Below wA.heap.size wA W)) ?act ?tail (fun hjoin => ?_)
                    rotate_left
                    rotate_left
                    · refine wp_region_noPanic ?_
                      refine wp_region_held_drew (S := fun v : World => Below wA.heap.size wA v) (by kernel_rfl) Y0.out (fun hHeld => ?_)
                      refine takeH 1 112 (.slice (some ⟨gp, 3, none⟩) NR cr) hHeld rfl rfl (by kernel_rfl) (by kernel_rfl) (by kernel_rfl) (fun _ _ _ h => h) (Or.inl ⟨by rfl, fun w _ => by go_simp⟩) ?_
                      simp only [Act.put, List.setIfInBounds_toArray, List.set_cons_zero, List.set_cons_succ]
                      refine takeH 2 113 (.int .i64 (NR : Int)) hHeld rfl rfl (by kernel_rfl) (by kernel_rfl) (by kernel_rfl) (fun _ _ _ h => h) (Or.inl ⟨by rfl, fun w _ => by go_simp⟩) ?_
                      simp only [Act.put, List.setIfInBounds_toArray, List.set_cons_zero, List.set_cons_succ]
                      refine takeH 3 114 (.int .i64 (K2 : Int)) hHeld rfl rfl (by kernel_rfl) (by kernel_rfl) (by kernel_rfl) (fun _ _ _ h => h) (Or.inl ⟨by rfl, fun w _ => by go_simp⟩) ?_
                      simp only [Act.put, List.setIfInBounds_toArray, List.set_cons_zero, List.set_cons_succ]
                      refine takeH 4 115 (.slice (some ⟨gp, 3, none⟩) K2 cr) hHeld rfl rfl (by kernel_rfl) (by kernel_rfl) (by kernel_rfl) (fun _ _ _ h => h) (Or.inl ⟨by rfl, fun w _ => run_op rfl (q1 w)⟩) ?_
                      simp only [Act.put, List.setIfInBounds_toArray, List.set_cons_zero, List.set_cons_succ]
                      refine takeH 6 117 (.slice (some ⟨gp, 3, none⟩) NR cr) hHeld rfl rfl (by kernel_rfl) (by kernel_rfl) (by kernel_rfl) (fun _ _ _ h => h) (Or.inl ⟨by rfl, fun w _ => by go_simp⟩) ?_
                      simp only [Act.put, List.setIfInBounds_toArray, List.set_cons_zero, List.set_cons_succ]
                      refine takeH 7 118 (.int .i64 (NR : Int)) hHeld rfl rfl (by kernel_rfl) (by kernel_rfl) (by kernel_rfl) (fun _ _ _ h => h) (Or.inl ⟨by rfl, fun w _ => by go_simp⟩) ?_
                      simp only [Act.put, List.setIfInBounds_toArray, List.set_cons_zero, List.set_cons_succ]
                      refine takeH 8 119 (.int .i64 (K2 : Int)) hHeld rfl rfl (by kernel_rfl) (by kernel_rfl) (by kernel_rfl) (fun _ _ _ h => h) (Or.inl ⟨by rfl, fun w _ => by go_simp⟩) ?_
                      simp only [Act.put, List.setIfInBounds_toArray, List.set_cons_zero, List.set_cons_succ]
                      refine takeH 9 120 (.pointer (some ⟨gp, 3 + K2, none⟩)) hHeld rfl rfl (by kernel_rfl) (by kernel_rfl) (by kernel_rfl) (fun _ _ _ h => h) (Or.inl ⟨by rfl, fun w _ => run_op rfl (q2 w)⟩) ?_
                      simp only [Act.put, List.setIfInBounds_toArray, List.set_cons_zero, List.set_cons_succ]
                      refine takeH 10 121 (.string (bA x)) hHeld rfl rfl (by kernel_rfl) (by kernel_rfl) (by kernel_rfl) (fun _ _ _ h => h) (Or.inl ⟨by rfl, fun w hw => by have hw' : w.cell? ⟨gp, (3 + K2), none⟩ = some (.string (bA x)) := CX.out _ hw; go_simp⟩) ?_
                      simp only [Act.put, List.setIfInBounds_toArray, List.set_cons_zero, List.set_cons_succ]
                      refine takeH 11 122 (.slice (some ⟨gp, 3, none⟩) NR cr) hHeld rfl rfl (by kernel_rfl) (by kernel_rfl) (by kernel_rfl) (fun _ _ _ h => h) (Or.inl ⟨by rfl, fun w _ => by go_simp⟩) ?_
                      simp only [Act.put, List.setIfInBounds_toArray, List.set_cons_zero, List.set_cons_succ]
                      refine takeH 12 123 (.int .i64 (NR : Int)) hHeld rfl rfl (by kernel_rfl) (by kernel_rfl) (by kernel_rfl) (fun _ _ _ h => h) (Or.inl ⟨by rfl, fun w _ => by go_simp⟩) ?_
                      simp only [Act.put, List.setIfInBounds_toArray, List.set_cons_zero, List.set_cons_succ]
                      refine takeH 13 124 (.int .i64 (K2 : Int)) hHeld rfl rfl (by kernel_rfl) (by kernel_rfl) (by kernel_rfl) (fun _ _ _ h => h) (Or.inl ⟨by rfl, fun w _ => by go_simp⟩) ?_
                      simp only [Act.put, List.setIfInBounds_toArray, List.set_cons_zero, List.set_cons_succ]
                      refine takeH 14 125 (.pointer (some ⟨gp, 3 + K2, none⟩)) hHeld rfl rfl (by kernel_rfl) (by kernel_rfl) (by kernel_rfl) (fun _ _ _ h => h) (Or.inl ⟨by rfl, fun w _ => run_op rfl (q2 w)⟩) ?_
                      simp only [Act.put, List.setIfInBounds_toArray, List.set_cons_zero, List.set_cons_succ]
                      refine takeH 15 126 (.string (bA x)) hHeld rfl rfl (by kernel_rfl) (by kernel_rfl) (by kernel_rfl) (fun _ _ _ h => h) (Or.inl ⟨by rfl, fun w hw => by have hw' : w.cell? ⟨gp, (3 + K2), none⟩ = some (.string (bA x)) := CX.out _ hw; go_simp⟩) ?_
                      simp only [Act.put, List.setIfInBounds_toArray, List.set_cons_zero, List.set_cons_succ]
                      refine takeH 16 127 (.int .i64 (LX : Int)) hHeld rfl rfl (by kernel_rfl) (by kernel_rfl) (by kernel_rfl) (fun _ _ _ h => h) (Or.inl ⟨by rfl, fun w _ => by go_simp⟩) ?_
                      simp only [Act.put, List.setIfInBounds_toArray, List.set_cons_zero, List.set_cons_succ]
                      refine takeH 17 128 (.int .i64 (M2 : Int)) hHeld rfl rfl (by kernel_rfl) (by kernel_rfl) (by kernel_rfl) (fun _ _ _ h => h) (Or.inl ⟨by rfl, fun w _ => by go_simp⟩) ?_
                      simp only [Act.put, List.setIfInBounds_toArray, List.set_cons_zero, List.set_cons_succ]
                      refine takeH 18 129 (.string (bA xm)) hHeld rfl rfl (by kernel_rfl) (by kernel_rfl) (by kernel_rfl) (fun _ _ _ h => h) (Or.inl ⟨by rfl, fun w _ => run_op rfl (q3 w)⟩) ?_
                      simp only [Act.put, List.setIfInBounds_toArray, List.set_cons_zero, List.set_cons_succ]
                      refine wpAnyH_ready (rs := [0, 19]) (by kernel_rfl) (by simp) (AllReadyH.cons rfl (fun K hK => ?_) (AllReadyH.cons rfl (fun K hK => ?_) AllReadyH.nil))
                      · rw [if_pos (by rfl)]
                        refine wp_0st ?_
                        intro va g0 hto hlg0 hg0l hbn
                        have Y1 := hide (on_below Y0.out hbn)
                        have E0 := hide (hto.lower Y0.out.size)
                        have hg0b : wA.heap.size ≤ g0 := Nat.le_trans Y0.out.size hlg0
                        clear hto
                        refine hK.out _ _ Y1.out (fun hHeld => ?_)
                        clear hK K
                        try simp only [Act.put, List.setIfInBounds_toArray, List.set_cons_zero, List.set_cons_succ]
                        refine wpAnyH_ready (rs := [5, 19]) (by kernel_rfl) (by simp) (AllReadyH.cons rfl (fun K hK => ?_) (AllReadyH.cons rfl (fun K hK => ?_) AllReadyH.nil))
                        · rw [if_pos (by rfl)]
                          refine wp_app0 (ms := RT) rfl rfl E0.out HTK.out (SRT.out _ Y1.out) (by rw [HTK.out]; omega) Y1.out.size ?_
                          intro v1 vb hto hgr
                          have Y2 := hide (Y1.out.grown hgr Y1.out.size (fun k hk => by cases hk; exact hg0b))
                          have E1 := hide hto
                          clear hto
                          refine hK.out _ _ Y2.out (fun hHeld => ?_)
                          clear hK K
                          try simp only [Act.put, List.setIfInBounds_toArray, List.set_cons_zero, List.set_cons_succ]
                          refine wpAnyH_ready (rs := [19]) (by kernel_rfl) (by simp) (AllReadyH.cons rfl (fun K hK => ?_) AllReadyH.nil)
                          rw [if_pos (by rfl)]
                          refine wp_oneSt (l := xm) rfl ?_
                          intro vc g1 hgn hln hbn
                          have Y3 := hide (on_below Y2.out hbn)
                          have F1 := hide hgn
                          clear hgn
                          have E2 := hide (E1.out.below hbn)
                          refine hK.out _ _ Y3.out (fun hHeld => ?_)
                          clear hK K
                          try simp only [Act.put, List.setIfInBounds_toArray, List.set_cons_zero, List.set_cons_succ]
                          refine wpAnyH_ready (rs := [20]) (by kernel_rfl) (by simp) (AllReadyH.cons rfl (fun K hK => ?_) AllReadyH.nil)
                          rw [if_pos (by rfl)]
                          refine wp_appSt (ms := [xm]) rfl rfl E2.out rfl (fun i m hm => by
                            match i, hm with
                            | 0, hm => simp at hm; subst hm; rw [F1.out.cell]; rfl
                            | i + 1, hm => simp at hm) (by simp) (by simp; have := HTK.out; omega) Y3.out.size ?_
                          intro v2 wz hto2 hgr2
                          have YZ := hide (Y3.out.grown hgr2 Y3.out.size (fun k hk => (E2.out.lt k hk).1))
                          rw [← HRG.out] at hto2
                          refine hK.out _ _ YZ.out (fun hHeld => ?_)
                          clear hK K
                          try simp only [Act.put, List.setIfInBounds_toArray, List.set_cons_zero, List.set_cons_succ]
                          refine takeH 21 10 (v2) hHeld rfl rfl (by kernel_rfl) (by kernel_rfl) (by kernel_rfl) (fun _ _ _ h => h) (Or.inl ⟨by rfl, fun w _ => by go_simp⟩) ?_
                          simp only [Act.put, List.setIfInBounds_toArray, List.set_cons_zero, List.set_cons_succ]
                          refine wpAnyH_done (by kernel_rfl) ?_ _
                          refine NoPanic.normal ?_
                          exact hjoin g0 v1 g1 v2 wz ⟨hide hto2, YZ⟩
                        · rw [if_pos (by rfl)]
                          refine wp_oneSt (l := xm) rfl ?_
                          intro vb g1 hgn hln hbn
                          have Y2 := hide (on_below Y1.out hbn)
                          have F1 := hide hgn
                          clear hgn
                          have E1' := hide (E0.out.below hbn)
                          have hne01 : g1 ≠ g0 := by omega
                          refine hK.out _ _ Y2.out (fun hHeld => ?_)
                          clear hK K
                          try simp only [Act.put, List.setIfInBounds_toArray, List.set_cons_zero, List.set_cons_succ]
                          refine wpAnyH_ready (rs := [5]) (by kernel_rfl) (by simp) (AllReadyH.cons rfl (fun K hK => ?_) AllReadyH.nil)
                          rw [if_pos (by rfl)]
                          refine wp_app0 (ms := RT) rfl rfl E1'.out HTK.out (SRT.out _ Y2.out) (by rw [HTK.out]; omega) Y2.out.size ?_
                          intro v1 vc hto hgr
                          have Y3 := hide (Y2.out.grown hgr Y2.out.size (fun k hk => by cases hk; exact hg0b))
                          have E2 := hide hto
                          clear hto
                          have F2 := hide (keep_row F1.out hgr (fun e => hne01 (Option.some.inj e)))
                          refine hK.out _ _ Y3.out (fun hHeld => ?_)
                          clear hK K
                          try simp only [Act.put, List.setIfInBounds_toArray, List.set_cons_zero, List.set_cons_succ]
                          refine wpAnyH_ready (rs := [20]) (by kernel_rfl) (by simp) (AllReadyH.cons rfl (fun K hK => ?_) AllReadyH.nil)
                          rw [if_pos (by rfl)]
                          refine wp_appSt (ms := [xm]) rfl rfl E2.out rfl (fun i m hm => by
                            match i, hm with
                            | 0, hm => simp at hm; subst hm; rw [F2.out.cell]; rfl
                            | i + 1, hm => simp at hm) (by simp) (by simp; have := HTK.out; omega) Y3.out.size ?_
                          intro v2 wz hto2 hgr2
                          have YZ := hide (Y3.out.grown hgr2 Y3.out.size (fun k hk => (E2.out.lt k hk).1))
                          rw [← HRG.out] at hto2
                          refine hK.out _ _ YZ.out (fun hHeld => ?_)
                          clear hK K
                          try simp only [Act.put, List.setIfInBounds_toArray, List.set_cons_zero, List.set_cons_succ]
                          refine takeH 21 10 (v2) hHeld rfl rfl (by kernel_rfl) (by kernel_rfl) (by kernel_rfl) (fun _ _ _ h => h) (Or.inl ⟨by rfl, fun w _ => by go_simp⟩) ?_
                          simp only [Act.put, List.setIfInBounds_toArray, List.set_cons_zero, List.set_cons_succ]
                          refine wpAnyH_done (by kernel_rfl) ?_ _
                          refine NoPanic.normal ?_
                          exact hjoin g0 v1 g1 v2 wz ⟨hide hto2, YZ⟩
                      · rw [if_pos (by rfl)]
                        refine wp_oneSt (l := xm) rfl ?_
                        intro va g1 hgn hln hbn
                        have Y1 := hide (on_below Y0.out hbn)
                        have F1 := hide hgn
                        clear hgn
                        have hlg1 := F1.out.lt
                        refine hK.out _ _ Y1.out (fun hHeld => ?_)
                        clear hK K
                        try simp only [Act.put, List.setIfInBounds_toArray, List.set_cons_zero, List.set_cons_succ]
                        refine wpAnyH_ready (rs := [0]) (by kernel_rfl) (by simp) (AllReadyH.cons rfl (fun K hK => ?_) AllReadyH.nil)
                        rw [if_pos (by rfl)]
                        refine wp_0st ?_
                        intro vb g0 hto hlg0 hg0l hbn
                        have Y2 := hide (on_below Y1.out hbn)
                        have E0 := hide (hto.lower Y1.out.size)
                        have hg0b : wA.heap.size ≤ g0 := Nat.le_trans Y1.out.size hlg0
                        clear hto
                        have hne01 : g1 ≠ g0 := by omega
                        have F1' := hide (F1.out.on hbn)
                        refine hK.out _ _ Y2.out (fun hHeld => ?_)
                        clear hK K
                        try simp only [Act.put, List.setIfInBounds_toArray, List.set_cons_zero, List.set_cons_succ]
                        refine wpAnyH_ready (rs := [5]) (by kernel_rfl) (by simp) (AllReadyH.cons rfl (fun K hK => ?_) AllReadyH.nil)
                        rw [if_pos (by rfl)]
                        refine wp_app0 (ms := RT) rfl rfl E0.out HTK.out (SRT.out _ Y2.out) (by rw [HTK.out]; omega) Y2.out.size ?_
                        intro v1 vc hto hgr
                        have Y3 := hide (Y2.out.grown hgr Y2.out.size (fun k hk => by cases hk; exact hg0b))
                        have E2 := hide hto
                        clear hto
                        have F2 := hide (keep_row F1'.out hgr (fun e => hne01 (Option.some.inj e)))
                        refine hK.out _ _ Y3.out (fun hHeld => ?_)
                        clear hK K
                        try simp only [Act.put, List.setIfInBounds_toArray, List.set_cons_zero, List.set_cons_succ]
                        refine wpAnyH_ready (rs := [20]) (by kernel_rfl) (by simp) (AllReadyH.cons rfl (fun K hK => ?_) AllReadyH.nil)
                        rw [if_pos (by rfl)]
                        refine wp_appSt (ms := [xm]) rfl rfl E2.out rfl (fun i m hm => by
                          match i, hm with
                          | 0, hm => simp at hm; subst hm; rw [F2.out.cell]; rfl
                          | i + 1, hm => simp at hm) (by simp) (by simp; have := HTK.out; omega) Y3.out.size ?_
                        intro v2 wz hto2 hgr2
                        have YZ := hide (Y3.out.grown hgr2 Y3.out.size (fun k hk => (E2.out.lt k hk).1))
                        rw [← HRG.out] at hto2
                        refine hK.out _ _ YZ.out (fun hHeld => ?_)
                        clear hK K
                        try simp only [Act.put, List.setIfInBounds_toArray, List.set_cons_zero, List.set_cons_succ]
                        refine takeH 21 10 (v2) hHeld rfl rfl (by kernel_rfl) (by kernel_rfl) (by kernel_rfl) (fun _ _ _ h => h) (Or.inl ⟨by rfl, fun w _ => by go_simp⟩) ?_
                        simp only [Act.put, List.setIfInBounds_toArray, List.set_cons_zero, List.set_cons_succ]
                        refine wpAnyH_done (by kernel_rfl) ?_ _
                        refine NoPanic.normal ?_
                        exact hjoin g0 v1 g1 v2 wz ⟨hide hto2, YZ⟩
                    · rintro g0 v1 g1 v2 W ⟨HTO, YW⟩
                      obtain ⟨gq, cq, rfl, hgq, hgql, hcq, _, hcellq⟩ := HTO.out.lies (by rw [HRG.out]; simp)
                      obtain ⟨NQ, hNQ⟩ : ∃ n, (rqG R).length = n := ⟨_, rfl⟩
                      have HLN : Hid ((rqG R).length = NQ) := hide hNQ
                      have hNQb : NQ ≤ 1048576 := by
                        rw [← hNQ, HRG.out, List.length_append, HTK.out]
                        simp
                        omega
                      rw [hNQ]
                      have HLE : Hid (∀ x ∈ rqG R, x.length ≤ 1048576) := hide (by rw [HRG.out]; exact HRTe.out)
                      have SQ : Hid (SL W gq 0 (rqG R)) := hide (fun i l hl => by rw [Nat.zero_add]; exact hcellq i l hl)
                      have GQ := hide (GA.out.on YW.out)
                      have TQ := hide (TA.out.on YW.out)
                      have BQ := hide (on_below BA.out YW.out)
                      clear hNQ hcellq HTO YW GA TA BA SA HRG HRTe SRT HTK CX HXx q1 q2 q3 kw mw kk mm ke me hszx HGX HLX HLR HRe
                      generalize rqG R = RG at *
                      go_wp2_with fail
                      go_loopw [14, 15] (fun d i wr => ∃ (j : Nat) (D : List UInt8), d = .string (bA D) ∧ i = .int .i64 (j : Int) ∧ j ≤ NQ ∧ D.length ≤ 3 * j ∧ Hid (LD RG j D) ∧ wr = W) (fun _ i _ => NQ - (intOf i).toNat)
                      case atStart => exact ⟨0, [], rfl, rfl, Nat.zero_le _, by simp, hide ⟨rfl, by simp⟩, rfl⟩
                      case round =>
                        obtain ⟨j, D, rfl, rfl, hj, hDl, HD, rfl⟩ := hrel
                        by_cases hlt : j < NQ
                        · have hlt' : (j : Int) < (NQ : Int) := by omega
                          obtain ⟨x, hx⟩ : ∃ x, RG[j]? = some x := ⟨RG[j]'(by rw [HLN.out]; exact hlt), List.getElem?_eq_getElem (by rw [HLN.out]; exact hlt)⟩
                          have HX := hide hx
                          have cx := SQ.out j x hx
                          have xa := st_atO gq 0 NQ cq j (j : Int) rfl hlt
                          have hxl := HLE.out x (List.mem_of_getElem? hx)
                          have hszx := bA_size x
                          try rw [Nat.zero_add] at cx
                          try rw [Nat.zero_add] at xa
                          clear hx
                          cases hxe : x with
                          | nil =>
                            subst hxe
                            have W1 : Hid (D ++ [] = D ∧ D.length + ([] : List UInt8).length ≤ 9000000) := hide ⟨by simp, by simp; omega⟩
                            have HN2 : Hid (LD RG (j + 1) D) := hide ⟨by rw [flat_snoc HX.out, ← HD.out.1]; simp [rqX], take_snoc_all HX.out HD.out.2 (by simp [rqX])⟩
                            have hsz0 : (bA []).size = 0 := rfl
                            go_wp2_with (refine step_addW (p := D) (q := []) (r := D) rfl rfl rfl W1.out ?_)
                            exact ⟨⟨j + 1, D, rfl, by simp, hlt, by omega, HN2, trivial⟩, by simp only [intOf]; omega⟩
                          | cons a t =>
                            have hz : 0 < (bA x).size := by rw [hszx, hxe]; simp
                            have hz' : (0 : Int) < ((bA x).size : Int) := by omega
                            have hfa := first_of hxe hz
                            have hpos : 0 < x.length := by rw [hxe]; simp
                            by_cases ha : a = 120
                            · have e120 : (((((bA x)[0]'hz).toNat : Nat) : Int) == 120) = true := by rw [hfa, ha]; rfl
                              have x1 := slice_str x 1 1 rfl (by omega)
                              have hdr : x.drop 1 = t := by rw [hxe]; rfl
                              rw [hdr] at x1
                              have HYE : Hid (rqX x = t) := hide (by rw [hxe, ha]; rfl)
                              have hszt := bA_size t
                              have htl : t.length ≤ 1048576 := by have := congrArg List.length hxe; simp at this; omega
                              clear hxe ha hfa hdr
                              by_cases hx3 : 3 < t.length
                              · have HNo : Hid (rqR s = none) := hide (by
                                  rw [HE.out]
                                  unfold rqE
                                  rw [if_neg (fun h => absurd (h _ (List.mem_of_getElem? HX.out)) (by rw [HYE.out]; omega))])
                                have hx3' : (3 : Int) < (t.length : Int) := by omega
                                go_upto_region 28 with fail
                                go_wp2_with (refine step_storeA wT rfl rfl (vs := c4 0 0 0 0) rfl GQ.out rfl (One.c4 0 0 0 0) rfl ?_)
                                intro wz hgz hbutz
                                have BE := hide (BQ.out.trans (hbutz.below LE.out))
                                go_wp2
                                refine bodyPost_ret (results_wide2 rfl wT _ _ rfl hgz rfl) rfl ⟨.inr ⟨rfl, .inl HNo.out⟩, BE.out⟩
                              · have HN2 : Hid (LD RG (j + 1) (D ++ t)) := hide ⟨by rw [flat_snoc HX.out, ← HD.out.1, HYE.out], take_snoc_all HX.out HD.out.2 (by rw [HYE.out]; omega)⟩
                                have hx3' : ¬ (3 : Int) < (t.length : Int) := by omega
                                obtain ⟨DD, hDD⟩ : ∃ z, D ++ t = z := ⟨_, rfl⟩
                                have W1 : Hid (D ++ t = DD ∧ D.length + t.length ≤ 9000000) := hide ⟨hDD, by omega⟩
                                rw [hDD] at HN2
                                have hdl : DD.length ≤ 3 * (j + 1) := by rw [← hDD, List.length_append]; omega
                                clear hDD
                                go_wp2_with (refine step_addW (p := D) (q := t) (r := DD) rfl rfl rfl W1.out ?_)
                                exact ⟨⟨j + 1, DD, rfl, by simp, hlt, hdl, HN2, trivial⟩, by simp only [intOf]; omega⟩
                            · have e120 : (((((bA x)[0]'hz).toNat : Nat) : Int) == 120) = false := by
                                rw [hfa]
                                simp only [beq_eq_false_iff_ne, ne_eq]
                                intro e
                                refine ha (UInt8.toNat_inj.1 ?_)
                                have : a.toNat = 120 := by omega
                                rw [this]; rfl
                              have HYE : Hid (rqX x = x) := hide (by
                                rw [hxe]
                                show (if a = 120 then t else a :: t) = _
                                rw [if_neg ha])
                              clear hxe ha hfa
                              by_cases hx3 : 3 < x.length
                              · have HNo : Hid (rqR s = none) := hide (by
                                  rw [HE.out]
                                  unfold rqE
                                  rw [if_neg (fun h => absurd (h _ (List.mem_of_getElem? HX.out)) (by rw [HYE.out]; omega))])
                                have hx3' : (3 : Int) < (x.length : Int) := by omega
                                go_upto_region 28 with fail
                                go_wp2_with (refine step_storeA wT rfl rfl (vs := c4 0 0 0 0) rfl GQ.out rfl (One.c4 0 0 0 0) rfl ?_)
                                intro wz hgz hbutz
                                have BE := hide (BQ.out.trans (hbutz.below LE.out))
                                go_wp2
                                refine bodyPost_ret (results_wide2 rfl wT _ _ rfl hgz rfl) rfl ⟨.inr ⟨rfl, .inl HNo.out⟩, BE.out⟩
                              · have HN2 : Hid (LD RG (j + 1) (D ++ x)) := hide ⟨by rw [flat_snoc HX.out, ← HD.out.1, HYE.out], take_snoc_all HX.out HD.out.2 (by rw [HYE.out]; omega)⟩
                                have hx3' : ¬ (3 : Int) < (x.length : Int) := by omega
                                obtain ⟨DD, hDD⟩ : ∃ z, D ++ x = z := ⟨_, rfl⟩
                                have W1 : Hid (D ++ x = DD ∧ D.length + x.length ≤ 9000000) := hide ⟨hDD, by omega⟩
                                rw [hDD] at HN2
                                have hdl : DD.length ≤ 3 * (j + 1) := by rw [← hDD, List.length_append]; omega
                                clear hDD
                                go_wp2_with (refine step_addW (p := D) (q := x) (r := DD) rfl rfl rfl W1.out ?_)
                                exact ⟨⟨j + 1, DD, rfl, by simp, hlt, hdl, HN2, trivial⟩, by simp only [intOf]; omega⟩
                        · have hge : ¬ (j : Int) < (NQ : Int) := by omega
                          have HDA : Hid (D = RG.flatMap rqX ∧ ∀ y ∈ RG, (rqX y).length ≤ 3) := hide (by
                            have hd := HD.out
                            unfold LD at hd
                            rw [List.take_of_length_le (by rw [HLN.out]; omega)] at hd
                            exact hd)
                          have HL3 := hide (plain_any D wr (by omega))
                          clear HD
                          go_wp2_with fail
                          refine HL3.out.mono ?_
                          rintro r w9 ⟨hb9, hr9⟩
                          have G9 := hide (GQ.out.on hb9)
                          have T9 := hide (TQ.out.on hb9)
                          have B9 := hide (on_below BQ.out hb9)
                          clear hb9 HL3 GQ TQ BQ SQ HLN HLE
                          rcases hr9 with ⟨ix, hix, rfl⟩ | ⟨hno, y, rfl⟩
                          · have HSm : Hid (rqR s = some (h, l, ix, wv)) := hide (by
                              rw [HE.out]
                              unfold rqE
                              rw [if_pos HDA.out.2, ← HDA.out.1, hix]
                              rfl)
                            clear hix HDA HE
                            have f2 := T9.out.free 2
                            obtain ⟨t0, t1, t2, t3⟩ := T9.out.four
                            go_upto_region 34 with fail
                            obtain ⟨wA, hv⟩ : ∃ v : World, v = w9.setCell ⟨g5, 2, none⟩ (.int .i64 (ix : Int)) := ⟨_, rfl⟩
                            have TA : Hid (Blk wA g5 23 (c4 (h : Int) (l : Int) (ix : Int) (wv : Int))) := hide (by rw [hv]; exact T9.out.set 2 _)
                            have hbut : But g5 w9 wA := by rw [hv]; exact But.setCell _ _ _ _
                            have GA := hide (G9.out.but hbut hne25)
                            have BA' := hide (B9.out.trans (hbut.below L5.out))
                            rw [← hv]
                            clear hv hbut T9 G9 B9 t0 t1 t2 t3 f2
                            obtain ⟨pz, ez, hz, hzc⟩ := pathR_any (h : Int) (l : Int) (ix : Int) (wv : Int)
                            have HPz := hide hzc
                            clear hzc
                            go_wp2_with (refine step_loadA wT rfl rfl TA.out rfl ?_)
                            refine (HPz.out _).mono ?_
                            rintro r wB ⟨rfl, hbB⟩
                            have GB := hide (GA.out.on hbB)
                            have TB := hide (TA.out.on hbB)
                            have BB := hide (on_below BA'.out hbB)
                            clear hbB GA TA BA' HPz
                            rcases hz with ⟨rfl, kz, rfl⟩ | ⟨rfl, kz, rfl⟩
                            · obtain ⟨pz, hpz⟩ : ∃ z, pathI (h : Int) (l : Int) (ix : Int) (wv : Int) = z := ⟨_, rfl⟩
                              rw [hpz]
                              by_cases hps : pz = s
                              · have HOK : Hid (tOK (h : Int) (l : Int) (ix : Int) (wv : Int) ∧ pathI (h : Int) (l : Int) (ix : Int) (wv : Int) = s) := hide ⟨kz, hpz.trans hps⟩
                                have e0 : ((bA pz).toList == (bA s).toList) = true := by rw [beq_bA, decide_eq_true hps]
                                clear hps hpz kz
                                go_wp2_with (first | (refine step_loadA wT rfl rfl TB.out rfl ?_) | (refine step_storeA wT rfl rfl rfl GB.out rfl (One.c4 (h : Int) (l : Int) (ix : Int) (wv : Int)) rfl ?_))
                                intro wz hgz hbutz
                                have BE := hide (BB.out.trans (hbutz.below LE.out))
                                go_wp2
                                refine bodyPost_ret (results_wide2 rfl wT _ _ rfl hgz rfl) rfl ⟨.inl ⟨h, l, ix, wv, HSm.out, HOK.out.1, HOK.out.2, rfl⟩, BE.out⟩
                              · have HNt : Hid (¬ (tOK (h : Int) (l : Int) (ix : Int) (wv : Int) ∧ pathI (h : Int) (l : Int) (ix : Int) (wv : Int) = s)) := hide (fun k => hps (hpz.symm.trans k.2))
                                have e0 : ((bA pz).toList == (bA s).toList) = false := by rw [beq_bA, decide_eq_false hps]
                                clear hps hpz kz
                                go_upto_region 36 with fail
                                go_wp2_with (refine step_storeA wT rfl rfl (vs := c4 0 0 0 0) rfl GB.out rfl (One.c4 0 0 0 0) rfl ?_)
                                intro wz hgz hbutz
                                have BE := hide (BB.out.trans (hbutz.below LE.out))
                                go_wp2
                                refine bodyPost_ret (results_wide2 rfl wT _ _ rfl hgz rfl) rfl ⟨.inr ⟨rfl, .inr ⟨h, l, ix, _, HSm.out, HNt.out⟩⟩, BE.out⟩
                            · have HNt : Hid (¬ (tOK (h : Int) (l : Int) (ix : Int) (wv : Int) ∧ pathI (h : Int) (l : Int) (ix : Int) (wv : Int) = s)) := hide (fun k => kz k.1)
                              clear kz
                              go_upto_region 36 with fail
                              go_wp2_with (refine step_storeA wT rfl rfl (vs := c4 0 0 0 0) rfl GB.out rfl (One.c4 0 0 0 0) rfl ?_)
                              intro wz hgz hbutz
                              have BE := hide (BB.out.trans (hbutz.below LE.out))
                              go_wp2
                              refine bodyPost_ret (results_wide2 rfl wT _ _ rfl hgz rfl) rfl ⟨.inr ⟨rfl, .inr ⟨h, l, ix, _, HSm.out, HNt.out⟩⟩, BE.out⟩
                          · have HNo : Hid (rqR s = none) := hide (by
                              rw [HE.out]
                              unfold rqE
                              rw [if_pos HDA.out.2, ← HDA.out.1, hno]
                              rfl)
                            clear hno HDA HE
                            go_upto_region 32 with fail
                            go_wp2_with (refine step_storeA wT rfl rfl (vs := c4 0 0 0 0) rfl G9.out rfl (One.c4 0 0 0 0) rfl ?_)
                            intro wz hgz hbutz
                            have BE := hide (B9.out.trans (hbutz.below LE.out))
                            go_wp2
                            refine bodyPost_ret (results_wide2 rfl wT _ _ rfl hgz rfl) rfl ⟨.inr ⟨rfl, .inl HNo.out⟩, BE.out⟩
                  · have HNo : Hid (rqR s = none) := hide (by rw [HR2.out, HGZ.out, hno]; rfl)
                    clear hno
                    go_upto_region 17 with fail
                    go_wp2_with (refine step_storeA wT rfl rfl (vs := c4 0 0 0 0) rfl G9.out rfl (One.c4 0 0 0 0) rfl ?_)
                    intro wz hgz hbutz
                    have BE := hide (B9.out.trans (hbutz.below LE.out))
                    go_wp2
                    refine bodyPost_ret (results_wide2 rfl wT _ _ rfl hgz rfl) rfl ⟨.inr ⟨rfl, .inl HNo.out⟩, BE.out⟩
                · have em : ((bA y).toList == [46, 112]) = false := by have := beq_bA y [46, 112]; rw [decide_eq_false hm, tl_mark] at this; exact this
                  have HE : Hid (rqR s = rqE h l Pw R) := hide (by
                    rw [HRT.out, ← HPw.out]
                    unfold rqT rqP
                    rw [HGX.out, HYM.out, decide_eq_false hm]
                    simp)
                  clear hm
                  go_quiet (fail)
                  obtain ⟨V, hV⟩ : ∃ V : World, V = w7.drewN nq := ⟨_, rfl⟩
                  have hbV : Below w7.heap.size w7 V := by rw [hV]; exact below_drews (Below.refl _ _) nq
                  have G8 := hide (G7.out.on hbV)
                  have T8 := hide (T7.out.on hbV)
                  have B8 := hide (on_below B7.out hbV)
                  have S8 := hide (S7.out.below hbV)
                  rw [← hV]
                  clear hV hbV G7 T7 B7 S7 B7r
                  have HLN := HLR
                  have HLE := HRe
                  clear kw ke xa cx hszx d2 d2b d2c mw me e2 e2b e2c xs em
                  go_wp2_with fail
                  go_loopw [14, 15] (fun d i wr => ∃ (j : Nat) (D : List UInt8), d = .string (bA D) ∧ i = .int .i64 (j : Int) ∧ j ≤ NR ∧ D.length ≤ 3 * j ∧ Hid (LD R j D) ∧ wr = V) (fun _ i _ => NR - (intOf i).toNat)
                  case atStart => exact ⟨0, [], rfl, rfl, Nat.zero_le _, by simp, hide ⟨rfl, by simp⟩, rfl⟩
                  case round =>
                    obtain ⟨j, D, rfl, rfl, hj, hDl, HD, rfl⟩ := hrel
                    by_cases hlt : j < NR
                    · have hlt' : (j : Int) < (NR : Int) := by omega
                      obtain ⟨x, hx⟩ : ∃ x, R[j]? = some x := ⟨R[j]'(by rw [HLN.out]; exact hlt), List.getElem?_eq_getElem (by rw [HLN.out]; exact hlt)⟩
                      have HX := hide hx
                      have cx := S8.out j x hx
                      have xa := st_atO gp 3 NR cr j (j : Int) rfl hlt
                      have hxl := HLE.out x (List.mem_of_getElem? hx)
                      have hszx := bA_size x
                      try rw [Nat.zero_add] at cx
                      try rw [Nat.zero_add] at xa
                      clear hx
                      cases hxe : x with
                      | nil =>
                        subst hxe
                        have W1 : Hid (D ++ [] = D ∧ D.length + ([] : List UInt8).length ≤ 9000000) := hide ⟨by simp, by simp; omega⟩
                        have HN2 : Hid (LD R (j + 1) D) := hide ⟨by rw [flat_snoc HX.out, ← HD.out.1]; simp [rqX], take_snoc_all HX.out HD.out.2 (by simp [rqX])⟩
                        have hsz0 : (bA []).size = 0 := rfl
                        go_wp2_with (refine step_addW (p := D) (q := []) (r := D) rfl rfl rfl W1.out ?_)
                        exact ⟨⟨j + 1, D, rfl, by simp, hlt, by omega, HN2, trivial⟩, by simp only [intOf]; omega⟩
                      | cons a t =>
                        have hz : 0 < (bA x).size := by rw [hszx, hxe]; simp
                        have hz' : (0 : Int) < ((bA x).size : Int) := by omega
                        have hfa := first_of hxe hz
                        have hpos : 0 < x.length := by rw [hxe]; simp
                        by_cases ha : a = 120
                        · have e120 : (((((bA x)[0]'hz).toNat : Nat) : Int) == 120) = true := by rw [hfa, ha]; rfl
                          have x1 := slice_str x 1 1 rfl (by omega)
                          have hdr : x.drop 1 = t := by rw [hxe]; rfl
                          rw [hdr] at x1
                          have HYE : Hid (rqX x = t) := hide (by rw [hxe, ha]; rfl)
                          have hszt := bA_size t
                          have htl : t.length ≤ 1048576 := by have := congrArg List.length hxe; simp at this; omega
                          clear hxe ha hfa hdr
                          by_cases hx3 : 3 < t.length
                          · have HNo : Hid (rqR s = none) := hide (by
                              rw [HE.out]
                              unfold rqE
                              rw [if_neg (fun h => absurd (h _ (List.mem_of_getElem? HX.out)) (by rw [HYE.out]; omega))])
                            have hx3' : (3 : Int) < (t.length : Int) := by omega
                            go_upto_region 28 with fail
                            go_wp2_with (refine step_storeA wT rfl rfl (vs := c4 0 0 0 0) rfl G8.out rfl (One.c4 0 0 0 0) rfl ?_)
                            intro wz hgz hbutz
                            have BE := hide (B8.out.trans (hbutz.below LE.out))
                            go_wp2
                            refine bodyPost_ret (results_wide2 rfl wT _ _ rfl hgz rfl) rfl ⟨.inr ⟨rfl, .inl HNo.out⟩, BE.out⟩
                          · have HN2 : Hid (LD R (j + 1) (D ++ t)) := hide ⟨by rw [flat_snoc HX.out, ← HD.out.1, HYE.out], take_snoc_all HX.out HD.out.2 (by rw [HYE.out]; omega)⟩
                            have hx3' : ¬ (3 : Int) < (t.length : Int) := by omega
                            obtain ⟨DD, hDD⟩ : ∃ z, D ++ t = z := ⟨_, rfl⟩
                            have W1 : Hid (D ++ t = DD ∧ D.length + t.length ≤ 9000000) := hide ⟨hDD, by omega⟩
                            rw [hDD] at HN2
                            have hdl : DD.length ≤ 3 * (j + 1) := by rw [← hDD, List.length_append]; omega
                            clear hDD
                            go_wp2_with (refine step_addW (p := D) (q := t) (r := DD) rfl rfl rfl W1.out ?_)
                            exact ⟨⟨j + 1, DD, rfl, by simp, hlt, hdl, HN2, trivial⟩, by simp only [intOf]; omega⟩
                        · have e120 : (((((bA x)[0]'hz).toNat : Nat) : Int) == 120) = false := by
                            rw [hfa]
                            simp only [beq_eq_false_iff_ne, ne_eq]
                            intro e
                            refine ha (UInt8.toNat_inj.1 ?_)
                            have : a.toNat = 120 := by omega
                            rw [this]; rfl
                          have HYE : Hid (rqX x = x) := hide (by
                            rw [hxe]
                            show (if a = 120 then t else a :: t) = _
                            rw [if_neg ha])
                          clear hxe ha hfa
                          by_cases hx3 : 3 < x.length
                          · have HNo : Hid (rqR s = none) := hide (by
                              rw [HE.out]
                              unfold rqE
                              rw [if_neg (fun h => absurd (h _ (List.mem_of_getElem? HX.out)) (by rw [HYE.out]; omega))])
                            have hx3' : (3 : Int) < (x.length : Int) := by omega
                            go_upto_region 28 with fail
                            go_wp2_with (refine step_storeA wT rfl rfl (vs := c4 0 0 0 0) rfl G8.out rfl (One.c4 0 0 0 0) rfl ?_)
                            intro wz hgz hbutz
                            have BE := hide (B8.out.trans (hbutz.below LE.out))
                            go_wp2
                            refine bodyPost_ret (results_wide2 rfl wT _ _ rfl hgz rfl) rfl ⟨.inr ⟨rfl, .inl HNo.out⟩, BE.out⟩
                          · have HN2 : Hid (LD R (j + 1) (D ++ x)) := hide ⟨by rw [flat_snoc HX.out, ← HD.out.1, HYE.out], take_snoc_all HX.out HD.out.2 (by rw [HYE.out]; omega)⟩
                            have hx3' : ¬ (3 : Int) < (x.length : Int) := by omega
                            obtain ⟨DD, hDD⟩ : ∃ z, D ++ x = z := ⟨_, rfl⟩
                            have W1 : Hid (D ++ x = DD ∧ D.length + x.length ≤ 9000000) := hide ⟨hDD, by omega⟩
                            rw [hDD] at HN2
                            have hdl : DD.length ≤ 3 * (j + 1) := by rw [← hDD, List.length_append]; omega
                            clear hDD
                            go_wp2_with (refine step_addW (p := D) (q := x) (r := DD) rfl rfl rfl W1.out ?_)
                            exact ⟨⟨j + 1, DD, rfl, by simp, hlt, hdl, HN2, trivial⟩, by simp only [intOf]; omega⟩
                    · have hge : ¬ (j : Int) < (NR : Int) := by omega
                      have HDA : Hid (D = R.flatMap rqX ∧ ∀ y ∈ R, (rqX y).length ≤ 3) := hide (by
                        have hd := HD.out
                        unfold LD at hd
                        rw [List.take_of_length_le (by rw [HLN.out]; omega)] at hd
                        exact hd)
                      have HL3 := hide (plain_any D wr (by omega))
                      clear HD
                      go_wp2_with fail
                      refine HL3.out.mono ?_
                      rintro r w9 ⟨hb9, hr9⟩
                      have G9 := hide (G8.out.on hb9)
                      have T9 := hide (T8.out.on hb9)
                      have B9 := hide (on_below B8.out hb9)
                      clear hb9 HL3 G8 T8 B8 S8 HLN HLE
                      rcases hr9 with ⟨ix, hix, rfl⟩ | ⟨hno, y, rfl⟩
                      · have HSm : Hid (rqR s = some (h, l, ix, Pw)) := hide (by
                          rw [HE.out]
                          unfold rqE
                          rw [if_pos HDA.out.2, ← HDA.out.1, hix]
                          rfl)
                        clear hix HDA HE
                        have f2 := T9.out.free 2
                        obtain ⟨t0, t1, t2, t3⟩ := T9.out.four
                        go_upto_region 34 with fail
                        obtain ⟨wA, hv⟩ : ∃ v : World, v = w9.setCell ⟨g5, 2, none⟩ (.int .i64 (ix : Int)) := ⟨_, rfl⟩
                        have TA : Hid (Blk wA g5 23 (c4 (h : Int) (l : Int) (ix : Int) (Pw : Int))) := hide (by rw [hv]; exact T9.out.set 2 _)
                        have hbut : But g5 w9 wA := by rw [hv]; exact But.setCell _ _ _ _
                        have GA := hide (G9.out.but hbut hne25)
                        have BA' := hide (B9.out.trans (hbut.below L5.out))
                        rw [← hv]
                        clear hv hbut T9 G9 B9 t0 t1 t2 t3 f2
                        obtain ⟨pz, ez, hz, hzc⟩ := pathR_any (h : Int) (l : Int) (ix : Int) (Pw : Int)
                        have HPz := hide hzc
                        clear hzc
                        go_wp2_with (refine step_loadA wT rfl rfl TA.out rfl ?_)
                        refine (HPz.out _).mono ?_
                        rintro r wB ⟨rfl, hbB⟩
                        have GB := hide (GA.out.on hbB)
                        have TB := hide (TA.out.on hbB)
                        have BB := hide (on_below BA'.out hbB)
                        clear hbB GA TA BA' HPz
                        rcases hz with ⟨rfl, kz, rfl⟩ | ⟨rfl, kz, rfl⟩
                        · obtain ⟨pz, hpz⟩ : ∃ z, pathI (h : Int) (l : Int) (ix : Int) (Pw : Int) = z := ⟨_, rfl⟩
                          rw [hpz]
                          by_cases hps : pz = s
                          · have HOK : Hid (tOK (h : Int) (l : Int) (ix : Int) (Pw : Int) ∧ pathI (h : Int) (l : Int) (ix : Int) (Pw : Int) = s) := hide ⟨kz, hpz.trans hps⟩
                            have e0 : ((bA pz).toList == (bA s).toList) = true := by rw [beq_bA, decide_eq_true hps]
                            clear hps hpz kz
                            go_wp2_with (first | (refine step_loadA wT rfl rfl TB.out rfl ?_) | (refine step_storeA wT rfl rfl rfl GB.out rfl (One.c4 (h : Int) (l : Int) (ix : Int) (Pw : Int)) rfl ?_))
                            intro wz hgz hbutz
                            have BE := hide (BB.out.trans (hbutz.below LE.out))
                            go_wp2
                            refine bodyPost_ret (results_wide2 rfl wT _ _ rfl hgz rfl) rfl ⟨.inl ⟨h, l, ix, Pw, HSm.out, HOK.out.1, HOK.out.2, rfl⟩, BE.out⟩
                          · have HNt : Hid (¬ (tOK (h : Int) (l : Int) (ix : Int) (Pw : Int) ∧ pathI (h : Int) (l : Int) (ix : Int) (Pw : Int) = s)) := hide (fun k => hps (hpz.symm.trans k.2))
                            have e0 : ((bA pz).toList == (bA s).toList) = false := by rw [beq_bA, decide_eq_false hps]
                            clear hps hpz kz
                            go_upto_region 36 with fail
                            go_wp2_with (refine step_storeA wT rfl rfl (vs := c4 0 0 0 0) rfl GB.out rfl (One.c4 0 0 0 0) rfl ?_)
                            intro wz hgz hbutz
                            have BE := hide (BB.out.trans (hbutz.below LE.out))
                            go_wp2
                            refine bodyPost_ret (results_wide2 rfl wT _ _ rfl hgz rfl) rfl ⟨.inr ⟨rfl, .inr ⟨h, l, ix, _, HSm.out, HNt.out⟩⟩, BE.out⟩
                        · have HNt : Hid (¬ (tOK (h : Int) (l : Int) (ix : Int) (Pw : Int) ∧ pathI (h : Int) (l : Int) (ix : Int) (Pw : Int) = s)) := hide (fun k => kz k.1)
                          clear kz
                          go_upto_region 36 with fail
                          go_wp2_with (refine step_storeA wT rfl rfl (vs := c4 0 0 0 0) rfl GB.out rfl (One.c4 0 0 0 0) rfl ?_)
                          intro wz hgz hbutz
                          have BE := hide (BB.out.trans (hbutz.below LE.out))
                          go_wp2
                          refine bodyPost_ret (results_wide2 rfl wT _ _ rfl hgz rfl) rfl ⟨.inr ⟨rfl, .inr ⟨h, l, ix, _, HSm.out, HNt.out⟩⟩, BE.out⟩
                      · have HNo : Hid (rqR s = none) := hide (by
                          rw [HE.out]
                          unfold rqE
                          rw [if_pos HDA.out.2, ← HDA.out.1, hno]
                          rfl)
                        clear hno HDA HE
                        go_upto_region 32 with fail
                        go_wp2_with (refine step_storeA wT rfl rfl (vs := c4 0 0 0 0) rfl G9.out rfl (One.c4 0 0 0 0) rfl ?_)
                        intro wz hgz hbutz
                        have BE := hide (B9.out.trans (hbutz.below LE.out))
                        go_wp2
                        refine bodyPost_ret (results_wide2 rfl wT _ _ rfl hgz rfl) rfl ⟨.inr ⟨rfl, .inl HNo.out⟩, BE.out⟩
              · have e2 : decide (2 < (LX : Int)) = false := by simp; omega
                have e2b : decide (2 < LX) = false := by simp; omega
                have e2c : decide ((LX : Int) > 2) = false := by simp; omega
                have HE : Hid (rqR s = rqE h l Pw R) := hide (by
                  rw [HRT.out, ← HPw.out]
                  unfold rqT rqP
                  rw [HGX.out, HLX.out, decide_eq_false h2x]
                  simp)
                go_quiet (fail)
                obtain ⟨V, hV⟩ : ∃ V : World, V = w7.drewN nq := ⟨_, rfl⟩
                have hbV : Below w7.heap.size w7 V := by rw [hV]; exact below_drews (Below.refl _ _) nq
                have G8 := hide (G7.out.on hbV)
                have T8 := hide (T7.out.on hbV)
                have B8 := hide (on_below B7.out hbV)
                have S8 := hide (S7.out.below hbV)
                rw [← hV]
                clear hV hbV G7 T7 B7 S7 B7r
                have HLN := HLR
                have HLE := HRe
                clear kw ke xa cx hszx d2 d2b d2c e2 e2b e2c
                go_wp2_with fail
                go_loopw [14, 15] (fun d i wr => ∃ (j : Nat) (D : List UInt8), d = .string (bA D) ∧ i = .int .i64 (j : Int) ∧ j ≤ NR ∧ D.length ≤ 3 * j ∧ Hid (LD R j D) ∧ wr = V) (fun _ i _ => NR - (intOf i).toNat)
                case atStart => exact ⟨0, [], rfl, rfl, Nat.zero_le _, by simp, hide ⟨rfl, by simp⟩, rfl⟩
                case round =>
                  obtain ⟨j, D, rfl, rfl, hj, hDl, HD, rfl⟩ := hrel
                  by_cases hlt : j < NR
                  · have hlt' : (j : Int) < (NR : Int) := by omega
                    obtain ⟨x, hx⟩ : ∃ x, R[j]? = some x := ⟨R[j]'(by rw [HLN.out]; exact hlt), List.getElem?_eq_getElem (by rw [HLN.out]; exact hlt)⟩
                    have HX := hide hx
                    have cx := S8.out j x hx
                    have xa := st_atO gp 3 NR cr j (j : Int) rfl hlt
                    have hxl := HLE.out x (List.mem_of_getElem? hx)
                    have hszx := bA_size x
                    try rw [Nat.zero_add] at cx
                    try rw [Nat.zero_add] at xa
                    clear hx
                    cases hxe : x with
                    | nil =>
                      subst hxe
                      have W1 : Hid (D ++ [] = D ∧ D.length + ([] : List UInt8).length ≤ 9000000) := hide ⟨by simp, by simp; omega⟩
                      have HN2 : Hid (LD R (j + 1) D) := hide ⟨by rw [flat_snoc HX.out, ← HD.out.1]; simp [rqX], take_snoc_all HX.out HD.out.2 (by simp [rqX])⟩
                      have hsz0 : (bA []).size = 0 := rfl
                      go_wp2_with (refine step_addW (p := D) (q := []) (r := D) rfl rfl rfl W1.out ?_)
                      exact ⟨⟨j + 1, D, rfl, by simp, hlt, by omega, HN2, trivial⟩, by simp only [intOf]; omega⟩
                    | cons a t =>
                      have hz : 0 < (bA x).size := by rw [hszx, hxe]; simp
                      have hz' : (0 : Int) < ((bA x).size : Int) := by omega
                      have hfa := first_of hxe hz
                      have hpos : 0 < x.length := by rw [hxe]; simp
                      by_cases ha : a = 120
                      · have e120 : (((((bA x)[0]'hz).toNat : Nat) : Int) == 120) = true := by rw [hfa, ha]; rfl
                        have x1 := slice_str x 1 1 rfl (by omega)
                        have hdr : x.drop 1 = t := by rw [hxe]; rfl
                        rw [hdr] at x1
                        have HYE : Hid (rqX x = t) := hide (by rw [hxe, ha]; rfl)
                        have hszt := bA_size t
                        have htl : t.length ≤ 1048576 := by have := congrArg List.length hxe; simp at this; omega
                        clear hxe ha hfa hdr
                        by_cases hx3 : 3 < t.length
                        · have HNo : Hid (rqR s = none) := hide (by
                            rw [HE.out]
                            unfold rqE
                            rw [if_neg (fun h => absurd (h _ (List.mem_of_getElem? HX.out)) (by rw [HYE.out]; omega))])
                          have hx3' : (3 : Int) < (t.length : Int) := by omega
                          go_upto_region 28 with fail
                          go_wp2_with (refine step_storeA wT rfl rfl (vs := c4 0 0 0 0) rfl G8.out rfl (One.c4 0 0 0 0) rfl ?_)
                          intro wz hgz hbutz
                          have BE := hide (B8.out.trans (hbutz.below LE.out))
                          go_wp2
                          refine bodyPost_ret (results_wide2 rfl wT _ _ rfl hgz rfl) rfl ⟨.inr ⟨rfl, .inl HNo.out⟩, BE.out⟩
                        · have HN2 : Hid (LD R (j + 1) (D ++ t)) := hide ⟨by rw [flat_snoc HX.out, ← HD.out.1, HYE.out], take_snoc_all HX.out HD.out.2 (by rw [HYE.out]; omega)⟩
                          have hx3' : ¬ (3 : Int) < (t.length : Int) := by omega
                          obtain ⟨DD, hDD⟩ : ∃ z, D ++ t = z := ⟨_, rfl⟩
                          have W1 : Hid (D ++ t = DD ∧ D.length + t.length ≤ 9000000) := hide ⟨hDD, by omega⟩
                          rw [hDD] at HN2
                          have hdl : DD.length ≤ 3 * (j + 1) := by rw [← hDD, List.length_append]; omega
                          clear hDD
                          go_wp2_with (refine step_addW (p := D) (q := t) (r := DD) rfl rfl rfl W1.out ?_)
                          exact ⟨⟨j + 1, DD, rfl, by simp, hlt, hdl, HN2, trivial⟩, by simp only [intOf]; omega⟩
                      · have e120 : (((((bA x)[0]'hz).toNat : Nat) : Int) == 120) = false := by
                          rw [hfa]
                          simp only [beq_eq_false_iff_ne, ne_eq]
                          intro e
                          refine ha (UInt8.toNat_inj.1 ?_)
                          have : a.toNat = 120 := by omega
                          rw [this]; rfl
                        have HYE : Hid (rqX x = x) := hide (by
                          rw [hxe]
                          show (if a = 120 then t else a :: t) = _
                          rw [if_neg ha])
                        clear hxe ha hfa
                        by_cases hx3 : 3 < x.length
                        · have HNo : Hid (rqR s = none) := hide (by
                            rw [HE.out]
                            unfold rqE
                            rw [if_neg (fun h => absurd (h _ (List.mem_of_getElem? HX.out)) (by rw [HYE.out]; omega))])
                          have hx3' : (3 : Int) < (x.length : Int) := by omega
                          go_upto_region 28 with fail
                          go_wp2_with (refine step_storeA wT rfl rfl (vs := c4 0 0 0 0) rfl G8.out rfl (One.c4 0 0 0 0) rfl ?_)
                          intro wz hgz hbutz
                          have BE := hide (B8.out.trans (hbutz.below LE.out))
                          go_wp2
                          refine bodyPost_ret (results_wide2 rfl wT _ _ rfl hgz rfl) rfl ⟨.inr ⟨rfl, .inl HNo.out⟩, BE.out⟩
                        · have HN2 : Hid (LD R (j + 1) (D ++ x)) := hide ⟨by rw [flat_snoc HX.out, ← HD.out.1, HYE.out], take_snoc_all HX.out HD.out.2 (by rw [HYE.out]; omega)⟩
                          have hx3' : ¬ (3 : Int) < (x.length : Int) := by omega
                          obtain ⟨DD, hDD⟩ : ∃ z, D ++ x = z := ⟨_, rfl⟩
                          have W1 : Hid (D ++ x = DD ∧ D.length + x.length ≤ 9000000) := hide ⟨hDD, by omega⟩
                          rw [hDD] at HN2
                          have hdl : DD.length ≤ 3 * (j + 1) := by rw [← hDD, List.length_append]; omega
                          clear hDD
                          go_wp2_with (refine step_addW (p := D) (q := x) (r := DD) rfl rfl rfl W1.out ?_)
                          exact ⟨⟨j + 1, DD, rfl, by simp, hlt, hdl, HN2, trivial⟩, by simp only [intOf]; omega⟩
                  · have hge : ¬ (j : Int) < (NR : Int) := by omega
                    have HDA : Hid (D = R.flatMap rqX ∧ ∀ y ∈ R, (rqX y).length ≤ 3) := hide (by
                      have hd := HD.out
                      unfold LD at hd
                      rw [List.take_of_length_le (by rw [HLN.out]; omega)] at hd
                      exact hd)
                    have HL3 := hide (plain_any D wr (by omega))
                    clear HD
                    go_wp2_with fail
                    refine HL3.out.mono ?_
                    rintro r w9 ⟨hb9, hr9⟩
                    have G9 := hide (G8.out.on hb9)
                    have T9 := hide (T8.out.on hb9)
                    have B9 := hide (on_below B8.out hb9)
                    clear hb9 HL3 G8 T8 B8 S8 HLN HLE
                    rcases hr9 with ⟨ix, hix, rfl⟩ | ⟨hno, y, rfl⟩
                    · have HSm : Hid (rqR s = some (h, l, ix, Pw)) := hide (by
                        rw [HE.out]
                        unfold rqE
                        rw [if_pos HDA.out.2, ← HDA.out.1, hix]
                        rfl)
                      clear hix HDA HE
                      have f2 := T9.out.free 2
                      obtain ⟨t0, t1, t2, t3⟩ := T9.out.four
                      go_upto_region 34 with fail
                      obtain ⟨wA, hv⟩ : ∃ v : World, v = w9.setCell ⟨g5, 2, none⟩ (.int .i64 (ix : Int)) := ⟨_, rfl⟩
                      have TA : Hid (Blk wA g5 23 (c4 (h : Int) (l : Int) (ix : Int) (Pw : Int))) := hide (by rw [hv]; exact T9.out.set 2 _)
                      have hbut : But g5 w9 wA := by rw [hv]; exact But.setCell _ _ _ _
                      have GA := hide (G9.out.but hbut hne25)
                      have BA' := hide (B9.out.trans (hbut.below L5.out))
                      rw [← hv]
                      clear hv hbut T9 G9 B9 t0 t1 t2 t3 f2
                      obtain ⟨pz, ez, hz, hzc⟩ := pathR_any (h : Int) (l : Int) (ix : Int) (Pw : Int)
                      have HPz := hide hzc
                      clear hzc
                      go_wp2_with (refine step_loadA wT rfl rfl TA.out rfl ?_)
                      refine (HPz.out _).mono ?_
                      rintro r wB ⟨rfl, hbB⟩
                      have GB := hide (GA.out.on hbB)
                      have TB := hide (TA.out.on hbB)
                      have BB := hide (on_below BA'.out hbB)
                      clear hbB GA TA BA' HPz
                      rcases hz with ⟨rfl, kz, rfl⟩ | ⟨rfl, kz, rfl⟩
                      · obtain ⟨pz, hpz⟩ : ∃ z, pathI (h : Int) (l : Int) (ix : Int) (Pw : Int) = z := ⟨_, rfl⟩
                        rw [hpz]
                        by_cases hps : pz = s
                        · have HOK : Hid (tOK (h : Int) (l : Int) (ix : Int) (Pw : Int) ∧ pathI (h : Int) (l : Int) (ix : Int) (Pw : Int) = s) := hide ⟨kz, hpz.trans hps⟩
                          have e0 : ((bA pz).toList == (bA s).toList) = true := by rw [beq_bA, decide_eq_true hps]
                          clear hps hpz kz
                          go_wp2_with (first | (refine step_loadA wT rfl rfl TB.out rfl ?_) | (refine step_storeA wT rfl rfl rfl GB.out rfl (One.c4 (h : Int) (l : Int) (ix : Int) (Pw : Int)) rfl ?_))
                          intro wz hgz hbutz
                          have BE := hide (BB.out.trans (hbutz.below LE.out))
                          go_wp2
                          refine bodyPost_ret (results_wide2 rfl wT _ _ rfl hgz rfl) rfl ⟨.inl ⟨h, l, ix, Pw, HSm.out, HOK.out.1, HOK.out.2, rfl⟩, BE.out⟩
                        · have HNt : Hid (¬ (tOK (h : Int) (l : Int) (ix : Int) (Pw : Int) ∧ pathI (h : Int) (l : Int) (ix : Int) (Pw : Int) = s)) := hide (fun k => hps (hpz.symm.trans k.2))
                          have e0 : ((bA pz).toList == (bA s).toList) = false := by rw [beq_bA, decide_eq_false hps]
                          clear hps hpz kz
                          go_upto_region 36 with fail
                          go_wp2_with (refine step_storeA wT rfl rfl (vs := c4 0 0 0 0) rfl GB.out rfl (One.c4 0 0 0 0) rfl ?_)
                          intro wz hgz hbutz
                          have BE := hide (BB.out.trans (hbutz.below LE.out))
                          go_wp2
                          refine bodyPost_ret (results_wide2 rfl wT _ _ rfl hgz rfl) rfl ⟨.inr ⟨rfl, .inr ⟨h, l, ix, _, HSm.out, HNt.out⟩⟩, BE.out⟩
                      · have HNt : Hid (¬ (tOK (h : Int) (l : Int) (ix : Int) (Pw : Int) ∧ pathI (h : Int) (l : Int) (ix : Int) (Pw : Int) = s)) := hide (fun k => kz k.1)
                        clear kz
                        go_upto_region 36 with fail
                        go_wp2_with (refine step_storeA wT rfl rfl (vs := c4 0 0 0 0) rfl GB.out rfl (One.c4 0 0 0 0) rfl ?_)
                        intro wz hgz hbutz
                        have BE := hide (BB.out.trans (hbutz.below LE.out))
                        go_wp2
                        refine bodyPost_ret (results_wide2 rfl wT _ _ rfl hgz rfl) rfl ⟨.inr ⟨rfl, .inr ⟨h, l, ix, _, HSm.out, HNt.out⟩⟩, BE.out⟩
                    · have HNo : Hid (rqR s = none) := hide (by
                        rw [HE.out]
                        unfold rqE
                        rw [if_pos HDA.out.2, ← HDA.out.1, hno]
                        rfl)
                      clear hno HDA HE
                      go_upto_region 32 with fail
                      go_wp2_with (refine step_storeA wT rfl rfl (vs := c4 0 0 0 0) rfl G9.out rfl (One.c4 0 0 0 0) rfl ?_)
                      intro wz hgz hbutz
                      have BE := hide (B9.out.trans (hbutz.below LE.out))
                      go_wp2
                      refine bodyPost_ret (results_wide2 rfl wT _ _ rfl hgz rfl) rfl ⟨.inr ⟨rfl, .inl HNo.out⟩, BE.out⟩
          · have HNo : Hid (rqR s = none) := hide (by rw [HR1.out, HH1.out, Option.bind_some, HL1.out, Option.bind_some, if_neg hH])
            have HHc := hide (fun v => heightR_no (h : Int) v (by omega))
            go_upto_region 8 with (go_at_call 24; refine (HHc.out _).mono ?_; rintro r w' ⟨rfl, hv⟩; replace hv := hv.symm; subst hv)
            go_wp2_with (refine step_storeA wT rfl rfl (vs := c4 0 0 0 0) rfl G4.out rfl (One.c4 0 0 0 0) rfl ?_)
            intro wz hgz hbutz
            have BE := hide (B4.out.trans (hbutz.below LE.out))
            go_wp2
            refine bodyPost_ret (results_wide2 rfl wT _ _ rfl hgz rfl) rfl ⟨.inr ⟨rfl, .inl HNo.out⟩, BE.out⟩
        · have HNo : Hid (rqR s = none) := hide (by rw [HR1.out, HH1.out, Option.bind_some, hno]; rfl)
          clear hno
          go_upto_region 8 with fail
          go_wp2_with (refine step_storeA wT rfl rfl (vs := c4 0 0 0 0) rfl G4.out rfl (One.c4 0 0 0 0) rfl ?_)
          intro wz hgz hbutz
          have BE := hide (B4.out.trans (hbutz.below LE.out))
          go_wp2
          refine bodyPost_ret (results_wide2 rfl wT _ _ rfl hgz rfl) rfl ⟨.inr ⟨rfl, .inl HNo.out⟩, BE.out⟩
      · have HNo : Hid (rqR s = none) := hide (by rw [HR1.out, hno]; rfl)
        clear hno
        go_wp2_with fail
        refine HL2.out.mono ?_
        rintro r w4 ⟨hb4, hr4⟩
        have G4 := hide (G3.out.on hb4)
        have B4 := hide (on_below B3.out hb4)
        have T4 := hide (T3.out.on hb4)
        have C4 : Hid (∀ (i : Nat) (l : List UInt8), (p0 :: p1 :: p2 :: p3 :: rest)[i]? = some l → w4.cell? ⟨gp, i, none⟩ = some (.string (bA l))) := hide (fun i l hl => cell_kept (C3.out i l hl) hb4)
        clear hb4 G3 B3 T3 C3 HL2 c2 x2
        rcases hr4 with ⟨l, hl, rfl⟩ | ⟨hno, y, rfl⟩
        · clear hl
          go_upto_region 8 with fail
          go_wp2_with (refine step_storeA wT rfl rfl (vs := c4 0 0 0 0) rfl G4.out rfl (One.c4 0 0 0 0) rfl ?_)
          intro wz hgz hbutz
          have BE := hide (B4.out.trans (hbutz.below LE.out))
          go_wp2
          refine bodyPost_ret (results_wide2 rfl wT _ _ rfl hgz rfl) rfl ⟨.inr ⟨rfl, .inl HNo.out⟩, BE.out⟩
        · clear hno
          go_upto_region 8 with fail
          go_wp2_with (refine step_storeA wT rfl rfl (vs := c4 0 0 0 0) rfl G4.out rfl (One.c4 0 0 0 0) rfl ?_)
          intro wz hgz hbutz
          have BE := hide (B4.out.trans (hbutz.below LE.out))
          go_wp2
          refine bodyPost_ret (results_wide2 rfl wT _ _ rfl hgz rfl) rfl ⟨.inr ⟨rfl, .inl HNo.out⟩, BE.out⟩
    · have HNo : Hid (rqR s = none) := hide (by rw [HR0.out, if_neg hp0])
      have e0 : ((bA p0).toList == [116, 105, 108, 101]) = false := by have := beq_bA p0 tileW; rw [decide_eq_false hp0, tl_tile] at this; exact this
      go_upto_region 3 with fail
      go_wp2_with (refine step_storeA wT rfl rfl (vs := c4 0 0 0 0) rfl G1.out rfl (One.c4 0 0 0 0) rfl ?_)
      intro wz hgz hbutz
      have BE := hide (B1.out.trans (hbutz.below LE.out))
      go_wp2
      refine bodyPost_ret (results_wide2 rfl wT _ _ rfl hgz rfl) rfl ⟨.inr ⟨rfl, .inl HNo.out⟩, BE.out⟩
/-- What the document's Parse tells of any text. -/
theorem parseR_any (s : List UInt8) (hs : s.length ≤ 1048576) : ∃ h l i n e : Int, PrR s h l i n e ∧ ∀ w : World, Calls Tryd.prog 8 #[.string (bA s)] w fun r w' => r = .returned (.tuple #[.agg (c4 h l i n).toArray, .int .i64 e]) ∧ Below w.heap.size w w' := by
  by_cases hk : ∃ h l i n, tOK h l i n ∧ pathI h l i n = s
  · obtain ⟨a, b, c, d, k, e⟩ := hk
    refine ⟨a, b, c, d, 0, .inl ⟨rfl, k, e⟩, fun w => (parseR_walk s w hs).mono fun r w' ⟨hr, hb⟩ => ⟨?_, hb⟩⟩
    rcases hr with ⟨h, l, i, n, h1, h2, h3, rfl⟩ | ⟨rfl, h1 | ⟨h, l, i, n, h1, h2⟩⟩
    · obtain ⟨rfl, rfl, rfl, rfl⟩ := rq_some h1 k e
      rfl
    · exact absurd ⟨_, _, _, _, k, e⟩ (rq_none h1)
    · obtain ⟨rfl, rfl, rfl, rfl⟩ := rq_some h1 k e
      exact absurd ⟨k, e⟩ h2
  · refine ⟨0, 0, 0, 0, 100, .inr ⟨rfl, rfl, rfl, rfl, rfl, hk⟩, fun w => (parseR_walk s w hs).mono fun r w' ⟨hr, hb⟩ => ⟨?_, hb⟩⟩
    rcases hr with ⟨h, l, i, n, h1, h2, h3, rfl⟩ | ⟨rfl, _⟩
    · exact absurd ⟨_, _, _, _, h2, h3⟩ hk
    · rfl
end Go.Proofs.YtnlpgkfmjlljdaaDoor

/-
  The walk of TilePaths.
-/
namespace Go.Proofs.YtnlpgkfmjlljdaaDoor
open Go.RowKit
set_option linter.unusedVariables false
set_option linter.unusedSimpArgs false

theorem namesP_any (w : World) : Calls Tryd.prog 11 #[] w fun e w' => e = .returned (.bool true) ∧ Below w.heap.size w w' := by
  go_enter Tryd.func11, Tryd.ntmps11
  go_wp2
  go_ret
  exact ⟨rfl, Below.refl _ _⟩
set_option maxRecDepth 100000 in
set_option maxHeartbeats 4000000 in
theorem tilePaths_walk (h l i n : Int) (s : ByteArray) (w : World) (hl : l ≤ 9223372036854775807) (hi : i ≤ 9223372036854775807) (hs : s.size ≤ 1048576) (hv : EV w) :
    Calls Tryd.prog 3 #[.agg #[.int .i64 h, .int .i64 l, .int .i64 i, .int .i64 n], .string s] w fun e w' => e = .returned (.bool true) ∧ Below w.heap.size w w' := by
  obtain ⟨q, rfl⟩ : ∃ q, s = bA q := ⟨strL s, (bA_strL s).symm⟩
  rw [bA_size] at hs
  obtain ⟨y1, y2, y3, y4, ye, hy, hyc⟩ := parse_any q hs
  obtain ⟨z1, z2, z3, z4, ze, hz, hzc⟩ := parseR_any q hs
  obtain ⟨rfl, rfl, rfl, rfl, rfl⟩ := hy.uniq hz
  have HPs := hide hyc
  have HPr := hide hzc
  obtain ⟨p, e, hp, hc⟩ := path_any h l i n hl hi
  obtain ⟨p', e', hp', hc'⟩ := pathR_any h l i n
  obtain ⟨rfl, rfl⟩ : p = p' ∧ e = e' := by
    rcases hp with ⟨a1, a2, a3⟩ | ⟨a1, a2, a3⟩ <;> rcases hp' with ⟨b1, b2, b3⟩ | ⟨b1, b2, b3⟩
    · exact ⟨a3.trans b3.symm, a1.trans b1.symm⟩
    · exact absurd a2 b2
    · exact absurd b2 a2
    · exact ⟨a3.trans b3.symm, a1.trans b1.symm⟩
  have HPt := hide hc
  have HPq := hide hc'
  obtain ⟨vb, hvb, hvc⟩ := validT_any h l i n hl hi
  obtain ⟨vb', hvb', hvc'⟩ := validTR_any h l i n
  obtain rfl : vb = vb' := by
    cases vb <;> cases vb' <;> first | rfl | (exfalso; have := hvb.1; have := hvb'.1; have := hvb.2; have := hvb'.2; simp_all)
  have HVd := hide hvc
  have HVr := hide hvc'
  have HV := hide hv
  clear hyc hzc hc hc' hvc hvc' hv hy hz hp hp' hvb hvb' hl hi hs
  go_enter Tryd.func3, Tryd.ntmps3
  go_wp2_with (first | (refine step_box (cs := c4 h l i n) rfl rfl ?_; intro w1 g1 hg1 hle1 hb1; have HG1 := hide hg1; have HB1 := hide hb1; clear hg1 hb1 hle1) | (refine step_loadA wT rfl rfl HG1.out rfl ?_))
  refine (HPt.out _ (HV.out.below HB1.out).pt).mono ?_
  rintro r w2 ⟨rfl, hb2⟩
  have HG2 := hide (HG1.out.on hb2)
  have HB2 := hide (on_below HB1.out hb2)
  clear HG1 HB1 hb2 HPt
  go_wp2_with (refine step_loadA wT rfl rfl HG2.out rfl ?_)
  refine (HPq.out _).mono ?_
  rintro r w3 ⟨rfl, hb3⟩
  have HG3 := hide (HG2.out.on hb3)
  have HB3 := hide (on_below HB2.out hb3)
  clear HG2 HB2 hb3 HPq
  go_wp2_with fail
  refine (HPs.out _ (HV.out.below HB3.out)).mono ?_
  rintro r w4 ⟨rfl, hb4⟩
  have HG4 := hide (HG3.out.on hb4)
  have HB4 := hide (on_below HB3.out hb4)
  clear HG3 HB3 hb4 HPs HV
  go_wp2_with (first | (refine step_alloc zT rfl ?_; intro wa ga hga hlea hba; have HGA := hide hga; clear hga) | (refine step_storeA wT rfl rfl rfl HGA.out rfl (One.c4 y1 y2 y3 y4) rfl ?_))
  intro w5 hg5 hbut5
  have hb5 : Below w4.heap.size w4 w5 := hba.trans (hbut5.below hlea)
  have HG5 := hide (HG4.out.on hb5)
  have HB5 := hide (on_below HB4.out hb5)
  have HX5 := hide hg5
  clear hb5 hba hbut5 hlea HGA hg5 HG4 HB4
  go_wp2_with fail
  refine (HPr.out _).mono ?_
  rintro r w6 ⟨rfl, hb6⟩
  have HG6 := hide (HG5.out.on hb6)
  have HB6 := hide (on_below HB5.out hb6)
  have HX6 := hide (HX5.out.on hb6)
  clear HG5 HB5 HX5 hb6 HPr
  go_wp2_with (first | (refine step_alloc zT rfl ?_; intro wc gc hgc hlec hbc; have HGC := hide hgc; clear hgc) | (refine step_storeA wT rfl rfl rfl HGC.out rfl (One.c4 y1 y2 y3 y4) rfl ?_))
  intro w7 hg7 hbut7
  have hb7 : Below w6.heap.size w6 w7 := hbc.trans (hbut7.below hlec)
  obtain ⟨c0, c1, c2, c3⟩ := (HG6.out.on hb7).four
  obtain ⟨d0, d1, d2, d3'⟩ := (HX6.out.on hb7).four
  obtain ⟨f0, f1, f2, f3⟩ := hg7.four
  have HB7 := hide (on_below HB6.out hb7)
  clear hb7 hbc hbut7 hlec HGC hg7 HG6 HB6 HX6
  go_wp2_with fail
  have c0' := Sub.cell c0
  have c1' := Sub.cell c1
  have c2' := Sub.cell c2
  have c3' := Sub.cell c3
  have d0' := Sub.cell d0
  have d1' := Sub.cell d1
  have d2' := Sub.cell d2
  have d3'' := Sub.cell d3'
  have f0' := Sub.cell f0
  have f1' := Sub.cell f1
  have f2' := Sub.cell f2
  have f3' := Sub.cell f3
  have hne := Sub.one w7
  have hvv : (vb == vb) = true := by simp
  refine wp_region_sub (by kernel_rfl) (by kernel_rfl) ?_
  repeat (go_big_quiet_step (fail))
  go_big_quiet_step ((go_at_call 9; exact sub_call (HVd.out _)))
  repeat (go_big_quiet_step (fail))
  go_big_quiet_step ((go_at_call 10; exact sub_call (HVr.out _)))
  repeat (go_big_quiet_step (fail))
  go_big_quiet_step ((go_at_call 11; exact sub_call (namesP_any _)))
  repeat (go_big_quiet_step (fail))
  refine wpQuiet_nil ?_
  rintro _ ⟨⟨w8, hb8⟩, rfl⟩
  have HB8 := hide (on_below HB7.out hb8)
  clear hb8
  go_wp2
  go_ret
  exact ⟨rfl, HB8.out⟩
end Go.Proofs.YtnlpgkfmjlljdaaDoor
