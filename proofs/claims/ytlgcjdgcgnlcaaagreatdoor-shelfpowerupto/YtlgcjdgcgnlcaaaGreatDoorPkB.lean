/-
  Texts one behind the other: Tpd Kqa Kqt Kqb Kqm0 ShE Kmj ShZ Kqu Jls Sbh Kqc Kqd.
-/
import Derived.Test.YtlgcjdgcgnlcaaaGreatDoorPkA
import Derived.Lib.SlicesS
import Derived.Test.YtlgcjdgcgnlcaaaGreatDoorKpb
import Derived.Sort.Walk0
import Derived.Test.YtlgcjdgcgnlcaaaGreatDoorKmi
import Derived.Deep.Upon
import Derived.Ground.SlmeProg
import Derived.Shelf.SlGeneric
import Derived.Shelf.SlMaps.Equal
import Derived.Test.YtlgcjdgcgnlcaaaGreatDoorProg
import Derived.Lib.Bytes
import Derived.Ground.GgzProg
import Derived.Ground.SlgmProg
import Derived.Shelf.SlIter.Nil
import Derived.Shelf.SortM.Plain
import Derived.Shelf.SortM.SortNone
import Derived.Test.YtlgcjdgcgnlcaaaGreatDoorSsf

/-
  A text read as a tile's path: the program's Parse.
-/
namespace Go.Proofs.YtlgcjdgcgnlcaaaGreatDoor
open Go.RowKit
set_option linter.unusedVariables false
set_option linter.unusedSimpArgs false

theorem beq_bA (p q : List UInt8) : ((bA p).toList == (bA q).toList) = decide (p = q) := by
  by_cases h : p = q
  · subst h; simp
  · rw [decide_eq_false h, Lib.bytes_beq_false_iff]
    exact fun e => h (bA_inj e)
theorem run_neL {dst : Option Tmp} {ty : TypeId} {pos : String} {aft : Array Edge} {gd : Option (Nat × Bool)} {a : Act} {w : World} {x y : Operand} {p q : List UInt8} (hx : a.eval x = .string (bA p)) (hy : a.eval y = .string (bA q)) :
    (execOp a.eval ⟨dst, .binOp .neq 9 x y 9, ty, pos, aft, gd⟩).run Tryz.prog w = .ok (.value (.bool (!decide (p = q)))) w := by
  have e := beq_bA p q
  unfold execOp
  simp only [hx, hy]
  simp [go_sem]
  rw [← e]
theorem run_eqL {dst : Option Tmp} {ty : TypeId} {pos : String} {aft : Array Edge} {gd : Option (Nat × Bool)} {a : Act} {w : World} {x y : Operand} {p q : List UInt8} (hx : a.eval x = .string (bA p)) (hy : a.eval y = .string (bA q)) :
    (execOp a.eval ⟨dst, .binOp .eql 9 x y 9, ty, pos, aft, gd⟩).run Tryz.prog w = .ok (.value (.bool (decide (p = q)))) w := by
  have e := beq_bA p q
  unfold execOp
  simp only [hx, hy]
  simp [go_sem]
  exact e
section
variable {dst : Option Tmp} {ty : TypeId} {pos : String} {aft : Array Edge} {gd : Option (Nat × Bool)} {ops : Array Oper} {rest : List Oper} {a : Act} {w : World} {Q : Exit → Act → World → Prop}
theorem step_neL {x y : Operand} {p q : List UInt8} (z : Bool) (hq : (!decide (p = q)) = z) (hw : Region.wanted ⟨dst, .binOp .neq 9 x y 9, ty, pos, aft, gd⟩ (yielded ops a.tmps) = true) (hx : a.eval x = .string (bA p)) (hy : a.eval y = .string (bA q))
    (h : wpList Tryz.prog ops Q rest (a.put dst (.bool z)) w) : wpList Tryz.prog ops Q (⟨dst, .binOp .neq 9 x y 9, ty, pos, aft, gd⟩ :: rest) a w :=
  step_run hw (.bool z) w (by rw [run_neL hx hy, hq]) h
theorem step_eqL {x y : Operand} {p q : List UInt8} (z : Bool) (hq : decide (p = q) = z) (hw : Region.wanted ⟨dst, .binOp .eql 9 x y 9, ty, pos, aft, gd⟩ (yielded ops a.tmps) = true) (hx : a.eval x = .string (bA p)) (hy : a.eval y = .string (bA q))
    (h : wpList Tryz.prog ops Q rest (a.put dst (.bool z)) w) : wpList Tryz.prog ops Q (⟨dst, .binOp .eql 9 x y 9, ty, pos, aft, gd⟩ :: rest) a w :=
  step_run hw (.bool z) w (by rw [run_eqL hx hy, hq]) h
end
theorem g_bd (s : List UInt8) : gL s ≤ 9223372036854775807 ∧ gI s ≤ 9223372036854775807 := ⟨(nuF_bd _).2, (nuF_bd _).2⟩
/-- What Parse tells of any text. -/
def PrR (s : List UInt8) (h l i n e : Int) : Prop := (e = 0 ∧ tOK h l i n ∧ pathI h l i n = s) ∨ (e = 100 ∧ h = 0 ∧ l = 0 ∧ i = 0 ∧ n = 0 ∧ ¬ ∃ h l i n, tOK h l i n ∧ pathI h l i n = s)
theorem pathI_inj {h l i n h' l' i' n' : Int} (k : tOK h l i n) (k' : tOK h' l' i' n') (e : pathI h l i n = pathI h' l' i' n') : h = h' ∧ l = l' ∧ i = i' ∧ n = n' := by
  obtain ⟨a1, a2, a3, a4⟩ := pathI_g k
  obtain ⟨b1, b2, b3, b4⟩ := pathI_g k'
  rw [e] at a1 a2 a3 a4
  exact ⟨a1.symm.trans b1, a2.symm.trans b2, a3.symm.trans b3, a4.symm.trans b4⟩
theorem PrR.uniq {s : List UInt8} {h l i n e h' l' i' n' e' : Int} (k : PrR s h l i n e) (k' : PrR s h' l' i' n' e') : h = h' ∧ l = l' ∧ i = i' ∧ n = n' ∧ e = e' := by
  rcases k with ⟨rfl, k, q⟩ | ⟨rfl, rfl, rfl, rfl, rfl, k⟩ <;> rcases k' with ⟨rfl, k', q'⟩ | ⟨rfl, rfl, rfl, rfl, rfl, k'⟩
  · obtain ⟨a, b, c, d⟩ := pathI_inj k k' (q.trans q'.symm)
    exact ⟨a, b, c, d, rfl⟩
  · exact absurd ⟨_, _, _, _, k, q⟩ k'
  · exact absurd ⟨_, _, _, _, k', q'⟩ k
  · exact ⟨rfl, rfl, rfl, rfl, rfl⟩
theorem zT0 : (c4 0 0 0 0 : List Value) = [.int .i64 0, .int .i64 0, .int .i64 0, .int .i64 0] := rfl
set_option maxRecDepth 100000 in
set_option maxHeartbeats 1000000 in
theorem parse_any (s : List UInt8) (hs : s.length ≤ 1048576) : ∃ h l i n e : Int, PrR s h l i n e ∧ ∀ w : World, EV w → Calls Tryz.prog 71 #[.string (bA s)] w fun r w' => r = .returned (.tuple #[.agg (c4 h l i n).toArray, .int .i64 e]) ∧ Below w.heap.size w w' := by
  have hg := g_bd s
  obtain ⟨p, e, hp, hc⟩ := path_any (gH s) (gL s) (gI s) (gW s) hg.1 hg.2
  have HGu := hide (fun v hv => guess_any s v hs hv)
  have HPt := hide hc
  by_cases hk : tOK (gH s) (gL s) (gI s) (gW s) ∧ pathI (gH s) (gL s) (gI s) (gW s) = s
  · obtain ⟨rfl, rfl⟩ : e = 0 ∧ p = s := by
      rcases hp with ⟨h1, h2, h3⟩ | ⟨h1, h2, h3⟩
      · exact ⟨h1, h3.trans hk.2⟩
      · exact absurd hk.1 h2
    refine ⟨_, _, _, _, 0, .inl ⟨rfl, hk⟩, fun w hv => ?_⟩
    have HV := hide hv
    clear hv hp hc hk hg
    generalize gH p = t1 at *
    generalize gL p = t2 at *
    generalize gI p = t3 at *
    generalize gW p = t4 at *
    go_enter Tryz.func71, Tryz.ntmps71
    go_wp2_with (refine step_alloc zT rfl ?_)
    intro w0 g2 hg hle hb
    have G0 := hide hg
    have B0 := hide hb
    have LE := hide hle
    clear hg hb hle
    go_wp2_with fail
    refine (HGu.out _ (HV.out.below B0.out)).mono ?_
    rintro r w1 ⟨rfl, hb1⟩
    have G1 := hide (G0.out.on hb1)
    have B1 := hide (on_below B0.out hb1)
    clear hb1 G0 B0 HGu
    go_wp2_with (first | (refine step_alloc zT rfl ?_; intro wa ga hga hlea hba; have HGA := hide hga; clear hga) | (refine step_storeA wT rfl rfl rfl HGA.out rfl (One.c4 t1 t2 t3 t4) rfl ?_))
    intro wb hgb hbutb
    have hbb : Below w1.heap.size w1 wb := hba.trans (hbutb.below hlea)
    have Gb := hide (G1.out.on hbb)
    have Bb := hide (on_below B1.out hbb)
    have Tb := hide hgb
    clear hbb hba hbutb hlea HGA hgb G1 B1
    go_wp2_with (refine step_loadA wT rfl rfl Tb.out rfl ?_)
    refine (HPt.out _ (HV.out.below Bb.out).pt).mono ?_
    rintro r wc ⟨rfl, hbc⟩
    have Gc := hide (Gb.out.on hbc)
    have Tc := hide (Tb.out.on hbc)
    have Bc := hide (on_below Bb.out hbc)
    clear Gb Tb Bb hbc HPt HV
    go_wp2_with (first | (refine step_neL (p := p) (q := p) false (by simp) rfl rfl rfl ?_) | (refine step_loadA wT rfl rfl Tc.out rfl ?_) | (refine step_storeA wT rfl rfl rfl Gc.out rfl (One.c4 t1 t2 t3 t4) rfl ?_))
    intro wd hgd hbutd
    have BE := hide (Bc.out.trans (hbutd.below LE.out))
    go_wp2
    refine bodyPost_ret (results_wide2 rfl wT _ _ rfl hgd rfl) rfl ⟨rfl, BE.out⟩
  · refine ⟨0, 0, 0, 0, 100, .inr ⟨rfl, rfl, rfl, rfl, rfl, fun ⟨a, b, c, d, k1, k2⟩ => hk ?_⟩, fun w hv => ?_⟩
    · obtain ⟨e1, e2, e3, e4⟩ := pathI_g k1
      rw [k2] at e1 e2 e3 e4
      rw [e1, e2, e3, e4]
      exact ⟨k1, k2⟩
    · have HV := hide hv
      by_cases he : e = 0
      · subst he
        have hne : p ≠ s := by
          rcases hp with ⟨_, h2, h3⟩ | ⟨h1, _, _⟩
          · exact fun h => hk ⟨h2, h3.symm.trans h⟩
          · cases h1
        clear hv hp hc hk hg
        generalize gH s = t1 at *
        generalize gL s = t2 at *
        generalize gI s = t3 at *
        generalize gW s = t4 at *
        go_enter Tryz.func71, Tryz.ntmps71
        go_wp2_with (refine step_alloc zT rfl ?_)
        intro w0 g2 hg hle hb
        have G0 := hide hg
        have B0 := hide hb
        have LE := hide hle
        clear hg hb hle
        go_wp2_with fail
        refine (HGu.out _ (HV.out.below B0.out)).mono ?_
        rintro r w1 ⟨rfl, hb1⟩
        have G1 := hide (G0.out.on hb1)
        have B1 := hide (on_below B0.out hb1)
        clear hb1 G0 B0 HGu
        go_wp2_with (first | (refine step_alloc zT rfl ?_; intro wa ga hga hlea hba; have HGA := hide hga; clear hga) | (refine step_storeA wT rfl rfl rfl HGA.out rfl (One.c4 t1 t2 t3 t4) rfl ?_))
        intro wb hgb hbutb
        have hbb : Below w1.heap.size w1 wb := hba.trans (hbutb.below hlea)
        have Gb := hide (G1.out.on hbb)
        have Bb := hide (on_below B1.out hbb)
        have Tb := hide hgb
        clear hbb hba hbutb hlea HGA hgb G1 B1
        go_wp2_with (refine step_loadA wT rfl rfl Tb.out rfl ?_)
        refine (HPt.out _ (HV.out.below Bb.out).pt).mono ?_
        rintro r wc ⟨rfl, hbc⟩
        have Gc := hide (Gb.out.on hbc)
        have Tc := hide (Tb.out.on hbc)
        have Bc := hide (on_below Bb.out hbc)
        clear Gb Tb Bb hbc HPt HV
        go_wp2_with (first | (refine step_neL (p := p) (q := s) true (by simp [hne]) rfl rfl rfl ?_) | (refine step_storeA wT rfl rfl (vs := c4 0 0 0 0) rfl Gc.out rfl (One.c4 0 0 0 0) rfl ?_))
        intro wd hgd hbutd
        have BE := hide (Bc.out.trans (hbutd.below LE.out))
        go_wp2
        refine bodyPost_ret (results_wide2 rfl wT _ _ rfl hgd rfl) rfl ⟨rfl, BE.out⟩
      · have heb : ¬ e = 0 := he
        have he2 : e = 2 := by
          rcases hp with ⟨h1, _, _⟩ | ⟨h1, _, _⟩
          · exact absurd h1 he
          · exact h1
        subst he2
        clear hv hp hc hk hg he heb
        generalize gH s = t1 at *
        generalize gL s = t2 at *
        generalize gI s = t3 at *
        generalize gW s = t4 at *
        go_enter Tryz.func71, Tryz.ntmps71
        go_wp2_with (refine step_alloc zT rfl ?_)
        intro w0 g2 hg hle hb
        have G0 := hide hg
        have B0 := hide hb
        have LE := hide hle
        clear hg hb hle
        go_wp2_with fail
        refine (HGu.out _ (HV.out.below B0.out)).mono ?_
        rintro r w1 ⟨rfl, hb1⟩
        have G1 := hide (G0.out.on hb1)
        have B1 := hide (on_below B0.out hb1)
        clear hb1 G0 B0 HGu
        go_wp2_with (first | (refine step_alloc zT rfl ?_; intro wa ga hga hlea hba; have HGA := hide hga; clear hga) | (refine step_storeA wT rfl rfl rfl HGA.out rfl (One.c4 t1 t2 t3 t4) rfl ?_))
        intro wb hgb hbutb
        have hbb : Below w1.heap.size w1 wb := hba.trans (hbutb.below hlea)
        have Gb := hide (G1.out.on hbb)
        have Bb := hide (on_below B1.out hbb)
        have Tb := hide hgb
        clear hbb hba hbutb hlea HGA hgb G1 B1
        go_wp2_with (refine step_loadA wT rfl rfl Tb.out rfl ?_)
        refine (HPt.out _ (HV.out.below Bb.out).pt).mono ?_
        rintro r wc ⟨rfl, hbc⟩
        have Gc := hide (Gb.out.on hbc)
        have Tc := hide (Tb.out.on hbc)
        have Bc := hide (on_below Bb.out hbc)
        clear Gb Tb Bb hbc HPt HV
        go_wp2_with (refine step_storeA wT rfl rfl (vs := c4 0 0 0 0) rfl Gc.out rfl (One.c4 0 0 0 0) rfl ?_)
        intro wd hgd hbutd
        have BE := hide (Bc.out.trans (hbutd.below LE.out))
        go_wp2
        refine bodyPost_ret (results_wide2 rfl wT _ _ rfl hgd rfl) rfl ⟨rfl, BE.out⟩
end Go.Proofs.YtlgcjdgcgnlcaaaGreatDoor

/-
  The document's files: by rising names, one behind the other, without any program.
-/
namespace Go.Proofs.YtlgcjdgcgnlcaaaGreatDoor
open Go.RowKit
set_option linter.unusedVariables false

theorem bl_irr : ∀ x : List UInt8, Op.bytesLess x x = false
  | [] => rfl
  | a :: x => by
    unfold Op.bytesLess
    have h := bl_irr x
    simp [h]
theorem bl_tot : ∀ x y : List UInt8, x ≠ y → Op.bytesLess x y = false → Op.bytesLess y x = true
  | [], [], h, _ => absurd rfl h
  | [], b :: y, _, h => by simp [Op.bytesLess] at h
  | a :: x, [], _, _ => by simp [Op.bytesLess]
  | a :: x, b :: y, h, h' => by
    unfold Op.bytesLess at h' ⊢
    simp only [Bool.or_eq_false_iff, decide_eq_false_iff_not, Bool.and_eq_false_iff, beq_eq_false_iff_ne] at h'
    simp only [Bool.or_eq_true, decide_eq_true_eq, Bool.and_eq_true, beq_iff_eq]
    by_cases hab : a = b
    · right
      refine ⟨hab.symm, bl_tot x y (fun e => h (by rw [hab, e])) ?_⟩
      rcases h'.2 with h2 | h2
      · exact absurd hab h2
      · exact h2
    · left
      exact UInt8.lt_of_le_of_ne (UInt8.not_lt.1 h'.1) (Ne.symm hab)
theorem bl_trans : ∀ x y z : List UInt8, Op.bytesLess x y = true → Op.bytesLess y z = true → Op.bytesLess x z = true
  | _, _, [], _, h => by simp [Op.bytesLess] at h
  | _, [], _ :: _, h, _ => by simp [Op.bytesLess] at h
  | [], _ :: _, _ :: _, _, _ => by simp [Op.bytesLess]
  | a :: x, b :: y, c :: z, h1, h2 => by
    unfold Op.bytesLess at h1 h2 ⊢
    simp only [Bool.or_eq_true, decide_eq_true_eq, Bool.and_eq_true, beq_iff_eq] at h1 h2 ⊢
    rcases h1 with h1 | ⟨h1, h1'⟩
    · rcases h2 with h2 | ⟨h2, h2'⟩
      · exact .inl (UInt8.lt_trans h1 h2)
      · exact .inl (h2 ▸ h1)
    · rcases h2 with h2 | ⟨h2, h2'⟩
      · exact .inl (h1 ▸ h2)
      · exact .inr ⟨h1.trans h2, bl_trans x y z h1' h2'⟩

def blt (a b : ByteArray) : Bool := Op.bytesLess a.toList b.toList
theorem blt_irr (a : ByteArray) : blt a a = false := bl_irr _
theorem blt_ne {a b : ByteArray} (h : blt a b = true) : a ≠ b := fun e => by rw [e, blt_irr] at h; cases h
theorem bytes_inj {a b : ByteArray} (h : a.toList = b.toList) : a = b := by
  rw [ByteArray.toList_eq, ByteArray.toList_eq] at h
  exact ByteArray.ext (Array.toList_inj.1 h)
theorem blt_tot {a b : ByteArray} (h : a ≠ b) (h' : blt a b = false) : blt b a = true := bl_tot _ _ (fun e => h (bytes_inj e)) h'
theorem blt_trans {a b c : ByteArray} (h : blt a b = true) (h' : blt b c = true) : blt a c = true := bl_trans _ _ _ h h'

def Srt (l : List (ByteArray × List Int)) : Prop := l.Pairwise fun a b => blt a.1 b.1 = true
/-- Files as a function, and as a list by rising names. -/
structure FL (f : ByteArray → Option (List Int)) (l : List (ByteArray × List Int)) : Prop where
  srt : Srt l
  mem : ∀ n xs, f n = some xs ↔ (n, xs) ∈ l
theorem FL.nil : FL (fun _ => none) [] := ⟨List.Pairwise.nil, fun n xs => by simp⟩
def posF (l : List (ByteArray × List Int)) (n : ByteArray) : Nat := (l.takeWhile fun x => blt x.1 n).length
theorem posF_lt : ∀ (l : List (ByteArray × List Int)) (n : ByteArray) (i : Nat) (x : ByteArray × List Int), l[i]? = some x → i ≤ posF l n → (blt x.1 n = true ↔ i < posF l n)
  | [], _, _, _, h, _ => by simp at h
  | y :: l, n, 0, x, h, _ => by
    simp at h
    subst h
    cases hb : blt y.1 n <;> simp [posF, hb]
  | y :: l, n, i + 1, x, h, hi => by
    simp at h
    cases hb : blt y.1 n with
    | false => simp [posF, hb] at hi
    | true =>
      have e : posF (y :: l) n = posF l n + 1 := by simp [posF, hb]
      rw [e] at hi ⊢
      rw [posF_lt l n i x h (by omega)]
      omega
theorem posF_le (l : List (ByteArray × List Int)) (n : ByteArray) : posF l n ≤ l.length := (List.takeWhile_sublist _).length_le
theorem takeWhile_all {p : (ByteArray × List Int) → Bool} : ∀ (l : List (ByteArray × List Int)), ∀ x ∈ l.takeWhile p, p x = true
  | [], x, h => by simp at h
  | y :: l, x, h => by
    rw [List.takeWhile_cons] at h
    split at h
    · rename_i hy
      rcases List.mem_cons.1 h with rfl | h
      · exact hy
      · exact takeWhile_all l x h
    · cases h
theorem dropWhile_hd {p : (ByteArray × List Int) → Bool} : ∀ (l : List (ByteArray × List Int)) {y : ByteArray × List Int} {t : List (ByteArray × List Int)}, l.dropWhile p = y :: t → p y = false
  | [], y, t, h => by simp at h
  | z :: l, y, t, h => by
    rw [List.dropWhile_cons] at h
    split at h
    · exact dropWhile_hd l h
    · rename_i hz
      injection h with h1 h2
      subst h1
      simpa using hz
/-- Where a name stands, or would stand. -/
theorem FL.split {f : ByteArray → Option (List Int)} {l : List (ByteArray × List Int)} (h : FL f l) (n : ByteArray) :
    ∃ A B, l = A ++ B ∧ A.length = posF l n ∧ (∀ a ∈ A, blt a.1 n = true) ∧ ((f n = none ∧ ∀ b ∈ B, blt n b.1 = true) ∨ ∃ xs B', f n = some xs ∧ B = (n, xs) :: B' ∧ ∀ b ∈ B', blt n b.1 = true) := by
  obtain ⟨A, hA⟩ : ∃ A, A = l.takeWhile fun x => blt x.1 n := ⟨_, rfl⟩
  obtain ⟨B, hB⟩ : ∃ B, B = l.dropWhile fun x => blt x.1 n := ⟨_, rfl⟩
  have hl : l = A ++ B := by rw [hA, hB, List.takeWhile_append_dropWhile]
  have hA2 : ∀ a ∈ A, blt a.1 n = true := by rw [hA]; exact takeWhile_all (p := fun x => blt x.1 n) l
  refine ⟨A, B, hl, by rw [hA]; rfl, hA2, ?_⟩
  have hs := h.srt
  rw [hl] at hs
  have hsB := (List.pairwise_append.1 hs).2.1
  have hout : ∀ xs, (n, xs) ∈ l → (n, xs) ∈ B := fun xs hx => by
    rw [hl] at hx
    rcases List.mem_append.1 hx with hx | hx
    · exact absurd rfl (blt_ne (hA2 _ hx))
    · exact hx
  cases hBc : B with
  | nil =>
    refine .inl ⟨?_, fun b hb => by cases hb⟩
    cases hf : f n with
    | none => rfl
    | some xs =>
      have := hout xs ((h.mem n xs).1 hf)
      rw [hBc] at this
      cases this
  | cons y t =>
    rw [hBc] at hsB hB
    have hy : blt y.1 n = false := dropWhile_hd (p := fun x => blt x.1 n) l hB.symm
    have hst := List.pairwise_cons.1 hsB
    by_cases hyn : y.1 = n
    · right
      have hye : y = (n, y.2) := by rw [← hyn]
      refine ⟨y.2, t, (h.mem n y.2).2 (by rw [hl, hBc, ← hye]; simp), by rw [← hye], fun b hb => by have := hst.1 b hb; rw [hyn] at this; exact this⟩
    · left
      have h1 : blt n y.1 = true := blt_tot hyn hy
      have h2 : ∀ b ∈ y :: t, blt n b.1 = true := fun b hb => by
        rcases List.mem_cons.1 hb with rfl | hb
        · exact h1
        · exact blt_trans h1 (hst.1 b hb)
      refine ⟨?_, h2⟩
      cases hf : f n with
      | none => rfl
      | some xs =>
        have := hout xs ((h.mem n xs).1 hf)
        rw [hBc] at this
        exact absurd rfl (blt_ne (h2 _ this))
section
variable {f : ByteArray → Option (List Int)} {A B : List (ByteArray × List Int)} {n : ByteArray}
/-- The file at a name's place: new, or turned. -/
theorem FL.put (h : FL f (A ++ B)) (hA : ∀ a ∈ A, blt a.1 n = true) (hB : ∀ b ∈ B, blt n b.1 = true) (xs : List Int) : FL (upd f n (some xs)) (A ++ (n, xs) :: B) := by
  obtain ⟨h1, h2, h3⟩ := List.pairwise_append.1 h.srt
  refine ⟨List.pairwise_append.2 ⟨h1, List.pairwise_cons.2 ⟨hB, h2⟩, fun a ha b hb => ?_⟩, fun m ys => ?_⟩
  · rcases List.mem_cons.1 hb with rfl | hb
    · exact hA a ha
    · exact h3 a ha b hb
  · have hm := h.mem m ys
    unfold upd
    by_cases e : m = n
    · subst e
      rw [if_pos rfl]
      constructor
      · intro e
        injection e with e
        subst e
        simp
      · intro hx
        rcases List.mem_append.1 hx with hx | hx
        · exact absurd rfl (blt_ne (hA _ hx))
        · rcases List.mem_cons.1 hx with hx | hx
          · injection hx with _ hx
            rw [hx]
          · exact absurd rfl (blt_ne (hB _ hx))
    · rw [if_neg e, hm]
      simp only [List.mem_append, List.mem_cons, Prod.mk.injEq, e, false_and, false_or]
theorem FL.turn {ys : List Int} (h : FL f (A ++ (n, ys) :: B)) (hA : ∀ a ∈ A, blt a.1 n = true) (hB : ∀ b ∈ B, blt n b.1 = true) : FL (upd f n none) (A ++ B) := by
  obtain ⟨h1, h2, h3⟩ := List.pairwise_append.1 h.srt
  refine ⟨List.pairwise_append.2 ⟨h1, (List.pairwise_cons.1 h2).2, fun a ha b hb => h3 a ha b (List.mem_cons_of_mem _ hb)⟩, fun m zs => ?_⟩
  have hm := h.mem m zs
  unfold upd
  by_cases e : m = n
  · subst e
    rw [if_pos rfl]
    refine ⟨fun h => (by cases h), fun hx => ?_⟩
    rcases List.mem_append.1 hx with hx | hx
    · exact absurd rfl (blt_ne (hA _ hx))
    · exact absurd rfl (blt_ne (hB _ hx))
  · rw [if_neg e, hm]
    simp only [List.mem_append, List.mem_cons, Prod.mk.injEq, e, false_and, false_or]
theorem FL.set {ys : List Int} (h : FL f (A ++ (n, ys) :: B)) (hA : ∀ a ∈ A, blt a.1 n = true) (hB : ∀ b ∈ B, blt n b.1 = true) (xs : List Int) : FL (upd f n (some xs)) (A ++ (n, xs) :: B) := by
  have := (h.turn hA hB).put hA hB xs
  rw [upd_upd] at this
  exact this
end
/-- Two lists by rising names with the same files are the same. -/
theorem srt_ext : ∀ (l l' : List (ByteArray × List Int)), Srt l → Srt l' → (∀ x, x ∈ l ↔ x ∈ l') → l = l'
  | [], [], _, _, _ => rfl
  | [], y :: t, _, _, h => by have := (h y).2 (by simp); cases this
  | x :: t, [], _, _, h => by have := (h x).1 (by simp); cases this
  | x :: t, y :: t', h1, h2, h => by
    have p1 := List.pairwise_cons.1 h1
    have p2 := List.pairwise_cons.1 h2
    have e : x = y := by
      rcases List.mem_cons.1 ((h x).1 (by simp)) with e | hx
      · exact e
      · rcases List.mem_cons.1 ((h y).2 (by simp)) with e | hy
        · exact e.symm
        · have a1 := p2.1 x hx
          have a2 := p1.1 y hy
          exact absurd rfl (blt_ne (blt_trans a1 a2))
    subst e
    rw [srt_ext t t' p1.2 p2.2 (fun z => ?_)]
    have hz := h z
    simp only [List.mem_cons] at hz
    constructor
    · intro hm
      rcases hz.1 (.inr hm) with e | h'
      · exact absurd e.symm (fun e => by have := p1.1 z hm; rw [e] at this; exact absurd rfl (blt_ne this))
      · exact h'
    · intro hm
      rcases hz.2 (.inr hm) with e | h'
      · exact absurd e.symm (fun e => by have := p2.1 z hm; rw [e] at this; exact absurd rfl (blt_ne this))
      · exact h'
theorem FL.ext {f f' : ByteArray → Option (List Int)} {l l' : List (ByteArray × List Int)} (h : FL f l) (h' : FL f' l') : l = l' ↔ f = f' := by
  constructor
  · rintro rfl
    funext n
    cases hf : f n with
    | none =>
      cases hf' : f' n with
      | none => rfl
      | some xs => have := (h.mem n xs).2 ((h'.mem n xs).1 hf'); rw [hf] at this; cases this
    | some xs => exact ((h'.mem n xs).2 ((h.mem n xs).1 hf)).symm
  · rintro rfl
    exact srt_ext _ _ h.srt h'.srt (fun x => by rw [show x = (x.1, x.2) from rfl, ← h.mem, ← h'.mem])
/-- What a rename makes, done as the document does it: first the old name goes. -/
theorem ren_upd (f : ByteArray → Option (List Int)) {n t : ByteArray} (h : n ≠ t) (xs : List Int) : upd (upd f n none) t (some xs) = upd (upd f t (some xs)) n none := by
  funext x
  unfold upd
  by_cases h1 : x = t
  · subst h1
    rw [if_pos rfl, if_neg (Ne.symm h), if_pos rfl]
  · by_cases h2 : x = n
    · subst h2
      rw [if_neg h1, if_pos rfl, if_pos rfl]
    · rw [if_neg h1, if_neg h2, if_neg h2, if_neg h1]

end Go.Proofs.YtlgcjdgcgnlcaaaGreatDoor

/-
  The names of a disk's files, sorted: the document's list.
-/
namespace Go.Proofs.YtlgcjdgcgnlcaaaGreatDoor
open Go.RowKit
set_option linter.unusedVariables false

theorem le_iff (x y : List UInt8) : decide (x ≤ y) = !Op.bytesLess y x := by
  rw [bytesLess_eq]
  rw [← decide_not]
  exact decide_eq_decide.2 Iff.rfl
theorem perm_of_mem {α : Type} : ∀ {a b : List α}, a.Nodup → b.Nodup → (∀ x, x ∈ a ↔ x ∈ b) → a.Perm b
  | [], b, _, _, h => by
    cases b with
    | nil => exact List.Perm.refl _
    | cons y t => have := (h y).2 (by simp); cases this
  | x :: a, b, ha, hb, h => by
    obtain ⟨s, t, rfl⟩ := List.append_of_mem ((h x).1 (by simp))
    have hx : x ∉ a := (List.nodup_cons.1 ha).1
    have hp : (s ++ x :: t).Perm (x :: (s ++ t)) := List.perm_middle
    have hb2 := hp.nodup_iff.1 hb
    have hx2 : x ∉ s ++ t := (List.nodup_cons.1 hb2).1
    refine (List.Perm.cons x (perm_of_mem (List.nodup_cons.1 ha).2 (List.nodup_cons.1 hb2).2 (fun z => ?_))).trans hp.symm
    have hz := h z
    rw [hp.mem_iff] at hz
    simp only [List.mem_cons] at hz
    constructor
    · intro hm
      rcases hz.1 (.inr hm) with e | e
      · subst e; exact absurd hm hx
      · exact e
    · intro hm
      rcases hz.2 (.inr hm) with e | e
      · subst e; exact absurd hm hx2
      · exact e
theorem sort_names {f : ByteArray → Option (List Int)} {l : List (ByteArray × List Int)} (h : FL f l) {ns : List ByteArray} (hn : ns.Nodup) (hm : ∀ n, n ∈ ns ↔ (f n).isSome = true) {ss : List (List UInt8)} (hp : ss.Perm (ns.map fun x => x.toList)) :
    ss.mergeSort (fun x y => decide (x ≤ y)) = l.map (fun x => x.1.toList) := by
  have hle : ∀ x y : List UInt8, decide (x ≤ y) = true ↔ Op.bytesLess y x = false := fun x y => by rw [le_iff]; simp
  have hlsrt : (l.map fun x => x.1.toList).Pairwise (fun x y => decide (x ≤ y) = true) := by
    rw [List.pairwise_map]
    refine h.srt.imp (fun {a b} hab => ?_)
    rw [hle]
    cases hba : Op.bytesLess b.1.toList a.1.toList with
    | false => rfl
    | true => have := bl_trans _ _ _ hab hba; rw [bl_irr] at this; cases this
  have hlnd : (l.map fun x => x.1).Nodup := by
    rw [List.Nodup, List.pairwise_map]
    exact h.srt.imp (fun {a b} hab => blt_ne hab)
  have hperm : ns.Perm (l.map fun x => x.1) := perm_of_mem hn hlnd (fun n => by
    rw [hm]
    constructor
    · intro hs
      cases hf : f n with
      | none => rw [hf] at hs; cases hs
      | some xs => exact List.mem_map.2 ⟨(n, xs), (h.mem n xs).1 hf, rfl⟩
    · intro hs
      obtain ⟨x, hx, rfl⟩ := List.mem_map.1 hs
      rw [(h.mem x.1 x.2).2 hx]
      rfl)
  have hp2 : (ss.mergeSort (fun x y => decide (x ≤ y))).Perm (l.map fun x => x.1.toList) := by
    refine (List.mergeSort_perm _ _).trans (hp.trans ?_)
    have := hperm.map (fun x : ByteArray => x.toList)
    rw [List.map_map] at this
    exact this
  refine hp2.eq_of_pairwise (le := fun x y => decide (x ≤ y) = true) (fun a b _ _ h1 h2 => ?_) (List.pairwise_mergeSort (fun a b c h1 h2 => ?_) (fun a b => ?_) ss) hlsrt
  · rw [hle] at h1 h2
    by_cases e : a = b
    · exact e
    · have := bl_tot a b e h2
      rw [h1] at this
      cases this
  · rw [hle] at h1 h2 ⊢
    cases hca : Op.bytesLess c a with
    | false => rfl
    | true =>
      by_cases e : b = a
      · subst e; rw [h2] at hca; cases hca
      · have h3 := bl_tot b a e h1
        have h4 := bl_trans _ _ _ hca h3
        rw [h2] at h4
        cases h4
  · cases hba : Op.bytesLess b a with
    | false => rw [le_iff, hba]; rfl
    | true =>
      have : Op.bytesLess a b = false := by
        cases hab : Op.bytesLess a b with
        | false => rfl
        | true => have := bl_trans _ _ _ hab hba; rw [bl_irr] at this; cases this
      rw [le_iff b a, this]
      simp

end Go.Proofs.YtlgcjdgcgnlcaaaGreatDoor

/-
  Slices of wide elements over any element type: parts of them, append of a part, elements.
-/
namespace Go.Proofs.YtlgcjdgcgnlcaaaGreatDoor
open Go.RowKit
set_option linter.unusedVariables false

/-- An element's type and its slices'. -/
structure Ro (T e : TypeId) (q by' : Nat) (z : Value) : Prop where
  und : Tryz.prog.underlying T = some (.slice e)
  el : Tryz.prog.elem T = e
  info : (Tryz.prog.info? e).map (fun i => (i.zero, i.size, i.bytes)) = some (some z, q, by')
  zs : z.cells.size = q
  q0 : 0 < q
  q9 : by' ≤ 128
  sz : ∀ w, (sizeOf e).run Tryz.prog w = .ok q w
theorem Ro.und2 {T e : TypeId} {q by' : Nat} {z : Value} (R : Ro T e q by' z) : Tryz.prog.underlying T = some (.slice (Tryz.prog.elem T)) := by rw [R.el]; exact R.und
/-- A slice's elements, seen. -/
structure Vw (w : World) (e : TypeId) (q : Nat) (v : Value) (n : Nat) (xs : List Value) : Prop where
  len : xs.length = n * q
  at' : ∃ a c, v = .slice a n c ∧ n ≤ c ∧ (n ≠ 0 → ∃ g o cs, a = some ⟨g, o, none⟩ ∧ Blk w g e cs ∧ (cs.drop o).take (n * q) = xs)
section
variable {T e : TypeId} {q by' : Nat} {z : Value} {w w' : World} {v : Value} {n : Nat} {xs : List Value}
theorem Vw.of_row {B : Nat} (h : w.ownsRow B e q v n xs) : Vw w e q v n xs := by
  obtain ⟨h1, h2⟩ := h
  refine ⟨h1, ?_⟩
  rcases h2 with ⟨rfl, rfl⟩ | ⟨g, cap, cur, rfl, hg, hh, h3, h4, h5, h6⟩
  · exact ⟨none, 0, rfl, Nat.le_refl _, fun h => absurd rfl h⟩
  · exact ⟨_, _, rfl, h3, fun _ => ⟨g, 0, cur.toList, rfl, by unfold Blk; simpa using hh, by simpa using h6⟩⟩
theorem Vw.on (h : Vw w e q v n xs) (hb : Below w.heap.size w w') : Vw w' e q v n xs := by
  obtain ⟨h1, a, c, h2, h3, h4⟩ := h
  exact ⟨h1, a, c, h2, h3, fun h0 => by obtain ⟨g, o, cs, e1, e2, e3⟩ := h4 h0; exact ⟨g, o, cs, e1, e2.on hb, e3⟩⟩
theorem Vw.same (h : Vw w e q v n xs) (hk : ∀ k, v.ownBlock = some k → w'.heap[k]? = w.heap[k]?) : Vw w' e q v n xs := by
  obtain ⟨h1, a, c, h2, h3, h4⟩ := h
  subst h2
  exact ⟨h1, a, c, rfl, h3, fun h0 => by obtain ⟨g, o, cs, e1, e2, e3⟩ := h4 h0; subst e1; exact ⟨g, o, cs, rfl, e2.same (hk g rfl), e3⟩⟩
theorem Vw.to (R : Ro T e q by' z) (h : Vw w e q v n xs) {k : Nat} (hk : k ≤ n) : ∃ v1, (∀ W : World, (Instr.slice T v none (some (.int .i64 (k : Int))) none).run Tryz.prog W = .ok v1 W) ∧ ∀ W : World, Vw W e q v n xs → Vw W e q v1 k (xs.take (k * q)) := by
  obtain ⟨h1, a, c, rfl, h3, h4⟩ := h
  refine ⟨sliced a 0 k c q, fun W => ?_, fun W hW => ?_⟩
  · rw [run_slice_h W _ _ _ _ R.und2 .i64 k (by omega) (by omega), R.el, R.sz]
    simp
  · obtain ⟨g1, a', c', e', g3, g4⟩ := hW
    injection e' with e1 e2 e3
    subst e1 e3
    refine ⟨by rw [List.length_take, g1, Nat.min_eq_left (Nat.mul_le_mul_right _ hk)], ?_⟩
    unfold sliced
    refine ⟨_, _, rfl, by omega, fun h0 => ?_⟩
    obtain ⟨g, o, cs, e1, e2, e3⟩ := g4 (by omega)
    refine ⟨g, o, cs, ?_, e2, ?_⟩
    · rw [e1]
      split
      · rfl
      · simp [Addr.add_lit]
    · rw [← e3, List.take_take, Nat.min_eq_left (Nat.mul_le_mul_right _ hk)]
theorem Vw.from (R : Ro T e q by' z) (h : Vw w e q v n xs) {k : Nat} (hk : k ≤ n) : ∃ v1, (∀ W : World, (Instr.slice T v (some (.int .i64 (k : Int))) none none).run Tryz.prog W = .ok v1 W) ∧ ∀ W : World, Vw W e q v n xs → Vw W e q v1 (n - k) (xs.drop (k * q)) := by
  obtain ⟨h1, a, c, rfl, h3, h4⟩ := h
  refine ⟨sliced a k n c q, fun W => ?_, fun W hW => ?_⟩
  · rw [run_slice_l W _ _ _ _ R.und2 .i64 k (by omega) (by omega), R.el, R.sz]
    simp
  · obtain ⟨g1, a', c', e', g3, g4⟩ := hW
    injection e' with e1 e2 e3
    subst e1 e3
    refine ⟨by rw [List.length_drop, g1, Nat.sub_mul], ?_⟩
    unfold sliced
    refine ⟨_, _, rfl, by omega, fun h0 => ?_⟩
    obtain ⟨g, o, cs, e1, e2, e3⟩ := g4 (by omega)
    refine ⟨g, o + k * q, cs, ?_, e2, ?_⟩
    · rw [e1, if_neg (by omega)]
      simp [Addr.add_lit]
    · rw [← e3, List.drop_take, List.drop_drop, Nat.sub_mul]
/-- An element's place. -/
theorem vw_at (R : Ro T e q by' z) (g n cap i : Nat) (hi : i < n) (W : World) : (Instr.indexAt T (.slice (some ⟨g, 0, none⟩) n cap) (.int .i64 (i : Int))).run Tryz.prog W = .ok (.pointer (some ⟨g, i * q, none⟩)) W := by
  rw [run_indexAt_slice W _ _ _ _ .i64 i R.und2, if_pos ⟨by omega, by omega⟩, R.el, R.sz]
  simp only [Result.andThen_ok, Int.toNat_natCast]
  rw [Addr.add_lit, Nat.zero_add]
theorem row_at {B : Nat} (h : w.ownsRow B e q v n xs) (h0 : 0 < n) : ∃ g cap cs, v = .slice (some ⟨g, 0, none⟩) n cap ∧ Blk w g e cs ∧ cs.take (n * q) = xs ∧ n * q ≤ cs.length := by
  obtain ⟨h1, h2⟩ := h
  rcases h2 with ⟨rfl, rfl⟩ | ⟨g, cap, cur, rfl, hg, hh, h3, h4, h5, h6⟩
  · omega
  · refine ⟨g, cap, cur.toList, rfl, by unfold Blk; simpa using hh, h6, ?_⟩
    rw [Array.length_toList, h5]
    exact Nat.mul_le_mul_right _ h3
/-- A row whose block is turned, its first cells known. -/
theorem row_set {B : Nat} {g cap : Nat} {cs cs' ys : List Value} (h : w.ownsRow B e q (.slice (some ⟨g, 0, none⟩) n cap) n xs) (hb : Blk w g e cs) (hb' : Blk w' g e cs') (hl : cs'.length = cs.length) (hy : cs'.take (n * q) = ys) (hyl : ys.length = n * q) : w'.ownsRow B e q (.slice (some ⟨g, 0, none⟩) n cap) n ys := by
  obtain ⟨h1, h2⟩ := h
  refine ⟨hyl, ?_⟩
  rcases h2 with ⟨h2, _⟩ | ⟨g', cap', cur, h2, hg, hh, h3, h4, h5, h6⟩
  · cases h2
  · injection h2 with e1 e2 e3
    injection e1 with e1
    injection e1 with e1
    subst e1 e3
    right
    refine ⟨g, cap, cs'.toArray, rfl, hg, hb', h3, h4, ?_, by simpa using hy⟩
    have hcur : cs = cur.toList := by
      unfold Blk at hb
      rw [hh] at hb
      injection hb with hb
      injection hb with hb
      rw [hb]
    rw [List.size_toArray, hl, hcur, Array.length_toList, h5]
variable {dst : Option Tmp} {ty : TypeId} {pos : String} {aft : Array Edge} {gd : Option (Nat × Bool)} {a : Act} {K : Act → World → Prop} {Q : Exit → Act → World → Prop}
theorem grown_below {B : Nat} {row : Option Nat} (h : w.grownBy w' row) (hr : ∀ g, row = some g → B ≤ g) (hB : B ≤ w.heap.size) : Below B w w' :=
  ((Chs.refl (fun k => B ≤ k) w).thenGrown h (fun g hg => .inl (hr g hg))).below (fun k hk h => by omega) hB
theorem row_ge {B : Nat} (h : w.ownsRow B e q v n xs) {k : Nat} (hk : v.ownBlock = some k) : B ≤ k := by
  obtain ⟨h1, h2⟩ := h
  rcases h2 with ⟨rfl, rfl⟩ | ⟨g, cap, cur, rfl, hg, _⟩
  · cases hk
  · injection hk with hk
    have : g = k := hk
    omega
set_option maxRecDepth 100000 in
/-- Append of a part. -/
theorem run_appV (R : Ro T e q by' z) {B : Nat} {u : Value} {m : Nat} {ys : List Value} (hown : w.ownsRow B e q v n xs) (hu : Vw w e q u m ys) (h1 : ∀ x ∈ ys, x.oneCell' = true) (hlen : n + m ≤ 1099511627776) (hB : B ≤ w.heap.size) (ty : TypeId) :
    ∃ v' w', (Builtin.append_ #[T, T] ty #[v, u]).run Tryz.prog w = .ok v' w' ∧ w'.ownsRow B e q v' (n + m) (xs ++ ys) ∧ w.grownBy w' v.ownBlock ∧ (v'.ownBlock = v.ownBlock ∨ v'.ownBlock = some w.heap.size) := by
  obtain ⟨i0, hi, hz0, hz1, hz2⟩ := info_parts R.info
  obtain ⟨hl, ua, uc, rfl, hle, hat⟩ := hu
  by_cases h0 : m = 0
  · subst h0
    have hy : ys = [] := List.eq_nil_of_length_eq_zero (by rw [hl]; simp)
    subst hy
    obtain ⟨va, vc, rfl⟩ := row_slice hown
    have hc : n ≤ vc := by
      obtain ⟨_, h2⟩ := hown
      rcases h2 with ⟨h2, rfl⟩ | ⟨g, cap, cur, h2, hg, hh, h3, _⟩
      · omega
      · injection h2 with _ _ e3
        omega
    refine ⟨_, w, run_append_nothing w T T ty e i0 R.und hi va n vc hc _ ⟨.inl ⟨e, R.und⟩, fun w' => by simp [Builtin.lenOf], ?_, ?_, by simp, by simp⟩, by simpa using hown, ?_, .inl rfl⟩
    · cases ua <;> simp [Builtin.firstCells, loadCells, loadCellsFrom]
    · cases ua <;> simp [Builtin.firstCells, loadCells, loadCellsFrom]
    · exact World.grownBy.refl _ _
  · obtain ⟨g, o, cs, rfl, hb, hcs⟩ := hat h0
    obtain ⟨v', w', hr, ho, hg, _, hat'⟩ := run_append_own_at (P := Tryz.prog) w B T ty e i0 z q by' R.und hi hz0 hz1 hz2 R.zs R.q0 v _ _ hown ⟨g, o, none⟩ m uc ys hl (fun j x hx => by
      rw [Addr.add_lit, hb.cell]
      have : ys[j]? = cs[o + j]? := by
        rw [← hcs, List.getElem?_take, List.getElem?_drop, if_pos (by have := (List.getElem?_eq_some_iff.1 hx).1; omega)]
      rw [← this]
      exact hx) h1 (by unfold maxLen; omega) (by have := R.q9; have : (n + m) * by' ≤ 1099511627776 * 128 := Nat.mul_le_mul hlen R.q9; omega) hB
    exact ⟨v', w', hr, ho, hg, hat'⟩
theorem wp_appV (R : Ro T e q by' z) {s x : Operand} {B : Nat} {u : Value} {m : Nat} {ys : List Value} (hs : a.eval s = v) (hx : a.eval x = u) (hown : w.ownsRow B e q v n xs) (hu : Vw w e q u m ys) (h1 : ∀ x ∈ ys, x.oneCell' = true) (hlen : n + m ≤ 1099511627776) (hB : B ≤ w.heap.size)
    (h : ∀ v' w', w'.ownsRow B e q v' (n + m) (xs ++ ys) → w.grownBy w' v.ownBlock → (v'.ownBlock = v.ownBlock ∨ v'.ownBlock = some w.heap.size) → K (a.put dst v') w') :
    Oper.wp Tryz.prog ⟨dst, .call { callee := .builtin .append, args := #[s, x], argTypes := #[T, T] }, ty, pos, aft, gd⟩ a w K Q := by
  obtain ⟨v', w', hr, h2, h3, h4⟩ := run_appV R hown hu h1 hlen hB ty
  unfold Oper.wp execOp
  simp only [resolve, invoke, builtin, Sem.run_bind, Sem.run_pure, Result.andThen_ok, List.map_toArray, List.map_cons, List.map_nil, hs, hx, hr]
  exact h v' w' h2 h3 h4
theorem step_appV {ops : Array Oper} {rest : List Oper} (R : Ro T e q by' z) {s x : Operand} (hw : Region.wanted ⟨dst, .call { callee := .builtin .append, args := #[s, x], argTypes := #[T, T] }, ty, pos, aft, gd⟩ (yielded ops a.tmps) = true) {B : Nat} {u : Value} {m : Nat} {ys : List Value} (hs : a.eval s = v) (hx : a.eval x = u) (hown : w.ownsRow B e q v n xs) (hu : Vw w e q u m ys) (h1 : ∀ x ∈ ys, x.oneCell' = true) (hlen : n + m ≤ 1099511627776) (hB : B ≤ w.heap.size)
    (h : ∀ v' w', w'.ownsRow B e q v' (n + m) (xs ++ ys) → w.grownBy w' v.ownBlock → (v'.ownBlock = v.ownBlock ∨ v'.ownBlock = some w.heap.size) → wpList Tryz.prog ops Q rest (a.put dst v') w') :
    wpList Tryz.prog ops Q (⟨dst, .call { callee := .builtin .append, args := #[s, x], argTypes := #[T, T] }, ty, pos, aft, gd⟩ :: rest) a w := by
  obtain ⟨v', w', hr, h2, h3, h4⟩ := run_appV R hown hu h1 hlen hB ty
  refine step_run hw v' w' ?_ (h v' w' h2 h3 h4)
  unfold execOp
  simp only [resolve, invoke, builtin, Sem.run_bind, Sem.run_pure, Result.andThen_ok, List.map_toArray, List.map_cons, List.map_nil, hs, hx, hr]
end

end Go.Proofs.YtlgcjdgcgnlcaaaGreatDoor

/-
  Slices of names.
-/
namespace Go.Proofs.YtlgcjdgcgnlcaaaGreatDoor
open Go.RowKit
set_option linter.unusedVariables false

theorem rSt : Ro 91 9 1 16 (.string ByteArray.empty) := ⟨by kernel_rfl, by kernel_rfl, by kernel_rfl, rfl, by decide, by decide, fun w => by kernel_rfl⟩
theorem build_S (n : ByteArray) (w : World) : (Instr.buildSlice 91 1 #[(0, .string n)]).run Tryz.prog w = .ok (.slice (some ⟨w.heap.size, 0, none⟩) 1 1) (w.alloc (.cells #[.string n] 9)) := by kernel_rfl
section
variable {dst : Option Tmp} {ty : TypeId} {pos : String} {aft : Array Edge} {gd : Option (Nat × Bool)} {ops : Array Oper} {rest : List Oper} {a : Act} {w : World} {Q : Exit → Act → World → Prop}
set_option maxRecDepth 100000 in
theorem step_oneS {x : Operand} {n : ByteArray} (hw : Region.wanted ⟨dst, .buildSlice 91 1 #[(0, x)], ty, pos, aft, gd⟩ (yielded ops a.tmps) = true) (hx : a.eval x = .string n) (h : ∀ w1 v, Vw w1 9 1 v 1 [.string n] → Below w.heap.size w w1 → wpList Tryz.prog ops Q rest (a.put dst v) w1) :
    wpList Tryz.prog ops Q (⟨dst, .buildSlice 91 1 #[(0, x)], ty, pos, aft, gd⟩ :: rest) a w := by
  refine step_run hw (.slice (some ⟨w.heap.size, 0, none⟩) 1 1) (w.alloc (.cells #[.string n] 9)) ?_ (h _ _ ⟨rfl, _, _, rfl, Nat.le_refl _, fun _ => ⟨_, 0, [.string n], rfl, Blk.made w 9 [.string n], rfl⟩⟩ ((Below.refl _ _).alloc (Nat.le_refl _) _))
  unfold execOp
  simp only [List.map_toArray, List.map_cons, List.map_nil, hx]
  simp only [Sem.run_bind, build_S, Result.andThen_ok, Sem.run_pure]
end
def nmsC (l : List (ByteArray × List Int)) : List Value := l.map fun x => .string x.1
theorem nmsC_succ (l : List (ByteArray × List Int)) {k : Nat} {x : ByteArray × List Int} (h : l[k]? = some x) : nmsC (l.take (k + 1)) = nmsC (l.take k) ++ [.string x.1] := by
  obtain ⟨hi, rfl⟩ := List.getElem?_eq_some_iff.1 h
  rw [List.take_succ_eq_append_getElem hi]
  unfold nmsC
  rw [List.map_append]
  rfl

end Go.Proofs.YtlgcjdgcgnlcaaaGreatDoor

/-
  The library's functions at this program: the numbers, and that their bodies are the library's.
-/
namespace Go.Proofs
open Go.Shelf
def Tryz.lEq_ren : Go.Shelf.Ren := ⟨fun | 7 => 59 | n => n, fun | 23 => 52 | 29 => 52 | 26 => 9 | 27 => 44 | 31 => 44 | 32 => 122 | 4 => 4 | 3 => 3 | 0 => 0 | 37 => 149 | n => n, fun | n => n⟩
theorem Tryz.lEq : Go.Proofs.SlLaysEq.n7 Tryz.prog Tryz.lEq_ren := {
  mixed := by kernel_rfl
  f7 := ⟨Tryz.f59.name, by decide, Tryz.func59.trans (congrArg some (by kernel_rfl))⟩
  t0 := Tryz.underlying0
  a0 := Tryz.isAgg0
  z0 := Tryz.sizeOf0
  v0 := Tryz.zeroValue0
  t3 := Tryz.underlying3
  a3 := Tryz.isAgg3
  z3 := Tryz.sizeOf3
  v3 := Tryz.zeroValue3
  t4 := Tryz.underlying4
  a4 := Tryz.isAgg4
  z4 := Tryz.sizeOf4
  v4 := Tryz.zeroValue4
  t23 := Tryz.underlying52
  a23 := Tryz.isAgg52
  z23 := Tryz.sizeOf52
  v23 := Tryz.zeroValue52
  a26 := Tryz.isAgg9
  z26 := Tryz.sizeOf9
  a27 := Tryz.isAgg44
  z27 := Tryz.sizeOf44
  t29 := Tryz.underlying52
  a29 := Tryz.isAgg52
  z29 := Tryz.sizeOf52
  v29 := Tryz.zeroValue52
  a31 := Tryz.isAgg44
  z31 := Tryz.sizeOf44
  t32 := Tryz.underlying122
  a32 := Tryz.isAgg122
  z32 := Tryz.sizeOf122
  v32 := Tryz.zeroValue122
  t37 := Tryz.underlying149
  a37 := Tryz.isAgg149
  z37 := Tryz.sizeOf149 }
end Go.Proofs

/-
  Same: two disks' files held against each other.
-/
namespace Go.Proofs.YtlgcjdgcgnlcaaaGreatDoor
open Go.RowKit Go.Maps
set_option linter.unusedVariables false

theorem str_injQ {xs ys : List Int} (hx : isB xs) (hy : isB ys) (h : str xs = str ys) : xs = ys := by
  have e := congrArg (fun s : ByteArray => s.data.toList) h
  simp only [str, strOfNums_data] at e
  have key : ∀ zs : List Int, isB zs → (zs.map fun n => UInt8.ofNat n.toNat).map (fun c => (c.toNat : Int)) = zs := by
    intro zs hz
    rw [List.map_map]
    conv => rhs; rw [← List.map_id zs]
    apply List.map_congr_left
    intro z hzz
    have := hz z hzz
    simp only [Function.comp, UInt8.toNat_ofNat', id]
    omega
  rw [← key xs hx, ← key ys hy, e]
theorem str_beq {xs ys : List Int} (bx : isB xs) (by' : isB ys) : ((str xs).toList == (str ys).toList) = decide (xs = ys) := by
  have e1 : (str xs).toList = Lib.bytesOf xs := Lib.strOfNums_toList xs
  have e2 : (str ys).toList = Lib.bytesOf ys := Lib.strOfNums_toList ys
  rw [e1, e2]
  by_cases h : xs = ys
  · subst h; simp
  · rw [decide_eq_false h]
    refine beq_false_of_ne (fun h2 => h (str_injQ bx by' ?_))
    apply ByteArray.ext
    exact congrArg List.toArray h2
theorem run_eqStr {dst : Option Tmp} {ty : TypeId} {pos : String} {aft : Array Edge} {gd : Option (Nat × Bool)} {a : Act} {w : World} {x y : Operand} {xs ys : List Int} (hx : a.eval x = .string (str xs)) (hy : a.eval y = .string (str ys)) (bx : isB xs) (by' : isB ys) :
    (execOp a.eval ⟨dst, .binOp .eql 9 x y 9, ty, pos, aft, gd⟩).run Tryz.prog w = .ok (.value (.bool (decide (xs = ys)))) w := by
  have e := str_beq bx by'
  unfold execOp
  simp only [hx, hy]
  simp [go_sem]
  exact e
section
variable {dst : Option Tmp} {ty : TypeId} {pos : String} {aft : Array Edge} {gd : Option (Nat × Bool)} {ops : Array Oper} {rest : List Oper} {a : Act} {w : World} {K : Act → World → Prop} {Q : Exit → Act → World → Prop}
theorem step_eqStr {x y : Operand} {xs ys : List Int} (hw : Region.wanted ⟨dst, .binOp .eql 9 x y 9, ty, pos, aft, gd⟩ (yielded ops a.tmps) = true) (hx : a.eval x = .string (str xs)) (hy : a.eval y = .string (str ys)) (bx : isB xs) (by' : isB ys)
    (h : wpList Tryz.prog ops Q rest (a.put dst (.bool (decide (xs = ys)))) w) : wpList Tryz.prog ops Q (⟨dst, .binOp .eql 9 x y 9, ty, pos, aft, gd⟩ :: rest) a w :=
  step_run hw _ w (run_eqStr hx hy bx by') h
end
set_option maxRecDepth 100000 in
theorem bytesEq_any (a : Option Addr) (l c : Nat) (xs : List Int) (b : Option Addr) (m d : Nat) (ys : List Int) (w : World) (hx : Sl w a l c xs) (hy : Sl w b m d ys) :
    Calls Tryz.prog 60 #[.slice a l c, .slice b m d] w fun r w' => r = .returned (.bool (decide (xs = ys))) ∧ w' = w := by
  have HX := hide hx
  have HY := hide hy
  clear hx hy
  go_enter Tryz.func60, Tryz.ntmps60
  go_wp2_with (first | (refine step_toStr rfl rfl HX.out ?_) | (refine step_toStr rfl rfl HY.out ?_) | (refine step_eqStr rfl rfl rfl HX.out.hbyte HY.out.hbyte ?_))
  go_ret
  exact ⟨rfl, rfl⟩

/-! ### two lists without doubles -/
theorem sub_len {α : Type} : ∀ (a b : List α), a.Nodup → (∀ x ∈ a, x ∈ b) → a.length ≤ b.length
  | [], _, _, _ => Nat.zero_le _
  | x :: r, b, h, hs => by
    obtain ⟨s, t, rfl⟩ := List.append_of_mem (hs x (by simp))
    rw [List.nodup_cons] at h
    have := sub_len r (s ++ t) h.2 (fun y hy => by
      have h1 := hs y (by simp [hy])
      rcases List.mem_append.1 h1 with h1 | h1
      · exact List.mem_append.2 (.inl h1)
      · rcases List.mem_cons.1 h1 with rfl | h1
        · exact absurd hy h.1
        · exact List.mem_append.2 (.inr h1))
    simp at this ⊢
    omega
theorem sub_lt {α : Type} (a b : List α) (h : a.Nodup) (hs : ∀ x ∈ a, x ∈ b) {y : α} (hy : y ∈ b) (hn : y ∉ a) : a.length < b.length := by
  have := sub_len (y :: a) b (List.nodup_cons.2 ⟨hn, h⟩) (fun x hx => by
    rcases List.mem_cons.1 hx with rfl | hx
    · exact hy
    · exact hs x hx)
  simp at this
  omega

/-! ### files as data -/
theorem Own.uniq {w : World} {B : Nat} {v : Value} {xs ys : List Int} (h : Own w B v xs) (h' : Own w B v ys) : xs = ys := by
  have key : u8s xs = u8s ys := by
    obtain ⟨h1, h2⟩ := h
    obtain ⟨h1', h2'⟩ := h'
    rcases h2 with ⟨rfl, e⟩ | ⟨g, cap, cur, rfl, hg, hh, r1, r2, r3, r4⟩
    · rcases h2' with ⟨_, e'⟩ | ⟨g', cap', cur', e', _⟩
      · rw [List.eq_nil_of_length_eq_zero e, List.eq_nil_of_length_eq_zero e']
      · cases e'
    · rcases h2' with ⟨e', _⟩ | ⟨g', cap', cur', e', hg', hh', r1', r2', r3', r4'⟩
      · cases e'
      · injection e' with e1 e2 e3
        injection e1 with e1
        injection e1 with e1
        subst e1
        rw [hh] at hh'
        injection hh' with hh'
        injection hh' with hh'
        subst hh'
        rw [← r4, ← r4', e2]
  have := congrArg (List.map fun v => intOf v) key
  simpa [u8s, intOf, Function.comp_def] using this
def encB (xs : List Int) : DataW Unit := .slice (xs.map fun x => .lit (.int .u8 x)) []
def decB : DataW Unit → List Int
  | .slice es _ => es.map fun | .lit (.int _ x) => x | _ => 0
  | _ => []
theorem dec_enc (xs : List Int) : decB (encB xs) = xs := by
  simp [decB, encB, Function.comp_def]
/-- How a world's slices are read as data: none but those that hold bytes. -/
theorem reads_ex (w : World) : ∃ R : Value → Option (DataW Unit × List MemPlace), (∀ v xs, Own w 0 v xs → isB xs → xs.length ≤ 1099511000000 → R v = some (encB xs, [])) ∧ ∀ v z, R v = some z → ∃ xs, Own w 0 v xs ∧ isB xs ∧ xs.length ≤ 1099511000000 ∧ z = (encB xs, []) := by
  refine ⟨fun v => @dite _ (∃ xs, Own w 0 v xs ∧ isB xs ∧ xs.length ≤ 1099511000000) (Classical.propDecidable _) (fun h => some (encB (Classical.choose h), [])) (fun _ => none), fun v xs h1 h2 h3 => ?_, fun v z hz => ?_⟩
  · have hx : ∃ xs, Own w 0 v xs ∧ isB xs ∧ xs.length ≤ 1099511000000 := ⟨xs, h1, h2, h3⟩
    have h4 := Classical.choose_spec hx
    simp only [dif_pos hx]
    rw [h4.1.uniq h1]
  · by_cases hx : ∃ xs, Own w 0 v xs ∧ isB xs ∧ xs.length ≤ 1099511000000
    · simp only [dif_pos hx, Option.some.injEq] at hz
      have h4 := Classical.choose_spec hx
      exact ⟨_, h4.1, h4.2.1, h4.2.2, hz.symm⟩
    · simp only [dif_neg hx] at hz
      cases hz
/-- A file as an entry of the datum. -/
def ent (f : (ByteArray → Option (List Int))) (x : ByteArray × Value) : Lit × DataW Unit := (.string x.1.data.toList, encB (fl f x.1))
theorem FilAt.owns {w : World} {m : Nat} {fm : List (ByteArray × Value)} {f : (ByteArray → Option (List Int))} (h : FilAt w m fm f) (hl : ∀ n, (fl f n).length ≤ 1099511000000) (hfew : fm.length ≤ 1099511000000) {R : Value → Option (DataW Unit × List MemPlace)} (hR : ∀ v xs, Own w 0 v xs → isB xs → xs.length ≤ 1099511000000 → R v = some (encB xs, [])) :
    ∃ L : List (Lit × DataW Unit), w.ownsMap Tryz.prog 9 R m fm.length (.map L) ∧ L.Perm (fm.map (ent f)) := by
  obtain ⟨es, clock, hb, hst, he⟩ := h.map.ex
  have hlen : es.size = fm.length := by
    have := congrArg List.length he
    simpa using this
  have hrd : ∀ e ∈ es.toList, ∃ x ∈ fm, e.key = .string x.1 ∧ e.val = x.2 := fun e hm => by
    have h1 : (e.key, e.val) ∈ fm.map (fun x => (Value.string x.1, x.2)) := by rw [← he]; exact List.mem_map_of_mem hm
    obtain ⟨x, hx, e1⟩ := List.mem_map.1 h1
    rw [Prod.mk.injEq] at e1
    exact ⟨x, hx, e1.1.symm, e1.2.symm⟩
  have hrx : ∀ e ∈ es.toList, ∀ x ∈ fm, e.key = .string x.1 → e.val = x.2 → WideElems.rd Tryz.prog 9 R e = some (ent f x) := fun e _ x hx e1 e2 => by
    have hv := mfind_at h.map.one hx
    obtain ⟨o1, o2⟩ := h.own x.1 x.2 hv
    unfold WideElems.rd
    rw [e1, e2, key_ofS (h.map.wf x hx), hR x.2 _ o1 o2 (hl x.1)]
    rfl
  refine ⟨(es.toList.map (WideElems.rg Tryz.prog 9 R)).foldr DataW.insert [], ⟨es, clock, hb, ⟨by unfold maxLen; omega, hst, fun e hm => ?_⟩, Nat.le_of_eq hlen, rfl⟩, ?_⟩
  · obtain ⟨x, hx, e1, e2⟩ := hrd e hm
    exact ⟨_, hrx e hm x hx e1 e2⟩
  · refine (WideShapes.sorted_perm _).trans (List.Perm.of_eq ?_)
    apply List.ext_getElem?
    intro j
    rw [List.getElem?_map, List.getElem?_map]
    cases hj : es.toList[j]? with
    | none =>
      have h1 : es.toList.length ≤ j := List.getElem?_eq_none_iff.1 hj
      have : fm[j]? = none := List.getElem?_eq_none_iff.2 (by simp at h1; omega)
      rw [this]
      rfl
    | some e =>
      have h4 : (es.toList.map (fun e => (e.key, e.val)))[j]? = some (e.key, e.val) := by rw [List.getElem?_map, hj]; rfl
      rw [he, List.getElem?_map] at h4
      obtain ⟨x, hx, e1⟩ := Option.map_eq_some_iff.1 h4
      rw [Prod.mk.injEq] at e1
      rw [hx]
      show some (WideElems.rg Tryz.prog 9 R e) = some (ent f x)
      rw [WideElems.rg, hrx e (List.mem_of_getElem? hj) x (List.mem_of_getElem? hx) e1.1.symm e1.2.symm]
      rfl

theorem name_inj {n t : ByteArray} (h : n.data.toList = t.data.toList) : n = t := ByteArray.ext (Array.toList_inj.1 h)
theorem FilAt.mem {w : World} {m : Nat} {fm : List (ByteArray × Value)} {f : (ByteArray → Option (List Int))} (h : FilAt w m fm f) {n : ByteArray} {xs : List Int} (hn : f n = some xs) : ∃ v, (n, v) ∈ fm ∧ fl f n = xs := by
  obtain ⟨v, hv, _⟩ := h.get hn
  exact ⟨v, mfind_mem hv, by simp [fl, hn]⟩
theorem FilAt.some {w : World} {m : Nat} {fm : List (ByteArray × Value)} {f : (ByteArray → Option (List Int))} (h : FilAt w m fm f) {x : ByteArray × Value} (hx : x ∈ fm) : f x.1 = some (fl f x.1) := by
  have h1 := h.iff x.1
  rw [mfind_at h.map.one hx] at h1
  cases hf : f x.1 with
  | none => rw [hf] at h1; cases h1
  | some y => simp [fl, hf]
def eqd (x y : DataW Unit) : Bool := decide (decB x = decB y)
theorem same_data {w w' : World} {m m' : Nat} {fm fm' : List (ByteArray × Value)} {f f' : (ByteArray → Option (List Int))} (h : FilAt w m fm f) (h' : FilAt w' m' fm' f') {L L' : List (Lit × DataW Unit)} (hL : L.Perm (fm.map (ent f))) (hL' : L'.Perm (fm'.map (ent f'))) :
    Lib.equalFuncD eqd (.map L) (.map L') = true ↔ f = f' := by
  have hk : ∀ x : ByteArray × Value, WideAt.IsKeyLit (ent f' x).1 := fun x => trivial
  have hap : L'.Pairwise (fun p q => p.1 ≠ q.1) := by
    have h1 : (fm'.map (ent f')).Pairwise (fun p q => p.1 ≠ q.1) := by
      rw [List.pairwise_map]
      have h2 := h'.map.one
      rw [List.Nodup, List.pairwise_map] at h2
      exact h2.imp (fun hne e => hne (name_inj (by injection e)))
    exact (hL'.pairwise_iff (fun hne e => hne e.symm)).2 h1
  have hsz : Maps.size (.map L : DataW Unit) = fm.length := by rw [Maps.size_eq, hL.length_eq, List.length_map]
  have hsz' : Maps.size (.map L' : DataW Unit) = fm'.length := by rw [Maps.size_eq, hL'.length_eq, List.length_map]
  -- an entry is good just if the other has that file
  have good : ∀ x ∈ fm, Lib.goodD eqd (.map L') (ent f x) = true ↔ f' x.1 = some (fl f x.1) := by
    intro x hx
    unfold Lib.goodD
    constructor
    · intro hg
      rw [Bool.and_eq_true] at hg
      obtain ⟨p, hp, hs⟩ := List.any_eq_true.1 (show L'.any (fun p => p.1.sameKey (ent f x).1) = true from hg.1)
      obtain ⟨y, hy, rfl⟩ := List.mem_map.1 (hL'.mem_iff.1 hp)
      have e1 := WideAt.sameKey_eq hs
      have e2 : y.1 = x.1 := name_inj (by injection e1)
      have e3 : (DataW.map L').atKey (ent f x).1 .nil = encB (fl f' y.1) := WideAt.atKey_mem .nil trivial hap (by
        have : ent f' y = ((ent f x).1, encB (fl f' y.1)) := by rw [← e1]; rfl
        rw [← this]; exact hp)
      have h4 := hg.2
      rw [e3] at h4
      have h5 : decB (ent f x).2 = decB (encB (fl f' y.1)) := of_decide_eq_true h4
      have h6 : fl f x.1 = fl f' y.1 := by rw [← dec_enc (fl f x.1), ← dec_enc (fl f' y.1)]; exact h5
      rw [← e2, h'.some hy, ← h6, e2]
    · intro hf
      obtain ⟨v, hv, hfl⟩ := h'.mem hf
      have hp : ent f' (x.1, v) ∈ L' := hL'.mem_iff.2 (List.mem_map_of_mem hv)
      have e1 : ent f' (x.1, v) = ((ent f x).1, encB (fl f x.1)) := by
        show (_, encB (fl f' x.1)) = _
        rw [hfl]
        rfl
      rw [e1] at hp
      rw [Bool.and_eq_true]
      refine ⟨List.any_eq_true.2 ⟨_, hp, WideAt.sameKey_self (by exact trivial)⟩, ?_⟩
      rw [WideAt.atKey_mem .nil (by exact trivial) hap hp]
      exact decide_eq_true rfl
  have sub : (∀ x ∈ fm, f' x.1 = some (fl f x.1)) → ∀ n ∈ fm.map (·.1), n ∈ fm'.map (·.1) := by
    intro hall n hn
    obtain ⟨x, hx, rfl⟩ := List.mem_map.1 hn
    obtain ⟨v, hv, _⟩ := h'.mem (hall x hx)
    exact List.mem_map.2 ⟨_, hv, rfl⟩
  unfold Lib.equalFuncD
  rw [Bool.and_eq_true, decide_eq_true_eq, hsz, hsz']
  constructor
  · rintro ⟨h1, h2⟩
    have hall : ∀ x ∈ fm, f' x.1 = some (fl f x.1) := fun x hx => (good x hx).1 (List.all_eq_true.1 h2 _ (hL.mem_iff.2 (List.mem_map_of_mem hx)))
    funext n
    cases hf : f n with
    | some xs =>
      obtain ⟨v, hv, hfl⟩ := h.mem hf
      have := hall _ hv
      simp only at this
      rw [this, hfl]
    | none =>
      cases hf' : f' n with
      | none => rfl
      | some ys =>
        obtain ⟨v, hv, _⟩ := h'.mem hf'
        have hn1 : n ∉ fm.map (·.1) := fun hn => by
          obtain ⟨x, hx, e⟩ := List.mem_map.1 hn
          have := h.some hx
          rw [e, hf] at this
          cases this
        have := sub_lt _ _ h.map.one (sub hall) (y := n) (List.mem_map.2 ⟨_, hv, rfl⟩) hn1
        simp at this
        omega
  · rintro rfl
    have hall : ∀ x ∈ fm, f x.1 = some (fl f x.1) := fun x hx => h.some hx
    have hall' : ∀ n ∈ fm'.map (·.1), n ∈ fm.map (·.1) := fun n hn => by
      obtain ⟨x, hx, rfl⟩ := List.mem_map.1 hn
      obtain ⟨v, hv, _⟩ := h.mem (h'.some hx)
      exact List.mem_map.2 ⟨_, hv, rfl⟩
    have l1 := sub_len _ _ h.map.one (sub hall)
    have l2 := sub_len _ _ h'.map.one hall'
    simp at l1 l2
    refine ⟨by omega, List.all_eq_true.2 fun p hp => ?_⟩
    obtain ⟨x, hx, rfl⟩ := List.mem_map.1 (hL.mem_iff.1 hp)
    exact (good x hx).2 (hall x hx)

theorem DkAt.bounds {w : World} {d s : Nat} {rs : List Rw} {D : Dm} (h : DkAt w d s rs D) (hw : wt rs ≤ 1099511000000) : (∀ n, (fl (play rs) n).length ≤ 1099511000000) ∧ D.fm.length ≤ 1099511000000 :=
  ⟨fun n => Nat.le_trans (play_wt rs n) hw, by have h1 := h.few; have h2 := len_wt rs; omega⟩
/-- The library's maps.EqualFunc with bytes.Equal, at two disks' files. -/
theorem eqFunc_any (d d' s s' : Nat) (rs rs' : List Rw) (D D' : Dm) (w : World) (h : DkAt w d s rs D) (h' : DkAt w d' s' rs' D') (hw : wt rs ≤ 1099511000000) (hw' : wt rs' ≤ 1099511000000) :
    Calls Tryz.prog 59 #[.map (some D.m), .map (some D'.m), .func (.func 60) #[] #[]] w fun e w' => ∃ b, e = .returned (.bool b) ∧ (b = true ↔ play rs = play rs') ∧ Below w.heap.size w w' := by
  obtain ⟨R, hR1, hR2⟩ := reads_ex w
  obtain ⟨L, hL, hp⟩ := h.fil.owns (h.bounds hw).1 (h.bounds hw).2 hR1
  obtain ⟨L', hL', hp'⟩ := h'.fil.owns (h'.bounds hw').1 (h'.bounds hw').2 hR1
  have := AnyEq.maps_EqualFunc Tryz.lEq (string_keyed undS) R R eqd 60 #[] D.m D'.m _ _ (.map L) (.map L') w (enters_of Tryz.func60 (by kernel_rfl) rfl) hL hL' (.slice none 0 0) (fun w => zeroSl w) (encB []) [] (hR1 _ _ (Own.nil _ _) (fun x hx => by cases hx) (by simp)) (fun W x y xd yd xp yp hg hx hy => by
    obtain ⟨xs, ox, bx, lx, ex⟩ := hR2 x _ hx
    obtain ⟨ys, oy, by', ly, ey⟩ := hR2 y _ hy
    obtain ⟨ax, cx, rfl, sx⟩ := ox.sl' bx (by omega)
    obtain ⟨ay, cy, rfl, sy⟩ := oy.sl' by' (by omega)
    injection ex with ex1 _
    injection ey with ey1 _
    subst ex1 ey1
    have hbel : Below w.heap.size w W := Below.of_grown hg (Nat.le_refl _) (fun k e => by cases e)
    refine (bytesEq_any ax _ cx xs ay _ cy ys W (sx.below hbel) (sy.below hbel)).mono ?_
    rintro e w2 ⟨rfl, rfl⟩
    refine ⟨?_, World.grownBy.refl _ _⟩
    rw [eqd, dec_enc, dec_enc])
  refine this.mono ?_
  rintro e w2 ⟨rfl, hg⟩
  exact ⟨_, rfl, same_data h.fil h'.fil hp hp', Below.of_grown hg (Nat.le_refl _) (fun k e => by cases e)⟩
theorem bool_of (p : Prop) : ∃ b : Bool, b = true ↔ p := by
  by_cases h : p
  · exact ⟨true, by simp [h]⟩
  · exact ⟨false, by simp [h]⟩
set_option maxRecDepth 100000 in
theorem same_any (d d' s s' : Nat) (rs rs' : List Rw) (D D' : Dm) (b : Bool) (w : World) (h : DkAt w d s rs D) (h' : DkAt w d' s' rs' D') (hw : wt rs ≤ 1099511000000) (hw' : wt rs' ≤ 1099511000000) (hb : b = true ↔ play rs = play rs') :
    Calls Tryz.prog 23 #[.pointer (some ⟨d, 0, none⟩), .pointer (some ⟨d', 0, none⟩)] w fun e w' => e = .returned (.bool b) ∧ Below w.heap.size w w' := by
  have CQ : Hid (∀ u : Sub w, Calls Tryz.prog 59 #[.map (some D.m), .map (some D'.m), .func (.func 60) #[] #[]] u.v fun e w' => e = .returned (.bool b) ∧ Below u.v.heap.size u.v w') := hide (fun u =>
    (eqFunc_any d d' s s' rs rs' D D' u.v (h.below u.bel) (h'.below u.bel) hw hw').mono (by
      rintro e w2 ⟨b2, rfl, hb2, hbel⟩
      have e1 : b2 = b := by
        cases b <;> cases b2
        · rfl
        · exact absurd (hb.2 (hb2.1 rfl)) (by simp)
        · exact absurd (hb2.2 (hb.1 rfl)) (by simp)
        · rfl
      rw [e1]
      exact ⟨rfl, hbel⟩))
  obtain ⟨c0, c1, _, hp⟩ := h.made
  obtain ⟨c0', c1', _, hp'⟩ := h'.made
  have HC0 := hide c0
  have HC0' := hide c0'
  clear c0 c0' hb h h'
  go_enter Tryz.func23, Tryz.ntmps23
  go_wp2_with fail
  have hne := Sub.one w
  have c1s : ∀ u : Sub w, u.v.cell? ⟨d, 1, none⟩ = some (.map (some D.m)) := fun u => Sub.cell c1 u
  have c1s' : ∀ u : Sub w, u.v.cell? ⟨d', 1, none⟩ = some (.map (some D'.m)) := fun u => Sub.cell c1' u
  clear c1 c1'
  refine wp_region_sub (by kernel_rfl) (by kernel_rfl) ?_
  repeat (go_big_quiet_step (fail))
  go_big_quiet_step ((go_at_call 55; exact sub_call ((made_ok _ _ _ (Sub.cell HC0.out _) hp).mono fun _ _ h => ⟨h.1, by rw [h.2]; exact Below.refl _ _⟩)))
  repeat (go_big_quiet_step (fail))
  go_big_quiet_step ((go_at_call 55; exact sub_call ((made_ok _ _ _ (Sub.cell HC0'.out _) hp').mono fun _ _ h => ⟨h.1, by rw [h.2]; exact Below.refl _ _⟩)))
  repeat (go_big_quiet_step (fail))
  go_big_quiet_step ((go_at_call 59; exact sub_call (CQ.out _)))
  repeat (go_big_quiet_step (fail))
  refine wpQuiet_nil ?_
  rintro _ ⟨⟨W, hW⟩, rfl⟩
  go_wp2
  go_ret
  exact ⟨rfl, hW⟩

end Go.Proofs.YtlgcjdgcgnlcaaaGreatDoor

/-
  The library's functions at this program: the numbers, and that their bodies are the library's.
-/
namespace Go.Proofs
open Go.Shelf
def Tryz.lKeys_ren : Go.Shelf.Ren := ⟨fun | 7 => 82 | 10 => 103 | n => n, fun | 23 => 52 | 26 => 9 | 3 => 44 | 28 => 102 | 0 => 0 | 27 => 101 | 33 => 145 | 4 => 4 | n => n, fun | n => n⟩
theorem Tryz.lKeys : Go.Proofs.SlLaysZ.n7 Tryz.prog Tryz.lKeys_ren := {
  mixed := by kernel_rfl
  f7 := ⟨Tryz.f82.name, by decide, Tryz.func82.trans (congrArg some (by kernel_rfl))⟩
  f10 := ⟨Tryz.f103.name, by decide, Tryz.func103.trans (congrArg some (by kernel_rfl))⟩
  t0 := Tryz.underlying0
  a0 := Tryz.isAgg0
  z0 := Tryz.sizeOf0
  v0 := Tryz.zeroValue0
  t4 := Tryz.underlying4
  a4 := Tryz.isAgg4
  z4 := Tryz.sizeOf4
  v4 := Tryz.zeroValue4
  t23 := Tryz.underlying52
  a23 := Tryz.isAgg52
  z23 := Tryz.sizeOf52
  v23 := Tryz.zeroValue52
  t26 := Tryz.underlying9
  a26 := Tryz.isAgg9
  z26 := Tryz.sizeOf9
  v26 := Tryz.zeroValue9
  t27 := Tryz.underlying101
  a27 := Tryz.isAgg101
  z27 := Tryz.sizeOf101
  v27 := Tryz.zeroValue101
  t28 := Tryz.underlying102
  a28 := Tryz.isAgg102
  z28 := Tryz.sizeOf102
  v28 := Tryz.zeroValue102
  t33 := Tryz.underlying145
  a33 := Tryz.isAgg145
  z33 := Tryz.sizeOf145
  v33 := Tryz.zeroValue145 }
def Tryz.lSorted_ren : Go.Shelf.Ren := ⟨fun | 6 => 81 | 8 => 101 | 9 => 102 | 11 => 120 | 13 => 95 | 12 => 121 | 23 => 118 | 24 => 119 | 14 => 132 | 15 => 133 | 16 => 134 | 17 => 135 | 18 => 136 | 19 => 137 | 20 => 138 | 21 => 139 | 22 => 140 | 25 => 156 | 26 => 128 | 27 => 129 | 28 => 157 | 29 => 158 | 30 => 159 | 31 => 178 | n => n, fun | 26 => 9 | 28 => 102 | 24 => 91 | 0 => 0 | 3 => 3 | 37 => 130 | 48 => 170 | 50 => 172 | 4 => 4 | 40 => 164 | 39 => 163 | 45 => 132 | 5 => 5 | 9 => 9 | 51 => 181 | 55 => 185 | 57 => 206 | 58 => 35 | 33 => 145 | n => n, fun | n => n⟩
theorem Tryz.lSorted : Go.Proofs.SlLaysZ.n6 Tryz.prog Tryz.lSorted_ren := {
  mixed := by kernel_rfl
  f6 := ⟨Tryz.f81.name, by decide, Tryz.func81.trans (congrArg some (by kernel_rfl))⟩
  f8 := ⟨Tryz.f101.name, by decide, Tryz.func101.trans (congrArg some (by kernel_rfl))⟩
  f11 := ⟨Tryz.f120.name, by decide, Tryz.func120.trans (congrArg some (by kernel_rfl))⟩
  t0 := Tryz.underlying0
  a0 := Tryz.isAgg0
  z0 := Tryz.sizeOf0
  v0 := Tryz.zeroValue0
  t24 := Tryz.underlying91
  a24 := Tryz.isAgg91
  z24 := Tryz.sizeOf91
  v24 := Tryz.zeroValue91
  t26 := Tryz.underlying9
  a26 := Tryz.isAgg9
  z26 := Tryz.sizeOf9
  v26 := Tryz.zeroValue9
  t28 := Tryz.underlying102
  a28 := Tryz.isAgg102
  z28 := Tryz.sizeOf102
  v28 := Tryz.zeroValue102
  i26 := by kernel_rfl }
def Tryz.lSort_ren : Go.Shelf.Ren := ⟨fun | 6 => 102 | 8 => 95 | 9 => 121 | 19 => 118 | 20 => 119 | 21 => 132 | 22 => 133 | 23 => 134 | 24 => 135 | 25 => 136 | 26 => 137 | 27 => 138 | 28 => 139 | 29 => 140 | 36 => 156 | 31 => 128 | 32 => 129 | 37 => 157 | 38 => 158 | 39 => 159 | 41 => 178 | n => n, fun | 27 => 91 | 29 => 9 | 3 => 3 | 32 => 130 | 26 => 91 | 0 => 0 | 44 => 170 | 46 => 172 | 4 => 4 | 36 => 164 | 35 => 163 | 41 => 132 | 5 => 5 | 9 => 9 | 53 => 181 | 57 => 185 | 63 => 206 | 64 => 35 | n => n, fun | n => n⟩
theorem Tryz.lSort : Go.Proofs.SlLaysM.n6 Tryz.prog Tryz.lSort_ren := {
  mixed := by kernel_rfl
  f6 := ⟨Tryz.f102.name, by decide, Tryz.func102.trans (congrArg some (by kernel_rfl))⟩
  f8 := Tryz.func95.trans (congrArg some (by kernel_rfl))
  f9 := ⟨Tryz.f121.name, by decide, Tryz.func121.trans (congrArg some (by kernel_rfl))⟩
  f19 := Tryz.func118.trans (congrArg some (by kernel_rfl))
  f20 := Tryz.func119.trans (congrArg some (by kernel_rfl))
  f21 := ⟨Tryz.f132.name, by decide, Tryz.func132.trans (congrArg some (by kernel_rfl))⟩
  f22 := ⟨Tryz.f133.name, by decide, Tryz.func133.trans (congrArg some (by kernel_rfl))⟩
  f23 := ⟨Tryz.f134.name, by decide, Tryz.func134.trans (congrArg some (by kernel_rfl))⟩
  f24 := ⟨Tryz.f135.name, by decide, Tryz.func135.trans (congrArg some (by kernel_rfl))⟩
  f25 := ⟨Tryz.f136.name, by decide, Tryz.func136.trans (congrArg some (by kernel_rfl))⟩
  f26 := ⟨Tryz.f137.name, by decide, Tryz.func137.trans (congrArg some (by kernel_rfl))⟩
  f27 := ⟨Tryz.f138.name, by decide, Tryz.func138.trans (congrArg some (by kernel_rfl))⟩
  f28 := ⟨Tryz.f139.name, by decide, Tryz.func139.trans (congrArg some (by kernel_rfl))⟩
  f29 := ⟨Tryz.f140.name, by decide, Tryz.func140.trans (congrArg some (by kernel_rfl))⟩
  f31 := Tryz.func128.trans (congrArg some (by kernel_rfl))
  f32 := Tryz.func129.trans (congrArg some (by kernel_rfl))
  f36 := ⟨Tryz.f156.name, by decide, Tryz.func156.trans (congrArg some (by kernel_rfl))⟩
  f37 := ⟨Tryz.f157.name, by decide, Tryz.func157.trans (congrArg some (by kernel_rfl))⟩
  f38 := ⟨Tryz.f158.name, by decide, Tryz.func158.trans (congrArg some (by kernel_rfl))⟩
  f39 := ⟨Tryz.f159.name, by decide, Tryz.func159.trans (congrArg some (by kernel_rfl))⟩
  f41 := ⟨Tryz.f178.name, by decide, Tryz.func178.trans (congrArg some (by kernel_rfl))⟩
  t0 := Tryz.underlying0
  a0 := Tryz.isAgg0
  z0 := Tryz.sizeOf0
  v0 := Tryz.zeroValue0
  t3 := Tryz.underlying3
  a3 := Tryz.isAgg3
  z3 := Tryz.sizeOf3
  v3 := Tryz.zeroValue3
  t4 := Tryz.underlying4
  a4 := Tryz.isAgg4
  z4 := Tryz.sizeOf4
  v4 := Tryz.zeroValue4
  t5 := Tryz.underlying5
  a5 := Tryz.isAgg5
  z5 := Tryz.sizeOf5
  v5 := Tryz.zeroValue5
  t9 := Tryz.underlying9
  a9 := Tryz.isAgg9
  z9 := Tryz.sizeOf9
  v9 := Tryz.zeroValue9
  t26 := Tryz.underlying91
  a26 := Tryz.isAgg91
  z26 := Tryz.sizeOf91
  v26 := Tryz.zeroValue91
  t27 := Tryz.underlying91
  a27 := Tryz.isAgg91
  z27 := Tryz.sizeOf91
  v27 := Tryz.zeroValue91
  t29 := Tryz.underlying9
  a29 := Tryz.isAgg9
  z29 := Tryz.sizeOf9
  v29 := Tryz.zeroValue9
  t32 := Tryz.underlying130
  a32 := Tryz.isAgg130
  z32 := Tryz.sizeOf130
  v32 := Tryz.zeroValue130
  t35 := Tryz.underlying163
  a35 := Tryz.isAgg163
  z35 := Tryz.sizeOf163
  v35 := Tryz.zeroValue163
  t36 := Tryz.underlying164
  a36 := Tryz.isAgg164
  z36 := Tryz.sizeOf164
  v36 := Tryz.zeroValue164
  t41 := Tryz.underlying132
  a41 := Tryz.isAgg132
  z41 := Tryz.sizeOf132
  v41 := Tryz.zeroValue132
  t44 := Tryz.underlying170
  a44 := Tryz.isAgg170
  z44 := Tryz.sizeOf170
  v44 := Tryz.zeroValue170
  t46 := Tryz.underlying172
  a46 := Tryz.isAgg172
  z46 := Tryz.sizeOf172
  v46 := Tryz.zeroValue172
  t53 := Tryz.underlying181
  a53 := Tryz.isAgg181
  z53 := Tryz.sizeOf181
  v53 := Tryz.zeroValue181
  t57 := Tryz.underlying185
  a57 := Tryz.isAgg185
  z57 := Tryz.sizeOf185
  v57 := Tryz.zeroValue185
  t63 := Tryz.underlying206
  a63 := Tryz.isAgg206
  z63 := Tryz.sizeOf206
  v63 := Tryz.zeroValue206
  t64 := Tryz.underlying35
  a64 := Tryz.isAgg35
  z64 := Tryz.sizeOf35
  v64 := Tryz.zeroValue35 }
end Go.Proofs

/-
  slices.Sorted(maps.Keys(files)): the names, rising.
-/
namespace Go.Proofs.YtlgcjdgcgnlcaaaGreatDoor
open Go.RowKit Go.Maps Go.Sort Go.Shelf
set_option linter.unusedVariables false

theorem sorts12 (m : Nat) : AnyZ.SortsIn Tryz.prog Tryz.lSorted_ren Fence.wide m :=
  ⟨fun blk off cap ss W hH hblk hsz => callsIn_wide.2 (AnyM.slices_Sort_string Tryz.lSort blk off cap ss W hH hblk hsz),
   fun p cap W => callsIn_wide.2 (AnyM.slices_Sort_string_none Tryz.lSort p cap W)⟩
theorem keys12 (mb : Option Nat) (W : World) : CallsIn Fence.wide 5 Tryz.prog 82 #[.map mb] W fun e w' => e = .returned (.func (.func 103) #[] #[.pointer (some ⟨W.heap.size, 0, none⟩)]) ∧ w' = W.alloc (.cells #[.map mb] 52) := AnyZ.keys_in Tryz.lKeys Fence.wide 5 trivial rfl mb W
set_option maxHeartbeats 1000000 in
theorem sorted12 (d s : Nat) (rs : List Rw) (D : Dm) (w : World) (h : DkAt w d s rs D) (hwt : wt rs ≤ 1099511000000) {l : List (ByteArray × List Int)} (hl : FL (play rs) l) :
    CallsIn Fence.wide 5 Tryz.prog 81 #[.func (.func 103) #[] #[.pointer (some ⟨w.heap.size, 0, none⟩)]] (w.alloc (.cells #[.map (some D.m)] 52)) fun e w' => ∃ v, e = .returned v ∧ w'.ownsRow w.heap.size 9 1 v l.length (nmsC l) ∧ Below w.heap.size w w' := by
  obtain ⟨b1, b2⟩ := h.bounds hwt
  obtain ⟨Rd, hR1, _⟩ := reads_ex w
  obtain ⟨L, hown, hLp⟩ := h.fil.owns b1 b2 hR1
  have hbl := hown.lt
  have hlen : Maps.size (DataW.map L) = D.fm.length := by
    have := hLp.length_eq
    rw [List.length_map] at this
    exact this
  have hseq : SeqGives Fence.wide 2 Tryz.prog 103 #[.pointer (some ⟨w.heap.size, 0, none⟩)] encStr (fun ss => ss.Perm (strKeys (DataW.map L))) (Maps.size (DataW.map L)) (w.alloc (.cells #[.map (some D.m)] 52)) :=
    AnyZ.keys_gives (ρ := Tryz.lKeys_ren) { Tryz.lKeys with } Fence.wide _ trivial rfl (by omega) w.heap.size D.m D.fm.length (DataW.map L) _ (by simp) (by simp) (by
      obtain ⟨es, clock, hb, Ft, hs, hD⟩ := hown
      exact ⟨es, clock, (Below.heap_alloc _ _ D.m hbl).trans hb, Ft, hs, hD⟩)
  have hsm : Maps.size (DataW.map L) ≤ 1099511000000 := by rw [hlen]; exact b2
  have cS := AnyZ.sorted_in Tryz.lSorted Fence.wide 5 trivial trivial trivial trivial rfl (by omega) (sorts12 _) (enters_of Tryz.func102 (by kernel_rfl) rfl) 103 #[.pointer (some ⟨w.heap.size, 0, none⟩)] trivial (enters_of Tryz.func103 (by kernel_rfl) rfl) _ _ (by unfold maxLen; omega) (by omega) _ hseq
  change CallsIn _ _ Tryz.prog 81 _ _ _ at cS
  refine cS.mono ?_
  rintro e w' ⟨v, ss, rfl, hS, hrow, _, hb⟩
  have hp : ss.Perm ((D.fm.map (·.1)).map fun x => x.toList) := by
    refine hS.trans ?_
    have h1 : (strKeys (DataW.map L)).Perm ((D.fm.map (ent (play rs))).map fun p => Go.strOf p.1) := hLp.map _
    refine h1.trans (List.Perm.of_eq ?_)
    rw [List.map_map, List.map_map]
    apply List.map_congr_left
    intro x _
    show x.1.data.toList = x.1.toList
    rw [ByteArray.toList_eq]
  have hsort := sort_names hl h.fil.map.one (fun n => by
    constructor
    · intro hn
      obtain ⟨x, hx, rfl⟩ := List.mem_map.1 hn
      rw [h.fil.some hx]
      rfl
    · intro hn
      cases hf : play rs n with
      | none => rw [hf] at hn; cases hn
      | some xs =>
        obtain ⟨u, hu, _⟩ := h.fil.mem hf
        exact List.mem_map.2 ⟨_, hu, rfl⟩) hp
  have hlen2 : ss.length = l.length := by
    have := congrArg List.length hsort
    rw [List.length_mergeSort, List.length_map] at this
    exact this
  refine ⟨v, rfl, ?_, ((Below.refl _ w).alloc (Nat.le_refl _) _).trans (hb.mono (by simp))⟩
  have h2 := ownsRow_base_a hrow (base' := w.heap.size) (by simp)
  rw [hsort, hlen2, List.map_map] at h2
  have h3 : (l.map (encStr ∘ fun x => x.1.toList)) = nmsC l := by
    unfold nmsC
    apply List.map_congr_left
    intro x _
    show encStr x.1.toList = .string x.1
    unfold encStr
    congr 1
    apply bytes_inj
    rw [ByteArray.toList_eq, ByteArray.toList_eq]
  rw [h3] at h2
  exact h2

end Go.Proofs.YtlgcjdgcgnlcaaaGreatDoor

/-
  The program's way through the names, for bodies that leave all names.
-/
namespace Go.Proofs.YtlgcjdgcgnlcaaaGreatDoor
open Go.RowKit Go.Maps Go.Sort Go.Shelf
set_option linter.unusedVariables false

theorem st_at (g n cap i : Nat) (hi : i < n) (W : World) : (Instr.indexAt 91 (.slice (some ⟨g, 0, none⟩) n cap) (.int .i64 (i : Int))).run Tryz.prog W = .ok (.pointer (some ⟨g, i, none⟩)) W := by
  have := vw_at rSt g n cap i hi W
  rw [Nat.mul_one] at this
  exact this
/-- What the program's iterator asks of a round that goes on: all blocks of names are left. -/
structure KS (A C : World) : Prop where
  size : A.heap.size ≤ C.heap.size
  keep : ∀ (k : Nat) (cs : List Value), Blk A k 9 cs → Blk C k 9 cs
theorem KS.refl (A : World) : KS A A := ⟨Nat.le_refl _, fun _ _ h => h⟩
theorem KS.trans {A C D : World} (h : KS A C) (k : KS C D) : KS A D := ⟨Nat.le_trans h.size k.size, fun i cs ho => k.keep i cs (h.keep i cs ho)⟩
theorem KS.book (W : World) (l : Nat) (o o' : Obj) (h : W.heap[l]? = some o) (hc : o.isCells = false) : KS W (W.putObj l o') :=
  ⟨(grownBy_putObj' W l o').size, fun k cs hq => by
    have hne : k ≠ l := fun e => by
      subst e
      rw [hq] at h
      injection h with h
      subst h
      cases hc
    unfold Blk
    rw [World.putObj_heap_other hne]
    exact hq⟩
theorem KS.below {A C : World} (h : Below A.heap.size A C) : KS A C := ⟨h.size, fun k cs hk => hk.on h⟩
theorem KS.but {g : Nat} {A C : World} {t : TypeId} {cs : List Value} (h : But g A C) (hg : Blk A g t cs) (ht : 9 ≠ t) : KS A C := ⟨Nat.le_of_eq h.size.symm, fun k ds hk => hk.but h (hk.apart hg ht)⟩
theorem KS.grown {A C : World} {row : Option Nat} (h : A.grownBy C row) (hr : ∀ g, row = some g → ∃ t cs, Blk A g t cs ∧ 9 ≠ t) : KS A C :=
  ⟨h.size, fun k ds hk => by
    unfold Blk
    rw [h.block k hk.lt (fun e => by
      obtain ⟨t, cs, h1, h2⟩ := hr k e.symm
      exact hk.apart h1 h2 rfl)]
    exact hk⟩
/-- What is handed out behind pre is the next name. -/
def RL (ls : List (ByteArray × List Int)) (pre : List ByteArray) (x : ByteArray) (W : World) : Prop := pre = (ls.take pre.length).map (·.1) ∧ ∃ ys, ls[pre.length]? = some (x, ys)
set_option maxRecDepth 100000 in
set_option maxHeartbeats 2000000 in
theorem list_seq (Bs d s : Nat) (rs : List Rw) (D : Dm) {ls : List (ByteArray × List Int)} (hl : FL (play rs) ls) (hwt : wt rs ≤ 1099511000000) (w : World) (hBs0 : Blk w Bs 26 [.pointer (some ⟨d, 0, none⟩)]) (hd0 : DkAt w d s rs D) :
    SeqR Fence.wide 6 Tryz.prog 80 #[.pointer (some ⟨Bs, 0, none⟩)] (fun x : ByteArray => #[.string x]) (RL ls) (fun _ => KS) (fun ys => ys = ls.map (·.1)) (fun pre => pre <+: ls.map (·.1)) w := by
  intro l J Jx W hbw hJ hJx hY h0
  have h : DkAt W d s rs D := hd0.below hbw
  have hBs : W.cell? ⟨Bs, 0, none⟩ = some (.pointer (some ⟨d, 0, none⟩)) := by rw [(hBs0.on hbw).cell]; rfl
  clear hbw hBs0 hd0 hJx
  obtain ⟨c0, c1, c3, hp⟩ := h.made
  have hlen : ls.length ≤ 1099511000000 := by
    have h1 : ls.length ≤ D.fm.length := by
      have h2 := sub_len (ls.map (·.1)) (D.fm.map (·.1)) (by rw [List.Nodup, List.pairwise_map]; exact hl.srt.imp (fun {a b} hab => blt_ne hab)) (fun n hn => by
        obtain ⟨x, hx, rfl⟩ := List.mem_map.1 hn
        obtain ⟨u, hu, _⟩ := h.fil.mem ((hl.mem x.1 x.2).2 hx)
        exact List.mem_map.2 ⟨_, hu, rfl⟩)
      simpa using h2
    have h3 := (h.bounds hwt).2
    omega
  have hS := sorted12 d s rs D W h hwt hl
  have HS := hide hS
  have HYY := hide hY
  have HJJ := hide hJ
  have H0 := hide h0
  have hfK : Fence.wide.fn 82 := trivial
  have hfS : Fence.wide.fn 81 := trivial
  have hfM : Fence.wide.fn 55 := trivial
  clear h hS hY hJ h0 c3
  generalize hL : ls.length = L at *
  have HL := hide hL
  clear hL
  refine callsIn_of_wp Tryz.func80 rfl trivial ?_ rfl
  simp only [Tryz.ntmps80, List.size_toArray, List.length_cons, List.length_nil, Nat.reduceAdd, Nat.reduceSub, Array.replicate_succ, Array.replicate_zero, List.push_toArray, List.append_toArray, List.nil_append, List.cons_append]
  gi_wp2_with (first
    | (gi_at_call 55; refine (callsIn_wide.2 (made_ok _ _ _ c0 hp)).mono ?_; rintro e W ⟨rfl, rfl⟩)
    | (gi_at_call 82; refine (keys12 _ _).mono ?_; rintro e w' ⟨rfl, rfl⟩)
    | (gi_at_call 81; refine HS.out.mono ?_; rintro e W2 ⟨v, rfl, hrow, hb⟩; obtain ⟨va, vc, hve⟩ := row_slice hrow; subst hve))
  have J2 : J [] W2 := HJJ.out [] W W2 none H0.out ⟨hb.os, hb.tape, hb.output, hb.size, fun i hi _ => hb.block i hi⟩ (fun r e => by cases e)
  have HJ2 := hide J2
  have HROW := hide hrow
  clear J2 hrow hb c0 c1
  gi_loopw [15] (fun c wr => ∃ k : Nat, k ≤ L ∧ c = .int .i64 (k : Int) ∧ Hid (J ((ls.take k).map (·.1)) wr) ∧ Hid (wr.ownsRow W.heap.size 9 1 (.slice va L vc) L (nmsC ls))) (fun c _ => L - (intOf c).toNat)
  case atStart => exact ⟨0, Nat.zero_le _, rfl, HJ2, HROW⟩
  case round =>
    obtain ⟨k, hk, rfl, HJk, HRk⟩ := hrel
    by_cases hlt : k < L
    · have hlti : (k : Int) < (L : Int) := by omega
      obtain ⟨x, hx⟩ : ∃ x, ls[k]? = some x := ⟨_, List.getElem?_eq_getElem (by rw [HL.out]; exact hlt)⟩
      obtain ⟨g, cap, cs, e1, hg, hcs, _⟩ := row_at HRk.out (by omega)
      injection e1 with e1 e2 e3
      clear e2
      subst e1 e3
      have hix := st_at g L vc k hlt
      have hcell : wr.cell? ⟨g, k, none⟩ = some (.string x.1) := by
        rw [hg.cell]
        have h1 : (nmsC ls)[k]? = some (.string x.1) := by unfold nmsC; rw [List.getElem?_map, hx]; rfl
        rw [← hcs, List.getElem?_take, if_pos (by omega)] at h1
        exact h1
      have HET : Hid ((ls.take (k + 1)).map (·.1) = (ls.take k).map (·.1) ++ [x.1]) := hide (by
        obtain ⟨hi, rfl⟩ := List.getElem?_eq_some_iff.1 hx
        rw [List.take_succ_eq_append_getElem hi, List.map_append]
        rfl)
      have HPRE : Hid ((ls.take (k + 1)).map (·.1) <+: ls.map (·.1)) := hide ((List.take_prefix _ _).map _)
      have hpl : ((ls.take k).map (·.1)).length = k := by rw [List.length_map, List.length_take]; have := HL.out; omega
      obtain ⟨fn, tmps, assign, body, hy, hR⟩ := HYY.out _ x.1 wr HJk.out ⟨by rw [hpl], x.2, by rw [hpl]; exact hx⟩
      have hge := row_ge HRk.out (k := g) rfl
      clear hx hg hcs hpl
      gi_wp2
      refine hR.mono ?_
      rintro e W3 (⟨rfl, hJ3, hk3⟩ | ⟨rfl, hJx3⟩)
      · rw [← HET.out] at hJ3
        have HJ3 := hide hJ3
        have HR3 : Hid (W3.ownsRow W.heap.size 9 1 (.slice (some ⟨g, 0, none⟩) L vc) L (nmsC ls)) := hide (row_same HRk.out (fun q hq => by
          obtain ⟨cs', hc'⟩ := row_lies HRk.out hq
          exact (hk3.keep q _ hc').trans hc'.symm))
        clear hJ3 hk3
        gi_wp2
        go_roundw
        case rel => exact ⟨k + 1, by omega, by go_num, HJ3, HR3⟩
        case measure => simp [intOf]; omega
      · rw [← HET.out] at hJx3
        gi_wp2
        refine bodyPost_ret (results_none rfl _ _ _) rfl ?_
        exact ⟨⟨_, rfl⟩, .inr ⟨_, HPRE.out, hJx3⟩⟩
    · have hlti : ¬ (k : Int) < (L : Int) := by omega
      have e1 : k = L := by omega
      have hfin := HJk.out
      rw [e1, List.take_of_length_le (by rw [HL.out]; omega)] at hfin
      have HFIN := hide hfin
      clear hfin
      gi_wp2
      go_end0
      exact ⟨⟨_, rfl⟩, .inl HFIN.out⟩

end Go.Proofs.YtlgcjdgcgnlcaaaGreatDoor

/-
  The files of a level that begin at a digest or behind it: the walk over the disk's names in behind.
-/
namespace Go.Proofs.YtlgcjdgcgnlcaaaGreatDoor
open Go.RowKit Go.Shelf
set_option linter.unusedVariables false
set_option linter.unusedSimpArgs false
set_option maxRecDepth 100000

/-- What stands while names are looked through. -/
structure FI (w W : World) (B b5 b6 b7 b9 : Nat) (fv : Value) (is : List Nat) (pre : List ByteArray) (H L P n : Nat) : Prop where
  c5 : Blk W b5 3 [.int .i64 (H : Int)]
  c6 : Blk W b6 3 [.int .i64 (L : Int)]
  c7 : Blk W b7 3 [.int .i64 (n : Int)]
  c9 : Blk W b9 136 [fv]
  row : W.ownsRow B 43 4 fv is.length (tlC (H : Int) (L : Int) (P : Int) is)
  l9 : w.heap.size ≤ b9 ∧ b9 < B ∧ b9 ≠ b5 ∧ b9 ≠ b6 ∧ b9 ≠ b7
  bel : Below w.heap.size w W
  sz : B ≤ W.heap.size
  nd : is.Nodup
  len : is.length ≤ pre.length
  mem : ∀ i, i ∈ is ↔ (tFB H L i = true ∧ sN H L i ∈ pre ∧ n ≤ i * 2 ^ H)
section
variable {w W W' : World} {B b5 b6 b7 b9 : Nat} {fv : Value} {is : List Nat} {pre : List ByteArray} {H L P n : Nat} {x : ByteArray}
theorem FI.ck (h : FI w W B b5 b6 b7 b9 fv is pre H L P n) (hk : CK W W') (hb : Below w.heap.size w W') : FI w W' B b5 b6 b7 b9 fv is pre H L P n :=
  ⟨h.c5.ck hk, h.c6.ck hk, h.c7.ck hk, h.c9.ck hk, row_same h.row (fun k e => by
    obtain ⟨cs, hc⟩ := row_lies h.row e
    exact (hc.ck hk).trans hc.symm), h.l9, hb, Nat.le_trans h.sz hk.size, h.nd, h.len, h.mem⟩
theorem FI.on (h : FI w W B b5 b6 b7 b9 fv is pre H L P n) (hb : Below W.heap.size W W') : FI w W' B b5 b6 b7 b9 fv is pre H L P n := h.ck (CK.below hb) (on_below h.bel hb)
/-- A name that is none of them. -/
theorem FI.skip (h : FI w W B b5 b6 b7 b9 fv is pre H L P n) (hx : ∀ i, tFB H L i = true → n ≤ i * 2 ^ H → sN H L i ≠ x) : FI w W B b5 b6 b7 b9 fv is (pre ++ [x]) H L P n := by
  refine ⟨h.c5, h.c6, h.c7, h.c9, h.row, h.l9, h.bel, h.sz, h.nd, by have := h.len; simp; omega, fun i => (h.mem i).trans ⟨fun ⟨h1, h2, h3⟩ => ⟨h1, by simp [h2], h3⟩, fun ⟨h1, h2, h3⟩ => ⟨h1, ?_, h3⟩⟩⟩
  rcases List.mem_append.1 h2 with h2 | h2
  · exact h2
  · simp at h2
    exact absurd h2 (hx i h1 h3)
/-- A name that is one of them. -/
theorem FI.push {w3 w4 w5 : World} {g i cap : Nat} (h : FI w W B b5 b6 b7 b9 fv is pre H L P n) (hi1 : tFB H L i = true) (hi2 : n ≤ i * 2 ^ H) (hx : x = sN H L i) (hnew : x ∉ pre) (h3 : Below W.heap.size W w3)
    (hrow : w4.ownsRow B 43 4 (.slice (some ⟨g, 0, none⟩) (is.length + 1) cap) (is ++ [i]).length (tlC (H : Int) (L : Int) (P : Int) (is ++ [i]))) (hgr : w3.grownBy w4 fv.ownBlock)
    (h5 : w5 = w4.setCell ⟨b9, 0, none⟩ (.slice (some ⟨g, 0, none⟩) (is.length + 1) cap)) : FI w w5 B b5 b6 b7 b9 (.slice (some ⟨g, 0, none⟩) (is.length + 1) cap) (is ++ [i]) (pre ++ [x]) H L P n ∧ KS W w5 ∧ KeepsOthers W w5 := by
  have H3 := h.on h3
  have hbut : But b9 w4 w5 := by rw [h5]; exact But.setCell w4 b9 0 _
  have hfB : ∀ k, fv.ownBlock = some k → B ≤ k ∧ ∃ cs, Blk w3 k 43 cs := fun k hk => ⟨row_ge H3.row hk, row_lies H3.row hk⟩
  have hint : ∀ {q : Nat} {u : Value}, Blk w3 q 3 [u] → q ≠ b9 → Blk w5 q 3 [u] := fun {q u} hq hne => (hq.same (hgr.block q hq.lt (fun e => by
    obtain ⟨_, cs, hc⟩ := hfB q e.symm
    exact hc.apart hq (by decide) rfl))).but hbut hne
  have l9 := h.l9
  have hs3 := h3.size
  have c4 : Blk w4 b9 136 [fv] := H3.c9.same (hgr.block b9 H3.c9.lt (fun e => by have := (hfB b9 e.symm).1; omega))
  have hif : i ∉ is := fun hm => hnew (by rw [hx]; exact ((h.mem i).1 hm).2.1)
  refine ⟨⟨hint H3.c5 (fun e => l9.2.2.1 e.symm), hint H3.c6 (fun e => l9.2.2.2.1 e.symm), hint H3.c7 (fun e => l9.2.2.2.2 e.symm), ?_, ?_, l9, ?_, ?_, ?_, ?_, ?_⟩, ?_, ?_⟩
  · rw [h5]; exact c4.set 0 _
  · exact row_same hrow (fun k hk => hbut.block k (by have := row_ge hrow hk; omega))
  · have b4 : Below w.heap.size w w4 := H3.bel.grown hgr H3.bel.size (fun r e => by have := (hfB r e).1; omega)
    exact b4.trans (hbut.below l9.1)
  · rw [hbut.size]
    have := hgr.size
    have := h.sz
    omega
  · rw [List.nodup_append]
    refine ⟨h.nd, by simp, fun a ha b hb => ?_⟩
    simp at hb
    rw [hb]
    exact fun e => hif (by rw [← e]; exact ha)
  · have := h.len; simp; omega
  · intro q
    rw [List.mem_append]
    constructor
    · rintro (hq | hq)
      · obtain ⟨h1, h2, h3⟩ := (h.mem q).1 hq
        exact ⟨h1, by simp [h2], h3⟩
      · simp at hq
        subst hq
        exact ⟨hi1, by rw [hx]; simp, hi2⟩
    · rintro ⟨h1, h2, h3⟩
      rcases List.mem_append.1 h2 with h2 | h2
      · exact .inl ((h.mem q).2 ⟨h1, h2, h3⟩)
      · right
        simp at h2
        rw [hx] at h2
        simp [(sN_inj h1 h2).2.2]
  · refine (KS.below h3).trans ((KS.grown hgr (fun g e => ?_)).trans (KS.but hbut c4 (by decide)))
    obtain ⟨_, cs, hc⟩ := hfB g e
    exact ⟨_, cs, hc, by decide⟩
  · refine (keepsO_below h3).trans ((keepsO_grown hgr (fun g e => ?_)).trans (keepsO_but hbut c4))
    obtain ⟨_, cs, hc⟩ := hfB g e
    exact ⟨_, cs, hc⟩
end
theorem rl_ownS (ls : List (ByteArray × List Int)) (B : Nat) (pre : List ByteArray) (x : ByteArray) : OwnFrom B (fun (_ : Unit) W => RL ls pre x W) := fun _ W W' row h hg hr => h
theorem rl_newS {f : ByteArray → Option (List Int)} {ls : List (ByteArray × List Int)} (hl : FL f ls) {pre : List ByteArray} {x : ByteArray} {W : World} (h : RL ls pre x W) : x ∉ pre := by
  obtain ⟨h1, ys, h2⟩ := h
  intro hx
  rw [h1] at hx
  obtain ⟨y, hy, rfl⟩ := List.mem_map.1 hx
  obtain ⟨i, hi, he⟩ := List.mem_iff_getElem.1 hy
  rw [List.length_take] at hi
  obtain ⟨hp, h2⟩ := List.getElem?_eq_some_iff.1 h2
  have hs := List.pairwise_iff_getElem.1 hl.srt i pre.length (by omega) hp (by omega)
  rw [List.getElem_take] at he
  rw [he, h2] at hs
  exact blt_ne hs rfl
theorem dlist_any (p : Option Addr) (w : World) : Calls Tryz.prog 50 #[.pointer p] w fun e w' => ∃ bx, e = .returned (.func (.func 80) #[] #[.pointer (some ⟨bx, 0, none⟩)]) ∧ Blk w' bx 26 [.pointer p] ∧ Below w.heap.size w w' :=
  (list_any p w).mono (fun r w' ⟨e, hw⟩ => ⟨w.heap.size, e, by rw [hw]; exact Blk.made _ _ _, by rw [hw]; exact (Below.refl _ _).alloc (Nat.le_refl _) _⟩)

end Go.Proofs.YtlgcjdgcgnlcaaaGreatDoor

/-
  The document's disk in memory; New, name, find.
-/
namespace Go.Proofs.YtlgcjdgcgnlcaaaGreatDoor
open Go.RowKit
set_option linter.unusedVariables false

def filC (l : List (ByteArray × List Int)) : List Value := l.flatMap fun x => [.string x.1, .string (str x.2)]
theorem filC_app (a b : List (ByteArray × List Int)) : filC (a ++ b) = filC a ++ filC b := by simp [filC]
theorem filC_cons (x : ByteArray × List Int) (b : List (ByteArray × List Int)) : filC (x :: b) = [.string x.1, .string (str x.2)] ++ filC b := by simp [filC]
theorem filC_length (l : List (ByteArray × List Int)) : (filC l).length = l.length * 2 := by
  induction l with
  | nil => rfl
  | cons x r ih => rw [filC_cons]; simp at ih ⊢; omega
theorem filC_take (l : List (ByteArray × List Int)) (k : Nat) : filC (l.take k) = (filC l).take (k * 2) := by
  by_cases hk : k ≤ l.length
  · have e : filC l = filC (l.take k) ++ filC (l.drop k) := by rw [← filC_app, List.take_append_drop]
    rw [e, List.take_left' (by rw [filC_length, List.length_take, Nat.min_eq_left hk])]
  · rw [List.take_of_length_le (by omega), List.take_of_length_le (by rw [filC_length]; omega)]
theorem filC_drop (l : List (ByteArray × List Int)) (k : Nat) : filC (l.drop k) = (filC l).drop (k * 2) := by
  by_cases hk : k ≤ l.length
  · have e : filC l = filC (l.take k) ++ filC (l.drop k) := by rw [← filC_app, List.take_append_drop]
    rw [e, List.drop_left' (by rw [filC_length, List.length_take, Nat.min_eq_left hk])]
  · rw [List.drop_of_length_le (by omega), List.drop_of_length_le (by rw [filC_length]; omega)]
    rfl
theorem filC_one (l : List (ByteArray × List Int)) : ∀ x ∈ filC l, x.oneCell' = true := by
  intro x hx
  simp only [filC, List.mem_flatMap] at hx
  obtain ⟨y, _, hy⟩ := hx
  simp at hy
  rcases hy with rfl | rfl <;> rfl
def fi0 : Value := .agg #[.string ByteArray.empty, .string ByteArray.empty]
theorem rFi : Ro 104 135 2 32 fi0 := ⟨by kernel_rfl, by kernel_rfl, by kernel_rfl, rfl, by decide, by decide, fun w => by kernel_rfl⟩
theorem wFi : Wide 135 2 := ⟨by kernel_rfl, by kernel_rfl⟩
theorem wRk : Wide 107 3 := ⟨by kernel_rfl, by kernel_rfl⟩
def rkC (s : Int) (fv qv : Value) : List Value := [.int .i64 s, fv, qv]
/-- The files of the document's disk in memory. -/
structure FkAt (w : World) (r s : Nat) (fv qv : Value) (l : List (ByteArray × List Int)) : Prop where
  blk : Blk w r 107 (rkC s fv qv)
  row : w.ownsRow 0 135 2 fv l.length (filC l)
section
variable {w w' : World} {r s : Nat} {fv qv : Value} {l : List (ByteArray × List Int)}
theorem FkAt.below (h : FkAt w r s fv qv l) (hb : Below w.heap.size w w') : FkAt w' r s fv qv l :=
  ⟨h.blk.on hb, row_same h.row (fun k hk => by obtain ⟨cs, hc⟩ := row_lies h.row hk; exact hb.block k hc.lt)⟩
/-- A file's two cells. -/
theorem FkAt.file (h : FkAt w r s fv qv l) {k : Nat} {x : ByteArray × List Int} (hx : l[k]? = some x) : ∃ g cap cs, fv = .slice (some ⟨g, 0, none⟩) l.length cap ∧ Blk w g 135 cs ∧ cs.take (l.length * 2) = filC l ∧ l.length * 2 ≤ cs.length ∧ (cs.drop (k * 2)).take 2 = [.string x.1, .string (str x.2)] ∧ cs[k * 2]? = some (.string x.1) ∧ cs[k * 2 + 1]? = some (.string (str x.2)) := by
  have hlt : k < l.length := (List.getElem?_eq_some_iff.1 hx).1
  obtain ⟨g, cap, cs, h1, h2, h3, h4⟩ := row_at h.row (by omega)
  have e1 : l = l.take k ++ (x :: l.drop (k + 1)) := by
    obtain ⟨hlt, rfl⟩ := List.getElem?_eq_some_iff.1 hx
    rw [← List.drop_eq_getElem_cons hlt, List.take_append_drop]
  have e2 : filC l = filC (l.take k) ++ ([.string x.1, .string (str x.2)] ++ filC (l.drop (k + 1))) := by rw [← filC_cons, ← filC_app, ← e1]
  have e3 : (filC (l.take k)).length = k * 2 := by rw [filC_length, List.length_take, Nat.min_eq_left (by omega)]
  have e4 : (cs.drop (k * 2)).take 2 = [.string x.1, .string (str x.2)] := by
    have : ((filC l).drop (k * 2)).take 2 = [.string x.1, .string (str x.2)] := by
      rw [e2, List.drop_left' e3]
      rfl
    rw [← h3, List.drop_take, List.take_take, Nat.min_eq_left (by omega)] at this
    exact this
  refine ⟨g, cap, cs, h1, h2, h3, h4, e4, ?_, ?_⟩
  · have := congrArg (fun z => z[0]?) e4
    simpa [List.getElem?_take, List.getElem?_drop] using this
  · have := congrArg (fun z => z[1]?) e4
    simpa [List.getElem?_take, List.getElem?_drop] using this
end

theorem nameR_any (n : ByteArray) (w : World) : Calls Tryz.prog 88 #[.string n] w fun e w' => e = .returned (.bool (nmB n)) ∧ w' = w := by
  unfold nmB
  by_cases h1 : 1 ≤ n.size
  · by_cases h2 : n.size ≤ 128
    · go_enter Tryz.func88, Tryz.ntmps88
      go_wp2
      go_ret
      exact ⟨by congr; simp [h1, h2]; omega, rfl⟩
    · go_enter Tryz.func88, Tryz.ntmps88
      go_wp2
      go_ret
      exact ⟨by congr; simp [h1, h2]; omega, rfl⟩
  · go_enter Tryz.func88, Tryz.ntmps88
    go_wp2
    go_ret
    exact ⟨by simp, rfl⟩
/-- Is the file there that find's place shows? -/
theorem FL.found {f : ByteArray → Option (List Int)} {l : List (ByteArray × List Int)} (h : FL f l) (n : ByteArray) {x : ByteArray × List Int} (hx : l[posF l n]? = some x) : (x.1.toList == n.toList) = (f n).isSome := by
  obtain ⟨A, B, rfl, hA, hlt, hB⟩ := h.split n
  have hx2 : B[0]? = some x := by rw [← hA, List.getElem?_append_right (Nat.le_refl _), Nat.sub_self] at hx; exact hx
  rcases hB with ⟨h1, h2⟩ | ⟨xs, B', h1, rfl, h3⟩
  · rw [h1]
    have := h2 x (List.mem_of_getElem? hx2)
    exact beqS_ne (Ne.symm (blt_ne this))
  · simp at hx2
    subst hx2
    rw [h1]
    simp
theorem FL.gone {f : ByteArray → Option (List Int)} {l : List (ByteArray × List Int)} (h : FL f l) (n : ByteArray) (hx : l.length ≤ posF l n) : (f n).isSome = false := by
  obtain ⟨A, B, rfl, hA, hlt, hB⟩ := h.split n
  have hB0 : B = [] := by
    rw [List.length_append] at hx
    exact List.eq_nil_of_length_eq_zero (by omega)
  subst hB0
  rcases hB with ⟨h1, h2⟩ | ⟨xs, B', h1, h2, h3⟩
  · rw [h1]; rfl
  · cases h2
set_option maxRecDepth 100000 in
set_option maxHeartbeats 1000000 in
theorem find_any (r s : Nat) (fv qv : Value) (l : List (ByteArray × List Int)) (f : ByteArray → Option (List Int)) (n : ByteArray) (w : World) (h : FkAt w r s fv qv l) (hf : FL f l) (hl : l.length ≤ 1099511000000) :
    Calls Tryz.prog 70 #[.pointer (some ⟨r, 0, none⟩), .string n] w fun e w' => e = .returned (.tuple #[.int .i64 (posF l n : Nat), .bool (f n).isSome]) ∧ Below w.heap.size w w' := by
  obtain ⟨fa, fc, rfl⟩ := row_slice h.row
  have c1 : w.cell? ⟨r, 1, none⟩ = some (.slice fa l.length fc) := by rw [h.blk.cell]; rfl
  have HH := hide h
  have HF := hide hf
  clear h hf
  generalize hL : l.length = L at *
  have HL := hide hL
  clear hL
  go_enter Tryz.func70, Tryz.ntmps70
  go_wp2
  go_loopw [6] (fun i wr => ∃ k : Nat, i = .int .i64 (k : Int) ∧ Hid (k ≤ posF l n) ∧ w = wr) (fun i _ => L - (intOf i).toNat)
  case atStart => exact ⟨0, rfl, hide (Nat.zero_le _), rfl⟩
  case round =>
    obtain ⟨k, rfl, HK, rfl⟩ := hrel
    have hkL : k ≤ L := by have h1 := HK.out; have h2 := posF_le l n; have h3 := HL.out; omega
    by_cases hlt : k < L
    · obtain ⟨x, hx⟩ : ∃ x, l[k]? = some x := ⟨_, List.getElem?_eq_getElem (by rw [HL.out]; exact hlt)⟩
      obtain ⟨g, cap, cs, e1, hg, _, _, _, hc0, _⟩ := HH.out.file hx
      injection e1 with e1 _ e3
      subst e1 e3
      have hix := vw_at rFi g L fc k hlt
      have hcell : w.cell? ⟨g, k * 2, none⟩ = some (.string x.1) := by rw [hg.cell]; exact hc0
      have hlti : (k : Int) < (L : Int) := by omega
      have hpos := posF_lt l n k x hx HK.out
      unfold blt at hpos
      have HPOS := hide hpos
      have HX := hide hx
      clear hpos hc0 hg hx
      cases hb : Op.bytesLess x.1.toList n.toList with
      | true =>
        go_wp2
        go_roundw
        case rel => exact ⟨k + 1, by go_num, hide (HPOS.out.1 hb), trivial⟩
        case measure => simp [intOf]; omega
      | false =>
        have hkp : k = posF l n := by
          have h1 := HK.out
          have h2 : ¬ k < posF l n := fun h => by rw [HPOS.out.2 h] at hb; cases hb
          omega
        have HKP := hide hkp
        clear hkp
        go_wp2_with fail
        go_quiet (fail)
        go_wp2
        go_ret2
        rw [← HF.out.found n (by rw [← HKP.out]; exact HX.out), ← HKP.out]
        exact ⟨rfl, below_drewN (Below.refl _ _) _⟩
    · have hlti : ¬ (k : Int) < (L : Int) := by omega
      have hkp : k = posF l n := by have h1 := HK.out; have h2 := posF_le l n; have h3 := HL.out; omega
      have HKP := hide hkp
      clear hkp
      go_wp2_with fail
      go_quiet (fail)
      go_wp2
      go_ret2
      rw [HF.out.gone n (by have h2 := HKP.out; have h3 := HL.out; omega), ← HKP.out]
      exact ⟨rfl, below_drewN (Below.refl _ _) _⟩

end Go.Proofs.YtlgcjdgcgnlcaaaGreatDoor

/-
  The document's disk in memory, whole; what do's branches leave, and its end.
-/
namespace Go.Proofs.YtlgcjdgcgnlcaaaGreatDoor
open Go.RowKit
set_option linter.unusedVariables false

theorem str_take (xs : List Int) (k : Nat) : (str xs).extract 0 k = str (xs.take k) := by
  apply ByteArray.ext
  rw [ByteArray.data_extract]
  apply Array.toList_inj.1
  rw [Array.toList_extract]
  simp [str, strOfNums, List.extract, List.map_take]
theorem str_mid (xs : List Int) (i j : Nat) : (str xs).extract i j = str ((xs.drop i).take (j - i)) := by
  apply ByteArray.ext
  rw [ByteArray.data_extract]
  apply Array.toList_inj.1
  rw [Array.toList_extract]
  simp [str, strOfNums, List.extract, List.map_take, List.map_drop]
/-- Raw writes' cells, one behind the other. -/
def rwsC (l : List (Rw × Value)) : List Value := l.flatMap fun x => rwC x.1.k x.1.n x.2 x.1.s x.1.t
theorem rwsC_app (a b : List (Rw × Value)) : rwsC (a ++ b) = rwsC a ++ rwsC b := by simp [rwsC]
theorem rwsC_length (l : List (Rw × Value)) : (rwsC l).length = l.length * 5 := by
  induction l with
  | nil => rfl
  | cons x r ih => simp [rwsC, rwC] at ih ⊢; omega
theorem rRw : Ro 105 116 5 72 (.agg rw0.toArray) := ⟨by kernel_rfl, by kernel_rfl, by kernel_rfl, rfl, by decide, by decide, fun w => by kernel_rfl⟩
structure Rm where
  fv : Value
  qv : Value
  l : List (ByteArray × List Int)
  qs : List (Rw × Value)
def Rm.own (R : Rm) (r k : Nat) : Prop := k = r ∨ R.fv.ownBlock = some k ∨ R.qv.ownBlock = some k
def Rm.ro (R : Rm) (k : Nat) : Prop := ∃ x ∈ R.qs, x.2.ownBlock = some k
/-- The document's disk in memory, with the raw writes that it has recorded. -/
structure RkAt (w : World) (r s : Nat) (rs : List Rw) (R : Rm) : Prop where
  s1 : 1 ≤ s
  s2 : s ≤ 4096
  fk : FkAt w r s R.fv R.qv R.l
  row : w.ownsRow 0 116 5 R.qv R.qs.length (rwsC R.qs)
  byt : ∀ x ∈ R.qs, BV w x.2 x.1.b
  raw : R.qs.map (·.1) = rs
  fls : FL (play rs) R.l
  val : Val s (fun _ => none) rs
  few : R.l.length ≤ rs.length
section
variable {w w' W : World} {r s : Nat} {rs : List Rw} {R : Rm}
theorem RkAt.same (h : RkAt w r s rs R) (hk : ∀ k, R.own r k ∨ R.ro k → w'.heap[k]? = w.heap[k]?) : RkAt w' r s rs R :=
  ⟨h.s1, h.s2, ⟨h.fk.blk.same (hk r (.inl (.inl rfl))), row_same h.fk.row (fun k e => hk k (.inl (.inr (.inl e))))⟩, row_same h.row (fun k e => hk k (.inl (.inr (.inr e)))), fun x hx => (h.byt x hx).same (fun k e => hk k (.inr ⟨x, hx, e⟩)), h.raw, h.fls, h.val, h.few⟩
/-- A block of the disk's, with its kind. -/
theorem RkAt.kind (h : RkAt w r s rs R) {k : Nat} (hk : R.own r k) : ∃ t cs, Blk w k t cs ∧ (t = 107 ∨ t = 135 ∨ t = 116) := by
  rcases hk with rfl | hk | hk
  · exact ⟨_, _, h.fk.blk, .inl rfl⟩
  · obtain ⟨cs, hc⟩ := row_lies h.fk.row hk; exact ⟨_, cs, hc, .inr (.inl rfl)⟩
  · obtain ⟨cs, hc⟩ := row_lies h.row hk; exact ⟨_, cs, hc, .inr (.inr rfl)⟩
theorem RkAt.off (h : RkAt w r s rs R) {k : Nat} {cs : List Value} (hc : Blk w k 5 cs) : ¬ R.own r k := fun hk => by
  obtain ⟨t, cs', h1, h2⟩ := h.kind hk
  rcases h2 with rfl | rfl | rfl <;> exact hc.apart h1 (by decide) rfl
theorem RkAt.lt (h : RkAt w r s rs R) {k : Nat} (hk : R.own r k ∨ R.ro k) : k < w.heap.size := by
  rcases hk with hk | ⟨x, hx, hk⟩
  · obtain ⟨t, cs, h1, _⟩ := h.kind hk; exact h1.lt
  · obtain ⟨cs, hc⟩ := (h.byt x hx).lies hk; exact hc.lt
theorem RkAt.below (h : RkAt w r s rs R) (hb : Below w.heap.size w w') : RkAt w' r s rs R := h.same (fun k hk => hb.block k (h.lt hk))
theorem RkAt.chs {S : Nat → Prop} (h : RkAt w r s rs R) (hc : Chs S w w') (hn : ∀ k, R.own r k ∨ R.ro k → ¬ S k) : RkAt w' r s rs R := h.same (fun k hk => hc.block k (h.lt hk) (hn k hk))
end
/-- What a call that writes leaves of the document's disk; v: a slice that it may keep. -/
def RoR (w w' : World) (r s : Nat) (R : Rm) (rs' : List Rw) (v : Value) : Prop :=
  ∃ R', RkAt w' r s rs' R' ∧ Chs (R.own r) w w' ∧ (∀ k, R'.own r k → R.own r k ∨ w.heap.size ≤ k) ∧ (∀ k, R'.ro k → R.ro k ∨ v.ownBlock = some k)
/-- What stands in do behind a branch. -/
structure DsR (w W : World) (r s : Nat) (R : Rm) (fv : Value) (l : List (ByteArray × List Int)) (x : Rw) (v : Value) (g3 : Nat) : Prop where
  fk : FkAt W r s fv R.qv l
  row : W.ownsRow 0 116 5 R.qv R.qs.length (rwsC R.qs)
  gb : Blk W g3 116 (rwC x.k x.n v x.s x.t)
  new : w.heap.size ≤ g3
  chs : Chs (R.own r) w W
  lie : ∀ k, fv.ownBlock = some k → R.own r k ∨ w.heap.size ≤ k
  off : R.qv.ownBlock ≠ some g3
section
variable {w W W' : World} {r s : Nat} {rs : List Rw} {R : Rm} {fv : Value} {l : List (ByteArray × List Int)} {x : Rw} {v : Value} {g3 : Nat}
theorem DsR.below (h : DsR w W r s R fv l x v g3) (hb : Below W.heap.size W W') : DsR w W' r s R fv l x v g3 :=
  ⟨h.fk.below hb, row_same h.row (fun k hk => by obtain ⟨cs, hc⟩ := row_lies h.row hk; exact hb.block k hc.lt), h.gb.on hb, h.new, h.chs.thenBelow hb, h.lie, h.off⟩
theorem DsR.r0 (h : DsR w W r s R fv l x v g3) : W.cell? ⟨g3, 0, none⟩ = some (.int .i64 x.k) := by rw [h.gb.cell]; rfl
theorem DsR.r1 (h : DsR w W r s R fv l x v g3) : W.cell? ⟨g3, 1, none⟩ = some (.string x.n) := by rw [h.gb.cell]; rfl
theorem DsR.r2 (h : DsR w W r s R fv l x v g3) : W.cell? ⟨g3, 2, none⟩ = some v := by rw [h.gb.cell]; rfl
theorem DsR.r3 (h : DsR w W r s R fv l x v g3) : W.cell? ⟨g3, 3, none⟩ = some (.int .i64 x.s) := by rw [h.gb.cell]; rfl
theorem DsR.r4 (h : DsR w W r s R fv l x v g3) : W.cell? ⟨g3, 4, none⟩ = some (.string x.t) := by rw [h.gb.cell]; rfl
theorem DsR.c1 (h : DsR w W r s R fv l x v g3) : W.cell? ⟨r, 1, none⟩ = some fv := by rw [h.fk.blk.cell]; rfl
theorem DsR.c2 (h : DsR w W r s R fv l x v g3) : W.cell? ⟨r, 2, none⟩ = some R.qv := by rw [h.fk.blk.cell]; rfl
theorem RkAt.ds (h : RkAt w r s rs R) {w1 : World} (hb : Below w.heap.size w w1) (hg : Blk w1 g3 116 (rwC x.k x.n v x.s x.t)) (hl : w.heap.size ≤ g3) : DsR w w1 r s R R.fv R.l x v g3 :=
  ⟨h.fk.below hb, row_same h.row (fun k hk => by obtain ⟨cs, hc⟩ := row_lies h.row hk; exact hb.block k hc.lt), hg, hl, Chs.of_below _ hb, fun k hk => .inl (.inr (.inl hk)), fun e => by have := h.lt (.inl (.inr (.inr e))); omega⟩
/-- The record has grown: the disk is whole again. -/
theorem DsR.done {rs' : List Rw} {qv' : Value} (h : RkAt w r s rs R) (hr : Lraw s (play rs) x) (hv : BV w v x.b) (hf : FL (doR (play rs) x) l) (hl : l.length ≤ rs.length + 1) (hfk : FkAt W' r s fv qv' l) (hrow : W'.ownsRow 0 116 5 qv' (R.qs ++ [(x, v)]).length (rwsC (R.qs ++ [(x, v)])))
    (hchs : Chs (R.own r) w W') (hlie : ∀ k, fv.ownBlock = some k → R.own r k ∨ w.heap.size ≤ k) (hlq : ∀ k, qv'.ownBlock = some k → R.own r k ∨ w.heap.size ≤ k) (hrs : rs' = rs ++ [x]) : RoR w W' r s R rs' v := by
  subst hrs
  refine ⟨⟨fv, qv', l, R.qs ++ [(x, v)]⟩, ⟨h.s1, h.s2, hfk, hrow, ?_, ?_, ?_, ?_, ?_⟩, hchs, ?_, ?_⟩
  · intro y hy
    rcases List.mem_append.1 hy with hy | hy
    · exact (h.byt y hy).same (fun k hk => by
        obtain ⟨cs, hc⟩ := (h.byt y hy).lies hk
        exact hchs.block k hc.lt (h.off hc))
    · simp at hy
      subst hy
      exact hv.same (fun k hk => by
        obtain ⟨cs, hc⟩ := hv.lies hk
        exact hchs.block k hc.lt (h.off hc))
  · simp [h.raw]
  · rw [play_snoc]; exact hf
  · rw [Val_app]
    exact ⟨h.val, hr, trivial⟩
  · simpa using hl
  · intro k hk
    rcases hk with hk | hk | hk
    · exact .inl (.inl hk)
    · exact hlie k hk
    · exact hlq k hk
  · intro k ⟨y, hy, e⟩
    rcases List.mem_append.1 hy with hy | hy
    · exact .inl ⟨y, hy, e⟩
    · simp at hy
      subst hy
      exact .inr e
end
theorem val_isB {s : Nat} : ∀ (rs : List Rw) (f : ByteArray → Option (List Int)), Val s f rs → (∀ n xs, f n = some xs → isB xs) → ∀ n xs, (rs.foldl doR f) n = some xs → isB xs
  | [], f, _, h => h
  | r :: t, f, hv, h => by
    refine val_isB t (doR f r) hv.2 (fun n xs hn => ?_)
    have key : ∀ (g : ByteArray → Option (List Int)) (m : ByteArray) (u : Option (List Int)), (∀ n xs, g n = some xs → isB xs) → (∀ xs, u = some xs → isB xs) → ∀ n xs, upd g m u n = some xs → isB xs := by
      intro g m u h1 h2 n xs hn
      unfold upd at hn
      split at hn
      · exact h2 xs hn
      · exact h1 n xs hn
    have hfl : ∀ m, isB (fl f m) := fun m => by
      unfold fl
      cases hm : f m with
      | none => exact fun x hx => by cases hx
      | some ys => exact h m ys hm
    rcases hv.1.1 with ⟨m, rfl, _⟩ | ⟨m, b, ys, rfl, _, _, _, hb⟩ | ⟨m, k, ys, rfl, _⟩ | ⟨m, ys, rfl, _⟩ | ⟨m, u, ys, rfl, _⟩
    · rw [do_cr] at hn
      exact key _ _ _ h (fun zs e => by injection e with e; subst e; exact fun x hx => by cases hx) n xs hn
    · rw [do_ap] at hn
      exact key _ _ _ h (fun zs e => by injection e with e; subst e; exact (hfl m).append hb) n xs hn
    · rw [do_cu] at hn
      exact key _ _ _ h (fun zs e => by injection e with e; subst e; exact (hfl m).take _) n xs hn
    · rw [do_rm] at hn
      exact key _ _ _ h (fun zs e => by cases e) n xs hn
    · rw [do_rn] at hn
      exact key _ _ _ (key _ _ _ h (fun zs e => by injection e with e; subst e; exact hfl m)) (fun zs e => by cases e) n xs hn
theorem RkAt.isb {w : World} {r s : Nat} {rs : List Rw} {R : Rm} (h : RkAt w r s rs R) {n : ByteArray} {xs : List Int} (hn : play rs n = some xs) : isB xs := val_isB rs _ h.val (fun n xs h => by cases h) n xs hn

/-! ### slices of files made -/
section
variable {dst : Option Tmp} {ty : TypeId} {pos : String} {aft : Array Edge} {gd : Option (Nat × Bool)} {ops : Array Oper} {rest : List Oper} {a : Act} {w : World} {K : Act → World → Prop} {Q : Exit → Act → World → Prop}
theorem build0F (w : World) : (Instr.buildSlice 104 0 #[]).run Tryz.prog w = .ok (.slice (some ⟨w.heap.size, 0, none⟩) 0 0) (w.alloc (.cells #[] 135)) := by kernel_rfl
set_option maxRecDepth 100000 in
theorem wp_0F {B : Nat} (hB : B ≤ w.heap.size) (h : ∀ w1 v, ((∃ g, v = .slice (some ⟨g, 0, none⟩) 0 0) ∧ w1.ownsRow B 135 2 v 0 []) → Below w.heap.size w w1 → K (a.put dst v) w1) :
    Oper.wp Tryz.prog ⟨dst, .buildSlice 104 0 #[], ty, pos, aft, gd⟩ a w K Q := by
  refine wp_runV (.slice (some ⟨w.heap.size, 0, none⟩) 0 0) (w.alloc (.cells #[] 135)) ?_ (h _ _ ⟨⟨_, rfl⟩, by simp, .inr ⟨w.heap.size, 0, #[], rfl, hB, heap_alloc_new w _, Nat.le_refl _, by unfold maxLen; omega, by simp, by simp⟩⟩ ((Below.refl _ _).alloc (Nat.le_refl _) _))
  unfold execOp
  simp only [List.map_toArray, List.map_nil]
  simp only [Sem.run_bind, build0F, Result.andThen_ok, Sem.run_pure]
theorem build_F (n b : ByteArray) (w : World) :
    (Instr.buildSlice 104 1 #[(0, .agg #[.string n, .string b])]).run Tryz.prog w = .ok (.slice (some ⟨w.heap.size, 0, none⟩) 1 1) (w.alloc (.cells #[.string n, .string b] 135)) := by kernel_rfl
set_option maxRecDepth 100000 in
theorem wp_oneF {x : Operand} {n : ByteArray} {xs : List Int} (hx : a.eval x = .agg #[.string n, .string (str xs)]) (h : ∀ w1 v, Vw w1 135 2 v 1 (filC [(n, xs)]) → Below w.heap.size w w1 → K (a.put dst v) w1) :
    Oper.wp Tryz.prog ⟨dst, .buildSlice 104 1 #[(0, x)], ty, pos, aft, gd⟩ a w K Q := by
  refine wp_runV (.slice (some ⟨w.heap.size, 0, none⟩) 1 1) (w.alloc (.cells #[.string n, .string (str xs)] 135)) ?_ (h _ _ ⟨by simp [filC], _, _, rfl, Nat.le_refl _, fun _ => ⟨_, 0, [.string n, .string (str xs)], rfl, Blk.made w 135 [.string n, .string (str xs)], rfl⟩⟩ ((Below.refl _ _).alloc (Nat.le_refl _) _))
  unfold execOp
  simp only [List.map_toArray, List.map_cons, List.map_nil, hx]
  simp only [Sem.run_bind, build_F, Result.andThen_ok, Sem.run_pure]
end

end Go.Proofs.YtlgcjdgcgnlcaaaGreatDoor
