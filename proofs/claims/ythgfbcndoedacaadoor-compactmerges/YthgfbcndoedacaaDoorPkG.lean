/-
  Texts one behind the other: Da Cn Pn Bu Rp.
-/
import Derived.Test.YthgfbcndoedacaaDoorPkF
import Derived.Test.YthgfbcndoedacaaDoorPkA
import Derived.Test.YthgfbcndoedacaaDoorPkE
import Derived.RangeFuncNested
import Derived.RangeFuncBound
import Derived.RangeFuncCalls
import Derived.RangeFuncLeaves
import Derived.Shelf.Abstract
import Derived.Shelf.RegionOpen
import Derived.WalkKit
import Derived.OwnWalkIn
import Derived.TacticsInMore
import Derived.LoopNIn
import Derived.LoopIn
import Derived.Laws.EntriesVeiled
import Derived.Laws.Tables
import Derived.Great.BuildSlice
import Derived.Laws.Bits64
import Derived.Deep.AppendLies

/-
  append of digests; the law's same; rootOf, and both Subs.
-/
namespace Go.Proofs.YthgfbcndoedacaaDoor
open Go.RowKit
set_option linter.unusedVariables false

/-- A slice of digests of the call's own. -/
def DOwn (w : World) (B : Nat) (v : Value) (n : Nat) (xs : List Int) : Prop := w.ownsRow B 34 32 v n (u8s xs)
theorem DOwn.nil (w : World) (B : Nat) : DOwn w B (.slice none 0 0) 0 [] := World.ownsRow_nil _ _ _ _
theorem DOwn.lt {w : World} {B : Nat} {v : Value} {n : Nat} {xs : List Int} (h : DOwn w B v n xs) : ∀ k, v.ownBlock = some k → B ≤ k := fun k hk => (World.ownsRow.lt h k hk).1
theorem DOwn.alloc {w : World} {B : Nat} {v : Value} {n : Nat} {xs : List Int} (h : DOwn w B v n xs) (o : Obj) : DOwn (w.alloc o) B v n xs := World.ownsRow.alloc h o
theorem DOwn.below {w w' : World} {B : Nat} {v : Value} {n : Nat} {xs : List Int} (h : DOwn w B v n xs) (hb : Below w.heap.size w w') : DOwn w' B v n xs := by
  obtain ⟨h1, h2⟩ := h
  refine ⟨h1, ?_⟩
  rcases h2 with h2 | ⟨g, cap, cur, e, hg, hh, r⟩
  · exact .inl h2
  · refine .inr ⟨g, cap, cur, e, hg, ?_, r⟩
    rw [hb.block g (Array.getElem?_eq_some_iff.1 hh).1]
    exact hh
theorem DOwn.len {w : World} {B : Nat} {v : Value} {n : Nat} {xs : List Int} (h : DOwn w B v n xs) : xs.length = 32 * n := by
  have := h.1
  rw [u8s_length] at this
  omega
theorem DOwn.ds {w : World} {B : Nat} {v : Value} {n : Nat} {xs : List Int} (h : DOwn w B v n xs) (hb : isB xs) (hn : n ≤ 4398046511104) :
    ∃ a cap, v = .slice a n cap ∧ Ds w a n cap xs ∧ ∀ x, a = some x → B ≤ x.block := by
  have hl := h.len
  obtain ⟨_, h2⟩ := h
  rcases h2 with ⟨rfl, rfl⟩ | ⟨g, cap, cur, rfl, hB, hh, h3, h4, h5, h6⟩
  · obtain rfl : xs = [] := List.eq_nil_of_length_eq_zero hl
    exact ⟨none, 0, rfl, ⟨Nat.le_refl _, by omega, fun _ => rfl, Sl.none0 _⟩, fun x hx => by cases hx⟩
  · refine ⟨some ⟨g, 0, none⟩, cap, rfl, ⟨h3, by simpa [maxLen] using h4, (fun e => by cases e), hl, Nat.le_refl _, by omega, by omega, hb, (fun e => by cases e), fun _ => ⟨g, 0, rfl, fun i hi => ?_⟩⟩, fun x hx => by cases hx; exact hB⟩
    rw [Nat.zero_add, cell_of_row w g i cur 34 (0, 0) hh]
    have e : (cur.toList.take (n * 32))[i]? = some (.int .u8 (xs.getD i 0)) := by rw [h6]; exact u8s_get xs i (by omega)
    rw [List.getElem?_take, if_pos (by omega)] at e
    simpa using e

theorem wp_appendD {o : Oper} {K : Act → World → Prop} {s x : Operand} {a : Act} {w : World} {Q : Exit → Act → World → Prop}
    {B : Nat} {v : Value} {n : Nat} {xs : List Int} {sa : Option Addr} {m c : Nat} {ys : List Int}
    (ho : o.op = .call { callee := .builtin .append, args := #[s, x], argTypes := #[27, 27] }) (hs : a.eval s = v) (hx : a.eval x = .slice sa m c) (hown : DOwn w B v n xs) (hy : Ds w sa m c ys)
    (hlen : n + m ≤ 4398046511104) (hB : B ≤ w.heap.size)
    (h : ∀ v' w', DOwn w' B v' (n + m) (xs ++ ys) → w.grownBy w' v.ownBlock → K (a.put o.dst v') w') : Oper.wp Tryd.prog o a w K Q := by
  obtain ⟨i0, hi, hz0, hz1, hz2⟩ := info_parts infoD
  cases sa with
  | none =>
    have hc0 := hy.hnil rfl
    have hm0 : m = 0 := by have := hy.hcap; omega
    subst hc0 hm0
    obtain rfl : ys = [] := List.eq_nil_of_length_eq_zero hy.hlen
    have hrun := run_append_owned_none (P := Tryd.prog) (w := w) B 27 o.type 34 i0 32 undDl hi v _ _ hown
    unfold Oper.wp
    simp [execOp, ho, resolve, invoke, builtin, hs, hx, hrun, Result.andThen]
    exact (h v w (by simpa using hown) (World.grownBy.refl _ _))
  | some ad =>
    refine wp_append_own _ s x 27 ho B 34 i0 (.agg (u8s (zer 32)).toArray) 32 32 undDl hi hz0 hz1 hz2 rfl (by decide) v _ _ hs hown ad m c (u8s ys) hx (by rw [u8s_length, hy.hlen, Nat.mul_comm]) ?_ (One.u8 ys) ?_ ?_ hB ?_
    · intro j u hu
      have hj : j < 32 * m := by
        have := (List.getElem?_eq_some_iff.1 hu).1
        rwa [u8s_length, hy.hlen] at this
      obtain ⟨b, off, e, hc⟩ := hy.sl.hcell (by omega)
      obtain rfl := Option.some.inj e
      rw [Addr.add_lit, hc j hj]
      rw [u8s_get ys j (by rw [hy.hlen]; exact hj)] at hu
      exact hu
    · unfold maxLen; omega
    · omega
    · intro v' w' h1 h2 h3
      exact (h v' w' (by unfold DOwn; rw [u8s_app]; exact h1) h2)
theorem step_appendD {dst : Option Tmp} {s x : Operand} {ty : TypeId} {pos : String} {aft : Array Edge} {gd : Option (Nat × Bool)} {ops : Array Oper} {rest : List Oper} {a : Act} {w : World} {Q : Exit → Act → World → Prop}
    {B : Nat} {v : Value} {n : Nat} {xs : List Int} {sa : Option Addr} {m c : Nat} {ys : List Int}
    (hw : Region.wanted ⟨dst, .call { callee := .builtin .append, args := #[s, x], argTypes := #[27, 27] }, ty, pos, aft, gd⟩ (yielded ops a.tmps) = true)
    (hs : a.eval s = v) (hx : a.eval x = .slice sa m c) (hown : DOwn w B v n xs) (hy : Ds w sa m c ys) (hlen : n + m ≤ 4398046511104) (hB : B ≤ w.heap.size)
    (h : ∀ v' w', DOwn w' B v' (n + m) (xs ++ ys) → w.grownBy w' v.ownBlock → wpList Tryd.prog ops Q rest (a.put dst v') w') :
    wpList Tryd.prog ops Q (⟨dst, .call { callee := .builtin .append, args := #[s, x], argTypes := #[27, 27] }, ty, pos, aft, gd⟩ :: rest) a w :=
  BigFrame.wpList_want hw fun K hK => wp_appendD rfl hs hx hown hy hlen hB fun v' w' h1 h2 => hK _ _ (h v' w' h1 h2)
theorem down_empty (w : World) : DOwn (w.alloc (.cells #[] 34)) w.heap.size (.slice (some ⟨w.heap.size, 0, none⟩) 0 0) 0 [] :=
  ⟨by simp [u8s], .inr ⟨w.heap.size, 0, #[], rfl, Nat.le_refl _, Blk.made w 34 [], Nat.le_refl _, by unfold maxLen; omega, by simp, by simp [u8s]⟩⟩

theorem run_neT {dst : Option Tmp} {ty : TypeId} {pos : String} {aft : Array Edge} {gd : Option (Nat × Bool)} {a : Act} {w : World} {T E : TypeId} {k : IntKind} {n : Nat} (hA : Arr T E k n) (t' : TypeId) {x y : Operand} {xs : List Int} (hx : a.eval x = .agg (xs.map (Value.int k)).toArray) (hy : a.eval y = .agg (xs.map (Value.int k)).toArray) (hl : xs.length = n) :
    (execOp a.eval ⟨dst, .binOp .neq T x y t', ty, pos, aft, gd⟩).run Tryd.prog w = .ok (.value (.bool false)) w := by
  rw [run_neA hA t' hx hy hl hl]
  simp


/-- Some of them. -/
def sub (xs : List Int) (b e : Nat) : List Int := (xs.drop (32 * b)).take (32 * (e - b))
theorem sub_length {xs : List Int} {n b e : Nat} (h : xs.length = 32 * n) (hb : b ≤ e) (he : e ≤ n) : (sub xs b e).length = 32 * (e - b) := by
  simp [sub]; omega
theorem sub_isB {xs : List Int} (h : isB xs) (b e : Nat) : isB (sub xs b e) := (h.drop _).take _
theorem Ds.mid {w : World} {b o n cap : Nat} {xs : List Int} (h : Ds w (some ⟨b, o, none⟩) n cap xs) (k e : Nat) (hk : k ≤ e) (he : e ≤ n) : Ds w (some ⟨b, o + 32 * k, none⟩) (e - k) (cap - k) (sub xs k e) :=
  (h.drop k (by omega)).take (e - k) (by omega)
theorem wSp : Wide 51 2 := ⟨by kernel_rfl, by kernel_rfl⟩
theorem One.ints (xs : List Int) : One (xs.map (Value.int .i64)) := ints_oneCell _ _

set_option maxRecDepth 100000 in
set_option maxHeartbeats 1000000 in
theorem rootOf_any (bl o n cap b e : Nat) (B E : Int) (xs : List Int) (w : World) (hs : Ds w (some ⟨bl, o, none⟩) n cap xs) (hB : B = (b : Int)) (hE : E = (e : Int)) (hbe : b < e) (hen : e ≤ n) (hk : KT w) :
    Calls Tryd.prog 47 #[.slice (some ⟨bl, o, none⟩) n cap, .agg #[.int .i64 B, .int .i64 E]] w fun r w' => r = .returned (.agg (u8s (root (sub xs b e))).toArray) ∧ Below w.heap.size w w' := by
  subst hB hE
  have HK := hide hk
  have hcap := hs.hcap
  have HD := hide (hs.mid b e (by omega) hen)
  have HML := hide (show (u8s (root (sub xs b e))).length = 32 by rw [u8s_length, root_length (sub_length hs.hlen (by omega) hen) (sub_isB hs.hbyte b e)])
  have hsl := d_mid bl o n cap b e (b : Int) (e : Int) rfl rfl hbe (by omega)
  clear hs hk
  go_enter Tryd.func47, Tryd.ntmps47
  go_wp2_with (refine step_box (cs := [.int .i64 b, .int .i64 e]) rfl rfl ?_)
  intro w1 g3 hr1 hl1 hb1
  have G3 := hide hr1
  have HB1 := hide hb1
  clear hr1
  go_wp2_with (refine step_alloc zD rfl ?_)
  intro w2 g4 hr2 hl2 hb2
  have HB2 := hide (HB1.out.trans (hb2.mono HB1.out.size))
  have G32 := hide (G3.out.below hb2 G3.out.lt)
  have G4 := hide hr2
  have hc0 : w2.cell? ⟨g3, 0, none⟩ = some (.int .i64 b) := by rw [G32.out.cell]; rfl
  have hc1 : w2.cell? ⟨g3, 1, none⟩ = some (.int .i64 e) := by rw [G32.out.cell]; rfl
  have hw4 : w.heap.size ≤ g4 := Nat.le_trans hb1.size hl2
  clear hr2 hb1 hb2 G3
  go_wp2_with fail
  refine (root_any n _ _ _ (sub xs b e) _ (by omega) (HD.out.below HB2.out) (HK.out.below HB2.out HK.out.lt)).mono ?_
  rintro r w3 ⟨rfl, hb3⟩
  have G43 := hide (G4.out.below hb3 G4.out.lt)
  go_wp2_with (refine step_storeA wD rfl rfl rfl G43.out HML.out (One.u8 _) rfl ?_; intro w4 hg4 hbut4)
  refine bodyPost_ret (results_wide rfl wD _ _ rfl hg4 HML.out) rfl ⟨rfl, ?_⟩
  exact (HB2.out.trans (hb3.mono HB2.out.size)).trans (hbut4.below hw4)

/-- What Sub answers. -/
def sbD (xs : List Int) (n : Nat) (b e : Int) : List Int := if b < 0 ∨ e ≤ b ∨ (n : Int) < e then zer 32 else root (sub xs b.toNat e.toNat)
def sbE (n : Nat) (b e : Int) : Int := if b < 0 ∨ e ≤ b ∨ (n : Int) < e then 40 else 0
theorem sbD_length {xs : List Int} {n : Nat} (b e : Int) (h : xs.length = 32 * n) (hb : isB xs) : (sbD xs n b e).length = 32 := by
  unfold sbD
  split
  · exact zer_length 32
  · exact root_length (sub_length h (by omega) (by omega)) (sub_isB hb _ _)

set_option maxRecDepth 100000 in
set_option maxHeartbeats 2000000 in
theorem sub_any (a : Option Addr) (n cap : Nat) (b e : Int) (xs : List Int) (w : World) (hs : Ds w a n cap xs) (hk : KT w) :
    Calls Tryd.prog 27 #[.slice a n cap, .agg #[.int .i64 b, .int .i64 e]] w fun r w' => r = .returned (.tuple #[.agg (u8s (sbD xs n b e)).toArray, .int .i64 (sbE n b e)]) ∧ Below w.heap.size w w' := by
  have HK := hide hk
  have HS := hide hs
  have hcap := hs.hcap
  clear hs hk
  by_cases h1 : b < 0
  ·
    have ED := hide (show sbD xs n b e = zer 32 by unfold sbD; rw [if_pos (by omega)])
    have EE := hide (show sbE n b e = 40 by unfold sbE; rw [if_pos (by omega)])
    rw [ED.out, EE.out]
    go_enter Tryd.func27, Tryd.ntmps27
    go_wp2_with (refine step_box (cs := [.int .i64 b, .int .i64 e]) rfl rfl ?_)
    intro w1 g3 hr1 hl1 hb1
    have G3 := hide hr1
    have HB1 := hide hb1
    clear hr1
    go_wp2_with (refine step_alloc zD rfl ?_)
    intro w2 g4 hr2 hl2 hb2
    have HB2 := hide (HB1.out.trans (hb2.mono HB1.out.size))
    have G32 := hide (G3.out.below hb2 G3.out.lt)
    have G4 := hide hr2
    have hc0 : w2.cell? ⟨g3, 0, none⟩ = some (.int .i64 b) := by rw [G32.out.cell]; rfl
    have hc1 : w2.cell? ⟨g3, 1, none⟩ = some (.int .i64 e) := by rw [G32.out.cell]; rfl
    have hw4 : w.heap.size ≤ g4 := Nat.le_trans hb1.size hl2
    clear hr2 hb1 hb2 G3
    go_wp2_with (first | (refine step_buildD rfl ?_) | (refine step_storeA wD rfl rfl rfl G4.out (by rw [u8s_length, zer_length]) (One.u8 _) rfl ?_; intro w4 hg4 hbut4))
    refine bodyPost_ret (results_wide2 rfl wD _ _ rfl hg4 (by rw [u8s_length, zer_length])) rfl ⟨rfl, ?_⟩
    exact HB2.out.trans (hbut4.below hw4)
  by_cases h2 : e ≤ b
  ·
    have ED := hide (show sbD xs n b e = zer 32 by unfold sbD; rw [if_pos (by omega)])
    have EE := hide (show sbE n b e = 40 by unfold sbE; rw [if_pos (by omega)])
    rw [ED.out, EE.out]
    go_enter Tryd.func27, Tryd.ntmps27
    go_wp2_with (refine step_box (cs := [.int .i64 b, .int .i64 e]) rfl rfl ?_)
    intro w1 g3 hr1 hl1 hb1
    have G3 := hide hr1
    have HB1 := hide hb1
    clear hr1
    go_wp2_with (refine step_alloc zD rfl ?_)
    intro w2 g4 hr2 hl2 hb2
    have HB2 := hide (HB1.out.trans (hb2.mono HB1.out.size))
    have G32 := hide (G3.out.below hb2 G3.out.lt)
    have G4 := hide hr2
    have hc0 : w2.cell? ⟨g3, 0, none⟩ = some (.int .i64 b) := by rw [G32.out.cell]; rfl
    have hc1 : w2.cell? ⟨g3, 1, none⟩ = some (.int .i64 e) := by rw [G32.out.cell]; rfl
    have hw4 : w.heap.size ≤ g4 := Nat.le_trans hb1.size hl2
    clear hr2 hb1 hb2 G3
    go_wp2_with (first | (refine step_buildD rfl ?_) | (refine step_storeA wD rfl rfl rfl G4.out (by rw [u8s_length, zer_length]) (One.u8 _) rfl ?_; intro w4 hg4 hbut4))
    refine bodyPost_ret (results_wide2 rfl wD _ _ rfl hg4 (by rw [u8s_length, zer_length])) rfl ⟨rfl, ?_⟩
    exact HB2.out.trans (hbut4.below hw4)
  by_cases h3 : (n : Int) < e
  ·
    have ED := hide (show sbD xs n b e = zer 32 by unfold sbD; rw [if_pos (by omega)])
    have EE := hide (show sbE n b e = 40 by unfold sbE; rw [if_pos (by omega)])
    rw [ED.out, EE.out]
    go_enter Tryd.func27, Tryd.ntmps27
    go_wp2_with (refine step_box (cs := [.int .i64 b, .int .i64 e]) rfl rfl ?_)
    intro w1 g3 hr1 hl1 hb1
    have G3 := hide hr1
    have HB1 := hide hb1
    clear hr1
    go_wp2_with (refine step_alloc zD rfl ?_)
    intro w2 g4 hr2 hl2 hb2
    have HB2 := hide (HB1.out.trans (hb2.mono HB1.out.size))
    have G32 := hide (G3.out.below hb2 G3.out.lt)
    have G4 := hide hr2
    have hc0 : w2.cell? ⟨g3, 0, none⟩ = some (.int .i64 b) := by rw [G32.out.cell]; rfl
    have hc1 : w2.cell? ⟨g3, 1, none⟩ = some (.int .i64 e) := by rw [G32.out.cell]; rfl
    have hw4 : w.heap.size ≤ g4 := Nat.le_trans hb1.size hl2
    clear hr2 hb1 hb2 G3
    go_wp2_with (first | (refine step_buildD rfl ?_) | (refine step_storeA wD rfl rfl rfl G4.out (by rw [u8s_length, zer_length]) (One.u8 _) rfl ?_; intro w4 hg4 hbut4))
    refine bodyPost_ret (results_wide2 rfl wD _ _ rfl hg4 (by rw [u8s_length, zer_length])) rfl ⟨rfl, ?_⟩
    exact HB2.out.trans (hbut4.below hw4)
  obtain ⟨b, rfl⟩ : ∃ k : Nat, b = (k : Int) := ⟨b.toNat, by omega⟩
  obtain ⟨e, rfl⟩ : ∃ k : Nat, e = (k : Int) := ⟨e.toNat, by omega⟩
  have ED := hide (show sbD xs n b e = root (sub xs b e) by unfold sbD; rw [if_neg (by omega)]; rfl)
  have EE := hide (show sbE n b e = 0 by unfold sbE; rw [if_neg (by omega)])
  have HML := hide (show (u8s (root (sub xs b e))).length = 32 by rw [u8s_length, root_length (sub_length HS.out.hlen (by omega) (by omega)) (sub_isB HS.out.hbyte b e)])
  obtain ⟨bl, o, rfl⟩ := HS.out.place (by omega)
  have HD := hide (HS.out.mid b e (by omega) (by omega))
  have hsl := d_mid bl o n cap b e (b : Int) (e : Int) rfl rfl (by omega) (by omega)
  rw [ED.out, EE.out]
  go_enter Tryd.func27, Tryd.ntmps27
  go_wp2_with (refine step_box (cs := [.int .i64 b, .int .i64 e]) rfl rfl ?_)
  intro w1 g3 hr1 hl1 hb1
  have G3 := hide hr1
  have HB1 := hide hb1
  clear hr1
  go_wp2_with (refine step_alloc zD rfl ?_)
  intro w2 g4 hr2 hl2 hb2
  have HB2 := hide (HB1.out.trans (hb2.mono HB1.out.size))
  have G32 := hide (G3.out.below hb2 G3.out.lt)
  have G4 := hide hr2
  have hc0 : w2.cell? ⟨g3, 0, none⟩ = some (.int .i64 b) := by rw [G32.out.cell]; rfl
  have hc1 : w2.cell? ⟨g3, 1, none⟩ = some (.int .i64 e) := by rw [G32.out.cell]; rfl
  have hw4 : w.heap.size ≤ g4 := Nat.le_trans hb1.size hl2
  clear hr2 hb1 hb2 G3
  go_wp2_with (first | (refine step_loadA wSp rfl rfl G32.out rfl ?_) | fail)
  refine (rootOf_any bl o n cap b e (b : Int) (e : Int) xs _ (HS.out.below HB2.out) rfl rfl (by omega) (by omega) (HK.out.below HB2.out HK.out.lt)).mono ?_
  rintro r w3 ⟨rfl, hb3⟩
  have G43 := hide (G4.out.below hb3 G4.out.lt)
  go_wp2_with (refine step_storeA wD rfl rfl rfl G43.out HML.out (One.u8 _) rfl ?_; intro w4 hg4 hbut4)
  refine bodyPost_ret (results_wide2 rfl wD _ _ rfl hg4 HML.out) rfl ⟨rfl, ?_⟩
  exact (HB2.out.trans (hb3.mono HB2.out.size)).trans (hbut4.below hw4)

end Go.Proofs.YthgfbcndoedacaaDoor

/-
  Ranges that no call made, and the walk of CompactNobody.
-/
namespace Go.Proofs.YthgfbcndoedacaaDoor
open Go.RowKit Go.Shelf
set_option linter.unusedVariables false

theorem zSp : Zeroed 51 [.int .i64 0, .int .i64 0] := fun _ _ _ _ _ _ _ => by kernel_rfl
theorem wSpn : Wide 51 2 := ⟨by kernel_rfl, by kernel_rfl⟩
theorem One.two (a b : Int) : One [.int .i64 a, .int .i64 b] := by intro v hv; simp at hv; rcases hv with rfl | rfl <;> rfl

/-- A range that no call made: nil, or a bare one. -/
def RNob (w : World) (p : Value) : Prop :=
  p = .pointer none ∨ ∃ g : Nat, p = .pointer (some ⟨g, 0, none⟩) ∧ w.cell? ⟨g, 0, none⟩ = some (.bool false)
theorem RNob.nil {w : World} : RNob w (.pointer none) := .inl rfl
theorem RNob.bare {w : World} (g : Nat) (h : w.cell? ⟨g, 0, none⟩ = some (.bool false)) : RNob w (.pointer (some ⟨g, 0, none⟩)) := .inr ⟨g, rfl, h⟩
theorem RNob.below {w w' : World} {p : Value} (h : RNob w p) (hb : Below w.heap.size w w') : RNob w' p := by
  rcases h with rfl | ⟨g, rfl, h⟩
  · exact .nil
  · exact .bare g (by rw [hb.cell (World.block_lt_of_cell? w _ h)]; exact h)
theorem RNob.ptr {w : World} {p : Value} (h : RNob w p) : ∃ x, p = .pointer x := by
  rcases h with rfl | ⟨g, rfl, _⟩
  · exact ⟨_, rfl⟩
  · exact ⟨_, rfl⟩

theorem cell_below {w w' : World} {x : Addr} {v : Value} (h : w.cell? x = some v) (hb : Below w.heap.size w w') : w'.cell? x = some v := by
  rw [hb.cell (World.block_lt_of_cell? w _ h)]; exact h

theorem made_nob (p : Value) (w : World) (h : RNob w p) : Calls Tryd.prog 29 #[p] w fun e w' => e = .returned (.bool false) ∧ w = w' := by
  rcases h with rfl | ⟨g, rfl, h⟩
  · go_enter Tryd.func29, Tryd.ntmps29
    go_wp2
    go_ret
    exact ⟨rfl, rfl⟩
  · go_enter Tryd.func29, Tryd.ntmps29
    go_wp2
    go_ret
    exact ⟨rfl, rfl⟩
/-- A range that is made. -/
theorem made_is (g : Nat) (w : World) (h : w.cell? ⟨g, 0, none⟩ = some (.bool true)) : Calls Tryd.prog 29 #[.pointer (some ⟨g, 0, none⟩)] w fun e w' => e = .returned (.bool true) ∧ w = w' := by
  go_enter Tryd.func29, Tryd.ntmps29
  go_wp2
  go_ret
  exact ⟨rfl, rfl⟩

theorem appN_nob (p : Value) (l : Int) (ds : List Int) (w : World) (h : RNob w p) : Calls Tryd.prog 11 #[p, .int .i64 l, .agg (u8s ds).toArray] w fun e w' => e = .returned (.int .i64 1) ∧ Below w.heap.size w w' := by
  have HN := hide h
  clear h
  go_enter Tryd.func11, Tryd.ntmps11
  go_wp2_with (refine step_box rfl rfl ?_)
  intro w1 g1 hg1 hle1 hb1
  go_wp2_with (go_at_call 29; refine (made_nob _ _ (HN.out.below hb1)).mono ?_; rintro e w' ⟨rfl, rfl⟩)
  go_ret
  exact ⟨rfl, hb1⟩
theorem app_nob (p : Value) (ds : List Int) (w : World) (hl : ds.length = 32) (h : RNob w p) : Calls Tryd.prog 15 #[p, .agg (u8s ds).toArray] w fun e w' => e = .returned (.int .i64 1) ∧ Below w.heap.size w w' := by
  have HN := hide h
  have HL := hide (show (u8s ds).length = 32 by rw [u8s_length, hl])
  clear h hl
  go_enter Tryd.func15, Tryd.ntmps15
  go_wp2_with (refine step_box rfl rfl ?_)
  intro w1 g1 hg1 hle1 hb1
  have HG := hide hg1
  clear hg1
  go_wp2_with (first | (refine step_loadA wD rfl rfl HG.out HL.out ?_) | (go_at_call 11; refine (appN_nob _ _ _ _ (HN.out.below hb1)).mono ?_; rintro e w' ⟨rfl, hb2⟩))
  go_ret
  exact ⟨rfl, hb1.trans (hb2.mono hb1.size)⟩
set_option maxRecDepth 100000 in
theorem merge_nob (p q : Value) (w : World) (h : RNob w p) : Calls Tryd.prog 16 #[p, q] w fun e w' => e = .returned (.int .i64 1) ∧ Below w.heap.size w w' := by
  obtain ⟨x, rfl⟩ := h.ptr
  have HN := hide h
  clear h
  go_enter Tryd.func16, Tryd.ntmps16
  go_wp2_with (go_at_call 29; refine (made_nob _ _ (HN.out.below ((Below.refl _ _).alloc (Nat.le_refl _) _))).mono ?_; rintro e w' ⟨rfl, rfl⟩)
  go_ret
  exact ⟨rfl, (Below.refl _ _).alloc (Nat.le_refl _) _⟩
set_option maxRecDepth 100000 in
theorem merge_nob2 (g : Nat) (p : Value) (w : World) (hg : w.cell? ⟨g, 0, none⟩ = some (.bool true)) (h : RNob w p) : Calls Tryd.prog 16 #[.pointer (some ⟨g, 0, none⟩), p] w fun e w' => e = .returned (.int .i64 1) ∧ Below w.heap.size w w' := by
  have HN := hide h
  have HG := hide hg
  clear h hg
  go_enter Tryd.func16, Tryd.ntmps16
  go_wp2_with fail
  refine (made_is _ _ (cell_below HG.out ((Below.refl _ _).alloc (Nat.le_refl _) _))).mono ?_
  rintro e w' ⟨rfl, rfl⟩
  go_wp2_with (go_at_call 29; refine (made_nob _ _ (HN.out.below ((Below.refl _ _).alloc (Nat.le_refl _) _))).mono ?_; rintro e w' ⟨rfl, rfl⟩)
  go_ret
  exact ⟨rfl, (Below.refl _ _).alloc (Nat.le_refl _) _⟩
theorem span_nob (p : Value) (w : World) (h : RNob w p) : Calls Tryd.prog 23 #[p] w fun e w' => e = .returned (.agg #[.int .i64 0, .int .i64 0]) ∧ Below w.heap.size w w' := by
  have HN := hide h
  clear h
  go_enter Tryd.func23, Tryd.ntmps23
  go_wp2_with (refine step_alloc zSp rfl ?_)
  intro w1 g1 hg1 hle1 hb1
  have HG := hide hg1
  clear hg1
  go_wp2_with (first | (go_at_call 29; refine (made_nob _ _ (HN.out.below hb1)).mono ?_; rintro e w' ⟨rfl, rfl⟩) | (refine step_storeA wSpn rfl rfl rfl HG.out rfl (One.two 0 0) rfl ?_; intro w2 hg2 hbut))
  refine bodyPost_ret (results_wide rfl wSpn _ _ rfl hg2 rfl) rfl ⟨rfl, ?_⟩
  exact hb1.trans (hbut.below hle1)
theorem len_nob (p : Value) (w : World) (h : RNob w p) : Calls Tryd.prog 24 #[p] w fun e w' => e = .returned (.int .i64 0) ∧ w = w' := by
  go_enter Tryd.func24, Tryd.ntmps24
  go_wp2_with (go_at_call 29; refine (made_nob _ _ h).mono ?_; rintro e w' ⟨rfl, rfl⟩)
  go_ret
  exact ⟨rfl, rfl⟩
set_option maxRecDepth 100000 in
theorem root_nob (p : Value) (w : World) (h : RNob w p) : Calls Tryd.prog 22 #[p] w fun e w' => e = .returned (.tuple #[.agg (u8s (zer 32)).toArray, .int .i64 1]) ∧ Below w.heap.size w w' := by
  have HN := hide h
  clear h
  go_enter Tryd.func22, Tryd.ntmps22
  go_wp2_with (refine step_alloc zD rfl ?_)
  intro w1 g1 hg1 hle1 hb1
  have HG := hide hg1
  clear hg1
  go_wp2_with (first | (go_at_call 29; refine (made_nob _ _ (HN.out.below hb1)).mono ?_; rintro e w' ⟨rfl, rfl⟩) | (refine step_buildD rfl ?_) | (refine step_storeA wD rfl rfl rfl HG.out rfl (One.u8 _) rfl ?_; intro w2 hg2 hbut))
  refine bodyPost_ret (results_wide2 rfl wD _ _ rfl hg2 rfl) rfl ⟨rfl, ?_⟩
  exact hb1.trans (hbut.below hle1)
theorem clone_nob (p : Value) (w : World) (h : RNob w p) : Calls Tryd.prog 12 #[p] w fun e w' => e = .returned (.pointer none) ∧ w = w' := by
  go_enter Tryd.func12, Tryd.ntmps12
  go_wp2_with (go_at_call 29; refine (made_nob _ _ h).mono ?_; rintro e w' ⟨rfl, rfl⟩)
  go_ret
  exact ⟨rfl, rfl⟩
theorem bytes_nob (p : Value) (w : World) (h : RNob w p) : Calls Tryd.prog 25 #[p] w fun e w' => e = .returned (.slice none 0 0) ∧ w = w' := by
  go_enter Tryd.func25, Tryd.ntmps25
  go_wp2_with (go_at_call 29; refine (made_nob _ _ h).mono ?_; rintro e w' ⟨rfl, rfl⟩)
  go_ret
  exact ⟨rfl, rfl⟩
theorem all_any (x : Option Addr) (w : World) : Calls Tryd.prog 21 #[.pointer x] w fun e w' => e = .returned (.func (.func 41) #[] #[.pointer (some ⟨w.heap.size, 0, none⟩)]) ∧ w' = w.alloc (.cells #[.pointer x] 23) := by
  go_enter Tryd.func21, Tryd.ntmps21
  go_wp2
  go_ret
  exact ⟨rfl, rfl⟩

/-- Its iterator tells nothing. -/
theorem all_nob_stops (Bs n₀ : Nat) (p : Value) (w : World) (hB : Bs < n₀) (hn0 : n₀ ≤ w.heap.size) (hBs : w.cell? ⟨Bs, 0, none⟩ = some p) (h : RNob w p) :
    SeqStopsK Fence.wide 2 Tryd.prog 41 #[.pointer (some ⟨Bs, 0, none⟩)] (fun x : Unit => #[Value.int .i64 0, Value.int .i64 0]) (Below n₀) (fun xs => xs = []) (fun pre => pre = []) 0 w := by
  intro l J Jx W hW hJ hJx hY h0
  have hc : W.cell? ⟨Bs, 0, none⟩ = some p := cell_below hBs hW
  have HN := hide (h.below hW)
  refine callsIn_of_wp Tryd.func41 rfl trivial ?_ rfl
  simp only [Tryd.ntmps41, List.size_toArray, List.length_cons, List.length_nil, Nat.reduceAdd, Nat.reduceSub, Array.replicate_succ, Array.replicate_zero, List.push_toArray, List.append_toArray, List.nil_append, List.cons_append]
  gi_wp2_with fail
  refine ⟨trivial, (callsIn_wide.2 (made_nob _ _ HN.out)).mono ?_⟩
  rintro e w' ⟨rfl, rfl⟩
  gi_wp2
  refine bodyPost_ret (results_none rfl _ _ _) rfl ?_
  exact ⟨⟨_, rfl⟩, .inl ⟨[], rfl, h0⟩⟩

/-- New of what is no place. -/
theorem new_bad (b : Int) (w : World) (h : b < 0 ∨ 281474976710656 < b) : Calls Tryd.prog 8 #[.int .i64 b] w fun e w' => e = .returned (.tuple #[.pointer none, .int .i64 40]) ∧ w = w' := by
  by_cases h1 : b < 0
  · go_enter Tryd.func8, Tryd.ntmps8
    go_wp2
    go_ret2
    exact ⟨rfl, rfl⟩
  · have h2 : 281474976710656 < b := by omega
    go_enter Tryd.func8, Tryd.ntmps8
    go_wp2
    go_ret2
    exact ⟨rfl, rfl⟩
/-- The cells of a range. -/
def rgC (b e : Int) (v : Value) : List Value := [.bool true, .int .i64 b, .int .i64 e, v]
section
variable {dst : Option Tmp} {ty : TypeId} {pos : String} {aft : Array Edge} {gd : Option (Nat × Bool)} {ops : Array Oper} {rest : List Oper} {a : Act} {w : World} {Q : Exit → Act → World → Prop}
theorem run_buildRg (b e : Int) (w : World) : (Instr.build 54 #[(0, .bool true), (1, .agg #[.int .i64 b, .int .i64 e])]).run Tryd.prog w = .ok (.agg (rgC b e (.slice none 0 0)).toArray) w := by kernel_rfl
theorem step_buildRg {x : Operand} {b e : Int} (hw : Region.wanted ⟨dst, .build 54 #[(0, .const (.bool true)), (1, x)], ty, pos, aft, gd⟩ (yielded ops a.tmps) = true) (hx : a.eval x = .agg #[.int .i64 b, .int .i64 e])
    (h : wpList Tryd.prog ops Q rest (a.put dst (.agg (rgC b e (.slice none 0 0)).toArray)) w) : wpList Tryd.prog ops Q (⟨dst, .build 54 #[(0, .const (.bool true)), (1, x)], ty, pos, aft, gd⟩ :: rest) a w :=
  step_run hw (.agg (rgC b e (.slice none 0 0)).toArray) w (run_op (M := Instr.build 54 #[(0, .bool true), (1, .agg #[.int .i64 b, .int .i64 e])]) (by have hc : a.eval (.const (.bool true)) = .bool true := rfl; simp [execOp, hx, hc]) (run_buildRg b e w)) h
theorem step_buildR0 (hw : Region.wanted ⟨dst, .build 54 #[], ty, pos, aft, gd⟩ (yielded ops a.tmps) = true)
    (h : wpList Tryd.prog ops Q rest (a.put dst (.agg ([.bool false, .int .i64 0, .int .i64 0, .slice none 0 0] : List Value).toArray)) w) : wpList Tryd.prog ops Q (⟨dst, .build 54 #[], ty, pos, aft, gd⟩ :: rest) a w :=
  step_run hw (.agg ([.bool false, .int .i64 0, .int .i64 0, .slice none 0 0] : List Value).toArray) w (by kernel_rfl) h
end
theorem new_ok (b : Int) (w : World) (h0 : 0 ≤ b) (h1 : b ≤ 281474976710656) : Calls Tryd.prog 8 #[.int .i64 b] w fun e w' => ∃ g, e = .returned (.tuple #[.pointer (some ⟨g, 0, none⟩), .int .i64 0]) ∧ Blk w' g 54 (rgC b b (.slice none 0 0)) ∧ w.heap.size ≤ g ∧ Below w.heap.size w w' := by
  have h2 : ¬ b < 0 := by omega
  have h3 : ¬ 281474976710656 < b := by omega
  go_enter Tryd.func8, Tryd.ntmps8
  go_wp2_with (first | (refine step_buildRg rfl rfl ?_) | (refine step_box (cs := rgC b b (.slice none 0 0)) rfl rfl ?_; intro w1 g1 hg1 hle1 hb1))
  go_ret2
  exact ⟨_, rfl, hg1, hle1, hb1⟩

end Go.Proofs.YthgfbcndoedacaaDoor

/-
  The parts of a span, without a program: the greatest perfect subtrees from the left; how a part that is put behind joins the ones ahead.
-/
namespace Go.Proofs.YthgfbcndoedacaaDoor
set_option linter.unusedVariables false

theorem pow_dvd_le {j k b : Nat} (h : 2 ^ k ∣ b) (hj : j ≤ k) : 2 ^ j ∣ b := Nat.dvd_trans (Nat.pow_dvd_pow 2 hj) h
theorem pow_le_le {j k n : Nat} (h : 2 ^ k ≤ n) (hj : j ≤ k) : 2 ^ j ≤ n := Nat.le_trans (Nat.pow_le_pow_right (by omega) hj) h

/-- The greatest level at which a perfect subtree begins at b and has at most n leaves. -/
structure IsLev (b n k : Nat) : Prop where
  dvd : 2 ^ k ∣ b
  le : 2 ^ k ≤ n
  top : ¬ (2 ^ (k + 1) ∣ b ∧ 2 ^ (k + 1) ≤ n)
theorem IsLev.uniq {b n j k : Nat} (h : IsLev b n j) (h' : IsLev b n k) : j = k := by
  rcases Nat.lt_trichotomy j k with hl | he | hl
  · exact absurd ⟨pow_dvd_le h'.dvd hl, pow_le_le h'.le hl⟩ h.top
  · exact he
  · exact absurd ⟨pow_dvd_le h.dvd hl, pow_le_le h.le hl⟩ h'.top
/-- Climbing. -/
def lvUp (b n : Nat) : Nat → Nat → Nat
  | 0, k => k
  | f + 1, k => if 2 ^ (k + 1) ∣ b ∧ 2 ^ (k + 1) ≤ n then lvUp b n f (k + 1) else k
theorem lvUp_isLev (b n : Nat) : ∀ f k, 2 ^ k ∣ b → 2 ^ k ≤ n → n < 2 ^ (k + f + 1) → IsLev b n (lvUp b n f k)
  | 0, k, h1, h2, h3 => ⟨h1, h2, fun h => by have := h.2; rw [Nat.add_zero] at h3; show False; unfold lvUp at this; omega⟩
  | f + 1, k, h1, h2, h3 => by
    unfold lvUp
    by_cases h : 2 ^ (k + 1) ∣ b ∧ 2 ^ (k + 1) ≤ n
    · rw [if_pos h]
      exact lvUp_isLev b n f (k + 1) h.1 h.2 (by rw [show k + 1 + f + 1 = k + (f + 1) + 1 by omega]; exact h3)
    · rw [if_neg h]
      exact ⟨h1, h2, h⟩
def lv (b n : Nat) : Nat := lvUp b n 48 0
theorem lv_isLev {b n : Nat} (h0 : 0 < n) (h : n ≤ 2 ^ 48) : IsLev b n (lv b n) :=
  lvUp_isLev b n 48 0 (by simp) (by rw [Nat.pow_zero]; exact h0) (Nat.lt_of_le_of_lt h (by decide))
theorem lv_eq {b n k : Nat} (h : IsLev b n k) (h0 : n ≤ 2 ^ 48) : lv b n = k := (lv_isLev (Nat.lt_of_lt_of_le (Nat.two_pow_pos k) h.le) h0).uniq h

/-- The parts of a span: levels and indices. -/
def pts : Nat → Nat → Nat → List (Nat × Nat)
  | 0, _, _ => []
  | f + 1, b, e => if b < e then (lv b (e - b), b / 2 ^ lv b (e - b)) :: pts f (b + 2 ^ lv b (e - b)) e else []
def parts (b e : Nat) : List (Nat × Nat) := pts (e - b) b e
theorem pts_nil (f b e : Nat) (h : e ≤ b) : pts f b e = [] := by
  cases f with
  | zero => rfl
  | succ f => rw [pts, if_neg (by omega)]
theorem pts_fuel : ∀ f g b e, e - b ≤ f → e - b ≤ g → pts f b e = pts g b e
  | 0, g, b, e, h, _ => by rw [pts_nil g b e (by omega)]; rfl
  | f + 1, 0, b, e, _, h => by rw [pts_nil (f + 1) b e (by omega)]; rfl
  | f + 1, g + 1, b, e, hf, hg => by
    unfold pts
    by_cases h : b < e
    · rw [if_pos h, if_pos h, pts_fuel f g]
      all_goals have := Nat.two_pow_pos (lv b (e - b)); omega
    · rw [if_neg h, if_neg h]
theorem parts_nil {b e : Nat} (h : e ≤ b) : parts b e = [] := pts_nil _ _ _ h
theorem parts_cons {b e : Nat} (h : b < e) : parts b e = (lv b (e - b), b / 2 ^ lv b (e - b)) :: parts (b + 2 ^ lv b (e - b)) e := by
  unfold parts
  obtain ⟨f, hf⟩ : ∃ f, e - b = f + 1 := ⟨e - b - 1, by omega⟩
  have hp := Nat.two_pow_pos (lv b (e - b))
  rw [hf]
  rw [hf] at hp
  rw [pts, if_pos h, hf]
  congr 1
  exact pts_fuel _ _ _ _ (by omega) (Nat.le_refl _)
theorem parts_step {b e k : Nat} (h : IsLev b (e - b) k) (he : e ≤ 2 ^ 48) : parts b e = (k, b / 2 ^ k) :: parts (b + 2 ^ k) e := by
  have h1 := h.le
  have h2 := Nat.two_pow_pos k
  rw [parts_cons (by omega), lv_eq h (by omega)]
/-- One whole part. -/
theorem parts_one {b k : Nat} (h : 2 ^ k ∣ b) (he : b + 2 ^ k ≤ 2 ^ 48) : parts b (b + 2 ^ k) = [(k, b / 2 ^ k)] := by
  rw [parts_step (k := k) ⟨h, by omega, fun h => by have h1 := h.2; rw [Nat.pow_succ] at h1; have := Nat.two_pow_pos k; omega⟩ he, parts_nil (Nat.le_refl _)]

/-- Are q and p the halves of one subtree? -/
def sib (q p : Nat × Nat) : Bool := q.1 == p.1 && (q.2 % 2 == 0 && p.2 == q.2 + 1)
theorem sib_iff {q p : Nat × Nat} : sib q p = true ↔ q.1 = p.1 ∧ q.2 % 2 = 0 ∧ p.2 = q.2 + 1 := by simp [sib]
/-- A part with its digest. -/
abbrev Pt := (Nat × Nat) × List Int
/-- A part is put upon the ones ahead (the last one first), and joined with them. -/
def putS (nd : List Int → List Int → List Int) : List Pt → Pt → List Pt
  | [], p => [p]
  | q :: st, p => if sib q.1 p.1 then putS nd st ((p.1.1 + 1, p.1.2 / 2), nd q.2 p.2) else p :: q :: st
/-- The same without digests. -/
def colS : List (Nat × Nat) → Nat × Nat → List (Nat × Nat)
  | [], p => [p]
  | q :: st, p => if sib q p then colS st (p.1 + 1, p.2 / 2) else p :: q :: st
theorem putS_nodes (nd : List Int → List Int → List Int) : ∀ (st : List Pt) (p : Pt), (putS nd st p).map Prod.fst = colS (st.map Prod.fst) p.1
  | [], p => rfl
  | q :: st, p => by
    simp only [putS, colS, List.map_cons]
    by_cases h : sib q.1 p.1 = true
    · rw [if_pos h, if_pos h, putS_nodes nd st]
    · rw [if_neg h, if_neg h]; rfl
/-- Where the digests are told by the nodes. -/
theorem putS_told (nd : List Int → List Int → List Int) (f : Nat × Nat → List Int) (S : Nat × Nat → Nat × Nat → Prop)
    (hf : ∀ q p, S q p → sib q p = true → f (p.1 + 1, p.2 / 2) = nd (f q) (f p)) (hS : ∀ r q p, S q p → S r q → sib q p = true → S r (p.1 + 1, p.2 / 2)) :
    ∀ (st : List (Nat × Nat)) (p : Nat × Nat), (∀ q, st.head? = some q → S q p) → (∀ i q r, st[i]? = some q → st[i + 1]? = some r → S r q) →
      putS nd (st.map fun n => (n, f n)) (p, f p) = (colS st p).map fun n => (n, f n)
  | [], p, _, _ => rfl
  | q :: st, p, h1, h2 => by
    simp only [putS, colS, List.map_cons]
    by_cases h : sib q p = true
    · rw [if_pos h, if_pos h, ← hf q p (h1 q rfl) h]
      refine putS_told nd f S hf hS st _ (fun r hr => hS r q p (h1 q rfl) (h2 0 q r rfl ?_) h) (fun i q' r ha hb => h2 (i + 1) q' r (by simpa using ha) (by simpa using hb))
      cases st with
      | nil => simp at hr
      | cons s st => simpa using hr
    · rw [if_neg h, if_neg h]; rfl
theorem colS_snoc (q0 : Nat × Nat) : ∀ (st : List (Nat × Nat)) (p : Nat × Nat),
    colS (st ++ [q0]) p = match colS st p with
      | [r] => if sib q0 r then [(r.1 + 1, r.2 / 2)] else [r, q0]
      | t => t ++ [q0]
  | [], p => by
    simp only [colS, List.nil_append]
  | q :: st, p => by
    simp only [colS, List.cons_append]
    by_cases h : sib q p = true
    · rw [if_pos h, if_pos h, colS_snoc q0 st]
    · rw [if_neg h, if_neg h]; rfl
theorem colS_ne (st : List (Nat × Nat)) (p : Nat × Nat) : colS st p ≠ [] := by
  induction st generalizing p with
  | nil => simp [colS]
  | cons q st ih =>
    unfold colS
    split
    · exact ih _
    · simp

theorem dvd_room {d a b : Nat} (ha : d ∣ a) (hb : d ∣ b) (h : a < b) : a + d ≤ b := by
  have := Nat.le_of_dvd (by omega) (Nat.dvd_sub hb ha)
  omega
theorem half_up (b k : Nat) (h : 2 ^ (k + 1) ∣ b) : (b / 2 ^ k) % 2 = 0 ∧ (b + 2 ^ k) / 2 ^ k = b / 2 ^ k + 1 ∧ (b / 2 ^ k + 1) / 2 = b / 2 ^ (k + 1) := by
  obtain ⟨c, rfl⟩ := h
  have hp := Nat.two_pow_pos k
  have e : 2 ^ (k + 1) * c = 2 ^ k * (2 * c) := by rw [Nat.pow_succ, Nat.mul_assoc]
  have e1 : 2 ^ (k + 1) * c / 2 ^ k = 2 * c := by rw [e, Nat.mul_div_cancel_left _ hp]
  have e2 : 2 ^ (k + 1) * c / 2 ^ (k + 1) = c := Nat.mul_div_cancel_left _ (Nat.two_pow_pos _)
  rw [Nat.add_div_right _ hp, e1, e2]
  omega
/-- THE LAW OF THE PARTS: a perfect subtree put behind a span. -/
theorem parts_put (n b e L : Nat) (hn : e - b ≤ n) (hbe : b ≤ e) (hd : 2 ^ L ∣ e) (hm : e + 2 ^ L ≤ 2 ^ 48) : (colS (parts b e).reverse (L, e / 2 ^ L)).reverse = parts b (e + 2 ^ L) := by
  induction n generalizing b with
  | zero =>
    obtain rfl : b = e := by omega
    rw [parts_nil (Nat.le_refl _), parts_one hd hm]
    rfl
  | succ n ihn =>
    by_cases hlt : b < e
    · have hp := Nat.two_pow_pos L
      have hk := lv_isLev (b := b) (n := e - b) (by omega) (by omega)
      have hk' := lv_isLev (b := b) (n := e + 2 ^ L - b) (by omega) (by omega)
      have hpk := Nat.two_pow_pos (lv b (e - b))
      have hkle := hk.le
      rw [parts_cons hlt]
      rw [parts_step hk' hm]
      generalize lv b (e - b) = k at *
      generalize lv b (e + 2 ^ L - b) = k' at *
      have ih := ihn (b + 2 ^ k) (by omega) (by omega)
      rw [List.reverse_cons, colS_snoc]
      have hkk : k ≤ k' := by
        apply Nat.le_of_not_lt
        intro hl
        exact hk'.top ⟨pow_dvd_le hk.dvd hl, by have := pow_le_le hk.le hl; omega⟩
      by_cases hkk' : k = k'
      · subst hkk'
        split
        · rename_i r hr
          rw [hr] at ih
          have hns : ¬ sib (k, b / 2 ^ k) r = true := by
            intro hs
            obtain ⟨h1, h2, h3⟩ := sib_iff.1 hs
            simp only at h1 h2 h3
            have hlt2 : b + 2 ^ k < e + 2 ^ L := by omega
            have hj := lv_isLev (b := b + 2 ^ k) (n := e + 2 ^ L - (b + 2 ^ k)) (by omega) (by omega)
            rw [parts_step hj hm] at ih
            generalize lv (b + 2 ^ k) (e + 2 ^ L - (b + 2 ^ k)) = j at *
            rw [List.reverse_singleton] at ih
            injection ih with i1 i2
            have hjk : j = k := by rw [i1] at h1; exact h1.symm
            subst hjk
            have hend : e + 2 ^ L ≤ b + 2 ^ j + 2 ^ j := by
              apply Nat.le_of_not_lt
              intro hl
              have hp2 := parts_cons hl
              rw [hp2] at i2
              cases i2
            refine hk'.top ⟨?_, ?_⟩
            · obtain ⟨c, hc⟩ := hk.dvd
              rw [hc, Nat.mul_div_cancel_left _ hpk] at h2
              exact ⟨c / 2, by rw [hc, Nat.pow_succ, Nat.mul_assoc]; congr 1; omega⟩
            · have hjl := hj.le
              rw [Nat.pow_succ]
              omega
          rw [if_neg hns, ← ih]
          rfl
        · rw [← ih]
          simp
      · have hlt' : k + 1 ≤ k' := by omega
        have hdk : 2 ^ (k + 1) ∣ b := pow_dvd_le hk'.dvd hlt'
        have hke : e < b + 2 ^ (k + 1) := by
          apply Nat.lt_of_not_le
          intro hl
          exact hk.top ⟨hdk, by omega⟩
        have hLk : L ≤ k := by
          apply Nat.le_of_lt_succ
          apply Nat.lt_of_not_le
          intro hl
          have := dvd_room hdk (pow_dvd_le hd hl) hlt
          omega
        have hup : e + 2 ^ L ≤ b + 2 ^ (k + 1) := dvd_room hd (Nat.dvd_add (pow_dvd_le hdk (by omega)) (Nat.pow_dvd_pow 2 (by omega))) hke
        have hk'l := hk'.le
        have hk'g : 2 ^ (k + 1) ≤ 2 ^ k' := Nat.pow_le_pow_right (by omega) hlt'
        have hee : e + 2 ^ L = b + 2 ^ (k + 1) := by omega
        have hkeq : k' = k + 1 := by
          have : 2 ^ k' ≤ 2 ^ (k + 1) := by omega
          have := (Nat.pow_le_pow_iff_right (a := 2) (by omega)).1 this
          omega
        subst hkeq
        obtain ⟨u1, u2, u3⟩ := half_up b k hdk
        have hdk2 : 2 ^ k ∣ b + 2 ^ k := Nat.dvd_add hk.dvd (Nat.dvd_refl _)
        have e2 : b + 2 ^ (k + 1) = b + 2 ^ k + 2 ^ k := by rw [Nat.pow_succ]; omega
        rw [hee, e2, parts_one hdk2 (by omega)] at ih
        have hc : colS (parts (b + 2 ^ k) e).reverse (L, e / 2 ^ L) = [(k, (b + 2 ^ k) / 2 ^ k)] := by
          have := congrArg List.reverse ih
          simpa using this
        rw [hc]
        have hs : sib (k, b / 2 ^ k) (k, (b + 2 ^ k) / 2 ^ k) = true := sib_iff.2 ⟨rfl, u1, u2⟩
        simp only [hs, if_true]
        rw [hee, parts_nil (Nat.le_refl _), u2, u3]
        rfl
    · obtain rfl : b = e := by omega
      rw [parts_nil (Nat.le_refl _), parts_one hd hm]
      rfl

/-- How many parts there are. -/
theorem parts_fall (m : Nat) : ∀ (b e : Nat), 2 ^ m ∣ b → e < b + 2 ^ m → e ≤ 2 ^ 48 → (parts b e).length ≤ m := by
  induction m using Nat.strongRecOn with
  | ind m ih =>
    intro b e hd hl hm
    by_cases hlt : b < e
    · have hk := lv_isLev (b := b) (n := e - b) (by omega) (by omega)
      rw [parts_step hk hm]
      generalize lv b (e - b) = k at *
      have hkm : k < m := by
        apply Nat.lt_of_not_le
        intro h
        have h1 := pow_le_le hk.le h
        omega
      have hkl := hk.le
      have ht : e < b + 2 ^ (k + 1) := by
        apply Nat.lt_of_not_le
        intro h
        exact hk.top ⟨pow_dvd_le hd hkm, by omega⟩
      have e2 : b + 2 ^ (k + 1) = b + 2 ^ k + 2 ^ k := by rw [Nat.pow_succ]; omega
      have := ih k hkm (b + 2 ^ k) e (Nat.dvd_add hk.dvd (Nat.dvd_refl _)) (by omega) hm
      rw [List.length_cons]
      omega
    · rw [parts_nil (by omega)]; simp
theorem lev_le {b n k : Nat} (h : IsLev b n k) (hn : n ≤ 2 ^ 48) : k ≤ 48 := by
  apply Nat.le_of_not_lt
  intro hl
  have := pow_le_le h.le (show 49 ≤ k from hl)
  omega
theorem parts_len (n : Nat) : ∀ (k b e : Nat), k + n = 49 → 2 ^ k ∣ b → e ≤ 2 ^ 48 → (parts b e).length ≤ n + 49 := by
  induction n using Nat.strongRecOn with
  | ind n ih =>
    intro k b e hkn hd hm
    by_cases hlt : b < e
    · have hj := lv_isLev (b := b) (n := e - b) (by omega) (by omega)
      rw [parts_step hj hm]
      generalize lv b (e - b) = j at *
      have hj48 := lev_le hj (by omega)
      have hjl := hj.le
      rw [List.length_cons]
      by_cases hs : 2 ^ (j + 1) ∣ b
      · have ht : e < b + 2 ^ (j + 1) := by
          apply Nat.lt_of_not_le
          intro h
          exact hj.top ⟨hs, by omega⟩
        have e2 : b + 2 ^ (j + 1) = b + 2 ^ j + 2 ^ j := by rw [Nat.pow_succ]; omega
        have := parts_fall j (b + 2 ^ j) e (Nat.dvd_add hj.dvd (Nat.dvd_refl _)) (by omega) hm
        omega
      · have hkj : k ≤ j := by
          apply Nat.le_of_not_lt
          intro hl
          exact hs (pow_dvd_le hd hl)
        have hd2 : 2 ^ (j + 1) ∣ b + 2 ^ j := by
          obtain ⟨c, hc⟩ := hj.dvd
          have hco : c % 2 = 1 := by
            apply Classical.byContradiction
            intro h
            exact hs ⟨c / 2, by rw [hc, Nat.pow_succ, Nat.mul_assoc]; congr 1; omega⟩
          refine ⟨(c + 1) / 2, ?_⟩
          rw [hc, Nat.pow_succ, Nat.mul_assoc, ← Nat.mul_succ]
          congr 1
          omega
        have := ih (49 - (j + 1)) (by omega) (j + 1) (b + 2 ^ j) e (by omega) hd2 hm
        omega
    · rw [parts_nil (by omega)]; simp
theorem parts_98 (b e : Nat) (h : e ≤ 2 ^ 48) : (parts b e).length ≤ 98 := parts_len 49 0 b e rfl (by simp) h

end Go.Proofs.YthgfbcndoedacaaDoor

/-
  Structs that are built out of parts of many cells.
-/
namespace Go.Proofs.YthgfbcndoedacaaDoor
open Go.RowKit
set_option linter.unusedVariables false

theorem fold_spl (off : Nat) : ∀ (vs : List Value) (k : Nat) (cs : List Value), off + k + vs.length ≤ cs.length →
    (vs.zipIdx k).foldl (fun (a : Array Value) (x : Value × Nat) => a.setIfInBounds (off + x.2) x.1) cs.toArray = (spl cs vs (off + k)).toArray
  | [], k, cs, _ => by simp [spl]
  | v :: r, k, cs, h => by
    rw [List.length_cons] at h
    rw [List.zipIdx_cons, List.foldl_cons]
    have e : cs.toArray.setIfInBounds (off + k) v = (cs.set (off + k) v).toArray := by simp
    show List.foldl _ (cs.toArray.setIfInBounds (off + k) v) (r.zipIdx (k + 1)) = _
    rw [e, fold_spl off r (k + 1) _ (by rw [List.length_set]; omega), ← Nat.add_assoc off k 1, spl_cons cs v r (off + k) (by omega)]

theorem fill_cons {place : Nat → Option (Nat × Nat)} {i off size : Nat} {cs vs : List Value} {v : Value} {rest : List (Nat × Value)} (hp : place i = some (off, size)) (hv : v.cells = vs.toArray) (hs : vs.length = size) (hb : off + size ≤ cs.length) :
    Instr.fill place cs.toArray ((i, v) :: rest) = Instr.fill place (spl cs vs off).toArray rest := by
  subst hs
  have hc : ¬ ((v.cells.size ≠ vs.length || off + v.cells.size > cs.toArray.size) = true) := by
    rw [hv]
    simp
    omega
  rw [Instr.fill, hp]
  show (if (v.cells.size ≠ vs.length || off + v.cells.size > cs.toArray.size) = true then none else _) = _
  rw [if_neg hc, hv]
  congr 1
  rw [← Array.foldl_toList]
  have := fold_spl off vs 0 cs (by omega)
  rw [Nat.add_zero] at this
  simpa using this
theorem fill_nil {place : Nat → Option (Nat × Nat)} {cs : Array Value} : Instr.fill place cs [] = some cs := rfl

/-- What is known of a struct's type: its zero cells, and where its parts lie. -/
def Rec (T : TypeId) (zs : List Value) (pl : List (Nat × Nat)) : Prop := ∀ parts, Tryd.prog.built T parts = Instr.fill (fun i => pl.toArray[i]?) zs.toArray parts

end Go.Proofs.YthgfbcndoedacaaDoor

/-
  The parts of a range in memory: a slice of the range's own; a part's place; one more appended.
-/
namespace Go.Proofs.YthgfbcndoedacaaDoor
open Go.RowKit Go.Shelf
set_option linter.unusedVariables false

/-- The cells of a node, of a part, of parts. -/
def nC (n : Nat × Nat) : List Value := [.int .i64 (n.1 : Int), .int .i64 (n.2 : Int)]
def pc (p : Pt) : List Value := nC p.1 ++ u8s p.2
def pcs (ps : List Pt) : List Value := ps.flatMap pc
def pz : List Value := nC (0, 0) ++ u8s (zer 32)
/-- A part that a range can have. -/
structure Good (p : Pt) : Prop where
  len : p.2.length = 32
  byte : isB p.2
  lev : p.1.1 ≤ 49
  idx : p.1.2 ≤ 281474976710656
def GoodL (ps : List Pt) : Prop := ∀ p ∈ ps, Good p
theorem pc_length {p : Pt} (h : Good p) : (pc p).length = 34 := by simp [pc, nC, u8s_length, h.len]
theorem One.nC (n : Nat × Nat) : One (nC n) := by intro v hv; simp [Go.Proofs.YthgfbcndoedacaaDoor.nC] at hv; rcases hv with rfl | rfl <;> rfl
theorem One.pc (p : Pt) : One (pc p) := (One.nC _).app (One.u8 _)
theorem pcs_length : ∀ {ps : List Pt}, GoodL ps → (pcs ps).length = ps.length * 34
  | [], _ => rfl
  | p :: ps, h => by
    have ih := pcs_length (ps := ps) (fun q hq => h q (List.mem_cons_of_mem _ hq))
    have hp := pc_length (h p (List.mem_cons_self ..))
    show (pc p ++ pcs ps).length = _
    rw [List.length_append, ih, hp, List.length_cons]
    omega
theorem pcs_snoc (ps : List Pt) (p : Pt) : pcs (ps ++ [p]) = pcs ps ++ pc p := by simp [pcs]
theorem pcs_app (ps qs : List Pt) : pcs (ps ++ qs) = pcs ps ++ pcs qs := by simp [pcs]
theorem GoodL.take {ps : List Pt} (h : GoodL ps) (k : Nat) : GoodL (ps.take k) := fun p hp => h p (List.mem_of_mem_take hp)
theorem GoodL.drop {ps : List Pt} (h : GoodL ps) (k : Nat) : GoodL (ps.drop k) := fun p hp => h p (List.mem_of_mem_drop hp)
theorem GoodL.snoc {ps : List Pt} {p : Pt} (h : GoodL ps) (hp : Good p) : GoodL (ps ++ [p]) := fun q hq => by
  rcases List.mem_append.1 hq with hq | hq
  · exact h q hq
  · simp at hq; subst hq; exact hp
theorem pcs_take {ps : List Pt} (h : GoodL ps) (k : Nat) (hk : k ≤ ps.length) : (pcs ps).take (k * 34) = pcs (ps.take k) := by
  have e : pcs ps = pcs (ps.take k) ++ pcs (ps.drop k) := by rw [← pcs_app, List.take_append_drop]
  have hl := pcs_length (h.take k)
  rw [List.length_take, Nat.min_eq_left hk] at hl
  rw [e, List.take_append_of_le_length (by omega), List.take_of_length_le (by omega)]
/-- The i-th. -/
def pAt (ps : List Pt) (i : Nat) : Pt := ps.getD i ((0, 0), [])
theorem pAt_good {ps : List Pt} (h : GoodL ps) {i : Nat} (hi : i < ps.length) : Good (pAt ps i) := by
  have : pAt ps i = ps[i] := by simp [pAt, List.getD, hi]
  rw [this]
  exact h _ (List.getElem_mem hi)
theorem pcs_at {ps : List Pt} (h : GoodL ps) {i : Nat} (hi : i < ps.length) : ((pcs ps).drop (i * 34)).take 34 = pc (pAt ps i) := by
  have e1 : ps = ps.take i ++ ps[i] :: ps.drop (i + 1) := by
    rw [List.getElem_cons_drop, List.take_append_drop]
  have e2 : pAt ps i = ps[i] := by simp [pAt, List.getD, hi]
  have hl := pcs_length (h.take i)
  rw [List.length_take, Nat.min_eq_left (by omega)] at hl
  have hp := pc_length (pAt_good h hi)
  rw [e2] at hp ⊢
  have e3 : pcs ps = pcs (ps.take i) ++ (pc ps[i] ++ pcs (ps.drop (i + 1))) := by
    conv => lhs; rw [e1]
    rw [pcs_app]
    rfl
  rw [e3, ← hl, List.drop_left, ← hp, List.take_left]

theorem infoP : (Tryd.prog.info? 75).map (fun i => (i.zero, i.size, i.bytes)) = some (some (.agg pz.toArray), 34, 48) := by kernel_rfl
theorem undPl : Tryd.prog.underlying 52 = some (.slice 75) := by kernel_rfl
theorem undPs : Tryd.prog.underlying 52 = some (.slice (Tryd.prog.elem 52)) := by kernel_rfl
theorem elemP : Tryd.prog.elem 52 = 75 := by kernel_rfl
theorem sizeP (w : World) : (sizeOf 75).run Tryd.prog w = .ok 34 w := by kernel_rfl
theorem wP : Wide 75 34 := ⟨by kernel_rfl, by kernel_rfl⟩
theorem wNd : Wide 67 2 := ⟨by kernel_rfl, by kernel_rfl⟩
theorem wRg : Wide 54 4 := ⟨by kernel_rfl, by kernel_rfl⟩
theorem zP : Zeroed 75 pz := fun _ _ _ _ _ _ _ => by kernel_rfl
theorem zNd : Zeroed 67 (nC (0, 0)) := fun _ _ _ _ _ _ _ => by kernel_rfl

theorem p_at (b n cap i : Nat) (I : Int) (hI : I = (i : Int)) (hi : i < n) (v : World) : (Instr.indexAt 52 (.slice (some ⟨b, 0, none⟩) n cap) (.int .i64 I)).run Tryd.prog v = .ok (.pointer (some ⟨b, i * 34, none⟩)) v := by
  subst hI
  rw [run_indexAt_slice v _ _ _ _ .i64 i undPs, if_pos ⟨by omega, by omega⟩, elemP, sizeP]
  simp only [Result.andThen_ok, Int.toNat_natCast]
  rw [Addr.add_lit, Nat.zero_add]
theorem p_to (b n cap k : Nat) (K : Int) (hK : K = (k : Int)) (hk : k ≤ cap) (v : World) :
    (Instr.slice 52 (.slice (some ⟨b, 0, none⟩) n cap) none (some (.int .i64 K)) none).run Tryd.prog v = .ok (.slice (some ⟨b, 0, none⟩) k cap) v := by
  subst hK
  rw [run_slice_h v _ _ _ _ undPs .i64 k (by omega) (by omega), elemP, sizeP]
  simp [sliced, Addr.add_lit]

/-- Parts that are the range's own. -/
def POwn (w : World) (B : Nat) (v : Value) (ps : List Pt) : Prop := w.ownsRow B 75 34 v ps.length (pcs ps)
theorem POwn.nil (w : World) (B : Nat) : POwn w B (.slice none 0 0) [] := World.ownsRow_nil _ _ _ _
theorem POwn.below {w w' : World} {B : Nat} {v : Value} {ps : List Pt} (h : POwn w B v ps) (hb : Below w.heap.size w w') : POwn w' B v ps := by
  obtain ⟨h1, h2⟩ := h
  refine ⟨h1, ?_⟩
  rcases h2 with h2 | ⟨g, cap, cur, e, hg, hh, r⟩
  · exact .inl h2
  · refine .inr ⟨g, cap, cur, e, hg, ?_, r⟩
    rw [hb.block g (Array.getElem?_eq_some_iff.1 hh).1]
    exact hh
theorem POwn.but {w w' : World} {B g : Nat} {v : Value} {ps : List Pt} (h : POwn w B v ps) (hb : But g w w') (hg : v.ownBlock ≠ some g) : POwn w' B v ps := by
  obtain ⟨h1, h2⟩ := h
  refine ⟨h1, ?_⟩
  rcases h2 with h2 | ⟨k, cap, cur, rfl, hk, hh, r⟩
  · exact .inl h2
  · refine .inr ⟨k, cap, cur, rfl, hk, ?_, r⟩
    rw [hb.block k (fun e => hg (by rw [← e]; rfl))]
    exact hh
/-- Where they lie. -/
theorem POwn.lies {w : World} {B : Nat} {v : Value} {ps : List Pt} (h : POwn w B v ps) : (v = .slice none 0 0 ∧ ps = []) ∨
    ∃ g cap cs, v = .slice (some ⟨g, 0, none⟩) ps.length cap ∧ B ≤ g ∧ Blk w g 75 cs ∧ ps.length ≤ cap ∧ cap ≤ 9223372036854775807 ∧ cs.length = cap * 34 ∧ cs.take (ps.length * 34) = pcs ps := by
  obtain ⟨h1, h2⟩ := h
  rcases h2 with ⟨e, h0⟩ | ⟨g, cap, cur, rfl, hB, hh, h3, h4, h5, h6⟩
  · exact .inl ⟨e, List.eq_nil_of_length_eq_zero h0⟩
  · exact .inr ⟨g, cap, cur.toList, rfl, hB, by unfold Blk; simpa using hh, h3, by simpa [maxLen] using h4, by simpa using h5, h6⟩
theorem POwn.of {w : World} {B g cap : Nat} {cs : List Value} {ps : List Pt} (hg : GoodL ps) (hB : B ≤ g) (hb : Blk w g 75 cs) (hc : ps.length ≤ cap) (hm : cap ≤ 9223372036854775807) (hl : cs.length = cap * 34) (ht : cs.take (ps.length * 34) = pcs ps) :
    POwn w B (.slice (some ⟨g, 0, none⟩) ps.length cap) ps :=
  ⟨pcs_length hg, .inr ⟨g, cap, cs.toArray, rfl, hB, hb, hc, by simpa [maxLen] using hm, by simpa using hl, by simpa using ht⟩⟩
theorem POwn.base {w : World} {B B' : Nat} {v : Value} {ps : List Pt} (h : POwn w B v ps) (hB : B' ≤ B) : POwn w B' v ps := by
  obtain ⟨h1, h2⟩ := h
  refine ⟨h1, ?_⟩
  rcases h2 with h2 | ⟨g, cap, cur, e, hg, r⟩
  · exact .inl h2
  · exact .inr ⟨g, cap, cur, e, Nat.le_trans hB hg, r⟩
theorem POwn.lt {w : World} {B : Nat} {v : Value} {ps : List Pt} (h : POwn w B v ps) : ∀ k, v.ownBlock = some k → B ≤ k ∧ k < w.heap.size := fun k hk => World.ownsRow.lt h k hk

theorem splP_all (p : Pt) (h : Good p) : spl pz (pc p) 0 = pc p := by
  unfold spl
  rw [List.drop_of_length_le (by rw [pc_length h]; decide)]
  simp
theorem build_P (p : Pt) (hp : Good p) (w : World) :
    (Instr.buildSlice 52 1 #[(0, .agg (pc p).toArray)]).run Tryd.prog w = .ok (.slice (some ⟨w.heap.size, 0, none⟩) 1 1) (w.alloc (.cells (pc p).toArray 75)) := by
  obtain ⟨i0, hi, hz0, hz1, hz2⟩ := info_parts infoP
  refine run_buildSlice w 52 75 1 _ _ i0 _ undPl hi hz0 (by rw [hz1]; decide) (by rw [hz1]; decide) ?_
  rw [hz1]
  have e0 : ((Array.range (1 * 34)).map ((Value.agg pz.toArray).cells[· % (Value.agg pz.toArray).cells.size]!)) = pz.toArray := by kernel_rfl
  rw [e0]
  show Instr.fill _ _ [(0, Value.agg (pc p).toArray)] = _
  rw [fill_cons (place := fun i => some (i * 34, 34)) (off := 0) (size := 34) (vs := pc p) rfl rfl (pc_length hp) (by decide), fill_nil, splP_all p hp]
section
variable {dst : Option Tmp} {ty : TypeId} {pos : String} {aft : Array Edge} {gd : Option (Nat × Bool)} {a : Act} {w : World} {K : Act → World → Prop} {Q : Exit → Act → World → Prop}
set_option maxRecDepth 100000 in
theorem wp_oneP {x : Operand} {p : Pt} (hx : a.eval x = .agg (pc p).toArray) (hp : Good p) (h : ∀ w1 g, Blk w1 g 75 (pc p) → w.heap.size ≤ g → Below w.heap.size w w1 → K (a.put dst (.slice (some ⟨g, 0, none⟩) 1 1)) w1) :
    Oper.wp Tryd.prog ⟨dst, .buildSlice 52 1 #[(0, x)], ty, pos, aft, gd⟩ a w K Q := by
  refine wp_runV (.slice (some ⟨w.heap.size, 0, none⟩) 1 1) (w.alloc (.cells (pc p).toArray 75)) ?_ (h _ _ (Blk.made _ _ _) (Nat.le_refl _) ((Below.refl _ _).alloc (Nat.le_refl _) _))
  unfold execOp
  simp only [List.map_toArray, List.map_cons, List.map_nil, hx]
  simp only [Sem.run_bind, build_P p hp, Result.andThen_ok, Sem.run_pure]
theorem wp_appendP {s x : Operand} {B : Nat} {v : Value} {ps : List Pt} {p : Pt} {g c : Nat} (hs : a.eval s = v) (hx : a.eval x = .slice (some ⟨g, 0, none⟩) 1 c) (hown : POwn w B v ps) (hy : Blk w g 75 (pc p)) (hp : Good p) (hlen : ps.length ≤ 1048576) (hB : B ≤ w.heap.size)
    (h : ∀ v' w', POwn w' B v' (ps ++ [p]) → w.grownBy w' v.ownBlock → (∀ k, v'.ownBlock = some k → v.ownBlock = some k ∨ w.heap.size ≤ k) → K (a.put dst v') w') :
    Oper.wp Tryd.prog ⟨dst, .call { callee := .builtin .append, args := #[s, x], argTypes := #[52, 52] }, ty, pos, aft, gd⟩ a w K Q := by
  obtain ⟨i0, hi, hz0, hz1, hz2⟩ := info_parts infoP
  obtain ⟨g', cap', w', hr, ho, hgr, hat, hlt⟩ := run_append_lies (P := Tryd.prog) w 52 ty B 75 i0 (.agg pz.toArray) 34 48 undPl hi hz0 hz1 hz2 rfl (by decide) v _ _ hown ⟨g, 0, none⟩ 1 c (pc p) (by rw [pc_length hp]) (fun j u hu => by
    rw [Addr.add_lit, Nat.zero_add, hy.cell]
    exact hu) (One.pc p) (by decide) (by unfold maxLen; omega) (by omega) hB _ rfl
  unfold Oper.wp
  simp [execOp, resolve, invoke, builtin, hs, hx, hr, Result.andThen]
  refine h _ _ (by unfold POwn; rw [pcs_snoc, List.length_append]; exact ho) hgr (fun k hk => ?_)
  injection hk with hk
  subst hk
  rcases hat with hat | hat
  · exact .inl hat
  · exact .inr (Nat.le_of_eq hat.symm)
end

theorem xor_one (n : Nat) (h : n ≤ 281474976710657) : bits .xor .i64 (n : Int) 1 = ((n ^^^ 1 : Nat) : Int) := by
  have hx : n ^^^ 1 < 2 ^ 62 := Nat.xor_lt_two_pow (by omega) (by omega)
  have h1 : (BitVec.ofInt 64 (n : Int)).toNat = n := by
    rw [BitVec.ofInt_natCast, BitVec.toNat_ofNat]; exact Nat.mod_eq_of_lt (by omega)
  have h2 : (BitVec.ofInt 64 (1 : Int)).toNat = 1 := by decide
  show IntKind.i64.wrap ((BitVec.ofInt 64 (n : Int) ^^^ BitVec.ofInt 64 (1 : Int)).toNat : Int) = _
  rw [BitVec.toNat_xor, h1, h2, IntKind.wrap_i64]
  omega
theorem xor_one_eq (n : Nat) : n ^^^ 1 = if n % 2 = 0 then n + 1 else n - 1 := by
  have h1 : (n ^^^ 1) % 2 = (n % 2) ^^^ 1 := by
    have := Nat.xor_mod_two_pow (a := n) (b := 1) (n := 1)
    simpa using this
  have h2 : (n ^^^ 1) / 2 = n / 2 := by
    have := Nat.xor_div_two (a := n) (b := 1)
    simpa using this
  rcases Nat.mod_two_eq_zero_or_one n with h | h
  · rw [h] at h1
    have h3 : (n ^^^ 1) % 2 = 1 := h1
    rw [if_pos h]
    omega
  · rw [h] at h1
    have h3 : (n ^^^ 1) % 2 = 0 := h1
    rw [if_neg (by omega)]
    omega

end Go.Proofs.YthgfbcndoedacaaDoor
