/-
  append of digests; the law's same; rootOf, and both Subs.
-/
import Derived.Test.YtnlpgkfmjlljdabDoorRt
namespace Go.Proofs.YtnlpgkfmjlljdabDoor
open Go.RowKit
set_option linter.unusedVariables false

/-- A slice of digests of the call's own. -/
def DOwn (w : World) (B : Nat) (v : Value) (n : Nat) (xs : List Int) : Prop := w.ownsRow B 40 32 v n (u8s xs)
theorem DOwn.nil (w : World) (B : Nat) : DOwn w B (.slice none 0 0) 0 [] := World.ownsRow_nil _ _ _ _
theorem DOwn.lt {w : World} {B : Nat} {v : Value} {n : Nat} {xs : List Int} (h : DOwn w B v n xs) : ∀ k, v.ownBlock = some k → B ≤ k := fun k hk => (World.ownsRow.lt h k hk).1
theorem DOwn.alloc {w : World} {B : Nat} {v : Value} {n : Nat} {xs : List Int} (h : DOwn w B v n xs) (o : Obj) : DOwn (w.alloc o) B v n xs := World.ownsRow.alloc h o
theorem DOwn.below {w w' : World} {B : Nat} {v : Value} {n : Nat} {xs : List Int} (h : DOwn w B v n xs) (hb : Below w.heap.size w w') : DOwn w' B v n xs := by
  obtain ⟨h1, h2⟩ := h
  refine ⟨h1, ?_⟩
  rcases h2 with h2 | ⟨g, cap, cur, e, hg, hh, r⟩
  · exact .inl h2
  · refine .inr ⟨g, cap, cur, e, hg, ?_, r⟩
    rw [hb.block g (Array.getElem?_eq_some_iff.1 hh).1]
    exact hh
theorem DOwn.len {w : World} {B : Nat} {v : Value} {n : Nat} {xs : List Int} (h : DOwn w B v n xs) : xs.length = 32 * n := by
  have := h.1
  rw [u8s_length] at this
  omega
theorem DOwn.ds {w : World} {B : Nat} {v : Value} {n : Nat} {xs : List Int} (h : DOwn w B v n xs) (hb : isB xs) (hn : n ≤ 4398046511104) :
    ∃ a cap, v = .slice a n cap ∧ Ds w a n cap xs ∧ ∀ x, a = some x → B ≤ x.block := by
  have hl := h.len
  obtain ⟨_, h2⟩ := h
  rcases h2 with ⟨rfl, rfl⟩ | ⟨g, cap, cur, rfl, hB, hh, h3, h4, h5, h6⟩
  · obtain rfl : xs = [] := List.eq_nil_of_length_eq_zero hl
    exact ⟨none, 0, rfl, ⟨Nat.le_refl _, by omega, fun _ => rfl, Sl.none0 _⟩, fun x hx => by cases hx⟩
  · refine ⟨some ⟨g, 0, none⟩, cap, rfl, ⟨h3, by simpa [maxLen] using h4, (fun e => by cases e), hl, Nat.le_refl _, by omega, by omega, hb, (fun e => by cases e), fun _ => ⟨g, 0, rfl, fun i hi => ?_⟩⟩, fun x hx => by cases hx; exact hB⟩
    rw [Nat.zero_add, cell_of_row w g i cur 40 (0, 0) hh]
    have e : (cur.toList.take (n * 32))[i]? = some (.int .u8 (xs.getD i 0)) := by rw [h6]; exact u8s_get xs i (by omega)
    rw [List.getElem?_take, if_pos (by omega)] at e
    simpa using e

theorem wp_appendD {o : Oper} {K : Act → World → Prop} {s x : Operand} {a : Act} {w : World} {Q : Exit → Act → World → Prop}
    {B : Nat} {v : Value} {n : Nat} {xs : List Int} {sa : Option Addr} {m c : Nat} {ys : List Int}
    (ho : o.op = .call { callee := .builtin .append, args := #[s, x], argTypes := #[31, 31] }) (hs : a.eval s = v) (hx : a.eval x = .slice sa m c) (hown : DOwn w B v n xs) (hy : Ds w sa m c ys)
    (hlen : n + m ≤ 4398046511104) (hB : B ≤ w.heap.size)
    (h : ∀ v' w', DOwn w' B v' (n + m) (xs ++ ys) → w.grownBy w' v.ownBlock → K (a.put o.dst v') w') : Oper.wp Tryd.prog o a w K Q := by
  obtain ⟨i0, hi, hz0, hz1, hz2⟩ := info_parts infoD
  cases sa with
  | none =>
    have hc0 := hy.hnil rfl
    have hm0 : m = 0 := by have := hy.hcap; omega
    subst hc0 hm0
    obtain rfl : ys = [] := List.eq_nil_of_length_eq_zero hy.hlen
    have hrun := run_append_owned_none (P := Tryd.prog) (w := w) B 31 o.type 40 i0 32 undDl hi v _ _ hown
    unfold Oper.wp
    simp [execOp, ho, resolve, invoke, builtin, hs, hx, hrun, Result.andThen]
    exact (h v w (by simpa using hown) (World.grownBy.refl _ _))
  | some ad =>
    refine wp_append_own _ s x 31 ho B 40 i0 (.agg (u8s (zer 32)).toArray) 32 32 undDl hi hz0 hz1 hz2 rfl (by decide) v _ _ hs hown ad m c (u8s ys) hx (by rw [u8s_length, hy.hlen, Nat.mul_comm]) ?_ (One.u8 ys) ?_ ?_ hB ?_
    · intro j u hu
      have hj : j < 32 * m := by
        have := (List.getElem?_eq_some_iff.1 hu).1
        rwa [u8s_length, hy.hlen] at this
      obtain ⟨b, off, e, hc⟩ := hy.sl.hcell (by omega)
      obtain rfl := Option.some.inj e
      rw [Addr.add_lit, hc j hj]
      rw [u8s_get ys j (by rw [hy.hlen]; exact hj)] at hu
      exact hu
    · unfold maxLen; omega
    · omega
    · intro v' w' h1 h2 h3
      exact (h v' w' (by unfold DOwn; rw [u8s_app]; exact h1) h2)
theorem step_appendD {dst : Option Tmp} {s x : Operand} {ty : TypeId} {pos : String} {aft : Array Edge} {gd : Option (Nat × Bool)} {ops : Array Oper} {rest : List Oper} {a : Act} {w : World} {Q : Exit → Act → World → Prop}
    {B : Nat} {v : Value} {n : Nat} {xs : List Int} {sa : Option Addr} {m c : Nat} {ys : List Int}
    (hw : Region.wanted ⟨dst, .call { callee := .builtin .append, args := #[s, x], argTypes := #[31, 31] }, ty, pos, aft, gd⟩ (yielded ops a.tmps) = true)
    (hs : a.eval s = v) (hx : a.eval x = .slice sa m c) (hown : DOwn w B v n xs) (hy : Ds w sa m c ys) (hlen : n + m ≤ 4398046511104) (hB : B ≤ w.heap.size)
    (h : ∀ v' w', DOwn w' B v' (n + m) (xs ++ ys) → w.grownBy w' v.ownBlock → wpList Tryd.prog ops Q rest (a.put dst v') w') :
    wpList Tryd.prog ops Q (⟨dst, .call { callee := .builtin .append, args := #[s, x], argTypes := #[31, 31] }, ty, pos, aft, gd⟩ :: rest) a w :=
  BigFrame.wpList_want hw fun K hK => wp_appendD rfl hs hx hown hy hlen hB fun v' w' h1 h2 => hK _ _ (h v' w' h1 h2)
theorem down_empty (w : World) : DOwn (w.alloc (.cells #[] 40)) w.heap.size (.slice (some ⟨w.heap.size, 0, none⟩) 0 0) 0 [] :=
  ⟨by simp [u8s], .inr ⟨w.heap.size, 0, #[], rfl, Nat.le_refl _, Blk.made w 40 [], Nat.le_refl _, by unfold maxLen; omega, by simp, by simp [u8s]⟩⟩

theorem run_neT {dst : Option Tmp} {ty : TypeId} {pos : String} {aft : Array Edge} {gd : Option (Nat × Bool)} {a : Act} {w : World} {T E : TypeId} {k : IntKind} {n : Nat} (hA : Arr T E k n) (t' : TypeId) {x y : Operand} {xs : List Int} (hx : a.eval x = .agg (xs.map (Value.int k)).toArray) (hy : a.eval y = .agg (xs.map (Value.int k)).toArray) (hl : xs.length = n) :
    (execOp a.eval ⟨dst, .binOp .neq T x y t', ty, pos, aft, gd⟩).run Tryd.prog w = .ok (.value (.bool false)) w := by
  rw [run_neA hA t' hx hy hl hl]
  simp


/-- Some of them. -/
def sub (xs : List Int) (b e : Nat) : List Int := (xs.drop (32 * b)).take (32 * (e - b))
theorem sub_length {xs : List Int} {n b e : Nat} (h : xs.length = 32 * n) (hb : b ≤ e) (he : e ≤ n) : (sub xs b e).length = 32 * (e - b) := by
  simp [sub]; omega
theorem sub_isB {xs : List Int} (h : isB xs) (b e : Nat) : isB (sub xs b e) := (h.drop _).take _
theorem Ds.mid {w : World} {b o n cap : Nat} {xs : List Int} (h : Ds w (some ⟨b, o, none⟩) n cap xs) (k e : Nat) (hk : k ≤ e) (he : e ≤ n) : Ds w (some ⟨b, o + 32 * k, none⟩) (e - k) (cap - k) (sub xs k e) :=
  (h.drop k (by omega)).take (e - k) (by omega)
theorem wSp : Wide 47 2 := ⟨by kernel_rfl, by kernel_rfl⟩
theorem One.ints (xs : List Int) : One (xs.map (Value.int .i64)) := ints_oneCell _ _

set_option maxRecDepth 100000 in
set_option maxHeartbeats 1000000 in
theorem rootOf_any (bl o n cap b e : Nat) (B E : Int) (xs : List Int) (w : World) (hs : Ds w (some ⟨bl, o, none⟩) n cap xs) (hB : B = (b : Int)) (hE : E = (e : Int)) (hbe : b < e) (hen : e ≤ n) (hk : KT w) :
    Calls Tryd.prog 26 #[.slice (some ⟨bl, o, none⟩) n cap, .agg #[.int .i64 B, .int .i64 E]] w fun r w' => r = .returned (.agg (u8s (root (sub xs b e))).toArray) ∧ Below w.heap.size w w' := by
  subst hB hE
  have HK := hide hk
  have hcap := hs.hcap
  have HD := hide (hs.mid b e (by omega) hen)
  have HML := hide (show (u8s (root (sub xs b e))).length = 32 by rw [u8s_length, root_length (sub_length hs.hlen (by omega) hen) (sub_isB hs.hbyte b e)])
  have hsl := d_mid bl o n cap b e (b : Int) (e : Int) rfl rfl hbe (by omega)
  clear hs hk
  go_enter Tryd.func26, Tryd.ntmps26
  go_wp2_with (refine step_box (cs := [.int .i64 b, .int .i64 e]) rfl rfl ?_)
  intro w1 g3 hr1 hl1 hb1
  have G3 := hide hr1
  have HB1 := hide hb1
  clear hr1
  go_wp2_with (refine step_alloc zD rfl ?_)
  intro w2 g4 hr2 hl2 hb2
  have HB2 := hide (HB1.out.trans (hb2.mono HB1.out.size))
  have G32 := hide (G3.out.below hb2 G3.out.lt)
  have G4 := hide hr2
  have hc0 : w2.cell? ⟨g3, 0, none⟩ = some (.int .i64 b) := by rw [G32.out.cell]; rfl
  have hc1 : w2.cell? ⟨g3, 1, none⟩ = some (.int .i64 e) := by rw [G32.out.cell]; rfl
  have hw4 : w.heap.size ≤ g4 := Nat.le_trans hb1.size hl2
  clear hr2 hb1 hb2 G3
  go_wp2_with fail
  refine (root_any n _ _ _ (sub xs b e) _ (by omega) (HD.out.below HB2.out) (HK.out.below HB2.out HK.out.lt)).mono ?_
  rintro r w3 ⟨rfl, hb3⟩
  have G43 := hide (G4.out.below hb3 G4.out.lt)
  go_wp2_with (refine step_storeA wD rfl rfl rfl G43.out HML.out (One.u8 _) rfl ?_; intro w4 hg4 hbut4)
  refine bodyPost_ret (results_wide rfl wD _ _ rfl hg4 HML.out) rfl ⟨rfl, ?_⟩
  exact (HB2.out.trans (hb3.mono HB2.out.size)).trans (hbut4.below hw4)

/-- What Sub answers. -/
def sbD (xs : List Int) (n : Nat) (b e : Int) : List Int := if b < 0 ∨ e ≤ b ∨ (n : Int) < e then zer 32 else root (sub xs b.toNat e.toNat)
def sbE (n : Nat) (b e : Int) : Int := if b < 0 ∨ e ≤ b ∨ (n : Int) < e then 40 else 0
theorem sbD_length {xs : List Int} {n : Nat} (b e : Int) (h : xs.length = 32 * n) (hb : isB xs) : (sbD xs n b e).length = 32 := by
  unfold sbD
  split
  · exact zer_length 32
  · exact root_length (sub_length h (by omega) (by omega)) (sub_isB hb _ _)

set_option maxRecDepth 100000 in
set_option maxHeartbeats 2000000 in
theorem sub_any (a : Option Addr) (n cap : Nat) (b e : Int) (xs : List Int) (w : World) (hs : Ds w a n cap xs) (hk : KT w) :
    Calls Tryd.prog 13 #[.slice a n cap, .agg #[.int .i64 b, .int .i64 e]] w fun r w' => r = .returned (.tuple #[.agg (u8s (sbD xs n b e)).toArray, .int .i64 (sbE n b e)]) ∧ Below w.heap.size w w' := by
  have HK := hide hk
  have HS := hide hs
  have hcap := hs.hcap
  clear hs hk
  by_cases h1 : b < 0
  ·
    have ED := hide (show sbD xs n b e = zer 32 by unfold sbD; rw [if_pos (by omega)])
    have EE := hide (show sbE n b e = 40 by unfold sbE; rw [if_pos (by omega)])
    rw [ED.out, EE.out]
    go_enter Tryd.func13, Tryd.ntmps13
    go_wp2_with (refine step_box (cs := [.int .i64 b, .int .i64 e]) rfl rfl ?_)
    intro w1 g3 hr1 hl1 hb1
    have G3 := hide hr1
    have HB1 := hide hb1
    clear hr1
    go_wp2_with (refine step_alloc zD rfl ?_)
    intro w2 g4 hr2 hl2 hb2
    have HB2 := hide (HB1.out.trans (hb2.mono HB1.out.size))
    have G32 := hide (G3.out.below hb2 G3.out.lt)
    have G4 := hide hr2
    have hc0 : w2.cell? ⟨g3, 0, none⟩ = some (.int .i64 b) := by rw [G32.out.cell]; rfl
    have hc1 : w2.cell? ⟨g3, 1, none⟩ = some (.int .i64 e) := by rw [G32.out.cell]; rfl
    have hw4 : w.heap.size ≤ g4 := Nat.le_trans hb1.size hl2
    clear hr2 hb1 hb2 G3
    go_wp2_with (first | (refine step_buildD rfl ?_) | (refine step_storeA wD rfl rfl rfl G4.out (by rw [u8s_length, zer_length]) (One.u8 _) rfl ?_; intro w4 hg4 hbut4))
    refine bodyPost_ret (results_wide2 rfl wD _ _ rfl hg4 (by rw [u8s_length, zer_length])) rfl ⟨rfl, ?_⟩
    exact HB2.out.trans (hbut4.below hw4)
  by_cases h2 : e ≤ b
  ·
    have ED := hide (show sbD xs n b e = zer 32 by unfold sbD; rw [if_pos (by omega)])
    have EE := hide (show sbE n b e = 40 by unfold sbE; rw [if_pos (by omega)])
    rw [ED.out, EE.out]
    go_enter Tryd.func13, Tryd.ntmps13
    go_wp2_with (refine step_box (cs := [.int .i64 b, .int .i64 e]) rfl rfl ?_)
    intro w1 g3 hr1 hl1 hb1
    have G3 := hide hr1
    have HB1 := hide hb1
    clear hr1
    go_wp2_with (refine step_alloc zD rfl ?_)
    intro w2 g4 hr2 hl2 hb2
    have HB2 := hide (HB1.out.trans (hb2.mono HB1.out.size))
    have G32 := hide (G3.out.below hb2 G3.out.lt)
    have G4 := hide hr2
    have hc0 : w2.cell? ⟨g3, 0, none⟩ = some (.int .i64 b) := by rw [G32.out.cell]; rfl
    have hc1 : w2.cell? ⟨g3, 1, none⟩ = some (.int .i64 e) := by rw [G32.out.cell]; rfl
    have hw4 : w.heap.size ≤ g4 := Nat.le_trans hb1.size hl2
    clear hr2 hb1 hb2 G3
    go_wp2_with (first | (refine step_buildD rfl ?_) | (refine step_storeA wD rfl rfl rfl G4.out (by rw [u8s_length, zer_length]) (One.u8 _) rfl ?_; intro w4 hg4 hbut4))
    refine bodyPost_ret (results_wide2 rfl wD _ _ rfl hg4 (by rw [u8s_length, zer_length])) rfl ⟨rfl, ?_⟩
    exact HB2.out.trans (hbut4.below hw4)
  by_cases h3 : (n : Int) < e
  ·
    have ED := hide (show sbD xs n b e = zer 32 by unfold sbD; rw [if_pos (by omega)])
    have EE := hide (show sbE n b e = 40 by unfold sbE; rw [if_pos (by omega)])
    rw [ED.out, EE.out]
    go_enter Tryd.func13, Tryd.ntmps13
    go_wp2_with (refine step_box (cs := [.int .i64 b, .int .i64 e]) rfl rfl ?_)
    intro w1 g3 hr1 hl1 hb1
    have G3 := hide hr1
    have HB1 := hide hb1
    clear hr1
    go_wp2_with (refine step_alloc zD rfl ?_)
    intro w2 g4 hr2 hl2 hb2
    have HB2 := hide (HB1.out.trans (hb2.mono HB1.out.size))
    have G32 := hide (G3.out.below hb2 G3.out.lt)
    have G4 := hide hr2
    have hc0 : w2.cell? ⟨g3, 0, none⟩ = some (.int .i64 b) := by rw [G32.out.cell]; rfl
    have hc1 : w2.cell? ⟨g3, 1, none⟩ = some (.int .i64 e) := by rw [G32.out.cell]; rfl
    have hw4 : w.heap.size ≤ g4 := Nat.le_trans hb1.size hl2
    clear hr2 hb1 hb2 G3
    go_wp2_with (first | (refine step_buildD rfl ?_) | (refine step_storeA wD rfl rfl rfl G4.out (by rw [u8s_length, zer_length]) (One.u8 _) rfl ?_; intro w4 hg4 hbut4))
    refine bodyPost_ret (results_wide2 rfl wD _ _ rfl hg4 (by rw [u8s_length, zer_length])) rfl ⟨rfl, ?_⟩
    exact HB2.out.trans (hbut4.below hw4)
  obtain ⟨b, rfl⟩ : ∃ k : Nat, b = (k : Int) := ⟨b.toNat, by omega⟩
  obtain ⟨e, rfl⟩ : ∃ k : Nat, e = (k : Int) := ⟨e.toNat, by omega⟩
  have ED := hide (show sbD xs n b e = root (sub xs b e) by unfold sbD; rw [if_neg (by omega)]; rfl)
  have EE := hide (show sbE n b e = 0 by unfold sbE; rw [if_neg (by omega)])
  have HML := hide (show (u8s (root (sub xs b e))).length = 32 by rw [u8s_length, root_length (sub_length HS.out.hlen (by omega) (by omega)) (sub_isB HS.out.hbyte b e)])
  obtain ⟨bl, o, rfl⟩ := HS.out.place (by omega)
  have HD := hide (HS.out.mid b e (by omega) (by omega))
  have hsl := d_mid bl o n cap b e (b : Int) (e : Int) rfl rfl (by omega) (by omega)
  rw [ED.out, EE.out]
  go_enter Tryd.func13, Tryd.ntmps13
  go_wp2_with (refine step_box (cs := [.int .i64 b, .int .i64 e]) rfl rfl ?_)
  intro w1 g3 hr1 hl1 hb1
  have G3 := hide hr1
  have HB1 := hide hb1
  clear hr1
  go_wp2_with (refine step_alloc zD rfl ?_)
  intro w2 g4 hr2 hl2 hb2
  have HB2 := hide (HB1.out.trans (hb2.mono HB1.out.size))
  have G32 := hide (G3.out.below hb2 G3.out.lt)
  have G4 := hide hr2
  have hc0 : w2.cell? ⟨g3, 0, none⟩ = some (.int .i64 b) := by rw [G32.out.cell]; rfl
  have hc1 : w2.cell? ⟨g3, 1, none⟩ = some (.int .i64 e) := by rw [G32.out.cell]; rfl
  have hw4 : w.heap.size ≤ g4 := Nat.le_trans hb1.size hl2
  clear hr2 hb1 hb2 G3
  go_wp2_with (first | (refine step_loadA wSp rfl rfl G32.out rfl ?_) | fail)
  refine (rootOf_any bl o n cap b e (b : Int) (e : Int) xs _ (HS.out.below HB2.out) rfl rfl (by omega) (by omega) (HK.out.below HB2.out HK.out.lt)).mono ?_
  rintro r w3 ⟨rfl, hb3⟩
  have G43 := hide (G4.out.below hb3 G4.out.lt)
  go_wp2_with (refine step_storeA wD rfl rfl rfl G43.out HML.out (One.u8 _) rfl ?_; intro w4 hg4 hbut4)
  refine bodyPost_ret (results_wide2 rfl wD _ _ rfl hg4 HML.out) rfl ⟨rfl, ?_⟩
  exact (HB2.out.trans (hb3.mono HB2.out.size)).trans (hbut4.below hw4)

end Go.Proofs.YtnlpgkfmjlljdabDoor
