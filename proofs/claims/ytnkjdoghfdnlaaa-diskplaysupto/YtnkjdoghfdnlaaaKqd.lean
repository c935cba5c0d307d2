/-
  The document's disk in memory, whole; what do's branches leave, and its end.
-/
import Derived.Test.YtnkjdoghfdnlaaaKqc
namespace Go.Proofs.Ytnkjdoghfdnlaaa
open Go.RowKit
set_option linter.unusedVariables false

theorem str_take (xs : List Int) (k : Nat) : (str xs).extract 0 k = str (xs.take k) := by
  apply ByteArray.ext
  rw [ByteArray.data_extract]
  apply Array.toList_inj.1
  rw [Array.toList_extract]
  simp [str, strOfNums, List.extract, List.map_take]
theorem str_mid (xs : List Int) (i j : Nat) : (str xs).extract i j = str ((xs.drop i).take (j - i)) := by
  apply ByteArray.ext
  rw [ByteArray.data_extract]
  apply Array.toList_inj.1
  rw [Array.toList_extract]
  simp [str, strOfNums, List.extract, List.map_take, List.map_drop]
/-- Raw writes' cells, one behind the other. -/
def rwsC (l : List (Rw × Value)) : List Value := l.flatMap fun x => rwC x.1.k x.1.n x.2 x.1.s x.1.t
theorem rwsC_app (a b : List (Rw × Value)) : rwsC (a ++ b) = rwsC a ++ rwsC b := by simp [rwsC]
theorem rwsC_length (l : List (Rw × Value)) : (rwsC l).length = l.length * 5 := by
  induction l with
  | nil => rfl
  | cons x r ih => simp [rwsC, rwC] at ih ⊢; omega
theorem rRw : Ro 74 62 5 72 (.agg rw0.toArray) := ⟨by kernel_rfl, by kernel_rfl, by kernel_rfl, rfl, by decide, by decide, fun w => by kernel_rfl⟩
structure Rm where
  fv : Value
  qv : Value
  l : List (ByteArray × List Int)
  qs : List (Rw × Value)
def Rm.own (R : Rm) (r k : Nat) : Prop := k = r ∨ R.fv.ownBlock = some k ∨ R.qv.ownBlock = some k
def Rm.ro (R : Rm) (k : Nat) : Prop := ∃ x ∈ R.qs, x.2.ownBlock = some k
/-- The document's disk in memory, with the raw writes that it has recorded. -/
structure RkAt (w : World) (r s : Nat) (rs : List Rw) (R : Rm) : Prop where
  s1 : 1 ≤ s
  s2 : s ≤ 4096
  fk : FkAt w r s R.fv R.qv R.l
  row : w.ownsRow 0 62 5 R.qv R.qs.length (rwsC R.qs)
  byt : ∀ x ∈ R.qs, BV w x.2 x.1.b
  raw : R.qs.map (·.1) = rs
  fls : FL (play rs) R.l
  val : Val s (fun _ => none) rs
  few : R.l.length ≤ rs.length
section
variable {w w' W : World} {r s : Nat} {rs : List Rw} {R : Rm}
theorem RkAt.same (h : RkAt w r s rs R) (hk : ∀ k, R.own r k ∨ R.ro k → w'.heap[k]? = w.heap[k]?) : RkAt w' r s rs R :=
  ⟨h.s1, h.s2, ⟨h.fk.blk.same (hk r (.inl (.inl rfl))), row_same h.fk.row (fun k e => hk k (.inl (.inr (.inl e))))⟩, row_same h.row (fun k e => hk k (.inl (.inr (.inr e)))), fun x hx => (h.byt x hx).same (fun k e => hk k (.inr ⟨x, hx, e⟩)), h.raw, h.fls, h.val, h.few⟩
/-- A block of the disk's, with its kind. -/
theorem RkAt.kind (h : RkAt w r s rs R) {k : Nat} (hk : R.own r k) : ∃ t cs, Blk w k t cs ∧ (t = 76 ∨ t = 90 ∨ t = 62) := by
  rcases hk with rfl | hk | hk
  · exact ⟨_, _, h.fk.blk, .inl rfl⟩
  · obtain ⟨cs, hc⟩ := row_lies h.fk.row hk; exact ⟨_, cs, hc, .inr (.inl rfl)⟩
  · obtain ⟨cs, hc⟩ := row_lies h.row hk; exact ⟨_, cs, hc, .inr (.inr rfl)⟩
theorem RkAt.off (h : RkAt w r s rs R) {k : Nat} {cs : List Value} (hc : Blk w k 5 cs) : ¬ R.own r k := fun hk => by
  obtain ⟨t, cs', h1, h2⟩ := h.kind hk
  rcases h2 with rfl | rfl | rfl <;> exact hc.apart h1 (by decide) rfl
theorem RkAt.lt (h : RkAt w r s rs R) {k : Nat} (hk : R.own r k ∨ R.ro k) : k < w.heap.size := by
  rcases hk with hk | ⟨x, hx, hk⟩
  · obtain ⟨t, cs, h1, _⟩ := h.kind hk; exact h1.lt
  · obtain ⟨cs, hc⟩ := (h.byt x hx).lies hk; exact hc.lt
theorem RkAt.below (h : RkAt w r s rs R) (hb : Below w.heap.size w w') : RkAt w' r s rs R := h.same (fun k hk => hb.block k (h.lt hk))
theorem RkAt.chs {S : Nat → Prop} (h : RkAt w r s rs R) (hc : Chs S w w') (hn : ∀ k, R.own r k ∨ R.ro k → ¬ S k) : RkAt w' r s rs R := h.same (fun k hk => hc.block k (h.lt hk) (hn k hk))
end
/-- What a call that writes leaves of the document's disk; v: a slice that it may keep. -/
def RoR (w w' : World) (r s : Nat) (R : Rm) (rs' : List Rw) (v : Value) : Prop :=
  ∃ R', RkAt w' r s rs' R' ∧ Chs (R.own r) w w' ∧ (∀ k, R'.own r k → R.own r k ∨ w.heap.size ≤ k) ∧ (∀ k, R'.ro k → R.ro k ∨ v.ownBlock = some k)
/-- What stands in do behind a branch. -/
structure DsR (w W : World) (r s : Nat) (R : Rm) (fv : Value) (l : List (ByteArray × List Int)) (x : Rw) (v : Value) (g3 : Nat) : Prop where
  fk : FkAt W r s fv R.qv l
  row : W.ownsRow 0 62 5 R.qv R.qs.length (rwsC R.qs)
  gb : Blk W g3 62 (rwC x.k x.n v x.s x.t)
  new : w.heap.size ≤ g3
  chs : Chs (R.own r) w W
  lie : ∀ k, fv.ownBlock = some k → R.own r k ∨ w.heap.size ≤ k
  off : R.qv.ownBlock ≠ some g3
section
variable {w W W' : World} {r s : Nat} {rs : List Rw} {R : Rm} {fv : Value} {l : List (ByteArray × List Int)} {x : Rw} {v : Value} {g3 : Nat}
theorem DsR.below (h : DsR w W r s R fv l x v g3) (hb : Below W.heap.size W W') : DsR w W' r s R fv l x v g3 :=
  ⟨h.fk.below hb, row_same h.row (fun k hk => by obtain ⟨cs, hc⟩ := row_lies h.row hk; exact hb.block k hc.lt), h.gb.on hb, h.new, h.chs.thenBelow hb, h.lie, h.off⟩
theorem DsR.r0 (h : DsR w W r s R fv l x v g3) : W.cell? ⟨g3, 0, none⟩ = some (.int .i64 x.k) := by rw [h.gb.cell]; rfl
theorem DsR.r1 (h : DsR w W r s R fv l x v g3) : W.cell? ⟨g3, 1, none⟩ = some (.string x.n) := by rw [h.gb.cell]; rfl
theorem DsR.r2 (h : DsR w W r s R fv l x v g3) : W.cell? ⟨g3, 2, none⟩ = some v := by rw [h.gb.cell]; rfl
theorem DsR.r3 (h : DsR w W r s R fv l x v g3) : W.cell? ⟨g3, 3, none⟩ = some (.int .i64 x.s) := by rw [h.gb.cell]; rfl
theorem DsR.r4 (h : DsR w W r s R fv l x v g3) : W.cell? ⟨g3, 4, none⟩ = some (.string x.t) := by rw [h.gb.cell]; rfl
theorem DsR.c1 (h : DsR w W r s R fv l x v g3) : W.cell? ⟨r, 1, none⟩ = some fv := by rw [h.fk.blk.cell]; rfl
theorem DsR.c2 (h : DsR w W r s R fv l x v g3) : W.cell? ⟨r, 2, none⟩ = some R.qv := by rw [h.fk.blk.cell]; rfl
theorem RkAt.ds (h : RkAt w r s rs R) {w1 : World} (hb : Below w.heap.size w w1) (hg : Blk w1 g3 62 (rwC x.k x.n v x.s x.t)) (hl : w.heap.size ≤ g3) : DsR w w1 r s R R.fv R.l x v g3 :=
  ⟨h.fk.below hb, row_same h.row (fun k hk => by obtain ⟨cs, hc⟩ := row_lies h.row hk; exact hb.block k hc.lt), hg, hl, Chs.of_below _ hb, fun k hk => .inl (.inr (.inl hk)), fun e => by have := h.lt (.inl (.inr (.inr e))); omega⟩
/-- The record has grown: the disk is whole again. -/
theorem DsR.done {rs' : List Rw} {qv' : Value} (h : RkAt w r s rs R) (hr : Lraw s (play rs) x) (hv : BV w v x.b) (hf : FL (doR (play rs) x) l) (hl : l.length ≤ rs.length + 1) (hfk : FkAt W' r s fv qv' l) (hrow : W'.ownsRow 0 62 5 qv' (R.qs ++ [(x, v)]).length (rwsC (R.qs ++ [(x, v)])))
    (hchs : Chs (R.own r) w W') (hlie : ∀ k, fv.ownBlock = some k → R.own r k ∨ w.heap.size ≤ k) (hlq : ∀ k, qv'.ownBlock = some k → R.own r k ∨ w.heap.size ≤ k) (hrs : rs' = rs ++ [x]) : RoR w W' r s R rs' v := by
  subst hrs
  refine ⟨⟨fv, qv', l, R.qs ++ [(x, v)]⟩, ⟨h.s1, h.s2, hfk, hrow, ?_, ?_, ?_, ?_, ?_⟩, hchs, ?_, ?_⟩
  · intro y hy
    rcases List.mem_append.1 hy with hy | hy
    · exact (h.byt y hy).same (fun k hk => by
        obtain ⟨cs, hc⟩ := (h.byt y hy).lies hk
        exact hchs.block k hc.lt (h.off hc))
    · simp at hy
      subst hy
      exact hv.same (fun k hk => by
        obtain ⟨cs, hc⟩ := hv.lies hk
        exact hchs.block k hc.lt (h.off hc))
  · simp [h.raw]
  · rw [play_snoc]; exact hf
  · rw [Val_app]
    exact ⟨h.val, hr, trivial⟩
  · simpa using hl
  · intro k hk
    rcases hk with hk | hk | hk
    · exact .inl (.inl hk)
    · exact hlie k hk
    · exact hlq k hk
  · intro k ⟨y, hy, e⟩
    rcases List.mem_append.1 hy with hy | hy
    · exact .inl ⟨y, hy, e⟩
    · simp at hy
      subst hy
      exact .inr e
end
theorem val_isB {s : Nat} : ∀ (rs : List Rw) (f : ByteArray → Option (List Int)), Val s f rs → (∀ n xs, f n = some xs → isB xs) → ∀ n xs, (rs.foldl doR f) n = some xs → isB xs
  | [], f, _, h => h
  | r :: t, f, hv, h => by
    refine val_isB t (doR f r) hv.2 (fun n xs hn => ?_)
    have key : ∀ (g : ByteArray → Option (List Int)) (m : ByteArray) (u : Option (List Int)), (∀ n xs, g n = some xs → isB xs) → (∀ xs, u = some xs → isB xs) → ∀ n xs, upd g m u n = some xs → isB xs := by
      intro g m u h1 h2 n xs hn
      unfold upd at hn
      split at hn
      · exact h2 xs hn
      · exact h1 n xs hn
    have hfl : ∀ m, isB (fl f m) := fun m => by
      unfold fl
      cases hm : f m with
      | none => exact fun x hx => by cases hx
      | some ys => exact h m ys hm
    rcases hv.1.1 with ⟨m, rfl, _⟩ | ⟨m, b, ys, rfl, _, _, _, hb⟩ | ⟨m, k, ys, rfl, _⟩ | ⟨m, ys, rfl, _⟩ | ⟨m, u, ys, rfl, _⟩
    · rw [do_cr] at hn
      exact key _ _ _ h (fun zs e => by injection e with e; subst e; exact fun x hx => by cases hx) n xs hn
    · rw [do_ap] at hn
      exact key _ _ _ h (fun zs e => by injection e with e; subst e; exact (hfl m).append hb) n xs hn
    · rw [do_cu] at hn
      exact key _ _ _ h (fun zs e => by injection e with e; subst e; exact (hfl m).take _) n xs hn
    · rw [do_rm] at hn
      exact key _ _ _ h (fun zs e => by cases e) n xs hn
    · rw [do_rn] at hn
      exact key _ _ _ (key _ _ _ h (fun zs e => by injection e with e; subst e; exact hfl m)) (fun zs e => by cases e) n xs hn
theorem RkAt.isb {w : World} {r s : Nat} {rs : List Rw} {R : Rm} (h : RkAt w r s rs R) {n : ByteArray} {xs : List Int} (hn : play rs n = some xs) : isB xs := val_isB rs _ h.val (fun n xs h => by cases h) n xs hn

/-! ### slices of files made -/
section
variable {dst : Option Tmp} {ty : TypeId} {pos : String} {aft : Array Edge} {gd : Option (Nat × Bool)} {ops : Array Oper} {rest : List Oper} {a : Act} {w : World} {K : Act → World → Prop} {Q : Exit → Act → World → Prop}
theorem build0F (w : World) : (Instr.buildSlice 73 0 #[]).run Try.prog w = .ok (.slice (some ⟨w.heap.size, 0, none⟩) 0 0) (w.alloc (.cells #[] 90)) := by kernel_rfl
set_option maxRecDepth 100000 in
theorem wp_0F {B : Nat} (hB : B ≤ w.heap.size) (h : ∀ w1 v, ((∃ g, v = .slice (some ⟨g, 0, none⟩) 0 0) ∧ w1.ownsRow B 90 2 v 0 []) → Below w.heap.size w w1 → K (a.put dst v) w1) :
    Oper.wp Try.prog ⟨dst, .buildSlice 73 0 #[], ty, pos, aft, gd⟩ a w K Q := by
  refine wp_runV (.slice (some ⟨w.heap.size, 0, none⟩) 0 0) (w.alloc (.cells #[] 90)) ?_ (h _ _ ⟨⟨_, rfl⟩, by simp, .inr ⟨w.heap.size, 0, #[], rfl, hB, heap_alloc_new w _, Nat.le_refl _, by unfold maxLen; omega, by simp, by simp⟩⟩ ((Below.refl _ _).alloc (Nat.le_refl _) _))
  unfold execOp
  simp only [List.map_toArray, List.map_nil]
  simp only [Sem.run_bind, build0F, Result.andThen_ok, Sem.run_pure]
theorem build_F (n b : ByteArray) (w : World) :
    (Instr.buildSlice 73 1 #[(0, .agg #[.string n, .string b])]).run Try.prog w = .ok (.slice (some ⟨w.heap.size, 0, none⟩) 1 1) (w.alloc (.cells #[.string n, .string b] 90)) := by kernel_rfl
set_option maxRecDepth 100000 in
theorem wp_oneF {x : Operand} {n : ByteArray} {xs : List Int} (hx : a.eval x = .agg #[.string n, .string (str xs)]) (h : ∀ w1 v, Vw w1 90 2 v 1 (filC [(n, xs)]) → Below w.heap.size w w1 → K (a.put dst v) w1) :
    Oper.wp Try.prog ⟨dst, .buildSlice 73 1 #[(0, x)], ty, pos, aft, gd⟩ a w K Q := by
  refine wp_runV (.slice (some ⟨w.heap.size, 0, none⟩) 1 1) (w.alloc (.cells #[.string n, .string (str xs)] 90)) ?_ (h _ _ ⟨by simp [filC], _, _, rfl, Nat.le_refl _, fun _ => ⟨_, 0, [.string n, .string (str xs)], rfl, Blk.made w 90 [.string n, .string (str xs)], rfl⟩⟩ ((Below.refl _ _).alloc (Nat.le_refl _) _))
  unfold execOp
  simp only [List.map_toArray, List.map_cons, List.map_nil, hx]
  simp only [Sem.run_bind, build_F, Result.andThen_ok, Sem.run_pure]
end

end Go.Proofs.Ytnkjdoghfdnlaaa
