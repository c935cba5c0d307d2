/-
  What a range's calls change; otherHalf, above; nodes compared.
-/
import Derived.Test.YtnjkjickclkmhaaDoorRp
namespace Go.Proofs.YtnjkjickclkmhaaDoor
open Go.RowKit Go.Shelf
set_option linter.unusedVariables false

/-- Only blocks of S have turned. -/
structure Chs (S : Nat → Prop) (w w' : World) : Prop where
  os : w'.os = w.os
  tape : w'.tape = w.tape
  output : w'.output = w.output
  size : w.heap.size ≤ w'.heap.size
  block : ∀ k, k < w.heap.size → ¬ S k → w'.heap[k]? = w.heap[k]?
section
variable {S : Nat → Prop} {w a b c : World}
theorem Chs.refl (S : Nat → Prop) (w : World) : Chs S w w := ⟨rfl, rfl, rfl, Nat.le_refl _, fun _ _ _ => rfl⟩
theorem Chs.trans (h : Chs S a b) (k : Chs S b c) : Chs S a c :=
  ⟨k.os.trans h.os, k.tape.trans h.tape, k.output.trans h.output, Nat.le_trans h.size k.size, fun i hi hg => (k.block i (Nat.lt_of_lt_of_le hi h.size) hg).trans (h.block i hi hg)⟩
theorem Chs.thenBelow (h : Chs S a b) (k : Below b.heap.size b c) : Chs S a c := h.trans ⟨k.os, k.tape, k.output, k.size, fun i hi _ => k.block i hi⟩
theorem Chs.thenBut {g : Nat} (h : Chs S a b) (k : But g b c) (hg : S g ∨ a.heap.size ≤ g) : Chs S a c :=
  ⟨k.os.trans h.os, k.tape.trans h.tape, k.output.trans h.output, by rw [k.size]; exact h.size, fun i hi hn => (k.block i (fun e => by subst e; rcases hg with hg | hg; exact hn hg; omega)).trans (h.block i hi hn)⟩
theorem Chs.thenGrown {row : Option Nat} (h : Chs S a b) (k : b.grownBy c row) (hr : ∀ g, row = some g → S g ∨ a.heap.size ≤ g) : Chs S a c :=
  ⟨k.os.trans h.os, k.tape.trans h.tape, k.output.trans h.output, Nat.le_trans h.size k.size, fun i hi hn => (k.block i (Nat.lt_of_lt_of_le hi h.size) (fun e => by rcases hr i e.symm with hg | hg; exact hn hg; omega)).trans (h.block i hi hn)⟩
theorem Chs.below {B : Nat} (h : Chs S a b) (hS : ∀ k, k < B → ¬ S k) (hB : B ≤ a.heap.size) : Below B a b := ⟨h.os, h.tape, h.output, h.size, fun k hk => h.block k (by omega) (hS k hk)⟩
theorem Blk.chs {k : Nat} {t : TypeId} {cs : List Value} (h : Blk a k t cs) (hc : Chs S a b) (hk : ¬ S k) : Blk b k t cs := by
  unfold Blk; rw [hc.block k h.lt hk]; exact h
theorem POwn.chs {B : Nat} {v : Value} {ps : List Pt} (h : POwn a B v ps) (hc : Chs S a b) (hk : ∀ k, v.ownBlock = some k → ¬ S k) : POwn b B v ps := by
  obtain ⟨h1, h2⟩ := h
  refine ⟨h1, ?_⟩
  rcases h2 with h2 | ⟨g, cap, cur, rfl, hg, hh, r⟩
  · exact .inl h2
  · refine .inr ⟨g, cap, cur, rfl, hg, ?_, r⟩
    rw [hc.block g (Array.getElem?_eq_some_iff.1 hh).1 (hk g rfl)]
    exact hh
theorem KT.chs (h : KT a) (hc : Chs S a b) (hg : ¬ S 2) : KT b := fun i hi => by
  rw [World.cell?_of_block (w := a) (hc.block 2 h.lt hg)]; exact h i hi
theorem Ds.chs {A : Option Addr} {len cap : Nat} {xs : List Int} (h : Ds a A len cap xs) (hc : Chs S a b) (hk : ∀ x, A = some x → ¬ S x.block) : Ds b A len cap xs := by
  refine ⟨h.hcap, h.hmax, h.hnil, ?_⟩
  obtain ⟨h1, h2, h3, h4, h5, h6, h7⟩ := h.sl
  refine ⟨h1, h2, h3, h4, h5, h6, fun h => ?_⟩
  obtain ⟨bl, off, e, hce⟩ := h7 h
  refine ⟨bl, off, e, fun i hi => ?_⟩
  rw [World.cell?_of_block (w := a) (hc.block bl (World.block_lt_of_cell? a _ (hce i hi)) (hk _ e))]
  exact hce i hi
end
theorem Blk.apart {W : World} {g g' : Nat} {t t' : TypeId} {cs cs' : List Value} (h : Blk W g t cs) (h' : Blk W g' t' cs') (ht : t ≠ t') : g ≠ g' := by
  rintro rfl
  rw [Blk, h] at h'
  injection h' with h'
  injection h' with _ h2 _
  exact ht h2
theorem POwn.apart {W : World} {B g : Nat} {v : Value} {ps : List Pt} {t : TypeId} {cs : List Value} (h : POwn W B v ps) (hg : Blk W g t cs) (ht : t ≠ 59) : v.ownBlock ≠ some g := by
  rcases h.lies with ⟨rfl, _⟩ | ⟨h, cap, ds, rfl, _, hb, _⟩
  · intro e; cases e
  · intro e
    injection e with e
    exact hg.apart hb ht e.symm

theorem other_any (n : Nat × Nat) (w : World) (h : n.2 ≤ 281474976710657) : Calls Tryd.prog 35 #[.agg (nC n).toArray] w fun r w' => r = .returned (.agg (nC (n.1, n.2 ^^^ 1)).toArray) ∧ Below w.heap.size w w' := by
  have HX := xor_one n.2 h
  clear h
  go_enter Tryd.func35, Tryd.ntmps35
  go_wp2_with (refine step_box (cs := nC n) rfl rfl ?_)
  intro w1 g1 hg1 hle1 hb1
  go_wp2_with (refine step_alloc zNd rfl ?_)
  intro w2 g2 hg2 hle2 hb2
  have hg12 := hg1.below hb2 hg1.lt
  have c0 : w2.cell? ⟨g1, 0, none⟩ = some (.int .i64 (n.1 : Int)) := by rw [hg12.cell]; rfl
  have c1 : w2.cell? ⟨g1, 1, none⟩ = some (.int .i64 (n.2 : Int)) := by rw [hg12.cell]; rfl
  have G2 := hide hg2
  clear hg1 hg12 hg2
  go_wp2_with (refine step_storeA (vs := nC (n.1, n.2 ^^^ 1)) wNd rfl rfl rfl G2.out rfl (One.nC _) rfl ?_; intro w3 hg3 hbut)
  refine bodyPost_ret (results_wide rfl wNd _ _ rfl hg3 rfl) rfl ⟨rfl, ?_⟩
  have hb12 := hb1.trans (hb2.mono hb1.size)
  exact hb12.trans (hbut.below (Nat.le_trans hb1.size hle2))
theorem above_any (n : Nat × Nat) (w : World) (h : n.2 ≤ 281474976710657) (hl : n.1 ≤ 1000) : Calls Tryd.prog 36 #[.agg (nC n).toArray] w fun r w' => r = .returned (.agg (nC (n.1 + 1, n.2 / 2)).toArray) ∧ Below w.heap.size w w' := by
  go_enter Tryd.func36, Tryd.ntmps36
  go_wp2_with (refine step_box (cs := nC n) rfl rfl ?_)
  intro w1 g1 hg1 hle1 hb1
  go_wp2_with (refine step_alloc zNd rfl ?_)
  intro w2 g2 hg2 hle2 hb2
  have hg12 := hg1.below hb2 hg1.lt
  have c0 : w2.cell? ⟨g1, 0, none⟩ = some (.int .i64 (n.1 : Int)) := by rw [hg12.cell]; rfl
  have c1 : w2.cell? ⟨g1, 1, none⟩ = some (.int .i64 (n.2 : Int)) := by rw [hg12.cell]; rfl
  have G2 := hide hg2
  have e1 : IntKind.i64.wrap ((n.1 : Int) + 1) = ((n.1 + 1 : Nat) : Int) := by rw [IntKind.wrap_i64]; omega
  have e2 : ((n.2 : Int)).tdiv 2 = ((n.2 / 2 : Nat) : Int) := by rw [Int.tdiv_eq_ediv_of_nonneg (by omega)]; omega
  have e3 : IntKind.i64.wrap ((n.2 / 2 : Nat) : Int) = ((n.2 / 2 : Nat) : Int) := by rw [IntKind.wrap_i64]; omega
  clear hg1 hg12 hg2
  go_wp2_with (refine step_storeA (vs := nC (n.1 + 1, n.2 / 2)) wNd rfl rfl rfl G2.out rfl (One.nC _) rfl ?_; intro w3 hg3 hbut)
  refine bodyPost_ret (results_wide rfl wNd _ _ rfl hg3 rfl) rfl ⟨rfl, ?_⟩
  have hb12 := hb1.trans (hb2.mono hb1.size)
  exact hb12.trans (hbut.below (Nat.le_trans hb1.size hle2))

theorem eqNd (w : World) (a b c d : Int) : (Op.equalIn 10000 57 (.agg #[.int .i64 a, .int .i64 b]) (.agg #[.int .i64 c, .int .i64 d])).run Tryd.prog w = .ok (a == c && b == d) w := by
  by_cases h1 : a = c <;> by_cases h2 : b = d <;> go_simp
theorem guardNd : Tryd.prog.eqGuardType Tryd.prog.depth 57 = false := by kernel_rfl
theorem run_eqNd {dst : Option Tmp} {ty : TypeId} {pos : String} {aft : Array Edge} {gd : Option (Nat × Bool)} {a : Act} {w : World} (t' : TypeId) {x y : Operand} {m n : Nat × Nat} (q : Bool) (hq : q = decide (m = n)) (hx : a.eval x = .agg (nC m).toArray) (hy : a.eval y = .agg (nC n).toArray) :
    (execOp a.eval ⟨dst, .binOp .eql 57 x y t', ty, pos, aft, gd⟩).run Tryd.prog w = .ok (.value (.bool q)) w := by
  have e0 : (((m.1 : Int) == (n.1 : Int)) && ((m.2 : Int) == (n.2 : Int))) = q := by
    subst hq
    obtain ⟨m1, m2⟩ := m
    obtain ⟨n1, n2⟩ := n
    by_cases h1 : m1 = n1 <;> by_cases h2 : m2 = n2 <;> simp [h1, h2] <;> omega
  have e1 := eqNd w m.1 m.2 n.1 n.2
  rw [e0] at e1
  have e2 : (Op.equalIn 10000 57 (.agg (nC m).toArray) (.agg (nC n).toArray)).run Tryd.prog w = .ok q w := e1
  simp [execOp, hx, hy, run_eqGuard_agg (P := Tryd.prog) w .eql 57 x y _ _ guardNd, run_eql_struct, e2, Result.andThen]

/-- The parts upon one another end where the next begins. -/
def Abut : List Pt → Nat → Prop
  | [], _ => True
  | q :: st, s => (q.1.2 + 1) * 2 ^ q.1.1 = s ∧ Abut st (q.1.2 * 2 ^ q.1.1)
/-- Behind parts that end where p begins, the other half of p's is one only if it is the left one. -/
theorem sib_other {q p : Nat × Nat} (h : (q.2 + 1) * 2 ^ q.1 = p.2 * 2 ^ p.1) : decide (q = (p.1, p.2 ^^^ 1)) = sib q p := by
  obtain ⟨q1, q2⟩ := q
  obtain ⟨p1, p2⟩ := p
  simp only at h
  rw [xor_one_eq]
  by_cases hl : q1 = p1
  · subst hl
    have hp := Nat.two_pow_pos q1
    have e : q2 + 1 = p2 := Nat.eq_of_mul_eq_mul_right hp h
    subst e
    simp only [sib]
    split
    · have : ¬ q2 = q2 + 1 + 1 := by omega
      have h2 : ¬ q2 % 2 = 0 := by omega
      simp [this, h2]
    · have h2 : q2 % 2 = 0 := by omega
      simp [h2]
  · have : ¬ (q1, q2) = (p1, if p2 % 2 = 0 then p2 + 1 else p2 - 1) := fun e => hl (by injection e)
    simp [this, sib, hl]

end Go.Proofs.YtnjkjickclkmhaaDoor
