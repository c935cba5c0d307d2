/-
  append of digests; the law's same; rootOf, and both Subs.
-/
import Derived.Test.YtnlpgkfmjlljdaaDoorRt
namespace Go.Proofs.YtnlpgkfmjlljdaaDoor
open Go.RowKit
set_option linter.unusedVariables false

/-- A slice of digests of the call's own. -/
def DOwn (w : World) (B : Nat) (v : Value) (n : Nat) (xs : List Int) : Prop := w.ownsRow B 40 32 v n (u8s xs)
theorem DOwn.nil (w : World) (B : Nat) : DOwn w B (.slice none 0 0) 0 [] := World.ownsRow_nil _ _ _ _
theorem DOwn.lt {w : World} {B : Nat} {v : Value} {n : Nat} {xs : List Int} (h : DOwn w B v n xs) : ∀ k, v.ownBlock = some k → B ≤ k := fun k hk => (World.ownsRow.lt h k hk).1
theorem DOwn.alloc {w : World} {B : Nat} {v : Value} {n : Nat} {xs : List Int} (h : DOwn w B v n xs) (o : Obj) : DOwn (w.alloc o) B v n xs := World.ownsRow.alloc h o
theorem DOwn.below {w w' : World} {B : Nat} {v : Value} {n : Nat} {xs : List Int} (h : DOwn w B v n xs) (hb : Below w.heap.size w w') : DOwn w' B v n xs := by
  obtain ⟨h1, h2⟩ := h
  refine ⟨h1, ?_⟩
  rcases h2 with h2 | ⟨g, cap, cur, e, hg, hh, r⟩
  · exact .inl h2
  · refine .inr ⟨g, cap, cur, e, hg, ?_, r⟩
    rw [hb.block g (Array.getElem?_eq_some_iff.1 hh).1]
    exact hh
theorem DOwn.len {w : World} {B : Nat} {v : Value} {n : Nat} {xs : List Int} (h : DOwn w B v n xs) : xs.length = 32 * n := by
  have := h.1
  rw [u8s_length] at this
  omega
theorem DOwn.ds {w : World} {B : Nat} {v : Value} {n : Nat} {xs : List Int} (h : DOwn w B v n xs) (hb : isB xs) (hn : n ≤ 4398046511104) :
    ∃ a cap, v = .slice a n cap ∧ Ds w a n cap xs ∧ ∀ x, a = some x → B ≤ x.block := by
  have hl := h.len
  obtain ⟨_, h2⟩ := h
  rcases h2 with ⟨rfl, rfl⟩ | ⟨g, cap, cur, rfl, hB, hh, h3, h4, h5, h6⟩
  · obtain rfl : xs = [] := List.eq_nil_of_length_eq_zero hl
    exact ⟨none, 0, rfl, ⟨Nat.le_refl _, by omega, fun _ => rfl, Sl.none0 _⟩, fun x hx => by cases hx⟩
  · refine ⟨some ⟨g, 0, none⟩, cap, rfl, ⟨h3, by simpa [maxLen] using h4, (fun e => by cases e), hl, Nat.le_refl _, by omega, by omega, hb, (fun e => by cases e), fun _ => ⟨g, 0, rfl, fun i hi => ?_⟩⟩, fun x hx => by cases hx; exact hB⟩
    rw [Nat.zero_add, cell_of_row w g i cur 40 (0, 0) hh]
    have e : (cur.toList.take (n * 32))[i]? = some (.int .u8 (xs.getD i 0)) := by rw [h6]; exact u8s_get xs i (by omega)
    rw [List.getElem?_take, if_pos (by omega)] at e
    simpa using e

theorem wp_appendD {o : Oper} {K : Act → World → Prop} {s x : Operand} {a : Act} {w : World} {Q : Exit → Act → World → Prop}
    {B : Nat} {v : Value} {n : Nat} {xs : List Int} {sa : Option Addr} {m c : Nat} {ys : List Int}
    (ho : o.op = .call { callee := .builtin .append, args := #[s, x], argTypes := #[67, 67] }) (hs : a.eval s = v) (hx : a.eval x = .slice sa m c) (hown : DOwn w B v n xs) (hy : Ds w sa m c ys)
    (hlen : n + m ≤ 4398046511104) (hB : B ≤ w.heap.size)
    (h : ∀ v' w', DOwn w' B v' (n + m) (xs ++ ys) → w.grownBy w' v.ownBlock → K (a.put o.dst v') w') : Oper.wp Tryd.prog o a w K Q := by
  obtain ⟨i0, hi, hz0, hz1, hz2⟩ := info_parts infoD
  cases sa with
  | none =>
    have hc0 := hy.hnil rfl
    have hm0 : m = 0 := by have := hy.hcap; omega
    subst hc0 hm0
    obtain rfl : ys = [] := List.eq_nil_of_length_eq_zero hy.hlen
    have hrun := run_append_owned_none (P := Tryd.prog) (w := w) B 67 o.type 40 i0 32 undDl hi v _ _ hown
    unfold Oper.wp
    simp [execOp, ho, resolve, invoke, builtin, hs, hx, hrun, Result.andThen]
    exact (h v w (by simpa using hown) (World.grownBy.refl _ _))
  | some ad =>
    refine wp_append_own _ s x 67 ho B 40 i0 (.agg (u8s (zer 32)).toArray) 32 32 undDl hi hz0 hz1 hz2 rfl (by decide) v _ _ hs hown ad m c (u8s ys) hx (by rw [u8s_length, hy.hlen, Nat.mul_comm]) ?_ (One.u8 ys) ?_ ?_ hB ?_
    · intro j u hu
      have hj : j < 32 * m := by
        have := (List.getElem?_eq_some_iff.1 hu).1
        rwa [u8s_length, hy.hlen] at this
      obtain ⟨b, off, e, hc⟩ := hy.sl.hcell (by omega)
      obtain rfl := Option.some.inj e
      rw [Addr.add_lit, hc j hj]
      rw [u8s_get ys j (by rw [hy.hlen]; exact hj)] at hu
      exact hu
    · unfold maxLen; omega
    · omega
    · intro v' w' h1 h2 h3
      exact (h v' w' (by unfold DOwn; rw [u8s_app]; exact h1) h2)
theorem step_appendD {dst : Option Tmp} {s x : Operand} {ty : TypeId} {pos : String} {aft : Array Edge} {gd : Option (Nat × Bool)} {ops : Array Oper} {rest : List Oper} {a : Act} {w : World} {Q : Exit → Act → World → Prop}
    {B : Nat} {v : Value} {n : Nat} {xs : List Int} {sa : Option Addr} {m c : Nat} {ys : List Int}
    (hw : Region.wanted ⟨dst, .call { callee := .builtin .append, args := #[s, x], argTypes := #[67, 67] }, ty, pos, aft, gd⟩ (yielded ops a.tmps) = true)
    (hs : a.eval s = v) (hx : a.eval x = .slice sa m c) (hown : DOwn w B v n xs) (hy : Ds w sa m c ys) (hlen : n + m ≤ 4398046511104) (hB : B ≤ w.heap.size)
    (h : ∀ v' w', DOwn w' B v' (n + m) (xs ++ ys) → w.grownBy w' v.ownBlock → wpList Tryd.prog ops Q rest (a.put dst v') w') :
    wpList Tryd.prog ops Q (⟨dst, .call { callee := .builtin .append, args := #[s, x], argTypes := #[67, 67] }, ty, pos, aft, gd⟩ :: rest) a w :=
  BigFrame.wpList_want hw fun K hK => wp_appendD rfl hs hx hown hy hlen hB fun v' w' h1 h2 => hK _ _ (h v' w' h1 h2)
theorem down_empty (w : World) : DOwn (w.alloc (.cells #[] 40)) w.heap.size (.slice (some ⟨w.heap.size, 0, none⟩) 0 0) 0 [] :=
  ⟨by simp [u8s], .inr ⟨w.heap.size, 0, #[], rfl, Nat.le_refl _, Blk.made w 40 [], Nat.le_refl _, by unfold maxLen; omega, by simp, by simp [u8s]⟩⟩

theorem run_neT {dst : Option Tmp} {ty : TypeId} {pos : String} {aft : Array Edge} {gd : Option (Nat × Bool)} {a : Act} {w : World} {T E : TypeId} {k : IntKind} {n : Nat} (hA : Arr T E k n) (t' : TypeId) {x y : Operand} {xs : List Int} (hx : a.eval x = .agg (xs.map (Value.int k)).toArray) (hy : a.eval y = .agg (xs.map (Value.int k)).toArray) (hl : xs.length = n) :
    (execOp a.eval ⟨dst, .binOp .neq T x y t', ty, pos, aft, gd⟩).run Tryd.prog w = .ok (.value (.bool false)) w := by
  rw [run_neA hA t' hx hy hl hl]
  simp


/-- Some of them. -/
def sub (xs : List Int) (b e : Nat) : List Int := (xs.drop (32 * b)).take (32 * (e - b))
theorem sub_length {xs : List Int} {n b e : Nat} (h : xs.length = 32 * n) (hb : b ≤ e) (he : e ≤ n) : (sub xs b e).length = 32 * (e - b) := by
  simp [sub]; omega
theorem sub_isB {xs : List Int} (h : isB xs) (b e : Nat) : isB (sub xs b e) := (h.drop _).take _
theorem Ds.mid {w : World} {b o n cap : Nat} {xs : List Int} (h : Ds w (some ⟨b, o, none⟩) n cap xs) (k e : Nat) (hk : k ≤ e) (he : e ≤ n) : Ds w (some ⟨b, o + 32 * k, none⟩) (e - k) (cap - k) (sub xs k e) :=
  (h.drop k (by omega)).take (e - k) (by omega)

end Go.Proofs.YtnlpgkfmjlljdaaDoor
