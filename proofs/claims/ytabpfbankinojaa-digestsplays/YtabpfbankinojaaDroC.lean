/-
  What stands through the ranges of DigestsOrder.
-/
import Derived.Test.YtabpfbankinojaaDroB
namespace Go.Proofs.Ytabpfbankinojaa
open Go.RowKit Go.Shelf
set_option linter.unusedVariables false
set_option linter.unusedSimpArgs false
set_option maxRecDepth 100000

theorem zD : Zeroed 24 (u8s (zer 32)) := fun _ _ _ _ _ _ _ => by kernel_rfl
theorem keepsO_below {A B : World} (h : Below A.heap.size A B) : KeepsOthers A B := ⟨h.size, fun k o hk _ => (h.block k (Array.getElem?_eq_some_iff.1 hk).1).trans hk⟩
theorem keepsO_but {A B : World} {g : Nat} {t : TypeId} {cs : List Value} (h : But g A B) (hg : Blk A g t cs) : KeepsOthers A B := ⟨Nat.le_of_eq h.size.symm, fun k o hk hc => (h.block k (fun e => by
  subst e
  rw [hg] at hk
  injection hk with hk
  subst hk
  cases hc)).trans hk⟩
theorem keepsO_grown {A B : World} {row : Option Nat} (h : A.grownBy B row) (hr : ∀ g, row = some g → ∃ t cs, Blk A g t cs) : KeepsOthers A B := ⟨h.size, fun k o hk hc => (h.block k (Array.getElem?_eq_some_iff.1 hk).1 (fun e => by
  obtain ⟨t, cs, hg⟩ := hr k e.symm
  rw [hg] at hk
  injection hk with hk
  subst hk
  cases hc)).trans hk⟩
theorem blk_loop {g : Nat} {t : TypeId} {cs : List Value} (V : World) (l : Nat) (r : Loop) (o' : Obj) (hl : V.heap[l]? = some (.loop r)) (hx : Blk V g t cs) : Blk (V.putObj l o') g t cs := by
  unfold Blk
  rw [World.putObj_heap_other (fun e => by
    rw [e] at hx
    unfold Blk at hx
    rw [hl] at hx
    cases hx)]
  exact hx
theorem OnlyB.refl (g : Nat) (w : World) : OnlyB g w w := OnlyB.of_below (Below.refl _ _)
theorem OnlyB.grown {g : Nat} {w W C : World} {row : Option Nat} (h : OnlyB g w W) (hg : W.grownBy C row) (hr : ∀ r, row = some r → w.heap.size ≤ r) : OnlyB g w C :=
  ⟨hg.os.trans h.os, hg.tape.trans h.tape, hg.output.trans h.output, Nat.le_trans h.size hg.size, fun k hk hn => (hg.block k (Nat.lt_of_lt_of_le hk h.size) (fun e => by have := hr k e.symm; omega)).trans (h.block k hk hn)⟩
theorem OnlyB.on {g : Nat} {w W C : World} (h : OnlyB g w W) (hb : Below W.heap.size W C) : OnlyB g w C := h.trans (OnlyB.of_below hb)
theorem OnlyB.set {g : Nat} {w W C : World} (h : OnlyB g w W) (hb : But g W C) : OnlyB g w C := h.trans (OnlyB.but (Below.refl _ _) hb)
theorem MK.only {g : Nat} {w W : World} {t : TypeId} {cs : List Value} {Ds : List Nat} (h : MK Ds w) (hb : OnlyB g w W) (hg : Blk w g t cs) : MK Ds W := fun D hD => by
  have h1 := h D hD
  exact (hb.block D (Array.getElem?_eq_some_iff.1 h1).1 (fun e => by
    subst e
    rw [Blk, h1] at hg
    cases hg)).trans h1
/-- The digests one behind the other. -/
def dlB (L : List Ent) (i : Nat) : List Int := ((L.take i).map Ent.d).flatten
theorem dlB_len (L : List Ent) : ∀ i, i ≤ L.length → (dlB L i).length = 32 * i
  | 0, _ => rfl
  | i + 1, h => by
    have := dlB_len L i (by omega)
    unfold dlB at *
    rw [List.take_succ_eq_append_getElem (by omega), List.map_append, List.flatten_append, List.length_append, this]
    simp [L[i].hl]
    omega
theorem dlB_succ {L : List Ent} {i : Nat} {x : Ent} (h : L[i]? = some x) : dlB L (i + 1) = dlB L i ++ x.d := by
  obtain ⟨hi, rfl⟩ := List.getElem?_eq_some_iff.1 h
  unfold dlB
  rw [List.take_succ_eq_append_getElem hi, List.map_append, List.flatten_append]
  simp
theorem dlB_isB (L : List Ent) (i : Nat) : isB (dlB L i) := fun v hv => by
  unfold dlB at hv
  rw [List.mem_flatten] at hv
  obtain ⟨l, hl, hv⟩ := hv
  rw [List.mem_map] at hl
  obtain ⟨e, _, rfl⟩ := hl
  exact e.hb v hv
theorem dlB_le (L : List Ent) (n : Nat) : ∀ i, i < n → n ≤ L.length → dat (dlB L n) i = dat (dlB L (i + 1)) i := by
  induction n with
  | zero => intro i hi; omega
  | succ n ih =>
    intro i hi hn
    have hx : L[n]? = some L[n] := List.getElem?_eq_getElem (by omega)
    by_cases e : i = n
    · subst e; rfl
    · rw [dlB_succ hx, dat_app_lt (dlB_len L n (by omega)) (by omega)]
      exact ih i (by omega) (by omega)
theorem dlB_at {L : List Ent} {i : Nat} {x : Ent} (h : L[i]? = some x) : dat (dlB L L.length) i = x.d := by
  obtain ⟨hi, rfl⟩ := List.getElem?_eq_some_iff.1 h
  rw [dlB_le L L.length i hi (Nat.le_refl _), dlB_succ (List.getElem?_eq_getElem hi), dat_app_at (dlB_len L i (by omega)) L[i].hl]
/-- While the list is made. -/
structure R1 (w0 W : World) (bl : Nat) (lv : Value) (i : Nat) (L : List Ent) : Prop where
  c : Blk W bl 52 [lv]
  own : DOwn W w0.heap.size lv i (dlB L i)
  only : OnlyB bl w0 W
  lt : bl < w0.heap.size
section
variable {w0 W W' : World} {bl i : Nat} {lv : Value} {L : List Ent}
theorem R1.on (h : R1 w0 W bl lv i L) (hb : Below W.heap.size W W') : R1 w0 W' bl lv i L := ⟨h.c.on hb, h.own.below hb, h.only.on hb, h.lt⟩
theorem R1.ownT : OwnT 59 w0.heap.size (fun i W => ∃ lv, R1 w0 W bl lv i L) := fun i A C row h hg hr => by
  obtain ⟨lv, h⟩ := h
  have hlt := h.lt
  refine ⟨lv, h.c.grew hg (fun e => by have := (hr _ e).1; omega), row_same h.own (fun k hk => ?_), h.only.grown hg (fun r e => (hr r e).1), h.lt⟩
  obtain ⟨cs, hc⟩ := row_lies h.own hk
  refine hg.block k hc.lt (fun e => ?_)
  obtain ⟨_, o, ho, h2⟩ := hr k e.symm
  rw [show A.heap[k]? = _ from hc] at ho
  injection ho with ho
  subst ho
  rcases h2 with h2 | ⟨cs', h2⟩
  · cases h2
  · rw [Blk, show A.heap[k]? = _ from hc] at h2
    injection h2 with h2
    injection h2 with _ h3 _
    revert h3
    decide
/-- One more is in the list. -/
theorem R1.put {W5 W6 : World} {lv2 : Value} {x : Ent} (h : R1 w0 W bl lv i L) (hx : L[i]? = some x) (hb : Below W.heap.size W W5) (hg : W5.grownBy W6 lv.ownBlock) (ho : DOwn W6 w0.heap.size lv2 (i + 1) (dlB L i ++ x.d)) (hbut : But bl W6 W') (hc : Blk W' bl 52 [lv2]) : R1 w0 W' bl lv2 (i + 1) L :=
  ⟨hc, by rw [dlB_succ hx]; exact row_same ho (fun k hk => hbut.block k (fun e => by have := ho.lt k hk; have := h.lt; omega)), ((h.only.on hb).grown hg (fun r e => h.own.lt r e)).set hbut, h.lt⟩
/-- While the list is looked through. -/
structure R2 (w0 W : World) (bi i : Nat) : Prop where
  c : Blk W bi 3 [.int .i64 (i : Int)]
  only : OnlyB bi w0 W
  lt : bi < w0.heap.size
theorem R2.on {bi : Nat} (h : R2 w0 W bi i) (hb : Below W.heap.size W W') : R2 w0 W' bi i := ⟨h.c.on hb, h.only.on hb, h.lt⟩
theorem R2.ownT {bi : Nat} : OwnT 59 w0.heap.size (fun i W => R2 w0 W bi i) := fun i A C row h hg hr =>
  ⟨h.c.grew hg (fun e => by have := (hr _ e).1; have := h.lt; omega), h.only.grown hg (fun r e => (hr r e).1), h.lt⟩
theorem R2.put {bi : Nat} (h : R2 w0 W bi i) (hbut : But bi W W') (hc : Blk W' bi 3 [.int .i64 ((i + 1 : Nat) : Int)]) : R2 w0 W' bi (i + 1) := ⟨hc, h.only.set hbut, h.lt⟩
end
section
variable {F : Fence} {n : Nat} {dst : Option Tmp} {ty : TypeId} {pos : String} {aft : Array Edge} {gd : Option (Nat × Bool)} {ops : Array Oper} {rest : List Oper} {a : Act} {w : World} {Q : Exit → Act → World → Prop}
theorem istep_oneD (hF : WideF F) {x : Operand} {ds : List Int} (hw : Region.wanted ⟨dst, .buildSlice 52 1 #[(0, x)], ty, pos, aft, gd⟩ (yielded ops a.tmps) = true) (hx : a.eval x = .agg (u8s ds).toArray) (hd : ds.length = 32) (hb : isB ds)
    (h : ∀ w1 g, Ds w1 (some ⟨g, 0, none⟩) 1 1 ds → Below w.heap.size w w1 → wpListIn F n Try.prog ops Q rest (a.put dst (.slice (some ⟨g, 0, none⟩) 1 1)) w1) :
    wpListIn F n Try.prog ops Q (⟨dst, .buildSlice 52 1 #[(0, x)], ty, pos, aft, gd⟩ :: rest) a w :=
  istep hF (fun c => by simp) hw fun K hK => wp_oneD hx hd hb fun w1 g h1 h2 => hK _ _ (h w1 g h1 h2)
theorem istep_appendD (hF : WideF F) {s x : Operand} {B : Nat} {v : Value} {m k : Nat} {xs : List Int} {sa : Option Addr} {c : Nat} {ys : List Int} (hw : Region.wanted ⟨dst, .call { callee := .builtin .append, args := #[s, x], argTypes := #[52, 52] }, ty, pos, aft, gd⟩ (yielded ops a.tmps) = true)
    (hs : a.eval s = v) (hx : a.eval x = .slice sa m c) (hown : DOwn w B v k xs) (hy : Ds w sa m c ys) (hlen : k + m ≤ 4398046511104) (hB : B ≤ w.heap.size)
    (h : ∀ v' w', DOwn w' B v' (k + m) (xs ++ ys) → w.grownBy w' v.ownBlock → wpListIn F n Try.prog ops Q rest (a.put dst v') w') :
    wpListIn F n Try.prog ops Q (⟨dst, .call { callee := .builtin .append, args := #[s, x], argTypes := #[52, 52] }, ty, pos, aft, gd⟩ :: rest) a w :=
  istep hF (fun c => by simp) hw fun K hK => wp_appendD rfl hs hx hown hy hlen hB fun v' w' h1 h2 => hK _ _ (h v' w' h1 h2)
end

end Go.Proofs.Ytabpfbankinojaa
