/-
  Slices of the call's own whose elements take one cell each: an element's place, one more appended; what belongs to none of another kind.
-/
import Derived.Test.YtbkhlbaamjccjaaDoorFsp
import Derived.Test.YtbkhlbaamjccjaaDoorBu
import Derived.Great.BuildSlice
import Derived.Deep.AppendLies
namespace Go.Proofs.YtbkhlbaamjccjaaDoor
open Go.RowKit
set_option linter.unusedVariables false

/-- What is known of a type of slices of elements of one cell. -/
structure Tin (L T : TypeId) (z : Value) (b : Nat) : Prop where
  und : Tryd.prog.underlying L = some (.slice T)
  info : (Tryd.prog.info? T).map (fun i => (i.zero, i.size, i.bytes)) = some (some z, 1, b)
  elem : Tryd.prog.elem L = T
  size : ∀ w : World, (sizeOf T).run Tryd.prog w = .ok 1 w
  one : z.cells = #[z]
  pos : 0 < b
  few : b ≤ 24
  build : ∀ (u : Value) (w : World), u.oneCell' = true → (Instr.buildSlice L 1 #[(0, u)]).run Tryd.prog w = .ok (.slice (some ⟨w.heap.size, 0, none⟩) 1 1) (w.alloc (.cells #[u] T))
theorem info_some {P : Program} {t : TypeId} {z : Option Value} {s b : Nat} (h : (P.info? t).map (fun i => (i.zero, i.size, i.bytes)) = some (z, s, b)) : ∃ i, P.info? t = some i ∧ i.zero = z ∧ i.size = s ∧ i.bytes = b := by
  cases hi : P.info? t with
  | none => simp [hi] at h
  | some i => simp [hi] at h; exact ⟨i, rfl, h.1, h.2.1, h.2.2⟩
theorem cells_one {u : Value} (h : u.oneCell' = true) : u.cells = #[u] := by
  cases u <;> simp_all [Value.oneCell', Value.cells]
theorem build_by (L T : TypeId) (z : Value) (b : Nat) (hu : Tryd.prog.underlying L = some (.slice T)) (hi : (Tryd.prog.info? T).map (fun i => (i.zero, i.size, i.bytes)) = some (some z, 1, b)) (hz : z.cells = #[z]) (hb : b ≤ 24)
    (u : Value) (w : World) (h1 : u.oneCell' = true) : (Instr.buildSlice L 1 #[(0, u)]).run Tryd.prog w = .ok (.slice (some ⟨w.heap.size, 0, none⟩) 1 1) (w.alloc (.cells #[u] T)) := by
  obtain ⟨i0, hi, hz0, hz1, hz2⟩ := info_some hi
  refine run_buildSlice w L T 1 _ _ i0 _ hu hi hz0 (by rw [hz1]; decide) (by rw [hz1]; decide) ?_
  rw [hz1]
  have e0 : ((Array.range (1 * 1)).map (z.cells[· % z.cells.size]!)) = [z].toArray := by rw [hz]; simp [Array.range_succ, Array.range_zero']
  rw [e0]
  show Instr.fill _ _ [(0, u)] = _
  rw [fill_cons (place := fun i => some (i * 1, 1)) (off := 0) (size := 1) (vs := [u]) rfl (cells_one h1) rfl (by simp), fill_nil]
  rfl
theorem tinI : Tin 42 3 (.int .i64 0) 8 := ⟨by kernel_rfl, by kernel_rfl, by kernel_rfl, fun _ => by kernel_rfl, rfl, by decide, by decide, fun u w h => build_by _ _ (.int .i64 0) 8 (by kernel_rfl) (by kernel_rfl) rfl (by decide) u w h⟩
theorem tinB : Tin 41 23 (.slice none 0 0) 24 := ⟨by kernel_rfl, by kernel_rfl, by kernel_rfl, fun _ => by kernel_rfl, rfl, by decide, by decide, fun u w h => build_by _ _ (.slice none 0 0) 24 (by kernel_rfl) (by kernel_rfl) rfl (by decide) u w h⟩

/-- A slice of the call's own that holds these values. -/
def OwnV (T : TypeId) (w : World) (B : Nat) (v : Value) (ns : List Value) : Prop := One ns ∧ w.ownsRow B T 1 v ns.length ns
section
variable {T : TypeId} {w w' : World} {B B' : Nat} {v : Value} {ns : List Value}
theorem OwnV.nil (T : TypeId) (w : World) (B : Nat) : OwnV T w B (.slice none 0 0) [] := ⟨(fun _ h => by cases h), World.ownsRow_nil _ _ _ _⟩
theorem OwnV.below (h : OwnV T w B v ns) (hb : Below w.heap.size w w') : OwnV T w' B v ns := by
  obtain ⟨h0, h1, h2⟩ := h
  refine ⟨h0, h1, ?_⟩
  rcases h2 with h2 | ⟨g, cap, cur, e, hg, hh, r⟩
  · exact .inl h2
  · refine .inr ⟨g, cap, cur, e, hg, ?_, r⟩
    rw [hb.block g (Array.getElem?_eq_some_iff.1 hh).1]
    exact hh
theorem OwnV.mono (h : OwnV T w B v ns) (hb : B' ≤ B) : OwnV T w B' v ns := by
  obtain ⟨h0, h1, h2⟩ := h
  refine ⟨h0, h1, ?_⟩
  rcases h2 with h2 | ⟨g, cap, cur, e, hg, r⟩
  · exact .inl h2
  · exact .inr ⟨g, cap, cur, e, Nat.le_trans hb hg, r⟩
theorem OwnV.lt (h : OwnV T w B v ns) : ∀ k, v.ownBlock = some k → B ≤ k ∧ k < w.heap.size := fun k hk => World.ownsRow.lt h.2 k hk
theorem OwnV.kept {row : Option Nat} (h : OwnV T w B v ns) (hg : w.grownBy w' row) (hr : v.ownBlock = none ∨ v.ownBlock ≠ row) : OwnV T w' B v ns := ⟨h.1, World.ownsRow.kept h.2 hg hr⟩
/-- What it is, and where its elements lie. -/
theorem OwnV.lies (h : OwnV T w B v ns) : (v = .slice none 0 0 ∧ ns = []) ∨ ∃ g cap cs, v = .slice (some ⟨g, 0, none⟩) ns.length cap ∧ B ≤ g ∧ Blk w g T cs ∧ ns.length ≤ cap ∧ cs.take ns.length = ns := by
  obtain ⟨h0, h1, h2⟩ := h
  rcases h2 with ⟨e, h3⟩ | ⟨g, cap, cur, rfl, hB, hh, h3, h4, h5, h6⟩
  · exact .inl ⟨e, List.eq_nil_of_length_eq_zero h3⟩
  · exact .inr ⟨g, cap, cur.toList, rfl, hB, by unfold Blk; simpa using hh, h3, by simpa using h6⟩
theorem OwnV.slice (h : OwnV T w B v ns) : ∃ a c, v = .slice a ns.length c := by
  rcases h.lies with ⟨rfl, rfl⟩ | ⟨g, cap, cs, rfl, _⟩
  · exact ⟨none, 0, rfl⟩
  · exact ⟨_, cap, rfl⟩
theorem OwnV.cell {a : Option Addr} {n c : Nat} (h : OwnV T w B (.slice a n c) ns) (i : Nat) (hi : i < ns.length) : ∃ g, a = some ⟨g, 0, none⟩ ∧ B ≤ g ∧ w.cell? ⟨g, i, none⟩ = ns[i]? := by
  rcases h.lies with ⟨_, rfl⟩ | ⟨g, cap, cs, e, hB, hb, hl, ht⟩
  · simp at hi
  · injection e with e1 _ _
    refine ⟨g, e1, hB, ?_⟩
    rw [hb.cell]
    have := congrArg (fun l => l[i]?) ht
    simp only [List.getElem?_take, if_pos hi] at this
    exact this
end
/-- Rows of elements of two kinds are two rows. -/
theorem own_ne {w : World} {B B' : Nat} {e e' : TypeId} {s s' n m : Nat} {u v : Value} {xs ys : List Value} (h : w.ownsRow B e s u n xs) (h' : w.ownsRow B' e' s' v m ys) (hne : e ≠ e') : u.ownBlock = none ∨ u.ownBlock ≠ v.ownBlock := by
  rcases h.2 with ⟨rfl, _⟩ | ⟨g, cap, cur, rfl, _, hh, _⟩
  · exact .inl rfl
  · right
    rcases h'.2 with ⟨rfl, _⟩ | ⟨g', cap', cur', rfl, _, hh', _⟩
    · intro e; cases e
    · intro e
      injection e with e
      subst e
      rw [hh] at hh'
      injection hh' with hh'
      injection hh' with _ h2 _
      exact hne h2
theorem OwnV.ne {T T' : TypeId} {w : World} {B B' : Nat} {u v : Value} {ns ms : List Value} (h : OwnV T w B u ns) (h' : OwnV T' w B' v ms) (hne : T ≠ T') : u.ownBlock = none ∨ u.ownBlock ≠ v.ownBlock := own_ne h.2 h'.2 hne
theorem Own.ne {T : TypeId} {w : World} {B B' : Nat} {u v : Value} {xs : List Int} {ms : List Value} (h : Own w B u xs) (h' : OwnV T w B' v ms) (hne : 5 ≠ T) : u.ownBlock = none ∨ u.ownBlock ≠ v.ownBlock := own_ne h h'.2 hne
theorem Own.kept {w w' : World} {B : Nat} {v : Value} {xs : List Int} {row : Option Nat} (h : Own w B v xs) (hg : w.grownBy w' row) (hr : v.ownBlock = none ∨ v.ownBlock ≠ row) : Own w' B v xs := World.ownsRow.kept h hg hr
theorem Tin.at {L T : TypeId} {z : Value} {by' : Nat} (t : Tin L T z by') (b n cap i : Nat) (I : Int) (hI : I = (i : Int)) (hi : i < n) (v : World) : (Instr.indexAt L (.slice (some ⟨b, 0, none⟩) n cap) (.int .i64 I)).run Tryd.prog v = .ok (.pointer (some ⟨b, i, none⟩)) v := by
  subst hI
  have hu : Tryd.prog.underlying L = some (.slice (Tryd.prog.elem L)) := by rw [t.elem]; exact t.und
  rw [run_indexAt_slice v _ _ _ _ .i64 i hu, if_pos ⟨by omega, by omega⟩, t.elem, t.size]
  simp only [Result.andThen_ok, Int.toNat_natCast]
  rw [Addr.add_lit, Nat.zero_add, Nat.mul_one]
section
variable {L T : TypeId} {z : Value} {by' : Nat} {dst : Option Tmp} {ty : TypeId} {pos : String} {aft : Array Edge} {gd : Option (Nat × Bool)} {ops : Array Oper} {rest : List Oper} {a : Act} {w : World} {K : Act → World → Prop} {Q : Exit → Act → World → Prop}
set_option maxRecDepth 100000 in
theorem step_one1 (t : Tin L T z by') {x : Operand} {u : Value} (hu : u.oneCell' = true) (hw : Region.wanted ⟨dst, .buildSlice L 1 #[(0, x)], ty, pos, aft, gd⟩ (yielded ops a.tmps) = true) (hx : a.eval x = u)
    (h : ∀ w1 g, Blk w1 g T [u] → w.heap.size ≤ g → Below w.heap.size w w1 → wpList Tryd.prog ops Q rest (a.put dst (.slice (some ⟨g, 0, none⟩) 1 1)) w1) :
    wpList Tryd.prog ops Q (⟨dst, .buildSlice L 1 #[(0, x)], ty, pos, aft, gd⟩ :: rest) a w := by
  refine step_run hw (.slice (some ⟨w.heap.size, 0, none⟩) 1 1) (w.alloc (.cells [u].toArray T)) ?_ (h _ _ (Blk.made _ _ _) (Nat.le_refl _) ((Below.refl _ _).alloc (Nat.le_refl _) _))
  unfold execOp
  simp only [List.map_toArray, List.map_cons, List.map_nil, hx]
  simp only [Sem.run_bind, t.build u w hu, Result.andThen_ok, Sem.run_pure]
theorem step_app1 (t : Tin L T z by') {s x : Operand} {B : Nat} {v u : Value} {ns : List Value} {g c : Nat} (hu : u.oneCell' = true) (hw : Region.wanted ⟨dst, .call { callee := .builtin .append, args := #[s, x], argTypes := #[L, L] }, ty, pos, aft, gd⟩ (yielded ops a.tmps) = true)
    (hs : a.eval s = v) (hx : a.eval x = .slice (some ⟨g, 0, none⟩) 1 c) (hown : OwnV T w B v ns) (hy : Blk w g T [u]) (hlen : ns.length ≤ 1048576) (hB : B ≤ w.heap.size)
    (h : ∀ v' w', OwnV T w' B v' (ns ++ [u]) → w.grownBy w' v.ownBlock → wpList Tryd.prog ops Q rest (a.put dst v') w') :
    wpList Tryd.prog ops Q (⟨dst, .call { callee := .builtin .append, args := #[s, x], argTypes := #[L, L] }, ty, pos, aft, gd⟩ :: rest) a w := by
  obtain ⟨i0, hi, hz0, hz1, hz2⟩ := info_some t.info
  have hone : One [u] := fun q hq => by simp at hq; rw [hq]; exact hu
  obtain ⟨g', cap', w', hr, ho, hgr, hat, hlt⟩ := run_append_lies (P := Tryd.prog) w L ty B T i0 z 1 by' t.und hi hz0 hz1 hz2 (by rw [t.one]; rfl) (by decide) v _ _ hown.2 ⟨g, 0, none⟩ 1 c [u] rfl (fun j q hq => by
    rw [Addr.add_lit, Nat.zero_add, hy.cell]
    exact hq) hone (by decide) (by unfold maxLen; omega) (by have := t.few; have : (ns.length + 1) * by' ≤ (ns.length + 1) * 24 := Nat.mul_le_mul_left _ this; omega) hB _ rfl
  refine step_run hw (.slice (some ⟨g', 0, none⟩) (ns.length + 1) cap') w' (by simp [execOp, resolve, invoke, builtin, hs, hx, hr, Result.andThen]) (h _ _ ⟨hown.1.app hone, by rw [List.length_append]; exact ho⟩ hgr)
end

end Go.Proofs.YtbkhlbaamjccjaaDoor
