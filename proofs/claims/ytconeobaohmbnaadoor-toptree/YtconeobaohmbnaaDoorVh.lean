/-
  Slices of halves (numbers of one cell) of the call's own: an element's place, one more appended, an element changed.
-/
import Derived.Test.YtconeobaohmbnaaDoorNw
import Derived.Test.YtconeobaohmbnaaDoorBu
import Derived.Great.BuildSlice
import Derived.Laws.Bits64
import Derived.Deep.AppendLies
namespace Go.Proofs.YtconeobaohmbnaaDoor
open Go.RowKit
set_option linter.unusedVariables false

/-- The cells of halves. -/
def hC (hs : List Int) : List Value := hs.map (Value.int .i64)
theorem One.hC (hs : List Int) : One (hC hs) := by intro v hv; obtain ⟨x, _, rfl⟩ := List.mem_map.1 hv; rfl
theorem hC_length (hs : List Int) : (hC hs).length = hs.length := by simp [hC]
theorem hC_at (hs : List Int) (i : Nat) (n : Int) (h : hs[i]? = some n) : (hC hs)[i]? = some (.int .i64 n) := by simp [hC, h]
theorem info_some {P : Program} {t : TypeId} {z : Option Value} {s b : Nat} (h : (P.info? t).map (fun i => (i.zero, i.size, i.bytes)) = some (z, s, b)) : ∃ i, P.info? t = some i ∧ i.zero = z ∧ i.size = s ∧ i.bytes = b := by
  cases hi : P.info? t with
  | none => simp [hi] at h
  | some i => simp [hi] at h; exact ⟨i, rfl, h.1, h.2.1, h.2.2⟩
theorem infoH : (Tryd.prog.info? 126).map (fun i => (i.zero, i.size, i.bytes)) = some (some (.int .i64 0), 1, 8) := by kernel_rfl
theorem undHl : Tryd.prog.underlying 123 = some (.slice 126) := by kernel_rfl
theorem undHs : Tryd.prog.underlying 123 = some (.slice (Tryd.prog.elem 123)) := by kernel_rfl
theorem elemH : Tryd.prog.elem 123 = 126 := by kernel_rfl
theorem sizeH (w : World) : (sizeOf 126).run Tryd.prog w = .ok 1 w := by kernel_rfl
theorem atH (b n cap i : Nat) (I : Int) (hI : I = (i : Int)) (hi : i < n) (v : World) : (Instr.indexAt 123 (.slice (some ⟨b, 0, none⟩) n cap) (.int .i64 I)).run Tryd.prog v = .ok (.pointer (some ⟨b, i, none⟩)) v := by
  subst hI
  rw [run_indexAt_slice v _ _ _ _ .i64 i undHs, if_pos ⟨by omega, by omega⟩, elemH, sizeH]
  simp only [Result.andThen_ok, Int.toNat_natCast]
  rw [Addr.add_lit, Nat.zero_add, Nat.mul_one]
/-- In a slice of the call's own. -/
def OwnH (w : World) (B : Nat) (v : Value) (ns : List Int) : Prop := w.ownsRow B 126 1 v ns.length (hC ns)
theorem OwnH.nil (w : World) (B : Nat) : OwnH w B (.slice none 0 0) [] := World.ownsRow_nil _ _ _ _
theorem OwnH.below {w w' : World} {B : Nat} {v : Value} {ns : List Int} (h : OwnH w B v ns) (hb : Below w.heap.size w w') : OwnH w' B v ns := by
  obtain ⟨h1, h2⟩ := h
  refine ⟨h1, ?_⟩
  rcases h2 with h2 | ⟨g, cap, cur, e, hg, hh, r⟩
  · exact .inl h2
  · refine .inr ⟨g, cap, cur, e, hg, ?_, r⟩
    rw [hb.block g (Array.getElem?_eq_some_iff.1 hh).1]
    exact hh
theorem OwnH.but {w w' : World} {B g : Nat} {v : Value} {ns : List Int} (h : OwnH w B v ns) (hb : But g w w') (hg : v.ownBlock ≠ some g) : OwnH w' B v ns := by
  obtain ⟨h1, h2⟩ := h
  refine ⟨h1, ?_⟩
  rcases h2 with h2 | ⟨k, cap, cur, rfl, hk, hh, r⟩
  · exact .inl h2
  · refine .inr ⟨k, cap, cur, rfl, hk, ?_, r⟩
    rw [hb.block k (fun e => hg (by rw [← e]; rfl))]
    exact hh
theorem OwnH.lower {w : World} {B B' : Nat} {v : Value} {ns : List Int} (h : OwnH w B v ns) (hB : B' ≤ B) : OwnH w B' v ns := by
  obtain ⟨h1, h2⟩ := h
  refine ⟨h1, ?_⟩
  rcases h2 with h2 | ⟨g, cap, cur, e, hg, r⟩
  · exact .inl h2
  · exact .inr ⟨g, cap, cur, e, Nat.le_trans hB hg, r⟩
theorem OwnH.lies {w : World} {B : Nat} {v : Value} {ns : List Int} (h : OwnH w B v ns) : (v = .slice none 0 0 ∧ ns = []) ∨
    ∃ g cap cs, v = .slice (some ⟨g, 0, none⟩) ns.length cap ∧ B ≤ g ∧ Blk w g 126 cs ∧ ns.length ≤ cap ∧ cap ≤ 9223372036854775807 ∧ cs.length = cap ∧ cs.take ns.length = hC ns := by
  obtain ⟨h1, h2⟩ := h
  rcases h2 with ⟨e, h0⟩ | ⟨g, cap, cur, rfl, hB, hh, h3, h4, h5, h6⟩
  · exact .inl ⟨e, List.eq_nil_of_length_eq_zero h0⟩
  · exact .inr ⟨g, cap, cur.toList, rfl, hB, by unfold Blk; simpa using hh, h3, by simpa [maxLen] using h4, by simpa using h5, by simpa using h6⟩
theorem OwnH.slice {w : World} {B : Nat} {v : Value} {ns : List Int} (h : OwnH w B v ns) : ∃ a c, v = Value.slice a ns.length c := by
  rcases h.lies with ⟨rfl, rfl⟩ | ⟨g, cap, cs, rfl, _⟩
  · exact ⟨_, _, rfl⟩
  · exact ⟨_, _, rfl⟩
theorem OwnH.mk {w : World} {B g cap : Nat} {cs : List Value} {ns : List Int} (hB : B ≤ g) (hb : Blk w g 126 cs) (hn : ns.length ≤ cap) (hc : cap ≤ 9223372036854775807) (hl : cs.length = cap) (ht : cs.take ns.length = hC ns) : OwnH w B (.slice (some ⟨g, 0, none⟩) ns.length cap) ns := by
  refine ⟨by rw [hC_length]; omega, .inr ⟨g, cap, cs.toArray, rfl, hB, by unfold Blk at hb; simpa using hb, hn, by simpa [maxLen] using hc, by simpa using hl, by simpa using ht⟩⟩
theorem OwnH.lt {w : World} {B : Nat} {v : Value} {ns : List Int} (h : OwnH w B v ns) : ∀ k, v.ownBlock = some k → B ≤ k ∧ k < w.heap.size := fun k hk => World.ownsRow.lt h k hk
theorem OwnH.cell {w : World} {B g cap : Nat} {ns : List Int} {m : Nat} (h : OwnH w B (.slice (some ⟨g, 0, none⟩) m cap) ns) (i : Nat) (n : Int) (hi : ns[i]? = some n) : w.cell? ⟨g, i, none⟩ = some (.int .i64 n) := by
  rcases h.lies with ⟨e, _⟩ | ⟨g', c, cs, e, _, hb, _, _, _, ht⟩
  · cases e
  · injection e with e1 _ _
    injection e1 with e1
    injection e1 with e1 _ _
    subst e1
    rw [hb.cell]
    have hlt : i < ns.length := (List.getElem?_eq_some_iff.1 hi).1
    have := hC_at ns i n hi
    rw [← ht, List.getElem?_take, if_pos hlt] at this
    exact this
theorem buildH (n : Int) (w : World) : (Instr.buildSlice 123 1 #[(0, .int .i64 n)]).run Tryd.prog w = .ok (.slice (some ⟨w.heap.size, 0, none⟩) 1 1) (w.alloc (.cells (hC [n]).toArray 126)) := by
  obtain ⟨i0, hi, hz0, hz1, hz2⟩ := info_some infoH
  refine run_buildSlice w 123 126 1 _ _ i0 _ undHl hi hz0 (by rw [hz1]; decide) (by rw [hz1]; decide) ?_
  rw [hz1]
  have e0 : ((Array.range (1 * 1)).map ((Value.int .i64 0).cells[· % (Value.int .i64 0).cells.size]!)) = (hC [0]).toArray := by kernel_rfl
  rw [e0]
  show Instr.fill _ _ [(0, Value.int .i64 n)] = _
  rw [fill_cons (place := fun i => some (i * 1, 1)) (off := 0) (size := 1) (vs := hC [n]) rfl rfl rfl (by decide), fill_nil]
  rfl
section
variable {dst : Option Tmp} {ty : TypeId} {pos : String} {aft : Array Edge} {gd : Option (Nat × Bool)} {ops : Array Oper} {rest : List Oper} {a : Act} {w : World} {K : Act → World → Prop} {Q : Exit → Act → World → Prop}
set_option maxRecDepth 100000 in
theorem wponeH {x : Operand} {n : Int} (hx : a.eval x = .int .i64 n) (h : ∀ w1 g, Blk w1 g 126 (hC [n]) → w.heap.size ≤ g → Below w.heap.size w w1 → K (a.put dst (.slice (some ⟨g, 0, none⟩) 1 1)) w1) :
    Oper.wp Tryd.prog ⟨dst, .buildSlice 123 1 #[(0, x)], ty, pos, aft, gd⟩ a w K Q := by
  refine wp_runV (.slice (some ⟨w.heap.size, 0, none⟩) 1 1) (w.alloc (.cells (hC [n]).toArray 126)) ?_ (h _ _ (Blk.made _ _ _) (Nat.le_refl _) ((Below.refl _ _).alloc (Nat.le_refl _) _))
  unfold execOp
  simp only [List.map_toArray, List.map_cons, List.map_nil, hx]
  simp only [Sem.run_bind, buildH n, Result.andThen_ok, Sem.run_pure]
theorem wpappH {s x : Operand} {B : Nat} {v : Value} {ns : List Int} {n : Int} {g c : Nat} (hs : a.eval s = v) (hx : a.eval x = .slice (some ⟨g, 0, none⟩) 1 c) (hown : OwnH w B v ns) (hy : Blk w g 126 (hC [n])) (hlen : ns.length ≤ 1048576) (hB : B ≤ w.heap.size)
    (h : ∀ v' w', OwnH w' B v' (ns ++ [n]) → w.grownBy w' v.ownBlock → (∀ k, v'.ownBlock = some k → v.ownBlock = some k ∨ w.heap.size ≤ k) → K (a.put dst v') w') :
    Oper.wp Tryd.prog ⟨dst, .call { callee := .builtin .append, args := #[s, x], argTypes := #[123, 123] }, ty, pos, aft, gd⟩ a w K Q := by
  obtain ⟨i0, hi, hz0, hz1, hz2⟩ := info_some infoH
  obtain ⟨g', cap', w', hr, ho, hgr, hat, hlt⟩ := run_append_lies (P := Tryd.prog) w 123 ty B 126 i0 (.int .i64 0) 1 8 undHl hi hz0 hz1 hz2 rfl (by decide) v _ _ hown ⟨g, 0, none⟩ 1 c (hC [n]) rfl (fun j u hu => by
    rw [Addr.add_lit, Nat.zero_add, hy.cell]
    exact hu) (One.hC [n]) (by decide) (by unfold maxLen; omega) (by omega) hB _ rfl
  unfold Oper.wp
  simp [execOp, resolve, invoke, builtin, hs, hx, hr, Result.andThen]
  refine h _ _ (by unfold OwnH; rw [show hC (ns ++ [n]) = hC ns ++ hC [n] by simp [hC], List.length_append]; exact ho) hgr (fun k hk => ?_)
  injection hk with hk
  subst hk
  rcases hat with hat | hat
  · exact .inl hat
  · exact .inr (Nat.le_of_eq hat.symm)
set_option maxRecDepth 100000 in
theorem steponeH {x : Operand} {n : Int} (hw : Region.wanted ⟨dst, .buildSlice 123 1 #[(0, x)], ty, pos, aft, gd⟩ (yielded ops a.tmps) = true) (hx : a.eval x = .int .i64 n) (h : ∀ w1 g, Blk w1 g 126 (hC [n]) → w.heap.size ≤ g → Below w.heap.size w w1 → wpList Tryd.prog ops Q rest (a.put dst (.slice (some ⟨g, 0, none⟩) 1 1)) w1) :
    wpList Tryd.prog ops Q (⟨dst, .buildSlice 123 1 #[(0, x)], ty, pos, aft, gd⟩ :: rest) a w :=
  BigFrame.wpList_want hw fun K hK => wponeH hx fun w1 g h1 h2 h3 => hK _ _ (h w1 g h1 h2 h3)
set_option maxRecDepth 100000 in
theorem stepappH {s x : Operand} {B : Nat} {v : Value} {ns : List Int} {n : Int} {g c : Nat} (hw : Region.wanted ⟨dst, .call { callee := .builtin .append, args := #[s, x], argTypes := #[123, 123] }, ty, pos, aft, gd⟩ (yielded ops a.tmps) = true)
    (hs : a.eval s = v) (hx : a.eval x = .slice (some ⟨g, 0, none⟩) 1 c) (hown : OwnH w B v ns) (hy : Blk w g 126 (hC [n])) (hlen : ns.length ≤ 1048576) (hB : B ≤ w.heap.size)
    (h : ∀ v' w', OwnH w' B v' (ns ++ [n]) → w.grownBy w' v.ownBlock → (∀ k, v'.ownBlock = some k → v.ownBlock = some k ∨ w.heap.size ≤ k) → wpList Tryd.prog ops Q rest (a.put dst v') w') :
    wpList Tryd.prog ops Q (⟨dst, .call { callee := .builtin .append, args := #[s, x], argTypes := #[123, 123] }, ty, pos, aft, gd⟩ :: rest) a w :=
  BigFrame.wpList_want hw fun K hK => wpappH hs hx hown hy hlen hB fun v' w' h1 h2 h3 => hK _ _ (h v' w' h1 h2 h3)
end
theorem hC_set (ns : List Int) (i : Nat) (n : Int) : (hC ns).set i (.int .i64 n) = hC (ns.set i n) := by simp [hC, List.map_set]
/-- One element is written over. -/
theorem OwnH.set {w : World} {B g cap : Nat} {ns : List Int} {m : Nat} (h : OwnH w B (.slice (some ⟨g, 0, none⟩) m cap) ns) (i : Nat) (n : Int) : OwnH (w.setCell ⟨g, i, none⟩ (.int .i64 n)) B (.slice (some ⟨g, 0, none⟩) m cap) (ns.set i n) := by
  rcases h.lies with ⟨e, _⟩ | ⟨g', c, cs, e, hB, hb, h1, h2, h3, h4⟩
  · cases e
  · injection e with e1 e2 e3
    injection e1 with e1
    injection e1 with e1 _ _
    subst e1 e2 e3
    have := OwnH.mk (ns := ns.set i n) hB (hb.set i (.int .i64 n)) (by simpa using h1) h2 (by simpa using h3) (by rw [List.length_set, List.take_set, h4, hC_set])
    rwa [List.length_set] at this
theorem OwnH.free {w : World} {B g cap : Nat} {ns : List Int} {m : Nat} (h : OwnH w B (.slice (some ⟨g, 0, none⟩) m cap) ns) (i : Nat) : w.frozen? ⟨g, i, none⟩ = false := by
  rcases h.lies with ⟨e, _⟩ | ⟨g', c, cs, e, hB, hb, h1, h2, h3, h4⟩
  · cases e
  · injection e with e1 e2 e3
    injection e1 with e1
    injection e1 with e1 _ _
    subst e1 e2 e3
    exact hb.free i

end Go.Proofs.YtconeobaohmbnaaDoor
