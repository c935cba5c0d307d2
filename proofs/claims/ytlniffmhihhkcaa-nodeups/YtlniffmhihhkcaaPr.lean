/-
  Slices of pairs of numbers (nodes, spans) of the call's own: an element's place, one more appended, an element changed.
-/
import Derived.Test.YtlniffmhihhkcaaNw
import Derived.Test.YtlniffmhihhkcaaBu
import Derived.Great.BuildSlice
import Derived.Laws.Bits64
import Derived.Deep.AppendLies
namespace Go.Proofs.Ytlniffmhihhkcaa
open Go.RowKit
set_option linter.unusedVariables false

/-- The cells of a pair, of pairs. -/
def qC (n : Nat × Nat) : List Value := c2 (n.1 : Int) (n.2 : Int)
def qcs (ns : List (Nat × Nat)) : List Value := ns.flatMap qC
theorem One.qC (n : Nat × Nat) : One (qC n) := One.c2 _ _
theorem qcs_length : ∀ ns : List (Nat × Nat), (qcs ns).length = ns.length * 2
  | [] => rfl
  | n :: ns => by
    have ih := qcs_length ns
    show (qC n ++ qcs ns).length = _
    rw [List.length_append, ih, List.length_cons]
    simp [qC, c2]
    omega
theorem qcs_snoc (ns : List (Nat × Nat)) (n : Nat × Nat) : qcs (ns ++ [n]) = qcs ns ++ qC n := by simp [qcs]
theorem qcs_app (ns ms : List (Nat × Nat)) : qcs (ns ++ ms) = qcs ns ++ qcs ms := by simp [qcs]
theorem qcs_at : ∀ (ns : List (Nat × Nat)) (i : Nat) (n : Nat × Nat), ns[i]? = some n → ((qcs ns).drop (i * 2)).take 2 = qC n
  | [], i, n, h => by simp at h
  | m :: ns, 0, n, h => by simp at h; subst h; rfl
  | m :: ns, i + 1, n, h => by
    have ih := qcs_at ns i n (by simpa using h)
    show ((qC m ++ qcs ns).drop ((i + 1) * 2)).take 2 = _
    rw [show (i + 1) * 2 = 2 + i * 2 by omega, ← List.drop_drop]
    exact ih
theorem qcs_set : ∀ (ns : List (Nat × Nat)) (i : Nat) (n : Nat × Nat), i < ns.length → spl (qcs ns) (qC n) (i * 2) = qcs (ns.set i n)
  | [], i, n, h => by simp at h
  | m :: ns, 0, n, h => by
    show spl (qC m ++ qcs ns) (qC n) 0 = qC n ++ qcs ns
    simp [spl, qC, c2]
  | m :: ns, i + 1, n, h => by
    have ih := qcs_set ns i n (by simpa using h)
    show spl (qC m ++ qcs ns) (qC n) ((i + 1) * 2) = qC m ++ qcs (ns.set i n)
    rw [← ih]
    have e : (i + 1) * 2 = i * 2 + 2 := by omega
    unfold spl
    rw [e]
    have e2 : i * 2 + 2 + (qC n).length = (i * 2 + (qC n).length) + 2 := by omega
    rw [e2]
    simp [qC, c2]
/-- What is known of a slice's type and its element's. -/
theorem info_some {P : Program} {t : TypeId} {z : Option Value} {s b : Nat} (h : (P.info? t).map (fun i => (i.zero, i.size, i.bytes)) = some (z, s, b)) : ∃ i, P.info? t = some i ∧ i.zero = z ∧ i.size = s ∧ i.bytes = b := by
  cases hi : P.info? t with
  | none => simp [hi] at h
  | some i => simp [hi] at h; exact ⟨i, rfl, h.1, h.2.1, h.2.2⟩

theorem infoS : (Try.prog.info? 25).map (fun i => (i.zero, i.size, i.bytes)) = some (some (.agg (qC (0, 0)).toArray), 2, 16) := by kernel_rfl
theorem undSl : Try.prog.underlying 35 = some (.slice 25) := by kernel_rfl
theorem undSs : Try.prog.underlying 35 = some (.slice (Try.prog.elem 35)) := by kernel_rfl
theorem elemS : Try.prog.elem 35 = 25 := by kernel_rfl
theorem sizeS (w : World) : (sizeOf 25).run Try.prog w = .ok 2 w := by kernel_rfl
theorem atS (b n cap i : Nat) (I : Int) (hI : I = (i : Int)) (hi : i < n) (v : World) : (Instr.indexAt 35 (.slice (some ⟨b, 0, none⟩) n cap) (.int .i64 I)).run Try.prog v = .ok (.pointer (some ⟨b, i * 2, none⟩)) v := by
  subst hI
  rw [run_indexAt_slice v _ _ _ _ .i64 i undSs, if_pos ⟨by omega, by omega⟩, elemS, sizeS]
  simp only [Result.andThen_ok, Int.toNat_natCast]
  rw [Addr.add_lit, Nat.zero_add]
/-- In a slice of the call's own. -/
def OwnS (w : World) (B : Nat) (v : Value) (ns : List (Nat × Nat)) : Prop := w.ownsRow B 25 2 v ns.length (qcs ns)
theorem OwnS.nil (w : World) (B : Nat) : OwnS w B (.slice none 0 0) [] := World.ownsRow_nil _ _ _ _
theorem OwnS.below {w w' : World} {B : Nat} {v : Value} {ns : List (Nat × Nat)} (h : OwnS w B v ns) (hb : Below w.heap.size w w') : OwnS w' B v ns := by
  obtain ⟨h1, h2⟩ := h
  refine ⟨h1, ?_⟩
  rcases h2 with h2 | ⟨g, cap, cur, e, hg, hh, r⟩
  · exact .inl h2
  · refine .inr ⟨g, cap, cur, e, hg, ?_, r⟩
    rw [hb.block g (Array.getElem?_eq_some_iff.1 hh).1]
    exact hh
theorem OwnS.but {w w' : World} {B g : Nat} {v : Value} {ns : List (Nat × Nat)} (h : OwnS w B v ns) (hb : But g w w') (hg : v.ownBlock ≠ some g) : OwnS w' B v ns := by
  obtain ⟨h1, h2⟩ := h
  refine ⟨h1, ?_⟩
  rcases h2 with h2 | ⟨k, cap, cur, rfl, hk, hh, r⟩
  · exact .inl h2
  · refine .inr ⟨k, cap, cur, rfl, hk, ?_, r⟩
    rw [hb.block k (fun e => hg (by rw [← e]; rfl))]
    exact hh
theorem OwnS.lower {w : World} {B B' : Nat} {v : Value} {ns : List (Nat × Nat)} (h : OwnS w B v ns) (hB : B' ≤ B) : OwnS w B' v ns := by
  obtain ⟨h1, h2⟩ := h
  refine ⟨h1, ?_⟩
  rcases h2 with h2 | ⟨g, cap, cur, e, hg, r⟩
  · exact .inl h2
  · exact .inr ⟨g, cap, cur, e, Nat.le_trans hB hg, r⟩
theorem OwnS.slice {w : World} {B : Nat} {v : Value} {ns : List (Nat × Nat)} (h : OwnS w B v ns) : ∃ a n c, v = Value.slice a n c := by
  rcases h.2 with ⟨e1, _⟩ | ⟨_, _, _, e1, _⟩ <;> exact ⟨_, _, _, e1⟩
theorem OwnS.lies {w : World} {B : Nat} {v : Value} {ns : List (Nat × Nat)} (h : OwnS w B v ns) : (v = .slice none 0 0 ∧ ns = []) ∨
    ∃ g cap cs, v = .slice (some ⟨g, 0, none⟩) ns.length cap ∧ B ≤ g ∧ Blk w g 25 cs ∧ ns.length ≤ cap ∧ cap ≤ 9223372036854775807 ∧ cs.length = cap * 2 ∧ cs.take (ns.length * 2) = qcs ns := by
  obtain ⟨h1, h2⟩ := h
  rcases h2 with ⟨e, h0⟩ | ⟨g, cap, cur, rfl, hB, hh, h3, h4, h5, h6⟩
  · exact .inl ⟨e, List.eq_nil_of_length_eq_zero h0⟩
  · exact .inr ⟨g, cap, cur.toList, rfl, hB, by unfold Blk; simpa using hh, h3, by simpa [maxLen] using h4, by simpa using h5, h6⟩
theorem OwnS.mk {w : World} {B g cap : Nat} {cs : List Value} {ns : List (Nat × Nat)} (hB : B ≤ g) (hb : Blk w g 25 cs) (hn : ns.length ≤ cap) (hc : cap ≤ 9223372036854775807) (hl : cs.length = cap * 2) (ht : cs.take (ns.length * 2) = qcs ns) : OwnS w B (.slice (some ⟨g, 0, none⟩) ns.length cap) ns := by
  refine ⟨by rw [qcs_length], .inr ⟨g, cap, cs.toArray, rfl, hB, by unfold Blk at hb; simpa using hb, hn, by simpa [maxLen] using hc, by simpa using hl, by simpa using ht⟩⟩
theorem OwnS.lt {w : World} {B : Nat} {v : Value} {ns : List (Nat × Nat)} (h : OwnS w B v ns) : ∀ k, v.ownBlock = some k → B ≤ k ∧ k < w.heap.size := fun k hk => World.ownsRow.lt h k hk
theorem OwnS.len {w : World} {B : Nat} {v : Value} {ns : List (Nat × Nat)} (h : OwnS w B v ns) : ∃ a c, v = .slice a ns.length c ∧ ∀ x, a = some x → x.block = x.block ∧ x.off = 0 := by
  rcases h.lies with ⟨rfl, rfl⟩ | ⟨g, cap, cs, rfl, _⟩
  · exact ⟨_, _, rfl, fun x hx => by cases hx⟩
  · exact ⟨_, _, rfl, fun x hx => by cases hx; exact ⟨rfl, rfl⟩⟩
theorem OwnS.range {w : World} {B g cap : Nat} {ns : List (Nat × Nat)} {m : Nat} (h : OwnS w B (.slice (some ⟨g, 0, none⟩) m cap) ns) (i : Nat) (n : Nat × Nat) (hi : ns[i]? = some n) : w.rangeAt g (i * 2) (qC n) := by
  rcases h.lies with ⟨e, _⟩ | ⟨g', c, cs, e, _, hb, _, _, _, ht⟩
  · cases e
  · injection e with e1 _ _
    injection e1 with e1
    injection e1 with e1 _ _
    subst e1
    refine hb.range (i * 2) (qC n) ?_
    have hlt : i < ns.length := (List.getElem?_eq_some_iff.1 hi).1
    have := qcs_at ns i n hi
    rw [← ht, List.drop_take, List.take_take] at this
    rw [show (qC n).length = 2 from rfl, ← this]
    congr 1
    omega
theorem OwnS.cells {w : World} {B g cap : Nat} {ns : List (Nat × Nat)} {m : Nat} (h : OwnS w B (.slice (some ⟨g, 0, none⟩) m cap) ns) (i : Nat) (n : Nat × Nat) (hi : ns[i]? = some n) : w.cell? ⟨g, i * 2, none⟩ = some (.int .i64 (n.1 : Int)) ∧ w.cell? ⟨g, i * 2 + 1, none⟩ = some (.int .i64 (n.2 : Int)) :=
  ⟨h.range i n hi 0 _ rfl, h.range i n hi 1 _ rfl⟩
theorem buildS (n : Nat × Nat) (w : World) : (Instr.buildSlice 35 1 #[(0, .agg (qC n).toArray)]).run Try.prog w = .ok (.slice (some ⟨w.heap.size, 0, none⟩) 1 1) (w.alloc (.cells (qC n).toArray 25)) := by
  obtain ⟨i0, hi, hz0, hz1, hz2⟩ := info_some infoS
  refine run_buildSlice w 35 25 1 _ _ i0 _ undSl hi hz0 (by rw [hz1]; decide) (by rw [hz1]; decide) ?_
  rw [hz1]
  have e0 : ((Array.range (1 * 2)).map ((Value.agg (qC (0, 0)).toArray).cells[· % (Value.agg (qC (0, 0)).toArray).cells.size]!)) = (qC (0, 0)).toArray := by kernel_rfl
  rw [e0]
  show Instr.fill _ _ [(0, Value.agg (qC n).toArray)] = _
  rw [fill_cons (place := fun i => some (i * 2, 2)) (off := 0) (size := 2) (vs := qC n) rfl rfl rfl (by decide), fill_nil]
  rfl
section
variable {dst : Option Tmp} {ty : TypeId} {pos : String} {aft : Array Edge} {gd : Option (Nat × Bool)} {ops : Array Oper} {rest : List Oper} {a : Act} {w : World} {K : Act → World → Prop} {Q : Exit → Act → World → Prop}
set_option maxRecDepth 100000 in
theorem wponeS {x : Operand} {n : Nat × Nat} (hx : a.eval x = .agg (qC n).toArray) (h : ∀ w1 g, Blk w1 g 25 (qC n) → w.heap.size ≤ g → Below w.heap.size w w1 → K (a.put dst (.slice (some ⟨g, 0, none⟩) 1 1)) w1) :
    Oper.wp Try.prog ⟨dst, .buildSlice 35 1 #[(0, x)], ty, pos, aft, gd⟩ a w K Q := by
  refine wp_runV (.slice (some ⟨w.heap.size, 0, none⟩) 1 1) (w.alloc (.cells (qC n).toArray 25)) ?_ (h _ _ (Blk.made _ _ _) (Nat.le_refl _) ((Below.refl _ _).alloc (Nat.le_refl _) _))
  unfold execOp
  simp only [List.map_toArray, List.map_cons, List.map_nil, hx]
  simp only [Sem.run_bind, buildS n, Result.andThen_ok, Sem.run_pure]
theorem wpappS {s x : Operand} {B : Nat} {v : Value} {ns : List (Nat × Nat)} {n : Nat × Nat} {g c : Nat} (hs : a.eval s = v) (hx : a.eval x = .slice (some ⟨g, 0, none⟩) 1 c) (hown : OwnS w B v ns) (hy : Blk w g 25 (qC n)) (hlen : ns.length ≤ 1048576) (hB : B ≤ w.heap.size)
    (h : ∀ v' w', OwnS w' B v' (ns ++ [n]) → w.grownBy w' v.ownBlock → (∀ k, v'.ownBlock = some k → v.ownBlock = some k ∨ w.heap.size ≤ k) → K (a.put dst v') w') :
    Oper.wp Try.prog ⟨dst, .call { callee := .builtin .append, args := #[s, x], argTypes := #[35, 35] }, ty, pos, aft, gd⟩ a w K Q := by
  obtain ⟨i0, hi, hz0, hz1, hz2⟩ := info_some infoS
  obtain ⟨g', cap', w', hr, ho, hgr, hat, hlt⟩ := run_append_lies (P := Try.prog) w 35 ty B 25 i0 (.agg (qC (0, 0)).toArray) 2 16 undSl hi hz0 hz1 hz2 rfl (by decide) v _ _ hown ⟨g, 0, none⟩ 1 c (qC n) rfl (fun j u hu => by
    rw [Addr.add_lit, Nat.zero_add, hy.cell]
    exact hu) (One.qC n) (by decide) (by unfold maxLen; omega) (by omega) hB _ rfl
  unfold Oper.wp
  simp [execOp, resolve, invoke, builtin, hs, hx, hr, Result.andThen]
  refine h _ _ (by unfold OwnS; rw [qcs_snoc, List.length_append]; exact ho) hgr (fun k hk => ?_)
  injection hk with hk
  subst hk
  rcases hat with hat | hat
  · exact .inl hat
  · exact .inr (Nat.le_of_eq hat.symm)
set_option maxRecDepth 100000 in
theorem steponeS {x : Operand} {n : Nat × Nat} (hw : Region.wanted ⟨dst, .buildSlice 35 1 #[(0, x)], ty, pos, aft, gd⟩ (yielded ops a.tmps) = true) (hx : a.eval x = .agg (qC n).toArray) (h : ∀ w1 g, Blk w1 g 25 (qC n) → w.heap.size ≤ g → Below w.heap.size w w1 → wpList Try.prog ops Q rest (a.put dst (.slice (some ⟨g, 0, none⟩) 1 1)) w1) :
    wpList Try.prog ops Q (⟨dst, .buildSlice 35 1 #[(0, x)], ty, pos, aft, gd⟩ :: rest) a w :=
  BigFrame.wpList_want hw fun K hK => wponeS hx fun w1 g h1 h2 h3 => hK _ _ (h w1 g h1 h2 h3)
set_option maxRecDepth 100000 in
theorem stepappS {s x : Operand} {B : Nat} {v : Value} {ns : List (Nat × Nat)} {n : Nat × Nat} {g c : Nat} (hw : Region.wanted ⟨dst, .call { callee := .builtin .append, args := #[s, x], argTypes := #[35, 35] }, ty, pos, aft, gd⟩ (yielded ops a.tmps) = true)
    (hs : a.eval s = v) (hx : a.eval x = .slice (some ⟨g, 0, none⟩) 1 c) (hown : OwnS w B v ns) (hy : Blk w g 25 (qC n)) (hlen : ns.length ≤ 1048576) (hB : B ≤ w.heap.size)
    (h : ∀ v' w', OwnS w' B v' (ns ++ [n]) → w.grownBy w' v.ownBlock → (∀ k, v'.ownBlock = some k → v.ownBlock = some k ∨ w.heap.size ≤ k) → wpList Try.prog ops Q rest (a.put dst v') w') :
    wpList Try.prog ops Q (⟨dst, .call { callee := .builtin .append, args := #[s, x], argTypes := #[35, 35] }, ty, pos, aft, gd⟩ :: rest) a w :=
  BigFrame.wpList_want hw fun K hK => wpappS hs hx hown hy hlen hB fun v' w' h1 h2 h3 => hK _ _ (h v' w' h1 h2 h3)
end
/-- One element is written over. -/
theorem OwnS.set {w w' : World} {B g cap : Nat} {ns : List (Nat × Nat)} {m : Nat} (h : OwnS w B (.slice (some ⟨g, 0, none⟩) m cap) ns) (i : Nat) (n : Nat × Nat) (hi : i < ns.length) (hw : ∀ cs, Blk w g 25 cs → (i * 2 + 2 ≤ cs.length) → Blk w' g 25 (spl cs (qC n) (i * 2))) : OwnS w' B (.slice (some ⟨g, 0, none⟩) m cap) (ns.set i n) := by
  rcases h.lies with ⟨e, _⟩ | ⟨g', c, cs, e, hB, hb, h1, h2, h3, h4⟩
  · cases e
  · injection e with e1 e2 e3
    injection e1 with e1
    injection e1 with e1 _ _
    subst e1 e2 e3
    have hb2 := hw cs hb (by omega)
    have := OwnS.mk (ns := ns.set i n) hB hb2 (by simpa using h1) h2 (by
      unfold spl
      simp [qC, c2]
      omega) (by
      rw [← qcs_set ns i n hi, ← h4, List.length_set]
      unfold spl
      rw [List.take_append, List.take_append, List.drop_take, List.take_take]
      have e1 : ((cs.take (i * 2) ++ qC n)).length = i * 2 + 2 := by simp [qC, c2]; omega
      have e2 : (cs.take (i * 2)).length = i * 2 := by simp; omega
      have e3 : (qC n).length = 2 := rfl
      rw [e1, e2, e3, List.take_take, Nat.min_eq_right (show i * 2 ≤ ns.length * 2 by omega), Nat.min_eq_left (show i * 2 ≤ ns.length * 2 by omega), List.take_of_length_le (l := qC n) (by omega)])
    rwa [List.length_set] at this
theorem infoM : (Try.prog.info? 23).map (fun i => (i.zero, i.size, i.bytes)) = some (some (.agg (qC (0, 0)).toArray), 2, 16) := by kernel_rfl
theorem undMl : Try.prog.underlying 42 = some (.slice 23) := by kernel_rfl
theorem undMs : Try.prog.underlying 42 = some (.slice (Try.prog.elem 42)) := by kernel_rfl
theorem elemM : Try.prog.elem 42 = 23 := by kernel_rfl
theorem sizeM (w : World) : (sizeOf 23).run Try.prog w = .ok 2 w := by kernel_rfl
theorem atM (b n cap i : Nat) (I : Int) (hI : I = (i : Int)) (hi : i < n) (v : World) : (Instr.indexAt 42 (.slice (some ⟨b, 0, none⟩) n cap) (.int .i64 I)).run Try.prog v = .ok (.pointer (some ⟨b, i * 2, none⟩)) v := by
  subst hI
  rw [run_indexAt_slice v _ _ _ _ .i64 i undMs, if_pos ⟨by omega, by omega⟩, elemM, sizeM]
  simp only [Result.andThen_ok, Int.toNat_natCast]
  rw [Addr.add_lit, Nat.zero_add]
/-- In a slice of the call's own. -/
def OwnM (w : World) (B : Nat) (v : Value) (ns : List (Nat × Nat)) : Prop := w.ownsRow B 23 2 v ns.length (qcs ns)
theorem OwnM.nil (w : World) (B : Nat) : OwnM w B (.slice none 0 0) [] := World.ownsRow_nil _ _ _ _
theorem OwnM.below {w w' : World} {B : Nat} {v : Value} {ns : List (Nat × Nat)} (h : OwnM w B v ns) (hb : Below w.heap.size w w') : OwnM w' B v ns := by
  obtain ⟨h1, h2⟩ := h
  refine ⟨h1, ?_⟩
  rcases h2 with h2 | ⟨g, cap, cur, e, hg, hh, r⟩
  · exact .inl h2
  · refine .inr ⟨g, cap, cur, e, hg, ?_, r⟩
    rw [hb.block g (Array.getElem?_eq_some_iff.1 hh).1]
    exact hh
theorem OwnM.but {w w' : World} {B g : Nat} {v : Value} {ns : List (Nat × Nat)} (h : OwnM w B v ns) (hb : But g w w') (hg : v.ownBlock ≠ some g) : OwnM w' B v ns := by
  obtain ⟨h1, h2⟩ := h
  refine ⟨h1, ?_⟩
  rcases h2 with h2 | ⟨k, cap, cur, rfl, hk, hh, r⟩
  · exact .inl h2
  · refine .inr ⟨k, cap, cur, rfl, hk, ?_, r⟩
    rw [hb.block k (fun e => hg (by rw [← e]; rfl))]
    exact hh
theorem OwnM.lower {w : World} {B B' : Nat} {v : Value} {ns : List (Nat × Nat)} (h : OwnM w B v ns) (hB : B' ≤ B) : OwnM w B' v ns := by
  obtain ⟨h1, h2⟩ := h
  refine ⟨h1, ?_⟩
  rcases h2 with h2 | ⟨g, cap, cur, e, hg, r⟩
  · exact .inl h2
  · exact .inr ⟨g, cap, cur, e, Nat.le_trans hB hg, r⟩
theorem OwnM.slice {w : World} {B : Nat} {v : Value} {ns : List (Nat × Nat)} (h : OwnM w B v ns) : ∃ a n c, v = Value.slice a n c := by
  rcases h.2 with ⟨e1, _⟩ | ⟨_, _, _, e1, _⟩ <;> exact ⟨_, _, _, e1⟩
theorem OwnM.lies {w : World} {B : Nat} {v : Value} {ns : List (Nat × Nat)} (h : OwnM w B v ns) : (v = .slice none 0 0 ∧ ns = []) ∨
    ∃ g cap cs, v = .slice (some ⟨g, 0, none⟩) ns.length cap ∧ B ≤ g ∧ Blk w g 23 cs ∧ ns.length ≤ cap ∧ cap ≤ 9223372036854775807 ∧ cs.length = cap * 2 ∧ cs.take (ns.length * 2) = qcs ns := by
  obtain ⟨h1, h2⟩ := h
  rcases h2 with ⟨e, h0⟩ | ⟨g, cap, cur, rfl, hB, hh, h3, h4, h5, h6⟩
  · exact .inl ⟨e, List.eq_nil_of_length_eq_zero h0⟩
  · exact .inr ⟨g, cap, cur.toList, rfl, hB, by unfold Blk; simpa using hh, h3, by simpa [maxLen] using h4, by simpa using h5, h6⟩
theorem OwnM.mk {w : World} {B g cap : Nat} {cs : List Value} {ns : List (Nat × Nat)} (hB : B ≤ g) (hb : Blk w g 23 cs) (hn : ns.length ≤ cap) (hc : cap ≤ 9223372036854775807) (hl : cs.length = cap * 2) (ht : cs.take (ns.length * 2) = qcs ns) : OwnM w B (.slice (some ⟨g, 0, none⟩) ns.length cap) ns := by
  refine ⟨by rw [qcs_length], .inr ⟨g, cap, cs.toArray, rfl, hB, by unfold Blk at hb; simpa using hb, hn, by simpa [maxLen] using hc, by simpa using hl, by simpa using ht⟩⟩
theorem OwnM.lt {w : World} {B : Nat} {v : Value} {ns : List (Nat × Nat)} (h : OwnM w B v ns) : ∀ k, v.ownBlock = some k → B ≤ k ∧ k < w.heap.size := fun k hk => World.ownsRow.lt h k hk
theorem OwnM.len {w : World} {B : Nat} {v : Value} {ns : List (Nat × Nat)} (h : OwnM w B v ns) : ∃ a c, v = .slice a ns.length c ∧ ∀ x, a = some x → x.block = x.block ∧ x.off = 0 := by
  rcases h.lies with ⟨rfl, rfl⟩ | ⟨g, cap, cs, rfl, _⟩
  · exact ⟨_, _, rfl, fun x hx => by cases hx⟩
  · exact ⟨_, _, rfl, fun x hx => by cases hx; exact ⟨rfl, rfl⟩⟩
theorem OwnM.range {w : World} {B g cap : Nat} {ns : List (Nat × Nat)} {m : Nat} (h : OwnM w B (.slice (some ⟨g, 0, none⟩) m cap) ns) (i : Nat) (n : Nat × Nat) (hi : ns[i]? = some n) : w.rangeAt g (i * 2) (qC n) := by
  rcases h.lies with ⟨e, _⟩ | ⟨g', c, cs, e, _, hb, _, _, _, ht⟩
  · cases e
  · injection e with e1 _ _
    injection e1 with e1
    injection e1 with e1 _ _
    subst e1
    refine hb.range (i * 2) (qC n) ?_
    have hlt : i < ns.length := (List.getElem?_eq_some_iff.1 hi).1
    have := qcs_at ns i n hi
    rw [← ht, List.drop_take, List.take_take] at this
    rw [show (qC n).length = 2 from rfl, ← this]
    congr 1
    omega
theorem OwnM.cells {w : World} {B g cap : Nat} {ns : List (Nat × Nat)} {m : Nat} (h : OwnM w B (.slice (some ⟨g, 0, none⟩) m cap) ns) (i : Nat) (n : Nat × Nat) (hi : ns[i]? = some n) : w.cell? ⟨g, i * 2, none⟩ = some (.int .i64 (n.1 : Int)) ∧ w.cell? ⟨g, i * 2 + 1, none⟩ = some (.int .i64 (n.2 : Int)) :=
  ⟨h.range i n hi 0 _ rfl, h.range i n hi 1 _ rfl⟩
theorem buildM (n : Nat × Nat) (w : World) : (Instr.buildSlice 42 1 #[(0, .agg (qC n).toArray)]).run Try.prog w = .ok (.slice (some ⟨w.heap.size, 0, none⟩) 1 1) (w.alloc (.cells (qC n).toArray 23)) := by
  obtain ⟨i0, hi, hz0, hz1, hz2⟩ := info_some infoM
  refine run_buildSlice w 42 23 1 _ _ i0 _ undMl hi hz0 (by rw [hz1]; decide) (by rw [hz1]; decide) ?_
  rw [hz1]
  have e0 : ((Array.range (1 * 2)).map ((Value.agg (qC (0, 0)).toArray).cells[· % (Value.agg (qC (0, 0)).toArray).cells.size]!)) = (qC (0, 0)).toArray := by kernel_rfl
  rw [e0]
  show Instr.fill _ _ [(0, Value.agg (qC n).toArray)] = _
  rw [fill_cons (place := fun i => some (i * 2, 2)) (off := 0) (size := 2) (vs := qC n) rfl rfl rfl (by decide), fill_nil]
  rfl
section
variable {dst : Option Tmp} {ty : TypeId} {pos : String} {aft : Array Edge} {gd : Option (Nat × Bool)} {ops : Array Oper} {rest : List Oper} {a : Act} {w : World} {K : Act → World → Prop} {Q : Exit → Act → World → Prop}
set_option maxRecDepth 100000 in
theorem wponeM {x : Operand} {n : Nat × Nat} (hx : a.eval x = .agg (qC n).toArray) (h : ∀ w1 g, Blk w1 g 23 (qC n) → w.heap.size ≤ g → Below w.heap.size w w1 → K (a.put dst (.slice (some ⟨g, 0, none⟩) 1 1)) w1) :
    Oper.wp Try.prog ⟨dst, .buildSlice 42 1 #[(0, x)], ty, pos, aft, gd⟩ a w K Q := by
  refine wp_runV (.slice (some ⟨w.heap.size, 0, none⟩) 1 1) (w.alloc (.cells (qC n).toArray 23)) ?_ (h _ _ (Blk.made _ _ _) (Nat.le_refl _) ((Below.refl _ _).alloc (Nat.le_refl _) _))
  unfold execOp
  simp only [List.map_toArray, List.map_cons, List.map_nil, hx]
  simp only [Sem.run_bind, buildM n, Result.andThen_ok, Sem.run_pure]
theorem wpappM {s x : Operand} {B : Nat} {v : Value} {ns : List (Nat × Nat)} {n : Nat × Nat} {g c : Nat} (hs : a.eval s = v) (hx : a.eval x = .slice (some ⟨g, 0, none⟩) 1 c) (hown : OwnM w B v ns) (hy : Blk w g 23 (qC n)) (hlen : ns.length ≤ 1048576) (hB : B ≤ w.heap.size)
    (h : ∀ v' w', OwnM w' B v' (ns ++ [n]) → w.grownBy w' v.ownBlock → (∀ k, v'.ownBlock = some k → v.ownBlock = some k ∨ w.heap.size ≤ k) → K (a.put dst v') w') :
    Oper.wp Try.prog ⟨dst, .call { callee := .builtin .append, args := #[s, x], argTypes := #[42, 42] }, ty, pos, aft, gd⟩ a w K Q := by
  obtain ⟨i0, hi, hz0, hz1, hz2⟩ := info_some infoM
  obtain ⟨g', cap', w', hr, ho, hgr, hat, hlt⟩ := run_append_lies (P := Try.prog) w 42 ty B 23 i0 (.agg (qC (0, 0)).toArray) 2 16 undMl hi hz0 hz1 hz2 rfl (by decide) v _ _ hown ⟨g, 0, none⟩ 1 c (qC n) rfl (fun j u hu => by
    rw [Addr.add_lit, Nat.zero_add, hy.cell]
    exact hu) (One.qC n) (by decide) (by unfold maxLen; omega) (by omega) hB _ rfl
  unfold Oper.wp
  simp [execOp, resolve, invoke, builtin, hs, hx, hr, Result.andThen]
  refine h _ _ (by unfold OwnM; rw [qcs_snoc, List.length_append]; exact ho) hgr (fun k hk => ?_)
  injection hk with hk
  subst hk
  rcases hat with hat | hat
  · exact .inl hat
  · exact .inr (Nat.le_of_eq hat.symm)
set_option maxRecDepth 100000 in
theorem steponeM {x : Operand} {n : Nat × Nat} (hw : Region.wanted ⟨dst, .buildSlice 42 1 #[(0, x)], ty, pos, aft, gd⟩ (yielded ops a.tmps) = true) (hx : a.eval x = .agg (qC n).toArray) (h : ∀ w1 g, Blk w1 g 23 (qC n) → w.heap.size ≤ g → Below w.heap.size w w1 → wpList Try.prog ops Q rest (a.put dst (.slice (some ⟨g, 0, none⟩) 1 1)) w1) :
    wpList Try.prog ops Q (⟨dst, .buildSlice 42 1 #[(0, x)], ty, pos, aft, gd⟩ :: rest) a w :=
  BigFrame.wpList_want hw fun K hK => wponeM hx fun w1 g h1 h2 h3 => hK _ _ (h w1 g h1 h2 h3)
set_option maxRecDepth 100000 in
theorem stepappM {s x : Operand} {B : Nat} {v : Value} {ns : List (Nat × Nat)} {n : Nat × Nat} {g c : Nat} (hw : Region.wanted ⟨dst, .call { callee := .builtin .append, args := #[s, x], argTypes := #[42, 42] }, ty, pos, aft, gd⟩ (yielded ops a.tmps) = true)
    (hs : a.eval s = v) (hx : a.eval x = .slice (some ⟨g, 0, none⟩) 1 c) (hown : OwnM w B v ns) (hy : Blk w g 23 (qC n)) (hlen : ns.length ≤ 1048576) (hB : B ≤ w.heap.size)
    (h : ∀ v' w', OwnM w' B v' (ns ++ [n]) → w.grownBy w' v.ownBlock → (∀ k, v'.ownBlock = some k → v.ownBlock = some k ∨ w.heap.size ≤ k) → wpList Try.prog ops Q rest (a.put dst v') w') :
    wpList Try.prog ops Q (⟨dst, .call { callee := .builtin .append, args := #[s, x], argTypes := #[42, 42] }, ty, pos, aft, gd⟩ :: rest) a w :=
  BigFrame.wpList_want hw fun K hK => wpappM hs hx hown hy hlen hB fun v' w' h1 h2 h3 => hK _ _ (h v' w' h1 h2 h3)
end
/-- One element is written over. -/
theorem OwnM.set {w w' : World} {B g cap : Nat} {ns : List (Nat × Nat)} {m : Nat} (h : OwnM w B (.slice (some ⟨g, 0, none⟩) m cap) ns) (i : Nat) (n : Nat × Nat) (hi : i < ns.length) (hw : ∀ cs, Blk w g 23 cs → (i * 2 + 2 ≤ cs.length) → Blk w' g 23 (spl cs (qC n) (i * 2))) : OwnM w' B (.slice (some ⟨g, 0, none⟩) m cap) (ns.set i n) := by
  rcases h.lies with ⟨e, _⟩ | ⟨g', c, cs, e, hB, hb, h1, h2, h3, h4⟩
  · cases e
  · injection e with e1 e2 e3
    injection e1 with e1
    injection e1 with e1 _ _
    subst e1 e2 e3
    have hb2 := hw cs hb (by omega)
    have := OwnM.mk (ns := ns.set i n) hB hb2 (by simpa using h1) h2 (by
      unfold spl
      simp [qC, c2]
      omega) (by
      rw [← qcs_set ns i n hi, ← h4, List.length_set]
      unfold spl
      rw [List.take_append, List.take_append, List.drop_take, List.take_take]
      have e1 : ((cs.take (i * 2) ++ qC n)).length = i * 2 + 2 := by simp [qC, c2]; omega
      have e2 : (cs.take (i * 2)).length = i * 2 := by simp; omega
      have e3 : (qC n).length = 2 := rfl
      rw [e1, e2, e3, List.take_take, Nat.min_eq_right (show i * 2 ≤ ns.length * 2 by omega), Nat.min_eq_left (show i * 2 ≤ ns.length * 2 by omega), List.take_of_length_le (l := qC n) (by omega)])
    rwa [List.length_set] at this

end Go.Proofs.Ytlniffmhihhkcaa
