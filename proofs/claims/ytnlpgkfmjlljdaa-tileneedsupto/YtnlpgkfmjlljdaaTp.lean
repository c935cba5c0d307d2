/-
  Slices of tiles of the call's own (as in Pr, four numbers each): an element's place, one more appended, an element changed.
-/
import Derived.Test.YtnlpgkfmjlljdaaTc
import Derived.Test.YtnlpgkfmjlljdaaBu
import Derived.Great.BuildSlice
import Derived.Laws.Bits64
import Derived.Deep.AppendLies
namespace Go.Proofs.Ytnlpgkfmjlljdaa
open Go.RowKit
set_option linter.unusedVariables false

/-- A tile: its height, level, index, width; its cells. -/
abbrev Tl := Int × Int × Int × Int
def tC (n : Tl) : List Value := c4 n.1 n.2.1 n.2.2.1 n.2.2.2
def tcs (ns : List Tl) : List Value := ns.flatMap tC
theorem One.tC (n : Tl) : One (tC n) := One.c4 _ _ _ _
theorem tcs_length : ∀ ns : List Tl, (tcs ns).length = ns.length * 4
  | [] => rfl
  | n :: ns => by
    have ih := tcs_length ns
    show (tC n ++ tcs ns).length = _
    rw [List.length_append, ih, List.length_cons]
    simp [tC, c4]
    omega
theorem tcs_snoc (ns : List Tl) (n : Tl) : tcs (ns ++ [n]) = tcs ns ++ tC n := by simp [tcs]
theorem tcs_app (ns ms : List Tl) : tcs (ns ++ ms) = tcs ns ++ tcs ms := by simp [tcs]
theorem tcs_at : ∀ (ns : List Tl) (i : Nat) (n : Tl), ns[i]? = some n → ((tcs ns).drop (i * 4)).take 4 = tC n
  | [], i, n, h => by simp at h
  | m :: ns, 0, n, h => by simp at h; subst h; rfl
  | m :: ns, i + 1, n, h => by
    have ih := tcs_at ns i n (by simpa using h)
    show ((tC m ++ tcs ns).drop ((i + 1) * 4)).take 4 = _
    rw [show (i + 1) * 4 = 4 + i * 4 by omega, ← List.drop_drop]
    exact ih
theorem tcs_set : ∀ (ns : List Tl) (i : Nat) (n : Tl), i < ns.length → spl (tcs ns) (tC n) (i * 4) = tcs (ns.set i n)
  | [], i, n, h => by simp at h
  | m :: ns, 0, n, h => by
    show spl (tC m ++ tcs ns) (tC n) 0 = tC n ++ tcs ns
    simp [spl, tC, c4]
  | m :: ns, i + 1, n, h => by
    have ih := tcs_set ns i n (by simpa using h)
    show spl (tC m ++ tcs ns) (tC n) ((i + 1) * 4) = tC m ++ tcs (ns.set i n)
    rw [← ih]
    have e : (i + 1) * 4 = i * 4 + 4 := by omega
    unfold spl
    rw [e]
    have e2 : i * 4 + 4 + (tC n).length = (i * 4 + (tC n).length) + 4 := by omega
    rw [e2]
    simp [tC, c4]
/-- What is known of a slice's type and its element's. -/
theorem info_some {P : Program} {t : TypeId} {z : Option Value} {s b : Nat} (h : (P.info? t).map (fun i => (i.zero, i.size, i.bytes)) = some (z, s, b)) : ∃ i, P.info? t = some i ∧ i.zero = z ∧ i.size = s ∧ i.bytes = b := by
  cases hi : P.info? t with
  | none => simp [hi] at h
  | some i => simp [hi] at h; exact ⟨i, rfl, h.1, h.2.1, h.2.2⟩

theorem infoT : (Try.prog.info? 25).map (fun i => (i.zero, i.size, i.bytes)) = some (some (.agg (tC (0, 0, 0, 0)).toArray), 4, 32) := by kernel_rfl
theorem undTl : Try.prog.underlying 40 = some (.slice 25) := by kernel_rfl
theorem undTs : Try.prog.underlying 40 = some (.slice (Try.prog.elem 40)) := by kernel_rfl
theorem elemT : Try.prog.elem 40 = 25 := by kernel_rfl
theorem sizeT (w : World) : (sizeOf 25).run Try.prog w = .ok 4 w := by kernel_rfl
theorem atT (b n cap i : Nat) (I : Int) (hI : I = (i : Int)) (hi : i < n) (v : World) : (Instr.indexAt 40 (.slice (some ⟨b, 0, none⟩) n cap) (.int .i64 I)).run Try.prog v = .ok (.pointer (some ⟨b, i * 4, none⟩)) v := by
  subst hI
  rw [run_indexAt_slice v _ _ _ _ .i64 i undTs, if_pos ⟨by omega, by omega⟩, elemT, sizeT]
  simp only [Result.andThen_ok, Int.toNat_natCast]
  rw [Addr.add_lit, Nat.zero_add]
/-- In a slice of the call's own. -/
def OwnT (w : World) (B : Nat) (v : Value) (ns : List Tl) : Prop := w.ownsRow B 25 4 v ns.length (tcs ns)
theorem OwnT.nil (w : World) (B : Nat) : OwnT w B (.slice none 0 0) [] := World.ownsRow_nil _ _ _ _
theorem OwnT.below {w w' : World} {B : Nat} {v : Value} {ns : List Tl} (h : OwnT w B v ns) (hb : Below w.heap.size w w') : OwnT w' B v ns := by
  obtain ⟨h1, h2⟩ := h
  refine ⟨h1, ?_⟩
  rcases h2 with h2 | ⟨g, cap, cur, e, hg, hh, r⟩
  · exact .inl h2
  · refine .inr ⟨g, cap, cur, e, hg, ?_, r⟩
    rw [hb.block g (Array.getElem?_eq_some_iff.1 hh).1]
    exact hh
theorem OwnT.but {w w' : World} {B g : Nat} {v : Value} {ns : List Tl} (h : OwnT w B v ns) (hb : But g w w') (hg : v.ownBlock ≠ some g) : OwnT w' B v ns := by
  obtain ⟨h1, h2⟩ := h
  refine ⟨h1, ?_⟩
  rcases h2 with h2 | ⟨k, cap, cur, rfl, hk, hh, r⟩
  · exact .inl h2
  · refine .inr ⟨k, cap, cur, rfl, hk, ?_, r⟩
    rw [hb.block k (fun e => hg (by rw [← e]; rfl))]
    exact hh
theorem OwnT.lower {w : World} {B B' : Nat} {v : Value} {ns : List Tl} (h : OwnT w B v ns) (hB : B' ≤ B) : OwnT w B' v ns := by
  obtain ⟨h1, h2⟩ := h
  refine ⟨h1, ?_⟩
  rcases h2 with h2 | ⟨g, cap, cur, e, hg, r⟩
  · exact .inl h2
  · exact .inr ⟨g, cap, cur, e, Nat.le_trans hB hg, r⟩
theorem OwnT.slice {w : World} {B : Nat} {v : Value} {ns : List Tl} (h : OwnT w B v ns) : ∃ a n c, v = Value.slice a n c := by
  rcases h.2 with ⟨e1, _⟩ | ⟨_, _, _, e1, _⟩ <;> exact ⟨_, _, _, e1⟩
theorem OwnT.lies {w : World} {B : Nat} {v : Value} {ns : List Tl} (h : OwnT w B v ns) : (v = .slice none 0 0 ∧ ns = []) ∨
    ∃ g cap cs, v = .slice (some ⟨g, 0, none⟩) ns.length cap ∧ B ≤ g ∧ Blk w g 25 cs ∧ ns.length ≤ cap ∧ cap ≤ 9223372036854775807 ∧ cs.length = cap * 4 ∧ cs.take (ns.length * 4) = tcs ns := by
  obtain ⟨h1, h2⟩ := h
  rcases h2 with ⟨e, h0⟩ | ⟨g, cap, cur, rfl, hB, hh, h3, h4, h5, h6⟩
  · exact .inl ⟨e, List.eq_nil_of_length_eq_zero h0⟩
  · exact .inr ⟨g, cap, cur.toList, rfl, hB, by unfold Blk; simpa using hh, h3, by simpa [maxLen] using h4, by simpa using h5, h6⟩
theorem OwnT.mk {w : World} {B g cap : Nat} {cs : List Value} {ns : List Tl} (hB : B ≤ g) (hb : Blk w g 25 cs) (hn : ns.length ≤ cap) (hc : cap ≤ 9223372036854775807) (hl : cs.length = cap * 4) (ht : cs.take (ns.length * 4) = tcs ns) : OwnT w B (.slice (some ⟨g, 0, none⟩) ns.length cap) ns := by
  refine ⟨by rw [tcs_length], .inr ⟨g, cap, cs.toArray, rfl, hB, by unfold Blk at hb; simpa using hb, hn, by simpa [maxLen] using hc, by simpa using hl, by simpa using ht⟩⟩
theorem OwnT.lt {w : World} {B : Nat} {v : Value} {ns : List Tl} (h : OwnT w B v ns) : ∀ k, v.ownBlock = some k → B ≤ k ∧ k < w.heap.size := fun k hk => World.ownsRow.lt h k hk
theorem OwnT.len {w : World} {B : Nat} {v : Value} {ns : List Tl} (h : OwnT w B v ns) : ∃ a c, v = .slice a ns.length c ∧ ∀ x, a = some x → x.block = x.block ∧ x.off = 0 := by
  rcases h.lies with ⟨rfl, rfl⟩ | ⟨g, cap, cs, rfl, _⟩
  · exact ⟨_, _, rfl, fun x hx => by cases hx⟩
  · exact ⟨_, _, rfl, fun x hx => by cases hx; exact ⟨rfl, rfl⟩⟩
theorem OwnT.range {w : World} {B g cap : Nat} {ns : List Tl} {m : Nat} (h : OwnT w B (.slice (some ⟨g, 0, none⟩) m cap) ns) (i : Nat) (n : Tl) (hi : ns[i]? = some n) : w.rangeAt g (i * 4) (tC n) := by
  rcases h.lies with ⟨e, _⟩ | ⟨g', c, cs, e, _, hb, _, _, _, ht⟩
  · cases e
  · injection e with e1 _ _
    injection e1 with e1
    injection e1 with e1 _ _
    subst e1
    refine hb.range (i * 4) (tC n) ?_
    have hlt : i < ns.length := (List.getElem?_eq_some_iff.1 hi).1
    have := tcs_at ns i n hi
    rw [← ht, List.drop_take, List.take_take] at this
    rw [show (tC n).length = 4 from rfl, ← this]
    congr 1
    omega
theorem OwnT.cells {w : World} {B g cap : Nat} {ns : List Tl} {m : Nat} (h : OwnT w B (.slice (some ⟨g, 0, none⟩) m cap) ns) (i : Nat) (n : Tl) (hi : ns[i]? = some n) : w.cell? ⟨g, i * 4, none⟩ = some (.int .i64 n.1) ∧ w.cell? ⟨g, i * 4 + 1, none⟩ = some (.int .i64 n.2.1) ∧ w.cell? ⟨g, i * 4 + 2, none⟩ = some (.int .i64 n.2.2.1) ∧ w.cell? ⟨g, i * 4 + 3, none⟩ = some (.int .i64 n.2.2.2) :=
  ⟨h.range i n hi 0 _ rfl, h.range i n hi 1 _ rfl, h.range i n hi 2 _ rfl, h.range i n hi 3 _ rfl⟩
theorem buildT (n : Tl) (w : World) : (Instr.buildSlice 40 1 #[(0, .agg (tC n).toArray)]).run Try.prog w = .ok (.slice (some ⟨w.heap.size, 0, none⟩) 1 1) (w.alloc (.cells (tC n).toArray 25)) := by
  obtain ⟨i0, hi, hz0, hz1, hz2⟩ := info_some infoT
  refine run_buildSlice w 40 25 1 _ _ i0 _ undTl hi hz0 (by rw [hz1]; decide) (by rw [hz1]; decide) ?_
  rw [hz1]
  have e0 : ((Array.range (1 * 4)).map ((Value.agg (tC (0, 0, 0, 0)).toArray).cells[· % (Value.agg (tC (0, 0, 0, 0)).toArray).cells.size]!)) = (tC (0, 0, 0, 0)).toArray := by kernel_rfl
  rw [e0]
  show Instr.fill _ _ [(0, Value.agg (tC n).toArray)] = _
  rw [fill_cons (place := fun i => some (i * 4, 4)) (off := 0) (size := 4) (vs := tC n) rfl rfl rfl (by decide), fill_nil]
  rfl
section
variable {dst : Option Tmp} {ty : TypeId} {pos : String} {aft : Array Edge} {gd : Option (Nat × Bool)} {ops : Array Oper} {rest : List Oper} {a : Act} {w : World} {K : Act → World → Prop} {Q : Exit → Act → World → Prop}
set_option maxRecDepth 100000 in
theorem wponeT {x : Operand} {n : Tl} (hx : a.eval x = .agg (tC n).toArray) (h : ∀ w1 g, Blk w1 g 25 (tC n) → w.heap.size ≤ g → Below w.heap.size w w1 → K (a.put dst (.slice (some ⟨g, 0, none⟩) 1 1)) w1) :
    Oper.wp Try.prog ⟨dst, .buildSlice 40 1 #[(0, x)], ty, pos, aft, gd⟩ a w K Q := by
  refine wp_runV (.slice (some ⟨w.heap.size, 0, none⟩) 1 1) (w.alloc (.cells (tC n).toArray 25)) ?_ (h _ _ (Blk.made _ _ _) (Nat.le_refl _) ((Below.refl _ _).alloc (Nat.le_refl _) _))
  unfold execOp
  simp only [List.map_toArray, List.map_cons, List.map_nil, hx]
  simp only [Sem.run_bind, buildT n, Result.andThen_ok, Sem.run_pure]
theorem wpappT {s x : Operand} {B : Nat} {v : Value} {ns : List Tl} {n : Tl} {g c : Nat} (hs : a.eval s = v) (hx : a.eval x = .slice (some ⟨g, 0, none⟩) 1 c) (hown : OwnT w B v ns) (hy : Blk w g 25 (tC n)) (hlen : ns.length ≤ 1048576) (hB : B ≤ w.heap.size)
    (h : ∀ v' w', OwnT w' B v' (ns ++ [n]) → w.grownBy w' v.ownBlock → (∀ k, v'.ownBlock = some k → v.ownBlock = some k ∨ w.heap.size ≤ k) → K (a.put dst v') w') :
    Oper.wp Try.prog ⟨dst, .call { callee := .builtin .append, args := #[s, x], argTypes := #[40, 40] }, ty, pos, aft, gd⟩ a w K Q := by
  obtain ⟨i0, hi, hz0, hz1, hz2⟩ := info_some infoT
  obtain ⟨g', cap', w', hr, ho, hgr, hat, hlt⟩ := run_append_lies (P := Try.prog) w 40 ty B 25 i0 (.agg (tC (0, 0, 0, 0)).toArray) 4 32 undTl hi hz0 hz1 hz2 rfl (by decide) v _ _ hown ⟨g, 0, none⟩ 1 c (tC n) rfl (fun j u hu => by
    rw [Addr.add_lit, Nat.zero_add, hy.cell]
    exact hu) (One.tC n) (by decide) (by unfold maxLen; omega) (by omega) hB _ rfl
  unfold Oper.wp
  simp [execOp, resolve, invoke, builtin, hs, hx, hr, Result.andThen]
  refine h _ _ (by unfold OwnT; rw [tcs_snoc, List.length_append]; exact ho) hgr (fun k hk => ?_)
  injection hk with hk
  subst hk
  rcases hat with hat | hat
  · exact .inl hat
  · exact .inr (Nat.le_of_eq hat.symm)
set_option maxRecDepth 100000 in
theorem steponeT {x : Operand} {n : Tl} (hw : Region.wanted ⟨dst, .buildSlice 40 1 #[(0, x)], ty, pos, aft, gd⟩ (yielded ops a.tmps) = true) (hx : a.eval x = .agg (tC n).toArray) (h : ∀ w1 g, Blk w1 g 25 (tC n) → w.heap.size ≤ g → Below w.heap.size w w1 → wpList Try.prog ops Q rest (a.put dst (.slice (some ⟨g, 0, none⟩) 1 1)) w1) :
    wpList Try.prog ops Q (⟨dst, .buildSlice 40 1 #[(0, x)], ty, pos, aft, gd⟩ :: rest) a w :=
  BigFrame.wpList_want hw fun K hK => wponeT hx fun w1 g h1 h2 h3 => hK _ _ (h w1 g h1 h2 h3)
set_option maxRecDepth 100000 in
theorem stepappT {s x : Operand} {B : Nat} {v : Value} {ns : List Tl} {n : Tl} {g c : Nat} (hw : Region.wanted ⟨dst, .call { callee := .builtin .append, args := #[s, x], argTypes := #[40, 40] }, ty, pos, aft, gd⟩ (yielded ops a.tmps) = true)
    (hs : a.eval s = v) (hx : a.eval x = .slice (some ⟨g, 0, none⟩) 1 c) (hown : OwnT w B v ns) (hy : Blk w g 25 (tC n)) (hlen : ns.length ≤ 1048576) (hB : B ≤ w.heap.size)
    (h : ∀ v' w', OwnT w' B v' (ns ++ [n]) → w.grownBy w' v.ownBlock → (∀ k, v'.ownBlock = some k → v.ownBlock = some k ∨ w.heap.size ≤ k) → wpList Try.prog ops Q rest (a.put dst v') w') :
    wpList Try.prog ops Q (⟨dst, .call { callee := .builtin .append, args := #[s, x], argTypes := #[40, 40] }, ty, pos, aft, gd⟩ :: rest) a w :=
  BigFrame.wpList_want hw fun K hK => wpappT hs hx hown hy hlen hB fun v' w' h1 h2 h3 => hK _ _ (h v' w' h1 h2 h3)
end
/-- One element is written over. -/
theorem OwnT.set {w w' : World} {B g cap : Nat} {ns : List Tl} {m : Nat} (h : OwnT w B (.slice (some ⟨g, 0, none⟩) m cap) ns) (i : Nat) (n : Tl) (hi : i < ns.length) (hw : ∀ cs, Blk w g 25 cs → (i * 4 + 4 ≤ cs.length) → Blk w' g 25 (spl cs (tC n) (i * 4))) : OwnT w' B (.slice (some ⟨g, 0, none⟩) m cap) (ns.set i n) := by
  rcases h.lies with ⟨e, _⟩ | ⟨g', c, cs, e, hB, hb, h1, h2, h3, h4⟩
  · cases e
  · injection e with e1 e2 e3
    injection e1 with e1
    injection e1 with e1 _ _
    subst e1 e2 e3
    have hb2 := hw cs hb (by omega)
    have := OwnT.mk (ns := ns.set i n) hB hb2 (by simpa using h1) h2 (by
      unfold spl
      simp [tC, c4]
      omega) (by
      rw [← tcs_set ns i n hi, ← h4, List.length_set]
      unfold spl
      rw [List.take_append, List.take_append, List.drop_take, List.take_take]
      have e1 : ((cs.take (i * 4) ++ tC n)).length = i * 4 + 4 := by simp [tC, c4]; omega
      have e2 : (cs.take (i * 4)).length = i * 4 := by simp; omega
      have e3 : (tC n).length = 4 := rfl
      rw [e1, e2, e3, List.take_take, Nat.min_eq_right (show i * 4 ≤ ns.length * 4 by omega), Nat.min_eq_left (show i * 4 ≤ ns.length * 4 by omega), List.take_of_length_le (l := tC n) (by omega)])
    rwa [List.length_set] at this

end Go.Proofs.Ytnlpgkfmjlljdaa
