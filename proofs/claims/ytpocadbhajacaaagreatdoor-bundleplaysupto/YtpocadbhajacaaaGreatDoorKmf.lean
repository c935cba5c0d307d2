/-
  A disk in memory, and write: what a call was asked for is recorded and done.
-/
import Derived.Test.YtpocadbhajacaaaGreatDoorKme
import Derived.Great.BuildSlice
import Derived.Test.YtpocadbhajacaaaGreatDoorBu
namespace Go.Proofs.YtpocadbhajacaaaGreatDoor
open Go.RowKit
set_option linter.unusedVariables false

/-- Entries' cells, one behind the other. -/
def ensC (l : List (En × Value)) : List Value := l.flatMap fun x => enC x.1 x.2
theorem ensC_snoc (l : List (En × Value)) (x : En × Value) : ensC (l ++ [x]) = ensC l ++ enC x.1 x.2 := by simp [ensC]
theorem undEs : Tryz.prog.underlying 49 = some (.slice 119) := by kernel_rfl
def en0 : List Value := [.int .i64 0, .string ByteArray.empty, .slice none 0 0, .int .i64 0, .string ByteArray.empty, .int .i64 0, .int .i64 0]
theorem infoE : (Tryz.prog.info? 119).map (fun i => (i.zero, i.size, i.bytes)) = some (some (.agg en0.toArray), 7, 88) := by kernel_rfl
theorem build_E (e : En) (v : Value) (hv : ∃ a l c, v = .slice a l c) (w : World) :
    (Instr.buildSlice 49 1 #[(0, .agg (enC e v).toArray)]).run Tryz.prog w = .ok (.slice (some ⟨w.heap.size, 0, none⟩) 1 1) (w.alloc (.cells (enC e v).toArray 119)) := by
  obtain ⟨i0, hi, hz0, hz1, hz2⟩ := info_parts infoE
  refine run_buildSlice w 49 119 1 _ _ i0 _ undEs hi hz0 (by rw [hz1]; decide) (by rw [hz1]; decide) ?_
  rw [hz1]
  have e0 : ((Array.range (1 * 7)).map ((Value.agg en0.toArray).cells[· % (Value.agg en0.toArray).cells.size]!)) = en0.toArray := by kernel_rfl
  rw [e0]
  show Instr.fill _ _ [(0, Value.agg (enC e v).toArray)] = _
  rw [fill_cons (place := fun i => some (i * 7, 7)) (off := 0) (size := 7) (vs := enC e v) rfl rfl rfl (by decide), fill_nil]
  rfl
theorem build_en (k : Int) (n : ByteArray) (a : Option Addr) (l c : Nat) (s : Int) (t : ByteArray) (f h : Int) (w : World) :
    (Instr.build 119 #[(0, .agg (rwC k n (.slice a l c) s t).toArray), (1, .int .i64 f), (2, .int .i64 h)]).run Tryz.prog w = .ok (.agg #[.int .i64 k, .string n, .slice a l c, .int .i64 s, .string t, .int .i64 f, .int .i64 h]) w := by kernel_rfl
section
variable {dst : Option Tmp} {ty : TypeId} {pos : String} {aft : Array Edge} {gd : Option (Nat × Bool)} {a : Act} {w : World} {K : Act → World → Prop} {Q : Exit → Act → World → Prop}
set_option maxRecDepth 100000 in
theorem wp_allocG {T : TypeId} {cs : List Value} (hz : Zeroed T cs) (h : ∀ w1 g, Blk w1 g T cs → w.heap.size ≤ g → Below w.heap.size w w1 → K (a.put dst (.pointer (some ⟨g, 0, none⟩))) w1) :
    Oper.wp Tryz.prog ⟨dst, .alloc T, ty, pos, aft, gd⟩ a w K Q :=
  wp_runV _ _ (hz a.eval dst ty pos aft gd w) (h _ _ (Blk.made _ _ _) (Nat.le_refl _) ((Below.refl _ _).alloc (Nat.le_refl _) _))
set_option maxRecDepth 100000 in
theorem wp_oneE {x : Operand} {e : En} {v : Value} (hx : a.eval x = .agg (enC e v).toArray) (hv : ∃ a l c, v = .slice a l c) (h : ∀ w1 g, Blk w1 g 119 (enC e v) → w.heap.size ≤ g → Below w.heap.size w w1 → K (a.put dst (.slice (some ⟨g, 0, none⟩) 1 1)) w1) :
    Oper.wp Tryz.prog ⟨dst, .buildSlice 49 1 #[(0, x)], ty, pos, aft, gd⟩ a w K Q := by
  refine wp_runV (.slice (some ⟨w.heap.size, 0, none⟩) 1 1) (w.alloc (.cells (enC e v).toArray 119)) ?_ (h _ _ (Blk.made _ _ _) (Nat.le_refl _) ((Below.refl _ _).alloc (Nat.le_refl _) _))
  unfold execOp
  simp only [List.map_toArray, List.map_cons, List.map_nil, hx]
  simp only [Sem.run_bind, build_E e v hv, Result.andThen_ok, Sem.run_pure]
set_option maxRecDepth 100000 in
theorem wp_appendE {s x : Operand} {v : Value} {es : List (En × Value)} {e : En} {u : Value} {g c : Nat} (hs : a.eval s = v) (hx : a.eval x = .slice (some ⟨g, 0, none⟩) 1 c) (hown : w.ownsRow 0 119 7 v es.length (ensC es)) (hy : Blk w g 119 (enC e u)) (hu : ∃ a l c, u = .slice a l c) (hlen : es.length ≤ 1099511627776)
    (h : ∀ g' cap w', w'.ownsRow 0 119 7 (.slice (some ⟨g', 0, none⟩) (es.length + 1) cap) (es ++ [(e, u)]).length (ensC (es ++ [(e, u)])) → w.grownBy w' v.ownBlock → (v.ownBlock = some g' ∨ w.heap.size ≤ g') → K (a.put dst (.slice (some ⟨g', 0, none⟩) (es.length + 1) cap)) w') :
    Oper.wp Tryz.prog ⟨dst, .call { callee := .builtin .append, args := #[s, x], argTypes := #[49, 49] }, ty, pos, aft, gd⟩ a w K Q := by
  obtain ⟨i0, hi, hz0, hz1, hz2⟩ := info_parts infoE
  obtain ⟨g', cap', w', hr, ho, hgr, hat, hlt⟩ := run_append_lies (P := Tryz.prog) w 49 ty 0 119 i0 (.agg en0.toArray) 7 88 undEs hi hz0 hz1 hz2 rfl (by decide) v _ _ hown ⟨g, 0, none⟩ 1 c (enC e u) rfl (fun j q hq => by
    rw [Addr.add_lit, Nat.zero_add, hy.cell]
    exact hq) (by obtain ⟨a, l, c, rfl⟩ := hu; exact One.en e a l c) (by decide) (by unfold maxLen; omega) (by omega) (Nat.zero_le _) _ rfl
  unfold Oper.wp
  simp [execOp, resolve, invoke, builtin, hs, hx, hr, Result.andThen]
  refine h _ _ _ (by rw [ensC_snoc, List.length_append]; exact ho) hgr (hat.imp id (fun h => Nat.le_of_eq h.symm))
end

/-- What a disk's memory is made of: its map's block, its record, the entries with their bytes, the files' places in the map. -/
structure Dm where
  m : Nat
  rv : Value
  es : List (En × Value)
  fm : List (ByteArray × Value)
def Dm.own (D : Dm) (d k : Nat) : Prop := k = d ∨ k = D.m ∨ D.rv.ownBlock = some k ∨ fB D.fm k
def Dm.ro (D : Dm) (k : Nat) : Prop := ∃ x ∈ D.es, x.2.ownBlock = some k
/-- A disk in memory, with the raw writes that it has recorded. -/
structure DkAt (w : World) (d s : Nat) (rs : List Rw) (D : Dm) : Prop where
  s1 : 1 ≤ s
  s2 : s ≤ 4096
  blk : Blk w d 51 (dkC s (some D.m) D.rv rs.length)
  row : w.ownsRow 0 119 7 D.rv D.es.length (ensC D.es)
  byt : ∀ x ∈ D.es, BV w x.2 x.1.r.b
  rok : RecOk s (D.es.map (·.1))
  raw : recs s (D.es.map (·.1)) = rs
  fil : FilAt w D.m D.fm (play rs)
  few : D.fm.length ≤ rs.length
  dis : ∀ k, fB D.fm k → ¬ D.ro k
section
variable {w w' : World} {d s : Nat} {rs : List Rw} {D : Dm}
theorem DkAt.same (h : DkAt w d s rs D) (hk : ∀ k, D.own d k ∨ D.ro k → w'.heap[k]? = w.heap[k]?) : DkAt w' d s rs D :=
  ⟨h.s1, h.s2, h.blk.same (hk d (.inl (.inl rfl))), row_same h.row (fun k e => hk k (.inl (.inr (.inr (.inl e))))), fun x hx => (h.byt x hx).same (fun k e => hk k (.inr ⟨x, hx, e⟩)), h.rok, h.raw,
    h.fil.same (hk D.m (.inl (.inr (.inl rfl)))) (fun k e => hk k (.inl (.inr (.inr (.inr e))))), h.few, h.dis⟩
theorem DkAt.lt (h : DkAt w d s rs D) {k : Nat} (hk : D.own d k ∨ D.ro k) : k < w.heap.size := by
  rcases hk with (rfl | rfl | hk | hk) | ⟨x, hx, hk⟩
  · exact h.blk.lt
  · exact h.fil.map.lt
  · obtain ⟨cs, hc⟩ := row_lies h.row hk; exact hc.lt
  · obtain ⟨cs, hc⟩ := h.fil.lies hk; exact hc.lt
  · obtain ⟨cs, hc⟩ := (h.byt x hx).lies hk; exact hc.lt
theorem DkAt.below (h : DkAt w d s rs D) (hb : Below w.heap.size w w') : DkAt w' d s rs D := h.same (fun k hk => hb.block k (h.lt hk))
/-- What a disk owns and what it only reads are apart. -/
theorem DkAt.apart (h : DkAt w d s rs D) {k : Nat} (hk : D.own d k) : ¬ D.ro k := by
  intro ⟨x, hx, e⟩
  obtain ⟨cs, hc⟩ := (h.byt x hx).lies e
  rcases hk with rfl | rfl | hk | hk
  · exact hc.apart h.blk (by decide) rfl
  · exact h.fil.map.ne hc rfl
  · obtain ⟨cs', hc'⟩ := row_lies h.row hk
    exact hc.apart hc' (by decide) rfl
  · exact h.dis k hk ⟨x, hx, e⟩
theorem DkAt.few2 (h : DkAt w d s rs D) : D.es.length ≤ rs.length := by
  have key : ∀ i, i ≤ (D.es.map (·.1)).length → i ≤ (recs s ((D.es.map (·.1)).take i)).length := by
    intro i
    induction i with
    | zero => intro _; omega
    | succ i ih =>
      intro hi
      obtain ⟨e, he⟩ : ∃ e, (D.es.map (·.1))[i]? = some e := ⟨_, List.getElem?_eq_getElem (by omega)⟩
      have h1 := ih (by omega)
      have h2 := cnt_ge h.s1 (h.rok i e he).2.2
      rw [take_at he, recs_app, recs_one, List.length_append, expd_length]
      omega
  have := key _ (Nat.le_refl _)
  rw [List.take_length, h.raw] at this
  simpa using this
end
/-- What write leaves. -/
def WrR (w w' : World) (d s : Nat) (rs : List Rw) (D : Dm) (r : Rw) (v : Value) : Prop :=
  ∃ D', DkAt w' d s (rs ++ expd s ⟨r, rs.length, (fl (play rs) r.n).length⟩) D' ∧ Chs (D.own d) w w' ∧ (∀ k, D'.own d k → D.own d k ∨ w.heap.size ≤ k) ∧ (∀ k, D'.ro k → D.ro k ∨ v.ownBlock = some k)

end Go.Proofs.YtpocadbhajacaaaGreatDoor
