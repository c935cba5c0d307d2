/-
  The parts of a range in memory: a slice of the range's own; a part's place; one more appended.
-/
import Derived.Test.YtnjkjickclkmhaaDoorRt
import Derived.Test.YtnjkjickclkmhaaDoorDa
import Derived.Test.YtnjkjickclkmhaaDoorCn
import Derived.Test.YtnjkjickclkmhaaDoorPn
import Derived.Test.YtnjkjickclkmhaaDoorBu
import Derived.Great.BuildSlice
import Derived.Laws.Bits64
import Derived.Deep.AppendLies
namespace Go.Proofs.YtnjkjickclkmhaaDoor
open Go.RowKit Go.Shelf
set_option linter.unusedVariables false

/-- The cells of a node, of a part, of parts. -/
def nC (n : Nat × Nat) : List Value := [.int .i64 (n.1 : Int), .int .i64 (n.2 : Int)]
def pc (p : Pt) : List Value := nC p.1 ++ u8s p.2
def pcs (ps : List Pt) : List Value := ps.flatMap pc
def pz : List Value := nC (0, 0) ++ u8s (zer 32)
/-- A part that a range can have. -/
structure Good (p : Pt) : Prop where
  len : p.2.length = 32
  byte : isB p.2
  lev : p.1.1 ≤ 49
  idx : p.1.2 ≤ 281474976710656
def GoodL (ps : List Pt) : Prop := ∀ p ∈ ps, Good p
theorem pc_length {p : Pt} (h : Good p) : (pc p).length = 34 := by simp [pc, nC, u8s_length, h.len]
theorem One.nC (n : Nat × Nat) : One (nC n) := by intro v hv; simp [Go.Proofs.YtnjkjickclkmhaaDoor.nC] at hv; rcases hv with rfl | rfl <;> rfl
theorem One.pc (p : Pt) : One (pc p) := (One.nC _).app (One.u8 _)
theorem pcs_length : ∀ {ps : List Pt}, GoodL ps → (pcs ps).length = ps.length * 34
  | [], _ => rfl
  | p :: ps, h => by
    have ih := pcs_length (ps := ps) (fun q hq => h q (List.mem_cons_of_mem _ hq))
    have hp := pc_length (h p (List.mem_cons_self ..))
    show (pc p ++ pcs ps).length = _
    rw [List.length_append, ih, hp, List.length_cons]
    omega
theorem pcs_snoc (ps : List Pt) (p : Pt) : pcs (ps ++ [p]) = pcs ps ++ pc p := by simp [pcs]
theorem pcs_app (ps qs : List Pt) : pcs (ps ++ qs) = pcs ps ++ pcs qs := by simp [pcs]
theorem GoodL.take {ps : List Pt} (h : GoodL ps) (k : Nat) : GoodL (ps.take k) := fun p hp => h p (List.mem_of_mem_take hp)
theorem GoodL.drop {ps : List Pt} (h : GoodL ps) (k : Nat) : GoodL (ps.drop k) := fun p hp => h p (List.mem_of_mem_drop hp)
theorem GoodL.snoc {ps : List Pt} {p : Pt} (h : GoodL ps) (hp : Good p) : GoodL (ps ++ [p]) := fun q hq => by
  rcases List.mem_append.1 hq with hq | hq
  · exact h q hq
  · simp at hq; subst hq; exact hp
theorem pcs_take {ps : List Pt} (h : GoodL ps) (k : Nat) (hk : k ≤ ps.length) : (pcs ps).take (k * 34) = pcs (ps.take k) := by
  have e : pcs ps = pcs (ps.take k) ++ pcs (ps.drop k) := by rw [← pcs_app, List.take_append_drop]
  have hl := pcs_length (h.take k)
  rw [List.length_take, Nat.min_eq_left hk] at hl
  rw [e, List.take_append_of_le_length (by omega), List.take_of_length_le (by omega)]
/-- The i-th. -/
def pAt (ps : List Pt) (i : Nat) : Pt := ps.getD i ((0, 0), [])
theorem pAt_good {ps : List Pt} (h : GoodL ps) {i : Nat} (hi : i < ps.length) : Good (pAt ps i) := by
  have : pAt ps i = ps[i] := by simp [pAt, List.getD, hi]
  rw [this]
  exact h _ (List.getElem_mem hi)
theorem pcs_at {ps : List Pt} (h : GoodL ps) {i : Nat} (hi : i < ps.length) : ((pcs ps).drop (i * 34)).take 34 = pc (pAt ps i) := by
  have e1 : ps = ps.take i ++ ps[i] :: ps.drop (i + 1) := by
    rw [List.getElem_cons_drop, List.take_append_drop]
  have e2 : pAt ps i = ps[i] := by simp [pAt, List.getD, hi]
  have hl := pcs_length (h.take i)
  rw [List.length_take, Nat.min_eq_left (by omega)] at hl
  have hp := pc_length (pAt_good h hi)
  rw [e2] at hp ⊢
  have e3 : pcs ps = pcs (ps.take i) ++ (pc ps[i] ++ pcs (ps.drop (i + 1))) := by
    conv => lhs; rw [e1]
    rw [pcs_app]
    rfl
  rw [e3, ← hl, List.drop_left, ← hp, List.take_left]

theorem infoP : (Tryd.prog.info? 59).map (fun i => (i.zero, i.size, i.bytes)) = some (some (.agg pz.toArray), 34, 48) := by kernel_rfl
theorem undPl : Tryd.prog.underlying 52 = some (.slice 59) := by kernel_rfl
theorem undPs : Tryd.prog.underlying 52 = some (.slice (Tryd.prog.elem 52)) := by kernel_rfl
theorem elemP : Tryd.prog.elem 52 = 59 := by kernel_rfl
theorem sizeP (w : World) : (sizeOf 59).run Tryd.prog w = .ok 34 w := by kernel_rfl
theorem wP : Wide 59 34 := ⟨by kernel_rfl, by kernel_rfl⟩
theorem wNd : Wide 57 2 := ⟨by kernel_rfl, by kernel_rfl⟩
theorem wRg : Wide 54 4 := ⟨by kernel_rfl, by kernel_rfl⟩
theorem zP : Zeroed 59 pz := fun _ _ _ _ _ _ _ => by kernel_rfl
theorem zNd : Zeroed 57 (nC (0, 0)) := fun _ _ _ _ _ _ _ => by kernel_rfl

theorem p_at (b n cap i : Nat) (I : Int) (hI : I = (i : Int)) (hi : i < n) (v : World) : (Instr.indexAt 52 (.slice (some ⟨b, 0, none⟩) n cap) (.int .i64 I)).run Tryd.prog v = .ok (.pointer (some ⟨b, i * 34, none⟩)) v := by
  subst hI
  rw [run_indexAt_slice v _ _ _ _ .i64 i undPs, if_pos ⟨by omega, by omega⟩, elemP, sizeP]
  simp only [Result.andThen_ok, Int.toNat_natCast]
  rw [Addr.add_lit, Nat.zero_add]
theorem p_to (b n cap k : Nat) (K : Int) (hK : K = (k : Int)) (hk : k ≤ cap) (v : World) :
    (Instr.slice 52 (.slice (some ⟨b, 0, none⟩) n cap) none (some (.int .i64 K)) none).run Tryd.prog v = .ok (.slice (some ⟨b, 0, none⟩) k cap) v := by
  subst hK
  rw [run_slice_h v _ _ _ _ undPs .i64 k (by omega) (by omega), elemP, sizeP]
  simp [sliced, Addr.add_lit]

/-- Parts that are the range's own. -/
def POwn (w : World) (B : Nat) (v : Value) (ps : List Pt) : Prop := w.ownsRow B 59 34 v ps.length (pcs ps)
theorem POwn.nil (w : World) (B : Nat) : POwn w B (.slice none 0 0) [] := World.ownsRow_nil _ _ _ _
theorem POwn.below {w w' : World} {B : Nat} {v : Value} {ps : List Pt} (h : POwn w B v ps) (hb : Below w.heap.size w w') : POwn w' B v ps := by
  obtain ⟨h1, h2⟩ := h
  refine ⟨h1, ?_⟩
  rcases h2 with h2 | ⟨g, cap, cur, e, hg, hh, r⟩
  · exact .inl h2
  · refine .inr ⟨g, cap, cur, e, hg, ?_, r⟩
    rw [hb.block g (Array.getElem?_eq_some_iff.1 hh).1]
    exact hh
theorem POwn.but {w w' : World} {B g : Nat} {v : Value} {ps : List Pt} (h : POwn w B v ps) (hb : But g w w') (hg : v.ownBlock ≠ some g) : POwn w' B v ps := by
  obtain ⟨h1, h2⟩ := h
  refine ⟨h1, ?_⟩
  rcases h2 with h2 | ⟨k, cap, cur, rfl, hk, hh, r⟩
  · exact .inl h2
  · refine .inr ⟨k, cap, cur, rfl, hk, ?_, r⟩
    rw [hb.block k (fun e => hg (by rw [← e]; rfl))]
    exact hh
/-- Where they lie. -/
theorem POwn.lies {w : World} {B : Nat} {v : Value} {ps : List Pt} (h : POwn w B v ps) : (v = .slice none 0 0 ∧ ps = []) ∨
    ∃ g cap cs, v = .slice (some ⟨g, 0, none⟩) ps.length cap ∧ B ≤ g ∧ Blk w g 59 cs ∧ ps.length ≤ cap ∧ cap ≤ 9223372036854775807 ∧ cs.length = cap * 34 ∧ cs.take (ps.length * 34) = pcs ps := by
  obtain ⟨h1, h2⟩ := h
  rcases h2 with ⟨e, h0⟩ | ⟨g, cap, cur, rfl, hB, hh, h3, h4, h5, h6⟩
  · exact .inl ⟨e, List.eq_nil_of_length_eq_zero h0⟩
  · exact .inr ⟨g, cap, cur.toList, rfl, hB, by unfold Blk; simpa using hh, h3, by simpa [maxLen] using h4, by simpa using h5, h6⟩
theorem POwn.of {w : World} {B g cap : Nat} {cs : List Value} {ps : List Pt} (hg : GoodL ps) (hB : B ≤ g) (hb : Blk w g 59 cs) (hc : ps.length ≤ cap) (hm : cap ≤ 9223372036854775807) (hl : cs.length = cap * 34) (ht : cs.take (ps.length * 34) = pcs ps) :
    POwn w B (.slice (some ⟨g, 0, none⟩) ps.length cap) ps :=
  ⟨pcs_length hg, .inr ⟨g, cap, cs.toArray, rfl, hB, hb, hc, by simpa [maxLen] using hm, by simpa using hl, by simpa using ht⟩⟩
theorem POwn.base {w : World} {B B' : Nat} {v : Value} {ps : List Pt} (h : POwn w B v ps) (hB : B' ≤ B) : POwn w B' v ps := by
  obtain ⟨h1, h2⟩ := h
  refine ⟨h1, ?_⟩
  rcases h2 with h2 | ⟨g, cap, cur, e, hg, r⟩
  · exact .inl h2
  · exact .inr ⟨g, cap, cur, e, Nat.le_trans hB hg, r⟩
theorem POwn.lt {w : World} {B : Nat} {v : Value} {ps : List Pt} (h : POwn w B v ps) : ∀ k, v.ownBlock = some k → B ≤ k ∧ k < w.heap.size := fun k hk => World.ownsRow.lt h k hk

theorem splP_all (p : Pt) (h : Good p) : spl pz (pc p) 0 = pc p := by
  unfold spl
  rw [List.drop_of_length_le (by rw [pc_length h]; decide)]
  simp
theorem build_P (p : Pt) (hp : Good p) (w : World) :
    (Instr.buildSlice 52 1 #[(0, .agg (pc p).toArray)]).run Tryd.prog w = .ok (.slice (some ⟨w.heap.size, 0, none⟩) 1 1) (w.alloc (.cells (pc p).toArray 59)) := by
  obtain ⟨i0, hi, hz0, hz1, hz2⟩ := info_parts infoP
  refine run_buildSlice w 52 59 1 _ _ i0 _ undPl hi hz0 (by rw [hz1]; decide) (by rw [hz1]; decide) ?_
  rw [hz1]
  have e0 : ((Array.range (1 * 34)).map ((Value.agg pz.toArray).cells[· % (Value.agg pz.toArray).cells.size]!)) = pz.toArray := by kernel_rfl
  rw [e0]
  show Instr.fill _ _ [(0, Value.agg (pc p).toArray)] = _
  rw [fill_cons (place := fun i => some (i * 34, 34)) (off := 0) (size := 34) (vs := pc p) rfl rfl (pc_length hp) (by decide), fill_nil, splP_all p hp]
section
variable {dst : Option Tmp} {ty : TypeId} {pos : String} {aft : Array Edge} {gd : Option (Nat × Bool)} {a : Act} {w : World} {K : Act → World → Prop} {Q : Exit → Act → World → Prop}
set_option maxRecDepth 100000 in
theorem wp_oneP {x : Operand} {p : Pt} (hx : a.eval x = .agg (pc p).toArray) (hp : Good p) (h : ∀ w1 g, Blk w1 g 59 (pc p) → w.heap.size ≤ g → Below w.heap.size w w1 → K (a.put dst (.slice (some ⟨g, 0, none⟩) 1 1)) w1) :
    Oper.wp Tryd.prog ⟨dst, .buildSlice 52 1 #[(0, x)], ty, pos, aft, gd⟩ a w K Q := by
  refine wp_runV (.slice (some ⟨w.heap.size, 0, none⟩) 1 1) (w.alloc (.cells (pc p).toArray 59)) ?_ (h _ _ (Blk.made _ _ _) (Nat.le_refl _) ((Below.refl _ _).alloc (Nat.le_refl _) _))
  unfold execOp
  simp only [List.map_toArray, List.map_cons, List.map_nil, hx]
  simp only [Sem.run_bind, build_P p hp, Result.andThen_ok, Sem.run_pure]
theorem wp_appendP {s x : Operand} {B : Nat} {v : Value} {ps : List Pt} {p : Pt} {g c : Nat} (hs : a.eval s = v) (hx : a.eval x = .slice (some ⟨g, 0, none⟩) 1 c) (hown : POwn w B v ps) (hy : Blk w g 59 (pc p)) (hp : Good p) (hlen : ps.length ≤ 1048576) (hB : B ≤ w.heap.size)
    (h : ∀ v' w', POwn w' B v' (ps ++ [p]) → w.grownBy w' v.ownBlock → (∀ k, v'.ownBlock = some k → v.ownBlock = some k ∨ w.heap.size ≤ k) → K (a.put dst v') w') :
    Oper.wp Tryd.prog ⟨dst, .call { callee := .builtin .append, args := #[s, x], argTypes := #[52, 52] }, ty, pos, aft, gd⟩ a w K Q := by
  obtain ⟨i0, hi, hz0, hz1, hz2⟩ := info_parts infoP
  obtain ⟨g', cap', w', hr, ho, hgr, hat, hlt⟩ := run_append_lies (P := Tryd.prog) w 52 ty B 59 i0 (.agg pz.toArray) 34 48 undPl hi hz0 hz1 hz2 rfl (by decide) v _ _ hown ⟨g, 0, none⟩ 1 c (pc p) (by rw [pc_length hp]) (fun j u hu => by
    rw [Addr.add_lit, Nat.zero_add, hy.cell]
    exact hu) (One.pc p) (by decide) (by unfold maxLen; omega) (by omega) hB _ rfl
  unfold Oper.wp
  simp [execOp, resolve, invoke, builtin, hs, hx, hr, Result.andThen]
  refine h _ _ (by unfold POwn; rw [pcs_snoc, List.length_append]; exact ho) hgr (fun k hk => ?_)
  injection hk with hk
  subst hk
  rcases hat with hat | hat
  · exact .inl hat
  · exact .inr (Nat.le_of_eq hat.symm)
end

theorem xor_one (n : Nat) (h : n ≤ 281474976710657) : bits .xor .i64 (n : Int) 1 = ((n ^^^ 1 : Nat) : Int) := by
  have hx : n ^^^ 1 < 2 ^ 62 := Nat.xor_lt_two_pow (by omega) (by omega)
  have h1 : (BitVec.ofInt 64 (n : Int)).toNat = n := by
    rw [BitVec.ofInt_natCast, BitVec.toNat_ofNat]; exact Nat.mod_eq_of_lt (by omega)
  have h2 : (BitVec.ofInt 64 (1 : Int)).toNat = 1 := by decide
  show IntKind.i64.wrap ((BitVec.ofInt 64 (n : Int) ^^^ BitVec.ofInt 64 (1 : Int)).toNat : Int) = _
  rw [BitVec.toNat_xor, h1, h2, IntKind.wrap_i64]
  omega
theorem xor_one_eq (n : Nat) : n ^^^ 1 = if n % 2 = 0 then n + 1 else n - 1 := by
  have h1 : (n ^^^ 1) % 2 = (n % 2) ^^^ 1 := by
    have := Nat.xor_mod_two_pow (a := n) (b := 1) (n := 1)
    simpa using this
  have h2 : (n ^^^ 1) / 2 = n / 2 := by
    have := Nat.xor_div_two (a := n) (b := 1)
    simpa using this
  rcases Nat.mod_two_eq_zero_or_one n with h | h
  · rw [h] at h1
    have h3 : (n ^^^ 1) % 2 = 1 := h1
    rw [if_pos h]
    omega
  · rw [h] at h1
    have h3 : (n ^^^ 1) % 2 = 0 := h1
    rw [if_neg (by omega)]
    omega

end Go.Proofs.YtnjkjickclkmhaaDoor
