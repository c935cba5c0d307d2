/-
  Texts one behind the other: Rd Px Pb Is Ra Rr Rh Rj Rl5 Rl6 Ri Rl7 Rb Ry Rc Rl8.
-/
import Derived.Test.YtnjkjickclkmhaaDoorRx
import Derived.Test.YtnjkjickclkmhaaDoorRp
import Derived.Test.YtnjkjickclkmhaaDoorDa
import Derived.Test.YtnjkjickclkmhaaDoorBu
import Derived.Great.BuildSlice
import Derived.Test.YtnjkjickclkmhaaDoorTy
import Derived.Test.YtnjkjickclkmhaaDoorSc
import Derived.RangeFuncNested
import Derived.RangeFuncBound
import Derived.RangeFuncCalls
import Derived.RangeFuncLeaves
import Derived.Shelf.Abstract
import Derived.Shelf.RegionOpen
import Derived.WalkKit
import Derived.OwnWalkIn
import Derived.TacticsInMore
import Derived.LoopNIn
import Derived.LoopIn
import Derived.Deep.Cut

/-
  Where a span's parts begin, without a program.
-/
namespace Go.Proofs.YtnjkjickclkmhaaDoor
open Go.RowKit Go.Shelf
set_option linter.unusedVariables false

/-- How many leaves some nodes have. -/
def psum : List (Nat × Nat) → Nat
  | [] => 0
  | n :: L => 2 ^ n.1 + psum L
theorem psum_lt : ∀ (L : List (Nat × Nat)) (i j : Nat), i < j → j ≤ L.length → psum (L.take i) < psum (L.take j)
  | [], i, j, h, h2 => by simp at h2; omega
  | n :: L, i, 0, h, _ => by omega
  | n :: L, 0, j + 1, _, _ => by
    have := Nat.two_pow_pos n.1
    simp only [List.take_zero, List.take_succ_cons, psum]
    omega
  | n :: L, i + 1, j + 1, h, h2 => by
    simp only [List.take_succ_cons, psum]
    have := psum_lt L i j (by omega) (by simpa using h2)
    omega
theorem psum_succ : ∀ (L : List (Nat × Nat)) (i : Nat) (q : Nat × Nat), L[i]? = some q → psum (L.take (i + 1)) = psum (L.take i) + 2 ^ q.1
  | [], i, q, h => by simp at h
  | n :: L, 0, q, h => by
    simp at h
    subst h
    simp [psum]
  | n :: L, i + 1, q, h => by
    have := psum_succ L i q (by simpa using h)
    simp only [List.take_succ_cons, psum] at this ⊢
    omega
theorem parts_begin (n : Nat) : ∀ (b e : Nat), e - b ≤ n → b ≤ e → e ≤ 2 ^ 48 → (∀ i q, (parts b e)[i]? = some q → q.2 * 2 ^ q.1 = b + psum ((parts b e).take i) ∧ (q.2 + 1) * 2 ^ q.1 ≤ e) ∧ b + psum (parts b e) = e := by
  induction n with
  | zero =>
    intro b e hn hbe hm
    obtain rfl : b = e := by omega
    rw [parts_nil (Nat.le_refl _)]
    exact ⟨fun i q h => by simp at h, rfl⟩
  | succ n ih =>
    intro b e hn hbe hm
    by_cases hlt : b < e
    · have hk := lv_isLev (b := b) (n := e - b) (by omega) (by omega)
      rw [parts_step hk hm]
      generalize lv b (e - b) = k at *
      have hp := Nat.two_pow_pos k
      have hkl := hk.le
      obtain ⟨h1, h2⟩ := ih (b + 2 ^ k) e (by omega) (by omega) hm
      have e1 := mul_div_pow hk.dvd
      refine ⟨?_, by simp only [psum]; omega⟩
      intro i q hq
      cases i with
      | zero =>
        simp at hq
        subst hq
        simp only [List.take_zero, psum]
        refine ⟨by rw [e1, Nat.add_zero], ?_⟩
        rw [Nat.add_mul, e1]
        omega
      | succ i =>
        have := h1 i q (by simpa using hq)
        simp only [List.take_succ_cons, psum]
        omega
    · obtain rfl : b = e := by omega
      rw [parts_nil (Nat.le_refl _)]
      exact ⟨fun i q h => by simp at h, rfl⟩
/-- Where the i-th part begins. -/
def pbeg (b e i : Nat) : Nat := b + psum ((parts b e).take i)
theorem pbeg_zero (b e : Nat) : pbeg b e 0 = b := by simp [pbeg, psum]
theorem pbeg_end {b e : Nat} (hbe : b ≤ e) (hm : e ≤ 2 ^ 48) : pbeg b e (parts b e).length = e := by
  unfold pbeg
  rw [List.take_length]
  exact (parts_begin (e - b) b e (Nat.le_refl _) hbe hm).2
theorem pbeg_at {b e i : Nat} {q : Nat × Nat} (hbe : b ≤ e) (hm : e ≤ 2 ^ 48) (h : (parts b e)[i]? = some q) : q.2 * 2 ^ q.1 = pbeg b e i ∧ pbeg b e (i + 1) = pbeg b e i + 2 ^ q.1 ∧ pbeg b e (i + 1) ≤ e := by
  obtain ⟨h1, h2⟩ := (parts_begin (e - b) b e (Nat.le_refl _) hbe hm).1 i q h
  unfold pbeg at *
  rw [psum_succ _ _ _ h]
  rw [Nat.add_mul] at h2
  omega
theorem pbeg_ne {b e i j : Nat} (h : i ≠ j) (hi : i ≤ (parts b e).length) (hj : j ≤ (parts b e).length) : pbeg b e i ≠ pbeg b e j := by
  unfold pbeg
  rcases Nat.lt_or_gt_of_ne h with h | h
  · have := psum_lt _ _ _ h hj; omega
  · have := psum_lt _ _ _ h hi; omega
theorem parts_drop_aux (n : Nat) : ∀ (b e k : Nat), e - b ≤ n → e ≤ 2 ^ 48 → (parts b e).drop k = parts (pbeg b e k) e := by
  induction n with
  | zero =>
    intro b e k hn hm
    unfold pbeg
    rw [parts_nil (show e ≤ b by omega)]
    simp [psum, parts_nil (show e ≤ b by omega)]
  | succ n ih =>
    intro b e k hn hm
    by_cases hlt : b < e
    · cases k with
      | zero => rw [pbeg_zero]; rfl
      | succ k =>
        have hk := lv_isLev (b := b) (n := e - b) (by omega) (by omega)
        have e1 := parts_step hk hm
        have hp := Nat.two_pow_pos (lv b (e - b))
        have e2 : pbeg b e (k + 1) = pbeg (b + 2 ^ lv b (e - b)) e k := by
          unfold pbeg
          rw [e1]
          simp only [List.take_succ_cons, psum]
          omega
        rw [e1, e2]
        exact ih _ e k (by omega) hm
    · unfold pbeg
      rw [parts_nil (show e ≤ b by omega)]
      simp [psum, parts_nil (show e ≤ b by omega)]
theorem parts_drop (b e k : Nat) (hm : e ≤ 2 ^ 48) : (parts b e).drop k = parts (pbeg b e k) e := parts_drop_aux (e - b) b e k (Nat.le_refl _) hm

end Go.Proofs.YtnjkjickclkmhaaDoor

/-
  Slices of nodes; the document's Parts.
-/
namespace Go.Proofs.YtnjkjickclkmhaaDoor
open Go.RowKit Go.Shelf
set_option linter.unusedVariables false

def ncs (ns : List (Nat × Nat)) : List Value := ns.flatMap nC
theorem ncs_length : ∀ ns : List (Nat × Nat), (ncs ns).length = ns.length * 2
  | [] => rfl
  | n :: ns => by
    have ih := ncs_length ns
    show (nC n ++ ncs ns).length = _
    rw [List.length_append, ih, List.length_cons]
    simp [nC]
    omega
theorem ncs_snoc (ns : List (Nat × Nat)) (n : Nat × Nat) : ncs (ns ++ [n]) = ncs ns ++ nC n := by simp [ncs]
theorem ncs_at : ∀ (ns : List (Nat × Nat)) (i : Nat) (n : Nat × Nat), ns[i]? = some n → ((ncs ns).drop (i * 2)).take 2 = nC n
  | [], i, n, h => by simp at h
  | m :: ns, 0, n, h => by simp at h; subst h; rfl
  | m :: ns, i + 1, n, h => by
    have ih := ncs_at ns i n (by simpa using h)
    show ((nC m ++ ncs ns).drop ((i + 1) * 2)).take 2 = _
    rw [show (i + 1) * 2 = 2 + i * 2 by omega, ← List.drop_drop]
    exact ih
theorem infoN : (Tryd.prog.info? 57).map (fun i => (i.zero, i.size, i.bytes)) = some (some (.agg (nC (0, 0)).toArray), 2, 16) := by kernel_rfl
theorem undNl : Tryd.prog.underlying 62 = some (.slice 57) := by kernel_rfl
theorem undNs : Tryd.prog.underlying 62 = some (.slice (Tryd.prog.elem 62)) := by kernel_rfl
theorem elemN : Tryd.prog.elem 62 = 57 := by kernel_rfl
theorem sizeN (w : World) : (sizeOf 57).run Tryd.prog w = .ok 2 w := by kernel_rfl
theorem n_at (b n cap i : Nat) (I : Int) (hI : I = (i : Int)) (hi : i < n) (v : World) : (Instr.indexAt 62 (.slice (some ⟨b, 0, none⟩) n cap) (.int .i64 I)).run Tryd.prog v = .ok (.pointer (some ⟨b, i * 2, none⟩)) v := by
  subst hI
  rw [run_indexAt_slice v _ _ _ _ .i64 i undNs, if_pos ⟨by omega, by omega⟩, elemN, sizeN]
  simp only [Result.andThen_ok, Int.toNat_natCast]
  rw [Addr.add_lit, Nat.zero_add]
theorem n_to (b n cap k : Nat) (K : Int) (hK : K = (k : Int)) (hk : k ≤ cap) (v : World) :
    (Instr.slice 62 (.slice (some ⟨b, 0, none⟩) n cap) none (some (.int .i64 K)) none).run Tryd.prog v = .ok (.slice (some ⟨b, 0, none⟩) k cap) v := by
  subst hK
  rw [run_slice_h v _ _ _ _ undNs .i64 k (by omega) (by omega), elemN, sizeN]
  simp [sliced, Addr.add_lit]
/-- Nodes in a slice of the call's own. -/
def NOwn (w : World) (B : Nat) (v : Value) (ns : List (Nat × Nat)) : Prop := w.ownsRow B 57 2 v ns.length (ncs ns)
theorem NOwn.nil (w : World) (B : Nat) : NOwn w B (.slice none 0 0) [] := World.ownsRow_nil _ _ _ _
theorem NOwn.below {w w' : World} {B : Nat} {v : Value} {ns : List (Nat × Nat)} (h : NOwn w B v ns) (hb : Below w.heap.size w w') : NOwn w' B v ns := by
  obtain ⟨h1, h2⟩ := h
  refine ⟨h1, ?_⟩
  rcases h2 with h2 | ⟨g, cap, cur, e, hg, hh, r⟩
  · exact .inl h2
  · refine .inr ⟨g, cap, cur, e, hg, ?_, r⟩
    rw [hb.block g (Array.getElem?_eq_some_iff.1 hh).1]
    exact hh
theorem NOwn.lies {w : World} {B : Nat} {v : Value} {ns : List (Nat × Nat)} (h : NOwn w B v ns) : (v = .slice none 0 0 ∧ ns = []) ∨
    ∃ g cap cs, v = .slice (some ⟨g, 0, none⟩) ns.length cap ∧ B ≤ g ∧ Blk w g 57 cs ∧ ns.length ≤ cap ∧ cap ≤ 9223372036854775807 ∧ cs.length = cap * 2 ∧ cs.take (ns.length * 2) = ncs ns := by
  obtain ⟨h1, h2⟩ := h
  rcases h2 with ⟨e, h0⟩ | ⟨g, cap, cur, rfl, hB, hh, h3, h4, h5, h6⟩
  · exact .inl ⟨e, List.eq_nil_of_length_eq_zero h0⟩
  · exact .inr ⟨g, cap, cur.toList, rfl, hB, by unfold Blk; simpa using hh, h3, by simpa [maxLen] using h4, by simpa using h5, h6⟩
theorem NOwn.lt {w : World} {B : Nat} {v : Value} {ns : List (Nat × Nat)} (h : NOwn w B v ns) : ∀ k, v.ownBlock = some k → B ≤ k ∧ k < w.heap.size := fun k hk => World.ownsRow.lt h k hk
theorem NOwn.range {w : World} {B g cap : Nat} {ns : List (Nat × Nat)} {m : Nat} (h : NOwn w B (.slice (some ⟨g, 0, none⟩) m cap) ns) (i : Nat) (n : Nat × Nat) (hi : ns[i]? = some n) : w.rangeAt g (i * 2) (nC n) := by
  rcases h.lies with ⟨e, _⟩ | ⟨g', c, cs, e, _, hb, _, _, _, ht⟩
  · cases e
  · injection e with e1 _ _
    injection e1 with e1
    injection e1 with e1 _ _
    subst e1
    refine hb.range (i * 2) (nC n) ?_
    have hlt : i < ns.length := (List.getElem?_eq_some_iff.1 hi).1
    have := ncs_at ns i n hi
    rw [← ht, List.drop_take, List.take_take] at this
    rw [show (nC n).length = 2 from rfl, ← this]
    congr 1
    omega
theorem build_N (n : Nat × Nat) (w : World) : (Instr.buildSlice 62 1 #[(0, .agg (nC n).toArray)]).run Tryd.prog w = .ok (.slice (some ⟨w.heap.size, 0, none⟩) 1 1) (w.alloc (.cells (nC n).toArray 57)) := by
  obtain ⟨i0, hi, hz0, hz1, hz2⟩ := info_parts infoN
  refine run_buildSlice w 62 57 1 _ _ i0 _ undNl hi hz0 (by rw [hz1]; decide) (by rw [hz1]; decide) ?_
  rw [hz1]
  have e0 : ((Array.range (1 * 2)).map ((Value.agg (nC (0, 0)).toArray).cells[· % (Value.agg (nC (0, 0)).toArray).cells.size]!)) = (nC (0, 0)).toArray := by kernel_rfl
  rw [e0]
  show Instr.fill _ _ [(0, Value.agg (nC n).toArray)] = _
  rw [fill_cons (place := fun i => some (i * 2, 2)) (off := 0) (size := 2) (vs := nC n) rfl rfl rfl (by decide), fill_nil]
  rfl
section
variable {dst : Option Tmp} {ty : TypeId} {pos : String} {aft : Array Edge} {gd : Option (Nat × Bool)} {ops : Array Oper} {rest : List Oper} {a : Act} {w : World} {K : Act → World → Prop} {Q : Exit → Act → World → Prop}
set_option maxRecDepth 100000 in
theorem wp_oneN {x : Operand} {n : Nat × Nat} (hx : a.eval x = .agg (nC n).toArray) (h : ∀ w1 g, Blk w1 g 57 (nC n) → w.heap.size ≤ g → Below w.heap.size w w1 → K (a.put dst (.slice (some ⟨g, 0, none⟩) 1 1)) w1) :
    Oper.wp Tryd.prog ⟨dst, .buildSlice 62 1 #[(0, x)], ty, pos, aft, gd⟩ a w K Q := by
  refine wp_runV (.slice (some ⟨w.heap.size, 0, none⟩) 1 1) (w.alloc (.cells (nC n).toArray 57)) ?_ (h _ _ (Blk.made _ _ _) (Nat.le_refl _) ((Below.refl _ _).alloc (Nat.le_refl _) _))
  unfold execOp
  simp only [List.map_toArray, List.map_cons, List.map_nil, hx]
  simp only [Sem.run_bind, build_N n, Result.andThen_ok, Sem.run_pure]
theorem wp_appendN {s x : Operand} {B : Nat} {v : Value} {ns : List (Nat × Nat)} {n : Nat × Nat} {g c : Nat} (hs : a.eval s = v) (hx : a.eval x = .slice (some ⟨g, 0, none⟩) 1 c) (hown : NOwn w B v ns) (hy : Blk w g 57 (nC n)) (hlen : ns.length ≤ 1048576) (hB : B ≤ w.heap.size)
    (h : ∀ v' w', NOwn w' B v' (ns ++ [n]) → w.grownBy w' v.ownBlock → (∀ k, v'.ownBlock = some k → v.ownBlock = some k ∨ w.heap.size ≤ k) → K (a.put dst v') w') :
    Oper.wp Tryd.prog ⟨dst, .call { callee := .builtin .append, args := #[s, x], argTypes := #[62, 62] }, ty, pos, aft, gd⟩ a w K Q := by
  obtain ⟨i0, hi, hz0, hz1, hz2⟩ := info_parts infoN
  obtain ⟨g', cap', w', hr, ho, hgr, hat, hlt⟩ := run_append_lies (P := Tryd.prog) w 62 ty B 57 i0 (.agg (nC (0, 0)).toArray) 2 16 undNl hi hz0 hz1 hz2 rfl (by decide) v _ _ hown ⟨g, 0, none⟩ 1 c (nC n) rfl (fun j u hu => by
    rw [Addr.add_lit, Nat.zero_add, hy.cell]
    exact hu) (One.nC n) (by decide) (by unfold maxLen; omega) (by omega) hB _ rfl
  unfold Oper.wp
  simp [execOp, resolve, invoke, builtin, hs, hx, hr, Result.andThen]
  refine h _ _ (by unfold NOwn; rw [ncs_snoc, List.length_append]; exact ho) hgr (fun k hk => ?_)
  injection hk with hk
  subst hk
  rcases hat with hat | hat
  · exact .inl hat
  · exact .inr (Nat.le_of_eq hat.symm)
set_option maxRecDepth 100000 in
theorem step_oneN {x : Operand} {n : Nat × Nat} (hw : Region.wanted ⟨dst, .buildSlice 62 1 #[(0, x)], ty, pos, aft, gd⟩ (yielded ops a.tmps) = true) (hx : a.eval x = .agg (nC n).toArray) (h : ∀ w1 g, Blk w1 g 57 (nC n) → w.heap.size ≤ g → Below w.heap.size w w1 → wpList Tryd.prog ops Q rest (a.put dst (.slice (some ⟨g, 0, none⟩) 1 1)) w1) :
    wpList Tryd.prog ops Q (⟨dst, .buildSlice 62 1 #[(0, x)], ty, pos, aft, gd⟩ :: rest) a w :=
  BigFrame.wpList_want hw fun K hK => wp_oneN hx fun w1 g h1 h2 h3 => hK _ _ (h w1 g h1 h2 h3)
set_option maxRecDepth 100000 in
theorem step_appendN {s x : Operand} {B : Nat} {v : Value} {ns : List (Nat × Nat)} {n : Nat × Nat} {g c : Nat} (hw : Region.wanted ⟨dst, .call { callee := .builtin .append, args := #[s, x], argTypes := #[62, 62] }, ty, pos, aft, gd⟩ (yielded ops a.tmps) = true)
    (hs : a.eval s = v) (hx : a.eval x = .slice (some ⟨g, 0, none⟩) 1 c) (hown : NOwn w B v ns) (hy : Blk w g 57 (nC n)) (hlen : ns.length ≤ 1048576) (hB : B ≤ w.heap.size)
    (h : ∀ v' w', NOwn w' B v' (ns ++ [n]) → w.grownBy w' v.ownBlock → (∀ k, v'.ownBlock = some k → v.ownBlock = some k ∨ w.heap.size ≤ k) → wpList Tryd.prog ops Q rest (a.put dst v') w') :
    wpList Tryd.prog ops Q (⟨dst, .call { callee := .builtin .append, args := #[s, x], argTypes := #[62, 62] }, ty, pos, aft, gd⟩ :: rest) a w :=
  BigFrame.wpList_want hw fun K hK => wp_appendN hs hx hown hy hlen hB fun v' w' h1 h2 h3 => hK _ _ (h v' w' h1 h2 h3)
end

theorem aux_one (P L : Nat) (HP : Hid (2 ^ L = P)) (h : P ≤ 562949953421312) : wrap64 (2 ^ L) = (P : Int) := by
  have e1 : ((2 : Int) ^ L) = (P : Int) := by rw [← HP.out]; simp [Int.natCast_pow]
  rw [e1]
  unfold wrap64
  omega
/-- The numbers of a step of the search for the level. -/
theorem px_facts (s m L : Nat) (hL : L ≤ 48) (hm : m ≤ 281474976710656) : ∃ P : Nat, Hid (2 ^ (L + 1) = P) ∧ wrap64 (2 ^ (L + 1)) = (P : Int) ∧ ((s : Int)).tmod (P : Int) = ((s % P : Nat) : Int) ∧ ¬ ((P : Int) = 0) ∧ P ≤ 562949953421312 := by
  have hP : 2 ^ (L + 1) ≤ 562949953421312 := Nat.le_trans (Nat.pow_le_pow_right (by decide) (show L + 1 ≤ 49 by omega)) (by decide)
  have hp := Nat.two_pow_pos (L + 1)
  refine ⟨_, hide rfl, aux_one _ _ (hide rfl) hP, ?_, ?_, hP⟩
  · rw [Int.tmod_eq_emod_of_nonneg (by omega), Int.natCast_emod]
  · omega

/-- The next part is the one at that level. -/
theorem px_next {b e k s L : Nat} (hbe : b ≤ e) (he : e ≤ 281474976710656) (hk : k < (parts b e).length) (hs : pbeg b e k = s) (hl : IsLev s (e - s) L) :
    (parts b e)[k]? = some (L, s / 2 ^ L) ∧ pbeg b e (k + 1) = s + 2 ^ L ∧ s + 2 ^ L ≤ e := by
  obtain ⟨q, hq⟩ : ∃ q, (parts b e)[k]? = some q := ⟨_, List.getElem?_eq_getElem hk⟩
  obtain ⟨h1, h2, h3⟩ := pbeg_at hbe he hq
  have hfirst : (parts s e)[0]? = some q := by
    have := parts_drop b e k he
    rw [hs] at this
    rw [← this, List.getElem?_drop]
    exact hq
  rw [parts_step hl he] at hfirst
  simp only [List.getElem?_cons_zero, Option.some.injEq] at hfirst
  subst hfirst
  rw [h2, hs] at h3
  exact ⟨hq, by rw [h2, hs], h3⟩
theorem le_cast {P s e : Nat} (h : s ≤ e) (h2 : P ≤ e - s) : (P : Int) ≤ (e : Int) - (s : Int) := by omega
theorem nle_cast {P s e : Nat} (h : s ≤ e) (h2 : ¬ P ≤ e - s) : ¬ ((P : Int) ≤ (e : Int) - (s : Int)) := by omega
theorem ne0_castP {m : Nat} (h : ¬ m = 0) : ¬ ((m : Int) = 0) := fun e => h (by omega)
theorem px_lv {L : Nat} (h : L < 48) : 48 - (intOf (.int .i64 ((L : Int) + 1))).toNat < 48 - (intOf (.int .i64 (L : Int))).toNat := by
  simp only [intOf]
  omega
theorem take_snoc {α : Type} {l : List α} {k : Nat} {x : α} (h : l[k]? = some x) : l.take (k + 1) = l.take k ++ [x] := by
  obtain ⟨h1, h2⟩ := List.getElem?_eq_some_iff.1 h
  rw [List.take_succ_eq_append_getElem h1, h2]
theorem aux_addP (s P u : Nat) (h : s + P = u) (hu : u ≤ 281474976710656) : wrap64 ((s : Int) + (P : Int)) = (u : Int) := by
  unfold wrap64
  omega
theorem aux_shrP (a L P : Nat) (HP : Hid (2 ^ L = P)) : ((a : Int)) / (2 ^ L) = (a : Int) / (P : Int) := by
  rw [← HP.out, Int.natCast_pow]
  rfl
theorem px_meas {s u e : Nat} (h : s < u) (h2 : s < e) : e - (intOf (.int .i64 (u : Int))).toNat < e - (intOf (.int .i64 (s : Int))).toNat := by
  simp only [intOf]
  omega
set_option maxRecDepth 100000 in
set_option maxHeartbeats 1000000 in
theorem partsR_any (b e : Nat) (w : World) (hbe : b ≤ e) (he : e ≤ 281474976710656) :
    Calls Tryd.prog 21 #[.int .i64 (b : Int), .int .i64 (e : Int)] w fun r w' => ∃ v, r = .returned v ∧ NOwn w' w.heap.size v (parts b e) ∧ Below w.heap.size w w' := by
  go_enter Tryd.func21, Tryd.ntmps21
  go_wp2_with fail
  go_loopw [0, 5] (fun s out wr => ∃ (k : Nat), k ≤ (parts b e).length ∧ s = .int .i64 (pbeg b e k : Int) ∧ Hid (NOwn wr w.heap.size out ((parts b e).take k)) ∧ Hid (Below w.heap.size w wr)) (fun s _ _ => e - (intOf s).toNat)
  case atStart => exact ⟨0, Nat.zero_le _, by rw [pbeg_zero], hide (NOwn.nil _ _), hide (Below.refl _ _)⟩
  case round =>
    obtain ⟨k, hk, rfl, HO, HB⟩ := hrel
    obtain ⟨a1, n1, c1, rfl⟩ : ∃ a n c, u5 = Value.slice a n c := by rcases HO.out.lies with ⟨e1, _⟩ | ⟨_, _, _, e1, _⟩ <;> exact ⟨_, _, _, e1⟩
    have hlen9 : ((parts b e).take k).length ≤ 1048576 := by have := parts_98 b e he; rw [List.length_take]; omega
    obtain ⟨s, HSx⟩ : ∃ s, Hid (pbeg b e k = s) := ⟨_, hide rfl⟩
    rw [HSx.out]
    by_cases hlt : k < (parts b e).length
    · have hse : s < e := by
        obtain ⟨q, hq⟩ : ∃ q, (parts b e)[k]? = some q := ⟨_, List.getElem?_eq_getElem hlt⟩
        obtain ⟨h1, h2, h3⟩ := pbeg_at hbe he hq
        rw [h2, HSx.out] at h3
        have := Nat.two_pow_pos q.1
        omega
      have hse' : (s : Int) < (e : Int) := by omega
      go_wp2_with fail
      go_loopw [6] (fun l w2 => ∃ L : Nat, l = .int .i64 (L : Int) ∧ L ≤ 48 ∧ Hid (2 ^ L ∣ s ∧ 2 ^ L ≤ e - s) ∧ w2 = wr) (fun l _ => 48 - (intOf l).toNat)
      case atStart => exact ⟨0, rfl, by omega, hide ⟨by simp, by simp; omega⟩, rfl⟩
      case round =>
        obtain ⟨L, rfl, hL48, HD, rfl⟩ := hrel
        by_cases hL : L < 48
        · have hLl : (L : Int) < 48 := by omega
          have hu1 : IntKind.u64.wrap ((L : Int) + 1) = (L : Int) + 1 := by rw [IntKind.wrap_u64]; omega
          have hu2 : wrap64 ((L : Int) + 1) = (L : Int) + 1 := by unfold wrap64; omega
          have hsub : wrap64 ((e : Int) - (s : Int)) = (e : Int) - (s : Int) := by unfold wrap64; omega
          obtain ⟨P, HP, hpw1, hrem, hP0, hPm⟩ := px_facts s e L hL48 he
          by_cases hc1 : s % P = 0
          · rw [hc1] at hrem
            have hrem2 : ((s : Int)).tmod (P : Int) = 0 := hrem
            clear hrem
            by_cases hc2 : P ≤ e - s
            · have hc2' := le_cast (Nat.le_of_lt hse) hc2
              have HD2 : Hid (2 ^ (L + 1) ∣ s ∧ 2 ^ (L + 1) ≤ e - s) := hide (by rw [HP.out]; exact ⟨Nat.dvd_of_mod_eq_zero hc1, hc2⟩)
              clear hc1 hc2 HP
              go_wp2
              go_roundw
              case rel => exact ⟨L + 1, by first | rfl | (rw [hu2]; rfl), hL, HD2, by first | rfl | trivial⟩
              case measure => exact px_lv hL
            · have hc2' := nle_cast (Nat.le_of_lt hse) hc2
              have HLV : Hid (IsLev s (e - s) L) := hide ⟨HD.out.1, HD.out.2, fun h => hc2 (by rw [← HP.out]; exact h.2)⟩
              clear hc1 hc2 HP
              obtain ⟨hq, hnx, hle⟩ := px_next hbe he hlt HSx.out HLV.out
              obtain ⟨P0, HP0⟩ : ∃ P, Hid (2 ^ L = P) := ⟨_, hide rfl⟩
              rw [HP0.out] at hq hnx hle
              obtain ⟨u, hu⟩ : ∃ u, s + P0 = u := ⟨_, rfl⟩
              rw [hu] at hnx hle
              have HQ := hide hq
              have HNX := hide hnx
              have had := aux_addP s P0 u hu (Nat.le_trans hle he)
              have hsu : s < u := by rw [← hu, ← HP0.out]; exact Nat.lt_add_of_pos_right (Nat.two_pow_pos L)
              have hshr := aux_shrP s L P0 HP0
              have hpw := aux_one P0 L HP0 (by rw [← HP0.out]; exact Nat.le_trans (Nat.pow_le_pow_right (by decide) hL48) (by decide))
              clear hq hnx hle hu
              go_wp2_with (refine step_oneN (n := (L, s / P0)) rfl rfl ?_)
              intro W1 g1 hg1 hle1 hb1
              have HO1 := hide (HO.out.below hb1)
              have HG1 := hide hg1
              have HB1 := hide (HB.out.trans (hb1.mono HB.out.size))
              clear hg1 hb1
              go_wp2_with (refine step_appendN rfl rfl rfl HO1.out HG1.out hlen9 HB1.out.size ?_)
              intro v2 W2 ho2 hgr2 _
              have HB2 := hide (HB1.out.trans (Below.of_grown hgr2 HB1.out.size (fun k hk => (HO1.out.lt k hk).1)))
              have HO2 : Hid (NOwn W2 w.heap.size v2 ((parts b e).take (k + 1))) := hide (by rw [take_snoc HQ.out]; exact ho2)
              clear ho2 hgr2 HO1 HG1 HB1
              go_wp2
              go_roundw
              case rel => exact ⟨k + 1, hlt, by rw [had, ← HNX.out], HO2, HB2⟩
              case measure => rw [had]; exact px_meas hsu hse
          · have hm0 := ne0_castP hc1
            rw [← hrem] at hm0
            have HLV : Hid (IsLev s (e - s) L) := hide ⟨HD.out.1, HD.out.2, fun h => hc1 (by rw [← HP.out]; exact Nat.mod_eq_zero_of_dvd h.1)⟩
            clear hc1 hrem HP
            obtain ⟨hq, hnx, hle⟩ := px_next hbe he hlt HSx.out HLV.out
            obtain ⟨P0, HP0⟩ : ∃ P, Hid (2 ^ L = P) := ⟨_, hide rfl⟩
            rw [HP0.out] at hq hnx hle
            obtain ⟨u, hu⟩ : ∃ u, s + P0 = u := ⟨_, rfl⟩
            rw [hu] at hnx hle
            have HQ := hide hq
            have HNX := hide hnx
            have had := aux_addP s P0 u hu (Nat.le_trans hle he)
            have hsu : s < u := by rw [← hu, ← HP0.out]; exact Nat.lt_add_of_pos_right (Nat.two_pow_pos L)
            have hshr := aux_shrP s L P0 HP0
            have hpw := aux_one P0 L HP0 (by rw [← HP0.out]; exact Nat.le_trans (Nat.pow_le_pow_right (by decide) hL48) (by decide))
            clear hq hnx hle hu
            go_wp2_with (refine step_oneN (n := (L, s / P0)) rfl rfl ?_)
            intro W1 g1 hg1 hle1 hb1
            have HO1 := hide (HO.out.below hb1)
            have HG1 := hide hg1
            have HB1 := hide (HB.out.trans (hb1.mono HB.out.size))
            clear hg1 hb1
            go_wp2_with (refine step_appendN rfl rfl rfl HO1.out HG1.out hlen9 HB1.out.size ?_)
            intro v2 W2 ho2 hgr2 _
            have HB2 := hide (HB1.out.trans (Below.of_grown hgr2 HB1.out.size (fun k hk => (HO1.out.lt k hk).1)))
            have HO2 : Hid (NOwn W2 w.heap.size v2 ((parts b e).take (k + 1))) := hide (by rw [take_snoc HQ.out]; exact ho2)
            clear ho2 hgr2 HO1 HG1 HB1
            go_wp2
            go_roundw
            case rel => exact ⟨k + 1, hlt, by rw [had, ← HNX.out], HO2, HB2⟩
            case measure => rw [had]; exact px_meas hsu hse
        · have hLl : ¬ (L : Int) < 48 := by omega
          have HLV : Hid (IsLev s (e - s) L) := hide (by
            have h48 : L = 48 := by omega
            refine ⟨HD.out.1, HD.out.2, fun h => ?_⟩
            have h2 := h.2
            rw [h48, show (2 : Nat) ^ (48 + 1) = 562949953421312 by decide] at h2
            omega)
          clear hL
          obtain ⟨hq, hnx, hle⟩ := px_next hbe he hlt HSx.out HLV.out
          obtain ⟨P0, HP0⟩ : ∃ P, Hid (2 ^ L = P) := ⟨_, hide rfl⟩
          rw [HP0.out] at hq hnx hle
          obtain ⟨u, hu⟩ : ∃ u, s + P0 = u := ⟨_, rfl⟩
          rw [hu] at hnx hle
          have HQ := hide hq
          have HNX := hide hnx
          have had := aux_addP s P0 u hu (Nat.le_trans hle he)
          have hsu : s < u := by rw [← hu, ← HP0.out]; exact Nat.lt_add_of_pos_right (Nat.two_pow_pos L)
          have hshr := aux_shrP s L P0 HP0
          have hpw := aux_one P0 L HP0 (by rw [← HP0.out]; exact Nat.le_trans (Nat.pow_le_pow_right (by decide) hL48) (by decide))
          clear hq hnx hle hu
          go_wp2_with (refine step_oneN (n := (L, s / P0)) rfl rfl ?_)
          intro W1 g1 hg1 hle1 hb1
          have HO1 := hide (HO.out.below hb1)
          have HG1 := hide hg1
          have HB1 := hide (HB.out.trans (hb1.mono HB.out.size))
          clear hg1 hb1
          go_wp2_with (refine step_appendN rfl rfl rfl HO1.out HG1.out hlen9 HB1.out.size ?_)
          intro v2 W2 ho2 hgr2 _
          have HB2 := hide (HB1.out.trans (Below.of_grown hgr2 HB1.out.size (fun k hk => (HO1.out.lt k hk).1)))
          have HO2 : Hid (NOwn W2 w.heap.size v2 ((parts b e).take (k + 1))) := hide (by rw [take_snoc HQ.out]; exact ho2)
          clear ho2 hgr2 HO1 HG1 HB1
          go_wp2
          go_roundw
          case rel => exact ⟨k + 1, hlt, by rw [had, ← HNX.out], HO2, HB2⟩
          case measure => rw [had]; exact px_meas hsu hse
    · obtain rfl : k = (parts b e).length := by omega
      have hse : s = e := by rw [← HSx.out]; exact pbeg_end hbe he
      have hse' : ¬ ((s : Int) < (e : Int)) := by omega
      have HO2 : Hid (NOwn wr w.heap.size (.slice a1 n1 c1) (parts b e)) := hide (by have := HO.out; rwa [List.take_length] at this)
      go_wp2
      go_ret
      exact ⟨_, rfl, HO2.out, HB.out⟩

end Go.Proofs.YtnjkjickclkmhaaDoor

/-
  A slice of one digest made; slices of digests of the call's own, once more; the document's path.
-/
namespace Go.Proofs.YtnjkjickclkmhaaDoor
open Go.RowKit
set_option linter.unusedVariables false

theorem DOwn.base {w : World} {B B' : Nat} {v : Value} {n : Nat} {xs : List Int} (h : DOwn w B v n xs) (hB : B' ≤ B) : DOwn w B' v n xs := by
  obtain ⟨h1, h2⟩ := h
  refine ⟨h1, ?_⟩
  rcases h2 with h2 | ⟨g, cap, cur, e, hg, r⟩
  · exact .inl h2
  · exact .inr ⟨g, cap, cur, e, Nat.le_trans hB hg, r⟩
theorem splD_all (xs : List Int) (h : xs.length = 32) : spl (u8s (zer 32)) (u8s xs) 0 = u8s xs := by
  unfold spl
  rw [List.drop_of_length_le (by rw [u8s_length, u8s_length, zer_length]; omega)]
  simp
theorem build_D (ds : List Int) (hd : ds.length = 32) (w : World) :
    (Instr.buildSlice 27 1 #[(0, .agg (u8s ds).toArray)]).run Tryd.prog w = .ok (.slice (some ⟨w.heap.size, 0, none⟩) 1 1) (w.alloc (.cells (u8s ds).toArray 34)) := by
  obtain ⟨i0, hi, hz0, hz1, hz2⟩ := info_parts infoD
  refine run_buildSlice w 27 34 1 _ _ i0 _ undDl hi hz0 (by rw [hz1]; decide) (by rw [hz1]; decide) ?_
  rw [hz1]
  have e0 : ((Array.range (1 * 32)).map ((Value.agg (u8s (zer 32)).toArray).cells[· % (Value.agg (u8s (zer 32)).toArray).cells.size]!)) = (u8s (zer 32)).toArray := by kernel_rfl
  rw [e0]
  show Instr.fill _ _ [(0, Value.agg (u8s ds).toArray)] = _
  rw [fill_cons (place := fun i => some (i * 32, 32)) (off := 0) (size := 32) (vs := u8s ds) rfl rfl (by rw [u8s_length, hd]) (by rw [u8s_length, zer_length]; omega), fill_nil, splD_all ds hd]
section
variable {dst : Option Tmp} {ty : TypeId} {pos : String} {aft : Array Edge} {gd : Option (Nat × Bool)} {a : Act} {w : World} {K : Act → World → Prop} {Q : Exit → Act → World → Prop}
set_option maxRecDepth 100000 in
theorem wp_oneD {x : Operand} {ds : List Int} (hx : a.eval x = .agg (u8s ds).toArray) (hd : ds.length = 32) (hb : isB ds) (h : ∀ w1 g, Ds w1 (some ⟨g, 0, none⟩) 1 1 ds → Below w.heap.size w w1 → K (a.put dst (.slice (some ⟨g, 0, none⟩) 1 1)) w1) :
    Oper.wp Tryd.prog ⟨dst, .buildSlice 27 1 #[(0, x)], ty, pos, aft, gd⟩ a w K Q := by
  have hs := (Blk.made w 34 (u8s ds)).sl0 hb (by omega)
  rw [hd] at hs
  refine wp_runV (.slice (some ⟨w.heap.size, 0, none⟩) 1 1) (w.alloc (.cells (u8s ds).toArray 34)) ?_ (h _ _ ⟨Nat.le_refl _, by omega, (fun e => by cases e), hs⟩ ((Below.refl _ _).alloc (Nat.le_refl _) _))
  unfold execOp
  simp only [List.map_toArray, List.map_cons, List.map_nil, hx]
  simp only [Sem.run_bind, build_D ds hd, Result.andThen_ok, Sem.run_pure]
end

theorem wp_appendDG {dst : Option Tmp} {s x : Operand} {ty : TypeId} {pos : String} {aft : Array Edge} {gd : Option (Nat × Bool)} {K : Act → World → Prop} {a : Act} {w : World} {Q : Exit → Act → World → Prop}
    {B : Nat} {v : Value} {n : Nat} {xs : List Int} {sa : Option Addr} {m c : Nat} {ys : List Int}
    (hs : a.eval s = v) (hx : a.eval x = .slice sa m c) (hown : DOwn w B v n xs) (hy : Ds w sa m c ys) (hlen : n + m ≤ 4398046511104) (hB : B ≤ w.heap.size)
    (h : ∀ v' w', DOwn w' B v' (n + m) (xs ++ ys) → w.grownBy w' v.ownBlock → K (a.put dst v') w') :
    Oper.wp Tryd.prog ⟨dst, .call { callee := .builtin .append, args := #[s, x], argTypes := #[27, 27] }, ty, pos, aft, gd⟩ a w K Q :=
  wp_appendD rfl hs hx hown hy hlen hB h


end Go.Proofs.YtnjkjickclkmhaaDoor

/-
  Steps of a walk inside a round of a range over a function.
-/
namespace Go.Proofs.YtnjkjickclkmhaaDoor
open Go.RowKit Go.Shelf
set_option linter.unusedVariables false

/-- The fence that shuts nothing out, inside a round or not. -/
def WideF (F : Fence) : Prop := F = Fence.wide ∨ ∃ l, F = Fence.wide.inRound l
theorem WideF.wide : WideF Fence.wide := .inl rfl
theorem WideF.round (l : Nat) : WideF (Fence.wide.inRound l) := .inr ⟨l, rfl⟩
theorem WideF.fn {F : Fence} (h : WideF F) (f : FuncId) : F.fn f := by rcases h with rfl | ⟨l, rfl⟩ <;> trivial
theorem WideF.depth {F : Fence} (h : WideF F) : F.depth = none := by rcases h with rfl | ⟨l, rfl⟩ <;> rfl
theorem calls_round {F : Fence} {n : Nat} {P : Program} {f : FuncId} {args : Array Value} {w : World} {R : Ending → World → Prop} (hF : WideF F) (h : Calls P f args w R) : CallsIn F n P f args w R := by
  rcases hF with rfl | ⟨l, rfl⟩
  · exact (callsIn_wide (n := n)).2 h
  · exact (callsIn_wide (n := n)).2 h

/-- What an operation does inside a round is what it does everywhere. -/
theorem lift_op {F : Fence} {n : Nat} {P : Program} {o : Oper} {a : Act} {w : World} {K : Act → World → Prop} {Q : Exit → Act → World → Prop} (hF : WideF F) (hd : ∀ c, o.op ≠ .defer c) (h : Oper.wp P o a w K Q) : Oper.wpIn F n P o a w K Q := by
  refine ⟨fun f hf => hF.fn f, ?_⟩
  rw [Oper.semAt_plain _ _ _ hd]
  unfold Oper.wp at h
  cases hr : (execOp a.eval o).run P w with
  | ok r w' =>
    rw [hr] at h
    cases r with
    | enter f args => exact ⟨(fun hx => by rw [hF.depth] at hx; cases hx), calls_round hF h⟩
    | round => exact h.elim
    | row row args => 
      refine ⟨(fun hx => by rw [hF.depth] at hx; cases hx), ?_⟩
      rcases hF with rfl | ⟨l, rfl⟩
      · exact fun c cs _ => let ⟨v, w', r, s⟩ := h c cs; ⟨v, w', r, stepsIn_wide.2 s⟩
      · exact fun c cs _ => let ⟨v, w', r, s⟩ := h c cs; ⟨v, w', r, stepsIn_wide.2 s⟩
    | _ => exact h
  | halt x w' =>
    rw [hr] at h
    cases x <;> exact h

section
variable {F : Fence} {n : Nat} {dst : Option Tmp} {ty : TypeId} {pos : String} {aft : Array Edge} {gd : Option (Nat × Bool)} {ops : Array Oper} {rest : List Oper} {a : Act} {w : World} {Q : Exit → Act → World → Prop}
theorem istep {P : Program} {o : Oper} (hF : WideF F) (hd : ∀ c, o.op ≠ .defer c) (hw : Region.wanted o (yielded ops a.tmps) = true)
    (h : ∀ K : Act → World → Prop, (∀ a w, wpListIn F n P ops Q rest a w → K a w) → Oper.wp P o a w K Q) : wpListIn F n P ops Q (o :: rest) a w :=
  BigFrame.wpListIn_want hw fun K hK => lift_op hF hd (h K hK)
theorem istep_run {P : Program} {o : Oper} (hF : WideF F) (hd : ∀ c, o.op ≠ .defer c) (hw : Region.wanted o (yielded ops a.tmps) = true) (v : Value) (w' : World) (hrun : (execOp a.eval o).run P w = .ok (.value v) w')
    (h : wpListIn F n P ops Q rest (a.put o.dst v) w') : wpListIn F n P ops Q (o :: rest) a w :=
  istep hF hd hw fun K hK => by
    unfold Oper.wp
    rw [hrun, Oper.upon_value]
    exact hK _ _ h
theorem istep_alloc (hF : WideF F) {T : TypeId} {cs : List Value} (hz : Zeroed T cs) (hw : Region.wanted ⟨dst, .alloc T, ty, pos, aft, gd⟩ (yielded ops a.tmps) = true)
    (h : ∀ w1 g, Blk w1 g T cs → w.heap.size ≤ g → Below w.heap.size w w1 → wpListIn F n Tryd.prog ops Q rest (a.put dst (.pointer (some ⟨g, 0, none⟩))) w1) :
    wpListIn F n Tryd.prog ops Q (⟨dst, .alloc T, ty, pos, aft, gd⟩ :: rest) a w :=
  istep_run hF (fun c => by simp) hw _ _ (hz a.eval dst ty pos aft gd w) (h _ _ (Blk.made _ _ _) (Nat.le_refl _) ((Below.refl _ _).alloc (Nat.le_refl _) _))
theorem istep_load (hF : WideF F) {T : TypeId} {k : Nat} (hT : Wide T k) {x : Operand} (hw : Region.wanted ⟨dst, .load T x, ty, pos, aft, gd⟩ (yielded ops a.tmps) = true) {g off : Nat} {t : TypeId} {cs : List Value} (hx : a.eval x = .pointer (some ⟨g, off, none⟩)) (hg : Blk w g t cs)
    (vs : List Value) (hn : vs.length = k) (he : (cs.drop off).take k = vs) (h : wpListIn F n Tryd.prog ops Q rest (a.put dst (.agg vs.toArray)) w) :
    wpListIn F n Tryd.prog ops Q (⟨dst, .load T x, ty, pos, aft, gd⟩ :: rest) a w :=
  istep hF (fun c => by simp) hw fun _ hK => wp_loadW hT rfl hx hg vs hn he (hK _ _ h)
theorem istep_loadA (hF : WideF F) {T : TypeId} {k : Nat} (hT : Wide T k) {x : Operand} (hw : Region.wanted ⟨dst, .load T x, ty, pos, aft, gd⟩ (yielded ops a.tmps) = true) {g : Nat} {t : TypeId} {cs : List Value} (hx : a.eval x = .pointer (some ⟨g, 0, none⟩)) (hg : Blk w g t cs)
    (hn : cs.length = k) (h : wpListIn F n Tryd.prog ops Q rest (a.put dst (.agg cs.toArray)) w) :
    wpListIn F n Tryd.prog ops Q (⟨dst, .load T x, ty, pos, aft, gd⟩ :: rest) a w :=
  istep_load hF hT hw hx hg cs hn (by rw [List.drop_zero, List.take_of_length_le (by omega)]) h
theorem istep_storeA (hF : WideF F) {T : TypeId} {k : Nat} (hT : Wide T k) {x y : Operand} (hw : Region.wanted ⟨dst, .store T x y, ty, pos, aft, gd⟩ (yielded ops a.tmps) = true) {g : Nat} {t : TypeId} {cs vs : List Value} (hx : a.eval x = .pointer (some ⟨g, 0, none⟩)) (hy : a.eval y = .agg vs.toArray) (hg : Blk w g t cs)
    (hn : vs.length = k) (h1 : One vs) (hl : cs.length = k) (h : ∀ w1, Blk w1 g t vs → But g w w1 → wpListIn F n Tryd.prog ops Q rest (a.put dst undef) w1) :
    wpListIn F n Tryd.prog ops Q (⟨dst, .store T x y, ty, pos, aft, gd⟩ :: rest) a w :=
  istep hF (fun c => by simp) hw fun _ hK => wp_storeW hT rfl hx hy hg hn h1 (by omega) fun w1 hb hbut => hK _ _ (h w1 (by
    have e : spl cs vs 0 = vs := by
      unfold spl
      rw [List.drop_of_length_le (by omega)]
      simp
    rwa [e] at hb) hbut)
theorem istep_loadR (hF : WideF F) {T : TypeId} {k : Nat} (hT : Wide T k) {x : Operand} (hw : Region.wanted ⟨dst, .load T x, ty, pos, aft, gd⟩ (yielded ops a.tmps) = true) {g off : Nat} (hx : a.eval x = .pointer (some ⟨g, off, none⟩))
    (vs : List Value) (hr : w.rangeAt g off vs) (hn : vs.length = k) (h : wpListIn F n Tryd.prog ops Q rest (a.put dst (.agg vs.toArray)) w) :
    wpListIn F n Tryd.prog ops Q (⟨dst, .load T x, ty, pos, aft, gd⟩ :: rest) a w := by
  refine istep hF (fun c => by simp) hw fun _ hK => ?_
  obtain ⟨d, hu, hd⟩ := hT.und
  subst hn
  exact wp_load_mid T x rfl g off hx vs d hr hu hd hT.size (hK _ _ h)
end

end Go.Proofs.YtnjkjickclkmhaaDoor

/-
  slices.Clone of a range's parts; the iterator of a range that is made.
-/
namespace Go.Proofs.YtnjkjickclkmhaaDoor
open Go.RowKit Go.Shelf
set_option linter.unusedVariables false

theorem pown_empty (w : World) : POwn (w.alloc (.cells #[] 59)) w.heap.size (.slice (some ⟨w.heap.size, 0, none⟩) 0 0) [] :=
  ⟨by simp [pcs], .inr ⟨w.heap.size, 0, #[], rfl, Nat.le_refl _, Blk.made w 59 [], Nat.le_refl _, by unfold maxLen; omega, by simp, by simp [pcs]⟩⟩
theorem step_appendPs {dst : Option Tmp} {s x : Operand} {ty : TypeId} {pos : String} {aft : Array Edge} {gd : Option (Nat × Bool)} {ops : Array Oper} {rest : List Oper} {a : Act} {w : World} {Q : Exit → Act → World → Prop}
    {B : Nat} {v : Value} {g c : Nat} {ps : List Pt} {cs : List Value}
    (hw : Region.wanted ⟨dst, .call { callee := .builtin .append, args := #[s, x], argTypes := #[52, 52] }, ty, pos, aft, gd⟩ (yielded ops a.tmps) = true)
    (hs : a.eval s = v) (hx : a.eval x = .slice (some ⟨g, 0, none⟩) ps.length c) (hown : POwn w B v []) (hgl : GoodL ps) (hy : Blk w g 59 cs) (ht : cs.take (ps.length * 34) = pcs ps) (hlen : ps.length ≤ 1048576) (hB : B ≤ w.heap.size)
    (h : ∀ v' w', POwn w' B v' ps → w.grownBy w' v.ownBlock → wpList Tryd.prog ops Q rest (a.put dst v') w') :
    wpList Tryd.prog ops Q (⟨dst, .call { callee := .builtin .append, args := #[s, x], argTypes := #[52, 52] }, ty, pos, aft, gd⟩ :: rest) a w := by
  obtain ⟨i0, hi, hz0, hz1, hz2⟩ := info_parts infoP
  refine BigFrame.wpList_want hw fun K hK => ?_
  refine wp_append_own _ s x 52 rfl B 59 i0 (.agg pz.toArray) 34 48 undPl hi hz0 hz1 hz2 rfl (by decide) v _ _ hs hown ⟨g, 0, none⟩ ps.length c (pcs ps) hx (pcs_length hgl) ?_ ?_ (by unfold maxLen; simp; omega) (by simp; omega) hB ?_
  · intro j u hu
    rw [Addr.add_lit, Nat.zero_add, hy.cell]
    rw [← ht, List.getElem?_take] at hu
    split at hu
    · exact hu
    · cases hu
  · intro u hu
    simp only [pcs, List.mem_flatMap] at hu
    obtain ⟨p, _, hp⟩ := hu
    exact One.pc p u hp
  · intro v' w' h1 h2 _
    refine hK _ _ (h v' w' ?_ h2)
    unfold POwn
    have e0 : ([] : List Pt).length + ps.length = ps.length := by simp
    rw [e0] at h1
    simpa [pcs] using h1

set_option maxRecDepth 100000 in
theorem clone_any (B : Nat) (v : Value) (ps : List Pt) (w : World) (ho : POwn w B v ps) (hgl : GoodL ps) (hl : ps.length ≤ 1000) : Calls Tryd.prog 20 #[v] w fun r w' => ∃ v', r = .returned v' ∧ POwn w' w.heap.size v' ps ∧ Below w.heap.size w w' := by
  rcases ho.lies with ⟨rfl, rfl⟩ | ⟨g, cap, cs, rfl, hB, hb, hc, hm, hcl, ht⟩
  · have heq : ∀ u : World, (binOp BinOp.eql 52 (.slice none 0 0) (.slice none 0 0)).run Tryd.prog u = .ok (.bool true) u := fun u => by kernel_rfl
    go_enter Tryd.func20, Tryd.ntmps20
    go_wp2
    go_ret
    exact ⟨_, rfl, POwn.nil _ _, Below.refl _ _⟩
  · have HB := hide hb
    have HT := hide ht
    have HGL := hide hgl
    clear ho hb ht hgl
    have heq : ∀ u : World, (binOp BinOp.eql 52 (.slice (some ⟨g, 0, none⟩) ps.length cap) (.slice none 0 0)).run Tryd.prog u = .ok (.bool false) u := fun u => by kernel_rfl
    go_enter Tryd.func20, Tryd.ntmps20
    go_wp2_with (refine step_appendPs rfl rfl rfl (pown_empty _) HGL.out (HB.out.below ((Below.refl _ _).alloc (Nat.le_refl _) _) HB.out.lt) HT.out (by omega) (by simp) ?_)
    intro v5 w5 ho5 hg5
    have hb5 : Below w.heap.size w w5 := ((Below.refl _ w).alloc (Nat.le_refl _) _).trans (Below.of_grown hg5 (by simp) (fun k hk => by
      have hk' : some w.heap.size = some k := hk
      injection hk' with hk'
      omega))
    go_wp2
    go_ret
    exact ⟨_, rfl, ho5, hb5⟩

/-- What a loop's body may turn: blocks of its own (M), and new ones. -/
structure KM (M : World → Nat → Prop) (A B : World) : Prop where
  size : A.heap.size ≤ B.heap.size
  keep : ∀ k o, A.heap[k]? = some o → o.isCells = true → ¬ M A k → B.heap[k]? = some o
  mine : ∀ k, k < A.heap.size → M B k → M A k
theorem KM.trans {M : World → Nat → Prop} {A B C : World} (h : KM M A B) (k : KM M B C) : KM M A C :=
  ⟨Nat.le_trans h.size k.size, fun i o hi ho hm => k.keep i o (h.keep i o hi ho hm) ho (fun hb => hm (h.mine i (Array.getElem?_eq_some_iff.1 hi).1 hb)), fun i hi hm => h.mine i hi (k.mine i (Nat.lt_of_lt_of_le hi h.size) hm)⟩
/-- Blocks that are told by what lay there at the loop's beginning. -/
structure Mine (n₀ : Nat) (M : World → Nat → Prop) : Prop where
  below : ∀ A B, n₀ ≤ A.heap.size → Below A.heap.size A B → ∀ k, k < A.heap.size → M B k → M A k
  put : ∀ A l o, n₀ ≤ l → l < A.heap.size → ∀ k, k < A.heap.size → M (A.putObj l o) k → M A k
/-- Of what was laid behind w none is among them. -/
def Fresh (w : World) (M : World → Nat → Prop) : Prop := ∀ A, Below w.heap.size w A → ∀ k, M A k → k < w.heap.size
theorem KM.book {n₀ : Nat} {M : World → Nat → Prop} (hM : Mine n₀ M) {w : World} (hn : n₀ ≤ w.heap.size) (W : World) (l : Nat) (o o' : Obj) (hl : w.heap.size ≤ l) (h : W.heap[l]? = some o) (hc : o.isCells = false) (_ : o.isWalk = false) : KM M W (W.putObj l o') :=
  ⟨(grownBy_putObj' W l o').size, fun k q hk hq _ => by
    have hne : k ≠ l := fun e => by
      subst e
      rw [h] at hk
      injection hk with hk
      subst hk
      rw [hc] at hq
      cases hq
    rw [World.putObj_heap_other hne]
    exact hk, fun k hk hm => hM.put W l o' (Nat.le_trans hn hl) (Array.getElem?_eq_some_iff.1 h).1 k hk hm⟩
/-- One block. -/
theorem Mine.one {n₀ g : Nat} (h : g < n₀) : Mine n₀ (fun A k => k = g ∧ k < A.heap.size) :=
  ⟨fun A B hn _ k hk hm => ⟨hm.1, hk⟩, fun A l o hl hlt k hk hm => ⟨hm.1, hk⟩⟩
theorem Fresh.one {w : World} {g : Nat} (h : g < w.heap.size) : Fresh w (fun A k => k = g ∧ k < A.heap.size) := fun A _ k hm => by have := hm.1; omega
theorem km_below {n₀ : Nat} {M : World → Nat → Prop} (hM : Mine n₀ M) {A B : World} (hn : n₀ ≤ A.heap.size) (h : Below A.heap.size A B) : KM M A B :=
  ⟨h.size, fun k o hk _ _ => (h.block k (Array.getElem?_eq_some_iff.1 hk).1).trans hk, fun k hk hm => hM.below A B hn h k hk hm⟩
theorem km_one {g : Nat} {A B : World} (h : But g A B) (hlt : g < A.heap.size) : KM (fun A k => k = g ∧ k < A.heap.size) A B :=
  ⟨Nat.le_of_eq h.size.symm, fun k o hk _ hm => (h.block k (fun e => hm ⟨e, by omega⟩)).trans hk, fun k hk hm => ⟨hm.1, hk⟩⟩
theorem keepsO_below {A B : World} (h : Below A.heap.size A B) : KeepsOthers A B := ⟨h.size, fun k o hk _ => (h.block k (Array.getElem?_eq_some_iff.1 hk).1).trans hk⟩
theorem keepsO_but {g : Nat} {t : TypeId} {cs : List Value} {A B : World} (h : But g A B) (hg : Blk A g t cs) : KeepsOthers A B := ⟨Nat.le_of_eq h.size.symm, fun k o hk hc => (h.block k (fun e => by
  subst e
  rw [hg] at hk
  injection hk with hk
  subst hk
  cases hc)).trans hk⟩
theorem grown_none {A B : World} (h : Below A.heap.size A B) : A.grownBy B none := ⟨h.os, h.tape, h.output, h.size, fun k hk _ => h.block k hk⟩

/-- The i-th part, or any that is good. -/
def pG (ps : List Pt) (i : Nat) : Pt := if i < ps.length then pAt ps i else ((49, 0), zer 32)
theorem pG_good {ps : List Pt} (h : GoodL ps) (i : Nat) : Good (pG ps i) := by
  unfold pG
  split
  · rename_i hi; exact pAt_good h hi
  · exact ⟨zer_length 32, zer_isB 32, by simp, by simp⟩
theorem meas_lt {k n : Nat} (h : k < n) : n - (intOf (.int .i64 ((k : Int) + 1))).toNat < n - (intOf (.int .i64 (k : Int))).toNat := by
  simp only [intOf]
  omega
theorem range_pre {k n : Nat} (h : k ≤ n) : List.range k <+: List.range n := by
  obtain ⟨d, rfl⟩ : ∃ d, n = k + d := ⟨n - k, by omega⟩
  rw [List.range_add]
  exact List.prefix_append _ _
/-- The clone that the iterator goes through. -/
def CL (M : World → Nat → Prop) (a : Option Addr) (ps : List Pt) (W : World) : Prop := ps = [] ∨ ∃ c cs, a = some ⟨c, 0, none⟩ ∧ Blk W c 59 cs ∧ cs.take (ps.length * 34) = pcs ps ∧ ¬ M W c

set_option maxRecDepth 100000 in
set_option maxHeartbeats 1000000 in
theorem all_stops (B g b e : Nat) (v : Value) (ps : List Pt) (Bs n₀ : Nat) (w : World) (hB : Bs < n₀) (hn0 : n₀ ≤ w.heap.size) (hBs : w.cell? ⟨Bs, 0, none⟩ = some (.pointer (some ⟨g, 0, none⟩))) (hr : Rg w B g b e v ps) (M : World → Nat → Prop) (hM : Mine n₀ M) (hF : Fresh w M) :
    SeqStopsK Fence.wide 2 Tryd.prog 39 #[.pointer (some ⟨Bs, 0, none⟩)] (fun i : Nat => #[Value.agg (nC (pG ps i).1).toArray, Value.agg (u8s (pG ps i).2).toArray]) (KM M) (fun xs => xs = List.range ps.length) (fun pre => pre <+: List.range ps.length) ps.length w := by
  intro l J Jx W hW hJ hJx hY h0
  have hc : W.cell? ⟨Bs, 0, none⟩ = some (.pointer (some ⟨g, 0, none⟩)) := cell_below hBs hW
  have HR := hide (hr.below hW)
  have c0 : W.cell? ⟨g, 0, none⟩ = some (.bool true) := by rw [HR.out.blk.cell]; rfl
  have hwW := hW.size
  have HW := hide hW
  obtain ⟨a0, n0, q0, rfl⟩ : ∃ a n c, v = Value.slice a n c := by rcases hr.own.lies with ⟨rfl, _⟩ | ⟨_, _, _, rfl, _⟩ <;> exact ⟨_, _, _, rfl⟩
  have c3 : W.cell? ⟨g, 3, none⟩ = some (.slice a0 n0 q0) := by rw [HR.out.blk.cell]; rfl
  clear hr hBs hW
  refine callsIn_of_wp Tryd.func39 rfl trivial ?_ rfl
  simp only [Tryd.ntmps39, List.size_toArray, List.length_cons, List.length_nil, Nat.reduceAdd, Nat.reduceSub, Array.replicate_succ, Array.replicate_zero, List.push_toArray, List.append_toArray, List.nil_append, List.cons_append]
  gi_wp2_with fail
  refine ⟨trivial, (callsIn_wide.2 (made_is _ _ c0)).mono ?_⟩
  rintro r w' ⟨rfl, rfl⟩
  gi_wp2_with fail
  refine ⟨trivial, (callsIn_wide.2 (clone_any B _ ps _ HR.out.own HR.out.good (by have := HR.out.count; omega))).mono ?_⟩
  rintro r W1 ⟨v1, rfl, ho1, hb1⟩
  obtain ⟨a1, q1, rfl, hcl⟩ : ∃ a q, v1 = Value.slice a ps.length q ∧ CL M a ps W1 := by
    rcases ho1.lies with ⟨rfl, rfl⟩ | ⟨c, q, cs, rfl, hcB, hb, _, _, _, ht⟩
    · exact ⟨none, 0, rfl, .inl rfl⟩
    · exact ⟨_, q, rfl, .inr ⟨c, cs, rfl, hb, ht, fun hm => by
        have := hF W1 (HW.out.trans (hb1.mono HW.out.size)) c hm
        omega⟩⟩
  have HJ0 := hide (hJ [] W W1 none h0 (grown_none hb1) (fun r e => by cases e))
  have HCL := hide hcl
  have hnW1 : n₀ ≤ W1.heap.size := Nat.le_trans (Nat.le_trans hn0 hwW) hb1.size
  have HN := hide HR.out.count
  have HGL := hide HR.out.good
  obtain ⟨dP, huP, hdP⟩ := wP.und
  clear ho1 hb1 hcl c0 c3 hc HR h0
  gi_wp2_with fail
  gi_loopw [14] (fun i wr => ∃ k : Nat, k ≤ ps.length ∧ i = .int .i64 (k : Int) ∧ Hid (J (List.range k) wr) ∧ Hid (CL M a1 ps wr) ∧ n₀ ≤ wr.heap.size) (fun i _ => ps.length - (intOf i).toNat)
  case atStart => exact ⟨0, Nat.zero_le _, rfl, HJ0, HCL, hnW1⟩
  case round =>
    obtain ⟨k, hk, rfl, HJ, HC, hnr⟩ := hrel
    clear HJ0 HCL hnW1
    by_cases hlt : k < ps.length
    · have hlt' : (k : Int) < (ps.length : Int) := by omega
      obtain ⟨c, cs, rfl, hcb, hct, hcm⟩ : ∃ c cs, a1 = some ⟨c, 0, none⟩ ∧ Blk wr c 59 cs ∧ cs.take (ps.length * 34) = pcs ps ∧ ¬ M wr c := by
        rcases HC.out with e0 | h
        · subst e0; simp at hlt
        · exact h
      have HCB := hide hcb
      have HCT := hide hct
      have HCM := hide hcm
      have HPG := hide (pAt_good HGL.out hlt)
      have HPL := hide (pc_length HPG.out)
      have hix := p_at c ps.length q1 k (k : Int) rfl hlt
      have HRA : Hid (wr.rangeAt c (k * 34) (pc (pAt ps k))) := hide (hcb.range _ _ (by
        have hpa := pcs_at HGL.out hlt
        rw [← hct, List.drop_take, List.take_take] at hpa
        rw [HPL.out, ← hpa]
        congr 1
        have : (k + 1) * 34 ≤ ps.length * 34 := Nat.mul_le_mul_right 34 hlt
        omega))
      have EG : Hid (pG ps k = pAt ps k) := hide (by unfold pG; rw [if_pos hlt])
      clear hcb hct hcm HC
      gi_wp2_with (first | (refine istep_loadR .wide wP rfl rfl _ HRA.out HPL.out ?_) | (refine istep_alloc .wide zP rfl ?_))
      intro W2 g4 hg4 hle4 hb4
      gi_wp2_with (refine istep_storeA .wide wP rfl rfl rfl hg4 HPL.out (One.pc _) rfl ?_)
      intro W3 hg43 hbut
      have hb3 : Below wr.heap.size wr W3 := hb4.trans (hbut.below hle4)
      have HB3 := hide hb3
      have G4 := hide hg43
      have HJ3 := hide (hJ _ wr W3 none HJ.out (grown_none hb3) (fun r e => by cases e))
      clear hg4 hb4 hbut hg43 hb3
      have HDLk := hide (show (u8s (pAt ps k).2).length = 32 by rw [u8s_length, HPG.out.len])
      obtain ⟨fn, tmps, assign, body, hy, hR⟩ := hY (List.range k) k W3 HJ3.out (by rw [List.length_range]; exact hlt)
      simp only [EG.out] at hy
      have hwm : wrap64 ((k : Int) + 1) = (k : Int) + 1 := by unfold wrap64; have := HN.out; omega
      have HC3 : Hid (Blk W3 c 59 cs ∧ ¬ M W3 c) := hide ⟨HCB.out.below HB3.out HCB.out.lt, fun hm => HCM.out (hM.below wr W3 hnr HB3.out c HCB.out.lt hm)⟩
      gi_wp2_with (first | (refine istep_load .wide wNd rfl rfl G4.out (nC (pAt ps k).1) rfl rfl ?_) | (refine istep_load .wide wD rfl rfl G4.out (u8s (pAt ps k).2) HDLk.out (by exact List.take_of_length_le (by rw [show (pc (pAt ps k)).drop 2 = u8s (pAt ps k).2 from rfl, HDLk.out]; omega)) ?_))
      refine hR.mono ?_
      rintro r W4 (⟨rfl, hJ4, hk4⟩ | ⟨rfl, hJx4⟩)
      · have HJ4 := hide (show J (List.range (k + 1)) W4 by rw [List.range_succ]; exact hJ4)
        have HC4 : Hid (CL M (some ⟨c, 0, none⟩) ps W4) := hide (.inr ⟨c, cs, rfl, hk4.keep c _ HC3.out.1 rfl HC3.out.2, HCT.out, fun hm => HC3.out.2 (hk4.mine c HC3.out.1.lt hm)⟩)
        have hn4 : n₀ ≤ W4.heap.size := Nat.le_trans hnr (Nat.le_trans HB3.out.size hk4.size)
        clear hJ4 hk4
        gi_wp2
        go_roundw
        case rel => exact ⟨k + 1, by omega, by first | rfl | go_num, HJ4, HC4, hn4⟩
        case measure => rw [hwm]; exact meas_lt hlt
      · have HJx4 := hide hJx4
        clear hJx4
        gi_wp2
        refine bodyPost_ret (results_none rfl _ _ _) rfl ?_
        exact ⟨⟨_, rfl⟩, .inr ⟨_, by rw [← List.range_succ]; exact range_pre (by omega), HJx4.out⟩⟩
    · obtain rfl : k = ps.length := by omega
      have hlt' : ¬ ((ps.length : Int) < (ps.length : Int)) := by omega
      gi_wp2
      go_end0
      exact ⟨⟨_, rfl⟩, .inl HJ.out⟩

end Go.Proofs.YtnjkjickclkmhaaDoor

/-
  A range over a function whose variables lie in blocks of their own.
-/
namespace Go.Proofs.YtnjkjickclkmhaaDoor
open Go.RowKit Go.Shelf
set_option linter.unusedVariables false

theorem Blk.kept {A B : World} {g : Nat} {t : TypeId} {cs : List Value} {row : Option Nat} (h : Blk A g t cs) (hg : A.grownBy B row) (hr : ∀ r, row = some r → ∃ o : Obj, A.heap[r]? = some o ∧ o.isCells = false) : Blk B g t cs := by
  have e : B.heap[g]? = A.heap[g]? := hg.block g h.lt (fun e => by
    obtain ⟨o, ho, hc⟩ := hr g e.symm
    rw [h] at ho
    injection ho with ho
    subst ho
    cases hc)
  unfold Blk
  rw [e]
  exact h
theorem KT.kept {A B : World} {row : Option Nat} (h : KT A) (hg : A.grownBy B row) (hr : ∀ r, row = some r → 2 < r) : KT B := fun i hi => by
  rw [World.cell?_of_block (w := A) (hg.block 2 h.lt (fun e => by have := hr _ e.symm; omega))]
  exact h i hi

theorem range1 {F : Fence} {n : Nat} {P : Program} {α : Type} {g : Operand} {ps : Array Tmp} {assign body : Code} {Q : Exit → Act → World → Prop} {a : Act} {w : World}
    (hro : F.round = none) (h1 : 1 ≤ n) {gf : Nat} {lb : Array Value} (hg : a.eval g = .func (.func gf) #[] lb) (hFg : F.fn gf) (eg : ∀ args w, (callFunc gf args).run P w = .ok (.enter gf args) w)
    {encs : α → Array Value} {Kp : World → World → Prop} {S Sp : List α → Prop} {N : Nat} (hseq : SeqStopsK F (n - 1) P gf lb encs Kp S Sp N w)
    (hKt : ∀ {A B C : World}, Kp A B → Kp B C → Kp A C) (hKb : ∀ (W : World) (l : Nat) (o o' : Obj), w.heap.size ≤ l → W.heap[l]? = some o → o.isCells = false → o.isWalk = false → Kp W (W.putObj l o')) (hKs : ∀ A B, w.heap.size ≤ A.heap.size → Below A.heap.size A B → Kp A B) (hps : ∀ x, (encs x).size = ps.size)
    (I : List α → World → Prop) (Ix : Code → List α → World → Prop) (hI : OwnFrom w.heap.size I) (hIs : ∀ pre A, I pre A → w.heap.size ≤ A.heap.size) (hIx : ∀ c, OwnFrom w.heap.size (Ix c)) (h0 : I [] w) (t1 : TypeId) (c1 : α → List Value) (a₁ : α → Nat → Act)
    (hassign : ∀ (l : Nat) (x : α) (W : World) (K : Act → World → Prop), (∀ g1 W', Below W.heap.size W W' → Blk W' g1 t1 (c1 x) → K (a₁ x g1) W') →
      assign.wpIn (F.inRound l) (n - 1 - 1) P (Exit.then K (fun _ _ _ => False)) { tmps := (ps.zip (encs x)).foldl (fun t (p, v) => t.setIfInBounds p v) a.tmps, defers := [] } W)
    (hbody : ∀ (l : Nat) (pre : List α) (x : α) (g1 : Nat) (W : World), I pre W → Blk W g1 t1 (c1 x) → pre.length < N → body.wpIn (F.inRound l) (n - 1 - 1) P (ownPostG w.heap.size Kp I Ix (pre ++ [x]) W) (a₁ x g1) W)
    (hdone : ∀ (D : Nat) (xs : List α) (W : World), w.heap.size ≤ D → S xs → I xs W → W.heap[D]? = some (.deferred (some [])) → Q .normal { a with defers := { target := .collected D, args := #[] } :: a.defers } W)
    (hstop : ∀ (D : Nat) (c : Code) (pre : List α) (W : World), w.heap.size ≤ D → Sp pre → Ix c pre W → W.heap[D]? = some (.deferred (some [])) → c.wpIn F n P Q { a with defers := { target := .collected D, args := #[] } :: a.defers } W) :
    (Code.rangeFunc g ps assign body).wpIn F n P Q a w :=
  wpIn_rangeFunc_ownH hro h1 hg hFg eg hseq (fun h k => hKt h k) hKb (Below.refl _ _) hps I Ix hI hIx h0 (fun x a' W => ∃ g1, a' = a₁ x g1 ∧ Blk W g1 t1 (c1 x))
    (fun x a' _ A B row h hg hr => by obtain ⟨g1, e1, b1⟩ := h; exact ⟨g1, e1, b1.kept hg (fun r e => (hr r e).2)⟩)
    (fun l pre x W K hi hK => hassign l x W K fun g1 W' hb b1 => hK _ _ ((keepsO_below hb).from _) (hKs _ _ (hIs _ _ hi) hb) (hI _ _ _ none hi (grown_none hb) (fun r e => by cases e)) ⟨g1, rfl, b1⟩)
    (fun l pre x a' W _ _ hi ha hl => by obtain ⟨g1, rfl, b1⟩ := ha; exact hbody l pre x g1 W hi b1 hl) hdone hstop

theorem range2 {F : Fence} {n : Nat} {P : Program} {α : Type} {g : Operand} {ps : Array Tmp} {assign body : Code} {Q : Exit → Act → World → Prop} {a : Act} {w : World}
    (hro : F.round = none) (h1 : 1 ≤ n) {gf : Nat} {lb : Array Value} (hg : a.eval g = .func (.func gf) #[] lb) (hFg : F.fn gf) (eg : ∀ args w, (callFunc gf args).run P w = .ok (.enter gf args) w)
    {encs : α → Array Value} {Kp : World → World → Prop} {S Sp : List α → Prop} {N : Nat} (hseq : SeqStopsK F (n - 1) P gf lb encs Kp S Sp N w)
    (hKt : ∀ {A B C : World}, Kp A B → Kp B C → Kp A C) (hKb : ∀ (W : World) (l : Nat) (o o' : Obj), w.heap.size ≤ l → W.heap[l]? = some o → o.isCells = false → o.isWalk = false → Kp W (W.putObj l o')) (hKs : ∀ A B, w.heap.size ≤ A.heap.size → Below A.heap.size A B → Kp A B) (hps : ∀ x, (encs x).size = ps.size)
    (I : List α → World → Prop) (Ix : Code → List α → World → Prop) (hI : OwnFrom w.heap.size I) (hIs : ∀ pre A, I pre A → w.heap.size ≤ A.heap.size) (hIx : ∀ c, OwnFrom w.heap.size (Ix c)) (h0 : I [] w) (t1 t2 : TypeId) (c1 c2 : α → List Value) (a₁ : α → Nat → Nat → Act)
    (hassign : ∀ (l : Nat) (x : α) (W : World) (K : Act → World → Prop), (∀ g1 g2 W', Below W.heap.size W W' → Blk W' g1 t1 (c1 x) → Blk W' g2 t2 (c2 x) → K (a₁ x g1 g2) W') →
      assign.wpIn (F.inRound l) (n - 1 - 1) P (Exit.then K (fun _ _ _ => False)) { tmps := (ps.zip (encs x)).foldl (fun t (p, v) => t.setIfInBounds p v) a.tmps, defers := [] } W)
    (hbody : ∀ (l : Nat) (pre : List α) (x : α) (g1 g2 : Nat) (W : World), I pre W → Blk W g1 t1 (c1 x) → Blk W g2 t2 (c2 x) → pre.length < N → body.wpIn (F.inRound l) (n - 1 - 1) P (ownPostG w.heap.size Kp I Ix (pre ++ [x]) W) (a₁ x g1 g2) W)
    (hdone : ∀ (D : Nat) (xs : List α) (W : World), w.heap.size ≤ D → S xs → I xs W → W.heap[D]? = some (.deferred (some [])) → Q .normal { a with defers := { target := .collected D, args := #[] } :: a.defers } W)
    (hstop : ∀ (D : Nat) (c : Code) (pre : List α) (W : World), w.heap.size ≤ D → Sp pre → Ix c pre W → W.heap[D]? = some (.deferred (some [])) → c.wpIn F n P Q { a with defers := { target := .collected D, args := #[] } :: a.defers } W) :
    (Code.rangeFunc g ps assign body).wpIn F n P Q a w :=
  wpIn_rangeFunc_ownH hro h1 hg hFg eg hseq (fun h k => hKt h k) hKb (Below.refl _ _) hps I Ix hI hIx h0 (fun x a' W => ∃ g1 g2, a' = a₁ x g1 g2 ∧ Blk W g1 t1 (c1 x) ∧ Blk W g2 t2 (c2 x))
    (fun x a' _ A B row h hg hr => by obtain ⟨g1, g2, e1, b1, b2⟩ := h; exact ⟨g1, g2, e1, b1.kept hg (fun r e => (hr r e).2), b2.kept hg (fun r e => (hr r e).2)⟩)
    (fun l pre x W K hi hK => hassign l x W K fun g1 g2 W' hb b1 b2 => hK _ _ ((keepsO_below hb).from _) (hKs _ _ (hIs _ _ hi) hb) (hI _ _ _ none hi (grown_none hb) (fun r e => by cases e)) ⟨g1, g2, rfl, b1, b2⟩)
    (fun l pre x a' W _ _ hi ha hl => by obtain ⟨g1, g2, rfl, b1, b2⟩ := ha; exact hbody l pre x g1 g2 W hi b1 b2 hl) hdone hstop

theorem POwn.kept {A B : World} {B0 : Nat} {v : Value} {ps : List Pt} {row : Option Nat} (h : POwn A B0 v ps) (hg : A.grownBy B row) (hr : ∀ r, row = some r → ∃ o : Obj, A.heap[r]? = some o ∧ o.isCells = false) : POwn B B0 v ps := by
  obtain ⟨h1, h2⟩ := h
  refine ⟨h1, ?_⟩
  rcases h2 with h2 | ⟨k, cap, cur, rfl, hk, hh, r⟩
  · exact .inl h2
  · refine .inr ⟨k, cap, cur, rfl, hk, ?_, r⟩
    rw [hg.block k (Array.getElem?_eq_some_iff.1 hh).1 (fun e => by
      obtain ⟨o, ho, hc⟩ := hr k e.symm
      rw [hh] at ho
      injection ho with ho
      subst ho
      cases hc)]
    exact hh
theorem Rg.kept {A B : World} {B0 g b e : Nat} {v : Value} {ps : List Pt} {row : Option Nat} (h : Rg A B0 g b e v ps) (hg : A.grownBy B row) (hr : ∀ r, row = some r → ∃ o : Obj, A.heap[r]? = some o ∧ o.isCells = false) : Rg B B0 g b e v ps := ⟨h.blk.kept hg hr, h.own.kept hg hr, h.good, h.nodes, h.le, h.max⟩

end Go.Proofs.YtnjkjickclkmhaaDoor

/-
  AppendNode of anything; Clone of a range; what belongs to a range, as it goes on.
-/
namespace Go.Proofs.YtnjkjickclkmhaaDoor
open Go.RowKit Go.Shelf
set_option linter.unusedVariables false

/-- What AppendNode answers. -/
def apE (e : Nat) (l : Int) : Int := if l < 0 ∨ 48 < l then 2 else if e % 2 ^ l.toNat ≠ 0 then 50 else if 281474976710656 - e < 2 ^ l.toNat then 3 else 0
theorem aux_rem2 (e P : Nat) : ((e : Int)).tmod (P : Int) = ((e % P : Nat) : Int) := by
  rw [Int.tmod_eq_emod_of_nonneg (by omega), Int.natCast_emod]
theorem pow48 {L : Nat} (h : L ≤ 48) : 2 ^ L ≤ 281474976710656 := Nat.le_trans (Nat.pow_le_pow_right (by decide) h) (by decide)
theorem ne0_cast {m : Nat} (h : m ≠ 0) : ¬ ((m : Int) = 0) := fun e => h (by omega)
theorem aux_big (e P : Nat) (h : e ≤ 281474976710656) (h1 : 281474976710656 - e < P) : 281474976710656 - (e : Int) < (P : Int) := by omega

set_option maxRecDepth 100000 in
set_option maxHeartbeats 400000 in
theorem appN_bad (B g b e : Nat) (l : Int) (v : Value) (ps : List Pt) (d : List Int) (w : World) (hr : Rg w B g b e v ps) (hb : apE e l ≠ 0) :
    Calls Tryd.prog 8 #[.pointer (some ⟨g, 0, none⟩), .int .i64 l, .agg (u8s d).toArray] w fun r w' => r = .returned (.int .i64 (apE e l)) ∧ Below w.heap.size w w' := by
  have HR := hide hr
  have hmax := hr.max
  clear hr
  by_cases h1 : l < 0
  · have e1 : apE e l = 2 := by unfold apE; rw [if_pos (.inl h1)]
    rw [e1]
    clear hb e1
    go_enter Tryd.func8, Tryd.ntmps8
    go_wp2_with (refine step_box rfl rfl ?_)
    intro w1 g5 hg5 hle5 hb1
    have R1 := hide (HR.out.below hb1)
    have c0 : w1.cell? ⟨g, 0, none⟩ = some (.bool true) := by rw [R1.out.blk.cell]; rfl
    have c2 : w1.cell? ⟨g, 2, none⟩ = some (.int .i64 (e : Int)) := by rw [R1.out.blk.cell]; rfl
    clear hg5
    go_wp2_with (go_at_call 18; refine (made_is _ _ c0).mono ?_; rintro e w' ⟨rfl, rfl⟩)
    go_ret
    exact ⟨rfl, hb1⟩
  by_cases h2 : 48 < l
  · have e1 : apE e l = 2 := by unfold apE; rw [if_pos (.inr h2)]
    rw [e1]
    clear hb e1
    go_enter Tryd.func8, Tryd.ntmps8
    go_wp2_with (refine step_box rfl rfl ?_)
    intro w1 g5 hg5 hle5 hb1
    have R1 := hide (HR.out.below hb1)
    have c0 : w1.cell? ⟨g, 0, none⟩ = some (.bool true) := by rw [R1.out.blk.cell]; rfl
    have c2 : w1.cell? ⟨g, 2, none⟩ = some (.int .i64 (e : Int)) := by rw [R1.out.blk.cell]; rfl
    clear hg5
    go_wp2_with (go_at_call 18; refine (made_is _ _ c0).mono ?_; rintro e w' ⟨rfl, rfl⟩)
    go_ret
    exact ⟨rfl, hb1⟩
  obtain ⟨L, rfl⟩ : ∃ L : Nat, l = (L : Int) := ⟨l.toNat, by omega⟩
  have hL : L ≤ 48 := by omega
  obtain ⟨P, HP⟩ : ∃ P, Hid (2 ^ L = P) := ⟨_, hide rfl⟩
  have hPm : P ≤ 281474976710656 := by rw [← HP.out]; exact pow48 hL
  have hpw := aux_pow P L HP hPm
  have hP0 : ¬ (P : Int) = 0 := by have : 0 < P := by rw [← HP.out]; exact Nat.two_pow_pos L
                                   omega
  have hrem := aux_rem2 e P
  by_cases h3 : e % P = 0
  · by_cases h4 : 281474976710656 - e < P
    · have e1 : apE e (L : Int) = 3 := by
        unfold apE
        rw [if_neg (by omega), Int.toNat_natCast, HP.out, if_neg (by simpa using h3), if_pos h4]
      rw [e1]
      rw [h3] at hrem
      have hsub := aux_sub e hmax
      have hgt := aux_big e P hmax h4
      have hrem2 : ((e : Int)).tmod (P : Int) = 0 := hrem
      clear hb e1 h3 h4 hrem
      go_enter Tryd.func8, Tryd.ntmps8
      go_wp2_with (refine step_box rfl rfl ?_)
      intro w1 g5 hg5 hle5 hb1
      have R1 := hide (HR.out.below hb1)
      have c0 : w1.cell? ⟨g, 0, none⟩ = some (.bool true) := by rw [R1.out.blk.cell]; rfl
      have c2 : w1.cell? ⟨g, 2, none⟩ = some (.int .i64 (e : Int)) := by rw [R1.out.blk.cell]; rfl
      clear hg5
      go_wp2_with (go_at_call 18; refine (made_is _ _ c0).mono ?_; rintro e w' ⟨rfl, rfl⟩)
      go_ret
      exact ⟨rfl, hb1⟩
    · exfalso
      apply hb
      unfold apE
      rw [if_neg (by omega), Int.toNat_natCast, HP.out, if_neg (by simpa using h3), if_neg h4]
  · have e1 : apE e (L : Int) = 50 := by
      unfold apE
      rw [if_neg (by omega), Int.toNat_natCast, HP.out, if_pos h3]
    rw [e1]
    obtain ⟨m, HM⟩ : ∃ m, Hid (e % P = m) := ⟨_, hide rfl⟩
    rw [HM.out] at hrem h3
    have hm0 := ne0_cast h3
    clear hb e1 h3
    go_enter Tryd.func8, Tryd.ntmps8
    go_wp2_with (refine step_box rfl rfl ?_)
    intro w1 g5 hg5 hle5 hb1
    have R1 := hide (HR.out.below hb1)
    have c0 : w1.cell? ⟨g, 0, none⟩ = some (.bool true) := by rw [R1.out.blk.cell]; rfl
    have c2 : w1.cell? ⟨g, 2, none⟩ = some (.int .i64 (e : Int)) := by rw [R1.out.blk.cell]; rfl
    clear hg5
    go_wp2_with (go_at_call 18; refine (made_is _ _ c0).mono ?_; rintro e w' ⟨rfl, rfl⟩)
    go_ret
    exact ⟨rfl, hb1⟩
theorem apE_zero {e : Nat} {l : Int} (he : e ≤ 281474976710656) (h : apE e l = 0) : ∃ L : Nat, l = (L : Int) ∧ L ≤ 48 ∧ 2 ^ L ∣ e ∧ e + 2 ^ L ≤ 281474976710656 := by
  unfold apE at h
  split at h
  · cases h
  rename_i h1
  split at h
  · cases h
  rename_i h2
  split at h
  · cases h
  rename_i h3
  refine ⟨l.toNat, by omega, by omega, Nat.dvd_of_mod_eq_zero (by simpa using h2), ?_⟩
  generalize 2 ^ l.toNat = P at *
  omega
theorem apE_ok {e L : Nat} (hL : L ≤ 48) (hd : 2 ^ L ∣ e) (hm : e + 2 ^ L ≤ 281474976710656) : apE e (L : Int) = 0 := by
  unfold apE
  rw [if_neg (by omega), Int.toNat_natCast, if_neg (by simpa using Nat.mod_eq_zero_of_dvd hd)]
  generalize 2 ^ L = P at *
  rw [if_neg (by omega)]
/-- Where a range's parts lie behind a call. -/
def Moved (w : World) (v v' : Value) : Prop := ∀ k, v'.ownBlock = some k → v.ownBlock = some k ∨ w.heap.size ≤ k
/-- AppendNode, whatever it is given. -/
theorem appN_any (B g b e : Nat) (l : Int) (v : Value) (ps : List Pt) (d : List Int) (w : World) (hr : Rg w B g b e v ps) (hB : B ≤ w.heap.size) (hk : KT w) (hkg : 2 < g) (hkB : 2 < B) (hdl : d.length = 32) (hdb : isB d) :
    Calls Tryd.prog 8 #[.pointer (some ⟨g, 0, none⟩), .int .i64 l, .agg (u8s d).toArray] w fun r w' => ∃ e' v' ps', r = .returned (.int .i64 (apE e l)) ∧ Rg w' B g b e' v' ps' ∧ Chs (Foot g v) w w' ∧ Moved w v v' ∧
      (apE e l ≠ 0 → e' = e ∧ ps' = ps) ∧ (apE e l = 0 → e' = e + 2 ^ l.toNat ∧ ps' = putL ps ((l.toNat, e / 2 ^ l.toNat), d)) := by
  by_cases h : apE e l = 0
  · obtain ⟨L, rfl, hL, hdv, hm⟩ := apE_zero hr.max h
    refine (appN_ok B g b e L v ps d w hr hB hk hkg hkB hL hdv hm hdl hdb).mono ?_
    rintro r w' ⟨v', rfl, h1, h2, h3⟩
    exact ⟨_, v', _, by rw [h], h1, h2, h3, fun hn => absurd h hn, fun _ => ⟨rfl, rfl⟩⟩
  · refine (appN_bad B g b e l v ps d w hr h).mono ?_
    rintro r w' ⟨rfl, hb⟩
    exact ⟨e, v, ps, rfl, hr.below hb, (Chs.refl _ _).thenBelow hb, fun k hk => .inl hk, fun _ => ⟨rfl, rfl⟩, fun h0 => absurd h0 h⟩

/-- The blocks of a range, as it stands. -/
def MR (g : Nat) (A : World) (k : Nat) : Prop := k = g ∨ ∃ n c, A.cell? ⟨g, 3, none⟩ = some (.slice (some ⟨k, 0, none⟩) n c)
theorem Mine.range {n₀ g : Nat} (h : g < n₀) : Mine n₀ (MR g) := by
  refine ⟨fun A B hn hb k hk hm => hm.imp id ?_, fun A l o hl hlt k hk hm => hm.imp id ?_⟩
  · rintro ⟨n, c, e⟩
    refine ⟨n, c, ?_⟩
    rw [← World.cell?_of_block (w := A) (w' := B) (a := ⟨g, 3, none⟩) (hb.block g (by omega))]
    exact e
  · rintro ⟨n, c, e⟩
    refine ⟨n, c, ?_⟩
    rw [← World.cell?_of_block (w := A) (w' := A.putObj l o) (a := ⟨g, 3, none⟩) (World.putObj_heap_other (by show g ≠ l; omega))]
    exact e
theorem Rg.c3 {w : World} {B g b e : Nat} {v : Value} {ps : List Pt} (h : Rg w B g b e v ps) : w.cell? ⟨g, 3, none⟩ = some v := by rw [h.blk.cell]; rfl
theorem Rg.foot_mr {w : World} {B g b e : Nat} {v : Value} {ps : List Pt} (h : Rg w B g b e v ps) (k : Nat) (hk : Foot g v k) : MR g w k := by
  refine hk.imp id fun e1 => ?_
  rcases h.own.lies with ⟨rfl, _⟩ | ⟨g', c, cs, rfl, _⟩
  · cases e1
  · injection e1 with e1
    subst e1
    exact ⟨_, _, h.c3⟩
theorem Rg.mr_foot {w : World} {B g b e : Nat} {v : Value} {ps : List Pt} (h : Rg w B g b e v ps) (k : Nat) (hk : MR g w k) : Foot g v k := by
  refine hk.imp id fun ⟨n, c, e1⟩ => ?_
  rw [h.c3] at e1
  injection e1 with e1
  subst e1
  rfl
theorem Fresh.range {w : World} {B g b e : Nat} {v : Value} {ps : List Pt} (h : Rg w B g b e v ps) : Fresh w (MR g) := fun A hb k hm => by
  rcases (h.below hb).mr_foot k hm with rfl | e1
  · exact h.blk.lt
  · exact (h.own.lt k e1).2
theorem km_range {A C : World} {B g b e e' : Nat} {v v' : Value} {ps ps' : List Pt} (h : Rg A B g b e v ps) (h' : Rg C B g b e' v' ps') (hc : Chs (Foot g v) A C) (hm : Moved A v v') : KM (MR g) A C :=
  ⟨hc.size, fun k o hk _ hn => (hc.block k (Array.getElem?_eq_some_iff.1 hk).1 (fun hf => hn (h.foot_mr k hf))).trans hk, fun k hk hmr => by
    rcases h'.mr_foot k hmr with rfl | e1
    · exact .inl rfl
    · rcases hm k e1 with h1 | h1
      · exact h.foot_mr k (.inr h1)
      · omega⟩
theorem Chs.step {A C w : World} {g : Nat} {v v' : Value} (h : Chs (Foot g v) w A) (hm : Moved w v v') (k : Chs (Foot g v') A C) : Chs (Foot g v) w C :=
  ⟨k.os.trans h.os, k.tape.trans h.tape, k.output.trans h.output, Nat.le_trans h.size k.size, fun i hi hn => (k.block i (Nat.lt_of_lt_of_le hi h.size) (fun hf => by
    rcases hf with rfl | e1
    · exact hn (.inl rfl)
    · rcases hm i e1 with h1 | h1
      · exact hn (.inr h1)
      · omega)).trans (h.block i hi hn)⟩
theorem Moved.step {A w : World} {v v' v'' : Value} (h : Moved w v v') (k : Moved A v' v'') (hs : w.heap.size ≤ A.heap.size) : Moved w v v'' := fun i hi => by
  rcases k i hi with h1 | h1
  · exact h i h1
  · exact .inr (Nat.le_trans hs h1)
theorem Moved.refl (w : World) (v : Value) : Moved w v v := fun k hk => .inl hk

end Go.Proofs.YtnjkjickclkmhaaDoor

/-
  The document's ranges: Append.
-/
namespace Go.Proofs.YtnjkjickclkmhaaDoor
open Go.RowKit Go.Shelf
set_option linter.unusedVariables false

/-- The cells of the document's range. -/
def rfC (b e : Int) (v : Value) : List Value := [.int .i64 b, .int .i64 e, v]
theorem wRf : Wide 29 3 := ⟨by kernel_rfl, by kernel_rfl⟩
theorem zRf : Zeroed 29 (rfC 0 0 (.slice none 0 0)) := fun _ _ _ _ _ _ _ => by kernel_rfl
theorem One.rfC (b e : Int) (x : Option Addr) (n c : Nat) : One (rfC b e (.slice x n c)) := by intro v hv; simp [Go.Proofs.YtnjkjickclkmhaaDoor.rfC] at hv; rcases hv with rfl | rfl | rfl <;> rfl
/-- A range of the document's: its digests are a slice of its own. -/
structure Rf5 (w : World) (B b e : Nat) (v : Value) (ps : List Pt) : Prop where
  own : DOwn w B v ps.length (ps.flatMap Prod.snd)
  good : GoodL ps
  nodes : ps.map Prod.fst = parts b e
  le : b ≤ e
  max : e ≤ 281474976710656
theorem Rf5.below {w w' : World} {B b e : Nat} {v : Value} {ps : List Pt} (h : Rf5 w B b e v ps) (hb : Below w.heap.size w w') : Rf5 w' B b e v ps := ⟨h.own.below hb, h.good, h.nodes, h.le, h.max⟩
theorem Rf5.slice {w : World} {B b e : Nat} {v : Value} {ps : List Pt} (h : Rf5 w B b e v ps) : ∃ a c, v = .slice a ps.length c := by
  obtain ⟨_, h2⟩ := h.own
  rcases h2 with ⟨rfl, h0⟩ | ⟨g, cap, cur, rfl, _⟩
  · exact ⟨none, 0, by rw [h0]⟩
  · exact ⟨_, cap, rfl⟩

set_option maxRecDepth 100000 in
set_option maxHeartbeats 400000 in
theorem refApp_bad (b e : Nat) (l : Int) (a0 : Option Addr) (n0 q0 : Nat) (d : List Int) (w : World) (hmax : e ≤ 281474976710656) (hb : apE e l ≠ 0) :
    Calls Tryd.prog 10 #[.agg (rfC b e (.slice a0 n0 q0)).toArray, .int .i64 l, .agg (u8s d).toArray] w fun r w' => r = .returned (.tuple #[.agg (rfC b e (.slice a0 n0 q0)).toArray, .int .i64 (apE e l)]) ∧ Below w.heap.size w w' := by
  by_cases h1 : l < 0
  · have e1 : apE e l = 2 := by unfold apE; rw [if_pos (.inl h1)]
    rw [e1]
    clear hb e1
    go_enter Tryd.func10, Tryd.ntmps10
    go_wp2_with (refine step_box (cs := rfC b e (.slice a0 n0 q0)) rfl rfl ?_)
    intro w1 g1 hg1 hle1 hb1
    go_wp2_with (refine step_box rfl rfl ?_)
    intro w2 g2 hg2 hle2 hb2
    go_wp2_with (refine step_alloc zRf rfl ?_)
    intro w3 g3 hg3 hle3 hb3
    have hb12 := hb1.trans (hb2.mono hb1.size)
    have hb13 := hb12.trans (hb3.mono hb12.size)
    have HG1 := hide ((hg1.below hb2 hg1.lt).below hb3 (hg1.below hb2 hg1.lt).lt)
    have HG2 := hide (hg2.below hb3 hg2.lt)
    have HG3 := hide hg3
    have hw3 : w.heap.size ≤ g3 := Nat.le_trans hb12.size hle3
    have c1 : w3.cell? ⟨g1, 1, none⟩ = some (.int .i64 (e : Int)) := by rw [HG1.out.cell]; rfl
    have c0 : w3.cell? ⟨g1, 0, none⟩ = some (.int .i64 (b : Int)) := by rw [HG1.out.cell]; rfl
    clear hg1 hg2 hg3 hb1 hb2 hb3 hb12 hle1 hle2 hle3
    go_wp2_with (first | (refine step_loadA wRf rfl rfl HG1.out rfl ?_) | (refine step_storeA wRf rfl rfl rfl HG3.out rfl (One.rfC _ _ _ _ _) rfl ?_; intro w4 hg4 hbut))
    refine bodyPost_ret (results_wide2 rfl wRf _ _ rfl hg4 rfl) rfl ⟨rfl, ?_⟩
    exact hb13.trans (hbut.below hw3)
  by_cases h2 : 48 < l
  · have e1 : apE e l = 2 := by unfold apE; rw [if_pos (.inr h2)]
    rw [e1]
    clear hb e1
    go_enter Tryd.func10, Tryd.ntmps10
    go_wp2_with (refine step_box (cs := rfC b e (.slice a0 n0 q0)) rfl rfl ?_)
    intro w1 g1 hg1 hle1 hb1
    go_wp2_with (refine step_box rfl rfl ?_)
    intro w2 g2 hg2 hle2 hb2
    go_wp2_with (refine step_alloc zRf rfl ?_)
    intro w3 g3 hg3 hle3 hb3
    have hb12 := hb1.trans (hb2.mono hb1.size)
    have hb13 := hb12.trans (hb3.mono hb12.size)
    have HG1 := hide ((hg1.below hb2 hg1.lt).below hb3 (hg1.below hb2 hg1.lt).lt)
    have HG2 := hide (hg2.below hb3 hg2.lt)
    have HG3 := hide hg3
    have hw3 : w.heap.size ≤ g3 := Nat.le_trans hb12.size hle3
    have c1 : w3.cell? ⟨g1, 1, none⟩ = some (.int .i64 (e : Int)) := by rw [HG1.out.cell]; rfl
    have c0 : w3.cell? ⟨g1, 0, none⟩ = some (.int .i64 (b : Int)) := by rw [HG1.out.cell]; rfl
    clear hg1 hg2 hg3 hb1 hb2 hb3 hb12 hle1 hle2 hle3
    go_wp2_with (first | (refine step_loadA wRf rfl rfl HG1.out rfl ?_) | (refine step_storeA wRf rfl rfl rfl HG3.out rfl (One.rfC _ _ _ _ _) rfl ?_; intro w4 hg4 hbut))
    refine bodyPost_ret (results_wide2 rfl wRf _ _ rfl hg4 rfl) rfl ⟨rfl, ?_⟩
    exact hb13.trans (hbut.below hw3)
  obtain ⟨L, rfl⟩ : ∃ L : Nat, l = (L : Int) := ⟨l.toNat, by omega⟩
  have hL : L ≤ 48 := by omega
  have hul : IntKind.u64.wrap (L : Int) = (L : Int) := by rw [IntKind.wrap_u64]; omega
  obtain ⟨P, HP⟩ : ∃ P, Hid (2 ^ L = P) := ⟨_, hide rfl⟩
  have hPm : P ≤ 281474976710656 := by rw [← HP.out]; exact pow48 hL
  have hP0 : ¬ (P : Int) = 0 := by have : 0 < P := by rw [← HP.out]; exact Nat.two_pow_pos L
                                   omega
  have hrem := aux_rem2 e P
  have hsub := aux_sub e hmax
  by_cases h3 : e % P = 0
  · by_cases h4 : 281474976710656 - e < P
    · have e1 : apE e (L : Int) = 3 := by
        unfold apE
        rw [if_neg (by omega), Int.toNat_natCast, HP.out, if_neg (by simpa using h3), if_pos h4]
      rw [e1]
      rw [h3] at hrem
      have hgt := aux_big e P hmax h4
      have hrem2 : ((e : Int)).tmod (P : Int) = 0 := hrem
      have hpw := aux_pow P L HP hPm
      clear hb e1 h3 h4 hrem
      go_enter Tryd.func10, Tryd.ntmps10
      go_wp2_with (refine step_box (cs := rfC b e (.slice a0 n0 q0)) rfl rfl ?_)
      intro w1 g1 hg1 hle1 hb1
      go_wp2_with (refine step_box rfl rfl ?_)
      intro w2 g2 hg2 hle2 hb2
      go_wp2_with (refine step_alloc zRf rfl ?_)
      intro w3 g3 hg3 hle3 hb3
      have hb12 := hb1.trans (hb2.mono hb1.size)
      have hb13 := hb12.trans (hb3.mono hb12.size)
      have HG1 := hide ((hg1.below hb2 hg1.lt).below hb3 (hg1.below hb2 hg1.lt).lt)
      have HG2 := hide (hg2.below hb3 hg2.lt)
      have HG3 := hide hg3
      have hw3 : w.heap.size ≤ g3 := Nat.le_trans hb12.size hle3
      have c1 : w3.cell? ⟨g1, 1, none⟩ = some (.int .i64 (e : Int)) := by rw [HG1.out.cell]; rfl
      have c0 : w3.cell? ⟨g1, 0, none⟩ = some (.int .i64 (b : Int)) := by rw [HG1.out.cell]; rfl
      clear hg1 hg2 hg3 hb1 hb2 hb3 hb12 hle1 hle2 hle3
      go_wp2_with (first | (refine step_loadA wRf rfl rfl HG1.out rfl ?_) | (refine step_storeA wRf rfl rfl rfl HG3.out rfl (One.rfC _ _ _ _ _) rfl ?_; intro w4 hg4 hbut))
      refine bodyPost_ret (results_wide2 rfl wRf _ _ rfl hg4 rfl) rfl ⟨rfl, ?_⟩
      exact hb13.trans (hbut.below hw3)
    · exfalso
      apply hb
      unfold apE
      rw [if_neg (by omega), Int.toNat_natCast, HP.out, if_neg (by simpa using h3), if_neg h4]
  · have e1 : apE e (L : Int) = 50 := by
      unfold apE
      rw [if_neg (by omega), Int.toNat_natCast, HP.out, if_pos h3]
    rw [e1]
    obtain ⟨m, HM⟩ : ∃ m, Hid (e % P = m) := ⟨_, hide rfl⟩
    rw [HM.out] at hrem h3
    have hm0 := ne0_cast h3
    have hpw := aux_pow P L HP hPm
    clear hb e1 h3
    go_enter Tryd.func10, Tryd.ntmps10
    go_wp2_with (refine step_box (cs := rfC b e (.slice a0 n0 q0)) rfl rfl ?_)
    intro w1 g1 hg1 hle1 hb1
    go_wp2_with (refine step_box rfl rfl ?_)
    intro w2 g2 hg2 hle2 hb2
    go_wp2_with (refine step_alloc zRf rfl ?_)
    intro w3 g3 hg3 hle3 hb3
    have hb12 := hb1.trans (hb2.mono hb1.size)
    have hb13 := hb12.trans (hb3.mono hb12.size)
    have HG1 := hide ((hg1.below hb2 hg1.lt).below hb3 (hg1.below hb2 hg1.lt).lt)
    have HG2 := hide (hg2.below hb3 hg2.lt)
    have HG3 := hide hg3
    have hw3 : w.heap.size ≤ g3 := Nat.le_trans hb12.size hle3
    have c1 : w3.cell? ⟨g1, 1, none⟩ = some (.int .i64 (e : Int)) := by rw [HG1.out.cell]; rfl
    have c0 : w3.cell? ⟨g1, 0, none⟩ = some (.int .i64 (b : Int)) := by rw [HG1.out.cell]; rfl
    clear hg1 hg2 hg3 hb1 hb2 hb3 hb12 hle1 hle2 hle3
    go_wp2_with (first | (refine step_loadA wRf rfl rfl HG1.out rfl ?_) | (refine step_storeA wRf rfl rfl rfl HG3.out rfl (One.rfC _ _ _ _ _) rfl ?_; intro w4 hg4 hbut))
    refine bodyPost_ret (results_wide2 rfl wRf _ _ rfl hg4 rfl) rfl ⟨rfl, ?_⟩
    exact hb13.trans (hbut.below hw3)

end Go.Proofs.YtnjkjickclkmhaaDoor

/-
  The document's Append, where it takes what it is given.
-/
namespace Go.Proofs.YtnjkjickclkmhaaDoor
open Go.RowKit Go.Shelf
set_option linter.unusedVariables false

/-- Two ways through a region that end alike: what comes behind is walked once. -/
theorem join3 {T : Program} {c : Code} {a : Act} {w : World} {Q : Exit → Act → World → Prop} {K : Act → World → Prop} (P : Value → Nat → Value → World → Prop) (act : Value → Nat → Value → Act) (h1 : ∀ v g u W, P v g u W → K (act v g u) W) (h2 : (∀ v g u W, P v g u W → K (act v g u) W) → Code.wp T c (Exit.then K Q) a w) : Code.wp T c (Exit.then K Q) a w := h2 h1
theorem NOwn.base {w : World} {B B' : Nat} {v : Value} {ns : List (Nat × Nat)} (h : NOwn w B v ns) (hB : B' ≤ B) : NOwn w B' v ns := by
  obtain ⟨h1, h2⟩ := h
  refine ⟨h1, ?_⟩
  rcases h2 with h2 | ⟨g, cap, cur, e, hg, r⟩
  · exact .inl h2
  · exact .inr ⟨g, cap, cur, e, Nat.le_trans hB hg, r⟩
/-- What stands through the call. -/
structure RJ (w W : World) (g1 g2 g3 b e : Nat) (v : Value) (d : List Int) : Prop where
  c1 : Blk W g1 29 (rfC b e v)
  c2 : Blk W g2 34 (u8s d)
  c3 : Blk W g3 29 (rfC 0 0 (.slice none 0 0))
  bel : Below w.heap.size w W
theorem RJ.below {w W W' : World} {g1 g2 g3 b e : Nat} {v : Value} {d : List Int} (h : RJ w W g1 g2 g3 b e v d) (hb : Below W.heap.size W W') : RJ w W' g1 g2 g3 b e v d := ⟨h.c1.below hb h.c1.lt, h.c2.below hb h.c2.lt, h.c3.below hb h.c3.lt, h.bel.trans (hb.mono h.bel.size)⟩
theorem RJ.grown {w W W' : World} {g1 g2 g3 b e : Nat} {v : Value} {d : List Int} {row : Option Nat} (h : RJ w W g1 g2 g3 b e v d) (hg : W.grownBy W' row) (h1 : row ≠ some g1) (h2 : row ≠ some g2) (h3 : row ≠ some g3) (hr : ∀ r, row = some r → w.heap.size ≤ r) : RJ w W' g1 g2 g3 b e v d := by
  have key : ∀ {k : Nat} {t : TypeId} {cs : List Value}, Blk W k t cs → row ≠ some k → Blk W' k t cs := fun hk hn => by
    unfold Blk
    rw [hg.block _ hk.lt (fun e1 => hn e1.symm)]
    exact hk
  exact ⟨key h.c1 h1, key h.c2 h2, key h.c3 h3, h.bel.trans (Below.of_grown hg h.bel.size hr)⟩
theorem NOwn.apart {w : World} {B g : Nat} {v : Value} {ns : List (Nat × Nat)} {t : TypeId} {cs : List Value} (h : NOwn w B v ns) (hg : Blk w g t cs) (ht : t ≠ 57) : v.ownBlock ≠ some g := by
  intro e1
  rcases h.lies with ⟨rfl, _⟩ | ⟨g', c, cs', rfl, _, hb, _⟩
  · cases e1
  · injection e1 with e1
    subst e1
    rw [Blk, hb] at hg
    injection hg with hg
    injection hg with _ h2 _
    exact ht h2.symm
theorem join4 {T : Program} {c : Code} {a : Act} {w : World} {Q : Exit → Act → World → Prop} {K : Act → World → Prop} (P : Value → Value → Nat → Value → World → Prop) (act : Value → Value → Nat → Value → Act) (h1 : ∀ x y g u W, P x y g u W → K (act x y g u) W) (h2 : (∀ x y g u W, P x y g u W → K (act x y g u) W) → Code.wp T c (Exit.then K Q) a w) : Code.wp T c (Exit.then K Q) a w := h2 h1
theorem DOwn.slt {w : World} {B : Nat} {v : Value} {n : Nat} {xs : List Int} (h : DOwn w B v n xs) : ∀ k, v.ownBlock = some k → B ≤ k ∧ k < w.heap.size := fun k hk => World.ownsRow.lt h k hk
theorem DOwn.blk {w : World} {B : Nat} {v : Value} {n : Nat} {xs : List Int} (h : DOwn w B v n xs) : ∀ k, v.ownBlock = some k → ∃ cs, Blk w k 34 cs := by
  intro k hk
  obtain ⟨_, h2⟩ := h
  rcases h2 with ⟨rfl, h0⟩ | ⟨g, cap, cur, rfl, hB, hh, _⟩
  · cases hk
  · injection hk with hk
    subst hk
    exact ⟨cur.toList, by unfold Blk; simpa using hh⟩
theorem dn_apart {w : World} {B B' : Nat} {u v : Value} {ns : List (Nat × Nat)} {n : Nat} {xs : List Int} (h : NOwn w B u ns) (h2 : DOwn w B' v n xs) : u.ownBlock = none ∨ u.ownBlock ≠ v.ownBlock := by
  cases hu : u.ownBlock with
  | none => exact .inl rfl
  | some k =>
    refine .inr (fun e => ?_)
    obtain ⟨cs, hb⟩ := h2.blk k e.symm
    exact h.apart hb (by decide) hu
theorem NOwn.keptD {w w' : World} {B B' : Nat} {u v : Value} {ns : List (Nat × Nat)} {n : Nat} {xs : List Int} (h : NOwn w B u ns) (h2 : DOwn w B' v n xs) (hg : w.grownBy w' v.ownBlock) : NOwn w' B u ns := World.ownsRow.kept h hg (dn_apart h h2)
theorem DOwn.keptN {w w' : World} {B B' : Nat} {u v : Value} {ns : List (Nat × Nat)} {n : Nat} {xs : List Int} (h : DOwn w B v n xs) (h2 : NOwn w B' u ns) (hg : w.grownBy w' u.ownBlock) : DOwn w' B v n xs := World.ownsRow.kept h hg (by
  rcases dn_apart h2 h with e | e
  · cases hv : v.ownBlock with
    | none => exact .inl rfl
    | some k => rw [e]; exact .inr (fun e => by cases e)
  · exact .inr (Ne.symm e))
theorem goodL_isB {ps : List Pt} (h : GoodL ps) : isB (ps.flatMap Prod.snd) := by
  intro x hx
  obtain ⟨p, hp, hx⟩ := List.mem_flatMap.1 hx
  exact (h p hp).byte x hx
theorem ds_one {W : World} {g : Nat} {d : List Int} (h : Blk W g 34 (u8s d)) (hd : d.length = 32) (hb : isB d) : Ds W (some ⟨g, 0, none⟩) 1 1 d := by
  have hs := h.sl0 hb (by omega)
  rw [hd] at hs
  exact ⟨Nat.le_refl _, by omega, (fun e => by cases e), hs⟩
section
variable {dst : Option Tmp} {ty : TypeId} {pos : String} {aft : Array Edge} {gd : Option (Nat × Bool)} {a : Act} {w : World} {K : Act → World → Prop} {Q : Exit → Act → World → Prop}
set_option maxRecDepth 100000 in
theorem wp_oneD2 {x : Operand} {ds : List Int} (hx : a.eval x = .agg (u8s ds).toArray) (hd : ds.length = 32) (h : ∀ w1 g, Blk w1 g 34 (u8s ds) → w.heap.size ≤ g → Below w.heap.size w w1 → K (a.put dst (.slice (some ⟨g, 0, none⟩) 1 1)) w1) :
    Oper.wp Tryd.prog ⟨dst, .buildSlice 27 1 #[(0, x)], ty, pos, aft, gd⟩ a w K Q := by
  refine wp_runV (.slice (some ⟨w.heap.size, 0, none⟩) 1 1) (w.alloc (.cells (u8s ds).toArray 34)) ?_ (h _ _ (Blk.made _ _ _) (Nat.le_refl _) ((Below.refl _ _).alloc (Nat.le_refl _) _))
  unfold execOp
  simp only [List.map_toArray, List.map_cons, List.map_nil, hx]
  simp only [Sem.run_bind, build_D ds hd, Result.andThen_ok, Sem.run_pure]
set_option maxRecDepth 100000 in
theorem wp_emptyD (h : ∀ w1 v, DOwn w1 w.heap.size v 0 [] → Below w.heap.size w w1 → K (a.put dst v) w1) :
    Oper.wp Tryd.prog ⟨dst, .buildSlice 27 0 #[], ty, pos, aft, gd⟩ a w K Q :=
  wp_run (.slice (some ⟨w.heap.size, 0, none⟩) 0 0) (w.alloc (.cells #[] 34)) (by kernel_rfl) (h _ _ (down_empty w) ((Below.refl _ _).alloc (Nat.le_refl _) _))
end
theorem ncs_take : ∀ (ns : List (Nat × Nat)) (k : Nat), ncs (ns.take k) = (ncs ns).take (k * 2)
  | [], k => by simp [ncs]
  | n :: ns, 0 => by simp [ncs]
  | n :: ns, k + 1 => by
    show nC n ++ ncs (ns.take k) = (nC n ++ ncs ns).take ((k + 1) * 2)
    rw [ncs_take ns k, show (k + 1) * 2 = k * 2 + 1 + 1 by omega]
    rfl
theorem NOwn.cut {w : World} {B h n cu : Nat} {ns : List (Nat × Nat)} (hh : NOwn w B (.slice (some ⟨h, 0, none⟩) n cu) ns) (k : Nat) (hk : k ≤ ns.length) : NOwn w B (.slice (some ⟨h, 0, none⟩) k cu) (ns.take k) ∧ k ≤ cu := by
  rcases hh.lies with ⟨e, _⟩ | ⟨g, c, cs, e, hB, hb, hc, hm, hl, ht⟩
  · cases e
  · injection e with e1 e2 e3
    injection e1 with e1
    injection e1 with e1 _ _
    subst e1 e3
    have hlk : (ns.take k).length = k := by rw [List.length_take]; omega
    refine ⟨⟨ncs_length _, .inr ⟨h, cu, cs.toArray, by rw [hlk], hB, hb, by rw [hlk]; omega, by simpa [maxLen] using hm, by simpa using hl, ?_⟩⟩, by omega⟩
    rw [hlk, ncs_take, ← ht, List.take_take, Nat.min_eq_left (by omega)]
theorem DOwn.cut {w : World} {B g n c k : Nat} {X Y : List Int} (h : DOwn w B (.slice (some ⟨g, 0, none⟩) n c) n (X ++ Y)) (hX : X.length = 32 * k) : DOwn w B (.slice (some ⟨g, 0, none⟩) k c) k X ∧ k ≤ c := by
  have hl := h.len
  rw [List.length_append] at hl
  obtain ⟨_, h2⟩ := h
  rcases h2 with ⟨e, _⟩ | ⟨g', c', cur, e, hB, hh, h3, h4, h5, h6⟩
  · cases e
  · injection e with e1 e2 e3
    injection e1 with e1
    injection e1 with e1 _ _
    subst e1 e3
    refine ⟨⟨by rw [u8s_length, hX]; omega, .inr ⟨g, c, cur, rfl, hB, hh, by omega, h4, h5, ?_⟩⟩, by omega⟩
    have := congrArg (List.take (k * 32)) h6
    rw [List.take_take, Nat.min_eq_left (by omega), u8s_app, List.take_append_of_le_length (by rw [u8s_length, hX]; omega)] at this
    rw [this, List.take_of_length_le (by rw [u8s_length, hX]; omega)]
theorem DOwn.range {w : World} {B g n c o : Nat} {X M Y : List Int} (h : DOwn w B (.slice (some ⟨g, 0, none⟩) n c) n (X ++ (M ++ Y))) (hX : X.length = o) : w.rangeAt g o (u8s M) := by
  obtain ⟨_, h2⟩ := h
  rcases h2 with ⟨e, _⟩ | ⟨g', c', cur, e, hB, hh, h3, h4, h5, h6⟩
  · cases e
  · injection e with e1 e2 e3
    injection e1 with e1
    injection e1 with e1 _ _
    subst e1 e3
    have hb : Blk w g 34 cur.toList := by unfold Blk; simpa using hh
    refine hb.range o (u8s M) ?_
    have e7 : cur.toList = u8s X ++ (u8s M ++ (u8s Y ++ cur.toList.drop (n * 32))) := by
      conv => lhs; rw [← List.take_append_drop (n * 32) cur.toList]
      rw [h6, u8s_app, u8s_app, List.append_assoc, List.append_assoc]
    rw [e7, List.drop_left' (by rw [u8s_length, hX]), List.take_left' rfl]
theorem below_boxed {W W1 W2 : World} {g : Nat} (hb : Below W.heap.size W W1) (hle : W.heap.size ≤ g) (hbut : But g W1 W2) : Below W.heap.size W W2 := hb.trans (hbut.below hle)
theorem aux_good (L e P : Nat) (d : List Int) (hdl : d.length = 32) (hdb : isB d) (hL : L ≤ 48) (hm : e ≤ 281474976710656) : Good ((L, e / P), d) := ⟨hdl, hdb, Nat.le_trans hL (by omega), Nat.le_trans (Nat.div_le_self _ _) hm⟩
theorem aux_bd (L e P : Nat) (HP : Hid (2 ^ L = P)) (hdv : 2 ^ L ∣ e) (hm : e + P ≤ 281474976710656) : (e / P + 1) * 2 ^ L ≤ 281474976710656 := by rw [Nat.add_mul, Nat.one_mul, ← HP.out, mul_div_pow hdv, HP.out]; exact hm
/-- What the loop of the document's Append keeps. -/
structure LI (w3 W : World) (u l : Value) (ps : List Pt) (p : Pt) (m : Nat) (p' : Pt) : Prop where
  hm : m ≤ ps.length
  good : Good p'
  bd : (p'.1.2 + 1) * 2 ^ p'.1.1 ≤ 281474976710656
  eq : putS nd (ps.take m).reverse p' = putS nd ps.reverse p
  bel : Below w3.heap.size w3 W
  nodes : NOwn W w3.heap.size u ((ps.take m).map Prod.fst ++ [p'.1])
  digs : DOwn W w3.heap.size l (m + 1) ((ps.take m).flatMap Prod.snd ++ p'.2)
theorem LI.below {w3 W W' : World} {u l : Value} {ps : List Pt} {p p' : Pt} {m : Nat} (h : LI w3 W u l ps p m p') (hb : Below W.heap.size W W') : LI w3 W' u l ps p m p' :=
  ⟨h.hm, h.good, h.bd, h.eq, h.bel.trans (hb.mono h.bel.size), h.nodes.below hb, h.digs.below hb⟩
theorem LI.form {w3 W : World} {u l : Value} {ps : List Pt} {p p' : Pt} {m : Nat} (h : LI w3 W u l ps p m p') : ∃ g cu lb cl n, n = m + 1 ∧ u = .slice (some ⟨g, 0, none⟩) n cu ∧ l = .slice (some ⟨lb, 0, none⟩) n cl := by
  have hlen : ((ps.take m).map Prod.fst ++ [p'.1]).length = m + 1 := by have := h.hm; simp; omega
  rcases h.nodes.lies with ⟨_, e⟩ | ⟨g, cu, _, e, _⟩
  · simp at e
  · rw [hlen] at e
    obtain ⟨_, h2⟩ := h.digs
    rcases h2 with ⟨_, e2⟩ | ⟨lb, cl, _, e2, _⟩
    · omega
    · exact ⟨g, cu, lb, cl, m + 1, rfl, e, e2⟩
theorem flat_length : ∀ {ps : List Pt}, GoodL ps → (ps.flatMap Prod.snd).length = 32 * ps.length
  | [], _ => rfl
  | p :: ps, h => by
    have ih := flat_length (ps := ps) (fun q hq => h q (List.mem_cons_of_mem _ hq))
    have hp := (h p (List.mem_cons_self ..)).len
    simp only [List.flatMap_cons, List.length_append, List.length_cons]
    omega
theorem li_get {ps : List Pt} {k : Nat} {q p' : Pt} (hk : k < ps.length) (he : ps.take (k + 1) = ps.take k ++ [q]) : ((ps.take (k + 1)).map Prod.fst ++ [p'.1])[k]? = some q.1 ∧ ((ps.take (k + 1)).map Prod.fst ++ [p'.1])[k + 1]? = some p'.1 ∧ ((ps.take (k + 1)).map Prod.fst ++ [p'.1]).take k = (ps.take k).map Prod.fst := by
  have hl : ((ps.take k).map Prod.fst).length = k := by simp; omega
  rw [he, List.map_append]
  refine ⟨?_, ?_, ?_⟩
  · rw [List.append_assoc, List.getElem?_append_right (by omega), hl]
    simp
  · have hl2 : ((ps.take k).map Prod.fst ++ List.map Prod.fst [q]).length = k + 1 := by rw [List.length_append, hl]; rfl
    rw [List.getElem?_append_right (by omega), hl2, Nat.sub_self]
    rfl
  · rw [List.append_assoc, List.take_left' hl]
theorem li_flat {ps : List Pt} {k : Nat} {q p' : Pt} (hg : GoodL ps) (hk : k < ps.length) (he : ps.take (k + 1) = ps.take k ++ [q]) : (ps.take (k + 1)).flatMap Prod.snd ++ p'.2 = (ps.take k).flatMap Prod.snd ++ (q.2 ++ (p'.2 ++ [])) ∧ ((ps.take k).flatMap Prod.snd).length = 32 * k := by
  constructor
  · rw [he]
    simp
  · rw [flat_length (hg.take k), List.length_take]
    omega
theorem aux_n {n k j : Nat} (h : n = k + 1 + 1) (hj : k + 1 = j) (hn : n ≤ 1000000 ∨ n ≤ 1048577) : (1 : Int) < (n : Int) ∧ IntKind.i64.wrap ((n : Int) - 2) = (k : Int) ∧ IntKind.i64.wrap ((n : Int) - 1) = (j : Int) ∧ k < n ∧ j < n ∧ wrap64 ((n : Int) - 2) = (k : Int) ∧ wrap64 ((n : Int) - 1) = (j : Int) := by
  rw [IntKind.wrap_i64, IntKind.wrap_i64]
  unfold wrap64
  omega
theorem aux_nle {n k a b : Nat} (h : n = k + 1 + 1) (hk : k < a) (hl : a = b) (hb : b ≤ 1048576) : n ≤ 1000000 ∨ n ≤ 1048577 := by omega
theorem aux_q {qi : Nat} (h : qi ≤ 281474976710656) : ((qi : Int)).tmod 2 = ((qi % 2 : Nat) : Int) ∧ IntKind.i64.wrap ((qi : Int) + 1) = (qi : Int) + 1 ∧ ((qi : Int)).tdiv 2 = ((qi / 2 : Nat) : Int) := by
  rw [IntKind.wrap_i64]
  refine ⟨by rw [Int.tmod_eq_emod_of_nonneg (by omega)]; omega, by omega, by rw [Int.tdiv_eq_ediv_of_nonneg (by omega)]; omega⟩
theorem NOwn.lenOf {w : World} {B : Nat} {v : Value} {ns : List (Nat × Nat)} (h : NOwn w B v ns) : lenOf v = ns.length := by
  rcases h.lies with ⟨rfl, rfl⟩ | ⟨_, _, _, rfl, _⟩ <;> rfl
theorem join2 {T : Program} {c : Code} {a : Act} {w : World} {Q : Exit → Act → World → Prop} {K : Act → World → Prop} (P : Nat → Value → World → Prop) (act : Nat → Value → Act) (h1 : ∀ g u W, P g u W → K (act g u) W) (h2 : (∀ g u W, P g u W → K (act g u) W) → Code.wp T c (Exit.then K Q) a w) : Code.wp T c (Exit.then K Q) a w := h2 h1
section
variable {dst : Option Tmp} {ty : TypeId} {pos : String} {aft : Array Edge} {gd : Option (Nat × Bool)} {a : Act} {w : World} {K : Act → World → Prop} {Q : Exit → Act → World → Prop}
theorem wp_loadRR {T : TypeId} {n : Nat} (hT : Wide T n) {x : Operand} {g off : Nat} (hx : a.eval x = .pointer (some ⟨g, off, none⟩)) (vs : List Value) (hr : w.rangeAt g off vs) (hn : vs.length = n) (h : K (a.put dst (.agg vs.toArray)) w) :
    Oper.wp Tryd.prog ⟨dst, .load T x, ty, pos, aft, gd⟩ a w K Q := by
  subst hn
  obtain ⟨d, hu, hd⟩ := hT.und
  exact wp_load_mid T x rfl g off hx vs d hr hu hd hT.size h
end
theorem Blk.grew2 {w w' : World} {g : Nat} {t : TypeId} {cs : List Value} {row : Option Nat} (h : Blk w g t cs) (hg : w.grownBy w' row) (hr : row ≠ some g) : Blk w' g t cs := by
  unfold Blk
  rw [hg.block g h.lt (fun e => hr e.symm)]
  exact h
theorem DOwn.apart {w : World} {B g : Nat} {v : Value} {n : Nat} {xs : List Int} {t : TypeId} {cs : List Value} (h : DOwn w B v n xs) (hg : Blk w g t cs) (ht : t ≠ 34) : v.ownBlock ≠ some g := by
  intro e1
  obtain ⟨cs', hb⟩ := h.blk g e1
  rw [Blk, hb] at hg
  injection hg with hg
  injection hg with _ h2 _
  exact ht h2.symm
theorem aux_ql {ql : Nat} (h : ql ≤ 49) : IntKind.i64.wrap ((ql : Int) + 1) = ((ql + 1 : Nat) : Int) := by
  rw [IntKind.wrap_i64]
  omega
theorem aux_lev {x l : Nat} (h : (x + 1) * 2 ^ l ≤ 281474976710656) : l ≤ 49 := by
  apply Nat.le_of_not_lt
  intro hl
  have h1 : 2 ^ 50 ≤ 2 ^ l := Nat.pow_le_pow_right (by omega) hl
  have h2 : 1 * 2 ^ l ≤ (x + 1) * 2 ^ l := Nat.mul_le_mul_right _ (by omega)
  rw [Nat.one_mul] at h2
  have h3 : (2 : Nat) ^ 50 ≤ 281474976710656 := Nat.le_trans h1 (Nat.le_trans h2 h)
  exact absurd h3 (by decide)
theorem aux_q2 {qi : Nat} (h : qi ≤ 281474976710656) : IntKind.i64.wrap ((qi : Int) / 2) = (qi : Int) / 2 := by
  rw [IntKind.wrap_i64]
  omega
theorem fs1 {w wr : World} {g1 g2 g3 b e : Nat} {v : Value} {d : List Int} (hJ : RJ w wr g1 g2 g3 b e v d) (X : Int) (l : Value) : Blk ((wr.setCell ⟨g1, 1, none⟩ (.int .i64 X)).setCell ⟨g1, 2, none⟩ l) g1 29 (rfC b X l) := (hJ.c1.set 1 _).set 2 _
theorem fs3 {w wr : World} {g1 g2 g3 b e : Nat} {v : Value} {d : List Int} (hJ : RJ w wr g1 g2 g3 b e v d) (h : g3 ≠ g1) (x l : Value) : Blk ((wr.setCell ⟨g1, 1, none⟩ x).setCell ⟨g1, 2, none⟩ l) g3 29 (rfC 0 0 (.slice none 0 0)) := (hJ.c3.but (But.setCell _ _ _ _) h).but (But.setCell _ _ _ _) h
theorem fsB {w wr : World} {g1 g2 g3 b e : Nat} {v : Value} {d : List Int} (hJ : RJ w wr g1 g2 g3 b e v d) (h : w.heap.size ≤ g1) (x l : Value) : Below w.heap.size w ((wr.setCell ⟨g1, 1, none⟩ x).setCell ⟨g1, 2, none⟩ l) := (hJ.bel.trans ((But.setCell _ _ _ _).below h)).trans ((But.setCell _ _ _ _).below h)
theorem DOwn.but {w w' : World} {B g n : Nat} {v : Value} {xs : List Int} (h : DOwn w B v n xs) (hb : But g w w') (hg : v.ownBlock ≠ some g) : DOwn w' B v n xs := by
  obtain ⟨h1, h2⟩ := h
  refine ⟨h1, ?_⟩
  rcases h2 with h2 | ⟨k, cap, cur, rfl, hk, hh, r⟩
  · exact .inl h2
  · refine .inr ⟨k, cap, cur, rfl, hk, ?_, r⟩
    rw [hb.block k (fun e => hg (by rw [← e]; rfl))]
    exact hh
theorem fsD {wr : World} {g1 B n : Nat} {x l v : Value} {xs : List Int} (h : DOwn wr B v n xs) (hg : g1 < B) : DOwn ((wr.setCell ⟨g1, 1, none⟩ x).setCell ⟨g1, 2, none⟩ l) B v n xs := by
  have hn : v.ownBlock ≠ some g1 := fun e => by have := h.lt g1 e; omega
  exact (h.but (But.setCell _ _ _ _) hn).but (But.setCell _ _ _ _) hn
theorem rf_fin {w4 : World} {B0 B b e L P m : Nat} {l : Value} {ps : List Pt} {d : List Int} {p' : Pt} (HP : Hid (2 ^ L = P)) (hd : DOwn w4 B0 l (m + 1) ((ps.take m).flatMap Prod.snd ++ p'.2)) (hB : B ≤ B0) (hm : m ≤ ps.length) (hg : GoodL ps) (hgp : Good p') (hPL : putL ps ((L, e / P), d) = ps.take m ++ [p']) (hn : ps.map Prod.fst = parts b e) (hbe : b ≤ e) (hdv : 2 ^ L ∣ e) (hmx : e + P ≤ 281474976710656) :
    Rf5 w4 B b (e + 2 ^ L) l (putL ps ((L, e / 2 ^ L), d)) := by
  have e1 := putL_nodes (d := d) hn hbe hdv (by rw [HP.out]; exact hmx)
  rw [HP.out] at e1 ⊢
  refine ⟨?_, ?_, e1, by omega, hmx⟩
  · rw [hPL]
    have e2 : (ps.take m ++ [p']).length = m + 1 := by simp; omega
    have e3 : (ps.take m ++ [p']).flatMap Prod.snd = (ps.take m).flatMap Prod.snd ++ p'.2 := by simp
    rw [e2, e3]
    exact hd.base hB
  · rw [hPL]
    exact (hg.take m).snoc hgp
set_option maxRecDepth 100000 in
set_option maxHeartbeats 8000000 in
theorem refApp_ok (B b e L : Nat) (a0 : Option Addr) (n0 q0 : Nat) (ps : List Pt) (d : List Int) (w : World) (hr : Rf5 w B b e (.slice a0 n0 q0) ps) (hL : L ≤ 48) (hdv : 2 ^ L ∣ e) (hm : e + 2 ^ L ≤ 281474976710656) (hdl : d.length = 32) (hdb : isB d) :
    Calls Tryd.prog 10 #[.agg (rfC b e (.slice a0 n0 q0)).toArray, .int .i64 (L : Int), .agg (u8s d).toArray] w fun r w' => Below w.heap.size w w' ∧ ∃ v', r = .returned (.tuple #[.agg (rfC b (e + 2 ^ L : Nat) v').toArray, .int .i64 0]) ∧ Rf5 w' w.heap.size b (e + 2 ^ L) v' (putL ps ((L, e / 2 ^ L), d)) := by
  have HR := hide hr
  have hmax := hr.max
  have hbe := hr.le
  have hul : IntKind.u64.wrap (L : Int) = (L : Int) := by rw [IntKind.wrap_u64]; omega
  have hl0 : ¬ (L : Int) < 0 := by omega
  have hl1 : ¬ (48 : Int) < (L : Int) := by omega
  have HDV := hide hdv
  have HDL := hide hdl
  have HUL := hide (show (u8s d).length = 32 by rw [u8s_length, hdl])
  have HDB := hide hdb
  obtain ⟨P, HP⟩ : ∃ P, Hid (2 ^ L = P) := ⟨_, hide rfl⟩
  have hPp : 0 < P := by rw [← HP.out]; exact Nat.two_pow_pos L
  rw [HP.out] at hm
  have hP0 : ¬ (P : Int) = 0 := by omega
  have hgt : ¬ (281474976710656 - (e : Int)) < (P : Int) := by omega
  have hrem := aux_rem e P L hdv HP
  have hsub := aux_sub e hmax
  have hshr := aux_shrP e L P HP
  have hpw := aux_pow P L HP (Nat.le_trans (Nat.le_add_left _ _) hm)
  have HGD : Hid (Good ((L, e / P), d)) := hide (aux_good L e P d hdl hdb hL hmax)
  have HBD : Hid ((e / P + 1) * 2 ^ L ≤ 281474976710656) := hide (aux_bd L e P HP hdv hm)
  clear hr hdv hdl hdb
  go_enter Tryd.func10, Tryd.ntmps10
  go_wp2_with (refine step_box (cs := rfC b e (.slice a0 n0 q0)) rfl rfl ?_)
  intro w1 g1 hg1 hle1 hb1
  go_wp2_with (refine step_box rfl rfl ?_)
  intro w2 g2 hg2 hle2 hb2
  go_wp2_with (refine step_alloc zRf rfl ?_)
  intro w3 g3 hg3 hle3 hb3
  have hb12 := hb1.trans (hb2.mono hb1.size)
  have HB3 := hide (hb12.trans (hb3.mono hb12.size))
  have HG1 := hide ((hg1.below hb2 hg1.lt).below hb3 (hg1.below hb2 hg1.lt).lt)
  have HG2 := hide (hg2.below hb3 hg2.lt)
  have HG3 := hide hg3
  have hw3 : w.heap.size ≤ g3 := Nat.le_trans hb12.size hle3
  have hw1 : w.heap.size ≤ g1 := hle1
  have h13 : g3 ≠ g1 := by have := hg1.lt; have := hb2.size; omega
  have c1 : w3.cell? ⟨g1, 1, none⟩ = some (.int .i64 (e : Int)) := by rw [HG1.out.cell]; rfl
  have c0 : w3.cell? ⟨g1, 0, none⟩ = some (.int .i64 (b : Int)) := by rw [HG1.out.cell]; rfl
  clear hg1 hg2 hg3 hb1 hb2 hb3 hb12 hle1 hle2 hle3
  go_wp2_with fail
  have HJ3 : Hid (RJ w w3 g1 g2 g3 b e (.slice a0 n0 q0) d) := hide ⟨HG1.out, HG2.out, HG3.out, HB3.out⟩
  have HS1 : ∀ V : World, Below w3.heap.size w3 V → V.cell? ⟨g1, 0, none⟩ = some (.int .i64 (b : Int)) ∧ V.cell? ⟨g1, 1, none⟩ = some (.int .i64 (e : Int)) := fun V h => ⟨by rw [(HJ3.out.below h).c1.cell]; rfl, by rw [(HJ3.out.below h).c1.cell]; rfl⟩
  have HS2 : ∀ V : World, Below w3.heap.size w3 V → V.cell? ⟨g1, 2, none⟩ = some (.slice a0 n0 q0) ∧ V.rangeAt g2 0 (u8s d) := fun V h => ⟨by rw [(HJ3.out.below h).c1.cell]; rfl, (HJ3.out.below h).c2.range 0 _ (by rw [List.drop_zero, List.take_of_length_le (Nat.le_refl _)])⟩
  have hlen9 : (parts b e).length ≤ 1048576 := by have := parts_98 b e hmax; omega
  have hlps : ps.length = (parts b e).length := by rw [← HR.out.nodes, List.length_map]
  have HDS0 : ∃ a c, Value.slice a0 n0 q0 = .slice a ps.length c ∧ ∀ V : World, Below w3.heap.size w3 V → Ds V a ps.length c (ps.flatMap Prod.snd) := by
    obtain ⟨a, c, e1, h1, _⟩ := HR.out.own.ds (goodL_isB HR.out.good) (by omega)
    exact ⟨a, c, e1, fun V h => (h1.below HJ3.out.bel).below h⟩
  obtain ⟨a1, c1, e1, HDS⟩ := HDS0
  injection e1 with e1 e2 e3
  subst e1 e2 e3
  obtain ⟨dD, huD, hdD⟩ := wD.und
  clear HG1 HG2 HG3 HB3 c0
  refine join3 (fun v g u W => NOwn W w3.heap.size u (parts b e ++ [(L, e / P)]) ∧ Below w3.heap.size w3 W) ?act ?tail (fun hjoin => ?_)
  rotate_left
  rotate_left
  · refine wp_region_noPanic ?_
    have HB0 := hide ((Below.refl w3.heap.size w3).drew)
    refine wp_region_held_drew (S := fun V : World => V.cell? ⟨g1, 0, none⟩ = some (.int .i64 (b : Int)) ∧ V.cell? ⟨g1, 1, none⟩ = some (.int .i64 (e : Int))) (by kernel_rfl) (HS1 _ HB0.out) (fun hHeld => ?_)
    refine takeH 0 36 (.pointer (some ⟨g1, 0, none⟩)) hHeld rfl rfl (by kernel_rfl) (by kernel_rfl) (by kernel_rfl) (fun _ _ _ h => h) (Or.inl ⟨by rfl, fun w _ => by go_simp⟩) ?_
    simp only [Act.put, List.setIfInBounds_toArray, List.set_cons_zero, List.set_cons_succ]
    refine takeH 1 37 (.int .i64 (b : Int)) hHeld rfl rfl (by kernel_rfl) (by kernel_rfl) (by kernel_rfl) (fun _ _ _ h => h) (Or.inl ⟨by rfl, fun w hw => by have hw' : w.cell? ⟨g1, 0, none⟩ = some (.int .i64 (b : Int)) := (fun h => h.1) hw; go_simp⟩) ?_
    simp only [Act.put, List.setIfInBounds_toArray, List.set_cons_zero, List.set_cons_succ]
    refine takeH 2 38 (.pointer (some ⟨g1, 1, none⟩)) hHeld rfl rfl (by kernel_rfl) (by kernel_rfl) (by kernel_rfl) (fun _ _ _ h => h) (Or.inl ⟨by rfl, fun w _ => by go_simp⟩) ?_
    simp only [Act.put, List.setIfInBounds_toArray, List.set_cons_zero, List.set_cons_succ]
    refine takeH 3 39 (.int .i64 (e : Int)) hHeld rfl rfl (by kernel_rfl) (by kernel_rfl) (by kernel_rfl) (fun _ _ _ h => h) (Or.inl ⟨by rfl, fun w hw => by have hw' : w.cell? ⟨g1, 1, none⟩ = some (.int .i64 (e : Int)) := (fun h => h.2) hw; go_simp⟩) ?_
    simp only [Act.put, List.setIfInBounds_toArray, List.set_cons_zero, List.set_cons_succ]
    refine takeH 5 41 (.int .i64 (L : Int)) hHeld rfl rfl (by kernel_rfl) (by kernel_rfl) (by kernel_rfl) (fun _ _ _ h => h) (Or.inl ⟨by rfl, fun w _ => by go_simp⟩) ?_
    simp only [Act.put, List.setIfInBounds_toArray, List.set_cons_zero, List.set_cons_succ]
    refine takeH 6 42 (.pointer (some ⟨g1, 1, none⟩)) hHeld rfl rfl (by kernel_rfl) (by kernel_rfl) (by kernel_rfl) (fun _ _ _ h => h) (Or.inl ⟨by rfl, fun w _ => by go_simp⟩) ?_
    simp only [Act.put, List.setIfInBounds_toArray, List.set_cons_zero, List.set_cons_succ]
    refine takeH 7 43 (.int .i64 (e : Int)) hHeld rfl rfl (by kernel_rfl) (by kernel_rfl) (by kernel_rfl) (fun _ _ _ h => h) (Or.inl ⟨by rfl, fun w hw => by have hw' : w.cell? ⟨g1, 1, none⟩ = some (.int .i64 (e : Int)) := (fun h => h.2) hw; go_simp⟩) ?_
    simp only [Act.put, List.setIfInBounds_toArray, List.set_cons_zero, List.set_cons_succ]
    refine takeH 8 44 (.int .i64 (L : Int)) hHeld rfl rfl (by kernel_rfl) (by kernel_rfl) (by kernel_rfl) (fun _ _ _ h => h) (Or.inl ⟨by rfl, fun w _ => by go_simp⟩) ?_
    simp only [Act.put, List.setIfInBounds_toArray, List.set_cons_zero, List.set_cons_succ]
    refine takeH 9 45 (.int .u64 (L : Int)) hHeld rfl rfl (by kernel_rfl) (by kernel_rfl) (by kernel_rfl) (fun _ _ _ h => h) (Or.inl ⟨by rfl, fun w _ => by go_simp⟩) ?_
    simp only [Act.put, List.setIfInBounds_toArray, List.set_cons_zero, List.set_cons_succ]
    refine takeH 10 46 (.int .i64 ((e : Int) / (P : Int))) hHeld rfl rfl (by kernel_rfl) (by kernel_rfl) (by kernel_rfl) (fun _ _ _ h => h) (Or.inl ⟨by rfl, fun w _ => by go_simp⟩) ?_
    simp only [Act.put, List.setIfInBounds_toArray, List.set_cons_zero, List.set_cons_succ]
    refine takeH 11 47 (.agg (nC (L, e / P)).toArray) hHeld rfl rfl (by kernel_rfl) (by kernel_rfl) (by kernel_rfl) (fun _ _ _ h => h) (Or.inl ⟨by rfl, fun w _ => by go_simp; simp [nC]⟩) ?_
    simp only [Act.put, List.setIfInBounds_toArray, List.set_cons_zero, List.set_cons_succ]
    refine wpAnyH_ready (rs := [4, 12]) (by kernel_rfl) (by simp) (AllReadyH.cons rfl (fun K hK => ?_) (AllReadyH.cons rfl (fun K hK => ?_) AllReadyH.nil))
    · rw [if_pos (by rfl)]
      go_simp
      refine (partsR_any b e _ hbe hmax).mono ?_
      rintro r W4 ⟨v4, rfl, hn4, hb4⟩
      have HB4 := hide (HB0.out.trans (hb4.mono HB0.out.size))
      have HN4 := hide (hn4.base HB0.out.size)
      refine hK.out _ _ (HS1 _ HB4.out) (fun hHeld => ?_)
      clear hK K hn4 hb4
      refine wpAnyH_ready (rs := [12]) (by kernel_rfl) (by simp) (AllReadyH.cons rfl (fun K hK => ?_) AllReadyH.nil)
      rw [if_pos (by rfl)]
      refine wp_oneN (n := (L, e / P)) rfl ?_
      intro W5 gq hgq hleq hb5
      have HB := hide (HB4.out.trans (hb5.mono HB4.out.size))
      have HN := hide (HN4.out.below hb5)
      have HGQ := hide hgq
      refine hK.out _ _ (HS1 _ HB.out) (fun hHeld => ?_)
      clear hK K hgq hb5
      simp only [Act.put, List.setIfInBounds_toArray, List.set_cons_zero, List.set_cons_succ]
      refine wpAnyH_ready (rs := [13]) (by kernel_rfl) (by simp) (AllReadyH.cons rfl (fun K hK => ?_) AllReadyH.nil)
      rw [if_pos (by rfl)]
      refine wp_appendN (B := w3.heap.size) rfl rfl HN.out HGQ.out hlen9 HB.out.size ?_
      intro v8 W8 ho8 hgr8 _
      have hB8 := HB.out.trans (Below.of_grown hgr8 HB.out.size (fun r hr => (HN.out.lt r hr).1))
      refine hK.out _ _ (HS1 _ hB8) (fun hHeld => ?_)
      clear hK K
      simp only [Act.put, List.setIfInBounds_toArray, List.set_cons_zero, List.set_cons_succ]
      refine takeH 14 8 (v8) hHeld rfl rfl (by kernel_rfl) (by kernel_rfl) (by kernel_rfl) (fun _ _ _ h => h) (Or.inl ⟨by rfl, fun w _ => by go_simp⟩) ?_
      simp only [Act.put, List.setIfInBounds_toArray, List.set_cons_zero, List.set_cons_succ]
      refine wpAnyH_done (by kernel_rfl) ?_ _
      refine NoPanic.normal ?_
      exact hjoin v4 gq v8 W8 ⟨ho8, hB8⟩
    · rw [if_pos (by rfl)]
      refine wp_oneN (n := (L, e / P)) rfl ?_
      intro W5 gq hgq hleq hb5
      have HB5 := hide (HB0.out.trans (hb5.mono HB0.out.size))
      have HGQ5 := hide hgq
      refine hK.out _ _ (HS1 _ HB5.out) (fun hHeld => ?_)
      clear hK K hgq hb5
      simp only [Act.put, List.setIfInBounds_toArray, List.set_cons_zero, List.set_cons_succ]
      refine wpAnyH_ready (rs := [4]) (by kernel_rfl) (by simp) (AllReadyH.cons rfl (fun K hK => ?_) AllReadyH.nil)
      rw [if_pos (by rfl)]
      go_simp
      refine (partsR_any b e _ hbe hmax).mono ?_
      rintro r W4 ⟨v4, rfl, hn4, hb4⟩
      have HB := hide (HB5.out.trans (hb4.mono HB5.out.size))
      have HN := hide (hn4.base HB5.out.size)
      have HGQ := hide (HGQ5.out.below hb4 HGQ5.out.lt)
      refine hK.out _ _ (HS1 _ HB.out) (fun hHeld => ?_)
      clear hK K hn4 hb4
      refine wpAnyH_ready (rs := [13]) (by kernel_rfl) (by simp) (AllReadyH.cons rfl (fun K hK => ?_) AllReadyH.nil)
      rw [if_pos (by rfl)]
      refine wp_appendN (B := w3.heap.size) rfl rfl HN.out HGQ.out hlen9 HB.out.size ?_
      intro v8 W8 ho8 hgr8 _
      have hB8 := HB.out.trans (Below.of_grown hgr8 HB.out.size (fun r hr => (HN.out.lt r hr).1))
      refine hK.out _ _ (HS1 _ hB8) (fun hHeld => ?_)
      clear hK K
      simp only [Act.put, List.setIfInBounds_toArray, List.set_cons_zero, List.set_cons_succ]
      refine takeH 14 8 (v8) hHeld rfl rfl (by kernel_rfl) (by kernel_rfl) (by kernel_rfl) (fun _ _ _ h => h) (Or.inl ⟨by rfl, fun w _ => by go_simp⟩) ?_
      simp only [Act.put, List.setIfInBounds_toArray, List.set_cons_zero, List.set_cons_succ]
      refine wpAnyH_done (by kernel_rfl) ?_ _
      refine NoPanic.normal ?_
      exact hjoin v4 gq v8 W8 ⟨ho8, hB8⟩
  case tail =>
    rintro v4 gq8 v8 W8 ⟨hn8, hB8⟩
    have HN8 := hide hn8
    have HB8 := hide hB8
    clear hn8 hB8
    go_wp2_with fail
    refine join4 (fun x y g l W => Below w3.heap.size w3 W ∧ NOwn W w3.heap.size v8 (parts b e ++ [(L, e / P)]) ∧ DOwn W w3.heap.size l (ps.length + 1) (ps.flatMap Prod.snd ++ d)) ?act2 ?tail2 (fun hjoin => ?_)
    rotate_left
    rotate_left
    · refine wp_region_noPanic ?_
      have HB := hide (HB8.out.drew)
      have HN := hide (HN8.out.below ((Below.refl W8.heap.size W8).drew))
      refine wp_region_held_drew (S := fun V : World => V.cell? ⟨g1, 2, none⟩ = some (.slice a0 ps.length q0) ∧ V.rangeAt g2 0 (u8s d)) (by kernel_rfl) (HS2 _ HB.out) (fun hHeld => ?_)
      refine takeH 1 51 (.pointer (some ⟨g1, 2, none⟩)) hHeld rfl rfl (by kernel_rfl) (by kernel_rfl) (by kernel_rfl) (fun _ _ _ h => h) (Or.inl ⟨by rfl, fun w _ => by go_simp⟩) ?_
      simp only [Act.put, List.setIfInBounds_toArray, List.set_cons_zero, List.set_cons_succ]
      refine takeH 2 52 (.slice a0 ps.length q0) hHeld rfl rfl (by kernel_rfl) (by kernel_rfl) (by kernel_rfl) (fun _ _ _ h => h) (Or.inl ⟨by rfl, fun w hw => by have hw' : w.cell? ⟨g1, 2, none⟩ = some (.slice a0 ps.length q0) := (fun h => h.1) hw; go_simp⟩) ?_
      simp only [Act.put, List.setIfInBounds_toArray, List.set_cons_zero, List.set_cons_succ]
      refine takeH 4 54 (.agg (u8s d).toArray) hHeld rfl rfl (by kernel_rfl) (by kernel_rfl) (by kernel_rfl) (fun _ _ _ h => h) (yieldsIf_load_mid (by rfl) _ _ rfl g2 0 rfl _ _ (fun w h => h.2) huD hdD (by rw [wD.size, u8s_length, HDL.out])) ?_
      simp only [Act.put, List.setIfInBounds_toArray, List.set_cons_zero, List.set_cons_succ]
      refine wpAnyH_ready (rs := [0, 5]) (by kernel_rfl) (by simp) (AllReadyH.cons rfl (fun K hK => ?_) (AllReadyH.cons rfl (fun K hK => ?_) AllReadyH.nil))
      · rw [if_pos (by rfl)]
        refine wp_emptyD ?_
        intro WA ua hoA hbA
        have HB1 := hide (HB.out.trans (hbA.mono HB.out.size))
        have HN1 := hide (HN.out.below hbA)
        have HD := hide (hoA.base HB.out.size)
        skip
        refine hK.out _ _ (HS2 _ HB1.out) (fun hHeld => ?_)
        clear hK K hoA hbA HB HN
        have HB := HB1
        have HN := HN1
        clear HB1 HN1
        simp only [Act.put, List.setIfInBounds_toArray, List.set_cons_zero, List.set_cons_succ]
        refine wpAnyH_ready (rs := [3, 5]) (by kernel_rfl) (by simp) (AllReadyH.cons rfl (fun K hK => ?_) (AllReadyH.cons rfl (fun K hK => ?_) AllReadyH.nil))
        · rw [if_pos (by rfl)]
          refine wp_appendDG rfl rfl HD.out (HDS _ HB.out) (by omega) HB.out.size ?_
          intro ub WL hoL hgL
          have HB1 := hide (HB.out.trans (Below.of_grown hgL HB.out.size (fun k hk => HD.out.lt k hk)))
          have HN1 := hide (HN.out.keptD HD.out hgL)
          skip
          refine hK.out _ _ (HS2 _ HB1.out) (fun hHeld => ?_)
          rw [Nat.zero_add, List.nil_append] at hoL
          have HD1 := hide hoL
          clear hK K hgL hoL HB HN HD
          have HB := HB1
          have HN := HN1
          have HD := HD1
          clear HB1 HN1 HD1
          simp only [Act.put, List.setIfInBounds_toArray, List.set_cons_zero, List.set_cons_succ]
          refine wpAnyH_ready (rs := [5]) (by kernel_rfl) (by simp) (AllReadyH.cons rfl (fun K hK => ?_) AllReadyH.nil)
          rw [if_pos (by rfl)]
          refine wp_oneD2 rfl HDL.out ?_
          intro WQ gq hsq hleq hbQ
          have HB1 := hide (HB.out.trans (hbQ.mono HB.out.size))
          have HN1 := hide (HN.out.below hbQ)
          have HSQ := hide hsq
          (have HD1 := hide (HD.out.below hbQ); clear HD; have HD := HD1; clear HD1)
          refine hK.out _ _ (HS2 _ HB1.out) (fun hHeld => ?_)
          clear hK K hsq hleq hbQ HB HN
          have HB := HB1
          have HN := HN1
          clear HB1 HN1
          simp only [Act.put, List.setIfInBounds_toArray, List.set_cons_zero, List.set_cons_succ]
          refine wpAnyH_ready (rs := [6]) (by kernel_rfl) (by simp) (AllReadyH.cons rfl (fun K hK => ?_) AllReadyH.nil)
          rw [if_pos (by rfl)]
          refine wp_appendDG rfl rfl HD.out (ds_one HSQ.out HDL.out HDB.out) (by omega) HB.out.size ?_
          intro uc WC hoC hgC
          have HB1 := hide (HB.out.trans (Below.of_grown hgC HB.out.size (fun k hk => HD.out.lt k hk)))
          have HN1 := hide (HN.out.keptD HD.out hgC)
          have HD1 := hide hoC
          refine hK.out _ _ (HS2 _ HB1.out) (fun hHeld => ?_)
          clear hK K hgC hoC HB HN HD
          simp only [Act.put, List.setIfInBounds_toArray, List.set_cons_zero, List.set_cons_succ]
          refine takeH 7 9 (uc) hHeld rfl rfl (by kernel_rfl) (by kernel_rfl) (by kernel_rfl) (fun _ _ _ h => h) (Or.inl ⟨by rfl, fun w _ => by go_simp⟩) ?_
          simp only [Act.put, List.setIfInBounds_toArray, List.set_cons_zero, List.set_cons_succ]
          refine wpAnyH_done (by kernel_rfl) ?_ _
          refine NoPanic.normal ?_
          exact hjoin ua ub gq uc WC ⟨HB1.out, HN1.out, HD1.out⟩
        · rw [if_pos (by rfl)]
          refine wp_oneD2 rfl HDL.out ?_
          intro WQ gq hsq hleq hbQ
          have HB1 := hide (HB.out.trans (hbQ.mono HB.out.size))
          have HN1 := hide (HN.out.below hbQ)
          have HSQ := hide hsq
          (have HNE : Hid (∀ k, ua.ownBlock = some k → k ≠ gq) := hide (fun k hk e => by have := (HD.out.slt k hk).2; omega); have HD1 := hide (HD.out.below hbQ); clear HD; have HD := HD1; clear HD1)
          refine hK.out _ _ (HS2 _ HB1.out) (fun hHeld => ?_)
          clear hK K hsq hleq hbQ HB HN
          have HB := HB1
          have HN := HN1
          clear HB1 HN1
          simp only [Act.put, List.setIfInBounds_toArray, List.set_cons_zero, List.set_cons_succ]
          refine wpAnyH_ready (rs := [3]) (by kernel_rfl) (by simp) (AllReadyH.cons rfl (fun K hK => ?_) AllReadyH.nil)
          rw [if_pos (by rfl)]
          refine wp_appendDG rfl rfl HD.out (HDS _ HB.out) (by omega) HB.out.size ?_
          intro ub WL hoL hgL
          have HB1 := hide (HB.out.trans (Below.of_grown hgL HB.out.size (fun k hk => HD.out.lt k hk)))
          have HN1 := hide (HN.out.keptD HD.out hgL)
          (have HSQ1 : Hid (Blk WL gq 34 (u8s d)) := hide (by unfold Blk; rw [hgL.block gq HSQ.out.lt (fun e => HNE.out gq e.symm rfl)]; exact HSQ.out); clear HSQ; have HSQ := HSQ1; clear HSQ1)
          refine hK.out _ _ (HS2 _ HB1.out) (fun hHeld => ?_)
          rw [Nat.zero_add, List.nil_append] at hoL
          have HD1 := hide hoL
          clear hK K hgL hoL HB HN HD
          have HB := HB1
          have HN := HN1
          have HD := HD1
          clear HB1 HN1 HD1
          simp only [Act.put, List.setIfInBounds_toArray, List.set_cons_zero, List.set_cons_succ]
          refine wpAnyH_ready (rs := [6]) (by kernel_rfl) (by simp) (AllReadyH.cons rfl (fun K hK => ?_) AllReadyH.nil)
          rw [if_pos (by rfl)]
          refine wp_appendDG rfl rfl HD.out (ds_one HSQ.out HDL.out HDB.out) (by omega) HB.out.size ?_
          intro uc WC hoC hgC
          have HB1 := hide (HB.out.trans (Below.of_grown hgC HB.out.size (fun k hk => HD.out.lt k hk)))
          have HN1 := hide (HN.out.keptD HD.out hgC)
          have HD1 := hide hoC
          refine hK.out _ _ (HS2 _ HB1.out) (fun hHeld => ?_)
          clear hK K hgC hoC HB HN HD
          simp only [Act.put, List.setIfInBounds_toArray, List.set_cons_zero, List.set_cons_succ]
          refine takeH 7 9 (uc) hHeld rfl rfl (by kernel_rfl) (by kernel_rfl) (by kernel_rfl) (fun _ _ _ h => h) (Or.inl ⟨by rfl, fun w _ => by go_simp⟩) ?_
          simp only [Act.put, List.setIfInBounds_toArray, List.set_cons_zero, List.set_cons_succ]
          refine wpAnyH_done (by kernel_rfl) ?_ _
          refine NoPanic.normal ?_
          exact hjoin ua ub gq uc WC ⟨HB1.out, HN1.out, HD1.out⟩
      · rw [if_pos (by rfl)]
        refine wp_oneD2 rfl HDL.out ?_
        intro WQ gq hsq hleq hbQ
        have HB1 := hide (HB.out.trans (hbQ.mono HB.out.size))
        have HN1 := hide (HN.out.below hbQ)
        have HSQ := hide hsq
        skip
        refine hK.out _ _ (HS2 _ HB1.out) (fun hHeld => ?_)
        clear hK K hsq hleq hbQ HB HN
        have HB := HB1
        have HN := HN1
        clear HB1 HN1
        simp only [Act.put, List.setIfInBounds_toArray, List.set_cons_zero, List.set_cons_succ]
        refine wpAnyH_ready (rs := [0]) (by kernel_rfl) (by simp) (AllReadyH.cons rfl (fun K hK => ?_) AllReadyH.nil)
        rw [if_pos (by rfl)]
        refine wp_emptyD ?_
        intro WA ua hoA hbA
        have HB1 := hide (HB.out.trans (hbA.mono HB.out.size))
        have HN1 := hide (HN.out.below hbA)
        have HD := hide (hoA.base HB.out.size)
        (have HSQ1 := hide (HSQ.out.below hbA HSQ.out.lt); have HNE : Hid (∀ k, ua.ownBlock = some k → k ≠ gq) := hide (fun k hk e => by have := hoA.lt k hk; have := HSQ.out.lt; omega); clear HSQ; have HSQ := HSQ1; clear HSQ1)
        refine hK.out _ _ (HS2 _ HB1.out) (fun hHeld => ?_)
        clear hK K hoA hbA HB HN
        have HB := HB1
        have HN := HN1
        clear HB1 HN1
        simp only [Act.put, List.setIfInBounds_toArray, List.set_cons_zero, List.set_cons_succ]
        refine wpAnyH_ready (rs := [3]) (by kernel_rfl) (by simp) (AllReadyH.cons rfl (fun K hK => ?_) AllReadyH.nil)
        rw [if_pos (by rfl)]
        refine wp_appendDG rfl rfl HD.out (HDS _ HB.out) (by omega) HB.out.size ?_
        intro ub WL hoL hgL
        have HB1 := hide (HB.out.trans (Below.of_grown hgL HB.out.size (fun k hk => HD.out.lt k hk)))
        have HN1 := hide (HN.out.keptD HD.out hgL)
        (have HSQ1 : Hid (Blk WL gq 34 (u8s d)) := hide (by unfold Blk; rw [hgL.block gq HSQ.out.lt (fun e => HNE.out gq e.symm rfl)]; exact HSQ.out); clear HSQ; have HSQ := HSQ1; clear HSQ1)
        refine hK.out _ _ (HS2 _ HB1.out) (fun hHeld => ?_)
        rw [Nat.zero_add, List.nil_append] at hoL
        have HD1 := hide hoL
        clear hK K hgL hoL HB HN HD
        have HB := HB1
        have HN := HN1
        have HD := HD1
        clear HB1 HN1 HD1
        simp only [Act.put, List.setIfInBounds_toArray, List.set_cons_zero, List.set_cons_succ]
        refine wpAnyH_ready (rs := [6]) (by kernel_rfl) (by simp) (AllReadyH.cons rfl (fun K hK => ?_) AllReadyH.nil)
        rw [if_pos (by rfl)]
        refine wp_appendDG rfl rfl HD.out (ds_one HSQ.out HDL.out HDB.out) (by omega) HB.out.size ?_
        intro uc WC hoC hgC
        have HB1 := hide (HB.out.trans (Below.of_grown hgC HB.out.size (fun k hk => HD.out.lt k hk)))
        have HN1 := hide (HN.out.keptD HD.out hgC)
        have HD1 := hide hoC
        refine hK.out _ _ (HS2 _ HB1.out) (fun hHeld => ?_)
        clear hK K hgC hoC HB HN HD
        simp only [Act.put, List.setIfInBounds_toArray, List.set_cons_zero, List.set_cons_succ]
        refine takeH 7 9 (uc) hHeld rfl rfl (by kernel_rfl) (by kernel_rfl) (by kernel_rfl) (fun _ _ _ h => h) (Or.inl ⟨by rfl, fun w _ => by go_simp⟩) ?_
        simp only [Act.put, List.setIfInBounds_toArray, List.set_cons_zero, List.set_cons_succ]
        refine wpAnyH_done (by kernel_rfl) ?_ _
        refine NoPanic.normal ?_
        exact hjoin ua ub gq uc WC ⟨HB1.out, HN1.out, HD1.out⟩
    case tail2 =>
      rintro ua ub gq uc WC ⟨hB9, hN9, hD9⟩
      have I0 : Hid (LI w3 WC v8 uc ps ((L, e / P), d) ps.length ((L, e / P), d)) := hide ⟨Nat.le_refl _, HGD.out, HBD.out, by rw [List.take_length], hB9, by rw [List.take_length, HR.out.nodes]; exact hN9, by rw [List.take_length]; exact hD9⟩
      clear hB9 hN9 hD9 HN8 HB8 HS2 HDS
      go_wp2_with fail
      have HLP := hide hlps
      clear hlps
      go_loopw [8, 9] (fun u l wr => ∃ (m : Nat) (p' : Pt), Hid (LI w3 wr u l ps ((L, e / P), d) m p')) (fun u _ _ => lenOf u)
      case atStart => exact ⟨_, _, I0⟩
      case round =>
        clear I0
        obtain ⟨m, p', HI⟩ := hrel
        obtain ⟨h, cu, lb, cl, n, hn, rfl, rfl⟩ := HI.out.form
        rcases Nat.eq_zero_or_pos m with h0 | h0
        · have HPL : Hid (putL ps ((L, e / P), d) = ps.take m ++ [p']) := hide (by
            unfold putL
            rw [← HI.out.eq, h0]
            rfl)
          subst h0
          obtain rfl : n = 1 := hn
          have HJ5 := hide (HJ3.out.below HI.out.bel)
          have c1 : wr.cell? ⟨g1, 1, none⟩ = some (.int .i64 (e : Int)) := by rw [HJ5.out.c1.cell]; rfl
          have f1 : wr.frozen? ⟨g1, 1, none⟩ = false := HJ5.out.c1.free 1
          have c2 : wr.cell? ⟨g1, 2, none⟩ = some (.slice a0 ps.length q0) := by rw [HJ5.out.c1.cell]; rfl
          have f2 : wr.frozen? ⟨g1, 2, none⟩ = false := HJ5.out.c1.free 2
          have hadd := aux_add e P hm
          go_wp2_with (first | (refine step_loadA wRf rfl rfl (fs1 HJ5.out _ _) rfl ?_) | (refine step_storeA wRf rfl rfl rfl (fs3 HJ5.out h13 _ _) rfl (One.rfC _ _ _ _ _) rfl ?_; intro w4 hg4 hbut))
          refine bodyPost_ret (results_wide2 rfl wRf _ _ rfl hg4 rfl) rfl ⟨(fsB HJ5.out hw1 _ _).trans (hbut.below hw3), .slice (some ⟨lb, 0, none⟩) 1 cl, ?_, ?_⟩
          · first
            | (rw [HP.out, Int.natCast_add]; rfl)
            | (rw [show (2 : Int) ^ L = (P : Int) by rw [← HP.out]; simp]; rfl)
          · exact rf_fin HP ((fsD HI.out.digs (HJ3.out.c1.lt)).but hbut (fun e1 => absurd (HI.out.digs.lt _ e1) (Nat.not_le_of_lt HJ3.out.c3.lt))) HJ3.out.bel.size HI.out.hm HR.out.good HI.out.good HPL.out HR.out.nodes hbe HDV.out hm
        · obtain ⟨k, rfl⟩ : ∃ k, m = k + 1 := ⟨m - 1, by omega⟩
          clear h0
          have hkl : k < ps.length := HI.out.hm
          obtain ⟨j, HJ⟩ : ∃ j, Hid (k + 1 = j) := ⟨_, hide rfl⟩
          have ETK : ps.take (k + 1) = ps.take k ++ [pAt ps k] := by
            rw [List.take_succ_eq_append_getElem hkl]
            simp [pAt, List.getD, hkl]
          have HQG := hide (pAt_good HR.out.good hkl)
          have HEQ : Hid ((if sib (pAt ps k).1 p'.1 then putS nd (ps.take k).reverse ((p'.1.1 + 1, p'.1.2 / 2), nd (pAt ps k).2 p'.2) else p' :: pAt ps k :: (ps.take k).reverse) = putS nd ps.reverse ((L, e / P), d)) := hide (by
            have := HI.out.eq
            rw [ETK, List.reverse_append] at this
            exact this)
          obtain ⟨q, HQ0⟩ : ∃ q, Hid (pAt ps k = q) := ⟨_, hide rfl⟩
          rw [HQ0.out] at ETK HQG HEQ
          obtain ⟨h1n, hw2, hwj, hkn, hjn, hv2, hvj⟩ := aux_n hn HJ.out (aux_nle hn hkl HLP.out hlen9)
          obtain ⟨lg1, lg2, lt3⟩ := li_get (p' := p') hkl ETK
          have HLF := hide (li_flat (p' := p') HR.out.good hkl ETK)
          have HT3 := hide lt3
          have HR1 : Hid (∀ W, LI w3 W (.slice (some ⟨h, 0, none⟩) n cu) (.slice (some ⟨lb, 0, none⟩) n cl) ps ((L, e / P), d) (k + 1) p' → W.rangeAt h (k * 2) (nC q.1)) := hide (fun W hW => hW.nodes.range k q.1 lg1)
          have HR2 : Hid (∀ W, LI w3 W (.slice (some ⟨h, 0, none⟩) n cu) (.slice (some ⟨lb, 0, none⟩) n cl) ps ((L, e / P), d) (k + 1) p' → W.rangeAt h (j * 2) (nC p'.1)) := hide (fun W hW => hW.nodes.range j p'.1 (by rw [← HJ.out]; exact lg2))
          have HHN := hide hn
          have HKL := hide hkl
          have HHH : Hid (∀ W, LI w3 W (.slice (some ⟨h, 0, none⟩) n cu) (.slice (some ⟨lb, 0, none⟩) n cl) ps ((L, e / P), d) (k + 1) p' → h < W.heap.size) := hide (fun W hW => (hW.nodes.lt h rfl).2)
          have hix2 := n_at h n cu k (k : Int) rfl hkn
          have hix1 := n_at h n cu j (j : Int) rfl hjn
          clear lg1 lg2 lt3 hkl hn
          go_wp2_with (first | (refine step_loadR wNd rfl rfl (nC q.1) (HR1.out _ HI.out) rfl ?_) | (refine step_alloc zNd rfl ?_))
          intro wa ga hga hlea hba
          go_wp2_with (refine step_storeA wNd rfl rfl rfl hga rfl (One.nC _) rfl ?_)
          intro wa2 hga2 hbuta
          have HIa := hide (HI.out.below (below_boxed hba hlea hbuta))
          have HGA1 := hide hga2
          have hgah : h ≠ ga := by have := HHH.out _ HI.out; omega
          clear hba hlea hbuta hga hga2 HI
          go_wp2_with (first | (refine step_loadR wNd rfl rfl (nC p'.1) (HR2.out _ HIa.out) rfl ?_) | (refine step_alloc zNd rfl ?_))
          intro wb gb hgb hleb hbb
          go_wp2_with (refine step_storeA wNd rfl rfl rfl hgb rfl (One.nC _) rfl ?_)
          intro wb2 hgb2 hbutb
          have HI := hide (HIa.out.below (below_boxed hbb hleb hbutb))
          have HGA := hide (HGA1.out.below (below_boxed hbb hleb hbutb) HGA1.out.lt)
          have HGB := hide hgb2
          clear hbb hleb hbutb hgb hgb2 HIa HGA1
          obtain ⟨⟨ql, qi⟩, qd⟩ := q
          obtain ⟨⟨pl, pi⟩, pd⟩ := p'
          have ca0 : wb2.cell? ⟨ga, 0, none⟩ = some (.int .i64 (ql : Int)) := by rw [HGA.out.cell]; rfl
          have ca1 : wb2.cell? ⟨ga, 1, none⟩ = some (.int .i64 (qi : Int)) := by rw [HGA.out.cell]; rfl
          have cb0 : wb2.cell? ⟨gb, 0, none⟩ = some (.int .i64 (pl : Int)) := by rw [HGB.out.cell]; rfl
          have cb1 : wb2.cell? ⟨gb, 1, none⟩ = some (.int .i64 (pi : Int)) := by rw [HGB.out.cell]; rfl
          obtain ⟨hmo, hq1, hqd⟩ := aux_q (qi := qi) HQG.out.idx
          by_cases hsb : sib (ql, qi) (pl, pi) = true
          · obtain ⟨hA, hB, hC⟩ := sib_iff.1 hsb
            have HEQ2 : Hid (putS nd (ps.take k).reverse ((ql + 1, qi / 2), nd qd pd) = putS nd ps.reverse ((L, e / P), d)) := hide (by
              have := HEQ.out
              rw [if_pos hsb] at this
              rw [← this]
              have hA' : ql = pl := hA
              have hC' : pi = qi + 1 := hC
              have hB' : qi % 2 = 0 := hB
              have e1 : pi / 2 = qi / 2 := by omega
              simp only [hA', e1])
            obtain rfl : ql = pl := hA
            have hC2 : (pi : Int) = (qi : Int) + 1 := by have : pi = qi + 1 := hC; omega
            rw [show qi % 2 = 0 from hB] at hmo
            rw [hC2] at cb1
            have HBD2 : Hid ((qi / 2 + 1) * 2 ^ (ql + 1) ≤ 281474976710656) := hide (by
              have h1 := HI.out.bd
              have hC' : pi = qi + 1 := hC
              have hB' : qi % 2 = 0 := hB
              have e1 : (qi / 2 + 1) * 2 ^ (ql + 1) = (pi + 1) * 2 ^ ql := by
                rw [Nat.pow_succ, Nat.mul_comm (2 ^ ql) 2, ← Nat.mul_assoc]
                congr 1
                omega
              rw [e1]
              exact h1)
            have HLV : Hid (ql + 1 ≤ 49) := hide (aux_lev HBD2.out)
            have HX := hide (And.intro hm (And.intro hmax (And.intro hbe hL)))
            clear hpw hul hm hmax hbe hL hrem hsub hshr hgt hP0 hl0 hl1 hPp hsb HEQ hB hC hC2 hix1 hix2
            have hqw := aux_q2 (qi := qi) HQG.out.idx
            have hq1' := aux_ql (ql := ql) (by have := HLV.out; omega)
            go_wp2_with fail
            have HU1 : Hid (NOwn wb2 w3.heap.size (.slice (some ⟨h, 0, none⟩) k cu) ((ps.take k).map Prod.fst) ∧ k ≤ cu) := hide (by
              have h1 := HI.out.nodes.cut k (by have := HI.out.hm; simp; omega)
              rw [HT3.out] at h1
              exact h1)
            have HDG : Hid (DOwn wb2 w3.heap.size (.slice (some ⟨lb, 0, none⟩) n cl) n ((ps.take k).flatMap Prod.snd ++ (qd ++ (pd ++ [])))) := hide (by
              have h1 := HI.out.digs
              rw [← HHN.out] at h1
              have h2 : (ps.take (k + 1)).flatMap Prod.snd ++ pd = (ps.take k).flatMap Prod.snd ++ (qd ++ (pd ++ [])) := HLF.out.1
              have h3 : DOwn wb2 w3.heap.size (.slice (some ⟨lb, 0, none⟩) n cl) n ((ps.take (k + 1)).flatMap Prod.snd ++ pd) := h1
              rw [h2] at h3
              exact h3)
            have HDC := hide (HDG.out.cut HLF.out.2)
            have hkcl : k ≤ cl := HDC.out.2
            have hkcu : k ≤ cu := HU1.out.2
            have HQL : Hid (qd.length = 32) := hide HQG.out.len
            have HQB : Hid (isB qd) := hide HQG.out.byte
            have HPL2 : Hid (pd.length = 32) := hide HI.out.good.len
            have HPB : Hid (isB pd) := hide HI.out.good.byte
            have RQ : Hid (wb2.drew.rangeAt lb (0 + 32 * k) (u8s qd)) := hide ((HDG.out.below ((Below.refl wb2.heap.size wb2).drew)).range (by rw [HLF.out.2, Nat.zero_add]))
            have RP : Hid (wb2.drew.rangeAt lb (0 + 32 * j) (u8s pd)) := hide (by
              have h1 := HDG.out.below ((Below.refl wb2.heap.size wb2).drew)
              rw [← List.append_assoc] at h1
              exact h1.range (by rw [List.length_append, HLF.out.2, HQL.out]; have := HJ.out; omega))
            refine join2 (fun g l W => Below w3.heap.size w3 W ∧ NOwn W w3.heap.size (.slice (some ⟨h, 0, none⟩) k cu) ((ps.take k).map Prod.fst) ∧ DOwn W w3.heap.size l (k + 1) ((ps.take k).flatMap Prod.snd ++ nd qd pd) ∧ Blk W ga 57 (nC (ql, qi))) ?act3 ?tail3 (fun hjoin3 => ?_)
            rotate_left
            rotate_left
            · refine wp_region_noPanic ?_
              have HB := hide (HI.out.bel.drew)
              have HU := hide (HU1.out.1.below ((Below.refl wb2.heap.size wb2).drew))
              have HD := hide (HDC.out.1.below ((Below.refl wb2.heap.size wb2).drew))
              have HG := hide (HGA.out.below ((Below.refl wb2.heap.size wb2).drew) HGA.out.lt)
              refine wp_region_held_drew (S := fun V : World => True) (by kernel_rfl) trivial (fun hHeld => ?_)
              refine takeH 0 91 (.slice (some ⟨lb, 0, none⟩) n cl) hHeld rfl rfl (by kernel_rfl) (by kernel_rfl) (by kernel_rfl) (fun _ _ _ h => h) (Or.inl ⟨by rfl, fun w _ => by go_simp⟩) ?_
              simp only [Act.put, List.setIfInBounds_toArray, List.set_cons_zero, List.set_cons_succ]
              refine takeH 1 92 (.int .i64 (n : Int)) hHeld rfl rfl (by kernel_rfl) (by kernel_rfl) (by kernel_rfl) (fun _ _ _ h => h) (Or.inl ⟨by rfl, fun w _ => by go_simp⟩) ?_
              simp only [Act.put, List.setIfInBounds_toArray, List.set_cons_zero, List.set_cons_succ]
              refine takeH 2 93 (.int .i64 (k : Int)) hHeld rfl rfl (by kernel_rfl) (by kernel_rfl) (by kernel_rfl) (fun _ _ _ h => h) (Or.inl ⟨by rfl, fun w _ => by go_simp⟩) ?_
              simp only [Act.put, List.setIfInBounds_toArray, List.set_cons_zero, List.set_cons_succ]
              refine takeH 3 94 (.slice (some ⟨lb, 0, none⟩) k cl) hHeld rfl rfl (by kernel_rfl) (by kernel_rfl) (by kernel_rfl) (fun _ _ _ h => h) (Or.inl ⟨by rfl, fun w _ => run_op rfl ((d_to lb 0 n cl k (k : Int) rfl hkcl) w)⟩) ?_
              simp only [Act.put, List.setIfInBounds_toArray, List.set_cons_zero, List.set_cons_succ]
              refine takeH 4 95 (.slice (some ⟨lb, 0, none⟩) n cl) hHeld rfl rfl (by kernel_rfl) (by kernel_rfl) (by kernel_rfl) (fun _ _ _ h => h) (Or.inl ⟨by rfl, fun w _ => by go_simp⟩) ?_
              simp only [Act.put, List.setIfInBounds_toArray, List.set_cons_zero, List.set_cons_succ]
              refine takeH 5 96 (.int .i64 (n : Int)) hHeld rfl rfl (by kernel_rfl) (by kernel_rfl) (by kernel_rfl) (fun _ _ _ h => h) (Or.inl ⟨by rfl, fun w _ => by go_simp⟩) ?_
              simp only [Act.put, List.setIfInBounds_toArray, List.set_cons_zero, List.set_cons_succ]
              refine takeH 6 97 (.int .i64 (k : Int)) hHeld rfl rfl (by kernel_rfl) (by kernel_rfl) (by kernel_rfl) (fun _ _ _ h => h) (Or.inl ⟨by rfl, fun w _ => by go_simp⟩) ?_
              simp only [Act.put, List.setIfInBounds_toArray, List.set_cons_zero, List.set_cons_succ]
              refine takeH 7 98 (.pointer (some ⟨lb, 0 + 32 * k, none⟩)) hHeld rfl rfl (by kernel_rfl) (by kernel_rfl) (by kernel_rfl) (fun _ _ _ h => h) (Or.inl ⟨by rfl, fun w _ => run_op rfl ((d_at lb 0 n cl k (k : Int) rfl hkn) w)⟩) ?_
              simp only [Act.put, List.setIfInBounds_toArray, List.set_cons_zero, List.set_cons_succ]
              refine takeH 9 100 (.slice (some ⟨lb, 0, none⟩) n cl) hHeld rfl rfl (by kernel_rfl) (by kernel_rfl) (by kernel_rfl) (fun _ _ _ h => h) (Or.inl ⟨by rfl, fun w _ => by go_simp⟩) ?_
              simp only [Act.put, List.setIfInBounds_toArray, List.set_cons_zero, List.set_cons_succ]
              refine takeH 10 101 (.int .i64 (n : Int)) hHeld rfl rfl (by kernel_rfl) (by kernel_rfl) (by kernel_rfl) (fun _ _ _ h => h) (Or.inl ⟨by rfl, fun w _ => by go_simp⟩) ?_
              simp only [Act.put, List.setIfInBounds_toArray, List.set_cons_zero, List.set_cons_succ]
              refine takeH 11 102 (.int .i64 (j : Int)) hHeld rfl rfl (by kernel_rfl) (by kernel_rfl) (by kernel_rfl) (fun _ _ _ h => h) (Or.inl ⟨by rfl, fun w _ => by go_simp⟩) ?_
              simp only [Act.put, List.setIfInBounds_toArray, List.set_cons_zero, List.set_cons_succ]
              refine takeH 12 103 (.pointer (some ⟨lb, 0 + 32 * j, none⟩)) hHeld rfl rfl (by kernel_rfl) (by kernel_rfl) (by kernel_rfl) (fun _ _ _ h => h) (Or.inl ⟨by rfl, fun w _ => run_op rfl ((d_at lb 0 n cl j (j : Int) rfl hjn) w)⟩) ?_
              simp only [Act.put, List.setIfInBounds_toArray, List.set_cons_zero, List.set_cons_succ]
              refine wpAnyH_ready (rs := [8, 13]) (by kernel_rfl) (by simp) (AllReadyH.cons rfl (fun K hK => ?_) (AllReadyH.cons rfl (fun K hK => ?_) AllReadyH.nil))
              · rw [if_pos (by rfl)]
                refine wp_loadRR wD rfl (u8s qd) RQ.out (by rw [u8s_length, HQL.out]) ?_
                refine hK.out _ _ trivial (fun hHeld => ?_)
                clear hK K
                simp only [Act.put, List.setIfInBounds_toArray, List.set_cons_zero, List.set_cons_succ]
                refine wpAnyH_ready (rs := [13]) (by kernel_rfl) (by simp) (AllReadyH.cons rfl (fun K hK => ?_) AllReadyH.nil)
                rw [if_pos (by rfl)]
                refine wp_loadRR wD rfl (u8s pd) RP.out (by rw [u8s_length, HPL2.out]) ?_
                refine hK.out _ _ trivial (fun hHeld => ?_)
                clear hK K
                simp only [Act.put, List.setIfInBounds_toArray, List.set_cons_zero, List.set_cons_succ]
                refine wpAnyH_ready (rs := [14]) (by kernel_rfl) (by simp) (AllReadyH.cons rfl (fun K hK => ?_) AllReadyH.nil)
                rw [if_pos (by rfl)]
                go_simp
                refine (nodeR_any qd pd _ HQL.out HQB.out HPL2.out HPB.out).mono ?_
                rintro r W4 ⟨rfl, hb4⟩
                have HB4 := hide (HB.out.trans (hb4.mono HB.out.size))
                have HU4 := hide (HU.out.below hb4)
                have HD4 := hide (HD.out.below hb4)
                have HG4 := hide (HG.out.below hb4 HG.out.lt)
                refine hK.out _ _ trivial (fun hHeld => ?_)
                clear hK K hb4
                refine wpAnyH_ready (rs := [15]) (by kernel_rfl) (by simp) (AllReadyH.cons rfl (fun K hK => ?_) AllReadyH.nil)
                rw [if_pos (by rfl)]
                refine wp_oneD2 rfl (nd_length _ _) ?_
                intro W5 gq hsq hleq hb5
                have HB5 := hide (HB4.out.trans (hb5.mono HB4.out.size))
                have HU5 := hide (HU4.out.below hb5)
                have HD5 := hide (HD4.out.below hb5)
                have HG5 := hide (HG4.out.below hb5 HG4.out.lt)
                have HSQ := hide hsq
                refine hK.out _ _ trivial (fun hHeld => ?_)
                clear hK K hsq hleq hb5
                simp only [Act.put, List.setIfInBounds_toArray, List.set_cons_zero, List.set_cons_succ]
                refine wpAnyH_ready (rs := [16]) (by kernel_rfl) (by simp) (AllReadyH.cons rfl (fun K hK => ?_) AllReadyH.nil)
                rw [if_pos (by rfl)]
                refine wp_appendDG rfl rfl HD5.out (ds_one HSQ.out (nd_length _ _) (nd_isB _ _)) (by have := HKL.out; have := HLP.out; omega) HB5.out.size ?_
                intro v6 W6 ho6 hg6
                have HB6 := hide (HB5.out.trans (Below.of_grown hg6 HB5.out.size (fun r hr => HD5.out.lt r hr)))
                have HU6 := hide (HU5.out.keptD HD5.out hg6)
                have HG6 := hide (HG5.out.grew2 hg6 (HD5.out.apart HG5.out (by decide)))
                have HD6 := hide ho6
                refine hK.out _ _ trivial (fun hHeld => ?_)
                clear hK K hg6 ho6
                simp only [Act.put, List.setIfInBounds_toArray, List.set_cons_zero, List.set_cons_succ]
                refine takeH 17 9 (v6) hHeld rfl rfl (by kernel_rfl) (by kernel_rfl) (by kernel_rfl) (fun _ _ _ h => h) (Or.inl ⟨by rfl, fun w _ => by go_simp⟩) ?_
                simp only [Act.put, List.setIfInBounds_toArray, List.set_cons_zero, List.set_cons_succ]
                refine wpAnyH_done (by kernel_rfl) ?_ _
                refine NoPanic.normal ?_
                exact hjoin3 gq v6 W6 ⟨HB6.out, HU6.out, HD6.out, HG6.out⟩
              · rw [if_pos (by rfl)]
                refine wp_loadRR wD rfl (u8s pd) RP.out (by rw [u8s_length, HPL2.out]) ?_
                refine hK.out _ _ trivial (fun hHeld => ?_)
                clear hK K
                simp only [Act.put, List.setIfInBounds_toArray, List.set_cons_zero, List.set_cons_succ]
                refine wpAnyH_ready (rs := [8]) (by kernel_rfl) (by simp) (AllReadyH.cons rfl (fun K hK => ?_) AllReadyH.nil)
                rw [if_pos (by rfl)]
                refine wp_loadRR wD rfl (u8s qd) RQ.out (by rw [u8s_length, HQL.out]) ?_
                refine hK.out _ _ trivial (fun hHeld => ?_)
                clear hK K
                simp only [Act.put, List.setIfInBounds_toArray, List.set_cons_zero, List.set_cons_succ]
                refine wpAnyH_ready (rs := [14]) (by kernel_rfl) (by simp) (AllReadyH.cons rfl (fun K hK => ?_) AllReadyH.nil)
                rw [if_pos (by rfl)]
                go_simp
                refine (nodeR_any qd pd _ HQL.out HQB.out HPL2.out HPB.out).mono ?_
                rintro r W4 ⟨rfl, hb4⟩
                have HB4 := hide (HB.out.trans (hb4.mono HB.out.size))
                have HU4 := hide (HU.out.below hb4)
                have HD4 := hide (HD.out.below hb4)
                have HG4 := hide (HG.out.below hb4 HG.out.lt)
                refine hK.out _ _ trivial (fun hHeld => ?_)
                clear hK K hb4
                refine wpAnyH_ready (rs := [15]) (by kernel_rfl) (by simp) (AllReadyH.cons rfl (fun K hK => ?_) AllReadyH.nil)
                rw [if_pos (by rfl)]
                refine wp_oneD2 rfl (nd_length _ _) ?_
                intro W5 gq hsq hleq hb5
                have HB5 := hide (HB4.out.trans (hb5.mono HB4.out.size))
                have HU5 := hide (HU4.out.below hb5)
                have HD5 := hide (HD4.out.below hb5)
                have HG5 := hide (HG4.out.below hb5 HG4.out.lt)
                have HSQ := hide hsq
                refine hK.out _ _ trivial (fun hHeld => ?_)
                clear hK K hsq hleq hb5
                simp only [Act.put, List.setIfInBounds_toArray, List.set_cons_zero, List.set_cons_succ]
                refine wpAnyH_ready (rs := [16]) (by kernel_rfl) (by simp) (AllReadyH.cons rfl (fun K hK => ?_) AllReadyH.nil)
                rw [if_pos (by rfl)]
                refine wp_appendDG rfl rfl HD5.out (ds_one HSQ.out (nd_length _ _) (nd_isB _ _)) (by have := HKL.out; have := HLP.out; omega) HB5.out.size ?_
                intro v6 W6 ho6 hg6
                have HB6 := hide (HB5.out.trans (Below.of_grown hg6 HB5.out.size (fun r hr => HD5.out.lt r hr)))
                have HU6 := hide (HU5.out.keptD HD5.out hg6)
                have HG6 := hide (HG5.out.grew2 hg6 (HD5.out.apart HG5.out (by decide)))
                have HD6 := hide ho6
                refine hK.out _ _ trivial (fun hHeld => ?_)
                clear hK K hg6 ho6
                simp only [Act.put, List.setIfInBounds_toArray, List.set_cons_zero, List.set_cons_succ]
                refine takeH 17 9 (v6) hHeld rfl rfl (by kernel_rfl) (by kernel_rfl) (by kernel_rfl) (fun _ _ _ h => h) (Or.inl ⟨by rfl, fun w _ => by go_simp⟩) ?_
                simp only [Act.put, List.setIfInBounds_toArray, List.set_cons_zero, List.set_cons_succ]
                refine wpAnyH_done (by kernel_rfl) ?_ _
                refine NoPanic.normal ?_
                exact hjoin3 gq v6 W6 ⟨HB6.out, HU6.out, HD6.out, HG6.out⟩
            case tail3 =>
              rintro gq l8 W8 ⟨hB8, hU8, hD8, hG8⟩
              have HD8 := hide hD8
              have HU8 := hide hU8
              have HB8 := hide hB8
              have HG8 := hide hG8
              clear hB8 hU8 hD8 hG8 ca0 ca1 cb0 cb1 hmo hq1 HI HGA HGB RQ RP HDG HDC HU1
              go_wp2_with fail
              have HL8 : Hid (((ps.take k).map Prod.fst).length ≤ 1048576) := hide (by rw [List.length_map, List.length_take]; have := HKL.out; have := HLP.out; omega)
              have HSC : Hid (∀ V : World, Blk V ga 57 (nC (ql, qi)) → V.cell? ⟨ga, 0, none⟩ = some (.int .i64 (ql : Int)) ∧ V.cell? ⟨ga, 1, none⟩ = some (.int .i64 (qi : Int))) := hide (fun V h => ⟨by rw [h.cell]; rfl, by rw [h.cell]; rfl⟩)
              refine wp_region_noPanic ?_
              have HB := hide (HB8.out.drew)
              have HU := hide (HU8.out.below ((Below.refl W8.heap.size W8).drew))
              have HD := hide (HD8.out.below ((Below.refl W8.heap.size W8).drew))
              have HG := hide (HG8.out.below ((Below.refl W8.heap.size W8).drew) HG8.out.lt)
              refine wp_region_held_drew (S := fun V : World => V.cell? ⟨ga, 0, none⟩ = some (.int .i64 (ql : Int)) ∧ V.cell? ⟨ga, 1, none⟩ = some (.int .i64 (qi : Int))) (by kernel_rfl) (HSC.out _ HG.out) (fun hHeld => ?_)
              refine takeH 0 108 (.slice (some ⟨h, 0, none⟩) n cu) hHeld rfl rfl (by kernel_rfl) (by kernel_rfl) (by kernel_rfl) (fun _ _ _ h => h) (Or.inl ⟨by rfl, fun w _ => by go_simp⟩) ?_
              simp only [Act.put, List.setIfInBounds_toArray, List.set_cons_zero, List.set_cons_succ]
              refine takeH 1 109 (.int .i64 (n : Int)) hHeld rfl rfl (by kernel_rfl) (by kernel_rfl) (by kernel_rfl) (fun _ _ _ h => h) (Or.inl ⟨by rfl, fun w _ => by go_simp⟩) ?_
              simp only [Act.put, List.setIfInBounds_toArray, List.set_cons_zero, List.set_cons_succ]
              refine takeH 2 110 (.int .i64 (k : Int)) hHeld rfl rfl (by kernel_rfl) (by kernel_rfl) (by kernel_rfl) (fun _ _ _ h => h) (Or.inl ⟨by rfl, fun w _ => by go_simp⟩) ?_
              simp only [Act.put, List.setIfInBounds_toArray, List.set_cons_zero, List.set_cons_succ]
              refine takeH 3 111 (.slice (some ⟨h, 0, none⟩) k cu) hHeld rfl rfl (by kernel_rfl) (by kernel_rfl) (by kernel_rfl) (fun _ _ _ h => h) (Or.inl ⟨by rfl, fun w _ => run_op rfl ((n_to h n cu k (k : Int) rfl hkcu) w)⟩) ?_
              simp only [Act.put, List.setIfInBounds_toArray, List.set_cons_zero, List.set_cons_succ]
              refine takeH 4 112 (.pointer (some ⟨ga, 0, none⟩)) hHeld rfl rfl (by kernel_rfl) (by kernel_rfl) (by kernel_rfl) (fun _ _ _ h => h) (Or.inl ⟨by rfl, fun w _ => by go_simp⟩) ?_
              simp only [Act.put, List.setIfInBounds_toArray, List.set_cons_zero, List.set_cons_succ]
              refine takeH 5 113 (.int .i64 (ql : Int)) hHeld rfl rfl (by kernel_rfl) (by kernel_rfl) (by kernel_rfl) (fun _ _ _ h => h) (Or.inl ⟨by rfl, fun w hw => by have hw' : w.cell? ⟨ga, 0, none⟩ = some (.int .i64 (ql : Int)) := (fun h => h.1) hw; go_simp⟩) ?_
              simp only [Act.put, List.setIfInBounds_toArray, List.set_cons_zero, List.set_cons_succ]
              refine takeH 6 114 (.int .i64 ((ql + 1 : Nat) : Int)) hHeld rfl rfl (by kernel_rfl) (by kernel_rfl) (by kernel_rfl) (fun _ _ _ h => h) (Or.inl ⟨by rfl, fun w _ => by go_simp⟩) ?_
              simp only [Act.put, List.setIfInBounds_toArray, List.set_cons_zero, List.set_cons_succ]
              refine takeH 7 115 (.pointer (some ⟨ga, 1, none⟩)) hHeld rfl rfl (by kernel_rfl) (by kernel_rfl) (by kernel_rfl) (fun _ _ _ h => h) (Or.inl ⟨by rfl, fun w _ => by go_simp⟩) ?_
              simp only [Act.put, List.setIfInBounds_toArray, List.set_cons_zero, List.set_cons_succ]
              refine takeH 8 116 (.int .i64 (qi : Int)) hHeld rfl rfl (by kernel_rfl) (by kernel_rfl) (by kernel_rfl) (fun _ _ _ h => h) (Or.inl ⟨by rfl, fun w hw => by have hw' : w.cell? ⟨ga, 1, none⟩ = some (.int .i64 (qi : Int)) := (fun h => h.2) hw; go_simp⟩) ?_
              simp only [Act.put, List.setIfInBounds_toArray, List.set_cons_zero, List.set_cons_succ]
              refine takeH 9 117 (.int .i64 ((qi / 2 : Nat) : Int)) hHeld rfl rfl (by kernel_rfl) (by kernel_rfl) (by kernel_rfl) (fun _ _ _ h => h) (Or.inl ⟨by rfl, fun w _ => by go_simp⟩) ?_
              simp only [Act.put, List.setIfInBounds_toArray, List.set_cons_zero, List.set_cons_succ]
              refine takeH 10 118 (.agg (nC (ql + 1, qi / 2)).toArray) hHeld rfl rfl (by kernel_rfl) (by kernel_rfl) (by kernel_rfl) (fun _ _ _ h => h) (Or.inl ⟨by rfl, fun w _ => by go_simp; simp [nC]⟩) ?_
              simp only [Act.put, List.setIfInBounds_toArray, List.set_cons_zero, List.set_cons_succ]
              refine wpAnyH_ready (rs := [11]) (by kernel_rfl) (by simp) (AllReadyH.cons rfl (fun K hK => ?_) AllReadyH.nil)
              rw [if_pos (by rfl)]
              refine wp_oneN (n := (ql + 1, qi / 2)) rfl ?_
              intro W9 gr hgr hler hb9
              have HB9 := hide (HB.out.trans (hb9.mono HB.out.size))
              have HU9 := hide (HU.out.below hb9)
              have HD9 := hide (HD.out.below hb9)
              have HG9 := hide (HG.out.below hb9 HG.out.lt)
              have HGR := hide hgr
              refine hK.out _ _ (HSC.out _ HG9.out) (fun hHeld => ?_)
              clear hK K hgr hler hb9
              simp only [Act.put, List.setIfInBounds_toArray, List.set_cons_zero, List.set_cons_succ]
              refine wpAnyH_ready (rs := [12]) (by kernel_rfl) (by simp) (AllReadyH.cons rfl (fun K hK => ?_) AllReadyH.nil)
              rw [if_pos (by rfl)]
              refine wp_appendN (B := w3.heap.size) rfl rfl HU9.out HGR.out HL8.out HB9.out.size ?_
              intro v10 W10 ho10 hg10 _
              have HB10 := hide (HB9.out.trans (Below.of_grown hg10 HB9.out.size (fun r hr => (HU9.out.lt r hr).1)))
              have HD10 := hide (HD9.out.keptN HU9.out hg10)
              have HG10 := hide (HG9.out.grew2 hg10 (fun e1 => hgah (Option.some.inj e1)))
              have HU10 := hide ho10
              refine hK.out _ _ (HSC.out _ HG10.out) (fun hHeld => ?_)
              clear hK K hg10 ho10
              simp only [Act.put, List.setIfInBounds_toArray, List.set_cons_zero, List.set_cons_succ]
              refine takeH 13 8 (v10) hHeld rfl rfl (by kernel_rfl) (by kernel_rfl) (by kernel_rfl) (fun _ _ _ h => h) (Or.inl ⟨by rfl, fun w _ => by go_simp⟩) ?_
              simp only [Act.put, List.setIfInBounds_toArray, List.set_cons_zero, List.set_cons_succ]
              refine wpAnyH_done (by kernel_rfl) ?_ _
              refine NoPanic.normal ?_
              go_wp2_with fail
              go_roundw
              case rel => exact ⟨k, ((ql + 1, qi / 2), nd qd pd), hide ⟨Nat.le_of_lt HKL.out, ⟨nd_length _ _, nd_isB _ _, HLV.out, Nat.le_trans (Nat.div_le_self _ _) HQG.out.idx⟩, HBD2.out, HEQ2.out, HB10.out, HU10.out, HD10.out⟩⟩
              case measure =>
                have e1 := HU10.out.lenOf
                have e2 := HHN.out
                have e3 := HKL.out
                rw [List.length_append, List.length_map, List.length_take] at e1
                simp [lenOf] at e1 ⊢
                omega
          · have HPL : Hid (putL ps ((L, e / P), d) = ps.take (k + 1) ++ [((pl, pi), pd)]) := hide (by
              have := HEQ.out
              rw [if_neg hsb] at this
              unfold putL
              rw [← this, ETK]
              simp)
            have hns : ¬ (ql = pl ∧ qi % 2 = 0 ∧ pi = qi + 1) := fun hh => hsb (sib_iff.2 hh)
            clear hsb HEQ
            by_cases hA : ql = pl
            · subst hA
              by_cases hB : qi % 2 = 0
              · rw [hB] at hmo
                have hC : ¬ (pi : Int) = (qi : Int) + 1 := fun hh => hns ⟨rfl, hB, by omega⟩
                clear hns
                have HX := hide (And.intro hpw (And.intro hul (And.intro hm (And.intro hmax (And.intro hbe hL)))))
                clear hpw hul hm hmax hbe hL hrem hsub hshr hgt hP0 hl0 hl1 hw2 hwj hv2 hvj h1n hkn hjn hix1 hix2 hPp hqd
                go_upto_region 16 with fail
                obtain ⟨hpw, hul, hm, hmax, hbe, hL⟩ := HX.out
                clear HX
                have HJ5 := hide (HJ3.out.below HI.out.bel)
                have c1 : wb2.cell? ⟨g1, 1, none⟩ = some (.int .i64 (e : Int)) := by rw [HJ5.out.c1.cell]; rfl
                have f1 : wb2.frozen? ⟨g1, 1, none⟩ = false := HJ5.out.c1.free 1
                have c2 : wb2.cell? ⟨g1, 2, none⟩ = some (.slice a0 ps.length q0) := by rw [HJ5.out.c1.cell]; rfl
                have f2 : wb2.frozen? ⟨g1, 2, none⟩ = false := HJ5.out.c1.free 2
                have hadd := aux_add e P hm
                go_wp2_with (first | (refine step_loadA wRf rfl rfl (fs1 HJ5.out _ _) rfl ?_) | (refine step_storeA wRf rfl rfl rfl (fs3 HJ5.out h13 _ _) rfl (One.rfC _ _ _ _ _) rfl ?_; intro w4 hg4 hbut))
                refine bodyPost_ret (results_wide2 rfl wRf _ _ rfl hg4 rfl) rfl ⟨(fsB HJ5.out hw1 _ _).trans (hbut.below hw3), .slice (some ⟨lb, 0, none⟩) n cl, ?_, ?_⟩
                · first
                  | (rw [HP.out, Int.natCast_add]; rfl)
                  | (rw [show (2 : Int) ^ L = (P : Int) by rw [← HP.out]; simp]; rfl)
                · exact rf_fin HP ((fsD HI.out.digs (HJ3.out.c1.lt)).but hbut (fun e1 => absurd (HI.out.digs.lt _ e1) (Nat.not_le_of_lt HJ3.out.c3.lt))) HJ3.out.bel.size HI.out.hm HR.out.good HI.out.good HPL.out HR.out.nodes hbe HDV.out hm
              · have hmo2 : ¬ ((qi : Int)).tmod 2 = 0 := fun hh => hB (by rw [hmo] at hh; omega)
                clear hns hmo hB
                have HX := hide (And.intro hpw (And.intro hul (And.intro hm (And.intro hmax (And.intro hbe hL)))))
                clear hpw hul hm hmax hbe hL hrem hsub hshr hgt hP0 hl0 hl1 hw2 hwj hv2 hvj h1n hkn hjn hix1 hix2 hPp hqd
                go_upto_region 16 with fail
                obtain ⟨hpw, hul, hm, hmax, hbe, hL⟩ := HX.out
                clear HX
                have HJ5 := hide (HJ3.out.below HI.out.bel)
                have c1 : wb2.cell? ⟨g1, 1, none⟩ = some (.int .i64 (e : Int)) := by rw [HJ5.out.c1.cell]; rfl
                have f1 : wb2.frozen? ⟨g1, 1, none⟩ = false := HJ5.out.c1.free 1
                have c2 : wb2.cell? ⟨g1, 2, none⟩ = some (.slice a0 ps.length q0) := by rw [HJ5.out.c1.cell]; rfl
                have f2 : wb2.frozen? ⟨g1, 2, none⟩ = false := HJ5.out.c1.free 2
                have hadd := aux_add e P hm
                go_wp2_with (first | (refine step_loadA wRf rfl rfl (fs1 HJ5.out _ _) rfl ?_) | (refine step_storeA wRf rfl rfl rfl (fs3 HJ5.out h13 _ _) rfl (One.rfC _ _ _ _ _) rfl ?_; intro w4 hg4 hbut))
                refine bodyPost_ret (results_wide2 rfl wRf _ _ rfl hg4 rfl) rfl ⟨(fsB HJ5.out hw1 _ _).trans (hbut.below hw3), .slice (some ⟨lb, 0, none⟩) n cl, ?_, ?_⟩
                · first
                  | (rw [HP.out, Int.natCast_add]; rfl)
                  | (rw [show (2 : Int) ^ L = (P : Int) by rw [← HP.out]; simp]; rfl)
                · exact rf_fin HP ((fsD HI.out.digs (HJ3.out.c1.lt)).but hbut (fun e1 => absurd (HI.out.digs.lt _ e1) (Nat.not_le_of_lt HJ3.out.c3.lt))) HJ3.out.bel.size HI.out.hm HR.out.good HI.out.good HPL.out HR.out.nodes hbe HDV.out hm
            · have hA2 : ¬ (ql : Int) = (pl : Int) := fun hh => hA (by omega)
              clear hns hA
              have HX := hide (And.intro hpw (And.intro hul (And.intro hm (And.intro hmax (And.intro hbe hL)))))
              clear hpw hul hm hmax hbe hL hrem hsub hshr hgt hP0 hl0 hl1 hw2 hwj hv2 hvj h1n hkn hjn hix1 hix2 hPp hqd
              go_upto_region 16 with fail
              obtain ⟨hpw, hul, hm, hmax, hbe, hL⟩ := HX.out
              clear HX
              have HJ5 := hide (HJ3.out.below HI.out.bel)
              have c1 : wb2.cell? ⟨g1, 1, none⟩ = some (.int .i64 (e : Int)) := by rw [HJ5.out.c1.cell]; rfl
              have f1 : wb2.frozen? ⟨g1, 1, none⟩ = false := HJ5.out.c1.free 1
              have c2 : wb2.cell? ⟨g1, 2, none⟩ = some (.slice a0 ps.length q0) := by rw [HJ5.out.c1.cell]; rfl
              have f2 : wb2.frozen? ⟨g1, 2, none⟩ = false := HJ5.out.c1.free 2
              have hadd := aux_add e P hm
              go_wp2_with (first | (refine step_loadA wRf rfl rfl (fs1 HJ5.out _ _) rfl ?_) | (refine step_storeA wRf rfl rfl rfl (fs3 HJ5.out h13 _ _) rfl (One.rfC _ _ _ _ _) rfl ?_; intro w4 hg4 hbut))
              refine bodyPost_ret (results_wide2 rfl wRf _ _ rfl hg4 rfl) rfl ⟨(fsB HJ5.out hw1 _ _).trans (hbut.below hw3), .slice (some ⟨lb, 0, none⟩) n cl, ?_, ?_⟩
              · first
                | (rw [HP.out, Int.natCast_add]; rfl)
                | (rw [show (2 : Int) ^ L = (P : Int) by rw [← HP.out]; simp]; rfl)
              · exact rf_fin HP ((fsD HI.out.digs (HJ3.out.c1.lt)).but hbut (fun e1 => absurd (HI.out.digs.lt _ e1) (Nat.not_le_of_lt HJ3.out.c3.lt))) HJ3.out.bel.size HI.out.hm HR.out.good HI.out.good HPL.out HR.out.nodes hbe HDV.out hm

end Go.Proofs.YtnjkjickclkmhaaDoor

/-
  The document's Append of anything, its New, and its Merge where the two are no neighbours.
-/
namespace Go.Proofs.YtnjkjickclkmhaaDoor
open Go.RowKit Go.Shelf
set_option linter.unusedVariables false

theorem Rf5.base {w : World} {B B' b e : Nat} {v : Value} {ps : List Pt} (h : Rf5 w B b e v ps) (hB : B' ≤ B) : Rf5 w B' b e v ps := ⟨h.own.base hB, h.good, h.nodes, h.le, h.max⟩
theorem refApp_any (B b e : Nat) (l : Int) (v : Value) (ps : List Pt) (d : List Int) (w : World) (hr : Rf5 w B b e v ps) (hB : B ≤ w.heap.size) (hdl : d.length = 32) (hdb : isB d) :
    Calls Tryd.prog 10 #[.agg (rfC b e v).toArray, .int .i64 l, .agg (u8s d).toArray] w fun r w' => Below w.heap.size w w' ∧ ∃ (e' : Nat) (v' : Value) (ps' : List Pt), r = .returned (.tuple #[.agg (rfC b e' v').toArray, .int .i64 (apE e l)]) ∧ Rf5 w' B b e' v' ps' ∧
      (apE e l ≠ 0 → e' = e ∧ ps' = ps) ∧ (apE e l = 0 → e' = e + 2 ^ l.toNat ∧ ps' = putL ps ((l.toNat, e / 2 ^ l.toNat), d)) := by
  obtain ⟨a, c, rfl⟩ := hr.slice
  by_cases h : apE e l = 0
  · obtain ⟨L, rfl, hL, hdv, hm⟩ := apE_zero hr.max h
    refine (refApp_ok B b e L a _ c ps d w hr hL hdv hm hdl hdb).mono ?_
    rintro r w' ⟨h1, v', rfl, h2⟩
    exact ⟨h1, _, v', _, by rw [h], h2.base hB, fun hn => absurd h hn, fun _ => ⟨rfl, rfl⟩⟩
  · refine (refApp_bad b e l a _ c d w hr.max h).mono ?_
    rintro r w' ⟨rfl, h1⟩
    exact ⟨h1, e, _, ps, rfl, hr.below h1, fun _ => ⟨rfl, rfl⟩, fun h0 => absurd h0 h⟩
section
variable {dst : Option Tmp} {ty : TypeId} {pos : String} {aft : Array Edge} {gd : Option (Nat × Bool)} {ops : Array Oper} {rest : List Oper} {a : Act} {w : World} {Q : Exit → Act → World → Prop}
theorem run_buildRf (b e : Int) (w : World) : (Instr.build 29 #[(0, .int .i64 b), (1, .int .i64 e)]).run Tryd.prog w = .ok (.agg (rfC b e (.slice none 0 0)).toArray) w := by kernel_rfl
theorem step_buildRf {x y : Operand} {b e : Int} (hw : Region.wanted ⟨dst, .build 29 #[(0, x), (1, y)], ty, pos, aft, gd⟩ (yielded ops a.tmps) = true) (hx : a.eval x = .int .i64 b) (hy : a.eval y = .int .i64 e)
    (h : wpList Tryd.prog ops Q rest (a.put dst (.agg (rfC b e (.slice none 0 0)).toArray)) w) : wpList Tryd.prog ops Q (⟨dst, .build 29 #[(0, x), (1, y)], ty, pos, aft, gd⟩ :: rest) a w :=
  step_run hw (.agg (rfC b e (.slice none 0 0)).toArray) w (run_op (M := Instr.build 29 #[(0, .int .i64 b), (1, .int .i64 e)]) (by simp [execOp, hx, hy]) (run_buildRf b e w)) h
theorem step_buildRf0 (hw : Region.wanted ⟨dst, .build 29 #[], ty, pos, aft, gd⟩ (yielded ops a.tmps) = true)
    (h : wpList Tryd.prog ops Q rest (a.put dst (.agg (rfC 0 0 (.slice none 0 0)).toArray)) w) : wpList Tryd.prog ops Q (⟨dst, .build 29 #[], ty, pos, aft, gd⟩ :: rest) a w :=
  step_run hw (.agg (rfC 0 0 (.slice none 0 0)).toArray) w (by kernel_rfl) h
end
theorem refNew_bad (b : Int) (w : World) (h : b < 0 ∨ 281474976710656 < b) : Calls Tryd.prog 6 #[.int .i64 b] w fun r w' => r = .returned (.tuple #[.agg (rfC 0 0 (.slice none 0 0)).toArray, .int .i64 40]) ∧ Below w.heap.size w w' := by
  by_cases h1 : b < 0
  · have h2 := h1
    go_enter Tryd.func6, Tryd.ntmps6
    go_wp2_with (refine step_alloc zRf rfl ?_)
    intro w1 g1 hg1 hle1 hb1
    have HG1 := hide hg1
    clear hg1
    go_wp2_with (first | (refine step_buildRf0 rfl ?_) | (refine step_buildRf rfl rfl rfl ?_) | (refine step_storeA wRf rfl rfl rfl HG1.out rfl (One.rfC _ _ _ _ _) rfl ?_; intro w4 hg4 hbut))
    refine bodyPost_ret (results_wide2 rfl wRf _ _ rfl hg4 rfl) rfl ⟨rfl, ?_⟩
    exact hb1.trans (hbut.below hle1)
  · have h2 : 281474976710656 < b := by omega
    go_enter Tryd.func6, Tryd.ntmps6
    go_wp2_with (refine step_alloc zRf rfl ?_)
    intro w1 g1 hg1 hle1 hb1
    have HG1 := hide hg1
    clear hg1
    go_wp2_with (first | (refine step_buildRf0 rfl ?_) | (refine step_buildRf rfl rfl rfl ?_) | (refine step_storeA wRf rfl rfl rfl HG1.out rfl (One.rfC _ _ _ _ _) rfl ?_; intro w4 hg4 hbut))
    refine bodyPost_ret (results_wide2 rfl wRf _ _ rfl hg4 rfl) rfl ⟨rfl, ?_⟩
    exact hb1.trans (hbut.below hle1)
theorem refNew_ok (b : Int) (w : World) (h0 : 0 ≤ b) (h1 : b ≤ 281474976710656) : Calls Tryd.prog 6 #[.int .i64 b] w fun r w' => r = .returned (.tuple #[.agg (rfC b b (.slice none 0 0)).toArray, .int .i64 0]) ∧ Below w.heap.size w w' := by
  have h2 : ¬ b < 0 := by omega
  have h3 : ¬ 281474976710656 < b := by omega
  go_enter Tryd.func6, Tryd.ntmps6
  go_wp2_with (refine step_alloc zRf rfl ?_)
  intro w1 g1 hg1 hle1 hb1
  have HG1 := hide hg1
  clear hg1
  go_wp2_with (first | (refine step_buildRf0 rfl ?_) | (refine step_buildRf rfl rfl rfl ?_) | (refine step_storeA wRf rfl rfl rfl HG1.out rfl (One.rfC _ _ _ _ _) rfl ?_; intro w4 hg4 hbut))
  refine bodyPost_ret (results_wide2 rfl wRf _ _ rfl hg4 rfl) rfl ⟨rfl, ?_⟩
  exact hb1.trans (hbut.below hle1)
/-- A range of the document's with nothing in it. -/
theorem Rf5.new (w : World) (B b : Nat) (h : b ≤ 281474976710656) : Rf5 w B b b (.slice none 0 0) [] :=
  ⟨DOwn.nil w B, (fun p hp => by cases hp), (by rw [parts_nil (Nat.le_refl b)]; rfl), Nat.le_refl _, h⟩

set_option maxRecDepth 100000 in
theorem refMerge_bad (b e : Nat) (a0 : Option Addr) (n0 q0 : Nat) (b2 e2 : Nat) (a2 : Option Addr) (n2 q2 : Nat) (w : World) (hne : b2 ≠ e) :
    Calls Tryd.prog 14 #[.agg (rfC b e (.slice a0 n0 q0)).toArray, .agg (rfC b2 e2 (.slice a2 n2 q2)).toArray] w fun r w' => r = .returned (.tuple #[.agg (rfC b e (.slice a0 n0 q0)).toArray, .int .i64 50]) ∧ Below w.heap.size w w' := by
  have hn : ¬ (b2 : Int) = (e : Int) := by omega
  go_enter Tryd.func14, Tryd.ntmps14
  go_wp2_with (refine step_box (cs := rfC b e (.slice a0 n0 q0)) rfl rfl ?_)
  intro w1 g1 hg1 hle1 hb1
  go_wp2_with (refine step_box (cs := rfC b2 e2 (.slice a2 n2 q2)) rfl rfl ?_)
  intro w2 g2 hg2 hle2 hb2
  go_wp2_with (refine step_alloc zRf rfl ?_)
  intro w3 g3 hg3 hle3 hb3
  have hb12 := hb1.trans (hb2.mono hb1.size)
  have HB3 := hide (hb12.trans (hb3.mono hb12.size))
  have HG1 := hide ((hg1.below hb2 hg1.lt).below hb3 (hg1.below hb2 hg1.lt).lt)
  have HG2 := hide (hg2.below hb3 hg2.lt)
  have HG3 := hide hg3
  have hw3 : w.heap.size ≤ g3 := Nat.le_trans hb12.size hle3
  have hw1 : w.heap.size ≤ g1 := hle1
  have h13 : g3 ≠ g1 := by have := hg1.lt; have := hb2.size; omega
  have h12 : g2 ≠ g1 := by have := hg1.lt; omega
  have ce : w3.cell? ⟨g1, 1, none⟩ = some (.int .i64 (e : Int)) := by rw [HG1.out.cell]; rfl
  have cb : w3.cell? ⟨g2, 0, none⟩ = some (.int .i64 (b2 : Int)) := by rw [HG2.out.cell]; rfl
  clear hg1 hg2 hg3 hb1 hb2 hb3 hb12 hle1 hle2 hle3
  go_wp2_with (first | (refine step_loadA wRf rfl rfl HG1.out rfl ?_) | (refine step_storeA wRf rfl rfl rfl HG3.out rfl (One.rfC _ _ _ _ _) rfl ?_; intro w4 hg4 hbut))
  refine bodyPost_ret (results_wide2 rfl wRf _ _ rfl hg4 rfl) rfl ⟨rfl, ?_⟩
  exact HB3.out.trans (hbut.below hw3)

end Go.Proofs.YtnjkjickclkmhaaDoor

/-
  Clone and Merge of ranges.
-/
namespace Go.Proofs.YtnjkjickclkmhaaDoor
open Go.RowKit Go.Shelf
set_option linter.unusedVariables false

theorem run_buildRg3 (b e : Int) (x : Option Addr) (n c : Nat) (w : World) : (Instr.build 54 #[(0, .bool true), (1, .agg #[.int .i64 b, .int .i64 e]), (2, .slice x n c)]).run Tryd.prog w = .ok (.agg (rgC b e (.slice x n c)).toArray) w := by kernel_rfl
theorem run_buildRgO {dst : Option Tmp} {ty : TypeId} {pos : String} {aft : Array Edge} {gd : Option (Nat × Bool)} {a : Act} {w : World} {x y : Operand} {b e : Int} {z : Option Addr} {n c : Nat} (hx : a.eval x = .agg #[.int .i64 b, .int .i64 e]) (hy : a.eval y = .slice z n c) :
    (execOp a.eval ⟨dst, .build 54 #[(0, .const (.bool true)), (1, x), (2, y)], ty, pos, aft, gd⟩).run Tryd.prog w = .ok (.value (.agg (rgC b e (.slice z n c)).toArray)) w :=
  run_op (M := Instr.build 54 #[(0, .bool true), (1, .agg #[.int .i64 b, .int .i64 e]), (2, .slice z n c)]) (by have hc : a.eval (.const (.bool true)) = .bool true := rfl; simp [execOp, hx, hy, hc]) (run_buildRg3 b e z n c w)
theorem One.rgC (b e : Int) (x : Option Addr) (n c : Nat) : One (rgC b e (.slice x n c)) := by intro v hv; simp [Go.Proofs.YtnjkjickclkmhaaDoor.rgC] at hv; rcases hv with rfl | rfl | rfl | rfl <;> rfl

set_option maxRecDepth 100000 in
set_option maxHeartbeats 400000 in
theorem rclone_any (B g b e : Nat) (v : Value) (ps : List Pt) (w : World) (hr : Rg w B g b e v ps) :
    Calls Tryd.prog 9 #[.pointer (some ⟨g, 0, none⟩)] w fun r w' => ∃ g' v', r = .returned (.pointer (some ⟨g', 0, none⟩)) ∧ Rg w' w.heap.size g' b e v' ps ∧ w.heap.size ≤ g' ∧ Below w.heap.size w w' := by
  have HR := hide hr
  have c0 : w.cell? ⟨g, 0, none⟩ = some (.bool true) := by rw [hr.blk.cell]; rfl
  clear hr
  go_enter Tryd.func9, Tryd.ntmps9
  go_wp2_with (go_at_call 18; refine (made_is _ _ c0).mono ?_; rintro e w' ⟨rfl, rfl⟩)
  obtain ⟨a0, q0, rfl⟩ : ∃ a c, v = Value.slice a ps.length c := by rcases HR.out.own.lies with ⟨rfl, rfl⟩ | ⟨_, _, _, rfl, _⟩ <;> exact ⟨_, _, rfl⟩
  obtain ⟨dS, huS, hdS⟩ := wSpn.und
  have HS1 : ∀ V : World, Rg V B g b e (.slice a0 ps.length q0) ps → V.rangeAt g 1 [.int .i64 (b : Int), .int .i64 (e : Int)] ∧ V.cell? ⟨g, 3, none⟩ = some (.slice a0 ps.length q0) := fun V h => ⟨h.blk.range 1 _ rfl, h.c3⟩
  refine wp_region_noPanic ?_
  have bd := (Below.refl w.heap.size w).drew
  have R2 := hide (HR.out.below bd)
  refine wp_region_held_drew (S := fun V : World => V.rangeAt g 1 [.int .i64 (b : Int), .int .i64 (e : Int)] ∧ V.cell? ⟨g, 3, none⟩ = some (.slice a0 ps.length q0)) (by kernel_rfl) (HS1 _ R2.out) (fun hHeld => ?_)
  refine takeH 0 6 (.pointer (some ⟨g, 0, none⟩)) hHeld rfl rfl (by kernel_rfl) (by kernel_rfl) (by kernel_rfl) (fun _ _ _ h => h) (Or.inl ⟨by rfl, fun w _ => by go_simp⟩) ?_
  simp only [Act.put, List.setIfInBounds_toArray, List.set_cons_zero, List.set_cons_succ]
  refine takeH 1 7 (.pointer (some ⟨g, 0, none⟩)) hHeld rfl rfl (by kernel_rfl) (by kernel_rfl) (by kernel_rfl) (fun _ _ _ h => h) (Or.inl ⟨by rfl, fun w _ => by go_simp⟩) ?_
  simp only [Act.put, List.setIfInBounds_toArray, List.set_cons_zero, List.set_cons_succ]
  refine takeH 2 8 (.pointer (some ⟨g, 1, none⟩)) hHeld rfl rfl (by kernel_rfl) (by kernel_rfl) (by kernel_rfl) (fun _ _ _ h => h) (Or.inl ⟨by rfl, fun w _ => by go_simp⟩) ?_
  simp only [Act.put, List.setIfInBounds_toArray, List.set_cons_zero, List.set_cons_succ]
  refine takeH 3 9 (.agg ([.int .i64 (b : Int), .int .i64 (e : Int)] : List Value).toArray) hHeld rfl rfl (by kernel_rfl) (by kernel_rfl) (by kernel_rfl) (fun _ _ _ h => h) (yieldsIf_load_mid (by rfl) _ _ rfl g 1 rfl _ _ (fun w h => h.1) huS hdS (by rw [wSpn.size]; rfl)) ?_
  simp only [Act.put, List.setIfInBounds_toArray, List.set_cons_zero, List.set_cons_succ]
  refine takeH 4 10 (.pointer (some ⟨g, 0, none⟩)) hHeld rfl rfl (by kernel_rfl) (by kernel_rfl) (by kernel_rfl) (fun _ _ _ h => h) (Or.inl ⟨by rfl, fun w _ => by go_simp⟩) ?_
  simp only [Act.put, List.setIfInBounds_toArray, List.set_cons_zero, List.set_cons_succ]
  refine takeH 5 11 (.pointer (some ⟨g, 0, none⟩)) hHeld rfl rfl (by kernel_rfl) (by kernel_rfl) (by kernel_rfl) (fun _ _ _ h => h) (Or.inl ⟨by rfl, fun w _ => by go_simp⟩) ?_
  simp only [Act.put, List.setIfInBounds_toArray, List.set_cons_zero, List.set_cons_succ]
  refine takeH 6 12 (.pointer (some ⟨g, 3, none⟩)) hHeld rfl rfl (by kernel_rfl) (by kernel_rfl) (by kernel_rfl) (fun _ _ _ h => h) (Or.inl ⟨by rfl, fun w _ => by go_simp⟩) ?_
  simp only [Act.put, List.setIfInBounds_toArray, List.set_cons_zero, List.set_cons_succ]
  refine takeH 7 13 (.slice a0 ps.length q0) hHeld rfl rfl (by kernel_rfl) (by kernel_rfl) (by kernel_rfl) (fun _ _ _ h => h) (Or.inl ⟨by rfl, fun w hw => by have hw' : w.cell? ⟨g, 3, none⟩ = some (.slice a0 ps.length q0) := (fun h => h.2) hw; go_simp⟩) ?_
  simp only [Act.put, List.setIfInBounds_toArray, List.set_cons_zero, List.set_cons_succ]
  refine wpAnyH_ready (rs := [8]) (by kernel_rfl) (by simp) (AllReadyH.cons rfl (fun K hK => ?_) AllReadyH.nil)
  rw [if_pos (by rfl)]
  go_simp
  refine (clone_any B _ ps _ R2.out.own R2.out.good (by have := R2.out.count; omega)).mono ?_
  rintro r W3 ⟨v3, rfl, ho3, hb3⟩
  obtain ⟨a3, q3, rfl⟩ : ∃ a c, v3 = Value.slice a ps.length c := by rcases ho3.lies with ⟨rfl, rfl⟩ | ⟨_, _, _, rfl, _⟩ <;> exact ⟨_, _, rfl⟩
  have HO3 := hide ho3
  have R3 := hide (R2.out.below hb3)
  have HB3 := hide (bd.trans (hb3.mono bd.size))
  refine hK.out _ _ ((HS1 _ R3.out)) (fun hHeld => ?_)
  clear hK K
  refine takeH 9 15 (.agg (rgC b e (.slice a3 ps.length q3)).toArray) hHeld rfl rfl (by kernel_rfl) (by kernel_rfl) (by kernel_rfl) (fun _ _ _ h => h) (Or.inl ⟨by rfl, fun w _ => run_buildRgO rfl rfl⟩) ?_
  simp only [Act.put, List.setIfInBounds_toArray, List.set_cons_zero, List.set_cons_succ]
  refine wpAnyH_ready (rs := [10]) (by kernel_rfl) (by simp) (AllReadyH.cons rfl (fun K hK => ?_) AllReadyH.nil)
  rw [if_pos (by rfl)]
  refine wp_boxG rfl ?_
  intro W4 g' hg4 hle4 hb4
  have R4 := hide (R3.out.below hb4)
  have HO4 := hide (HO3.out.below hb4)
  have HB4 := hide (HB3.out.trans (hb4.mono HB3.out.size))
  have HG4 := hide hg4
  refine hK.out _ _ ((HS1 _ R4.out)) (fun hHeld => ?_)
  clear hK K
  clear hg4 hb4 hb3 ho3
  simp only [Act.put, List.setIfInBounds_toArray, List.set_cons_zero, List.set_cons_succ]
  refine takeH 11 2 (.pointer (some ⟨g', 0, none⟩)) hHeld rfl rfl (by kernel_rfl) (by kernel_rfl) (by kernel_rfl) (fun _ _ _ h => h) (Or.inl ⟨by rfl, fun w _ => by go_simp⟩) ?_
  simp only [Act.put, List.setIfInBounds_toArray, List.set_cons_zero, List.set_cons_succ]
  refine wpAnyH_done (by kernel_rfl) ?_ _
  refine NoPanic.normal ?_
  clear hHeld
  go_wp2
  go_ret
  exact ⟨g', .slice a3 ps.length q3, rfl, ⟨HG4.out, HO4.out.base bd.size, HR.out.good, HR.out.nodes, HR.out.le, HR.out.max⟩, Nat.le_trans HB3.out.size hle4, HB4.out⟩

theorem keepsO_rg {A C : World} {B g b e : Nat} {v : Value} {ps : List Pt} (h : Rg A B g b e v ps) (hc : Chs (Foot g v) A C) : KeepsOthers A C := ⟨hc.size, fun k o hk ho => (hc.block k (Array.getElem?_eq_some_iff.1 hk).1 (fun hf => by
  rcases hf with rfl | e1
  · rw [h.blk] at hk
    injection hk with hk
    subst hk
    cases ho
  · rcases h.own.lies with ⟨rfl, _⟩ | ⟨g', c, cs, rfl, _, hb, _⟩
    · cases e1
    · injection e1 with e1
      subst e1
      rw [hb] at hk
      injection hk with hk
      subst hk
      cases ho)).trans hk⟩
theorem Rg.not_table {w : World} {B g b e t : Nat} {v : Value} {ps : List Pt} (h : Rg w B g b e v ps) (hg : t < g) (hB : t < B) : ¬ Foot g v t := by
  rintro (rfl | e1)
  · omega
  · have := (h.own.lt _ e1).1; omega
/-- The right part of the other range is put. -/
theorem merge_step {e e2 k E : Nat} {qs ps' : List Pt} (hle : e ≤ e2) (hm : e2 ≤ 281474976710656) (hn : qs.map Prod.fst = parts e e2) (hk : k < qs.length) (hE : E = pbeg e e2 k) :
    apE E ((pG qs k).1.1 : Int) = 0 ∧ E + 2 ^ (pG qs k).1.1 = pbeg e e2 (k + 1) ∧ putL ps' (((pG qs k).1.1, E / 2 ^ (pG qs k).1.1), (pG qs k).2) = putL ps' (pG qs k) := by
  have hq : (parts e e2)[k]? = some (pG qs k).1 := by
    rw [← hn, List.getElem?_map]
    unfold pG
    rw [if_pos hk, List.getElem?_eq_getElem hk]
    simp [pAt, List.getD, hk]
  obtain ⟨h1, h2, h3⟩ := pbeg_at hle hm hq
  have hdv : 2 ^ (pG qs k).1.1 ∣ pbeg e e2 k := ⟨(pG qs k).1.2, by rw [← h1, Nat.mul_comm]⟩
  have hL : (pG qs k).1.1 ≤ 48 := by
    apply Nat.le_of_not_lt
    intro hl
    have h4 : 2 ^ 49 ≤ 2 ^ (pG qs k).1.1 := Nat.pow_le_pow_right (by decide) hl
    rw [h2] at h3
    revert h3 h4
    generalize 2 ^ (pG qs k).1.1 = P
    generalize pbeg e e2 k = s
    intro h3 h4
    have : (2 : Nat) ^ 49 = 562949953421312 := by decide
    omega
  subst hE
  refine ⟨apE_ok hL hdv (by rw [← h2]; omega), h2.symm, ?_⟩
  congr 1
  have e1 : pbeg e e2 k / 2 ^ (pG qs k).1.1 = (pG qs k).1.2 := by rw [← h1, Nat.mul_div_cancel _ (Nat.two_pow_pos _)]
  rw [e1]
theorem pG_at {qs : List Pt} {k : Nat} (hk : k < qs.length) : qs.take (k + 1) = qs.take k ++ [pG qs k] := by
  rw [List.take_succ_eq_append_getElem hk]
  unfold pG
  rw [if_pos hk]
  simp [pAt, List.getD, hk]
/-- What Merge's loop keeps. -/
structure MI (w W : World) (B g b e e2 : Nat) (v : Value) (ps qs : List Pt) (pre : List Nat) (E : Nat) (v' : Value) (ps' : List Pt) : Prop where
  rg : Rg W B g b E v' ps'
  chs : Chs (Foot g v) w W
  mv : Moved w v v'
  br : Blk W w.heap.size 23 [.pointer (some ⟨g, 0, none⟩)]
  ok : pre = List.range pre.length → pre.length ≤ qs.length → E = pbeg e e2 pre.length ∧ ps' = (qs.take pre.length).foldl putL ps
theorem MI.below {w W W' : World} {B g b e e2 : Nat} {v : Value} {ps qs : List Pt} {pre : List Nat} {E : Nat} {v' : Value} {ps' : List Pt} (h : MI w W B g b e e2 v ps qs pre E v' ps') (hb : Below W.heap.size W W') : MI w W' B g b e e2 v ps qs pre E v' ps' :=
  ⟨h.rg.below hb, h.chs.thenBelow hb, h.mv, h.br.below hb h.br.lt, h.ok⟩
theorem MI.kept {w A C : World} {B g b e e2 : Nat} {v : Value} {ps qs : List Pt} {pre : List Nat} {E : Nat} {v' : Value} {ps' : List Pt} {row : Option Nat} (h : MI w A B g b e e2 v ps qs pre E v' ps') (hg : A.grownBy C row) (hr : ∀ r, row = some r → w.heap.size ≤ r ∧ ∃ o : Obj, A.heap[r]? = some o ∧ o.isCells = false) : MI w C B g b e e2 v ps qs pre E v' ps' :=
  ⟨h.rg.kept hg (fun r e => (hr r e).2), h.chs.thenGrown hg (fun r e => .inr (hr r e).1), h.mv, h.br.kept hg (fun r e => (hr r e).2), h.ok⟩

set_option maxRecDepth 100000 in
set_option maxHeartbeats 400000 in
theorem rmerge_ok (B g b e : Nat) (v : Value) (ps : List Pt) (B2 g2 e2 : Nat) (v2 : Value) (qs : List Pt) (w : World) (hr : Rg w B g b e v ps) (hr2 : Rg w B2 g2 e e2 v2 qs) (hap : ∀ k, Foot g2 v2 k → ¬ Foot g v k) (hB : B ≤ w.heap.size) (hk : KT w) (hkg : 2 < g) (hkB : 2 < B) :
    Calls Tryd.prog 13 #[.pointer (some ⟨g, 0, none⟩), .pointer (some ⟨g2, 0, none⟩)] w fun r w' => ∃ v', r = .returned (.int .i64 0) ∧ Rg w' B g b e2 v' (qs.foldl putL ps) ∧ Chs (Foot g v) w w' ∧ Moved w v v' := by
  have HR := hide hr
  have HR2 := hide hr2
  have HK := hide hk
  clear hr hr2 hk
  refine (callsIn_wide (n := 3)).1 ?_
  refine callsIn_of_wp_marks Tryd.func13 rfl trivial ?_ rfl
  refine wpIn_wide.2 ?_
  simp only [Tryd.ntmps13, List.size_toArray, List.length_cons, List.length_nil, Nat.reduceAdd, Nat.reduceSub, Array.replicate_succ, Array.replicate_zero, List.push_toArray, List.append_toArray, List.nil_append, List.cons_append]
  go_wp2_with fail
  have BR : Blk (w.alloc (.cells #[.pointer (some ⟨g, 0, none⟩)] 23)) w.heap.size 23 [.pointer (some ⟨g, 0, none⟩)] := Blk.made _ _ _
  have hba : Below w.heap.size w (w.alloc (.cells #[.pointer (some ⟨g, 0, none⟩)] 23)) := (Below.refl _ _).alloc (Nat.le_refl _) _
  revert BR hba
  generalize w.alloc (.cells #[.pointer (some ⟨g, 0, none⟩)] 23) = W1
  intro BR hba
  have c0 : W1.cell? ⟨g, 0, none⟩ = some (.bool true) := by rw [(HR.out.below hba).blk.cell]; rfl
  have c2 : W1.cell? ⟨g, 2, none⟩ = some (.int .i64 (e : Int)) := by rw [(HR.out.below hba).blk.cell]; rfl
  have d0 : W1.cell? ⟨g2, 0, none⟩ = some (.bool true) := by rw [(HR2.out.below hba).blk.cell]; rfl
  have d1 : W1.cell? ⟨g2, 1, none⟩ = some (.int .i64 (e : Int)) := by rw [(HR2.out.below hba).blk.cell]; rfl
  have r0 : W1.cell? ⟨w.heap.size, 0, none⟩ = some (.pointer (some ⟨g, 0, none⟩)) := by rw [BR.cell]; rfl
  refine (made_is _ _ c0).mono ?_
  rintro r w' ⟨rfl, rfl⟩
  go_wp2_with (go_at_call 18; refine (made_is _ _ d0).mono ?_; rintro e w' ⟨rfl, rfl⟩)
  go_quiet (fail)
  have hbd : Below W1.heap.size W1 (W1.drewN nq) := below_drewN (Below.refl _ _) nq
  have B2' := hba.trans (hbd.mono hba.size)
  have BR2 := BR.drewN nq
  clear c0 c2 d0 d1 r0 BR hba hbd
  revert B2' BR2
  generalize W1.drewN nq = W2
  intro B2' BR2
  go_wp2_with fail
  refine (all_any _ _).mono ?_
  rintro r W5 ⟨rfl, rfl⟩
  have hbB : Below W2.heap.size W2 (W2.alloc (.cells #[.pointer (some ⟨g2, 0, none⟩)] 23)) := (Below.refl _ _).alloc (Nat.le_refl _) _
  have BX : Blk (W2.alloc (.cells #[.pointer (some ⟨g2, 0, none⟩)] 23)) W2.heap.size 23 [.pointer (some ⟨g2, 0, none⟩)] := Blk.made _ _ _
  have B5 := B2'.trans (hbB.mono B2'.size)
  have BR5 := BR2.below hbB BR2.lt
  clear B2' BR2 hbB
  revert B5 BR5 BX
  generalize W2.alloc (.cells #[.pointer (some ⟨g2, 0, none⟩)] 23) = W5
  generalize W2.heap.size = bx
  intro BX B5 BR5
  have HR5 := hide (HR.out.below B5)
  have HR25 := hide (HR2.out.below B5)
  have hws := B5.size
  have hg5 : g < W5.heap.size := HR5.out.blk.lt
  have HI0 : Hid (MI w W5 B g b e e2 v ps qs [] e v ps) := hide ⟨HR5.out, (Chs.refl _ _).thenBelow B5, Moved.refl _ _, BR5, fun _ _ => ⟨by rw [List.length_nil, pbeg_zero], rfl⟩⟩
  clear B5 BR5
  go_wp2_with fail
  refine (wpIn_wide (n := 3)).1 ?_
  refine range2 rfl (by decide) (gf := 39) (lb := #[.pointer (some ⟨bx, 0, none⟩)]) rfl trivial (enters_of Tryd.func39 (by kernel_rfl) rfl)
    (all_stops _ g2 e e2 v2 qs bx W5.heap.size W5 BX.lt (Nat.le_refl _) (by rw [BX.cell]; rfl) HR25.out _ (Mine.range hg5) (Fresh.range HR5.out)) KM.trans (KM.book (Mine.range hg5) (Nat.le_refl _)) (fun A B h hb => km_below (Mine.range hg5) h hb) (fun _ => rfl)
    (fun pre W => (∃ E v' ps', MI w W B g b e e2 v ps qs pre E v' ps') ∧ W5.heap.size ≤ W.heap.size) (fun _ _ _ => False)
    (fun _ A C row h hg hr => by
      obtain ⟨⟨E, v', ps', h1⟩, h2⟩ := h
      exact ⟨⟨E, v', ps', h1.kept hg (fun r e => ⟨by have := (hr r e).1; omega, (hr r e).2⟩)⟩, Nat.le_trans h2 hg.size⟩)
    (fun _ _ h => h.2) (fun c _ A B row h hg hr => h)
    ⟨⟨e, v, ps, HI0.out⟩, Nat.le_refl _⟩ 57 34 (fun x => nC (pG qs x).1) (fun x => u8s (pG qs x).2) ?act ?assign ?body ?done ?stop
  case assign =>
    rintro l x W K hK
    have hsem := Oper.semAt_some
    have HLx := hide (show (u8s (pG qs x).2).length = 32 by rw [u8s_length, (pG_good HR25.out.good x).len])
    gi_wp2_with (refine istep_alloc (.round l) zNd rfl ?_)
    intro V1 g9 hg9 hle9 hb9
    gi_wp2_with (refine istep_storeA (.round l) wNd rfl rfl rfl hg9 rfl (One.nC _) rfl ?_)
    intro V2 hg92 hbut9
    gi_wp2_with (refine istep_alloc (.round l) zD rfl ?_)
    intro V3 g10 hg10 hle10 hb10
    gi_wp2_with (refine istep_storeA (.round l) wD rfl rfl rfl hg10 HLx.out (One.u8 _) rfl ?_)
    intro V4 hg104 hbut10
    have hb92 : Below W.heap.size W V2 := hb9.trans (hbut9.below hle9)
    have hb104 : Below V2.heap.size V2 V4 := hb10.trans (hbut10.below hle10)
    have hK2 := hK g9 g10 V4 (hb92.trans (hb104.mono hb92.size)) (hg92.below hb104 hg92.lt) hg104
    clear hK
    gi_wp2
    exact hK2
  case stop =>
    rintro D c pre W hD hSp h hK
    exact h.elim
  case body =>
    rintro l pre x g9 g10 W ⟨⟨E, v', ps', hI⟩, hsz⟩ hg9 hg10 hlt
    have hsem := Oper.semAt_some
    have HPx := hide (pG_good HR25.out.good x)
    have HLx := hide (show (u8s (pG qs x).2).length = 32 by rw [u8s_length, HPx.out.len])
    have HI := hide hI
    have HG10 := hide hg10
    have n0 : W.cell? ⟨g9, 0, none⟩ = some (.int .i64 ((pG qs x).1.1 : Int)) := by rw [hg9.cell]; rfl
    have r0 : W.cell? ⟨w.heap.size, 0, none⟩ = some (.pointer (some ⟨g, 0, none⟩)) := by rw [hI.br.cell]; rfl
    have HKW := hide (HK.out.chs hI.chs (HR.out.not_table hkg hkB))
    have hBW : B ≤ W.heap.size := Nat.le_trans hB hI.chs.size
    clear hI hg9 hg10
    gi_wp2_with (refine istep_loadA (.round l) wD rfl rfl HG10.out HLx.out ?_)
    refine ⟨trivial, (calls_round (.round l) (appN_any B g b E _ v' ps' (pG qs x).2 W HI.out.rg hBW HKW.out hkg hkB HPx.out.len HPx.out.byte)).mono ?_⟩
    rintro r V1 ⟨E1, v1, ps1, rfl, hr1, hc1, hm1, hbad, hok⟩
    have HR1 := hide hr1
    have HC1 := hide hc1
    have HM1 := hide hm1
    have HOK := hide hok
    clear n0 r0 hr1 hc1 hm1 hbad hok
    gi_wp2
    have br : Blk V1 w.heap.size 23 [.pointer (some ⟨g, 0, none⟩)] := HI.out.br.chs HC1.out (by
      rintro (e1 | e1)
      · exact (HI.out.rg.blk.apart HI.out.br (by decide)) e1.symm
      · exact (HI.out.rg.own.apart HI.out.br (by decide)) e1)
    refine ⟨(keepsO_rg HI.out.rg HC1.out).from _, km_range HI.out.rg HR1.out HC1.out HM1.out, ⟨E1, v1, ps1, HR1.out, HI.out.chs.step HI.out.mv HC1.out, HI.out.mv.step HM1.out HI.out.chs.size, br, ?_⟩, Nat.le_trans hsz HC1.out.size⟩
    intro hp hl
    rw [List.length_append, List.length_singleton] at hp hl ⊢
    rw [List.range_succ] at hp
    obtain ⟨hp1, hp2⟩ := List.append_inj' hp rfl
    have hxk : x = pre.length := by injection hp2
    obtain ⟨hE, hps⟩ := HI.out.ok hp1 (by omega)
    rw [hxk] at HOK
    have ms := merge_step (ps' := ps') HR2.out.le HR2.out.max HR2.out.nodes hlt hE
    obtain ⟨h1, h2⟩ := HOK.out ms.1
    rw [Int.toNat_natCast] at h1 h2
    refine ⟨by rw [h1]; exact ms.2.1, ?_⟩
    rw [h2, ms.2.2, pG_at hlt, List.foldl_append, ← hps]
    rfl
  case done =>
    rintro D ys W hD rfl ⟨⟨E, v', ps', hI⟩, hsz⟩ hKd
    obtain ⟨e1, e2'⟩ := hI.ok (by rw [List.length_range]) (by rw [List.length_range]; exact Nat.le_refl _)
    rw [List.length_range] at e1 e2'
    have hN : qs.length = (parts e e2).length := by rw [← HR2.out.nodes, List.length_map]
    rw [hN, pbeg_end HR2.out.le HR2.out.max] at e1
    rw [List.take_length] at e2'
    subst e1 e2'
    have HI := hide hI
    have HKd := hide hKd
    clear hI hKd hN
    go_wp2
    refine ⟨by simp, .inl ⟨_, _, rfl, run_takeDeferred HKd.out, ?_⟩⟩
    have hk := HI.out.kept (grownBy_putObj' _ D (.deferred none)) (fun r e => by cases e; exact ⟨by omega, _, HKd.out, rfl⟩)
    refine ⟨_, ?_, v', rfl, hk.rg, hk.chs, hk.mv⟩
    simp [results, Tryd.f13, go_sem]

end Go.Proofs.YtnjkjickclkmhaaDoor

/-
  The document's Merge, where the two are neighbours.
-/
namespace Go.Proofs.YtnjkjickclkmhaaDoor
open Go.RowKit Go.Shelf
set_option linter.unusedVariables false

theorem NOwn.but {w w' : World} {B g : Nat} {v : Value} {ns : List (Nat × Nat)} (h : NOwn w B v ns) (hb : But g w w') (hg : v.ownBlock ≠ some g) : NOwn w' B v ns := by
  obtain ⟨h1, h2⟩ := h
  refine ⟨h1, ?_⟩
  rcases h2 with h2 | ⟨k, cap, cur, rfl, hk, hh, r⟩
  · exact .inl h2
  · refine .inr ⟨k, cap, cur, rfl, hk, ?_, r⟩
    rw [hb.block k (fun e => hg (by rw [← e]; rfl))]
    exact hh
theorem Rf5.but {w w' : World} {B b e g : Nat} {v : Value} {ps : List Pt} (h : Rf5 w B b e v ps) (hb : But g w w') (hg : v.ownBlock ≠ some g) : Rf5 w' B b e v ps := ⟨h.own.but hb hg, h.good, h.nodes, h.le, h.max⟩
/-- What the loop of the document's Merge keeps. -/
structure RM (w W : World) (g1 g2 g3 B B2 b e e2 : Nat) (u v2 : Value) (ps qs : List Pt) (k E : Nat) (v' : Value) (ps' : List Pt) : Prop where
  c1 : Blk W g1 29 (rfC b E v')
  c2 : Blk W g2 29 (rfC e e2 v2)
  c3 : Blk W g3 29 (rfC 0 0 (.slice none 0 0))
  r1 : Rf5 W B b E v' ps'
  r2 : Rf5 W B2 e e2 v2 qs
  nds : NOwn W w.heap.size u (parts e e2)
  bel : Below w.heap.size w W
  hE : E = pbeg e e2 k
  hps : ps' = (qs.take k).foldl putL ps
  hk : k ≤ qs.length
theorem RM.below {w W W' : World} {g1 g2 g3 B B2 b e e2 : Nat} {u v2 : Value} {ps qs : List Pt} {k E : Nat} {v' : Value} {ps' : List Pt} (h : RM w W g1 g2 g3 B B2 b e e2 u v2 ps qs k E v' ps') (hb : Below W.heap.size W W') : RM w W' g1 g2 g3 B B2 b e e2 u v2 ps qs k E v' ps' :=
  ⟨h.c1.below hb h.c1.lt, h.c2.below hb h.c2.lt, h.c3.below hb h.c3.lt, h.r1.below hb, h.r2.below hb, h.nds.below hb, h.bel.trans (hb.mono h.bel.size), h.hE, h.hps, h.hk⟩
section
variable {dst : Option Tmp} {ty : TypeId} {pos : String} {aft : Array Edge} {gd : Option (Nat × Bool)} {a : Act} {w : World} {K : Act → World → Prop} {Q : Exit → Act → World → Prop}
theorem wp_storeAA {T : TypeId} {n : Nat} (hT : Wide T n) {x y : Operand} {g : Nat} {t : TypeId} {cs vs : List Value} (hx : a.eval x = .pointer (some ⟨g, 0, none⟩)) (hy : a.eval y = .agg vs.toArray) (hg : Blk w g t cs) (hn : vs.length = n) (h1 : One vs) (hl : cs.length = n)
    (h : ∀ w1, Blk w1 g t vs → But g w w1 → K (a.put dst undef) w1) : Oper.wp Tryd.prog ⟨dst, .store T x y, ty, pos, aft, gd⟩ a w K Q :=
  wp_storeW hT rfl hx hy hg hn h1 (by omega) fun w1 hb hbut => h w1 (by
    have e : spl cs vs 0 = vs := by
      unfold spl
      rw [List.drop_of_length_le (by omega)]
      simp
    rwa [e] at hb) hbut
end
theorem range_cell0 {w : World} {b o : Nat} {n : Nat × Nat} (h : w.rangeAt b o (nC n)) : w.cell? ⟨b, o, none⟩ = some (.int .i64 (n.1 : Int)) := h 0 _ rfl
theorem pG_node {e e2 k : Nat} {qs : List Pt} (hn : qs.map Prod.fst = parts e e2) (hk : k < qs.length) : (parts e e2)[k]? = some (pG qs k).1 := by
  rw [← hn, List.getElem?_map]
  unfold pG
  rw [if_pos hk, List.getElem?_eq_getElem hk]
  simp [pAt, List.getD, hk]
theorem flat_at {qs : List Pt} (hg : GoodL qs) {k : Nat} (hk : k < qs.length) : ∃ Y, qs.flatMap Prod.snd = (qs.take k).flatMap Prod.snd ++ ((pG qs k).2 ++ Y) ∧ ((qs.take k).flatMap Prod.snd).length = 32 * k := by
  refine ⟨(qs.drop (k + 1)).flatMap Prod.snd, ?_, ?_⟩
  · conv => lhs; rw [← List.take_append_drop (k + 1) qs, pG_at hk]
    simp
  · rw [flat_length (hg.take k), List.length_take]
    omega
set_option maxRecDepth 100000 in
set_option maxHeartbeats 4000000 in
theorem refMerge_ok (B b e : Nat) (a0 : Option Addr) (n0 q0 : Nat) (ps : List Pt) (B2 e2 : Nat) (a2 : Option Addr) (n2 q2 : Nat) (qs : List Pt) (w : World) (hr : Rf5 w B b e (.slice a0 n0 q0) ps) (hr2 : Rf5 w B2 e e2 (.slice a2 n2 q2) qs) (hB : B ≤ w.heap.size) :
    Calls Tryd.prog 14 #[.agg (rfC b e (.slice a0 n0 q0)).toArray, .agg (rfC e e2 (.slice a2 n2 q2)).toArray] w fun r w' => Below w.heap.size w w' ∧ ∃ v', r = .returned (.tuple #[.agg (rfC b e2 v').toArray, .int .i64 0]) ∧ Rf5 w' B b e2 v' (qs.foldl putL ps) := by
  have HR := hide hr
  have HR2 := hide hr2
  have hle2' : e ≤ e2 := hr2.le
  have hmax2 : e2 ≤ 281474976710656 := hr2.max
  have hql : qs.length = (parts e e2).length := by rw [← hr2.nodes, List.length_map]
  have hq98 := parts_98 e e2 hmax2
  clear hr hr2
  go_enter Tryd.func14, Tryd.ntmps14
  go_wp2_with (refine step_box (cs := rfC b e (.slice a0 n0 q0)) rfl rfl ?_)
  intro w1 g1 hg1 hle1 hb1
  go_wp2_with (refine step_box (cs := rfC e e2 (.slice a2 n2 q2)) rfl rfl ?_)
  intro w2 g2 hg2 hle2 hb2
  go_wp2_with (refine step_alloc zRf rfl ?_)
  intro w3 g3 hg3 hle3 hb3
  have hb12 := hb1.trans (hb2.mono hb1.size)
  have HB3 := hide (hb12.trans (hb3.mono hb12.size))
  have HG1 := hide ((hg1.below hb2 hg1.lt).below hb3 (hg1.below hb2 hg1.lt).lt)
  have HG2 := hide (hg2.below hb3 hg2.lt)
  have HG3 := hide hg3
  have hw3 : w.heap.size ≤ g3 := Nat.le_trans hb12.size hle3
  have hw1 : w.heap.size ≤ g1 := hle1
  have h13 : g3 ≠ g1 := by have := hg1.lt; have := hb2.size; omega
  have h12 : g2 ≠ g1 := by have := hg1.lt; omega
  have ce : w3.cell? ⟨g1, 1, none⟩ = some (.int .i64 (e : Int)) := by rw [HG1.out.cell]; rfl
  have cb : w3.cell? ⟨g2, 0, none⟩ = some (.int .i64 (e : Int)) := by rw [HG2.out.cell]; rfl
  clear hg1 hg2 hg3 hb1 hb2 hb3 hb12 hle1 hle2 hle3
  have cb2 : w3.cell? ⟨g2, 1, none⟩ = some (.int .i64 (e2 : Int)) := by rw [HG2.out.cell]; rfl
  go_wp2_with fail
  refine (partsR_any e e2 _ hle2' hmax2).mono ?_
  rintro r W4 ⟨u, rfl, hn4, hb4⟩
  have I0 : Hid (RM w W4 g1 g2 g3 B B2 b e e2 u (.slice a2 n2 q2) ps qs 0 e (.slice a0 n0 q0) ps) := hide ⟨HG1.out.below hb4 HG1.out.lt, HG2.out.below hb4 HG2.out.lt, HG3.out.below hb4 HG3.out.lt, (HR.out.below HB3.out).below hb4, (HR2.out.below HB3.out).below hb4, hn4.base HB3.out.size, HB3.out.trans (hb4.mono HB3.out.size), (pbeg_zero e e2).symm, rfl, Nat.zero_le _⟩
  have hlu : lenOf u = qs.length := by rw [hn4.lenOf, hql]
  obtain ⟨ua, un, uc, rfl⟩ : ∃ ua un uc, u = .slice ua un uc := by
    rcases hn4.lies with ⟨rfl, _⟩ | ⟨_, _, _, rfl, _⟩ <;> exact ⟨_, _, _, rfl⟩
  obtain rfl : un = qs.length := hlu
  have HQN := hide hql
  clear hn4 hb4 ce cb cb2 HG1 HG2 HG3 HB3 hql
  go_wp2_with fail
  go_loopw [7] (fun i wr => ∃ (k E : Nat) (v' : Value) (ps' : List Pt), i = .int .i64 (k : Int) ∧ Hid (RM w wr g1 g2 g3 B B2 b e e2 (.slice ua qs.length uc) (.slice a2 n2 q2) ps qs k E v' ps')) (fun i _ => qs.length - (intOf i).toNat)
  case atStart => exact ⟨0, _, _, _, rfl, I0⟩
  case round =>
    clear I0
    obtain ⟨k, E, v', ps', rfl, HI⟩ := hrel
    by_cases hk : k < qs.length
    · have hkI : (k : Int) < (qs.length : Int) := by omega
      have hk98 : k ≤ 98 := by have := HQN.out; omega
      have hkw : wrap64 ((k : Int) + 1) = (k : Int) + 1 := by unfold wrap64; omega
      have HPG := hide (pG_good HR2.out.good k)
      have MS := hide (merge_step (ps' := ps') hle2' hmax2 HR2.out.nodes hk HI.out.hE)
      obtain ⟨ga, rfl⟩ : ∃ ga, ua = some ⟨ga, 0, none⟩ := by
        rcases HI.out.nds.lies with ⟨e1, e3⟩ | ⟨ga, _, _, e1, _⟩
        · have : qs.length = 0 := by rw [HQN.out, e3]; rfl
          omega
        · injection e1 with e1; exact ⟨ga, e1⟩
      obtain ⟨lb, rfl, rfl⟩ : ∃ lb, a2 = some ⟨lb, 0, none⟩ ∧ n2 = qs.length := by
        obtain ⟨_, h2⟩ := HR2.out.own
        rcases h2 with ⟨e1, h0⟩ | ⟨g, cap, cur, e1, _⟩
        · omega
        · injection e1 with e1 e3; exact ⟨g, e1, e3⟩
      obtain ⟨dD, huD, hdD⟩ := wD.und
      have HS : Hid (∀ (V : World) (k' E' : Nat) (v'' : Value) (ps'' : List Pt), RM w V g1 g2 g3 B B2 b e e2 (.slice (some ⟨ga, 0, none⟩) qs.length uc) (.slice (some ⟨lb, 0, none⟩) qs.length q2) ps qs k' E' v'' ps'' → V.cell? ⟨ga, k * 2, none⟩ = some (.int .i64 ((pG qs k).1.1 : Int)) ∧ V.cell? ⟨g2, 2, none⟩ = some (.slice (some ⟨lb, 0, none⟩) qs.length q2) ∧ V.rangeAt lb (0 + 32 * k) (u8s (pG qs k).2)) := hide (fun V k' E' v'' ps'' h => by
        refine ⟨?_, by rw [h.c2.cell]; rfl, ?_⟩
        · exact range_cell0 (h.nds.range k _ (pG_node HR2.out.nodes hk))
        · obtain ⟨Y, hY1, hY2⟩ := flat_at HR2.out.good hk
          have h1 := h.r2.own
          rw [hY1] at h1
          exact h1.range (by rw [hY2, Nat.zero_add]))
      have hix := n_at ga qs.length uc k (k : Int) rfl hk
      clear hix
      go_wp2_with fail
      refine wp_region_noPanic ?_
      have HI1 := hide (HI.out.below ((Below.refl wr.heap.size wr).drew))
      refine wp_region_held_drew (S := fun V : World => V.cell? ⟨ga, k * 2, none⟩ = some (.int .i64 ((pG qs k).1.1 : Int)) ∧ V.cell? ⟨g2, 2, none⟩ = some (.slice (some ⟨lb, 0, none⟩) qs.length q2) ∧ V.rangeAt lb (0 + 32 * k) (u8s (pG qs k).2)) (by kernel_rfl) (HS.out _ _ _ _ _ HI1.out) (fun hHeld => ?_)
      refine takeH 1 27 (.slice (some ⟨ga, 0, none⟩) qs.length uc) hHeld rfl rfl (by kernel_rfl) (by kernel_rfl) (by kernel_rfl) (fun _ _ _ h => h) (Or.inl ⟨by rfl, fun w _ => by go_simp⟩) ?_
      simp only [Act.put, List.setIfInBounds_toArray, List.set_cons_zero, List.set_cons_succ]
      refine takeH 2 28 (.int .i64 (k : Int)) hHeld rfl rfl (by kernel_rfl) (by kernel_rfl) (by kernel_rfl) (fun _ _ _ h => h) (Or.inl ⟨by rfl, fun w _ => by go_simp⟩) ?_
      simp only [Act.put, List.setIfInBounds_toArray, List.set_cons_zero, List.set_cons_succ]
      refine takeH 3 29 (.pointer (some ⟨ga, k * 2, none⟩)) hHeld rfl rfl (by kernel_rfl) (by kernel_rfl) (by kernel_rfl) (fun _ _ _ h => h) (Or.inl ⟨by rfl, fun w _ => run_op rfl ((n_at ga qs.length uc k (k : Int) rfl hk) w)⟩) ?_
      simp only [Act.put, List.setIfInBounds_toArray, List.set_cons_zero, List.set_cons_succ]
      refine takeH 4 30 (.pointer (some ⟨ga, k * 2, none⟩)) hHeld rfl rfl (by kernel_rfl) (by kernel_rfl) (by kernel_rfl) (fun _ _ _ h => h) (Or.inl ⟨by rfl, fun w _ => by go_simp⟩) ?_
      simp only [Act.put, List.setIfInBounds_toArray, List.set_cons_zero, List.set_cons_succ]
      refine takeH 5 31 (.int .i64 ((pG qs k).1.1 : Int)) hHeld rfl rfl (by kernel_rfl) (by kernel_rfl) (by kernel_rfl) (fun _ _ _ h => h) (Or.inl ⟨by rfl, fun w hw => by have hw' : w.cell? ⟨ga, (k * 2), none⟩ = some (.int .i64 ((pG qs k).1.1 : Int)) := (fun h => h.1) hw; go_simp⟩) ?_
      simp only [Act.put, List.setIfInBounds_toArray, List.set_cons_zero, List.set_cons_succ]
      refine takeH 6 32 (.pointer (some ⟨g2, 2, none⟩)) hHeld rfl rfl (by kernel_rfl) (by kernel_rfl) (by kernel_rfl) (fun _ _ _ h => h) (Or.inl ⟨by rfl, fun w _ => by go_simp⟩) ?_
      simp only [Act.put, List.setIfInBounds_toArray, List.set_cons_zero, List.set_cons_succ]
      refine takeH 7 33 (.slice (some ⟨lb, 0, none⟩) qs.length q2) hHeld rfl rfl (by kernel_rfl) (by kernel_rfl) (by kernel_rfl) (fun _ _ _ h => h) (Or.inl ⟨by rfl, fun w hw => by have hw' : w.cell? ⟨g2, 2, none⟩ = some (.slice (some ⟨lb, 0, none⟩) qs.length q2) := (fun h => h.2.1) hw; go_simp⟩) ?_
      simp only [Act.put, List.setIfInBounds_toArray, List.set_cons_zero, List.set_cons_succ]
      refine takeH 8 34 (.int .i64 (k : Int)) hHeld rfl rfl (by kernel_rfl) (by kernel_rfl) (by kernel_rfl) (fun _ _ _ h => h) (Or.inl ⟨by rfl, fun w _ => by go_simp⟩) ?_
      simp only [Act.put, List.setIfInBounds_toArray, List.set_cons_zero, List.set_cons_succ]
      refine takeH 9 35 (.pointer (some ⟨lb, 0 + 32 * k, none⟩)) hHeld rfl rfl (by kernel_rfl) (by kernel_rfl) (by kernel_rfl) (fun _ _ _ h => h) (Or.inl ⟨by rfl, fun w _ => run_op rfl ((d_at lb 0 qs.length q2 k (k : Int) rfl hk) w)⟩) ?_
      simp only [Act.put, List.setIfInBounds_toArray, List.set_cons_zero, List.set_cons_succ]
      refine takeH 10 36 (.agg (u8s (pG qs k).2).toArray) hHeld rfl rfl (by kernel_rfl) (by kernel_rfl) (by kernel_rfl) (fun _ _ _ h => h) (yieldsIf_load_mid (by rfl) _ _ rfl lb (0 + 32 * k) rfl _ _ (fun w h => h.2.2) huD hdD (by rw [wD.size, u8s_length, HPG.out.len])) ?_
      simp only [Act.put, List.setIfInBounds_toArray, List.set_cons_zero, List.set_cons_succ]
      refine wpAnyH_ready (rs := [0]) (by kernel_rfl) (by simp) (AllReadyH.cons rfl (fun K hK => ?_) AllReadyH.nil)
      rw [if_pos (by rfl)]
      refine wp_loadRR wRf rfl (rfC b E v') (HI1.out.c1.range 0 _ (by rw [List.drop_zero, List.take_of_length_le (Nat.le_refl _)])) rfl ?_
      refine hK.out _ _ (HS.out _ _ _ _ _ HI1.out) (fun hHeld => ?_)
      clear hK K
      simp only [Act.put, List.setIfInBounds_toArray, List.set_cons_zero, List.set_cons_succ]
      refine wpAnyH_ready (rs := [11]) (by kernel_rfl) (by simp) (AllReadyH.cons rfl (fun K hK => ?_) AllReadyH.nil)
      rw [if_pos (by rfl)]
      go_simp
      refine (refApp_any B b E _ v' ps' (pG qs k).2 _ HI1.out.r1 (Nat.le_trans hB HI1.out.bel.size) HPG.out.len HPG.out.byte).mono ?_
      rintro r W4 ⟨hb4, E1, v1, ps1, rfl, hr1, hbad, hok⟩
      obtain ⟨h1, h2⟩ := hok MS.out.1
      rw [Int.toNat_natCast] at h1 h2
      rw [MS.out.2.1] at h1
      rw [MS.out.2.2] at h2
      rw [MS.out.1]
      obtain ⟨x1, y1, rfl⟩ := hr1.slice
      have HI4 := hide (HI1.out.below hb4)
      have HR1 := hide hr1
      have HH := hide (And.intro h1 h2)
      refine hK.out _ _ (HS.out _ _ _ _ _ HI4.out) (fun hHeld => ?_)
      clear hK K hb4 hr1 hbad hok h1 h2
      refine takeH 12 25 (.tuple #[.agg (rfC b E1 (.slice x1 ps1.length y1)).toArray, .int .i64 0]) hHeld rfl rfl (by kernel_rfl) (by kernel_rfl) (by kernel_rfl) (fun _ _ _ h => h) (Or.inl ⟨by rfl, fun w _ => by go_simp⟩) ?_
      simp only [Act.put, List.setIfInBounds_toArray, List.set_cons_zero, List.set_cons_succ]
      refine takeH 13 38 (.agg (rfC b E1 (.slice x1 ps1.length y1)).toArray) hHeld rfl rfl (by kernel_rfl) (by kernel_rfl) (by kernel_rfl) (fun _ _ _ h => h) (Or.inl ⟨by rfl, fun w _ => by go_simp⟩) ?_
      simp only [Act.put, List.setIfInBounds_toArray, List.set_cons_zero, List.set_cons_succ]
      refine takeH 14 39 (.int .i64 0) hHeld rfl rfl (by kernel_rfl) (by kernel_rfl) (by kernel_rfl) (fun _ _ _ h => h) (Or.inl ⟨by rfl, fun w _ => by go_simp⟩) ?_
      simp only [Act.put, List.setIfInBounds_toArray, List.set_cons_zero, List.set_cons_succ]
      refine wpAnyH_ready (rs := [15]) (by kernel_rfl) (by simp) (AllReadyH.cons rfl (fun K hK => ?_) AllReadyH.nil)
      rw [if_pos (by rfl)]
      refine wp_storeAA wRf rfl rfl HI4.out.c1 rfl (One.rfC _ _ _ _ _) rfl ?_
      intro W5 hg5 hbut5
      have HI5 : Hid (RM w W5 g1 g2 g3 B B2 b e e2 (.slice (some ⟨ga, 0, none⟩) qs.length uc) (.slice (some ⟨lb, 0, none⟩) qs.length q2) ps qs (k + 1) E1 (.slice x1 ps1.length y1) ps1) := hide ⟨hg5, HI4.out.c2.but hbut5 h12, HI4.out.c3.but hbut5 h13, HR1.out.but hbut5 (HR1.out.own.apart HI4.out.c1 (by decide)), HI4.out.r2.but hbut5 (HI4.out.r2.own.apart HI4.out.c1 (by decide)), HI4.out.nds.but hbut5 (HI4.out.nds.apart HI4.out.c1 (by decide)), HI4.out.bel.trans (hbut5.below hw1), HH.out.1, by rw [HH.out.2, pG_at hk, List.foldl_append, ← HI.out.hps]; rfl, hk⟩
      refine hK.out _ _ (HS.out _ _ _ _ _ HI5.out) (fun hHeld => ?_)
      clear hK K hg5 hbut5
      simp only [Act.put]
      refine wpAnyH_done (by kernel_rfl) ?_ _
      refine NoPanic.normal ?_
      clear HI HI1 HI4 HS hHeld
      go_wp2_with fail
      go_roundw
      case rel => exact ⟨k + 1, _, _, _, by go_num, HI5⟩
      case measure => simp [intOf]; omega
    · obtain rfl : k = qs.length := Nat.le_antisymm HI.out.hk (Nat.le_of_not_lt hk)
      obtain rfl : E = e2 := by rw [HI.out.hE, HQN.out]; exact pbeg_end hle2' hmax2
      have HPS : Hid (ps' = qs.foldl putL ps) := hide (by rw [HI.out.hps, List.take_length])
      obtain ⟨x, c, rfl⟩ := HI.out.r1.slice
      clear hk
      go_wp2_with (first | (refine step_loadA wRf rfl rfl HI.out.c1 rfl ?_) | (refine step_storeA wRf rfl rfl rfl HI.out.c3 rfl (One.rfC _ _ _ _ _) rfl ?_; intro w4 hg4 hbut))
      refine bodyPost_ret (results_wide2 rfl wRf _ _ rfl hg4 rfl) rfl ⟨HI.out.bel.trans (hbut.below hw3), _, rfl, ?_⟩
      rw [← HPS.out]
      exact HI.out.r1.but hbut (HI.out.r1.own.apart HI.out.c3 (by decide))

end Go.Proofs.YtnjkjickclkmhaaDoor

/-
  slices.Backward over a range's parts; Root of a range from 0 on.
-/
namespace Go.Proofs.YtnjkjickclkmhaaDoor
open Go.RowKit Go.Shelf
set_option linter.unusedVariables false

theorem back_any (a : Option Addr) (n c : Nat) (w : World) : Calls Tryd.prog 41 #[.slice a n c] w fun e w' => e = .returned (.func (.func 54) #[] #[.pointer (some ⟨w.heap.size, 0, none⟩)]) ∧ w' = w.alloc (.cells #[.slice a n c] 52) := by
  go_enter Tryd.func41, Tryd.ntmps41
  go_wp2
  go_ret
  exact ⟨rfl, rfl⟩

/-- What the iterator reads: its slice's variable, and the parts. -/
def BK (M : World → Nat → Prop) (Bs h cap : Nat) (cs : List Value) (m : Nat) (W : World) : Prop := Blk W Bs 52 [.slice (some ⟨h, 0, none⟩) m cap] ∧ Blk W h 59 cs ∧ ¬ M W Bs ∧ ¬ M W h
theorem BK.km {M : World → Nat → Prop} {Bs h cap : Nat} {cs : List Value} {m : Nat} {A B : World} (x : BK M Bs h cap cs m A) (k : KM M A B) : BK M Bs h cap cs m B :=
  ⟨k.keep Bs _ x.1 rfl x.2.2.1, k.keep h _ x.2.1 rfl x.2.2.2, fun hm => x.2.2.1 (k.mine Bs x.1.lt hm), fun hm => x.2.2.2 (k.mine h x.2.1.lt hm)⟩
theorem BK.below {n₀ : Nat} {M : World → Nat → Prop} (hM : Mine n₀ M) {Bs h cap : Nat} {cs : List Value} {m : Nat} {A B : World} (x : BK M Bs h cap cs m A) (hn : n₀ ≤ A.heap.size) (hb : Below A.heap.size A B) : BK M Bs h cap cs m B :=
  ⟨x.1.below hb x.1.lt, x.2.1.below hb x.2.1.lt, fun hm => x.2.2.1 (hM.below A B hn hb Bs x.1.lt hm), fun hm => x.2.2.2 (hM.below A B hn hb h x.2.1.lt hm)⟩
theorem back_lt {k : Nat} : (intOf (.int .i64 ((k : Int) - 1)) + 1).toNat < (intOf (.int .i64 (k : Int)) + 1).toNat := by
  simp only [intOf]
  omega

set_option maxRecDepth 100000 in
set_option maxHeartbeats 1000000 in
theorem back_stops (Bs n₀ h cap m : Nat) (cs : List Value) (qs : List Pt) (w : World) (hn0 : n₀ ≤ w.heap.size) (hgl : GoodL qs) (hql : qs.length = m) (hm98 : m ≤ 98) (hct : cs.take (m * 34) = pcs qs) (M : World → Nat → Prop) (hM : Mine n₀ M) (hbk : BK M Bs h cap cs m w) :
    SeqStopsK Fence.wide 2 Tryd.prog 54 #[.pointer (some ⟨Bs, 0, none⟩)] (fun j : Nat => #[Value.int .i64 ((m - 1 - j : Nat) : Int), Value.agg (pc (pG qs (m - 1 - j))).toArray]) (KM M) (fun xs => xs = List.range m) (fun pre => pre <+: List.range m) m w := by
  intro l J Jx W hW hJ hJx hY h0
  have HBK := hide (hbk.below hM hn0 hW)
  have hnW : n₀ ≤ W.heap.size := Nat.le_trans hn0 hW.size
  have hc : W.cell? ⟨Bs, 0, none⟩ = some (.slice (some ⟨h, 0, none⟩) m cap) := by rw [HBK.out.1.cell]; rfl
  have hw1 : wrap64 ((m : Int) - 1) = (m : Int) - 1 := by unfold wrap64; omega
  have HJ0 := hide h0
  have HGL := hide hgl
  have HCT := hide hct
  have HQL := hide hql
  clear hbk hW h0 hgl hct hql
  refine callsIn_of_wp Tryd.func54 rfl trivial ?_ rfl
  simp only [Tryd.ntmps54, List.size_toArray, List.length_cons, List.length_nil, Nat.reduceAdd, Nat.reduceSub, Array.replicate_succ, Array.replicate_zero, List.push_toArray, List.append_toArray, List.nil_append, List.cons_append]
  gi_wp2_with fail
  gi_loopw [3] (fun i wr => ∃ k : Nat, k ≤ m ∧ i = .int .i64 ((k : Int) - 1) ∧ Hid (J (List.range (m - k)) wr) ∧ Hid (BK M Bs h cap cs m wr) ∧ n₀ ≤ wr.heap.size) (fun i _ => (intOf i + 1).toNat)
  case atStart => exact ⟨m, Nat.le_refl _, by first | rfl | (rw [hw1]), by rw [Nat.sub_self]; exact HJ0, HBK, hnW⟩
  case round =>
    obtain ⟨k, hk, rfl, HJ, HB, hnr⟩ := hrel
    clear HJ0 HBK hnW hc hw1
    rcases Nat.eq_zero_or_pos k with h0 | h0
    · rw [show ((k : Int) - 1) = -1 by omega]
      have HJ2 : Hid (J (List.range m) wr) := hide (by have := HJ.out; rwa [h0, Nat.sub_zero] at this)
      clear h0
      gi_wp2
      go_end0
      exact ⟨⟨_, rfl⟩, .inl ⟨_, rfl, HJ2.out⟩⟩
    · obtain ⟨i, rfl⟩ : ∃ i, k = i + 1 := ⟨k - 1, by omega⟩
      clear h0
      rw [show (((i + 1 : Nat) : Int) - 1) = (i : Int) by omega]
      have him : i < m := hk
      have hix := p_at h m cap i (i : Int) rfl him
      have hc : wr.cell? ⟨Bs, 0, none⟩ = some (.slice (some ⟨h, 0, none⟩) m cap) := by rw [HB.out.1.cell]; rfl
      have hil : i < qs.length := by have := HQL.out; omega
      have HPG := hide (pAt_good HGL.out hil)
      have HPL := hide (pc_length HPG.out)
      have HRA : Hid (wr.rangeAt h (i * 34) (pc (pAt qs i))) := hide (HB.out.2.1.range _ _ (by
        have hpa := pcs_at HGL.out hil
        rw [← HCT.out, List.drop_take, List.take_take] at hpa
        rw [HPL.out, ← hpa]
        congr 1
        have : (i + 1) * 34 ≤ m * 34 := Nat.mul_le_mul_right 34 him
        omega))
      have EI : m - 1 - (m - (i + 1)) = i := by omega
      have EG : pG qs i = pAt qs i := by unfold pG; rw [if_pos hil]
      obtain ⟨fn, tmps, assign, body, hy, hR⟩ := hY (List.range (m - (i + 1))) (m - (i + 1)) wr HJ.out (by rw [List.length_range]; omega)
      simp only [EI, EG] at hy
      have hwm : wrap64 ((i : Int) - 1) = (i : Int) - 1 := by unfold wrap64; omega
      have ER : Hid (List.range (m - (i + 1)) ++ [m - (i + 1)] = List.range (m - i)) := hide (by rw [← List.range_succ]; congr 1; omega)
      clear EI EG hil
      gi_wp2_with (refine istep_loadR .wide wP rfl rfl _ HRA.out HPL.out ?_)
      refine hR.mono ?_
      rintro r W4 (⟨rfl, hJ4, hk4⟩ | ⟨rfl, hJx4⟩)
      · have HJ4 : Hid (J (List.range (m - i)) W4) := hide (by rw [← ER.out]; exact hJ4)
        have HB4 := hide (HB.out.km hk4)
        have hn4 : n₀ ≤ W4.heap.size := Nat.le_trans hnr hk4.size
        clear hJ4 hk4 hc
        gi_wp2
        go_roundw
        case rel => exact ⟨i, by omega, by first | rfl | (rw [hwm]), HJ4, HB4, hn4⟩
        case measure => exact back_lt
      · have HJx4 : Hid (Jx (List.range (m - i)) W4) := hide (by rw [← ER.out]; exact hJx4)
        clear hJx4 hc
        gi_wp2
        refine bodyPost_ret (results_none rfl _ _ _) rfl ?_
        exact ⟨⟨_, rfl⟩, .inr ⟨_, range_pre (by omega), HJx4.out⟩⟩

/-- The root out of the parts, from the right. -/
def rf : List Pt → List Int
  | [] => emp
  | [p] => p.2
  | p :: ps => nd p.2 (rf ps)
def accR (qs : List Pt) (m : Nat) (d0 : List Int) (pre : List Nat) : List Int := pre.foldl (fun d j => nd (pG qs (m - 1 - j)).2 d) d0
theorem accR_good (qs : List Pt) (m : Nat) : ∀ (pre : List Nat) (d0 : List Int), d0.length = 32 → isB d0 → (accR qs m d0 pre).length = 32 ∧ isB (accR qs m d0 pre)
  | [], d0, h1, h2 => ⟨h1, h2⟩
  | j :: pre, d0, _, _ => accR_good qs m pre _ (nd_length _ _) (nd_isB _ _)
theorem accR_snoc (qs : List Pt) (m : Nat) (d0 : List Int) (pre : List Nat) (j : Nat) : accR qs m d0 (pre ++ [j]) = nd (pG qs (m - 1 - j)).2 (accR qs m d0 pre) := by simp [accR]
/-- What Root's loop keeps. -/
structure RI (w W : World) (g2 g5 : Nat) (d : List Int) : Prop where
  c2 : Blk W g2 34 (u8s (zer 32))
  c5 : Blk W g5 34 (u8s d)
  bel : Below w.heap.size w W
theorem RI.below {w W W' : World} {g2 g5 : Nat} {d : List Int} (h : RI w W g2 g5 d) (hb : Below W.heap.size W W') : RI w W' g2 g5 d := ⟨h.c2.below hb h.c2.lt, h.c5.below hb h.c5.lt, h.bel.trans (hb.mono h.bel.size)⟩
theorem RI.kept {w A B : World} {g2 g5 : Nat} {d : List Int} {row : Option Nat} (h : RI w A g2 g5 d) (hg : A.grownBy B row) (hr : ∀ r, row = some r → w.heap.size ≤ r ∧ ∃ o : Obj, A.heap[r]? = some o ∧ o.isCells = false) : RI w B g2 g5 d :=
  ⟨h.c2.kept hg (fun r e => (hr r e).2), h.c5.kept hg (fun r e => (hr r e).2), h.bel.grown hg h.bel.size (fun r e => (hr r e).1)⟩

set_option maxRecDepth 100000 in
set_option maxHeartbeats 1000000 in
theorem rroot_some (B g e n : Nat) (v : Value) (ps : List Pt) (w : World) (hr : Rg w B g 0 e v ps) (hn : ps.length = n + 1) (hk : KT w) :
    Calls Tryd.prog 26 #[.pointer (some ⟨g, 0, none⟩)] w fun r w' => r = .returned (.tuple #[.agg (u8s (accR (ps.take n) n (pAt ps n).2 (List.range n))).toArray, .int .i64 0]) ∧ Below w.heap.size w w' := by
  obtain ⟨h, cap, cs, rfl, hbl, hcap, hct⟩ : ∃ h cap cs, v = .slice (some ⟨h, 0, none⟩) (n + 1) cap ∧ Blk w h 59 cs ∧ n + 1 ≤ cap ∧ cs.take ((n + 1) * 34) = pcs ps := by
    rcases hr.own.lies with ⟨_, e2⟩ | ⟨h, cap, cs, e1, _, hb, hc, _, _, ht⟩
    · rw [e2] at hn; cases hn
    · rw [hn] at e1 hc ht
      exact ⟨h, cap, cs, e1, hb, hc, ht⟩
  have HR := hide hr
  have HK := hide hk
  have HBL := hide hbl
  have HPG := hide (pAt_good hr.good (show n < ps.length by omega))
  have hcnt := hr.count
  have HRA : Hid (∀ W : World, Below w.heap.size w W → W.rangeAt h (n * 34 + 2) (u8s (pAt ps n).2)) := hide (fun W hb => by
    have h1 : W.rangeAt h (n * 34) (pc (pAt ps n)) := (hbl.below hb hbl.lt).range _ _ (by
      have hpa := pcs_at hr.good (show n < ps.length by omega)
      rw [← hct, List.drop_take, List.take_take] at hpa
      rw [pc_length (pAt_good hr.good (show n < ps.length by omega)), ← hpa]
      congr 1
      omega)
    exact range_r h1)
  have HCT : Hid (cs.take (n * 34) = pcs (ps.take n)) := hide (by
    rw [← pcs_take hr.good n (by omega), ← hct, List.take_take]
    congr 1
    omega)
  have hix := p_at h (n + 1) cap n (n : Int) rfl (by omega)
  have hto := p_to h (n + 1) cap n (n : Int) rfl (by omega)
  have HUL := hide (show (u8s (pAt ps n).2).length = 32 by rw [u8s_length, HPG.out.len])
  have hwn : wrap64 ((n : Int) + 1 - 1) = (n : Int) := by unfold wrap64; omega
  have hn1 : ¬ ((n : Int) + 1 = 0) := by omega
  clear hr hk hbl hct
  refine (callsIn_wide (n := 3)).1 ?_
  refine callsIn_of_wp_marks Tryd.func26 rfl trivial ?_ rfl
  refine wpIn_wide.2 ?_
  simp only [Tryd.ntmps26, List.size_toArray, List.length_cons, List.length_nil, Nat.reduceAdd, Nat.reduceSub, Array.replicate_succ, Array.replicate_zero, List.push_toArray, List.append_toArray, List.nil_append, List.cons_append]
  go_wp2_with (refine step_alloc zD rfl ?_)
  intro w1 g2 hg2 hle2 hb1
  have G2 := hide hg2
  have R1 := hide (HR.out.below hb1)
  have c0 : w1.cell? ⟨g, 0, none⟩ = some (.bool true) := by rw [R1.out.blk.cell]; rfl
  have c1 : w1.cell? ⟨g, 1, none⟩ = some (.int .i64 0) := by rw [R1.out.blk.cell]; rfl
  have c3 : w1.cell? ⟨g, 3, none⟩ = some (.slice (some ⟨h, 0, none⟩) (n + 1) cap) := by rw [R1.out.blk.cell]; rfl
  have HRB := hide (HRA.out w1 hb1)
  clear hg2
  go_wp2_with (first | (go_at_call 18; refine (made_is _ _ c0).mono ?_; rintro e w' ⟨rfl, rfl⟩) | (refine step_loadR wD rfl rfl _ HRB.out HUL.out ?_) | (refine step_alloc zD rfl ?_))
  intro w2 g5 hg5 hle5 hb2
  go_wp2_with (refine step_storeA wD rfl rfl rfl hg5 HUL.out (One.u8 _) rfl ?_)
  intro w3 hg53 hbut5
  have hb23 : Below w1.heap.size w1 w3 := hb2.trans (hbut5.below hle5)
  have HB3 := hide (hb1.trans (hb23.mono hb1.size))
  have hws5 : w.heap.size ≤ g5 := Nat.le_trans hb1.size hle5
  have hg25 : g2 ≠ g5 := by have := G2.out.lt; omega
  have I3 : Hid (RI w w3 g2 g5 (pAt ps n).2) := hide ⟨G2.out.below hb23 G2.out.lt, hg53, HB3.out⟩
  have d3 : w3.cell? ⟨g, 3, none⟩ = some (.slice (some ⟨h, 0, none⟩) (n + 1) cap) := cell_below c3 hb23
  clear hg5 hg53 hb2 hbut5 hb23 c0 c1 c3 HRB
  go_wp2_with fail
  refine (back_any _ _ _ _).mono ?_
  rintro r W5 ⟨rfl, rfl⟩
  have hbA : Below w3.heap.size w3 (w3.alloc (.cells #[.slice (some ⟨h, 0, none⟩) n cap] 52)) := (Below.refl _ _).alloc (Nat.le_refl _) _
  have BX : Blk (w3.alloc (.cells #[.slice (some ⟨h, 0, none⟩) n cap] 52)) w3.heap.size 52 [.slice (some ⟨h, 0, none⟩) n cap] := Blk.made _ _ _
  have I4 := I3.out.below hbA
  have h5x : g5 ≠ w3.heap.size := by have := I3.out.c5.lt; omega
  revert hbA BX I4 h5x
  generalize w3.alloc (.cells #[.slice (some ⟨h, 0, none⟩) n cap] 52) = W4
  generalize w3.heap.size = bx
  intro hbA BX I4 h5x
  have HI4 := hide I4
  have HBH := hide (HBL.out.below I4.bel HBL.out.lt)
  have hgh : h ≠ g5 := HBH.out.apart I4.c5 (by decide)
  have BK0 : Hid (BK (fun A k => k = g5 ∧ k < A.heap.size) bx h cap cs n W4) := hide ⟨BX, HBH.out, fun e => h5x e.1.symm, fun e => hgh e.1⟩
  clear I4 BX d3 I3
  go_wp2_with fail
  refine (wpIn_wide (n := 3)).1 ?_
  refine range1 rfl (by decide) (gf := 54) (lb := #[.pointer (some ⟨bx, 0, none⟩)]) rfl trivial (enters_of Tryd.func54 (by kernel_rfl) rfl)
    (back_stops bx W4.heap.size h cap n cs (ps.take n) W4 (Nat.le_refl _) (HR.out.good.take n) (by rw [List.length_take]; omega) (by omega) HCT.out _ (Mine.one HI4.out.c5.lt) BK0.out) KM.trans (KM.book (Mine.one HI4.out.c5.lt) (Nat.le_refl _)) (fun A B h hb => km_below (Mine.one HI4.out.c5.lt) h hb) (fun _ => rfl)
    (fun pre W => RI w W g2 g5 (accR (ps.take n) n (pAt ps n).2 pre) ∧ W4.heap.size ≤ W.heap.size) (fun _ _ _ => False)
    (fun _ A B row h hg hr => ⟨h.1.kept hg (fun r e => ⟨by have := (hr r e).1; have := HI4.out.bel.size; omega, (hr r e).2⟩), Nat.le_trans h.2 hg.size⟩)
    (fun _ _ h => h.2) (fun c _ A B row h hg hr => h)
    ⟨HI4.out, Nat.le_refl _⟩ 59 (fun x => pc (pG (ps.take n) (n - 1 - x))) ?act ?assign ?body ?done ?stop
  case assign =>
    rintro l x W K hK
    have hsem := Oper.semAt_some
    have HPLx := hide (pc_length (pG_good (HR.out.good.take n) (n - 1 - x)))
    gi_wp2_with (refine istep_alloc (.round l) zP rfl ?_)
    intro W1 g6 hg6 hle6 hb6
    gi_wp2_with (refine istep_storeA (.round l) wP rfl rfl rfl hg6 HPLx.out (One.pc _) rfl ?_)
    intro W2 hg62 hbut6
    have hK2 := hK g6 W2 (hb6.trans (hbut6.below hle6)) hg62
    clear hK
    gi_wp2
    exact hK2
  case stop =>
    rintro D c pre W hD hSp h hK
    exact h.elim
  case body =>
    rintro l pre x g6 W ⟨hI, hsz⟩ hg6 hlt
    have hsem := Oper.semAt_some
    have HG6 := hide hg6
    have HI := hide hI
    have HPx := hide (pG_good (HR.out.good.take n) (n - 1 - x))
    have HAx := hide (accR_good (ps.take n) n pre (pAt ps n).2 HPG.out.len HPG.out.byte)
    have HLx := hide (show (u8s (pG (ps.take n) (n - 1 - x)).2).length = 32 by rw [u8s_length, HPx.out.len])
    have HLa := hide (show (u8s (accR (ps.take n) n (pAt ps n).2 pre)).length = 32 by rw [u8s_length, HAx.out.1])
    clear hg6 hI
    gi_wp2_with (first | (refine istep_load (.round l) wD rfl rfl HG6.out (u8s (pG (ps.take n) (n - 1 - x)).2) HLx.out (by exact List.take_of_length_le (by rw [show (pc (pG (ps.take n) (n - 1 - x))).drop 2 = u8s (pG (ps.take n) (n - 1 - x)).2 from rfl, HLx.out]; omega)) ?_) | (refine istep_loadA (.round l) wD rfl rfl HI.out.c5 HLa.out ?_))
    refine ⟨trivial, (calls_round (.round l) (node_any _ _ _ HPx.out.len HPx.out.byte HAx.out.1 HAx.out.2 (HK.out.below HI.out.bel HK.out.lt))).mono ?_⟩
    rintro r W1 ⟨rfl, hb1'⟩
    have HI1 := hide (HI.out.below hb1')
    have HNL := hide (show (u8s (nd (pG (ps.take n) (n - 1 - x)).2 (accR (ps.take n) n (pAt ps n).2 pre))).length = 32 by rw [u8s_length, nd_length])
    gi_wp2_with (refine istep_storeA (.round l) wD rfl rfl rfl HI1.out.c5 HNL.out (One.u8 _) HLa.out ?_)
    intro W2 hg52 hbut2
    gi_wp2
    have hbut3 : KeepsOthers W1 W2 := keepsO_but hbut2 HI1.out.c5
    refine ⟨((keepsO_below hb1').trans hbut3).from _, KM.trans (km_below (Mine.one HI4.out.c5.lt) hsz hb1') (km_one hbut2 HI1.out.c5.lt), ⟨HI1.out.c2.but hbut2 ?_, ?_, HI1.out.bel.trans (hbut2.below hws5)⟩, ?_⟩
    · exact hg25
    · rw [accR_snoc]; exact hg52
    · rw [hbut2.size]; exact Nat.le_trans hsz hb1'.size
  case done =>
    rintro D ys W hD rfl ⟨hI, hsz⟩ hKd
    have HI := hide hI
    have HKd := hide hKd
    have HAx := hide (accR_good (ps.take n) n (List.range n) (pAt ps n).2 HPG.out.len HPG.out.byte)
    have HLa := hide (show (u8s (accR (ps.take n) n (pAt ps n).2 (List.range n))).length = 32 by rw [u8s_length, HAx.out.1])
    clear hI hKd
    go_wp2_with (first | (refine step_loadA wD rfl rfl HI.out.c5 HLa.out ?_) | (refine step_storeA wD rfl rfl rfl HI.out.c2 HLa.out (One.u8 _) rfl ?_))
    intro W5 hg2' hbut'
    go_wp2
    have hDg : D ≠ g2 := by have := HI4.out.c2.lt; omega
    have k1 : W5.heap[D]? = some (.deferred (some [])) := by rw [hbut'.block D hDg]; exact HKd.out
    have BA := (HI.out.bel.trans (hbut'.below hle2)).trans (belowK_b (w := w) (Nat.le_refl _) _ D _ (.deferred none) (by have := HI4.out.bel.size; omega) k1 rfl rfl)
    have hgF : Blk (W5.putObj D (.deferred none)) g2 34 (u8s (accR (ps.take n) n (pAt ps n).2 (List.range n))) := hg2'.kept (grownBy_putObj' _ D (.deferred none)) (fun r e => by cases e; exact ⟨_, k1, rfl⟩)
    refine ⟨by simp, .inl ⟨_, _, rfl, run_takeDeferred k1, ?_⟩⟩
    exact ⟨_, results_wide2 rfl wD _ _ rfl hgF HLa.out, rfl, BA⟩

end Go.Proofs.YtnjkjickclkmhaaDoor

/-
  A range of leaves' digests has for each part the tree's root of it; Append; the law's ranged.
-/
namespace Go.Proofs.YtnjkjickclkmhaaDoor
open Go.RowKit Go.Shelf
set_option linter.unusedVariables false

theorem hf_pow (k : Nat) (hk : k < 62) : hf (2 ^ (k + 1)) = 2 ^ k := by
  have hp := Nat.two_pow_pos k
  have hlt : 2 ^ (k + 1) < 2 ^ 64 := Nat.pow_lt_pow_right (by omega) (by omega)
  have e2 : 2 ^ (k + 1) = 2 * 2 ^ k := by rw [Nat.pow_succ]; omega
  obtain ⟨h1, h2, h3⟩ := hf_bd (2 ^ (k + 1)) (by omega) hlt
  obtain ⟨j, hj⟩ : ∃ j, hf (2 ^ (k + 1)) = 2 ^ j := ⟨_, rfl⟩
  rw [hj] at h2 h3 ⊢
  have e3 : 2 * 2 ^ j = 2 ^ (j + 1) := by rw [Nat.pow_succ]; omega
  rw [e3] at h3
  have a1 := (Nat.pow_lt_pow_iff_right (a := 2) (by omega)).1 h2
  have a2 := (Nat.pow_le_pow_iff_right (a := 2) (by omega)).1 h3
  obtain rfl : j = k := by omega
  rfl
theorem sub_halves {xs : List Int} {n s P : Nat} (h : xs.length = 32 * n) (hf' : hf (2 * P) = P) (hP : 1 ≤ P) (hs : s + 2 * P ≤ n) (hn : n < 2 ^ 62) : root (sub xs s (s + 2 * P)) = nd (root (sub xs s (s + P))) (root (sub xs (s + P) (s + 2 * P))) := by
  have hl := sub_length h (show s ≤ s + 2 * P by omega) hs
  have e0 : s + 2 * P - s = 2 * P := by omega
  rw [e0] at hl
  rw [root_node hl (by omega) (by omega), lo_eq hl, hi_eq hl, hf']
  congr 2
  · unfold sub
    rw [List.take_take, show s + P - s = P by omega, Nat.min_eq_left (by omega)]
  · unfold sub
    rw [List.drop_take, List.drop_drop]
    congr 1
    · omega
    · congr 1
      omega
/-- The root of a node's leaves. -/
def rd (xs : List Int) (n : Nat × Nat) : List Int := root (sub xs (n.2 * 2 ^ n.1) ((n.2 + 1) * 2 ^ n.1))
/-- The parts of a range of leaves. -/
def rps (xs : List Int) (b e : Nat) : List Pt := (parts b e).map fun n => (n, rd xs n)
theorem rd_join {xs : List Int} {n : Nat} (h : xs.length = 32 * n) (hn : n < 2 ^ 62) (q p : Nat × Nat) (hb : (p.2 + 1) * 2 ^ p.1 ≤ n) (hs : sib q p = true) : rd xs (p.1 + 1, p.2 / 2) = nd (rd xs q) (rd xs p) := by
  obtain ⟨k, i⟩ := q
  obtain ⟨k', j⟩ := p
  obtain ⟨h1, h2, h3⟩ := sib_iff.1 hs
  simp only at h1 h2 h3 hb
  subst h1
  subst h3
  have hp := Nat.two_pow_pos k
  have hk : k < 62 := by
    apply Nat.lt_of_not_le
    intro hl
    have a1 : 2 ^ 62 ≤ 2 ^ k := Nat.pow_le_pow_right (by omega) hl
    have a2 : 2 ^ k ≤ (i + 1 + 1) * 2 ^ k := Nat.le_mul_of_pos_left _ (by omega)
    omega
  have e1 : (i + 1) / 2 * 2 ^ (k + 1) = i * 2 ^ k := by
    rw [Nat.pow_succ, Nat.mul_comm (2 ^ k) 2, ← Nat.mul_assoc]
    congr 1
    omega
  have e2 : ((i + 1) / 2 + 1) * 2 ^ (k + 1) = i * 2 ^ k + 2 * 2 ^ k := by
    rw [Nat.add_mul, e1, Nat.pow_succ]
    omega
  have e3 : (i + 1) * 2 ^ k = i * 2 ^ k + 2 ^ k := by rw [Nat.add_mul]; omega
  have e4 : (i + 1 + 1) * 2 ^ k = i * 2 ^ k + 2 * 2 ^ k := by rw [Nat.add_mul, Nat.add_mul]; omega
  have hfp : hf (2 * 2 ^ k) = 2 ^ k := by
    have := hf_pow k hk
    rwa [Nat.pow_succ, Nat.mul_comm (2 ^ k) 2] at this
  unfold rd
  simp only
  rw [e1, e2, e3, e4]
  rw [e4] at hb
  exact sub_halves h hfp hp hb hn
theorem abutN_get : ∀ (st : List (Nat × Nat)) (s i : Nat) (q r : Nat × Nat), AbutN st s → st[i]? = some q → st[i + 1]? = some r → (r.2 + 1) * 2 ^ r.1 = q.2 * 2 ^ q.1
  | [], _, _, _, _, _, h, _ => by cases h
  | p :: st, s, 0, q, r, h, h1, h2 => by
    simp at h1 h2
    subst h1
    cases st with
    | nil => simp at h2
    | cons a st => simp at h2; subst h2; exact h.2.1
  | p :: st, s, i + 1, q, r, h, h1, h2 => abutN_get st _ i q r h.2 (by simpa using h1) (by simpa using h2)
theorem abutN_le : ∀ (st : List (Nat × Nat)) (s i : Nat) (q : Nat × Nat), AbutN st s → st[i]? = some q → (q.2 + 1) * 2 ^ q.1 ≤ s
  | [], _, _, _, _, h => by cases h
  | p :: st, s, 0, q, h, h1 => by
    simp at h1
    subst h1
    exact Nat.le_of_eq h.1
  | p :: st, s, i + 1, q, h, h1 => by
    refine Nat.le_trans (abutN_le st _ i q h.2 (by simpa using h1)) ?_
    have := h.1
    rw [Nat.add_mul] at this
    omega
theorem rps_step {xs : List Int} {n b e : Nat} (h : xs.length = 32 * n) (hn : n ≤ 2 ^ 47) (hbe : b ≤ e) (he : e < n) : putL (rps xs b e) ((0, e), dat xs e) = rps xs b (e + 1) := by
  have hm : e + 2 ^ 0 ≤ 2 ^ 48 := by
    rw [Nat.pow_zero]
    have : (2 : Nat) ^ 47 < 2 ^ 48 := by decide
    omega
  have hA := (parts_abut (e - b) b e (Nat.le_refl _) hbe (by omega)).1
  have hn62 : n < 2 ^ 62 := by
    have : (2 : Nat) ^ 47 < 2 ^ 62 := by decide
    omega
  have e0 : dat xs e = rd xs (0, e) := by
    unfold rd dat
    simp only [Nat.pow_zero, Nat.mul_one]
    have hl := sub_length h (show e ≤ e + 1 by omega) (show e + 1 ≤ n by omega)
    rw [root_one (by rw [hl]; omega)]
    unfold sub
    rw [show e + 1 - e = 1 by omega]
  have key := putS_told nd (rd xs) (fun q p => (q.2 + 1) * 2 ^ q.1 = p.2 * 2 ^ p.1 ∧ (p.2 + 1) * 2 ^ p.1 ≤ n)
    (fun q p hS hs => rd_join h hn62 q p hS.2 hs)
    (fun r q p hS hR hs => by
      obtain ⟨s1, s2, s3⟩ := sib_iff.1 hs
      obtain ⟨p1, p2⟩ := p
      obtain ⟨q1, q2⟩ := q
      simp only at s1 s2 s3 hS hR ⊢
      subst s1
      subst s3
      have c1 : (q2 + 1) / 2 * 2 ^ (q1 + 1) = q2 * 2 ^ q1 := by
        rw [Nat.pow_succ, Nat.mul_comm (2 ^ q1) 2, ← Nat.mul_assoc]
        congr 1
        omega
      have c2 : ((q2 + 1) / 2 + 1) * 2 ^ (q1 + 1) = (q2 + 1 + 1) * 2 ^ q1 := by
        rw [Nat.add_mul, c1, Nat.pow_succ, Nat.add_mul, Nat.add_mul]
        omega
      rw [c1, c2]
      exact ⟨hR.1, hS.2⟩)
    (parts b e).reverse (0, e)
    (fun q hq => by
      cases hst : (parts b e).reverse with
      | nil => rw [hst] at hq; cases hq
      | cons a st =>
        rw [hst] at hq hA
        simp at hq
        subst hq
        simp only [Nat.pow_zero, Nat.mul_one]
        exact ⟨hA.1, by omega⟩)
    (fun i q r h1 h2 => ⟨abutN_get _ _ i q r hA h1 h2, Nat.le_trans (abutN_le _ _ i q hA h1) (by omega)⟩)
  have kp := parts_put (e - b) b e 0 (Nat.le_refl _) hbe (by simp) hm
  rw [Nat.pow_zero, Nat.div_one] at kp
  unfold putL rps
  rw [← List.map_reverse, e0, key, ← List.map_reverse, kp]

set_option maxRecDepth 100000 in
set_option maxHeartbeats 400000 in
theorem app_ok (B g b e : Nat) (v : Value) (ps : List Pt) (d : List Int) (w : World) (hr : Rg w B g b e v ps) (hB : B ≤ w.heap.size) (hk : KT w) (hkg : 2 < g) (hkB : 2 < B) (hm : e + 1 ≤ 281474976710656) (hdl : d.length = 32) (hdb : isB d) :
    Calls Tryd.prog 12 #[.pointer (some ⟨g, 0, none⟩), .agg (u8s d).toArray] w fun r w' => ∃ v', r = .returned (.int .i64 0) ∧ Rg w' B g b (e + 1) v' (putL ps ((0, e), d)) ∧ Chs (Foot g v) w w' ∧ (∀ k, v'.ownBlock = some k → v.ownBlock = some k ∨ w.heap.size ≤ k) := by
  have HL := hide (show (u8s d).length = 32 by rw [u8s_length, hdl])
  have HA := hide (fun (w1 : World) (hb : Below w.heap.size w w1) => appN_ok B g b e 0 v ps d w1 (hr.below hb) (Nat.le_trans hB hb.size) (hk.below hb hk.lt) hkg hkB (by omega) (by simp) (by simpa using hm) hdl hdb)
  clear hr hk hB hdl hdb hm
  go_enter Tryd.func12, Tryd.ntmps12
  go_wp2_with (refine step_box rfl rfl ?_)
  intro w1 g1 hg1 hle1 hb1
  have HG := hide hg1
  clear hg1
  go_wp2_with (refine step_loadA wD rfl rfl HG.out HL.out ?_)
  refine (HA.out _ hb1).mono ?_
  rintro r w2 ⟨v', rfl, hr2, hc2, hn2⟩
  rw [Nat.pow_zero, Nat.div_one] at hr2
  have R2 := hide hr2
  clear hr2
  go_wp2
  go_ret
  exact ⟨v', rfl, R2.out, ((Chs.refl _ _).thenBelow hb1).trans hc2, fun k hk => (hn2 k hk).imp id (fun h => Nat.le_trans hb1.size h)⟩

end Go.Proofs.YtnjkjickclkmhaaDoor

/-
  The root out of a range's parts is the tree's; Root of a range, whatever its parts.
-/
namespace Go.Proofs.YtnjkjickclkmhaaDoor
open Go.RowKit Go.Shelf
set_option linter.unusedVariables false

theorem rf_cons (p : Pt) (ps : List Pt) (h : ps ≠ []) : rf (p :: ps) = nd p.2 (rf ps) := by
  cases ps with
  | nil => exact absurd rfl h
  | cons q ps => rfl
theorem accR_rf (ps : List Pt) (n : Nat) (hn : ps.length = n + 1) : ∀ k, k ≤ n → accR (ps.take n) n (pAt ps n).2 (List.range k) = rf (ps.drop (n - k))
  | 0, _ => by
    have e : ps.drop n = [pAt ps n] := by
      rw [List.drop_eq_getElem_cons (by omega), List.drop_of_length_le (by omega)]
      simp [pAt, List.getD, hn]
    rw [Nat.sub_zero, e]
    rfl
  | k + 1, hk => by
    rw [List.range_succ, accR_snoc, accR_rf ps n hn k (by omega)]
    have e1 : pG (ps.take n) (n - 1 - k) = pAt ps (n - 1 - k) := by
      unfold pG
      rw [if_pos (by rw [List.length_take]; omega)]
      simp only [pAt, List.getD, List.getElem?_take]
      rw [if_pos (by omega)]
    have e2 : n - (k + 1) = n - 1 - k := by omega
    have e3 : ps.drop (n - (k + 1)) = pAt ps (n - 1 - k) :: ps.drop (n - k) := by
      rw [e2, List.drop_eq_getElem_cons (by omega)]
      have e4 : n - 1 - k + 1 = n - k := by omega
      rw [e4]
      congr 1
      simp only [pAt, List.getD]
      rw [List.getElem?_eq_getElem (by omega)]
      rfl
    have hne : ps.drop (n - k) ≠ [] := by
      intro e
      have := congrArg List.length e
      simp at this
      omega
    rw [e3, rf_cons _ _ hne, e1]
theorem accR_all (ps : List Pt) (n : Nat) (hn : ps.length = n + 1) : accR (ps.take n) n (pAt ps n).2 (List.range n) = rf ps := by
  rw [accR_rf ps n hn n (Nat.le_refl _), Nat.sub_self, List.drop_zero]

theorem rps_step0 {xs : List Int} {b e k : Nat} (h : IsLev b (e - b) k) (he : e ≤ 2 ^ 48) : rps xs b e = ((k, b / 2 ^ k), rd xs (k, b / 2 ^ k)) :: rps xs (b + 2 ^ k) e := by
  unfold rps
  rw [parts_step h he]
  rfl
theorem rd_at {xs : List Int} {b k : Nat} (h : 2 ^ k ∣ b) : rd xs (k, b / 2 ^ k) = root (sub xs b (b + 2 ^ k)) := by
  unfold rd
  simp only
  rw [Nat.add_mul, Nat.div_mul_cancel h, Nat.one_mul]
theorem rps_root {xs : List Int} {n : Nat} (h : xs.length = 32 * n) (hn : n ≤ 2 ^ 47) (m : Nat) : ∀ b e : Nat, 2 ^ m ∣ b → b < e → e ≤ b + 2 ^ m → e ≤ n → rf (rps xs b e) = root (sub xs b e) := by
  induction m using Nat.strongRecOn with
  | ind m ih =>
    intro b e hd hlt hle hen
    have h48 : e ≤ 2 ^ 48 := by
      have : (2 : Nat) ^ 47 ≤ 2 ^ 48 := by decide
      omega
    have hk := lv_isLev (b := b) (n := e - b) (by omega) (by omega)
    rw [rps_step0 hk h48]
    generalize lv b (e - b) = k at *
    have hkl := hk.le
    have hp := Nat.two_pow_pos k
    rw [rd_at hk.dvd]
    by_cases heq : e = b + 2 ^ k
    · subst heq
      have e0 : rps xs (b + 2 ^ k) (b + 2 ^ k) = [] := by unfold rps; rw [parts_nil (Nat.le_refl _)]; rfl
      rw [e0]
      rfl
    · have hkm : k < m := by
        apply Nat.lt_of_not_le
        intro hl
        have : 2 ^ m ≤ 2 ^ k := Nat.pow_le_pow_right (by omega) hl
        omega
      have ht : e < b + 2 ^ (k + 1) := by
        apply Nat.lt_of_not_le
        intro hc
        exact hk.top ⟨pow_dvd_le hd hkm, by omega⟩
      have e2 : 2 ^ (k + 1) = 2 ^ k + 2 ^ k := by rw [Nat.pow_succ]; omega
      have hne : rps xs (b + 2 ^ k) e ≠ [] := by
        unfold rps
        rw [parts_cons (by omega)]
        simp
      rw [rf_cons _ _ hne, ih k hkm (b + 2 ^ k) e (Nat.dvd_add hk.dvd (Nat.dvd_refl _)) (by omega) (by omega) hen]
      have hl := sub_length h (show b ≤ e by omega) hen
      have hn62 : n < 2 ^ 62 := by
        have : (2 : Nat) ^ 47 < 2 ^ 62 := by decide
        omega
      have hh : hf (e - b) = 2 ^ k := (hf_uniq (e - b) k (by omega) (by omega) (by omega) (by omega))
      rw [root_node hl (by omega) (by omega), lo_eq hl, hi_eq hl, hh]
      congr 2
      · unfold sub
        rw [List.take_take, show b + 2 ^ k - b = 2 ^ k by omega, Nat.min_eq_left (by omega)]
      · unfold sub
        rw [List.drop_take, List.drop_drop]
        congr 1
        · omega
        · congr 1
          omega
/-- THE RANGE's ROOT IS THE TREE's. -/
theorem rf_root {xs : List Int} {n : Nat} (h : xs.length = 32 * n) (hn : n ≤ 2 ^ 47) : rf (rps xs 0 n) = root xs := by
  by_cases h0 : 0 < n
  · have := rps_root h hn 47 0 n (Nat.dvd_zero _) h0 (by omega) (Nat.le_refl _)
    rw [this]
    congr 1
    unfold sub
    rw [Nat.mul_zero, List.drop_zero, List.take_of_length_le (by omega)]
  · obtain rfl : n = 0 := by omega
    have e0 : rps xs 0 0 = [] := by unfold rps; rw [parts_nil (Nat.le_refl _)]; rfl
    rw [e0, root_zero (by omega)]
    rfl
theorem rf_good : ∀ {ps : List Pt}, GoodL ps → (rf ps).length = 32 ∧ isB (rf ps)
  | [], _ => ⟨emp_length, emp_isB⟩
  | [p], h => ⟨(h p (List.mem_cons_self ..)).len, (h p (List.mem_cons_self ..)).byte⟩
  | p :: q :: ps, h => ⟨nd_length _ _, nd_isB _ _⟩

set_option maxRecDepth 100000 in
set_option maxHeartbeats 1000000 in
theorem rroot_none (B g e : Nat) (v : Value) (w : World) (hr : Rg w B g 0 e v []) (hk : KT w) :
    Calls Tryd.prog 26 #[.pointer (some ⟨g, 0, none⟩)] w fun r w' => r = .returned (.tuple #[.agg (u8s emp).toArray, .int .i64 0]) ∧ Below w.heap.size w w' := by
  have HR := hide hr
  have HK := hide hk
  have HML := hide (show (u8s emp).length = 32 by rw [u8s_length, emp_length])
  obtain ⟨a0, q0, rfl⟩ : ∃ a c, v = Value.slice a 0 c := by rcases hr.own.lies with ⟨rfl, _⟩ | ⟨_, _, _, rfl, _⟩ <;> exact ⟨_, _, rfl⟩
  clear hr hk
  go_enter Tryd.func26, Tryd.ntmps26
  go_wp2_with (refine step_alloc zD rfl ?_)
  intro w1 g2 hg2 hle2 hb1
  have G2 := hide hg2
  have R1 := hide (HR.out.below hb1)
  have c0 : w1.cell? ⟨g, 0, none⟩ = some (.bool true) := by rw [R1.out.blk.cell]; rfl
  have c1 : w1.cell? ⟨g, 1, none⟩ = some (.int .i64 0) := by rw [R1.out.blk.cell]; rfl
  have c3 : w1.cell? ⟨g, 3, none⟩ = some (.slice a0 0 q0) := by rw [R1.out.blk.cell]; rfl
  clear hg2
  go_wp2_with (go_at_call 18; refine (made_is _ _ c0).mono ?_; rintro e w' ⟨rfl, rfl⟩)
  refine (empty_any _ (HK.out.below hb1 HK.out.lt)).mono ?_
  rintro r w3 ⟨rfl, hb3⟩
  have G3 := hide (G2.out.below hb3 G2.out.lt)
  go_wp2_with (refine step_storeA wD rfl rfl rfl G3.out HML.out (One.u8 _) rfl ?_; intro w4 hg4 hbut4)
  refine bodyPost_ret (results_wide2 rfl wD _ _ rfl hg4 HML.out) rfl ⟨rfl, ?_⟩
  exact (hb1.trans (hb3.mono hb1.size)).trans (hbut4.below hle2)
theorem rroot_off (B g b e : Nat) (v : Value) (ps : List Pt) (w : World) (hr : Rg w B g b e v ps) (hb : b ≠ 0) :
    Calls Tryd.prog 26 #[.pointer (some ⟨g, 0, none⟩)] w fun r w' => r = .returned (.tuple #[.agg (u8s (zer 32)).toArray, .int .i64 40]) ∧ Below w.heap.size w w' := by
  have HR := hide hr
  have hb0 : ¬ ((b : Int) = 0) := by omega
  clear hr
  go_enter Tryd.func26, Tryd.ntmps26
  go_wp2_with (refine step_alloc zD rfl ?_)
  intro w1 g2 hg2 hle2 hb1
  have G2 := hide hg2
  have R1 := hide (HR.out.below hb1)
  have c0 : w1.cell? ⟨g, 0, none⟩ = some (.bool true) := by rw [R1.out.blk.cell]; rfl
  have c1 : w1.cell? ⟨g, 1, none⟩ = some (.int .i64 (b : Int)) := by rw [R1.out.blk.cell]; rfl
  clear hg2
  go_wp2_with (first | (go_at_call 18; refine (made_is _ _ c0).mono ?_; rintro e w' ⟨rfl, rfl⟩) | (refine step_buildD rfl ?_) | (refine step_storeA wD rfl rfl rfl G2.out rfl (One.u8 _) rfl ?_; intro w2 hg2 hbut))
  refine bodyPost_ret (results_wide2 rfl wD _ _ rfl hg2 rfl) rfl ⟨rfl, ?_⟩
  exact hb1.trans (hbut.below hle2)
/-- Root of a range from 0 on. -/
theorem rroot_any (B g e : Nat) (v : Value) (ps : List Pt) (w : World) (hr : Rg w B g 0 e v ps) (hk : KT w) :
    Calls Tryd.prog 26 #[.pointer (some ⟨g, 0, none⟩)] w fun r w' => r = .returned (.tuple #[.agg (u8s (rf ps)).toArray, .int .i64 0]) ∧ Below w.heap.size w w' := by
  cases hps : ps with
  | nil => subst hps; exact rroot_none B g e v w hr hk
  | cons p qs =>
    have hn : ps.length = qs.length + 1 := by rw [hps]; rfl
    have := rroot_some B g e qs.length v ps w hr hn hk
    rw [accR_all ps _ hn] at this
    rw [← hps]
    exact this

end Go.Proofs.YtnjkjickclkmhaaDoor

/-
  The document's Root of a range.
-/
namespace Go.Proofs.YtnjkjickclkmhaaDoor
open Go.RowKit Go.Shelf
set_option linter.unusedVariables false

theorem drop_pG {ps : List Pt} {k : Nat} (hk : k < ps.length) : ps.drop k = pG ps k :: ps.drop (k + 1) := by
  rw [List.drop_eq_getElem_cons hk]
  unfold pG
  rw [if_pos hk]
  simp [pAt, List.getD, hk]
theorem rf_step {ps : List Pt} {k : Nat} (hk : k + 1 < ps.length) : rf (ps.drop k) = nd (pG ps k).2 (rf (ps.drop (k + 1))) := by
  rw [drop_pG (by omega), rf_cons _ _ (fun e => by have := congrArg List.length e; simp at this; omega)]
theorem rf_last {ps : List Pt} {k : Nat} (hk : k + 1 = ps.length) : rf (ps.drop k) = (pG ps k).2 := by
  rw [drop_pG (by omega), List.drop_of_length_le (by omega)]
  rfl
theorem goodL_drop {ps : List Pt} (h : GoodL ps) (k : Nat) : GoodL (ps.drop k) := fun p hp => h p (List.mem_of_mem_drop hp)
theorem refRoot_off (b e : Nat) (a0 : Option Addr) (n0 q0 : Nat) (w : World) (hb : b ≠ 0) :
    Calls Tryd.prog 27 #[.agg (rfC b e (.slice a0 n0 q0)).toArray] w fun r w' => r = .returned (.tuple #[.agg (u8s (zer 32)).toArray, .int .i64 40]) ∧ Below w.heap.size w w' := by
  have hb0 : ¬ ((b : Int) = 0) := by omega
  go_enter Tryd.func27, Tryd.ntmps27
  go_wp2_with (refine step_box (cs := rfC b e (.slice a0 n0 q0)) rfl rfl ?_)
  intro w1 g1 hg1 hle1 hb1
  go_wp2_with (refine step_alloc zD rfl ?_)
  intro w2 g2 hg2 hle2 hb2
  have HB2 := hide (hb1.trans (hb2.mono hb1.size))
  have HG1 := hide (hg1.below hb2 hg1.lt)
  have HG2 := hide hg2
  have hw2 : w.heap.size ≤ g2 := Nat.le_trans hb1.size hle2
  have cb : w2.cell? ⟨g1, 0, none⟩ = some (.int .i64 ((b : Nat) : Int)) := by rw [HG1.out.cell]; rfl
  have ce : w2.cell? ⟨g1, 1, none⟩ = some (.int .i64 (e : Int)) := by rw [HG1.out.cell]; rfl
  clear hg1 hg2 hb1 hb2 hle1 hle2
  go_wp2_with (first | (refine step_buildD rfl ?_) | (refine step_storeA wD rfl rfl rfl HG2.out rfl (One.u8 _) rfl ?_; intro w3 hg3 hbut))
  refine bodyPost_ret (results_wide2 rfl wD _ _ rfl hg3 rfl) rfl ⟨rfl, ?_⟩
  exact HB2.out.trans (hbut.below hw2)
theorem refRoot_none (a0 : Option Addr) (n0 q0 : Nat) (w : World) :
    Calls Tryd.prog 27 #[.agg (rfC 0 0 (.slice a0 n0 q0)).toArray] w fun r w' => r = .returned (.tuple #[.agg (u8s emp).toArray, .int .i64 0]) ∧ Below w.heap.size w w' := by
  obtain ⟨e, HE⟩ : ∃ e : Nat, Hid (e = 0) := ⟨0, hide rfl⟩
  have he : (e : Int) = 0 := by have := HE.out; omega
  have HEL := hide (show (u8s emp).length = 32 by rw [u8s_length, emp_length])
  rw [show rfC 0 0 (.slice a0 n0 q0) = rfC (0 : Nat) (e : Int) (.slice a0 n0 q0) by rw [he]; rfl]
  go_enter Tryd.func27, Tryd.ntmps27
  go_wp2_with (refine step_box (cs := rfC 0 e (.slice a0 n0 q0)) rfl rfl ?_)
  intro w1 g1 hg1 hle1 hb1
  go_wp2_with (refine step_alloc zD rfl ?_)
  intro w2 g2 hg2 hle2 hb2
  have HB2 := hide (hb1.trans (hb2.mono hb1.size))
  have HG1 := hide (hg1.below hb2 hg1.lt)
  have HG2 := hide hg2
  have hw2 : w.heap.size ≤ g2 := Nat.le_trans hb1.size hle2
  have cb : w2.cell? ⟨g1, 0, none⟩ = some (.int .i64 ((0 : Nat) : Int)) := by rw [HG1.out.cell]; rfl
  have ce : w2.cell? ⟨g1, 1, none⟩ = some (.int .i64 (e : Int)) := by rw [HG1.out.cell]; rfl
  clear hg1 hg2 hb1 hb2 hle1 hle2
  go_wp2_with fail
  refine (emptyR_any _).mono ?_
  rintro r w3 ⟨rfl, hb3⟩
  have HG3 := hide (HG2.out.below hb3 HG2.out.lt)
  have HB3 := hide (HB2.out.trans (hb3.mono HB2.out.size))
  clear hb3
  go_wp2_with (refine step_storeA wD rfl rfl rfl HG3.out HEL.out (One.u8 _) rfl ?_; intro w4 hg4 hbut)
  refine bodyPost_ret (results_wide2 rfl wD _ _ rfl hg4 HEL.out) rfl ⟨rfl, ?_⟩
  exact HB3.out.trans (hbut.below hw2)

/-- What the loop of the document's Root keeps. -/
structure RT (w W : World) (g1 g2 g5 B e : Nat) (v : Value) (ps : List Pt) (k : Nat) : Prop where
  c1 : Blk W g1 29 (rfC (0 : Nat) e v)
  c2 : Blk W g2 34 (u8s (zer 32))
  c5 : Blk W g5 34 (u8s (rf (ps.drop k)))
  own : Rf5 W B 0 e v ps
  bel : Below w.heap.size w W
theorem RT.below {w W W' : World} {g1 g2 g5 B e : Nat} {v : Value} {ps : List Pt} {k : Nat} (h : RT w W g1 g2 g5 B e v ps k) (hb : Below W.heap.size W W') : RT w W' g1 g2 g5 B e v ps k :=
  ⟨h.c1.below hb h.c1.lt, h.c2.below hb h.c2.lt, h.c5.below hb h.c5.lt, h.own.below hb, h.bel.trans (hb.mono h.bel.size)⟩
theorem aux_n1 {n m : Nat} (h : n = m + 1) (hm : m ≤ 98) : wrap64 ((n : Int) - 1) = (m : Int) ∧ wrap64 ((n : Int) - 2) = (m : Int) - 1 ∧ IntKind.i64.wrap ((n : Int) - 1) = (m : Int) ∧ IntKind.i64.wrap ((n : Int) - 2) = (m : Int) - 1 := by
  rw [IntKind.wrap_i64, IntKind.wrap_i64]
  unfold wrap64
  omega
set_option maxRecDepth 100000 in
set_option maxHeartbeats 4000000 in
theorem refRoot_ok (B e : Nat) (a0 : Option Addr) (n0 q0 : Nat) (ps : List Pt) (w : World) (hr : Rf5 w B 0 e (.slice a0 n0 q0) ps) (he : 0 < e) :
    Calls Tryd.prog 27 #[.agg (rfC (0 : Nat) e (.slice a0 n0 q0)).toArray] w fun r w' => r = .returned (.tuple #[.agg (u8s (rf ps)).toArray, .int .i64 0]) ∧ Below w.heap.size w w' := by
  have HR := hide hr
  have he0 : ¬ (e : Int) = 0 := by omega
  obtain ⟨m, HM⟩ : ∃ m, Hid (ps.length = m + 1) := by
    have := congrArg List.length hr.nodes
    rw [List.length_map, parts_cons he, List.length_cons] at this
    exact ⟨ps.length - 1, hide (by omega)⟩
  have hm98 : m ≤ 98 := by
    have h1 := parts_98 0 e hr.max
    have h2 := congrArg List.length hr.nodes
    rw [List.length_map] at h2
    have := HM.out
    omega
  obtain ⟨lb, rfl, hn0⟩ : ∃ lb, a0 = some ⟨lb, 0, none⟩ ∧ n0 = ps.length := by
    obtain ⟨_, h2⟩ := hr.own
    rcases h2 with ⟨e1, h0⟩ | ⟨g, cap, cur, e1, _⟩
    · have := HM.out; omega
    · injection e1 with e1 e3; exact ⟨g, e1, e3⟩
  have HN := hide (hn0.trans HM.out)
  have hlb : lb < w.heap.size := (hr.own.slt lb rfl).2
  obtain ⟨hv1, hv2, hi1, hi2⟩ := aux_n1 HN.out hm98
  clear hr hn0
  go_enter Tryd.func27, Tryd.ntmps27
  go_wp2_with (refine step_box (cs := rfC 0 e (.slice (some ⟨lb, 0, none⟩) n0 q0)) rfl rfl ?_)
  intro w1 g1 hg1 hle1 hb1
  go_wp2_with (refine step_alloc zD rfl ?_)
  intro w2 g2 hg2 hle2 hb2
  have HB2 := hide (hb1.trans (hb2.mono hb1.size))
  have HG1 := hide (hg1.below hb2 hg1.lt)
  have HG2 := hide hg2
  have hw2 : w.heap.size ≤ g2 := Nat.le_trans hb1.size hle2
  have cb : w2.cell? ⟨g1, 0, none⟩ = some (.int .i64 ((0 : Nat) : Int)) := by rw [HG1.out.cell]; rfl
  have ce : w2.cell? ⟨g1, 1, none⟩ = some (.int .i64 (e : Int)) := by rw [HG1.out.cell]; rfl
  clear hg1 hg2 hb1 hb2 hle1 hle2
  have c2 : w2.cell? ⟨g1, 2, none⟩ = some (.slice (some ⟨lb, 0, none⟩) n0 q0) := by rw [HG1.out.cell]; rfl
  have HRG : Hid (∀ (V : World) (j : Nat), j ≤ m → Rf5 V B 0 e (.slice (some ⟨lb, 0, none⟩) n0 q0) ps → V.rangeAt lb (0 + 32 * j) (u8s (pG ps j).2)) := hide (fun V j hj h => by
    obtain ⟨Y, hY1, hY2⟩ := flat_at h.good (k := j) (by have := HM.out; omega)
    have h1 := h.own
    rw [hY1, ← (show n0 = ps.length by have := HN.out; have := HM.out; omega)] at h1
    exact h1.range (by rw [hY2, Nat.zero_add]))
  have hix := d_at lb 0 n0 q0 m (m : Int) rfl (by have := HN.out; omega)
  have HLm := hide (show (u8s (pG ps m).2).length = 32 by rw [u8s_length, (pG_good HR.out.good m).len])
  simp only [Nat.zero_add] at hix
  have HR0 : Hid (w2.rangeAt lb (32 * m) (u8s (pG ps m).2)) := hide (by
    have h := HRG.out w2 m (Nat.le_refl _) (HR.out.below HB2.out)
    rwa [Nat.zero_add] at h)
  go_wp2_with (first | (refine step_loadR wD rfl rfl (u8s (pG ps m).2) HR0.out HLm.out ?_) | (refine step_alloc zD rfl ?_))
  intro w3 g5 hg5 hle5 hb5
  go_wp2_with (refine step_storeA wD rfl rfl rfl hg5 HLm.out (One.u8 _) rfl ?_)
  intro w4 hg54 hbut5
  have hw5 : w.heap.size ≤ g5 := Nat.le_trans HB2.out.size hle5
  have hn1 : g1 ≠ g5 := by have := HG1.out.lt; omega
  have hn2 : g2 ≠ g5 := by have := HG2.out.lt; omega
  have hbb := below_boxed hb5 hle5 hbut5
  have I0 : Hid (RT w w4 g1 g2 g5 B e (.slice (some ⟨lb, 0, none⟩) n0 q0) ps m) := hide ⟨HG1.out.below hbb HG1.out.lt, HG2.out.below hbb HG2.out.lt, by rw [rf_last HM.out.symm]; exact hg54, (HR.out.below HB2.out).below hbb, HB2.out.trans (hbb.mono HB2.out.size)⟩
  clear hg5 hle5 hb5 hg54 hbut5 hbb HG1 HG2 HB2 cb ce c2 hix hv1 hi1
  go_wp2_with fail
  clear hv2 hi2
  go_loopw [6] (fun i wr => ∃ k : Nat, i = .int .i64 ((k : Int) - 1) ∧ k ≤ m ∧ Hid (RT w wr g1 g2 g5 B e (.slice (some ⟨lb, 0, none⟩) n0 q0) ps k)) (fun i _ => (intOf i + 1).toNat)
  case atStart => exact ⟨m, rfl, Nat.le_refl _, I0⟩
  case round =>
    clear I0
    obtain ⟨k, rfl, hkm, HI⟩ := hrel
    rcases k with _ | j
    · have HL0 := hide (show (u8s (rf ps)).length = 32 by rw [u8s_length, (rf_good HR.out.good).1])
      have C5 : Hid (Blk wr g5 34 (u8s (rf ps))) := hide HI.out.c5
      go_wp2_with (first | (refine step_loadA wD rfl rfl C5.out HL0.out ?_) | (refine step_storeA wD rfl rfl rfl HI.out.c2 HL0.out (One.u8 _) rfl ?_; intro w5 hg6 hbut))
      refine bodyPost_ret (results_wide2 rfl wD _ _ rfl hg6 HL0.out) rfl ⟨rfl, ?_⟩
      exact HI.out.bel.trans (hbut.below hw2)
    · have hj1 : (((j + 1 : Nat) : Int) - 1) = (j : Int) := by omega
      rw [hj1]
      clear hj1
      have hj0 : (0 : Int) ≤ (j : Int) := by omega
      have hjw : wrap64 ((j : Int) - 1) = (j : Int) - 1 := by unfold wrap64; omega
      have hjn : j < n0 := by have := HN.out; omega
      obtain ⟨dD, huD, hdD⟩ := wD.und
      have HPG := hide (pG_good HR.out.good j)
      have HRF := hide (rf_good (goodL_drop HR.out.good (j + 1)))
      have HLF := hide (show (u8s (rf (ps.drop (j + 1)))).length = 32 by rw [u8s_length, HRF.out.1])
      have HLN := hide (show (u8s (nd (pG ps j).2 (rf (ps.drop (j + 1))))).length = 32 by rw [u8s_length, nd_length])
      have HS : Hid (∀ (V : World) (k' : Nat), RT w V g1 g2 g5 B e (.slice (some ⟨lb, 0, none⟩) n0 q0) ps k' → V.cell? ⟨g1, 2, none⟩ = some (.slice (some ⟨lb, 0, none⟩) n0 q0) ∧ V.rangeAt lb (0 + 32 * j) (u8s (pG ps j).2)) := hide (fun V k' h => ⟨by rw [h.c1.cell]; rfl, HRG.out V j (by omega) h.own⟩)
      go_wp2_with fail
      refine wp_region_noPanic ?_
      have HI1 := hide (HI.out.below ((Below.refl wr.heap.size wr).drew))
      refine wp_region_held_drew (S := fun V : World => V.cell? ⟨g1, 2, none⟩ = some (.slice (some ⟨lb, 0, none⟩) n0 q0) ∧ V.rangeAt lb (0 + 32 * j) (u8s (pG ps j).2)) (by kernel_rfl) (HS.out _ _ HI1.out) (fun hHeld => ?_)
      refine takeH 0 30 (.pointer (some ⟨g1, 2, none⟩)) hHeld rfl rfl (by kernel_rfl) (by kernel_rfl) (by kernel_rfl) (fun _ _ _ h => h) (Or.inl ⟨by rfl, fun w _ => by go_simp⟩) ?_
      simp only [Act.put, List.setIfInBounds_toArray, List.set_cons_zero, List.set_cons_succ]
      refine takeH 1 31 (.slice (some ⟨lb, 0, none⟩) n0 q0) hHeld rfl rfl (by kernel_rfl) (by kernel_rfl) (by kernel_rfl) (fun _ _ _ h => h) (Or.inl ⟨by rfl, fun w hw => by have hw' : w.cell? ⟨g1, 2, none⟩ = some (.slice (some ⟨lb, 0, none⟩) n0 q0) := (fun h => h.1) hw; go_simp⟩) ?_
      simp only [Act.put, List.setIfInBounds_toArray, List.set_cons_zero, List.set_cons_succ]
      refine takeH 2 32 (.int .i64 (j : Int)) hHeld rfl rfl (by kernel_rfl) (by kernel_rfl) (by kernel_rfl) (fun _ _ _ h => h) (Or.inl ⟨by rfl, fun w _ => by go_simp⟩) ?_
      simp only [Act.put, List.setIfInBounds_toArray, List.set_cons_zero, List.set_cons_succ]
      refine takeH 3 33 (.pointer (some ⟨lb, 0 + 32 * j, none⟩)) hHeld rfl rfl (by kernel_rfl) (by kernel_rfl) (by kernel_rfl) (fun _ _ _ h => h) (Or.inl ⟨by rfl, fun w _ => run_op rfl ((d_at lb 0 n0 q0 j (j : Int) rfl hjn) w)⟩) ?_
      simp only [Act.put, List.setIfInBounds_toArray, List.set_cons_zero, List.set_cons_succ]
      refine takeH 4 34 (.agg (u8s (pG ps j).2).toArray) hHeld rfl rfl (by kernel_rfl) (by kernel_rfl) (by kernel_rfl) (fun _ _ _ h => h) (yieldsIf_load_mid (by rfl) _ _ rfl lb (0 + 32 * j) rfl _ _ (fun w h => h.2) huD hdD (by rw [wD.size, u8s_length, HPG.out.len])) ?_
      simp only [Act.put, List.setIfInBounds_toArray, List.set_cons_zero, List.set_cons_succ]
      refine wpAnyH_ready (rs := [5]) (by kernel_rfl) (by simp) (AllReadyH.cons rfl (fun K hK => ?_) AllReadyH.nil)
      rw [if_pos (by rfl)]
      refine wp_loadRR wD rfl (u8s (rf (ps.drop (j + 1)))) (HI1.out.c5.range 0 _ (by rw [List.drop_zero, List.take_of_length_le (Nat.le_refl _)])) HLF.out ?_
      refine hK.out _ _ (HS.out _ _ HI1.out) (fun hHeld => ?_)
      clear hK K
      simp only [Act.put, List.setIfInBounds_toArray, List.set_cons_zero, List.set_cons_succ]
      refine wpAnyH_ready (rs := [6]) (by kernel_rfl) (by simp) (AllReadyH.cons rfl (fun K hK => ?_) AllReadyH.nil)
      rw [if_pos (by rfl)]
      go_simp
      refine (nodeR_any (pG ps j).2 (rf (ps.drop (j + 1))) _ HPG.out.len HPG.out.byte HRF.out.1 HRF.out.2).mono ?_
      rintro r W4 ⟨rfl, hb4⟩
      have HI4 := hide (HI1.out.below hb4)
      refine hK.out _ _ (HS.out _ _ HI4.out) (fun hHeld => ?_)
      clear hK K hb4
      refine wpAnyH_ready (rs := [7]) (by kernel_rfl) (by simp) (AllReadyH.cons rfl (fun K hK => ?_) AllReadyH.nil)
      rw [if_pos (by rfl)]
      refine wp_storeAA wD rfl rfl HI4.out.c5 HLN.out (One.u8 _) HLF.out ?_
      intro W5 hg6 hbut6
      have HI5 : Hid (RT w W5 g1 g2 g5 B e (.slice (some ⟨lb, 0, none⟩) n0 q0) ps j) := hide ⟨HI4.out.c1.but hbut6 hn1, HI4.out.c2.but hbut6 hn2, by rw [rf_step (by have := HM.out; omega)]; exact hg6, HI4.out.own.but hbut6 (fun e1 => absurd (show lb = g5 from Option.some.inj e1) (by omega)), HI4.out.bel.trans (hbut6.below hw5)⟩
      refine hK.out _ _ (HS.out _ _ HI5.out) (fun hHeld => ?_)
      clear hK K hg6 hbut6
      simp only [Act.put]
      refine wpAnyH_done (by kernel_rfl) ?_ _
      refine NoPanic.normal ?_
      clear HI HI1 HI4 HS hHeld
      go_wp2_with fail
      go_roundw
      case rel => exact ⟨j, by go_num, by omega, HI5⟩
      case measure => simp [intOf]
theorem refRoot_any (B e : Nat) (v : Value) (ps : List Pt) (w : World) (hr : Rf5 w B 0 e v ps) :
    Calls Tryd.prog 27 #[.agg (rfC (0 : Nat) e v).toArray] w fun r w' => r = .returned (.tuple #[.agg (u8s (rf ps)).toArray, .int .i64 0]) ∧ Below w.heap.size w w' := by
  obtain ⟨a, c, rfl⟩ := hr.slice
  by_cases he : 0 < e
  · exact refRoot_ok B e a _ c ps w hr he
  · obtain rfl : e = 0 := by omega
    have hps : ps = [] := by
      have h1 := hr.nodes
      rw [parts_nil (Nat.le_refl 0)] at h1
      exact List.map_eq_nil_iff.1 h1
    subst hps
    exact refRoot_none a _ c w

end Go.Proofs.YtnjkjickclkmhaaDoor
