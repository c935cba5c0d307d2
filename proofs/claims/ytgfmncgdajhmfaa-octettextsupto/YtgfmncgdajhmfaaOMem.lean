/-
  octet, ported from round 1 (Mem).
-/
import Derived.Test.YtgfmncgdajhmfaaOEq
import Derived.Deep.OwnRows
namespace Go.Proofs.Ytgfmncgdajhmfaa
open Go.RowKit
set_option linter.unusedVariables false

theorem info5c : (Try.prog.info? 5).map (·.size) = some 1 := by kernel_rfl

/-- Noughts. -/
def zer (n : Nat) : List Int := List.replicate n 0
theorem zer_length (n : Nat) : (zer n).length = n := by simp [zer]
theorem zer_isB (n : Nat) : isB (zer n) := by intro x hx; simp [zer] at hx; omega
theorem made_zer (n : Nat) : madeCells #[Value.int .u8 0] n = bs (zer n) := by
  apply Array.toList_inj.1
  rw [toList_madeCells_one]
  simp [bs, zer]

/-- Another world in which only block g has turned. -/
structure But (g : Nat) (w w' : World) : Prop where
  os : w'.os = w.os
  tape : w'.tape = w.tape
  output : w'.output = w.output
  size : w'.heap.size = w.heap.size
  block : ∀ k, k ≠ g → w'.heap[k]? = w.heap[k]?
theorem But.refl (g : Nat) (w : World) : But g w w := ⟨rfl, rfl, rfl, rfl, fun _ _ => rfl⟩
theorem But.trans {g : Nat} {a b c : World} (h : But g a b) (k : But g b c) : But g a c :=
  ⟨k.os.trans h.os, k.tape.trans h.tape, k.output.trans h.output, k.size.trans h.size, fun i hi => (k.block i hi).trans (h.block i hi)⟩
theorem But.setCell (w : World) (g i : Nat) (v : Value) : But g w (w.setCell ⟨g, i, none⟩ v) :=
  ⟨rfl, rfl, rfl, by simp [World.setCell], fun k hk => heap_setCell_other w ⟨g, i, none⟩ k v hk⟩
theorem But.setRow (w : World) (g : Nat) (cs : Array Value) : But g w (w.setRow g cs) :=
  ⟨rfl, rfl, rfl, by simp, fun k hk => setRow_other w g k cs hk⟩
theorem But.below {g B : Nat} {w w' : World} (h : But g w w') (hB : B ≤ g) : Below B w w' :=
  ⟨h.os, h.tape, h.output, Nat.le_of_eq h.size.symm, fun k hk => h.block k (by omega)⟩
theorem Row.but {g k : Nat} {w w' : World} {t : TypeId} {xs : List Int} (h : Row w k t xs) (hb : But g w w') (hk : k ≠ g) : Row w' k t xs := h.other (fun i hi => hb.block i hi) hk

/-- A slice whose cells lie in no block g. -/
def Apart (g : Nat) (a : Option Addr) : Prop := ∀ x, a = some x → x.block ≠ g
theorem Sl.but {g : Nat} {w w' : World} {a : Option Addr} {len cap : Nat} {xs : List Int} (h : Sl w a len cap xs) (hb : But g w w') (hk : 0 < len → Apart g a) : Sl w' a len cap xs := by
  obtain ⟨h1, h2, h3, h4, h5, h6, h7⟩ := h
  refine ⟨h1, h2, h3, h4, h5, h6, fun h => ?_⟩
  obtain ⟨b, off, e, hc⟩ := h7 h
  refine ⟨b, off, e, fun i hi => ?_⟩
  rw [World.cell?_of_block (w := w) (hb.block b (hk h ⟨b, off, none⟩ e))]
  exact hc i hi
theorem Sl.lt {w : World} {a : Option Addr} {len cap : Nat} {xs : List Int} (h : Sl w a len cap xs) (h0 : 0 < len) : ∀ x, a = some x → x.block < w.heap.size := by
  intro x hx
  obtain ⟨b, off, e, hc⟩ := h.hcell h0
  have := World.block_lt_of_cell? w _ (hc 0 h0)
  rw [e] at hx
  cases hx
  exact this
theorem Sl.apart {w : World} {a : Option Addr} {len cap g : Nat} {xs : List Int} (h : Sl w a len cap xs) (hg : w.heap.size ≤ g) : 0 < len → Apart g a := fun h0 x hx => by
  have := h.lt h0 x hx
  omega

section
variable {dst : Option Tmp} {ty : TypeId} {pos : String} {aft : Array Edge} {gd : Option (Nat × Bool)} {ops : Array Oper} {rest : List Oper} {a : Act} {w : World} {Q : Exit → Act → World → Prop}

/-- make of a slice of bytes. -/
theorem step_make {l c : Operand} {L C : Int} (n : Nat) (hw : Region.wanted ⟨dst, .makeSlice 22 l c, ty, pos, aft, gd⟩ (yielded ops a.tmps) = true)
    (hl : a.eval l = .int .i64 L) (hc : a.eval c = .int .i64 C) (hL : L = (n : Int)) (hC : C = (n : Int)) (hn : n ≤ 281474976710656)
    (h : ∀ w1 g, Row w1 g 5 (zer n) → w.heap.size ≤ g → Below w.heap.size w w1 → wpList Try.prog ops Q rest (a.put dst (.slice (some ⟨g, 0, none⟩) n n)) w1) :
    wpList Try.prog ops Q (⟨dst, .makeSlice 22 l c, ty, pos, aft, gd⟩ :: rest) a w := by
  obtain ⟨i0, hi, hz0, hz1, hz2⟩ := info_parts info5b
  subst hL hC
  refine step_run hw (.slice (some ⟨w.heap.size, 0, none⟩) n n) (w.alloc (.cells (bs (zer n)) 5)) ?_ (h _ _ (Row.made _ _ _) (Nat.le_refl _) ((Below.refl _ _).alloc (Nat.le_refl _) _))
  have hr := run_make_row (P := Try.prog) 22 5 i0 (.int .u8 0) Try.underlying22 hi hz0 hz1 rfl .i64 .i64 n (by rw [hz2]; omega) (by omega) w
  rw [made_zer] at hr
  simp [execOp, hl, hc, hr, Result.andThen]

theorem wp_copyB {o : Oper} {K : Act → World → Prop} {d s : Operand} (ho : o.op = .call { callee := .builtin .copy, args := #[d, s], argTypes := #[22, 22] })
    {dp sa : Option Addr} {dLen dCap m c : Nat} {ys : List Int} (hd : a.eval d = .slice dp dLen dCap) (hs : a.eval s = .slice sa m c) (hy : Sl w sa m c ys)
    (g off k : Nat) (hk : k = min m dLen) {t : TypeId} {xs : List Int} (hg : Row w g t xs) (hdp : 0 < k → dp = some ⟨g, off, none⟩) (hfit : off + k ≤ xs.length)
    (h : ∀ w1, Row w1 g t (splice xs off (ys.take k)) → But g w w1 → K (a.put o.dst (goInt k)) w1) : Oper.wp Try.prog o a w K Q := by
  have hkm : k ≤ m := by omega
  have hk' : k = Nat.min m dLen := hk
  have hlen : (ys.take k).length = k := by
    have := hy.hlen
    rw [List.length_take]; omega
  by_cases h0 : k = 0
  · have hrun := run_copy_none (P := Try.prog) w 22 22 o.type 5 dp sa dLen dCap m c Try.underlying22 info5c (by rw [← hk']; exact h0)
    unfold Oper.wp
    simp [execOp, ho, resolve, invoke, builtin, hd, hs, hrun, Result.andThen]
    have hx : splice xs off (ys.take k) = xs := by rw [h0]; simp [splice]
    have h' := h w (by rw [hx]; exact hg) (But.refl _ _)
    rw [h0] at h'
    exact h'
  · have hp := hdp (by omega)
    subst hp
    obtain ⟨b, o', e, hc⟩ := hy.hcell (by omega)
    subst e
    have hrun := run_copy_row (P := Try.prog) w 22 22 o.type 5 g off dLen dCap ⟨b, o', none⟩ m c (bs xs) t ((ys.take k).map (Value.int .u8)) Try.underlying22 info5c hg (by rw [List.length_map, hlen]; exact hk')
      (by
        intro j v hj
        have hjl : j < k := by
          have := (List.getElem?_eq_some_iff.1 hj).1
          rwa [List.length_map, hlen] at this
        have hjm : j < m := by omega
        rw [Addr.add_lit, hc j hjm]
        have e2 : ((ys.take k).map (Value.int .u8))[j]? = some (.int .u8 (ys.getD j 0)) := by
          rw [List.getElem?_map, List.getElem?_take, if_pos hjl]
          simp [List.getD, hy.hlen, hjm]
        rw [e2] at hj
        exact hj)
      (by rw [List.length_map, hlen, bs_size]; exact hfit) (bs_one _)
    have e3 : ((bs xs).toList.take off ++ (ys.take k).map (Value.int .u8) ++ (bs xs).toList.drop (off + ((ys.take k).map (Value.int .u8)).length)).toArray = bs (splice xs off (ys.take k)) := by
      simp [bs, splice, List.map_take, List.map_drop]
    have e4 : ((ys.take k).map (Value.int .u8)).length = k := by rw [List.length_map, hlen]
    rw [e3, e4] at hrun
    unfold Oper.wp
    simp [execOp, ho, resolve, invoke, builtin, hd, hs, hrun, Result.andThen]
    exact h _ (hg.setRow _) (But.setRow _ _ _)

/-- copy, one step of a list of operations. -/
theorem step_copy {d s : Operand} {dp sa : Option Addr} {dLen dCap m c : Nat} {ys : List Int}
    (hw : Region.wanted ⟨dst, .call { callee := .builtin .copy, args := #[d, s], argTypes := #[22, 22] }, ty, pos, aft, gd⟩ (yielded ops a.tmps) = true)
    (hd : a.eval d = .slice dp dLen dCap) (hs : a.eval s = .slice sa m c) (hy : Sl w sa m c ys)
    (g off k : Nat) (hk : k = min m dLen) {t : TypeId} {xs : List Int} (hg : Row w g t xs) (hdp : 0 < k → dp = some ⟨g, off, none⟩) (hfit : off + k ≤ xs.length)
    (h : ∀ w1, Row w1 g t (splice xs off (ys.take k)) → But g w w1 → wpList Try.prog ops Q rest (a.put dst (goInt k)) w1) :
    wpList Try.prog ops Q (⟨dst, .call { callee := .builtin .copy, args := #[d, s], argTypes := #[22, 22] }, ty, pos, aft, gd⟩ :: rest) a w :=
  BigFrame.wpList_want hw fun K hK => wp_copyB rfl hd hs hy g off k hk hg hdp hfit fun w1 h1 h2 => hK _ _ (h w1 h1 h2)

/-- copy, one step of a region that draws its order. -/
theorem rstep_copy {K : Act → World → Prop} {E : Prop} {o : Oper} (hgd : o.guard = none) {d s : Operand} (ho : o.op = .call { callee := .builtin .copy, args := #[d, s], argTypes := #[22, 22] })
    {dp sa : Option Addr} {dLen dCap m c : Nat} {ys : List Int} (hd : a.eval d = .slice dp dLen dCap) (hs : a.eval s = .slice sa m c) (hy : Sl w sa m c ys)
    (g off k : Nat) (hk : k = min m dLen) {t : TypeId} {xs : List Int} (hg : Row w g t xs) (hdp : 0 < k → dp = some ⟨g, off, none⟩) (hfit : off + k ≤ xs.length)
    (h : ∀ w1, Row w1 g t (splice xs off (ys.take k)) → But g w w1 → K (a.put o.dst (goInt k)) w1) :
    if Region.wanted o (yielded ops a.tmps) = true then Oper.wp Try.prog o a w K Q else E := by
  have hw : Region.wanted o (yielded ops a.tmps) = true := by simp [Region.wanted, hgd]
  rw [if_pos hw]
  exact wp_copyB ho hd hs hy g off k hk hg hdp hfit h
end

end Go.Proofs.Ytgfmncgdajhmfaa
