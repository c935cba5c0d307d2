/-
  Bytes of the call's own that are written over; bytes as texts; what the laws of frame have in common.
-/
import Derived.Test.YtbkhlbaamjccjaaDoorFcr
namespace Go.Proofs.YtbkhlbaamjccjaaDoor
open Go.RowKit
set_option linter.unusedVariables false
set_option linter.unusedSimpArgs false

theorem str_5aW (xs : List Int) : str xs ++ { data := #[90] } = str (xs ++ [90]) := (str_append xs [90])
theorem one_slW (w : World) (x : Int) (hx : 0 ≤ x ∧ x ≤ 255) : Sl (w.alloc (.cells #[.int .u8 x] 5)) (some ⟨w.heap.size, 0, none⟩) 1 1 [x] :=
  (Blk.made w 5 (u8s [x])).sl0 (by intro y hy; simp at hy; omega) (by simp)
theorem Own.but {w w' : World} {B k : Nat} {v : Value} {xs : List Int} (h : Own w B v xs) (hb : But k w w') (hk : v.ownBlock ≠ some k) : Own w' B v xs := by
  obtain ⟨h1, h2⟩ := h
  refine ⟨h1, ?_⟩
  rcases h2 with h2 | ⟨g, cap, cur, e, hg, hh, r⟩
  · exact .inl h2
  · refine .inr ⟨g, cap, cur, e, hg, ?_, r⟩
    subst e
    rw [hb.block g (fun e => hk (by rw [← e]; rfl))]
    exact hh
/-- Only the block of a slice of the call's own has turned, if any. -/
def Spo (v : Value) (w w' : World) : Prop := w' = w ∨ ∃ g, v.ownBlock = some g ∧ But g w w'
theorem Spo.own {w w' : World} {B B2 : Nat} {u v : Value} {xs ys : List Int} (h : Spo v w w') (hv : ∀ k, v.ownBlock = some k → k < B2) (ho : Own w B2 u ys) : Own w' B2 u ys := by
  rcases h with rfl | ⟨g, hg, hb⟩
  · exact ho
  · refine ho.but hb fun e => ?_
    have h1 := hv g hg
    have h2 := ho.lt g e
    omega
theorem Spo.below {w0 w w' : World} {v : Value} (h : Spo v w w') (hv : ∀ k, v.ownBlock = some k → w0.heap.size ≤ k) (hb : Below w0.heap.size w0 w) : Below w0.heap.size w0 w' := by
  rcases h with rfl | ⟨g, hg, hbut⟩
  · exact hb
  · exact hb.trans (hbut.below (hv g hg))
theorem Spo.sl {w w' : World} {B : Nat} {v : Value} (h : Spo v w w') (hv : ∀ k, v.ownBlock = some k → B ≤ k) {a : Option Addr} {len cap : Nat} {xs : List Int} (hs : Sl w a len cap xs) (ha : 0 < len → ∀ x, a = some x → x.block < B) : Sl w' a len cap xs := by
  rcases h with rfl | ⟨g, hg, hbut⟩
  · exact hs
  · exact hs.but hbut fun h0 x hx e => by have := ha h0 x hx; have := hv g hg; omega
theorem spoil_any (v : Value) (xs : List Int) (B : Nat) (w : World) (ho : Own w B v xs) (hn : xs.length ≤ 281474976710656) :
    Calls Tryd.prog 17 #[v] w fun e w' => e = .returned (.tuple #[]) ∧ Spo v w w' := by
  have h2 := ho.2
  rcases h2 with ⟨e, hx⟩ | ⟨g, cap, cur, e, _⟩
  · subst e
    exact (spoilL_nil 0 none w).mono fun _ _ h => ⟨h.1, .inl h.2⟩
  · subst e
    exact (spoilL_own g xs.length cap xs B w ho rfl hn).mono fun _ _ h => ⟨h.1, .inr ⟨g, rfl, h.2⟩⟩
theorem Own.lt2 {w : World} {B : Nat} {v : Value} {xs : List Int} (h : Own w B v xs) : ∀ k, v.ownBlock = some k → k < w.heap.size := fun k hk => (World.ownsRow.lt h k hk).2
theorem Chg.of_grown {g : Nat} {w w' : World} (h : w.grownBy w' (some g)) : Chg g w w' := ⟨h.os, h.tape, h.output, h.size, fun k hk hg => h.block k hk (fun e => hg (Option.some.inj e))⟩
theorem Own.mono {w : World} {B B' : Nat} {v : Value} {xs : List Int} (h : Own w B v xs) (hb : B' ≤ B) : Own w B' v xs := by
  obtain ⟨h1, h2⟩ := h
  refine ⟨h1, ?_⟩
  rcases h2 with h2 | ⟨g, cap, cur, e, hg, r⟩
  · exact .inl h2
  · exact .inr ⟨g, cap, cur, e, Nat.le_trans hb hg, r⟩
theorem toStrO {w : World} {B : Nat} {a : Option Addr} {n cap : Nat} {xs : List Int} (h : Own w B (.slice a n cap) xs) : (convert 23 9 (.slice a n cap)).run Tryd.prog w = .ok (.string (str xs)) w := by
  rcases h.2 with ⟨e, hx⟩ | ⟨g, cap', cur, e, hB, hh, h3, h4, h5, h6⟩
  · injection e with e1 e2 e3
    subst e1
    obtain rfl : xs = [] := List.eq_nil_of_length_eq_zero hx
    exact run_convert_bytes_nil w 23 5 undBs undB n cap 9 undS
  · injection e with e1 e2 e3
    subst e1 e2 e3
    refine run_convert_bytes_arg w 23 5 undBs undB g 0 xs.length cap xs rfl (fun i hi => ?_) 9 undS
    rw [Nat.zero_add, cell_of_row w g i cur 5 (0, 0) hh]
    have e : (cur.toList.take (xs.length * 1))[i]? = some (.int .u8 (xs.getD i 0)) := by rw [h6]; exact u8s_get xs i hi
    rw [List.getElem?_take, if_pos (by omega)] at e
    simpa using e
section
variable {dst : Option Tmp} {ty : TypeId} {pos : String} {aft : Array Edge} {gd : Option (Nat × Bool)} {ops : Array Oper} {rest : List Oper} {a : Act} {w : World} {K : Act → World → Prop} {Q : Exit → Act → World → Prop}
theorem step_toStrO {x : Operand} {sa : Option Addr} {m c B : Nat} {ys : List Int} (hw : Region.wanted ⟨dst, .convert 23 9 x, ty, pos, aft, gd⟩ (yielded ops a.tmps) = true)
    (hx : a.eval x = .slice sa m c) (hy : Own w B (.slice sa m c) ys) (h : wpList Tryd.prog ops Q rest (a.put dst (.string (str ys))) w) :
    wpList Tryd.prog ops Q (⟨dst, .convert 23 9 x, ty, pos, aft, gd⟩ :: rest) a w :=
  step_run hw (.string (str ys)) w (by simp [execOp, hx, toStrO hy, Result.andThen]) h
theorem wp_toStrO {x : Operand} {sa : Option Addr} {m c B : Nat} {ys : List Int} (hx : a.eval x = .slice sa m c) (hy : Own w B (.slice sa m c) ys) (h : K (a.put dst (.string (str ys))) w) :
    Oper.wp Tryd.prog ⟨dst, .convert 23 9 x, ty, pos, aft, gd⟩ a w K Q :=
  wp_runV (.string (str ys)) w (by simp [execOp, hx, toStrO hy, Result.andThen]) h
theorem run_addS {x y : Operand} {p q : ByteArray} {xs ys : List Int} (hx : a.eval x = .string p) (hy : a.eval y = .string q) (ex : p = str xs) (ey : q = str ys) (hl : xs.length + ys.length ≤ 9223372036854775807) :
    (execOp a.eval ⟨dst, .binOp .add 9 x y 9, ty, pos, aft, gd⟩).run Tryd.prog w = .ok (.value (.string (str (xs ++ ys)))) w := by
  subst ex ey
  have h1 : ¬ 9223372036854775807 < (str xs).size + (str ys).size := by rw [str_size, str_size]; omega
  unfold execOp
  simp only [hx, hy]
  simp [go_sem, h1]
  rw [str_append]
end

end Go.Proofs.YtbkhlbaamjccjaaDoor
