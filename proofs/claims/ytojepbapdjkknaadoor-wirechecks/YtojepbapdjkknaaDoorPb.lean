/-
  A slice of one digest made; slices of digests of the call's own, once more; the document's path.
-/
import Derived.Test.YtojepbapdjkknaaDoorDa
import Derived.Test.YtojepbapdjkknaaDoorBu
import Derived.Great.BuildSlice
namespace Go.Proofs.YtojepbapdjkknaaDoor
open Go.RowKit
set_option linter.unusedVariables false

theorem DOwn.base {w : World} {B B' : Nat} {v : Value} {n : Nat} {xs : List Int} (h : DOwn w B v n xs) (hB : B' ≤ B) : DOwn w B' v n xs := by
  obtain ⟨h1, h2⟩ := h
  refine ⟨h1, ?_⟩
  rcases h2 with h2 | ⟨g, cap, cur, e, hg, r⟩
  · exact .inl h2
  · exact .inr ⟨g, cap, cur, e, Nat.le_trans hB hg, r⟩
theorem splD_all (xs : List Int) (h : xs.length = 32) : spl (u8s (zer 32)) (u8s xs) 0 = u8s xs := by
  unfold spl
  rw [List.drop_of_length_le (by rw [u8s_length, u8s_length, zer_length]; omega)]
  simp
theorem build_D (ds : List Int) (hd : ds.length = 32) (w : World) :
    (Instr.buildSlice 22 1 #[(0, .agg (u8s ds).toArray)]).run Tryd.prog w = .ok (.slice (some ⟨w.heap.size, 0, none⟩) 1 1) (w.alloc (.cells (u8s ds).toArray 45)) := by
  obtain ⟨i0, hi, hz0, hz1, hz2⟩ := info_parts infoD
  refine run_buildSlice w 22 45 1 _ _ i0 _ undDl hi hz0 (by rw [hz1]; decide) (by rw [hz1]; decide) ?_
  rw [hz1]
  have e0 : ((Array.range (1 * 32)).map ((Value.agg (u8s (zer 32)).toArray).cells[· % (Value.agg (u8s (zer 32)).toArray).cells.size]!)) = (u8s (zer 32)).toArray := by kernel_rfl
  rw [e0]
  show Instr.fill _ _ [(0, Value.agg (u8s ds).toArray)] = _
  rw [fill_cons (place := fun i => some (i * 32, 32)) (off := 0) (size := 32) (vs := u8s ds) rfl rfl (by rw [u8s_length, hd]) (by rw [u8s_length, zer_length]; omega), fill_nil, splD_all ds hd]
section
variable {dst : Option Tmp} {ty : TypeId} {pos : String} {aft : Array Edge} {gd : Option (Nat × Bool)} {a : Act} {w : World} {K : Act → World → Prop} {Q : Exit → Act → World → Prop}
set_option maxRecDepth 100000 in
theorem wp_oneD {x : Operand} {ds : List Int} (hx : a.eval x = .agg (u8s ds).toArray) (hd : ds.length = 32) (hb : isB ds) (h : ∀ w1 g, Ds w1 (some ⟨g, 0, none⟩) 1 1 ds → Below w.heap.size w w1 → K (a.put dst (.slice (some ⟨g, 0, none⟩) 1 1)) w1) :
    Oper.wp Tryd.prog ⟨dst, .buildSlice 22 1 #[(0, x)], ty, pos, aft, gd⟩ a w K Q := by
  have hs := (Blk.made w 45 (u8s ds)).sl0 hb (by omega)
  rw [hd] at hs
  refine wp_runV (.slice (some ⟨w.heap.size, 0, none⟩) 1 1) (w.alloc (.cells (u8s ds).toArray 45)) ?_ (h _ _ ⟨Nat.le_refl _, by omega, (fun e => by cases e), hs⟩ ((Below.refl _ _).alloc (Nat.le_refl _) _))
  unfold execOp
  simp only [List.map_toArray, List.map_cons, List.map_nil, hx]
  simp only [Sem.run_bind, build_D ds hd, Result.andThen_ok, Sem.run_pure]
end

theorem wp_appendDG {dst : Option Tmp} {s x : Operand} {ty : TypeId} {pos : String} {aft : Array Edge} {gd : Option (Nat × Bool)} {K : Act → World → Prop} {a : Act} {w : World} {Q : Exit → Act → World → Prop}
    {B : Nat} {v : Value} {n : Nat} {xs : List Int} {sa : Option Addr} {m c : Nat} {ys : List Int}
    (hs : a.eval s = v) (hx : a.eval x = .slice sa m c) (hown : DOwn w B v n xs) (hy : Ds w sa m c ys) (hlen : n + m ≤ 4398046511104) (hB : B ≤ w.heap.size)
    (h : ∀ v' w', DOwn w' B v' (n + m) (xs ++ ys) → w.grownBy w' v.ownBlock → K (a.put dst v') w') :
    Oper.wp Tryd.prog ⟨dst, .call { callee := .builtin .append, args := #[s, x], argTypes := #[22, 22] }, ty, pos, aft, gd⟩ a w K Q :=
  wp_appendD rfl hs hx hown hy hlen hB h


end Go.Proofs.YtojepbapdjkknaaDoor
