/-
  Texts one behind the other: Bu Pb Nw Vh Vr Vd Vw Vt Vf Wn Wg Wp Wq Wk We Wr Wx Wf Wy Wz Bw ShA.
-/
import Derived.Test.YtojepbapdjkknaaDoorMc
import Derived.Laws.Tables
import Derived.Test.YtojepbapdjkknaaDoorDa
import Derived.Great.BuildSlice
import Derived.Test.YtojepbapdjkknaaDoorSc
import Derived.Laws.Bits64
import Derived.Deep.AppendLies
import Derived.Test.YtojepbapdjkknaaDoorHf
import Derived.Test.YtojepbapdjkknaaDoorBl
import Derived.Deep.LoopGhost
import Derived.Test.YtojepbapdjkknaaDoorOd
import Derived.Test.YtojepbapdjkknaaDoorRn
import Derived.Test.YtojepbapdjkknaaDoorEn
import Derived.Laws.MakeOwn
import Derived.Defers
import Derived.Recover
import Derived.Test.YtojepbapdjkknaaDoorYQb
import Derived.Lib.ItoaMem
import Derived.Lib.ItoaLen
import Derived.Test.YtojepbapdjkknaaDoorProg
import Derived.Test.YtojepbapdjkknaaDoorPlain
import Derived.Shelf.Strings.BuilderK
import Derived.Shelf.Strings.Builder1
import Derived.Shelf.Small.Bits
import Derived.Shelf.Strings.BuilderF
import Derived.Shelf.Strconv.Itoa0
import Derived.Shelf.Strconv.Itoa1
import Derived.Shelf.LaysM
import Derived.Shelf.Strconv.Itoa2
import Derived.Shelf.Strconv.Itoa3

/-
  Structs that are built out of parts of many cells.
-/
namespace Go.Proofs.YtojepbapdjkknaaDoor
open Go.RowKit
set_option linter.unusedVariables false

theorem fold_spl (off : Nat) : ∀ (vs : List Value) (k : Nat) (cs : List Value), off + k + vs.length ≤ cs.length →
    (vs.zipIdx k).foldl (fun (a : Array Value) (x : Value × Nat) => a.setIfInBounds (off + x.2) x.1) cs.toArray = (spl cs vs (off + k)).toArray
  | [], k, cs, _ => by simp [spl]
  | v :: r, k, cs, h => by
    rw [List.length_cons] at h
    rw [List.zipIdx_cons, List.foldl_cons]
    have e : cs.toArray.setIfInBounds (off + k) v = (cs.set (off + k) v).toArray := by simp
    show List.foldl _ (cs.toArray.setIfInBounds (off + k) v) (r.zipIdx (k + 1)) = _
    rw [e, fold_spl off r (k + 1) _ (by rw [List.length_set]; omega), ← Nat.add_assoc off k 1, spl_cons cs v r (off + k) (by omega)]

theorem fill_cons {place : Nat → Option (Nat × Nat)} {i off size : Nat} {cs vs : List Value} {v : Value} {rest : List (Nat × Value)} (hp : place i = some (off, size)) (hv : v.cells = vs.toArray) (hs : vs.length = size) (hb : off + size ≤ cs.length) :
    Instr.fill place cs.toArray ((i, v) :: rest) = Instr.fill place (spl cs vs off).toArray rest := by
  subst hs
  have hc : ¬ ((v.cells.size ≠ vs.length || off + v.cells.size > cs.toArray.size) = true) := by
    rw [hv]
    simp
    omega
  rw [Instr.fill, hp]
  show (if (v.cells.size ≠ vs.length || off + v.cells.size > cs.toArray.size) = true then none else _) = _
  rw [if_neg hc, hv]
  congr 1
  rw [← Array.foldl_toList]
  have := fold_spl off vs 0 cs (by omega)
  rw [Nat.add_zero] at this
  simpa using this
theorem fill_nil {place : Nat → Option (Nat × Nat)} {cs : Array Value} : Instr.fill place cs [] = some cs := rfl

/-- What is known of a struct's type: its zero cells, and where its parts lie. -/
def Rec (T : TypeId) (zs : List Value) (pl : List (Nat × Nat)) : Prop := ∀ parts, Tryd.prog.built T parts = Instr.fill (fun i => pl.toArray[i]?) zs.toArray parts

end Go.Proofs.YtojepbapdjkknaaDoor

/-
  A slice of one digest made; slices of digests of the call's own, once more; the document's path.
-/
namespace Go.Proofs.YtojepbapdjkknaaDoor
open Go.RowKit
set_option linter.unusedVariables false

theorem DOwn.base {w : World} {B B' : Nat} {v : Value} {n : Nat} {xs : List Int} (h : DOwn w B v n xs) (hB : B' ≤ B) : DOwn w B' v n xs := by
  obtain ⟨h1, h2⟩ := h
  refine ⟨h1, ?_⟩
  rcases h2 with h2 | ⟨g, cap, cur, e, hg, r⟩
  · exact .inl h2
  · exact .inr ⟨g, cap, cur, e, Nat.le_trans hB hg, r⟩
theorem splD_all (xs : List Int) (h : xs.length = 32) : spl (u8s (zer 32)) (u8s xs) 0 = u8s xs := by
  unfold spl
  rw [List.drop_of_length_le (by rw [u8s_length, u8s_length, zer_length]; omega)]
  simp
theorem build_D (ds : List Int) (hd : ds.length = 32) (w : World) :
    (Instr.buildSlice 22 1 #[(0, .agg (u8s ds).toArray)]).run Tryd.prog w = .ok (.slice (some ⟨w.heap.size, 0, none⟩) 1 1) (w.alloc (.cells (u8s ds).toArray 45)) := by
  obtain ⟨i0, hi, hz0, hz1, hz2⟩ := info_parts infoD
  refine run_buildSlice w 22 45 1 _ _ i0 _ undDl hi hz0 (by rw [hz1]; decide) (by rw [hz1]; decide) ?_
  rw [hz1]
  have e0 : ((Array.range (1 * 32)).map ((Value.agg (u8s (zer 32)).toArray).cells[· % (Value.agg (u8s (zer 32)).toArray).cells.size]!)) = (u8s (zer 32)).toArray := by kernel_rfl
  rw [e0]
  show Instr.fill _ _ [(0, Value.agg (u8s ds).toArray)] = _
  rw [fill_cons (place := fun i => some (i * 32, 32)) (off := 0) (size := 32) (vs := u8s ds) rfl rfl (by rw [u8s_length, hd]) (by rw [u8s_length, zer_length]; omega), fill_nil, splD_all ds hd]
section
variable {dst : Option Tmp} {ty : TypeId} {pos : String} {aft : Array Edge} {gd : Option (Nat × Bool)} {a : Act} {w : World} {K : Act → World → Prop} {Q : Exit → Act → World → Prop}
set_option maxRecDepth 100000 in
theorem wp_oneD {x : Operand} {ds : List Int} (hx : a.eval x = .agg (u8s ds).toArray) (hd : ds.length = 32) (hb : isB ds) (h : ∀ w1 g, Ds w1 (some ⟨g, 0, none⟩) 1 1 ds → Below w.heap.size w w1 → K (a.put dst (.slice (some ⟨g, 0, none⟩) 1 1)) w1) :
    Oper.wp Tryd.prog ⟨dst, .buildSlice 22 1 #[(0, x)], ty, pos, aft, gd⟩ a w K Q := by
  have hs := (Blk.made w 45 (u8s ds)).sl0 hb (by omega)
  rw [hd] at hs
  refine wp_runV (.slice (some ⟨w.heap.size, 0, none⟩) 1 1) (w.alloc (.cells (u8s ds).toArray 45)) ?_ (h _ _ ⟨Nat.le_refl _, by omega, (fun e => by cases e), hs⟩ ((Below.refl _ _).alloc (Nat.le_refl _) _))
  unfold execOp
  simp only [List.map_toArray, List.map_cons, List.map_nil, hx]
  simp only [Sem.run_bind, build_D ds hd, Result.andThen_ok, Sem.run_pure]
end

theorem wp_appendDG {dst : Option Tmp} {s x : Operand} {ty : TypeId} {pos : String} {aft : Array Edge} {gd : Option (Nat × Bool)} {K : Act → World → Prop} {a : Act} {w : World} {Q : Exit → Act → World → Prop}
    {B : Nat} {v : Value} {n : Nat} {xs : List Int} {sa : Option Addr} {m c : Nat} {ys : List Int}
    (hs : a.eval s = v) (hx : a.eval x = .slice sa m c) (hown : DOwn w B v n xs) (hy : Ds w sa m c ys) (hlen : n + m ≤ 4398046511104) (hB : B ≤ w.heap.size)
    (h : ∀ v' w', DOwn w' B v' (n + m) (xs ++ ys) → w.grownBy w' v.ownBlock → K (a.put dst v') w') :
    Oper.wp Tryd.prog ⟨dst, .call { callee := .builtin .append, args := #[s, x], argTypes := #[22, 22] }, ty, pos, aft, gd⟩ a w K Q :=
  wp_appendD rfl hs hx hown hy hlen hB h


end Go.Proofs.YtojepbapdjkknaaDoor

/-
  Laws on operations of a region and on results of two parts, where the seat knows no bytes (else Sc has them).
-/
namespace Go.Proofs.YtojepbapdjkknaaDoor
open Go.RowKit
set_option linter.unusedVariables false

theorem cell_kept {w w' : World} {x : Addr} {v : Value} (h : w.cell? x = some v) (hb : Below w.heap.size w w') : w'.cell? x = some v := by
  rw [hb.cell (World.block_lt_of_cell? w _ h)]; exact h
/-- The cells of a pair of numbers. -/
def c2 (a b : Int) : List Value := [.int .i64 a, .int .i64 b]
theorem One.c2 (a b : Int) : One (c2 a b) := by intro v hv; simp [Go.Proofs.YtojepbapdjkknaaDoor.c2] at hv; rcases hv with rfl | rfl <;> rfl
theorem Blk.two {w : World} {g : Nat} {t : TypeId} {a b : Int} (h : Blk w g t (c2 a b)) : w.cell? ⟨g, 0, none⟩ = some (.int .i64 a) ∧ w.cell? ⟨g, 1, none⟩ = some (.int .i64 b) := ⟨by rw [h.cell]; rfl, by rw [h.cell]; rfl⟩
theorem Blk.on {w w' : World} {g : Nat} {t : TypeId} {cs : List Value} (h : Blk w g t cs) (hb : Below w.heap.size w w') : Blk w' g t cs := h.below hb h.lt
theorem below_drew {n : Nat} {w w' : World} (h : Below n w w') : Below n w w'.drew := h.trans ⟨rfl, rfl, rfl, Nat.le_refl _, fun _ _ => rfl⟩
theorem below_drews {n : Nat} {w w' : World} (h : Below n w w') (k : Nat) : Below n w (w'.drewN k) := h.trans ⟨rfl, rfl, rfl, Nat.le_refl _, fun _ _ => rfl⟩

theorem Blk.grew {w w' : World} {g : Nat} {t : TypeId} {cs : List Value} {row : Option Nat} (h : Blk w g t cs) (hg : w.grownBy w' row) (hr : row ≠ some g) : Blk w' g t cs := by
  unfold Blk
  rw [hg.block g h.lt (fun e => hr e.symm)]
  exact h
/-- Blocks that hold these cells. -/
def Bs (w : World) (l : List (Nat × TypeId × List Value)) : Prop := ∀ x ∈ l, Blk w x.1 x.2.1 x.2.2
theorem Bs.nil (w : World) : Bs w [] := fun _ h => by cases h
theorem Bs.on {w w' : World} {l : List (Nat × TypeId × List Value)} (h : Bs w l) (hb : Below w.heap.size w w') : Bs w' l := fun x hx => (h x hx).on hb
theorem Bs.push {w : World} {l : List (Nat × TypeId × List Value)} {g : Nat} {t : TypeId} {cs : List Value} (h : Bs w l) (hg : Blk w g t cs) : Bs w ((g, t, cs) :: l) := fun x hx => by
  rcases List.mem_cons.1 hx with rfl | hx
  · exact hg
  · exact h x hx
theorem Bs.at {w : World} {l : List (Nat × TypeId × List Value)} (h : Bs w l) (i : Nat) {x : Nat × TypeId × List Value} (hx : l[i]? = some x) : Blk w x.1 x.2.1 x.2.2 := h x (List.mem_of_getElem? hx)
/-- A new one is made and filled. -/
theorem Bs.new {w w1 w2 : World} {l : List (Nat × TypeId × List Value)} {g : Nat} {t : TypeId} {cs : List Value} (h : Bs w l) (hb : Below w.heap.size w w1) (hle : w.heap.size ≤ g) (hg : Blk w2 g t cs) (hbut : But g w1 w2) : Bs w2 ((g, t, cs) :: l) :=
  Bs.push (fun x hx => ((h x hx).on hb).but hbut (by have := (h x hx).lt; omega)) hg
theorem new_below {w0 w w1 w2 : World} {g : Nat} (h0 : Below w0.heap.size w0 w) (hb : Below w.heap.size w w1) (hle : w.heap.size ≤ g) (hbut : But g w1 w2) : Below w0.heap.size w0 w2 :=
  (h0.trans (hb.mono h0.size)).trans (hbut.below (Nat.le_trans h0.size hle))
theorem on_below {w0 w w1 : World} (h0 : Below w0.heap.size w0 w) (hb : Below w.heap.size w w1) : Below w0.heap.size w0 w1 := h0.trans (hb.mono h0.size)

/-- The worlds that leave what lay in w as it was. -/
structure Sub (w : World) where
  v : World
  bel : Below w.heap.size w v
theorem Sub.one (w : World) : Nonempty (Sub w) := ⟨⟨w, Below.refl _ _⟩⟩
theorem Sub.cell {w : World} {x : Addr} {v : Value} (h : w.cell? x = some v) (u : Sub w) : u.v.cell? x = some v := cell_kept h u.bel
theorem sub_call {P : Program} {f : FuncId} {args : Array Value} {w : World} {u : Sub w} {v : Value} (h : Calls P f args u.v fun e w' => e = .returned v ∧ Below u.v.heap.size u.v w') :
    Calls P f args u.v fun e w'' => e = .returned v ∧ ∃ u' : Sub w, w'' = u'.v :=
  h.mono fun _ w'' ⟨he, hb⟩ => ⟨he, ⟨w'', u.bel.trans (hb.mono u.bel.size)⟩, rfl⟩
theorem wp_region_sub {P : Program} {id : Nat} {Q : Exit → Act → World → Prop} {a : Act} {w : World} {l : List Oper} (hm : P.follows .mixedOrders = true) (hB : Region.lexB .any l.toArray = true)
    (h : wpQuiet P l.toArray (fun w' => ∃ u : Sub w, w' = u.v) (fun a' => ∀ w', (∃ u : Sub w, w' = u.v) → Q .normal a' w') l a) : (Code.region id l.toArray true).wp P Q a w :=
  wp_region_quiet (C := fun w' => ∃ u : Sub w, w' = u.v) hm hB ⟨⟨w.drew, (Below.refl _ _).drew⟩, rfl⟩ (by simpa using h)

end Go.Proofs.YtojepbapdjkknaaDoor

/-
  Slices of halves (numbers of one cell) of the call's own: an element's place, one more appended, an element changed.
-/
namespace Go.Proofs.YtojepbapdjkknaaDoor
open Go.RowKit
set_option linter.unusedVariables false

/-- The cells of halves. -/
def hC (hs : List Int) : List Value := hs.map (Value.int .i64)
theorem One.hC (hs : List Int) : One (hC hs) := by intro v hv; obtain ⟨x, _, rfl⟩ := List.mem_map.1 hv; rfl
theorem hC_length (hs : List Int) : (hC hs).length = hs.length := by simp [hC]
theorem hC_at (hs : List Int) (i : Nat) (n : Int) (h : hs[i]? = some n) : (hC hs)[i]? = some (.int .i64 n) := by simp [hC, h]
theorem info_some {P : Program} {t : TypeId} {z : Option Value} {s b : Nat} (h : (P.info? t).map (fun i => (i.zero, i.size, i.bytes)) = some (z, s, b)) : ∃ i, P.info? t = some i ∧ i.zero = z ∧ i.size = s ∧ i.bytes = b := by
  cases hi : P.info? t with
  | none => simp [hi] at h
  | some i => simp [hi] at h; exact ⟨i, rfl, h.1, h.2.1, h.2.2⟩
theorem infoH : (Tryd.prog.info? 148).map (fun i => (i.zero, i.size, i.bytes)) = some (some (.int .i64 0), 1, 8) := by kernel_rfl
theorem undHl : Tryd.prog.underlying 134 = some (.slice 148) := by kernel_rfl
theorem undHs : Tryd.prog.underlying 134 = some (.slice (Tryd.prog.elem 134)) := by kernel_rfl
theorem elemH : Tryd.prog.elem 134 = 148 := by kernel_rfl
theorem sizeH (w : World) : (sizeOf 148).run Tryd.prog w = .ok 1 w := by kernel_rfl
theorem atH (b n cap i : Nat) (I : Int) (hI : I = (i : Int)) (hi : i < n) (v : World) : (Instr.indexAt 134 (.slice (some ⟨b, 0, none⟩) n cap) (.int .i64 I)).run Tryd.prog v = .ok (.pointer (some ⟨b, i, none⟩)) v := by
  subst hI
  rw [run_indexAt_slice v _ _ _ _ .i64 i undHs, if_pos ⟨by omega, by omega⟩, elemH, sizeH]
  simp only [Result.andThen_ok, Int.toNat_natCast]
  rw [Addr.add_lit, Nat.zero_add, Nat.mul_one]
/-- In a slice of the call's own. -/
def OwnH (w : World) (B : Nat) (v : Value) (ns : List Int) : Prop := w.ownsRow B 148 1 v ns.length (hC ns)
theorem OwnH.nil (w : World) (B : Nat) : OwnH w B (.slice none 0 0) [] := World.ownsRow_nil _ _ _ _
theorem OwnH.below {w w' : World} {B : Nat} {v : Value} {ns : List Int} (h : OwnH w B v ns) (hb : Below w.heap.size w w') : OwnH w' B v ns := by
  obtain ⟨h1, h2⟩ := h
  refine ⟨h1, ?_⟩
  rcases h2 with h2 | ⟨g, cap, cur, e, hg, hh, r⟩
  · exact .inl h2
  · refine .inr ⟨g, cap, cur, e, hg, ?_, r⟩
    rw [hb.block g (Array.getElem?_eq_some_iff.1 hh).1]
    exact hh
theorem OwnH.but {w w' : World} {B g : Nat} {v : Value} {ns : List Int} (h : OwnH w B v ns) (hb : But g w w') (hg : v.ownBlock ≠ some g) : OwnH w' B v ns := by
  obtain ⟨h1, h2⟩ := h
  refine ⟨h1, ?_⟩
  rcases h2 with h2 | ⟨k, cap, cur, rfl, hk, hh, r⟩
  · exact .inl h2
  · refine .inr ⟨k, cap, cur, rfl, hk, ?_, r⟩
    rw [hb.block k (fun e => hg (by rw [← e]; rfl))]
    exact hh
theorem OwnH.lower {w : World} {B B' : Nat} {v : Value} {ns : List Int} (h : OwnH w B v ns) (hB : B' ≤ B) : OwnH w B' v ns := by
  obtain ⟨h1, h2⟩ := h
  refine ⟨h1, ?_⟩
  rcases h2 with h2 | ⟨g, cap, cur, e, hg, r⟩
  · exact .inl h2
  · exact .inr ⟨g, cap, cur, e, Nat.le_trans hB hg, r⟩
theorem OwnH.lies {w : World} {B : Nat} {v : Value} {ns : List Int} (h : OwnH w B v ns) : (v = .slice none 0 0 ∧ ns = []) ∨
    ∃ g cap cs, v = .slice (some ⟨g, 0, none⟩) ns.length cap ∧ B ≤ g ∧ Blk w g 148 cs ∧ ns.length ≤ cap ∧ cap ≤ 9223372036854775807 ∧ cs.length = cap ∧ cs.take ns.length = hC ns := by
  obtain ⟨h1, h2⟩ := h
  rcases h2 with ⟨e, h0⟩ | ⟨g, cap, cur, rfl, hB, hh, h3, h4, h5, h6⟩
  · exact .inl ⟨e, List.eq_nil_of_length_eq_zero h0⟩
  · exact .inr ⟨g, cap, cur.toList, rfl, hB, by unfold Blk; simpa using hh, h3, by simpa [maxLen] using h4, by simpa using h5, by simpa using h6⟩
theorem OwnH.slice {w : World} {B : Nat} {v : Value} {ns : List Int} (h : OwnH w B v ns) : ∃ a c, v = Value.slice a ns.length c := by
  rcases h.lies with ⟨rfl, rfl⟩ | ⟨g, cap, cs, rfl, _⟩
  · exact ⟨_, _, rfl⟩
  · exact ⟨_, _, rfl⟩
theorem OwnH.mk {w : World} {B g cap : Nat} {cs : List Value} {ns : List Int} (hB : B ≤ g) (hb : Blk w g 148 cs) (hn : ns.length ≤ cap) (hc : cap ≤ 9223372036854775807) (hl : cs.length = cap) (ht : cs.take ns.length = hC ns) : OwnH w B (.slice (some ⟨g, 0, none⟩) ns.length cap) ns := by
  refine ⟨by rw [hC_length]; omega, .inr ⟨g, cap, cs.toArray, rfl, hB, by unfold Blk at hb; simpa using hb, hn, by simpa [maxLen] using hc, by simpa using hl, by simpa using ht⟩⟩
theorem OwnH.lt {w : World} {B : Nat} {v : Value} {ns : List Int} (h : OwnH w B v ns) : ∀ k, v.ownBlock = some k → B ≤ k ∧ k < w.heap.size := fun k hk => World.ownsRow.lt h k hk
theorem OwnH.cell {w : World} {B g cap : Nat} {ns : List Int} {m : Nat} (h : OwnH w B (.slice (some ⟨g, 0, none⟩) m cap) ns) (i : Nat) (n : Int) (hi : ns[i]? = some n) : w.cell? ⟨g, i, none⟩ = some (.int .i64 n) := by
  rcases h.lies with ⟨e, _⟩ | ⟨g', c, cs, e, _, hb, _, _, _, ht⟩
  · cases e
  · injection e with e1 _ _
    injection e1 with e1
    injection e1 with e1 _ _
    subst e1
    rw [hb.cell]
    have hlt : i < ns.length := (List.getElem?_eq_some_iff.1 hi).1
    have := hC_at ns i n hi
    rw [← ht, List.getElem?_take, if_pos hlt] at this
    exact this
theorem buildH (n : Int) (w : World) : (Instr.buildSlice 134 1 #[(0, .int .i64 n)]).run Tryd.prog w = .ok (.slice (some ⟨w.heap.size, 0, none⟩) 1 1) (w.alloc (.cells (hC [n]).toArray 148)) := by
  obtain ⟨i0, hi, hz0, hz1, hz2⟩ := info_some infoH
  refine run_buildSlice w 134 148 1 _ _ i0 _ undHl hi hz0 (by rw [hz1]; decide) (by rw [hz1]; decide) ?_
  rw [hz1]
  have e0 : ((Array.range (1 * 1)).map ((Value.int .i64 0).cells[· % (Value.int .i64 0).cells.size]!)) = (hC [0]).toArray := by kernel_rfl
  rw [e0]
  show Instr.fill _ _ [(0, Value.int .i64 n)] = _
  rw [fill_cons (place := fun i => some (i * 1, 1)) (off := 0) (size := 1) (vs := hC [n]) rfl rfl rfl (by decide), fill_nil]
  rfl
section
variable {dst : Option Tmp} {ty : TypeId} {pos : String} {aft : Array Edge} {gd : Option (Nat × Bool)} {ops : Array Oper} {rest : List Oper} {a : Act} {w : World} {K : Act → World → Prop} {Q : Exit → Act → World → Prop}
set_option maxRecDepth 100000 in
theorem wponeH {x : Operand} {n : Int} (hx : a.eval x = .int .i64 n) (h : ∀ w1 g, Blk w1 g 148 (hC [n]) → w.heap.size ≤ g → Below w.heap.size w w1 → K (a.put dst (.slice (some ⟨g, 0, none⟩) 1 1)) w1) :
    Oper.wp Tryd.prog ⟨dst, .buildSlice 134 1 #[(0, x)], ty, pos, aft, gd⟩ a w K Q := by
  refine wp_runV (.slice (some ⟨w.heap.size, 0, none⟩) 1 1) (w.alloc (.cells (hC [n]).toArray 148)) ?_ (h _ _ (Blk.made _ _ _) (Nat.le_refl _) ((Below.refl _ _).alloc (Nat.le_refl _) _))
  unfold execOp
  simp only [List.map_toArray, List.map_cons, List.map_nil, hx]
  simp only [Sem.run_bind, buildH n, Result.andThen_ok, Sem.run_pure]
theorem wpappH {s x : Operand} {B : Nat} {v : Value} {ns : List Int} {n : Int} {g c : Nat} (hs : a.eval s = v) (hx : a.eval x = .slice (some ⟨g, 0, none⟩) 1 c) (hown : OwnH w B v ns) (hy : Blk w g 148 (hC [n])) (hlen : ns.length ≤ 1048576) (hB : B ≤ w.heap.size)
    (h : ∀ v' w', OwnH w' B v' (ns ++ [n]) → w.grownBy w' v.ownBlock → (∀ k, v'.ownBlock = some k → v.ownBlock = some k ∨ w.heap.size ≤ k) → K (a.put dst v') w') :
    Oper.wp Tryd.prog ⟨dst, .call { callee := .builtin .append, args := #[s, x], argTypes := #[134, 134] }, ty, pos, aft, gd⟩ a w K Q := by
  obtain ⟨i0, hi, hz0, hz1, hz2⟩ := info_some infoH
  obtain ⟨g', cap', w', hr, ho, hgr, hat, hlt⟩ := run_append_lies (P := Tryd.prog) w 134 ty B 148 i0 (.int .i64 0) 1 8 undHl hi hz0 hz1 hz2 rfl (by decide) v _ _ hown ⟨g, 0, none⟩ 1 c (hC [n]) rfl (fun j u hu => by
    rw [Addr.add_lit, Nat.zero_add, hy.cell]
    exact hu) (One.hC [n]) (by decide) (by unfold maxLen; omega) (by omega) hB _ rfl
  unfold Oper.wp
  simp [execOp, resolve, invoke, builtin, hs, hx, hr, Result.andThen]
  refine h _ _ (by unfold OwnH; rw [show hC (ns ++ [n]) = hC ns ++ hC [n] by simp [hC], List.length_append]; exact ho) hgr (fun k hk => ?_)
  injection hk with hk
  subst hk
  rcases hat with hat | hat
  · exact .inl hat
  · exact .inr (Nat.le_of_eq hat.symm)
set_option maxRecDepth 100000 in
theorem steponeH {x : Operand} {n : Int} (hw : Region.wanted ⟨dst, .buildSlice 134 1 #[(0, x)], ty, pos, aft, gd⟩ (yielded ops a.tmps) = true) (hx : a.eval x = .int .i64 n) (h : ∀ w1 g, Blk w1 g 148 (hC [n]) → w.heap.size ≤ g → Below w.heap.size w w1 → wpList Tryd.prog ops Q rest (a.put dst (.slice (some ⟨g, 0, none⟩) 1 1)) w1) :
    wpList Tryd.prog ops Q (⟨dst, .buildSlice 134 1 #[(0, x)], ty, pos, aft, gd⟩ :: rest) a w :=
  BigFrame.wpList_want hw fun K hK => wponeH hx fun w1 g h1 h2 h3 => hK _ _ (h w1 g h1 h2 h3)
set_option maxRecDepth 100000 in
theorem stepappH {s x : Operand} {B : Nat} {v : Value} {ns : List Int} {n : Int} {g c : Nat} (hw : Region.wanted ⟨dst, .call { callee := .builtin .append, args := #[s, x], argTypes := #[134, 134] }, ty, pos, aft, gd⟩ (yielded ops a.tmps) = true)
    (hs : a.eval s = v) (hx : a.eval x = .slice (some ⟨g, 0, none⟩) 1 c) (hown : OwnH w B v ns) (hy : Blk w g 148 (hC [n])) (hlen : ns.length ≤ 1048576) (hB : B ≤ w.heap.size)
    (h : ∀ v' w', OwnH w' B v' (ns ++ [n]) → w.grownBy w' v.ownBlock → (∀ k, v'.ownBlock = some k → v.ownBlock = some k ∨ w.heap.size ≤ k) → wpList Tryd.prog ops Q rest (a.put dst v') w') :
    wpList Tryd.prog ops Q (⟨dst, .call { callee := .builtin .append, args := #[s, x], argTypes := #[134, 134] }, ty, pos, aft, gd⟩ :: rest) a w :=
  BigFrame.wpList_want hw fun K hK => wpappH hs hx hown hy hlen hB fun v' w' h1 h2 h3 => hK _ _ (h v' w' h1 h2 h3)
end
theorem hC_set (ns : List Int) (i : Nat) (n : Int) : (hC ns).set i (.int .i64 n) = hC (ns.set i n) := by simp [hC, List.map_set]
/-- One element is written over. -/
theorem OwnH.set {w : World} {B g cap : Nat} {ns : List Int} {m : Nat} (h : OwnH w B (.slice (some ⟨g, 0, none⟩) m cap) ns) (i : Nat) (n : Int) : OwnH (w.setCell ⟨g, i, none⟩ (.int .i64 n)) B (.slice (some ⟨g, 0, none⟩) m cap) (ns.set i n) := by
  rcases h.lies with ⟨e, _⟩ | ⟨g', c, cs, e, hB, hb, h1, h2, h3, h4⟩
  · cases e
  · injection e with e1 e2 e3
    injection e1 with e1
    injection e1 with e1 _ _
    subst e1 e2 e3
    have := OwnH.mk (ns := ns.set i n) hB (hb.set i (.int .i64 n)) (by simpa using h1) h2 (by simpa using h3) (by rw [List.length_set, List.take_set, h4, hC_set])
    rwa [List.length_set] at this
theorem OwnH.free {w : World} {B g cap : Nat} {ns : List Int} {m : Nat} (h : OwnH w B (.slice (some ⟨g, 0, none⟩) m cap) ns) (i : Nat) : w.frozen? ⟨g, i, none⟩ = false := by
  rcases h.lies with ⟨e, _⟩ | ⟨g', c, cs, e, hB, hb, h1, h2, h3, h4⟩
  · cases e
  · injection e with e1 e2 e3
    injection e1 with e1
    injection e1 with e1 _ _
    subst e1 e2 e3
    exact hb.free i

end Go.Proofs.YtojepbapdjkknaaDoor

/-
  slices.Reverse over halves of the call's own.
-/
namespace Go.Proofs.YtojepbapdjkknaaDoor
open Go.RowKit
set_option linter.unusedVariables false

def pg (ns : List Int) (t : Nat) : Int := ns.getD t 0
theorem pg_get {ns : List Int} {t : Nat} (h : t < ns.length) : ns[t]? = some (pg ns t) := by simp [pg, List.getD, h]
/-- The first k and the last k are exchanged. -/
def rvk (ns : List Int) (k : Nat) : List Int := (List.range ns.length).map fun t => if t < k ∨ ns.length ≤ t + k then pg ns (ns.length - 1 - t) else pg ns t
theorem rvk_len (ns : List Int) (k : Nat) : (rvk ns k).length = ns.length := by simp [rvk]
theorem rvk_get (ns : List Int) (k t : Nat) : (rvk ns k)[t]? = if t < ns.length then some (if t < k ∨ ns.length ≤ t + k then pg ns (ns.length - 1 - t) else pg ns t) else none := by
  unfold rvk
  by_cases h : t < ns.length
  · simp [h]
  · simp [h]
theorem rvk_zero (ns : List Int) : rvk ns 0 = ns := by
  apply List.ext_getElem?
  intro t
  rw [rvk_get]
  by_cases h : t < ns.length
  · rw [if_pos h, if_neg (by omega), pg_get h]
  · rw [if_neg h, List.getElem?_eq_none (by omega)]
theorem rvk_step (ns : List Int) (k J : Nat) (hJ : k + J + 1 = ns.length) (h : k < J) : ((rvk ns k).set k (pg ns J)).set J (pg ns k) = rvk ns (k + 1) := by
  apply List.ext_getElem?
  intro t
  rw [rvk_get, List.getElem?_set, List.getElem?_set, List.length_set, rvk_len, rvk_get]
  by_cases h1 : J = t
  · subst h1
    rw [if_pos rfl, if_pos (by omega), if_pos (by omega), if_pos (by omega), show ns.length - 1 - J = k by omega]
  · rw [if_neg h1]
    by_cases h2 : k = t
    · subst h2
      rw [if_pos rfl, if_pos (by omega), if_pos (by omega), if_pos (by omega), show ns.length - 1 - k = J by omega]
    · rw [if_neg h2]
      by_cases h3 : t < ns.length
      · rw [if_pos h3, if_pos h3]
        by_cases h4 : t < k ∨ ns.length ≤ t + k
        · rw [if_pos h4, if_pos (by omega)]
        · rw [if_neg h4, if_neg (by omega)]
      · rw [if_neg h3, if_neg h3]
theorem rvk_end (ns : List Int) (k : Nat) (h : ns.length ≤ 2 * k + 1) : rvk ns k = ns.reverse := by
  apply List.ext_getElem?
  intro t
  rw [rvk_get]
  by_cases h1 : t < ns.length
  · rw [if_pos h1, List.getElem?_reverse h1, pg_get (by omega)]
    by_cases h2 : t < k ∨ ns.length ≤ t + k
    · rw [if_pos h2]
    · rw [if_neg h2]
      congr 2
      omega
  · rw [if_neg h1, List.getElem?_eq_none (by simpa using h1)]
theorem rvk_lo (ns : List Int) (k : Nat) (h : 2 * k < ns.length) : (rvk ns k)[k]? = some (pg ns k) := by
  rw [rvk_get, if_pos (by omega), if_neg (by omega)]
theorem rvk_hi (ns : List Int) (k J : Nat) (hJ : k + J + 1 = ns.length) (h : k < J) : (rvk ns k)[J]? = some (pg ns J) := by
  rw [rvk_get, if_pos (by omega), if_neg (by omega)]

section
variable {dst : Option Tmp} {ty : TypeId} {pos : String} {aft : Array Edge} {gd : Option (Nat × Bool)} {a : Act} {w : World} {K : Act → World → Prop} {Q : Exit → Act → World → Prop}
theorem wploadH {x : Operand} {B g cap m i : Nat} {ns : List Int} {n : Int} (hx : a.eval x = .pointer (some ⟨g, i, none⟩)) (ho : OwnH w B (.slice (some ⟨g, 0, none⟩) m cap) ns) (hi : ns[i]? = some n) (h : K (a.put dst (.int .i64 n)) w) :
    Oper.wp Tryd.prog ⟨dst, .load 148 x, ty, pos, aft, gd⟩ a w K Q := by
  have hc := ho.cell i n hi
  refine wp_runV (.int .i64 n) w ?_ h
  unfold execOp
  simp only [hx]
  go_simp
theorem wpstoreH {x y : Operand} {B g cap m i : Nat} {ns : List Int} {n : Int} (hx : a.eval x = .pointer (some ⟨g, i, none⟩)) (hy : a.eval y = .int .i64 n) (ho : OwnH w B (.slice (some ⟨g, 0, none⟩) m cap) ns) (hi : i < ns.length)
    (h : ∀ w1, OwnH w1 B (.slice (some ⟨g, 0, none⟩) m cap) (ns.set i n) → But g w w1 → K (a.put dst undef) w1) : Oper.wp Tryd.prog ⟨dst, .store 148 x y, ty, pos, aft, gd⟩ a w K Q := by
  have hc := ho.cell i _ (List.getElem?_eq_getElem hi)
  have hf := ho.free i
  have H := h _ (ho.set i n) (But.setCell _ _ _ _)
  clear h
  unfold Oper.wp execOp
  simp only [hx, hy]
  go_simp
  exact H
end

set_option maxRecDepth 100000 in
set_option maxHeartbeats 1000000 in
theorem reverse_own (B g cap n : Nat) (ns : List Int) (w : World) (hn : ns.length = n) (hn2 : n ≤ 1048576) (h : OwnH w B (.slice (some ⟨g, 0, none⟩) n cap) ns) :
    Calls Tryd.prog 129 #[.slice (some ⟨g, 0, none⟩) n cap] w fun r w' => (∃ x, r = .returned x) ∧ OwnH w' B (.slice (some ⟨g, 0, none⟩) n cap) ns.reverse ∧ But g w w' := by
  have H := hide h
  have HN := hide hn
  clear h hn
  go_enter Tryd.func129, Tryd.ntmps129
  go_wp2_with fail
  go_loopw [2, 3] (fun s2 s3 wr => ∃ k : Nat, s2 = .int .i64 (k : Int) ∧ s3 = .int .i64 ((n : Int) - 1 - (k : Int)) ∧ 2 * k ≤ n + 1 ∧ Hid (OwnH wr B (.slice (some ⟨g, 0, none⟩) n cap) (rvk ns k)) ∧ Hid (But g w wr)) (fun s2 _ _ => n + 1 - (intOf s2).toNat)
  case atStart => exact ⟨0, rfl, by simp, by omega, hide (by rw [rvk_zero]; exact H.out), hide (But.refl _ _)⟩
  case round =>
    obtain ⟨k, rfl, rfl, hk2, O, BU⟩ := hrel
    by_cases hlt : 2 * k + 1 < n
    · obtain ⟨J, hJ'⟩ : ∃ J : Nat, J = n - 1 - k := ⟨_, rfl⟩
      have hj : (n : Int) - 1 - (k : Int) = (J : Int) := by omega
      rw [hj]
      have hkJ : k < J := by omega
      have hkJ' : (k : Int) < (J : Int) := by omega
      have hkn : k < n := by omega
      have hJn : J < n := by omega
      have hJ : k + J + 1 = ns.length := by rw [HN.out]; omega
      have HJ := hide hJ
      clear hJ hj hJ'
      have hJ := HJ.out
      go_wp2_with fail
      refine wp_region_held_drew (S := fun _ => True) (by kernel_rfl) trivial (fun hHeld => ?_)
      refine takeH 0 14 (.slice (some ⟨g, 0, none⟩) n cap) hHeld rfl rfl (by kernel_rfl) (by kernel_rfl) (by kernel_rfl) (fun _ _ _ h => h) (Or.inl ⟨by rfl, fun w _ => by go_simp⟩) ?_
      simp only [Act.put, List.setIfInBounds_toArray, List.set_cons_zero, List.set_cons_succ]
      refine takeH 1 15 (.int .i64 (k : Int)) hHeld rfl rfl (by kernel_rfl) (by kernel_rfl) (by kernel_rfl) (fun _ _ _ h => h) (Or.inl ⟨by rfl, fun w _ => by go_simp⟩) ?_
      simp only [Act.put, List.setIfInBounds_toArray, List.set_cons_zero, List.set_cons_succ]
      refine takeH 2 16 (.slice (some ⟨g, 0, none⟩) n cap) hHeld rfl rfl (by kernel_rfl) (by kernel_rfl) (by kernel_rfl) (fun _ _ _ h => h) (Or.inl ⟨by rfl, fun w _ => by go_simp⟩) ?_
      simp only [Act.put, List.setIfInBounds_toArray, List.set_cons_zero, List.set_cons_succ]
      refine takeH 3 17 (.int .i64 (J : Int)) hHeld rfl rfl (by kernel_rfl) (by kernel_rfl) (by kernel_rfl) (fun _ _ _ h => h) (Or.inl ⟨by rfl, fun w _ => by go_simp⟩) ?_
      simp only [Act.put, List.setIfInBounds_toArray, List.set_cons_zero, List.set_cons_succ]
      refine takeH 4 18 (.slice (some ⟨g, 0, none⟩) n cap) hHeld rfl rfl (by kernel_rfl) (by kernel_rfl) (by kernel_rfl) (fun _ _ _ h => h) (Or.inl ⟨by rfl, fun w _ => by go_simp⟩) ?_
      simp only [Act.put, List.setIfInBounds_toArray, List.set_cons_zero, List.set_cons_succ]
      refine takeH 5 19 (.int .i64 (J : Int)) hHeld rfl rfl (by kernel_rfl) (by kernel_rfl) (by kernel_rfl) (fun _ _ _ h => h) (Or.inl ⟨by rfl, fun w _ => by go_simp⟩) ?_
      simp only [Act.put, List.setIfInBounds_toArray, List.set_cons_zero, List.set_cons_succ]
      refine takeH 6 20 (.pointer (some ⟨g, J, none⟩)) hHeld rfl rfl (by kernel_rfl) (by kernel_rfl) (by kernel_rfl) (fun _ _ _ h => h) (Or.inl ⟨by rfl, fun w _ => run_op rfl ((atH g n cap J _ rfl hJn) w)⟩) ?_
      simp only [Act.put, List.setIfInBounds_toArray, List.set_cons_zero, List.set_cons_succ]
      refine takeH 8 22 (.slice (some ⟨g, 0, none⟩) n cap) hHeld rfl rfl (by kernel_rfl) (by kernel_rfl) (by kernel_rfl) (fun _ _ _ h => h) (Or.inl ⟨by rfl, fun w _ => by go_simp⟩) ?_
      simp only [Act.put, List.setIfInBounds_toArray, List.set_cons_zero, List.set_cons_succ]
      refine takeH 9 23 (.int .i64 (k : Int)) hHeld rfl rfl (by kernel_rfl) (by kernel_rfl) (by kernel_rfl) (fun _ _ _ h => h) (Or.inl ⟨by rfl, fun w _ => by go_simp⟩) ?_
      simp only [Act.put, List.setIfInBounds_toArray, List.set_cons_zero, List.set_cons_succ]
      refine takeH 10 24 (.pointer (some ⟨g, k, none⟩)) hHeld rfl rfl (by kernel_rfl) (by kernel_rfl) (by kernel_rfl) (fun _ _ _ h => h) (Or.inl ⟨by rfl, fun w _ => run_op rfl ((atH g n cap k _ rfl hkn) w)⟩) ?_
      simp only [Act.put, List.setIfInBounds_toArray, List.set_cons_zero, List.set_cons_succ]
      have O' := hide (O.out.below ((Below.refl _ _).drew))
      clear O
      have O := O'
      clear O'
      refine wpAnyH_ready (rs := [7, 11]) (by kernel_rfl) (by simp) (AllReadyH.cons rfl (fun K hK => ?_) (AllReadyH.cons rfl (fun K hK => ?_) AllReadyH.nil))
      · rw [if_pos (by rfl)]
        refine wploadH (i := J) rfl O.out (rvk_hi ns k J hJ hkJ) ?_
        refine hK.out _ _ (trivial) (fun hHeld => ?_)
        clear hK K
        simp only [Act.put, List.setIfInBounds_toArray, List.set_cons_zero, List.set_cons_succ]
        refine wpAnyH_ready (rs := [11]) (by kernel_rfl) (by simp) (AllReadyH.cons rfl (fun K hK => ?_) AllReadyH.nil)
        rw [if_pos (by rfl)]
        refine wploadH (i := k) rfl O.out (rvk_lo ns k (by omega)) ?_
        refine hK.out _ _ (trivial) (fun hHeld => ?_)
        clear hK K
        simp only [Act.put, List.setIfInBounds_toArray, List.set_cons_zero, List.set_cons_succ]
        refine takeH 12 26 (.pointer (some ⟨g, k, none⟩)) hHeld rfl rfl (by kernel_rfl) (by kernel_rfl) (by kernel_rfl) (fun _ _ _ h => h) (Or.inl ⟨by rfl, fun w _ => run_op rfl ((atH g n cap k _ rfl hkn) w)⟩) ?_
        simp only [Act.put, List.setIfInBounds_toArray, List.set_cons_zero, List.set_cons_succ]
        refine wpAnyH_ready (rs := [13]) (by kernel_rfl) (by simp) (AllReadyH.cons rfl (fun K hK => ?_) AllReadyH.nil)
        rw [if_pos (by rfl)]
        refine wpstoreH (n := pg ns J) (i := k) rfl rfl O.out (by rw [rvk_len]; omega) ?_
        intro w5 ho5 hbut5
        have O5 := hide ho5
        refine hK.out _ _ trivial (fun hHeld => ?_)
        clear hK K ho5
        refine takeH 14 27 (.pointer (some ⟨g, J, none⟩)) hHeld rfl rfl (by kernel_rfl) (by kernel_rfl) (by kernel_rfl) (fun _ _ _ h => h) (Or.inl ⟨by rfl, fun w _ => run_op rfl ((atH g n cap J _ rfl hJn) w)⟩) ?_
        simp only [Act.put, List.setIfInBounds_toArray, List.set_cons_zero, List.set_cons_succ]
        refine wpAnyH_ready (rs := [15]) (by kernel_rfl) (by simp) (AllReadyH.cons rfl (fun K hK => ?_) AllReadyH.nil)
        rw [if_pos (by rfl)]
        refine wpstoreH (n := pg ns k) (i := J) rfl rfl O5.out (by rw [List.length_set, rvk_len]; omega) ?_
        intro w6 ho6 hbut6
        refine hK.out _ _ trivial (fun hHeld => ?_)
        clear hK K
        have O6 : Hid (OwnH w6 B (.slice (some ⟨g, 0, none⟩) n cap) (rvk ns (k + 1))) := hide (by rw [← rvk_step ns k J hJ hkJ]; exact ho6)
        have BU6 := hide ((BU.out.trans (b := wr) (c := wr.drew) ⟨rfl, rfl, rfl, rfl, fun _ _ => rfl⟩).trans (hbut5.trans hbut6))
        clear ho6 hbut5 hbut6
        refine wpAnyH_done (by kernel_rfl) ?_ _
        clear hHeld
        go_wp2
        go_roundw
        case rel => exact ⟨k + 1, by simp, by have := HN.out; simp; omega, by omega, O6, BU6⟩
        case measure => simp only [intOf]; omega
      · rw [if_pos (by rfl)]
        refine wploadH (i := k) rfl O.out (rvk_lo ns k (by omega)) ?_
        refine hK.out _ _ (trivial) (fun hHeld => ?_)
        clear hK K
        simp only [Act.put, List.setIfInBounds_toArray, List.set_cons_zero, List.set_cons_succ]
        refine wpAnyH_ready (rs := [7]) (by kernel_rfl) (by simp) (AllReadyH.cons rfl (fun K hK => ?_) AllReadyH.nil)
        rw [if_pos (by rfl)]
        refine wploadH (i := J) rfl O.out (rvk_hi ns k J hJ hkJ) ?_
        refine hK.out _ _ (trivial) (fun hHeld => ?_)
        clear hK K
        simp only [Act.put, List.setIfInBounds_toArray, List.set_cons_zero, List.set_cons_succ]
        refine takeH 12 26 (.pointer (some ⟨g, k, none⟩)) hHeld rfl rfl (by kernel_rfl) (by kernel_rfl) (by kernel_rfl) (fun _ _ _ h => h) (Or.inl ⟨by rfl, fun w _ => run_op rfl ((atH g n cap k _ rfl hkn) w)⟩) ?_
        simp only [Act.put, List.setIfInBounds_toArray, List.set_cons_zero, List.set_cons_succ]
        refine wpAnyH_ready (rs := [13]) (by kernel_rfl) (by simp) (AllReadyH.cons rfl (fun K hK => ?_) AllReadyH.nil)
        rw [if_pos (by rfl)]
        refine wpstoreH (n := pg ns J) (i := k) rfl rfl O.out (by rw [rvk_len]; omega) ?_
        intro w5 ho5 hbut5
        have O5 := hide ho5
        refine hK.out _ _ trivial (fun hHeld => ?_)
        clear hK K ho5
        refine takeH 14 27 (.pointer (some ⟨g, J, none⟩)) hHeld rfl rfl (by kernel_rfl) (by kernel_rfl) (by kernel_rfl) (fun _ _ _ h => h) (Or.inl ⟨by rfl, fun w _ => run_op rfl ((atH g n cap J _ rfl hJn) w)⟩) ?_
        simp only [Act.put, List.setIfInBounds_toArray, List.set_cons_zero, List.set_cons_succ]
        refine wpAnyH_ready (rs := [15]) (by kernel_rfl) (by simp) (AllReadyH.cons rfl (fun K hK => ?_) AllReadyH.nil)
        rw [if_pos (by rfl)]
        refine wpstoreH (n := pg ns k) (i := J) rfl rfl O5.out (by rw [List.length_set, rvk_len]; omega) ?_
        intro w6 ho6 hbut6
        refine hK.out _ _ trivial (fun hHeld => ?_)
        clear hK K
        have O6 : Hid (OwnH w6 B (.slice (some ⟨g, 0, none⟩) n cap) (rvk ns (k + 1))) := hide (by rw [← rvk_step ns k J hJ hkJ]; exact ho6)
        have BU6 := hide ((BU.out.trans (b := wr) (c := wr.drew) ⟨rfl, rfl, rfl, rfl, fun _ _ => rfl⟩).trans (hbut5.trans hbut6))
        clear ho6 hbut5 hbut6
        refine wpAnyH_done (by kernel_rfl) ?_ _
        clear hHeld
        go_wp2
        go_roundw
        case rel => exact ⟨k + 1, by simp, by have := HN.out; simp; omega, by omega, O6, BU6⟩
        case measure => simp only [intOf]; omega
    · have hc : ¬ ((k : Int) < (n : Int) - 1 - (k : Int)) := by omega
      go_wp2
      refine bodyPost_end (results_none rfl _ _ _) rfl ⟨⟨_, rfl⟩, ?_, BU.out⟩
      rw [← rvk_end ns k (by rw [HN.out]; omega)]
      exact O.out

theorem reverse_nil (w : World) : Calls Tryd.prog 129 #[.slice none 0 0] w fun r w' => (∃ x, r = .returned x) ∧ w' = w := by
  go_enter Tryd.func129, Tryd.ntmps129
  go_wp2_with fail
  go_loopw [2, 3] (fun s2 s3 wr => s2 = .int .i64 0 ∧ s3 = .int .i64 (-1) ∧ wr = w) (fun _ _ _ => 0)
  case atStart => exact ⟨rfl, rfl, rfl⟩
  case round =>
    obtain ⟨rfl, rfl, rfl⟩ := hrel
    go_wp2
    exact bodyPost_end (results_none rfl _ _ _) rfl ⟨⟨_, rfl⟩, rfl⟩
theorem reverse_any (B : Nat) (v : Value) (ns : List Int) (w : World) (hn2 : ns.length ≤ 1048576) (hB : B ≤ w.heap.size) (h : OwnH w B v ns) :
    Calls Tryd.prog 129 #[v] w fun r w' => (∃ x, r = .returned x) ∧ OwnH w' B v ns.reverse ∧ Below B w w' := by
  rcases h.lies with ⟨rfl, rfl⟩ | ⟨g, cap, cs, rfl, hg, _⟩
  · refine (reverse_nil w).mono ?_
    rintro r w' ⟨hr, rfl⟩
    exact ⟨hr, h, Below.refl _ _⟩
  · refine (reverse_own B g cap ns.length ns w rfl hn2 h).mono ?_
    rintro r w' ⟨hr, ho, hbut⟩
    exact ⟨hr, ho, hbut.below hg⟩

end Go.Proofs.YtojepbapdjkknaaDoor

/-
  The way down a tree, half by half (0: the first, 1: the second): what is taken, and the part that is met. No program here.
-/
namespace Go.Proofs.YtojepbapdjkknaaDoor
open Go.RowKit
set_option linter.unusedVariables false

theorem bl48 (n : Nat) (h : 1 ≤ n) (hn : n ≤ 281474976710656) : Lib.bitLen (n - 1) ≤ 48 := bl_le (n - 1) 48 (by omega) (by decide)
/-- The halves that are taken on the way down to the leaf i, and the part that is met. -/
def dn (stop : Nat → Nat → Bool) (i : Nat) : Nat → Nat → Nat → List Int × (Nat × Nat)
  | 0, b, n => ([], (b, b + n))
  | f + 1, b, n => if stop b n then ([], (b, b + n)) else
      if i < b + hf n then (0 :: (dn stop i f b (hf n)).1, (dn stop i f b (hf n)).2)
      else (1 :: (dn stop i f (b + hf n) (n - hf n)).1, (dn stop i f (b + hf n) (n - hf n)).2)
theorem dn_stop {stop : Nat → Nat → Bool} {i b n : Nat} (h : stop b n = true) (f : Nat) : dn stop i f b n = ([], (b, b + n)) := by
  cases f with
  | zero => rfl
  | succ f => rw [dn, if_pos h]
/-- What stops by itself. -/
def Ends (stop : Nat → Nat → Bool) (i : Nat) : Prop := ∀ b n, n = 1 → b ≤ i → i < b + n → stop b n = true
theorem dn_fuel {stop : Nat → Nat → Bool} {i : Nat} (hE : Ends stop i) : ∀ f g b n, n ≤ f → n ≤ g → 1 ≤ n → n ≤ 281474976710656 → b ≤ i → i < b + n → dn stop i f b n = dn stop i g b n
  | 0, g, b, n, h1, h2, h3, _, _, _ => by omega
  | f + 1, 0, b, n, h1, h2, h3, _, _, _ => by omega
  | f + 1, g + 1, b, n, h1, h2, h3, h4, h5, h6 => by
    unfold dn
    by_cases hs : stop b n = true
    · rw [if_pos hs, if_pos hs]
    · rw [if_neg hs, if_neg hs]
      have hn : 2 ≤ n := by
        apply Nat.lt_of_le_of_ne h3
        intro e
        exact hs (hE b n e.symm h5 h6)
      have hh := hf_bd n hn (by omega)
      by_cases hc : i < b + hf n
      · rw [if_pos hc, if_pos hc, dn_fuel hE f g b (hf n) (by omega) (by omega) (by omega) (by omega) h5 hc]
      · rw [if_neg hc, if_neg hc, dn_fuel hE f g (b + hf n) (n - hf n) (by omega) (by omega) (by omega) (by omega) (by omega) (by omega)]
/-- .. with fuel enough. -/
def dw (stop : Nat → Nat → Bool) (i b n : Nat) : List Int × (Nat × Nat) := dn stop i n b n
theorem dw_stop {stop : Nat → Nat → Bool} {i b n : Nat} (h : stop b n = true) : dw stop i b n = ([], (b, b + n)) := dn_stop h n
theorem dw_lo {stop : Nat → Nat → Bool} {i b n k : Nat} (hE : Ends stop i) (h : stop b n = false) (h2 : 2 ≤ n) (hn : n ≤ 281474976710656) (hb : b ≤ i) (hk : hf n = k) (hc : i < b + k) : dw stop i b n = (0 :: (dw stop i b k).1, (dw stop i b k).2) := by
  subst hk
  have hh := hf_bd n h2 (by omega)
  unfold dw
  obtain ⟨f, rfl⟩ : ∃ f, n = f + 1 := ⟨n - 1, by omega⟩
  rw [dn, if_neg (by rw [h]; exact Bool.false_ne_true), if_pos hc, dn_fuel hE f (hf (f + 1)) b (hf (f + 1)) (by omega) (Nat.le_refl _) (by omega) (by omega) hb hc]
theorem dw_hi {stop : Nat → Nat → Bool} {i b n k : Nat} (hE : Ends stop i) (h : stop b n = false) (h2 : 2 ≤ n) (hn : n ≤ 281474976710656) (hi : i < b + n) (hk : hf n = k) (hc : ¬ i < b + k) : dw stop i b n = (1 :: (dw stop i (b + k) (n - k)).1, (dw stop i (b + k) (n - k)).2) := by
  subst hk
  have hh := hf_bd n h2 (by omega)
  unfold dw
  obtain ⟨f, rfl⟩ : ∃ f, n = f + 1 := ⟨n - 1, by omega⟩
  rw [dn, if_neg (by rw [h]; exact Bool.false_ne_true), if_neg hc, dn_fuel hE f (f + 1 - hf (f + 1)) (b + hf (f + 1)) (f + 1 - hf (f + 1)) (by omega) (Nat.le_refl _) (by omega) (by omega) (by omega) (by omega)]

/-- What is kept from round to round. -/
structure WI (stop : Nat → Nat → Bool) (i N : Nat) (b n : Nat) (ps : List Int) : Prop where
  all : ps ++ (dw stop i b n).1 = (dw stop i 0 N).1
  last : (dw stop i b n).2 = (dw stop i 0 N).2
  lo : b ≤ i
  hi : i < b + n
  top : b + n ≤ 281474976710656
  few : ps.length + Lib.bitLen (n - 1) ≤ 48
theorem WI.start {stop : Nat → Nat → Bool} {i N : Nat} (h : i < N) (hN : N ≤ 281474976710656) : WI stop i N 0 N [] := ⟨rfl, rfl, by omega, by omega, by omega, by simpa using bl48 N (by omega) hN⟩
theorem WI.two {stop : Nat → Nat → Bool} {i N b n : Nat} {ps : List Int} (hE : Ends stop i) (h : WI stop i N b n ps) (hs : stop b n = false) : 2 ≤ n := by
  have h1 := h.lo
  have h2 := h.hi
  rcases Nat.lt_or_ge n 2 with hlt | hge
  · have := hE b n (by omega) h1 h2
    rw [hs] at this
    cases this
  · exact hge
theorem WI.lower {stop : Nat → Nat → Bool} {i N b n k : Nat} {ps : List Int} (hE : Ends stop i) (h : WI stop i N b n ps) (hs : stop b n = false) (hk : hf n = k) (hc : i < b + k) : WI stop i N b k (ps ++ [0]) := by
  have h2 := h.two hE hs
  have hh := hf_bd n h2 (by have := h.top; omega)
  have hb := bl_lo n k h2 (by have := h.top; omega) (by omega) (by omega)
  have hd := dw_lo hE hs h2 (by have := h.top; omega) h.lo hk hc
  refine ⟨?_, ?_, h.lo, hc, by have := h.top; omega, ?_⟩
  · rw [← h.all, hd]; simp
  · rw [← h.last, hd]
  · have := h.few
    rw [List.length_append, List.length_singleton]
    omega
theorem WI.upper {stop : Nat → Nat → Bool} {i N b n k : Nat} {ps : List Int} (hE : Ends stop i) (h : WI stop i N b n ps) (hs : stop b n = false) (hk : hf n = k) (hc : ¬ i < b + k) : WI stop i N (b + k) (n - k) (ps ++ [1]) := by
  have h2 := h.two hE hs
  have hh := hf_bd n h2 (by have := h.top; omega)
  have hb := bl_lo n (n - k) h2 (by have := h.top; omega) (by omega) (by omega)
  have hd := dw_hi hE hs h2 (by have := h.top; omega) h.hi hk hc
  refine ⟨?_, ?_, by omega, by have := h.hi; omega, by have := h.top; omega, ?_⟩
  · rw [← h.all, hd]; simp
  · rw [← h.last, hd]
  · have := h.few
    rw [List.length_append, List.length_singleton]
    omega

def stopL (b n : Nat) : Bool := decide (n = 1)
def stopM (m : Nat) (b n : Nat) : Bool := decide (b + n = m)
theorem endsL (i : Nat) : Ends stopL i := fun b n hn h1 h2 => by subst hn; simp [stopL]
theorem endsM (m : Nat) (hm : 1 ≤ m) : Ends (stopM m) (m - 1) := fun b n hn h1 h2 => by subst hn; simp [stopM]; omega
/-- How many halves are passed by. -/
theorem dw_len {stop : Nat → Nat → Bool} {i : Nat} (hE : Ends stop i) : ∀ (f b n : Nat), n ≤ f → b ≤ i → i < b + n → n ≤ 281474976710656 → (dw stop i b n).1.length ≤ Lib.bitLen (n - 1)
  | 0, b, n, h, _, _, _ => by omega
  | f + 1, b, n, h, h1, h2, h3 => by
    by_cases hs : stop b n = true
    · rw [dw_stop hs]; exact Nat.zero_le _
    · have hs' : stop b n = false := by simpa using hs
      have hn : 2 ≤ n := by
        rcases Nat.lt_or_ge n 2 with hlt | hge
        · exact absurd (hE b n (by omega) h1 h2) hs
        · exact hge
      have hh := hf_bd n hn (by omega)
      by_cases hc : i < b + hf n
      · rw [dw_lo hE hs' hn h3 h1 rfl hc, List.length_cons]
        have ih := dw_len hE f b (hf n) (by omega) h1 hc (by omega)
        have hb := bl_lo n (hf n) hn (by omega) (Nat.le_refl _) (by omega)
        exact Nat.le_trans (Nat.add_le_add_right ih 1) hb
      · rw [dw_hi hE hs' hn h3 h2 rfl hc, List.length_cons]
        have ih := dw_len hE f (b + hf n) (n - hf n) (by omega) (by omega) (by omega) (by omega)
        have hb := bl_lo n (n - hf n) hn (by omega) (by omega) (by omega)
        exact Nat.le_trans (Nat.add_le_add_right ih 1) hb
theorem dw_few {stop : Nat → Nat → Bool} {i b n : Nat} (hE : Ends stop i) (h1 : b ≤ i) (h2 : i < b + n) (h3 : n ≤ 281474976710656) : (dw stop i b n).1.length ≤ 48 :=
  Nat.le_trans (dw_len hE n b n (Nat.le_refl _) h1 h2 h3) (bl48 n (by omega) h3)
/-- Is a digest of the part itself in the proof? -/
def tld (p : Nat × Nat) : Nat := if p.1 = 0 then 0 else 1
/-- The halves, the lowest first. -/
def hvL (i b n : Nat) : List Int := (dw stopL i b n).1.reverse
def hvM (m b n : Nat) : List Int := (dw (stopM m) (m - 1) b n).1.reverse
def ptM (m b n : Nat) : Nat := tld (dw (stopM m) (m - 1) b n).2
theorem hvL_few {i b n : Nat} (h1 : b ≤ i) (h2 : i < b + n) (h3 : n ≤ 281474976710656) : (hvL i b n).length ≤ 48 := by
  unfold hvL; rw [List.length_reverse]; exact dw_few (endsL i) h1 h2 h3
theorem hvM_few {m b n : Nat} (hm : 1 ≤ m) (h1 : b < m) (h2 : m ≤ b + n) (h3 : n ≤ 281474976710656) : (hvM m b n).length ≤ 48 := by
  unfold hvM; rw [List.length_reverse]; exact dw_few (endsM m hm) (by omega) (by omega) h3
theorem ptM_le (m b n : Nat) : ptM m b n ≤ 1 := by unfold ptM tld; split <;> omega
theorem hvL_one (i b : Nat) : hvL i b 1 = [] := by unfold hvL; rw [dw_stop (by simp [stopL])]; rfl
theorem hvL_lo {i b n : Nat} (h2 : 2 ≤ n) (hn : n ≤ 281474976710656) (hb : b ≤ i) (hc : i < b + hf n) : hvL i b n = hvL i b (hf n) ++ [0] := by
  unfold hvL; rw [dw_lo (endsL i) (by simp [stopL]; omega) h2 hn hb rfl hc]; simp
theorem hvL_hi {i b n : Nat} (h2 : 2 ≤ n) (hn : n ≤ 281474976710656) (hi : i < b + n) (hc : ¬ i < b + hf n) : hvL i b n = hvL i (b + hf n) (n - hf n) ++ [1] := by
  unfold hvL; rw [dw_hi (endsL i) (by simp [stopL]; omega) h2 hn hi rfl hc]; simp
theorem hvM_end {m b n : Nat} (h : b + n = m) : hvM m b n = [] ∧ ptM m b n = (if b = 0 then 0 else 1) := by
  unfold hvM ptM tld; rw [dw_stop (by simp [stopM]; omega)]; exact ⟨rfl, rfl⟩
theorem hvM_lo {m b n : Nat} (hm : 1 ≤ m) (hs : b + n ≠ m) (h2 : 2 ≤ n) (hn : n ≤ 281474976710656) (hb : b < m) (hc : m - 1 < b + hf n) : hvM m b n = hvM m b (hf n) ++ [0] ∧ ptM m b n = ptM m b (hf n) := by
  unfold hvM ptM; rw [dw_lo (endsM m hm) (by simp [stopM]; omega) h2 hn (by omega) rfl hc]; simp
theorem hvM_hi {m b n : Nat} (hm : 1 ≤ m) (hs : b + n ≠ m) (h2 : 2 ≤ n) (hn : n ≤ 281474976710656) (hi : m ≤ b + n) (hb : b < m) (hc : ¬ m - 1 < b + hf n) : hvM m b n = hvM m (b + hf n) (n - hf n) ++ [1] ∧ ptM m b n = ptM m (b + hf n) (n - hf n) := by
  unfold hvM ptM; rw [dw_hi (endsM m hm) (by simp [stopM]; omega) h2 hn (by omega) rfl hc]; simp

end Go.Proofs.YtojepbapdjkknaaDoor

/-
  The way down a tree, half by half: the program's loop.
-/
namespace Go.Proofs.YtojepbapdjkknaaDoor
open Go.RowKit
set_option linter.unusedVariables false

theorem zS : Zeroed 92 (c2 0 0) := fun _ _ _ _ _ _ _ => by kernel_rfl
theorem wS : Wide 92 2 := ⟨by kernel_rfl, by kernel_rfl⟩
theorem results_2wide {fn : Func} {p u : Tmp} {T : TypeId} (h : fn.results = #[.tmp u, .cell p T]) {n : Nat} (hT : Wide T n) (tmps : Array Value) (w : World)
    {g : Nat} {t : TypeId} {cs : List Value} (hp : tmps.getD p undef = .pointer (some ⟨g, 0, none⟩)) (hg : Blk w g t cs) (hl : cs.length = n) :
    (results fn tmps).run Tryd.prog w = .ok (.tuple #[tmps.getD u undef, .agg cs.toArray]) w := by
  have hp' : tmps[p]?.getD undef = .pointer (some ⟨g, 0, none⟩) := by simpa using hp
  obtain ⟨d, hu, hd⟩ := hT.und
  simp [results, h, hp', asAddr, run_loadVar_mid w g 0 T cs d (hg.range 0 cs (by simp)) hu hd (by rw [hT.size, hl])]
/-- The split of any size of a part. -/
theorem split_some (n : Nat) (h1 : 1 ≤ n) (hn : n ≤ 281474976710656) : ∃ k e : Nat, (∀ w : World, Calls Tryd.prog 58 #[.int .i64 (n : Int)] w fun r w' => r = .returned (.tuple #[.int .i64 (k : Int), .int .i64 (e : Int)]) ∧ w' = w) ∧ k ≤ n ∧ (2 ≤ n → hf n = k) := by
  rcases Nat.lt_or_ge n 2 with hlt | hge
  · exact ⟨0, 40, fun w => split_low (n : Int) w (by omega), by omega, by omega⟩
  · exact ⟨hf n, 0, fun w => split_any n w hge (by omega), Nat.le_of_lt (hf_bd n hge (by omega)).2.1, fun _ => rfl⟩
theorem reverse_but (B : Nat) (v : Value) (ns : List Int) (w : World) (hn2 : ns.length ≤ 1048576) (h : OwnH w B v ns) :
    Calls Tryd.prog 129 #[v] w fun r w' => (∃ x, r = .returned x) ∧ OwnH w' B v ns.reverse ∧ (∀ g t cs, v.ownBlock ≠ some g → Blk w g t cs → Blk w' g t cs) ∧ Below B w w' := by
  rcases h.lies with ⟨rfl, rfl⟩ | ⟨g, cap, cs, rfl, hg, _⟩
  · refine (reverse_nil w).mono ?_
    rintro r w' ⟨hr, rfl⟩
    exact ⟨hr, h, fun _ _ _ _ h => h, Below.refl _ _⟩
  · refine (reverse_own B g cap ns.length ns w rfl hn2 h).mono ?_
    rintro r w' ⟨hr, ho, hbut⟩
    exact ⟨hr, ho, fun k t cs hk hb => hb.but hbut (fun e => hk (by rw [e]; rfl)), hbut.below hg⟩
set_option maxRecDepth 100000 in
set_option maxHeartbeats 1000000 in
theorem wayDown_any (stop : Nat → Nat → Bool) (i N : Nat) (fid : FuncId) (cap : Value) (w : World) (hE : Ends stop i) (hi : i < N) (hN : N ≤ 281474976710656) (hcall : ∀ (x : Value) (v : World), (callFunc fid #[x, cap]).run Tryd.prog v = .ok (.enter fid #[x, cap]) v)
    (hmet : ∀ (v : World) (b n : Nat), Below w.heap.size w v → b + n ≤ 281474976710656 → Calls Tryd.prog fid #[.agg #[.int .i64 (b : Int), .int .i64 ((b + n : Nat) : Int)], cap] v fun r v' => r = .returned (.bool (stop b n)) ∧ Below v.heap.size v v') :
    Calls Tryd.prog 108 #[.int .i64 (i : Int), .int .i64 (N : Int), .func (.func fid) #[] #[cap]] w fun r w' => ∃ v, r = .returned (.tuple #[v, .agg (c2 ((dw stop i 0 N).2.1 : Int) ((dw stop i 0 N).2.2 : Int)).toArray]) ∧ OwnH w' w.heap.size v (dw stop i 0 N).1.reverse ∧ Below w.heap.size w w' := by
  have HM := hide hmet
  clear hmet
  go_enter Tryd.func108, Tryd.ntmps108
  go_wp2_with (refine step_alloc zS rfl ?_; intro w1 g1 hg1 hle1 hb1; have HG1 := hide hg1; clear hg1)
  go_step3
  go_wp2_with (refine step_storeA wS rfl rfl rfl HG1.out rfl (One.c2 0 (N : Int)) rfl ?_)
  intro w2 hg2 hbut2
  have B2 := hide (new_below (Below.refl _ _) hb1 hle1 hbut2)
  have G2 := hide hg2
  clear hg2 hbut2 hb1 HG1
  go_wp2
  go_step3
  go_wp2
  simp only [Act.put]
  go_loopg [6] N (fun n s6 wx => ∃ (b : Nat) (ps : List Int), Hid (WI stop i N b n ps) ∧ Hid (OwnH wx w.heap.size s6 ps) ∧ Hid (Blk wx g1 92 (c2 (b : Int) ((b + n : Nat) : Int))) ∧ Hid (s6.ownBlock ≠ some g1) ∧ Hid (Below w.heap.size w wx))
  case atStart => exact ⟨0, [], hide (WI.start hi hN), hide (OwnH.nil _ _), hide (by rw [Nat.zero_add]; exact G2.out), hide (by simp [Value.ownBlock]), B2⟩
  case round =>
    obtain ⟨b, ps, HI, HO, HG, HNE, HB⟩ := hrel
    obtain ⟨a6, l6, k6, rfl⟩ : ∃ a n c, u6 = Value.slice a n c := by rcases HO.out.lies with ⟨e1, _⟩ | ⟨_, _, _, e1, _⟩ <;> exact ⟨_, _, _, e1⟩
    have htop := HI.out.top
    have hlo := HI.out.lo
    have hhi := HI.out.hi
    obtain ⟨k, er, HSP, hkb, hk⟩ := split_some gk (by omega) (by omega)
    obtain ⟨e, he⟩ : ∃ e, b + gk = e := ⟨_, rfl⟩
    have HS : Hid (∀ v : World, Calls Tryd.prog 58 #[.int .i64 ((e : Int) - (b : Int))] v fun r w' => r = .returned (.tuple #[.int .i64 (k : Int), .int .i64 (er : Int)]) ∧ w' = v) := hide fun v => by
      have := HSP v
      rwa [show (gk : Int) = (e : Int) - (b : Int) by omega] at this
    clear HSP
    have hs1 : IntKind.i64.wrap ((b : Int) + (k : Int)) = ((b + k : Nat) : Int) := by rw [IntKind.wrap_i64]; omega
    have hs2 : IntKind.i64.wrap ((e : Int) - (b : Int)) = (e : Int) - (b : Int) := by rw [IntKind.wrap_i64]; omega
    obtain ⟨m, hm⟩ : ∃ m, b + k = m := ⟨_, rfl⟩
    rw [hm] at hs1
    rw [he] at HG
    have c0 := HG.out.two.1
    have c1 := HG.out.two.2
    go_wp2_with fail
    refine (HS.out _).mono ?_
    rintro r w' ⟨rfl, rfl⟩
    go_wp2_with fail
    have HMM : Hid (∀ v, Below w.heap.size w v → Calls Tryd.prog fid #[.agg #[.int .i64 (b : Int), .int .i64 (e : Int)], cap] v fun r v' => r = .returned (.bool (stop b gk)) ∧ Below v.heap.size v v') := hide fun v hv => by rw [← he]; exact HM.out v b gk hv (by omega)
    have HE := hide he
    have HMK := hide hm
    have HK := hide hk
    clear he hm hk
    by_cases hs : stop b gk = true
    · rw [hs] at HMM
      refine (HMM.out _ HB.out).mono ?_
      rintro r w4 ⟨rfl, hb4⟩
      have B4 := hide (on_below HB.out hb4)
      have G4 := hide (HG.out.on hb4)
      have O4 := hide (HO.out.below hb4)
      clear hb4 c0 c1 HB HG HO
      go_wp2_with fail
      have hlen9 : ps.length ≤ 1048576 := by have := HI.out.few; omega
      refine (reverse_but w.heap.size _ ps w4 hlen9 O4.out).mono ?_
      rintro r w5 ⟨⟨x, rfl⟩, ho5, hk5, hb5⟩
      have O5 := hide ho5
      have G5 := hide (hk5 g1 _ _ HNE.out G4.out)
      have B5 := hide (B4.out.trans hb5)
      clear ho5 hk5 hb5 G4 O4 B4
      go_wp2_with fail
      have F0 := G5.out.free 0
      have F1 := G5.out.free 1
      obtain ⟨c0, c1⟩ := G5.out.two
      have G6 : Blk ((w5.setCell ⟨g1, 0, none⟩ (.int .i64 (b : Int))).setCell ⟨g1, 1, none⟩ (.int .i64 (e : Int))).drew g1 92 (c2 (b : Int) (e : Int)) := (G5.out.set 0 _).set 1 _
      have BU : But g1 w5 ((w5.setCell ⟨g1, 0, none⟩ (.int .i64 (b : Int))).setCell ⟨g1, 1, none⟩ (.int .i64 (e : Int))).drew := (But.trans (But.setCell _ _ _ _) (But.setCell _ _ _ _)).trans ⟨rfl, rfl, rfl, rfl, fun _ _ => rfl⟩
      have GG := hide G6
      have BUT := hide BU
      clear G6 BU
      go_region_held3 (fun v : World => v.cell? ⟨g1, 0, none⟩ = some (.int .i64 (b : Int)) ∧ v.cell? ⟨g1, 1, none⟩ = some (.int .i64 (e : Int))) (first | exact ⟨c0, c1⟩ | exact GG.out.two) (fail)
      go_wp2
      rw [Exit.noGoto_ret]
      have hd := dw_stop (i := i) hs
      have hl := HI.out.last
      have ha := HI.out.all
      rw [hd] at hl ha
      simp only [List.append_nil] at ha
      refine bodyPost_ret (results_2wide rfl wS _ _ rfl GG.out rfl) rfl ⟨.slice a6 l6 k6, ?_, ?_, ?_⟩
      · rw [← hl, ← HE.out]; rfl
      · rw [← ha]
        exact O5.out.but BUT.out HNE.out
      · exact B5.out.trans (BUT.out.below hle1)
    · have hs' : stop b gk = false := by simpa using hs
      rw [hs'] at HMM
      have h2 := HI.out.two hE hs'
      have hkf : hf gk = k := HK.out h2
      have hh := hf_bd gk h2 (by omega)
      rw [hkf] at hh
      have HKF := hide hkf
      have hlen9 : ps.length ≤ 1048576 := by have := HI.out.few; omega
      clear hkf
      refine (HMM.out _ HB.out).mono ?_
      rintro r w4 ⟨rfl, hb4⟩
      have B4 := hide (on_below HB.out hb4)
      have G4 := hide (HG.out.on hb4)
      have O4 := hide (HO.out.below hb4)
      clear hb4 c0 c1 HB HG HO
      obtain ⟨c0, c1⟩ := G4.out.two
      by_cases hc : i < m
      · have hc' : (i : Int) < (m : Int) := by omega
        go_wp2_with (refine steponeH (n := 0) rfl rfl ?_)
        intro W1 g5 hg5 hle5 hb5
        have O5 := hide (O4.out.below hb5)
        have Y5 := hide hg5
        have G5 := hide (G4.out.on hb5)
        have B5 := hide (on_below B4.out hb5)
        clear hg5 hb5 O4 G4 B4 c0 c1
        go_wp2_with (refine stepappH (v := .slice a6 l6 k6) rfl rfl rfl O5.out Y5.out hlen9 B5.out.size ?_)
        intro v6 W6 ho6 hgr6 hat6
        have O6 := hide ho6
        have G6 := hide (G5.out.grew hgr6 HNE.out)
        have B6 := hide (B5.out.trans ((Below.refl _ _).grown hgr6 B5.out.size (fun k hk => (O5.out.lt k hk).1)))
        have HN7 : Hid (v6.ownBlock ≠ some g1) := hide (fun hk => by
          rcases hat6 g1 hk with h | h
          · exact HNE.out h
          · have := G5.out.lt
            omega)
        clear ho6 hgr6 hat6 O5 G5 B5 Y5
        have F0 := G6.out.free 1
        obtain ⟨c0, c1⟩ := G6.out.two
        go_wp2
        have G7 : Hid (Blk (W6.setCell ⟨g1, 1, none⟩ (.int .i64 (m : Int))) g1 92 (c2 (b : Int) (m : Int))) := hide (G6.out.set 1 _)
        have BU := But.setCell W6 g1 1 (.int .i64 (m : Int))
        have O7 := hide (O6.out.but BU HN7.out)
        have B7 := hide (B6.out.trans (BU.below hle1))
        clear BU
        go_roundg k
        case measure => omega
        case rel => exact ⟨b, ps ++ [0], hide (HI.out.lower hE hs' HKF.out (by rw [HMK.out]; exact hc)), O7, hide (by rw [HMK.out]; exact G7.out), hide HN7.out, B7⟩
      · have hc' : ¬ (i : Int) < (m : Int) := by omega
        go_wp2_with (refine steponeH (n := 1) rfl rfl ?_)
        intro W1 g5 hg5 hle5 hb5
        have O5 := hide (O4.out.below hb5)
        have Y5 := hide hg5
        have G5 := hide (G4.out.on hb5)
        have B5 := hide (on_below B4.out hb5)
        clear hg5 hb5 O4 G4 B4 c0 c1
        go_wp2_with (refine stepappH (v := .slice a6 l6 k6) rfl rfl rfl O5.out Y5.out hlen9 B5.out.size ?_)
        intro v6 W6 ho6 hgr6 hat6
        have O6 := hide ho6
        have G6 := hide (G5.out.grew hgr6 HNE.out)
        have B6 := hide (B5.out.trans ((Below.refl _ _).grown hgr6 B5.out.size (fun k hk => (O5.out.lt k hk).1)))
        have HN7 : Hid (v6.ownBlock ≠ some g1) := hide (fun hk => by
          rcases hat6 g1 hk with h | h
          · exact HNE.out h
          · have := G5.out.lt
            omega)
        clear ho6 hgr6 hat6 O5 G5 B5 Y5
        have F0 := G6.out.free 0
        obtain ⟨c0, c1⟩ := G6.out.two
        go_wp2
        have G7 : Hid (Blk (W6.setCell ⟨g1, 0, none⟩ (.int .i64 (m : Int))) g1 92 (c2 (m : Int) (e : Int))) := hide (G6.out.set 0 _)
        have BU := But.setCell W6 g1 0 (.int .i64 (m : Int))
        have O7 := hide (O6.out.but BU HN7.out)
        have B7 := hide (B6.out.trans (BU.below hle1))
        clear BU
        go_roundg (gk - k)
        case measure => omega
        case rel => exact ⟨m, ps ++ [1], hide (by rw [← HMK.out]; exact HI.out.upper hE hs' HKF.out (by rw [HMK.out]; exact hc)), O7, hide (by rw [show m + (gk - k) = e by have := HMK.out; have := HE.out; omega]; exact G7.out), hide HN7.out, B7⟩
set_option maxRecDepth 100000 in
set_option maxHeartbeats 1000000 in
theorem wayDown0_any (stop : Nat → Nat → Bool) (i N : Nat) (fid : FuncId)  (w : World) (hE : Ends stop i) (hi : i < N) (hN : N ≤ 281474976710656) (hcall : ∀ (x : Value) (v : World), (callFunc fid #[x]).run Tryd.prog v = .ok (.enter fid #[x]) v)
    (hmet : ∀ (v : World) (b n : Nat), Below w.heap.size w v → b + n ≤ 281474976710656 → Calls Tryd.prog fid #[.agg #[.int .i64 (b : Int), .int .i64 ((b + n : Nat) : Int)]] v fun r v' => r = .returned (.bool (stop b n)) ∧ Below v.heap.size v v') :
    Calls Tryd.prog 108 #[.int .i64 (i : Int), .int .i64 (N : Int), .func (.func fid) #[] #[]] w fun r w' => ∃ v, r = .returned (.tuple #[v, .agg (c2 ((dw stop i 0 N).2.1 : Int) ((dw stop i 0 N).2.2 : Int)).toArray]) ∧ OwnH w' w.heap.size v (dw stop i 0 N).1.reverse ∧ Below w.heap.size w w' := by
  have HM := hide hmet
  clear hmet
  go_enter Tryd.func108, Tryd.ntmps108
  go_wp2_with (refine step_alloc zS rfl ?_; intro w1 g1 hg1 hle1 hb1; have HG1 := hide hg1; clear hg1)
  go_step3
  go_wp2_with (refine step_storeA wS rfl rfl rfl HG1.out rfl (One.c2 0 (N : Int)) rfl ?_)
  intro w2 hg2 hbut2
  have B2 := hide (new_below (Below.refl _ _) hb1 hle1 hbut2)
  have G2 := hide hg2
  clear hg2 hbut2 hb1 HG1
  go_wp2
  go_step3
  go_wp2
  simp only [Act.put]
  go_loopg [6] N (fun n s6 wx => ∃ (b : Nat) (ps : List Int), Hid (WI stop i N b n ps) ∧ Hid (OwnH wx w.heap.size s6 ps) ∧ Hid (Blk wx g1 92 (c2 (b : Int) ((b + n : Nat) : Int))) ∧ Hid (s6.ownBlock ≠ some g1) ∧ Hid (Below w.heap.size w wx))
  case atStart => exact ⟨0, [], hide (WI.start hi hN), hide (OwnH.nil _ _), hide (by rw [Nat.zero_add]; exact G2.out), hide (by simp [Value.ownBlock]), B2⟩
  case round =>
    obtain ⟨b, ps, HI, HO, HG, HNE, HB⟩ := hrel
    obtain ⟨a6, l6, k6, rfl⟩ : ∃ a n c, u6 = Value.slice a n c := by rcases HO.out.lies with ⟨e1, _⟩ | ⟨_, _, _, e1, _⟩ <;> exact ⟨_, _, _, e1⟩
    have htop := HI.out.top
    have hlo := HI.out.lo
    have hhi := HI.out.hi
    obtain ⟨k, er, HSP, hkb, hk⟩ := split_some gk (by omega) (by omega)
    obtain ⟨e, he⟩ : ∃ e, b + gk = e := ⟨_, rfl⟩
    have HS : Hid (∀ v : World, Calls Tryd.prog 58 #[.int .i64 ((e : Int) - (b : Int))] v fun r w' => r = .returned (.tuple #[.int .i64 (k : Int), .int .i64 (er : Int)]) ∧ w' = v) := hide fun v => by
      have := HSP v
      rwa [show (gk : Int) = (e : Int) - (b : Int) by omega] at this
    clear HSP
    have hs1 : IntKind.i64.wrap ((b : Int) + (k : Int)) = ((b + k : Nat) : Int) := by rw [IntKind.wrap_i64]; omega
    have hs2 : IntKind.i64.wrap ((e : Int) - (b : Int)) = (e : Int) - (b : Int) := by rw [IntKind.wrap_i64]; omega
    obtain ⟨m, hm⟩ : ∃ m, b + k = m := ⟨_, rfl⟩
    rw [hm] at hs1
    rw [he] at HG
    have c0 := HG.out.two.1
    have c1 := HG.out.two.2
    go_wp2_with fail
    refine (HS.out _).mono ?_
    rintro r w' ⟨rfl, rfl⟩
    go_wp2_with fail
    have HMM : Hid (∀ v, Below w.heap.size w v → Calls Tryd.prog fid #[.agg #[.int .i64 (b : Int), .int .i64 (e : Int)]] v fun r v' => r = .returned (.bool (stop b gk)) ∧ Below v.heap.size v v') := hide fun v hv => by rw [← he]; exact HM.out v b gk hv (by omega)
    have HE := hide he
    have HMK := hide hm
    have HK := hide hk
    clear he hm hk
    by_cases hs : stop b gk = true
    · rw [hs] at HMM
      refine (HMM.out _ HB.out).mono ?_
      rintro r w4 ⟨rfl, hb4⟩
      have B4 := hide (on_below HB.out hb4)
      have G4 := hide (HG.out.on hb4)
      have O4 := hide (HO.out.below hb4)
      clear hb4 c0 c1 HB HG HO
      go_wp2_with fail
      have hlen9 : ps.length ≤ 1048576 := by have := HI.out.few; omega
      refine (reverse_but w.heap.size _ ps w4 hlen9 O4.out).mono ?_
      rintro r w5 ⟨⟨x, rfl⟩, ho5, hk5, hb5⟩
      have O5 := hide ho5
      have G5 := hide (hk5 g1 _ _ HNE.out G4.out)
      have B5 := hide (B4.out.trans hb5)
      clear ho5 hk5 hb5 G4 O4 B4
      go_wp2_with fail
      have F0 := G5.out.free 0
      have F1 := G5.out.free 1
      obtain ⟨c0, c1⟩ := G5.out.two
      have G6 : Blk ((w5.setCell ⟨g1, 0, none⟩ (.int .i64 (b : Int))).setCell ⟨g1, 1, none⟩ (.int .i64 (e : Int))).drew g1 92 (c2 (b : Int) (e : Int)) := (G5.out.set 0 _).set 1 _
      have BU : But g1 w5 ((w5.setCell ⟨g1, 0, none⟩ (.int .i64 (b : Int))).setCell ⟨g1, 1, none⟩ (.int .i64 (e : Int))).drew := (But.trans (But.setCell _ _ _ _) (But.setCell _ _ _ _)).trans ⟨rfl, rfl, rfl, rfl, fun _ _ => rfl⟩
      have GG := hide G6
      have BUT := hide BU
      clear G6 BU
      go_region_held3 (fun v : World => v.cell? ⟨g1, 0, none⟩ = some (.int .i64 (b : Int)) ∧ v.cell? ⟨g1, 1, none⟩ = some (.int .i64 (e : Int))) (first | exact ⟨c0, c1⟩ | exact GG.out.two) (fail)
      go_wp2
      rw [Exit.noGoto_ret]
      have hd := dw_stop (i := i) hs
      have hl := HI.out.last
      have ha := HI.out.all
      rw [hd] at hl ha
      simp only [List.append_nil] at ha
      refine bodyPost_ret (results_2wide rfl wS _ _ rfl GG.out rfl) rfl ⟨.slice a6 l6 k6, ?_, ?_, ?_⟩
      · rw [← hl, ← HE.out]; rfl
      · rw [← ha]
        exact O5.out.but BUT.out HNE.out
      · exact B5.out.trans (BUT.out.below hle1)
    · have hs' : stop b gk = false := by simpa using hs
      rw [hs'] at HMM
      have h2 := HI.out.two hE hs'
      have hkf : hf gk = k := HK.out h2
      have hh := hf_bd gk h2 (by omega)
      rw [hkf] at hh
      have HKF := hide hkf
      have hlen9 : ps.length ≤ 1048576 := by have := HI.out.few; omega
      clear hkf
      refine (HMM.out _ HB.out).mono ?_
      rintro r w4 ⟨rfl, hb4⟩
      have B4 := hide (on_below HB.out hb4)
      have G4 := hide (HG.out.on hb4)
      have O4 := hide (HO.out.below hb4)
      clear hb4 c0 c1 HB HG HO
      obtain ⟨c0, c1⟩ := G4.out.two
      by_cases hc : i < m
      · have hc' : (i : Int) < (m : Int) := by omega
        go_wp2_with (refine steponeH (n := 0) rfl rfl ?_)
        intro W1 g5 hg5 hle5 hb5
        have O5 := hide (O4.out.below hb5)
        have Y5 := hide hg5
        have G5 := hide (G4.out.on hb5)
        have B5 := hide (on_below B4.out hb5)
        clear hg5 hb5 O4 G4 B4 c0 c1
        go_wp2_with (refine stepappH (v := .slice a6 l6 k6) rfl rfl rfl O5.out Y5.out hlen9 B5.out.size ?_)
        intro v6 W6 ho6 hgr6 hat6
        have O6 := hide ho6
        have G6 := hide (G5.out.grew hgr6 HNE.out)
        have B6 := hide (B5.out.trans ((Below.refl _ _).grown hgr6 B5.out.size (fun k hk => (O5.out.lt k hk).1)))
        have HN7 : Hid (v6.ownBlock ≠ some g1) := hide (fun hk => by
          rcases hat6 g1 hk with h | h
          · exact HNE.out h
          · have := G5.out.lt
            omega)
        clear ho6 hgr6 hat6 O5 G5 B5 Y5
        have F0 := G6.out.free 1
        obtain ⟨c0, c1⟩ := G6.out.two
        go_wp2
        have G7 : Hid (Blk (W6.setCell ⟨g1, 1, none⟩ (.int .i64 (m : Int))) g1 92 (c2 (b : Int) (m : Int))) := hide (G6.out.set 1 _)
        have BU := But.setCell W6 g1 1 (.int .i64 (m : Int))
        have O7 := hide (O6.out.but BU HN7.out)
        have B7 := hide (B6.out.trans (BU.below hle1))
        clear BU
        go_roundg k
        case measure => omega
        case rel => exact ⟨b, ps ++ [0], hide (HI.out.lower hE hs' HKF.out (by rw [HMK.out]; exact hc)), O7, hide (by rw [HMK.out]; exact G7.out), hide HN7.out, B7⟩
      · have hc' : ¬ (i : Int) < (m : Int) := by omega
        go_wp2_with (refine steponeH (n := 1) rfl rfl ?_)
        intro W1 g5 hg5 hle5 hb5
        have O5 := hide (O4.out.below hb5)
        have Y5 := hide hg5
        have G5 := hide (G4.out.on hb5)
        have B5 := hide (on_below B4.out hb5)
        clear hg5 hb5 O4 G4 B4 c0 c1
        go_wp2_with (refine stepappH (v := .slice a6 l6 k6) rfl rfl rfl O5.out Y5.out hlen9 B5.out.size ?_)
        intro v6 W6 ho6 hgr6 hat6
        have O6 := hide ho6
        have G6 := hide (G5.out.grew hgr6 HNE.out)
        have B6 := hide (B5.out.trans ((Below.refl _ _).grown hgr6 B5.out.size (fun k hk => (O5.out.lt k hk).1)))
        have HN7 : Hid (v6.ownBlock ≠ some g1) := hide (fun hk => by
          rcases hat6 g1 hk with h | h
          · exact HNE.out h
          · have := G5.out.lt
            omega)
        clear ho6 hgr6 hat6 O5 G5 B5 Y5
        have F0 := G6.out.free 0
        obtain ⟨c0, c1⟩ := G6.out.two
        go_wp2
        have G7 : Hid (Blk (W6.setCell ⟨g1, 0, none⟩ (.int .i64 (m : Int))) g1 92 (c2 (m : Int) (e : Int))) := hide (G6.out.set 0 _)
        have BU := But.setCell W6 g1 0 (.int .i64 (m : Int))
        have O7 := hide (O6.out.but BU HN7.out)
        have B7 := hide (B6.out.trans (BU.below hle1))
        clear BU
        go_roundg (gk - k)
        case measure => omega
        case rel => exact ⟨m, ps ++ [1], hide (by rw [← HMK.out]; exact HI.out.upper hE hs' HKF.out (by rw [HMK.out]; exact hc)), O7, hide (by rw [show m + (gk - k) = e by have := HMK.out; have := HE.out; omega]; exact G7.out), hide HN7.out, B7⟩

end Go.Proofs.YtojepbapdjkknaaDoor

/-
  The program's ways to a leaf and to a part, and the lengths of proofs.
-/
namespace Go.Proofs.YtojepbapdjkknaaDoor
open Go.RowKit
set_option linter.unusedVariables false

theorem metL_any (b n : Nat) (v : World) (hn : b + n ≤ 281474976710656) :
    Calls Tryd.prog 109 #[.agg #[.int .i64 (b : Int), .int .i64 ((b + n : Nat) : Int)]] v fun r v' => r = .returned (.bool (stopL b n)) ∧ Below v.heap.size v v' := by
  have e1 : IntKind.i64.wrap (((b + n : Nat) : Int) - (b : Int)) = (n : Int) := by rw [IntKind.wrap_i64]; omega
  obtain ⟨e, he⟩ : ∃ e, b + n = e := ⟨_, rfl⟩
  rw [he] at e1 ⊢
  have e2 : (e : Int) - (b : Int) = (n : Int) := by omega
  by_cases h1 : n = 1
  · subst h1
    have hq : stopL b 1 = true := by simp [stopL]
    rw [hq]
    have e3 : (e : Int) - (b : Int) = 1 := by omega
    clear hq he e2
    go_enter Tryd.func109, Tryd.ntmps109
    go_wp2_with (refine step_box (cs := c2 (b : Int) (e : Int)) rfl rfl ?_; intro w1 g1 hg1 hle1 hb1; obtain ⟨c0, c1⟩ := hg1.two; clear hg1)
    go_ret
    exact ⟨rfl, hb1⟩
  · have hq : stopL b n = false := by simp [stopL, h1]
    rw [hq]
    have h1' : ((n : Int) == 1) = false := by simp; omega
    have h2' : ((e : Int) - (b : Int) == 1) = false := by simp; omega
    clear hq he e2
    go_enter Tryd.func109, Tryd.ntmps109
    go_wp2_with (refine step_box (cs := c2 (b : Int) (e : Int)) rfl rfl ?_; intro w1 g1 hg1 hle1 hb1; obtain ⟨c0, c1⟩ := hg1.two; clear hg1)
    go_ret
    exact ⟨rfl, hb1⟩
theorem metM_any (c m b e : Nat) (q : Bool) (v : World) (hq : q = decide (e = m)) (hc : v.cell? ⟨c, 0, none⟩ = some (.int .i64 (m : Int))) :
    Calls Tryd.prog 110 #[.agg #[.int .i64 (b : Int), .int .i64 (e : Int)], .pointer (some ⟨c, 0, none⟩)] v fun r v' => r = .returned (.bool q) ∧ Below v.heap.size v v' := by
  have HC := hide hc
  clear hc
  by_cases h1 : e = m
  · subst h1
    obtain rfl : q = true := by rw [hq]; simp
    clear hq
    go_enter Tryd.func110, Tryd.ntmps110
    go_wp2_with (refine step_box (cs := c2 (b : Int) (e : Int)) rfl rfl ?_; intro w1 g1 hg1 hle1 hb1; obtain ⟨c0, c1⟩ := hg1.two; have d0 := cell_kept HC.out hb1; clear hg1)
    go_ret
    exact ⟨rfl, hb1⟩
  · obtain rfl : q = false := by rw [hq]; simp [h1]
    have h1' : ((e : Int) == (m : Int)) = false := by simp; omega
    clear hq
    go_enter Tryd.func110, Tryd.ntmps110
    go_wp2_with (refine step_box (cs := c2 (b : Int) (e : Int)) rfl rfl ?_; intro w1 g1 hg1 hle1 hb1; obtain ⟨c0, c1⟩ := hg1.two; have d0 := cell_kept HC.out hb1; clear hg1)
    go_ret
    exact ⟨rfl, hb1⟩
theorem toLeaf_bad (i n : Int) (w : World) (h : i < 0 ∨ n ≤ i ∨ 281474976710656 < n) : Calls Tryd.prog 86 #[.int .i64 i, .int .i64 n] w fun r w' => r = .returned (.tuple #[.slice none 0 0, .int .i64 40]) ∧ Below w.heap.size w w' := by
  by_cases h1 : i < 0
  · skip
    go_enter Tryd.func86, Tryd.ntmps86
    go_wp2
    go_ret2
    exact ⟨rfl, Below.refl _ _⟩
  · by_cases h2 : i ≥ n
    · skip
      go_enter Tryd.func86, Tryd.ntmps86
      go_wp2
      go_ret2
      exact ⟨rfl, Below.refl _ _⟩
    · have h3 : n > 281474976710656 := by omega
      go_enter Tryd.func86, Tryd.ntmps86
      go_wp2
      go_ret2
      exact ⟨rfl, Below.refl _ _⟩
theorem results_3 {fn : Func} {p q u : Tmp} (h : fn.results = #[.tmp p, .tmp q, .tmp u]) (tmps : Array Value) (w : World) : (results fn tmps).run Tryd.prog w = .ok (.tuple #[tmps.getD p undef, tmps.getD q undef, tmps.getD u undef]) w := by
  simp [results, h]
theorem toPart_bad (m n : Int) (w : World) (h : m < 1 ∨ n < m ∨ 281474976710656 < n) : Calls Tryd.prog 87 #[.int .i64 m, .int .i64 n] w fun r w' => r = .returned (.tuple #[.slice none 0 0, .int .i64 0, .int .i64 40]) ∧ Below w.heap.size w w' := by
  by_cases h1 : m < 1
  · skip
    go_enter Tryd.func87, Tryd.ntmps87
    go_wp2
    exact bodyPost_ret (results_3 rfl _ _) rfl ⟨rfl, (Below.refl _ _).alloc (Nat.le_refl _) _⟩
  · by_cases h2 : m > n
    · skip
      go_enter Tryd.func87, Tryd.ntmps87
      go_wp2
      exact bodyPost_ret (results_3 rfl _ _) rfl ⟨rfl, (Below.refl _ _).alloc (Nat.le_refl _) _⟩
    · have h3 : n > 281474976710656 := by omega
      go_enter Tryd.func87, Tryd.ntmps87
      go_wp2
      exact bodyPost_ret (results_3 rfl _ _) rfl ⟨rfl, (Below.refl _ _).alloc (Nat.le_refl _) _⟩
theorem callL (x : Value) (v : World) : (callFunc 109 #[x]).run Tryd.prog v = .ok (.enter 109 #[x]) v := by
  go_simp
theorem callM (c : Value) (x : Value) (v : World) : (callFunc 110 #[x, c]).run Tryd.prog v = .ok (.enter 110 #[x, c]) v := by
  go_simp
set_option maxRecDepth 100000 in
set_option maxHeartbeats 1000000 in
theorem toLeaf_ok (i n : Nat) (w : World) (h1 : i < n) (h2 : n ≤ 281474976710656) : Calls Tryd.prog 86 #[.int .i64 (i : Int), .int .i64 (n : Int)] w fun r w' => ∃ v, r = .returned (.tuple #[v, .int .i64 0]) ∧ OwnH w' w.heap.size v (hvL i 0 n) ∧ Below w.heap.size w w' := by
  have k0 : ¬ (i : Int) < 0 := by omega
  have k1 : ¬ (i : Int) ≥ (n : Int) := by omega
  have k2 : ¬ (n : Int) > 281474976710656 := by omega
  go_enter Tryd.func86, Tryd.ntmps86
  go_wp2_with fail
  refine (wayDown0_any stopL i n 109 w (endsL i) h1 h2 callL (fun v b m hv hm => metL_any b m v hm)).mono ?_
  rintro r w3 ⟨v3, rfl, ho3, hb3⟩
  have O3 := hide ho3
  have B3 := hide hb3
  obtain ⟨a3, c3, rfl⟩ := ho3.slice
  have HR : Hid (hvL i 0 n = (dw stopL i 0 n).1.reverse) := hide rfl
  generalize (dw stopL i 0 n).1.reverse = L at *
  generalize (dw stopL i 0 n).2 = D at *
  obtain ⟨p, q⟩ := D
  clear ho3 hb3
  go_wp2_with (first | (refine step_alloc zS rfl ?_; intro w4 g4 hg4 hle4 hb4; have HG4 := hide hg4; clear hg4) | (refine step_storeA wS rfl rfl rfl HG4.out rfl (One.c2 (p : Int) (q : Int)) rfl ?_))
  intro w5 hg5 hbut5
  have B5 := hide (new_below B3.out hb4 hle4 hbut5)
  have O5 := hide ((O3.out.below hb4).but hbut5 (fun hk => by have := (O3.out.lt _ hk).2; omega))
  clear hg5 hbut5 hb4 HG4 O3 B3
  go_wp2
  go_ret2
  refine ⟨_, rfl, ?_, B5.out⟩
  rw [HR.out]
  exact O5.out
set_option maxRecDepth 100000 in
set_option maxHeartbeats 1000000 in
theorem toPart_ok (m n : Nat) (w : World) (h0 : 1 ≤ m) (h1 : m ≤ n) (h2 : n ≤ 281474976710656) : Calls Tryd.prog 87 #[.int .i64 (m : Int), .int .i64 (n : Int)] w fun r w' => ∃ v, r = .returned (.tuple #[v, .int .i64 (ptM m 0 n : Int), .int .i64 0]) ∧ OwnH w' w.heap.size v (hvM m 0 n) ∧ Below w.heap.size w w' := by
  have k0 : ¬ (m : Int) < 1 := by omega
  have k1 : ¬ (m : Int) > (n : Int) := by omega
  have k2 : ¬ (n : Int) > 281474976710656 := by omega
  have k3 : (m : Int) - 1 = ((m - 1 : Nat) : Int) := by omega
  have HW := hide (fun (v : World) (c : Nat) (hv : ∀ u : World, Below v.heap.size v u → u.cell? ⟨c, 0, none⟩ = some (.int .i64 (m : Int))) => wayDown_any (stopM m) (m - 1) n 110 (.pointer (some ⟨c, 0, none⟩)) v (endsM m h0) (by omega) h2 (callM _) (fun u b k hu _ => metM_any c m b (b + k) _ u (by unfold stopM; rfl) (hv u hu)))
  rw [← k3] at HW
  clear k3
  go_enter Tryd.func87, Tryd.ntmps87
  go_wp2_with fail
  have hb0 : Below w.heap.size w (w.alloc (.cells #[.int .i64 (m : Int)] 3)) := (Below.refl _ _).alloc (Nat.le_refl _) _
  have hc0 : (w.alloc (.cells #[.int .i64 (m : Int)] 3)).cell? ⟨w.heap.size, 0, none⟩ = some (.int .i64 (m : Int)) := by simp
  refine (HW.out _ _ (fun u hu => cell_kept hc0 hu)).mono ?_
  rintro r w3 ⟨v3, rfl, ho3, hb3⟩
  generalize w.alloc (.cells #[.int .i64 (m : Int)] 3) = w2 at *
  have O3 := hide (ho3.lower hb0.size)
  have B3 := hide (on_below hb0 hb3)
  obtain ⟨a3, c3, rfl⟩ := ho3.slice
  have HR : Hid (hvM m 0 n = (dw (stopM m) (m - 1) 0 n).1.reverse) := hide rfl
  have HP : Hid (ptM m 0 n = tld (dw (stopM m) (m - 1) 0 n).2) := hide rfl
  generalize (dw (stopM m) (m - 1) 0 n).1.reverse = L at *
  generalize (dw (stopM m) (m - 1) 0 n).2 = D at *
  obtain ⟨p, q⟩ := D
  clear ho3 hb3 hb0 hc0 HW
  go_wp2_with (first | (refine step_alloc zS rfl ?_; intro w4 g4 hg4 hle4 hb4; have HG4 := hide hg4; clear hg4) | (refine step_storeA wS rfl rfl rfl HG4.out rfl (One.c2 (p : Int) (q : Int)) rfl ?_))
  intro w5 hg5 hbut5
  have B5 := hide (new_below B3.out hb4 hle4 hbut5)
  have O5 := hide ((O3.out.below hb4).but hbut5 (fun hk => by have := (O3.out.lt _ hk).2; omega))
  obtain ⟨c0, c1⟩ := Blk.two (a := (p : Int)) (b := (q : Int)) hg5
  clear hg5 hbut5 hb4 HG4 O3 B3
  by_cases hp : p = 0
  · subst hp
    have HPT : Hid (ptM m 0 n = 0) := hide HP.out
    go_wp2
    refine bodyPost_ret (results_3 rfl _ _) rfl ⟨_, by rw [HPT.out]; rfl, ?_, B5.out⟩
    rw [HR.out]
    exact O5.out
  · have hp' : ((p : Int) != 0) = true := by simp; omega
    have HPT : Hid (ptM m 0 n = 1) := hide (by rw [HP.out]; simp [tld, hp])
    go_wp2
    refine bodyPost_ret (results_3 rfl _ _) rfl ⟨_, by rw [HPT.out]; rfl, ?_, B5.out⟩
    rw [HR.out]
    exact O5.out
theorem length_bad (i n : Int) (w : World) (h : i < 0 ∨ n ≤ i ∨ 281474976710656 < n) : Calls Tryd.prog 65 #[.int .i64 i, .int .i64 n] w fun r w' => r = .returned (.tuple #[.int .i64 0, .int .i64 40]) ∧ Below w.heap.size w w' := by
  have H := hide (fun v => toLeaf_bad i n v h)
  clear h
  go_enter Tryd.func65, Tryd.ntmps65
  go_wp2_with fail
  refine (H.out _).mono ?_
  rintro r w3 ⟨rfl, hb3⟩
  go_wp2
  go_ret2
  exact ⟨rfl, hb3⟩
theorem length_ok (i n : Nat) (w : World) (h1 : i < n) (h2 : n ≤ 281474976710656) : Calls Tryd.prog 65 #[.int .i64 (i : Int), .int .i64 (n : Int)] w fun r w' => r = .returned (.tuple #[.int .i64 ((hvL i 0 n).length : Int), .int .i64 0]) ∧ Below w.heap.size w w' := by
  have H := hide (fun v => toLeaf_ok i n v h1 h2)
  have hf := hvL_few (Nat.zero_le i) (show i < 0 + n by omega) h2
  generalize hvL i 0 n = L at *
  go_enter Tryd.func65, Tryd.ntmps65
  go_wp2_with fail
  refine (H.out _).mono ?_
  rintro r w3 ⟨v3, rfl, ho3, hb3⟩
  obtain ⟨a3, c3, rfl⟩ := ho3.slice
  go_wp2
  go_ret2
  exact ⟨rfl, hb3⟩
theorem steps_bad (m n : Int) (w : World) (h : m < 1 ∨ n < m ∨ 281474976710656 < n) : Calls Tryd.prog 66 #[.int .i64 m, .int .i64 n] w fun r w' => r = .returned (.tuple #[.int .i64 0, .int .i64 40]) ∧ Below w.heap.size w w' := by
  have H := hide (fun v => toPart_bad m n v h)
  clear h
  go_enter Tryd.func66, Tryd.ntmps66
  go_wp2_with fail
  refine (H.out _).mono ?_
  rintro r w3 ⟨rfl, hb3⟩
  go_wp2
  go_ret2
  exact ⟨rfl, hb3⟩
theorem steps_ok (m n : Nat) (w : World) (h0 : 1 ≤ m) (h1 : m ≤ n) (h2 : n ≤ 281474976710656) : Calls Tryd.prog 66 #[.int .i64 (m : Int), .int .i64 (n : Int)] w fun r w' => r = .returned (.tuple #[.int .i64 (((hvM m 0 n).length + ptM m 0 n : Nat) : Int), .int .i64 0]) ∧ Below w.heap.size w w' := by
  have H := hide (fun v => toPart_ok m n v h0 h1 h2)
  have hf := hvM_few h0 (show 0 < m by omega) (show m ≤ 0 + n by omega) h2
  have hp := ptM_le m 0 n
  generalize hvM m 0 n = L at *
  generalize ptM m 0 n = T at *
  go_enter Tryd.func66, Tryd.ntmps66
  go_wp2_with fail
  refine (H.out _).mono ?_
  rintro r w3 ⟨v3, rfl, ho3, hb3⟩
  obtain ⟨a3, c3, rfl⟩ := ho3.slice
  go_wp2
  go_ret2
  exact ⟨rfl, hb3⟩

end Go.Proofs.YtojepbapdjkknaaDoor

/-
  The document's lengths of proofs.
-/
namespace Go.Proofs.YtojepbapdjkknaaDoor
open Go.RowKit
set_option linter.unusedVariables false

theorem half7_any (n : Nat) (w : World) (h2 : 2 ≤ n) (hn : n ≤ 281474976710656) : Calls Tryd.prog 111 #[.int .i64 (n : Int)] w fun r w' => r = .returned (.int .i64 (hf n : Int)) ∧ w' = w := by
  go_enter Tryd.func111, Tryd.ntmps111
  go_wp2_with fail
  go_loopw [3] (fun s wr => ∃ k j : Nat, s = .int .i64 (k : Int) ∧ Hid (k = 2 ^ j) ∧ k < n ∧ wr = w) (fun s _ => n - (intOf s).toNat)
  case atStart => exact ⟨1, 0, rfl, hide rfl, by omega, rfl⟩
  case round =>
    obtain ⟨k, j, rfl, HK, hk, rfl⟩ := hrel
    have hk0 : 0 < k := by rw [HK.out]; exact Nat.two_pow_pos j
    by_cases hc : k * 2 < n
    · have hc' : (k : Int) * 2 < (n : Int) := by omega
      go_wp2
      go_roundw
      case rel => exact ⟨k * 2, j + 1, by simp, hide (by rw [HK.out, Nat.pow_succ]), by omega, by first | rfl | trivial⟩
      case measure => simp only [intOf]; omega
    · have hc' : ¬ (k : Int) * 2 < (n : Int) := by omega
      have hu := hf_uniq n j h2 (by omega) (by rw [← HK.out]; exact hk) (by rw [← HK.out]; omega)
      rw [← HK.out] at hu
      have HU := hide hu
      clear hu
      go_wp2
      go_ret
      rw [HU.out]
      exact ⟨rfl, rfl⟩
theorem len_one (l : Nat) (h : l ≤ 100) : wrap64 (1 + (l : Int)) = ((l + 1 : Nat) : Int) := by unfold wrap64; omega
set_option maxRecDepth 100000 in
set_option maxHeartbeats 1000000 in
theorem deepR_any (i : Nat) : ∀ (f b n : Nat) (w : World), n ≤ f → b ≤ i → i < b + n → b + n ≤ 281474976710656 →
    Calls Tryd.prog 88 #[.int .i64 ((i : Int) - (b : Int)), .int .i64 (n : Int)] w fun r w' => r = .returned (.int .i64 ((hvL i b n).length : Int)) ∧ w' = w
  | 0, b, n, w, h, _, _, _ => by omega
  | f + 1, b, n, w, h, h1, h2, h3 => by
    have ih := hide (fun b n w => deepR_any i f b n w)
    by_cases hn : n = 1
    · subst hn
      rw [hvL_one]
      clear ih
      go_enter Tryd.func88, Tryd.ntmps88
      go_wp2
      go_ret
      exact ⟨rfl, rfl⟩
    · have hn2 : 2 ≤ n := by omega
      have hn' : ¬ ((n : Int) = 1) := by omega
      have hh := hf_bd n hn2 (by omega)
      have HH := hide (fun v => half7_any n v hn2 (by omega))
      by_cases hc : i < b + hf n
      · have IH := hide (fun v => ih.out b (hf n) v (by omega) h1 hc (by omega))
        have hlen := hvL_few h1 hc (by omega)
        rw [hvL_lo hn2 (by omega) h1 hc]
        generalize hvL i b (hf n) = L at *
        clear ih
        generalize hf n = k at *
        have hc' : (i : Int) - (b : Int) < (k : Int) := by omega
        rw [List.length_append, List.length_singleton]
        go_enter Tryd.func88, Tryd.ntmps88
        go_wp2_with fail
        refine (HH.out _).mono ?_
        rintro r w' ⟨rfl, rfl⟩
        go_wp2_with fail
        refine (IH.out _).mono ?_
        rintro r w' ⟨rfl, rfl⟩
        go_wp2
        go_ret
        exact ⟨congrArg (fun x : Int => Ending.returned (Value.int .i64 x)) (by omega), rfl⟩
      · have IH := hide (fun v => ih.out (b + hf n) (n - hf n) v (by omega) (by omega) (by omega) (by omega))
        have hlen := hvL_few (show b + hf n ≤ i by omega) (show i < b + hf n + (n - hf n) by omega) (by omega)
        rw [hvL_hi hn2 (by omega) h2 hc]
        generalize hvL i (b + hf n) (n - hf n) = L at *
        clear ih
        generalize hf n = k at *
        have hc' : ¬ (i : Int) - (b : Int) < (k : Int) := by omega
        have e2 : ((n - k : Nat) : Int) = (n : Int) - (k : Int) := by omega
        have e3 : (i : Int) - ((b + k : Nat) : Int) = (i : Int) - (b : Int) - (k : Int) := by omega
        rw [e3, e2] at IH
        clear e2 e3
        rw [List.length_append, List.length_singleton]
        go_enter Tryd.func88, Tryd.ntmps88
        go_wp2_with fail
        refine (HH.out _).mono ?_
        rintro r w' ⟨rfl, rfl⟩
        go_wp2_with fail
        refine (IH.out _).mono ?_
        rintro r w' ⟨rfl, rfl⟩
        go_wp2
        go_ret
        exact ⟨congrArg (fun x : Int => Ending.returned (Value.int .i64 x)) (by omega), rfl⟩
set_option maxRecDepth 100000 in
set_option maxHeartbeats 1000000 in
theorem belowR_any (m : Nat) (hm : 1 ≤ m) : ∀ (f b n : Nat) (W : Bool) (w : World), n ≤ f → b < m → m ≤ b + n → b + n ≤ 281474976710656 → W = decide (b = 0) →
    Calls Tryd.prog 89 #[.int .i64 ((m : Int) - (b : Int)), .int .i64 (n : Int), .bool W] w fun r w' => r = .returned (.int .i64 (((hvM m b n).length + ptM m b n : Nat) : Int)) ∧ w' = w
  | 0, b, n, W, w, h, _, _, _, _ => by omega
  | f + 1, b, n, W, w, h, h1, h2, h3, hW => by
    have ih := hide (fun b n W w => belowR_any m hm f b n W w)
    by_cases hn : b + n = m
    · obtain ⟨e1, e2⟩ := hvM_end hn
      have hn' : (m : Int) - (b : Int) = (n : Int) := by omega
      rw [hn', e1, e2]
      by_cases hb : b = 0
      · subst hb
        obtain rfl : W = true := by rw [hW]; rfl
        clear hn' hW ih hn h1 h2 h3 e1 e2
        go_enter Tryd.func89, Tryd.ntmps89
        go_wp2
        go_ret
        exact ⟨rfl, rfl⟩
      · obtain rfl : W = false := by rw [hW]; simp [hb]
        rw [if_neg hb]
        clear hn' hW ih hn h1 h2 h3 e1 e2
        go_enter Tryd.func89, Tryd.ntmps89
        go_wp2
        go_ret
        exact ⟨rfl, rfl⟩
    · have hn2 : 2 ≤ n := by omega
      have hn' : ¬ ((m : Int) - (b : Int) = (n : Int)) := by omega
      have hh := hf_bd n hn2 (by omega)
      have HH := hide (fun v => half7_any n v hn2 (by omega))
      by_cases hc : m - 1 < b + hf n
      · have IH := hide (fun v => ih.out b (hf n) W v (by omega) h1 (by omega) (by omega) hW)
        have hlen := hvM_few hm h1 (show m ≤ b + hf n by omega) (by omega)
        obtain ⟨e1, e2⟩ := hvM_lo hm hn hn2 (by omega) h1 hc
        rw [e1, e2]
        have hpt := ptM_le m b (hf n)
        generalize hvM m b (hf n) = L at *
        generalize ptM m b (hf n) = T at *
        clear ih e1 e2 hW
        generalize hf n = k at *
        have hc' : (m : Int) - (b : Int) ≤ (k : Int) := by omega
        rw [List.length_append, List.length_singleton]
        generalize hl : L.length = l at *
        clear hl
        go_enter Tryd.func89, Tryd.ntmps89
        go_wp2_with fail
        refine (HH.out _).mono ?_
        rintro r w' ⟨rfl, rfl⟩
        go_wp2_with fail
        refine (IH.out _).mono ?_
        rintro r w' ⟨rfl, rfl⟩
        go_wp2
        go_ret
        exact ⟨congrArg (fun x : Int => Ending.returned (Value.int .i64 x)) (by omega), rfl⟩
      · have IH := hide (fun v => ih.out (b + hf n) (n - hf n) false v (by omega) (by omega) (by omega) (by omega) (by simp; omega))
        have hlen := hvM_few hm (show b + hf n < m by omega) (show m ≤ b + hf n + (n - hf n) by omega) (by omega)
        obtain ⟨e1, e2⟩ := hvM_hi hm hn hn2 (by omega) h2 h1 hc
        rw [e1, e2]
        have hpt := ptM_le m (b + hf n) (n - hf n)
        generalize hvM m (b + hf n) (n - hf n) = L at *
        generalize ptM m (b + hf n) (n - hf n) = T at *
        clear ih e1 e2 hW
        generalize hf n = k at *
        have hc' : ¬ (m : Int) - (b : Int) ≤ (k : Int) := by omega
        have e2 : ((n - k : Nat) : Int) = (n : Int) - (k : Int) := by omega
        have e3 : (m : Int) - ((b + k : Nat) : Int) = (m : Int) - (b : Int) - (k : Int) := by omega
        rw [e3, e2] at IH
        clear e2 e3
        rw [List.length_append, List.length_singleton]
        generalize hl : L.length = l at *
        clear hl
        go_enter Tryd.func89, Tryd.ntmps89
        go_wp2_with fail
        refine (HH.out _).mono ?_
        rintro r w' ⟨rfl, rfl⟩
        go_wp2_with fail
        refine (IH.out _).mono ?_
        rintro r w' ⟨rfl, rfl⟩
        go_wp2
        go_ret
        exact ⟨congrArg (fun x : Int => Ending.returned (Value.int .i64 x)) (by omega), rfl⟩
theorem lengthR_bad (i n : Int) (w : World) (h : i < 0 ∨ n ≤ i ∨ 281474976710656 < n) : Calls Tryd.prog 67 #[.int .i64 i, .int .i64 n] w fun r w' => r = .returned (.tuple #[.int .i64 0, .int .i64 40]) ∧ w' = w := by
  by_cases h0 : n < 1
  · skip
    go_enter Tryd.func67, Tryd.ntmps67
    go_wp2
    go_ret2
    exact ⟨rfl, rfl⟩
  · by_cases h1 : n > 281474976710656
    · skip
      go_enter Tryd.func67, Tryd.ntmps67
      go_wp2
      go_ret2
      exact ⟨rfl, rfl⟩
    · by_cases h2 : i < 0
      · skip
        go_enter Tryd.func67, Tryd.ntmps67
        go_wp2
        go_ret2
        exact ⟨rfl, rfl⟩
      · have h3 : i ≥ n := by omega
        go_enter Tryd.func67, Tryd.ntmps67
        go_wp2
        go_ret2
        exact ⟨rfl, rfl⟩
theorem lengthR_ok (i n : Nat) (w : World) (h1 : i < n) (h2 : n ≤ 281474976710656) : Calls Tryd.prog 67 #[.int .i64 (i : Int), .int .i64 (n : Int)] w fun r w' => r = .returned (.tuple #[.int .i64 ((hvL i 0 n).length : Int), .int .i64 0]) ∧ w' = w := by
  have k0 : ¬ (n : Int) < 1 := by omega
  have k1 : ¬ (i : Int) ≥ (n : Int) := by omega
  have k2 : ¬ (n : Int) > 281474976710656 := by omega
  have k3 : ¬ (i : Int) < 0 := by omega
  have H : Hid (∀ v : World, Calls Tryd.prog 88 #[.int .i64 (i : Int), .int .i64 (n : Int)] v fun r w' => r = .returned (.int .i64 ((hvL i 0 n).length : Int)) ∧ w' = v) := hide fun v => by
    have := deepR_any i n 0 n v (Nat.le_refl _) (Nat.zero_le _) (by omega) (by omega)
    rwa [show (i : Int) - ((0 : Nat) : Int) = (i : Int) by omega] at this
  generalize hvL i 0 n = L at *
  go_enter Tryd.func67, Tryd.ntmps67
  go_wp2_with fail
  refine (H.out _).mono ?_
  rintro r w3 ⟨rfl, rfl⟩
  go_wp2
  go_ret2
  exact ⟨rfl, rfl⟩
theorem stepsR_bad (m n : Int) (w : World) (h : m < 1 ∨ n < m ∨ 281474976710656 < n) : Calls Tryd.prog 68 #[.int .i64 m, .int .i64 n] w fun r w' => r = .returned (.tuple #[.int .i64 0, .int .i64 40]) ∧ w' = w := by
  by_cases h1 : n > 281474976710656
  · skip
    go_enter Tryd.func68, Tryd.ntmps68
    go_wp2
    go_ret2
    exact ⟨rfl, rfl⟩
  · by_cases h2 : m < 1
    · skip
      go_enter Tryd.func68, Tryd.ntmps68
      go_wp2
      go_ret2
      exact ⟨rfl, rfl⟩
    · have h3 : m > n := by omega
      go_enter Tryd.func68, Tryd.ntmps68
      go_wp2
      go_ret2
      exact ⟨rfl, rfl⟩
theorem stepsR_ok (m n : Nat) (w : World) (h0 : 1 ≤ m) (h1 : m ≤ n) (h2 : n ≤ 281474976710656) : Calls Tryd.prog 68 #[.int .i64 (m : Int), .int .i64 (n : Int)] w fun r w' => r = .returned (.tuple #[.int .i64 (((hvM m 0 n).length + ptM m 0 n : Nat) : Int), .int .i64 0]) ∧ w' = w := by
  have k0 : ¬ (m : Int) < 1 := by omega
  have k1 : ¬ (m : Int) > (n : Int) := by omega
  have k2 : ¬ (n : Int) > 281474976710656 := by omega
  have H : Hid (∀ v : World, Calls Tryd.prog 89 #[.int .i64 (m : Int), .int .i64 (n : Int), .bool true] v fun r w' => r = .returned (.int .i64 (((hvM m 0 n).length + ptM m 0 n : Nat) : Int)) ∧ w' = v) := hide fun v => by
    have := belowR_any m h0 n 0 n true v (Nat.le_refl _) (by omega) (by omega) (by omega) (by decide)
    rwa [show (m : Int) - ((0 : Nat) : Int) = (m : Int) by omega] at this
  generalize (hvM m 0 n).length + ptM m 0 n = L at *
  go_enter Tryd.func68, Tryd.ntmps68
  go_wp2_with fail
  refine (H.out _).mono ?_
  rintro r w3 ⟨rfl, rfl⟩
  go_wp2
  go_ret2
  exact ⟨rfl, rfl⟩

end Go.Proofs.YtojepbapdjkknaaDoor

/-
  wire: need, which gives up; what a reader of bytes tells: one, number, digest; how many digests a proof has.
-/
namespace Go.Proofs.YtojepbapdjkknaaDoor
open Go.RowKit
set_option linter.unusedVariables false
set_option linter.unusedSimpArgs false

/-- What is given up. -/
def PE : List PanicEntry := [{ v := .iface 27 (.int .i64 80), recovered := false }]

theorem need_ok (w : World) : Calls Tryd.prog 71 #[.bool true] w fun e w' => e = .returned (.tuple #[]) ∧ w' = w := by
  go_enter Tryd.func71, Tryd.ntmps71
  go_wp2
  go_end0
  exact ⟨rfl, rfl⟩
theorem need_no (w : World) : Calls Tryd.prog 71 #[.bool false] w fun e w' => e = .panicked PE ∧ w' = w := by
  go_enter Tryd.func71, Tryd.ntmps71
  go_wp2
  exact ⟨rfl, rfl, rfl⟩

/-- The cells of a reader of bytes. -/
def brC (v : Value) (p : Int) : List Value := [v, .int .i64 p]
theorem wBr : Wide 90 2 := ⟨by kernel_rfl, by kernel_rfl⟩
theorem br_at {w : World} {g : Nat} {t : TypeId} {v : Value} {p : Int} (h : Blk w g t (brC v p)) : w.cell? ⟨g, 0, none⟩ = some v ∧ w.cell? ⟨g, 1, none⟩ = some (.int .i64 p) := ⟨by rw [h.cell]; rfl, by rw [h.cell]; rfl⟩

theorem br_apart {w : World} {g : Nat} {t : TypeId} {n : Nat} {q : Option Addr} {m c : Nat} {p : Int} {a : Option Addr} {len cap : Nat} {xs : List Int} (h : Blk w g t (brC (.slice q m c) p)) (hs : Sl w a len cap xs) : 0 < len → Apart g a := fun h0 x hx e => by
  obtain ⟨b, off, rfl, hce⟩ := hs.hcell h0
  obtain rfl := Option.some.inj hx
  simp only at e
  subst e
  have := hce 0 h0
  rw [h.cell] at this
  rcases hq : off + 0 with _ | _ | k <;> rw [hq] at this
  · cases this
  · cases this
  · rw [List.getElem?_eq_none (by simp [brC])] at this
    cases this
/-- A reader and its bytes stand behind what leaves all but the reader's cell as it was. -/
theorem br_set {w : World} {g : Nat} {q : Option Addr} {m c : Nat} {p : Int} {a : Option Addr} {len cap : Nat} {xs : List Int} (hg : Blk w g 90 (brC (.slice q m c) p)) (hs : Sl w a len cap xs) (k : Nat) (z : Int) :
    Blk ((w.drewN k).setCell ⟨g, 1, none⟩ (.int .i64 z)) g 90 (brC (.slice q m c) z) ∧ Sl ((w.drewN k).setCell ⟨g, 1, none⟩ (.int .i64 z)) a len cap xs ∧ But g w ((w.drewN k).setCell ⟨g, 1, none⟩ (.int .i64 z)) :=
  ⟨(hg.drewN k).set 1 _, (hs.drewN k).but (But.setCell _ _ _ _) (br_apart (n := 0) hg hs), ((But.refl g w).drewN k).trans (But.setCell _ _ _ _)⟩

set_option maxRecDepth 100000 in
theorem one_ok (g : Nat) (a : Option Addr) (len cap : Nat) (xs : List Int) (p : Nat) (w : World) (hg : Blk w g 90 (brC (.slice a len cap) (p : Int))) (hs : Sl w a len cap xs) (hp : p < len) :
    Calls Tryd.prog 79 #[.pointer (some ⟨g, 0, none⟩)] w fun e w' => e = .returned (.int .i64 (xs.getD p 0)) ∧ Blk w' g 90 (brC (.slice a len cap) ((p + 1 : Nat) : Int)) ∧ But g w w' := by
  have hr := hs.hreach
  obtain ⟨c0, c1⟩ := br_at hg
  have hlt : (p : Int) < (len : Int) := by omega
  have HX := hide (fun k => br_set hg hs k ((p : Int) + 1))
  have hfz := hg.free 1
  have hz := hs.hbyte.get p
  clear hg hs
  obtain ⟨z, hzz⟩ : ∃ z, xs.getD p 0 = z := ⟨_, rfl⟩
  rw [hzz] at hz ⊢
  have HZ := hide hzz
  obtain ⟨hz0, hz1⟩ := hz
  clear hzz
  go_enter Tryd.func79, Tryd.ntmps79
  go_wp2_with fail
  go_quiet (first | (go_at_call 71; exact Calls.quiet_of_same (need_ok _)))
  go_wp2_with fail
  obtain ⟨hgW, hsW, hnW⟩ := HX.out nq
  clear HX c0 c1 hfz
  generalize (w.drewN nq).setCell ⟨g, 1, none⟩ (.int .i64 ((p : Int) + 1)) = W at *
  obtain ⟨c0, c1⟩ := br_at hgW
  obtain ⟨b, off, rfl, hce⟩ := hsW.hcell (by omega)
  have hcp := hce p hp
  rw [HZ.out] at hcp
  have GW := hide hgW
  have NW := hide hnW
  clear hgW hsW hnW hce
  go_quiet (fail)
  go_wp2
  go_ret
  exact ⟨rfl, by rw [show ((p + 1 : Nat) : Int) = (p : Int) + 1 by omega]; exact GW.out.drewN _, NW.out.drewN _⟩
set_option maxRecDepth 100000 in
theorem one_no (g : Nat) (a : Option Addr) (len cap : Nat) (p : Nat) (w : World) (hg : Blk w g 90 (brC (.slice a len cap) (p : Int))) (hp : len ≤ p) (hl : p ≤ 281474976710656) :
    Calls Tryd.prog 79 #[.pointer (some ⟨g, 0, none⟩)] w fun e w' => e = .panicked PE ∧ But g w w' := by
  obtain ⟨c0, c1⟩ := br_at hg
  have hlt : ¬ (p : Int) < (len : Int) := by omega
  have hlb : decide ((p : Int) < (len : Int)) = false := by simp; omega
  clear hg
  go_enter Tryd.func79, Tryd.ntmps79
  go_wp2_with fail
  refine wp_region_held_drew (S := fun v : World => v.cell? ⟨g, 0, none⟩ = some (.slice a len cap) ∧ v.cell? ⟨g, 1, none⟩ = some (.int .i64 (p : Int))) (by kernel_rfl) ⟨c0, c1⟩ (fun hHeld => ?_)
  refine takeH 0 3 (.pointer (some ⟨g, 0, none⟩)) hHeld rfl rfl (by kernel_rfl) (by kernel_rfl) (by kernel_rfl) (fun _ _ _ h => h) (Or.inl ⟨by rfl, fun w _ => by go_simp⟩) ?_
  simp only [Act.put, List.setIfInBounds_toArray, List.set_cons_zero, List.set_cons_succ]
  refine takeH 1 4 (.pointer (some ⟨g, 0, none⟩)) hHeld rfl rfl (by kernel_rfl) (by kernel_rfl) (by kernel_rfl) (fun _ _ _ h => h) (Or.inl ⟨by rfl, fun w _ => by go_simp⟩) ?_
  simp only [Act.put, List.setIfInBounds_toArray, List.set_cons_zero, List.set_cons_succ]
  refine takeH 2 5 (.pointer (some ⟨g, 1, none⟩)) hHeld rfl rfl (by kernel_rfl) (by kernel_rfl) (by kernel_rfl) (fun _ _ _ h => h) (Or.inl ⟨by rfl, fun w _ => by go_simp⟩) ?_
  simp only [Act.put, List.setIfInBounds_toArray, List.set_cons_zero, List.set_cons_succ]
  refine takeH 3 6 (.int .i64 (p : Int)) hHeld rfl rfl (by kernel_rfl) (by kernel_rfl) (by kernel_rfl) (fun _ _ _ h => h) (Or.inl ⟨by rfl, fun w hw => by have hw' : w.cell? ⟨g, 1, none⟩ = some (.int .i64 (p : Int)) := And.right hw; go_simp⟩) ?_
  simp only [Act.put, List.setIfInBounds_toArray, List.set_cons_zero, List.set_cons_succ]
  refine takeH 4 7 (.pointer (some ⟨g, 0, none⟩)) hHeld rfl rfl (by kernel_rfl) (by kernel_rfl) (by kernel_rfl) (fun _ _ _ h => h) (Or.inl ⟨by rfl, fun w _ => by go_simp⟩) ?_
  simp only [Act.put, List.setIfInBounds_toArray, List.set_cons_zero, List.set_cons_succ]
  refine takeH 5 8 (.pointer (some ⟨g, 0, none⟩)) hHeld rfl rfl (by kernel_rfl) (by kernel_rfl) (by kernel_rfl) (fun _ _ _ h => h) (Or.inl ⟨by rfl, fun w _ => by go_simp⟩) ?_
  simp only [Act.put, List.setIfInBounds_toArray, List.set_cons_zero, List.set_cons_succ]
  refine takeH 6 9 (.pointer (some ⟨g, 0, none⟩)) hHeld rfl rfl (by kernel_rfl) (by kernel_rfl) (by kernel_rfl) (fun _ _ _ h => h) (Or.inl ⟨by rfl, fun w _ => by go_simp⟩) ?_
  simp only [Act.put, List.setIfInBounds_toArray, List.set_cons_zero, List.set_cons_succ]
  refine takeH 7 10 (.slice a len cap) hHeld rfl rfl (by kernel_rfl) (by kernel_rfl) (by kernel_rfl) (fun _ _ _ h => h) (Or.inl ⟨by rfl, fun w hw => by have hw' : w.cell? ⟨g, 0, none⟩ = some (.slice a len cap) := And.left hw; go_simp⟩) ?_
  simp only [Act.put, List.setIfInBounds_toArray, List.set_cons_zero, List.set_cons_succ]
  refine takeH 8 11 (.int .i64 (len : Int)) hHeld rfl rfl (by kernel_rfl) (by kernel_rfl) (by kernel_rfl) (fun _ _ _ h => h) (Or.inl ⟨by rfl, fun w _ => by go_simp⟩) ?_
  simp only [Act.put, List.setIfInBounds_toArray, List.set_cons_zero, List.set_cons_succ]
  refine takeH 9 12 (.bool false) hHeld rfl rfl (by kernel_rfl) (by kernel_rfl) (by kernel_rfl) (fun _ _ _ h => h) (Or.inl ⟨by rfl, fun w _ => by go_simp⟩) ?_
  simp only [Act.put, List.setIfInBounds_toArray, List.set_cons_zero, List.set_cons_succ]
  refine wpAnyH_ready (rs := [10]) (by kernel_rfl) (by simp) (AllReadyH.cons rfl (fun K hK => ?_) AllReadyH.nil)
  rw [if_pos (by rfl)]
  go_simp
  refine (need_no _).mono ?_
  rintro e w' ⟨rfl, rfl⟩
  exact ⟨rfl, rfl, (But.refl g w).drewN 1⟩

theorem rd_ok {len : Nat} {p : Nat} {xs : List Int} (hp : p + 8 ≤ len) : rdN len (p : Int) 8 = (p : Int) + 8 ∧ rdE len (p : Int) 8 = 0 := by
  constructor
  · simp [rdN]; omega
  · simp [rdE]; omega
theorem rd_no {len : Nat} {p : Nat} (hp : len < p + 8) : rdE len (p : Int) 8 ≠ 0 := by
  unfold rdE
  split
  · decide
  · rw [if_pos (by omega)]; decide
theorem rdV8_bd (xs : List Int) (hb : isB xs) (p : Nat) : 0 ≤ rdV xs (p : Int) 8 ∧ rdV xs (p : Int) 8 < 18446744073709551616 := by
  unfold rdV
  split
  · have := beVal_bd ((xs.drop (p : Int).toNat).take 8) ((hb.drop _).take _)
    rename_i h
    rw [List.length_take, List.length_drop, Nat.min_eq_left (by omega)] at this
    have e : (256 : Int) ^ 8 = 18446744073709551616 := by decide
    omega
  · omega
set_option maxRecDepth 100000 in
theorem num_ok (g : Nat) (a : Option Addr) (len cap : Nat) (xs : List Int) (p : Nat) (w : World) (hg : Blk w g 90 (brC (.slice a len cap) (p : Int))) (hs : Sl w a len cap xs) (hp : p + 8 ≤ len) (hm : rdV xs (p : Int) 8 ≤ 281474976710656) :
    Calls Tryd.prog 80 #[.pointer (some ⟨g, 0, none⟩)] w fun e w' => e = .returned (.int .i64 (rdV xs (p : Int) 8)) ∧ Blk w' g 90 (brC (.slice a len cap) ((p + 8 : Nat) : Int)) ∧ But g w w' := by
  have hr := hs.hreach
  obtain ⟨c0, c1⟩ := br_at hg
  have HX := hide (fun k => br_set hg hs k ((p : Int) + 8))
  have HU : Hid (∀ V : World, Sl V a len cap xs → Calls Tryd.prog 98 #[.slice a len cap, .int .i64 (p : Int)] V fun e w' => e = .returned (.tuple #[.int .u64 (rdV xs (p : Int) 8), .int .i64 (rdN len (p : Int) 8), .int .i64 (rdE len (p : Int) 8)]) ∧ w' = V) :=
    hide (fun V hV => (uint64_any a len cap xs (p : Int) V hV).mono fun _ _ h => ⟨h.1, h.2.symm⟩)
  have HS := hide hs
  have hfz := hg.free 1
  have hv := rdV8_bd xs hs.hbyte p
  clear hg hs
  obtain ⟨e1, e2⟩ := rd_ok (xs := xs) hp
  rw [e1, e2] at HU
  clear e1 e2
  generalize rdV xs (p : Int) 8 = v at *
  obtain ⟨hv0, hv1⟩ := hv
  have hw : IntKind.i64.wrap v = v := wrap_in v (by omega) (by omega)
  go_enter Tryd.func80, Tryd.ntmps80
  go_wp2_with fail
  go_quiet (first | (go_at_call 98; exact Calls.quiet_of_same (HU.out _ (HS.out.drewN _))))
  go_wp2_with fail
  refine (need_ok _).mono ?_
  rintro e w' ⟨rfl, rfl⟩
  go_wp2
  go_ret
  obtain ⟨h1, h2, h3⟩ := HX.out nq
  exact ⟨rfl, by rw [show ((p + 8 : Nat) : Int) = (p : Int) + 8 by omega]; exact h1, h3⟩
set_option maxRecDepth 100000 in
theorem num_no (g : Nat) (a : Option Addr) (len cap : Nat) (xs : List Int) (p : Nat) (w : World) (hg : Blk w g 90 (brC (.slice a len cap) (p : Int))) (hs : Sl w a len cap xs) (hp : len < p + 8 ∨ 281474976710656 < rdV xs (p : Int) 8) :
    Calls Tryd.prog 80 #[.pointer (some ⟨g, 0, none⟩)] w fun e w' => e = .panicked PE ∧ But g w w' := by
  have hr := hs.hreach
  obtain ⟨c0, c1⟩ := br_at hg
  have HX := hide (fun k => br_set hg hs k ((p : Int) + 8))
  have HU : Hid (∀ V : World, Sl V a len cap xs → Calls Tryd.prog 98 #[.slice a len cap, .int .i64 (p : Int)] V fun e w' => e = .returned (.tuple #[.int .u64 (rdV xs (p : Int) 8), .int .i64 (rdN len (p : Int) 8), .int .i64 (rdE len (p : Int) 8)]) ∧ w' = V) :=
    hide (fun V hV => (uint64_any a len cap xs (p : Int) V hV).mono fun _ _ h => ⟨h.1, h.2.symm⟩)
  have HS := hide hs
  have hfz := hg.free 1
  have hv := rdV8_bd xs hs.hbyte p
  clear hg hs
  by_cases h8 : len < p + 8
  · have hne : (rdE len (p : Int) 8 == 0) = false := by simpa using rd_no h8
    generalize rdE len (p : Int) 8 = E at *
    generalize rdN len (p : Int) 8 = N at *
    clear hp
    generalize rdV xs (p : Int) 8 = v at *
    go_enter Tryd.func80, Tryd.ntmps80
    go_wp2_with fail
    go_quiet (first | (go_at_call 98; exact Calls.quiet_of_same (HU.out _ (HS.out.drewN _))))
    go_wp2_with fail
    refine (need_no _).mono ?_
    rintro e w' ⟨rfl, rfl⟩
    exact ⟨rfl, rfl, (But.refl g w).drewN _⟩
  · obtain ⟨e1, e2⟩ := rd_ok (xs := xs) (show p + 8 ≤ len by omega)
    rw [e1, e2] at HU
    have hp2 : 281474976710656 < rdV xs (p : Int) 8 := by omega
    clear e1 e2 hp
    generalize rdV xs (p : Int) 8 = v at *
    have hle : decide (v ≤ 281474976710656) = false := by simp; omega
    go_enter Tryd.func80, Tryd.ntmps80
    go_wp2_with fail
    go_quiet (first | (go_at_call 98; exact Calls.quiet_of_same (HU.out _ (HS.out.drewN _))))
    go_wp2_with fail
    refine (need_no _).mono ?_
    rintro e w' ⟨rfl, rfl⟩
    exact ⟨rfl, rfl, (But.refl g w).drewN _⟩

end Go.Proofs.YtojepbapdjkknaaDoor

/-
  wire: the digest that a reader of bytes tells; how many digests a proof has, by the program and by the document.
-/
namespace Go.Proofs.YtojepbapdjkknaaDoor
open Go.RowKit
set_option linter.unusedVariables false
set_option linter.unusedSimpArgs false

theorem joinE {T : Program} {c : Code} {a : Act} {w : World} {Q : Exit → Act → World → Prop} {K : Act → World → Prop} (P : Nat → World → Prop) (act : Nat → Act) (h1 : ∀ g W, P g W → K (act g) W) (h2 : (∀ g W, P g W → K (act g) W) → Code.wp T c (Exit.then K Q) a w) : Code.wp T c (Exit.then K Q) a w := h2 h1

set_option maxHeartbeats 400000 in
theorem octD_no (a : Option Addr) (len cap : Nat) (p : Int) (w : World) (hl : len ≤ 140737488355328) (h : p < 0 ∨ (len : Int) < p ∨ (len : Int) - p < 32) :
    Calls Tryd.prog 94 #[.slice a len cap, .int .i64 p] w fun e w' => e = .returned (.tuple #[.agg (u8s (zer 32)).toArray, .int .i64 0, .int .i64 (rdE len p 32)]) ∧ Below w.heap.size w w' := by
  have e3 : rdE len p 32 = 2 ∨ rdE len p 32 = 10 := by
    by_cases h1 : p < 0 ∨ (len : Int) < p
    · left; simp [rdE, h1]
    · right; have h2 : (len : Int) - p < 32 := by omega
      simp [rdE, h1, h2]
  have hne : (rdE len p 32 != 0) = true := by simp; omega
  clear e3 h
  go_enter Tryd.func94, Tryd.ntmps94
  go_wp2_with (refine step_alloc zD rfl ?_)
  intro w1 g1 hr1 hg1 hb1
  have G1 := hide hr1
  clear hr1
  go_wp2_with (first | (go_at_call 118; refine (room_any _ _ _ _ 32 _ hl (by omega)).mono ?_; rintro e w' ⟨rfl, rfl⟩) | (refine step_buildD rfl ?_) | (refine step_storeA wD rfl rfl rfl G1.out rfl (One.u8 _) rfl ?_; intro w2 hg2 hbut))
  refine bodyPost_ret (results_wide3 rfl wD _ _ rfl hg2 rfl) rfl ⟨rfl, ?_⟩
  exact hb1.trans (hbut.below hg1)

theorem Chg.fresh {g k : Nat} {w v v' : World} (h : Chg g w v) (hb : But k v v') (hk : w.heap.size ≤ k) : Chg g w v' :=
  ⟨hb.os.trans h.os, hb.tape.trans h.tape, hb.output.trans h.output, by rw [hb.size]; exact h.size, fun i hi hg => by rw [hb.block i (by omega)]; exact h.block i hi hg⟩
theorem rdE32_no {len : Nat} {p : Nat} (h : len < p + 32) : rdE len (p : Int) 32 ≠ 0 := by
  unfold rdE
  split
  · decide
  · rw [if_pos (by omega)]; decide

set_option maxRecDepth 100000 in
set_option maxHeartbeats 1000000 in
theorem dig_any (g : Nat) (a : Option Addr) (len cap : Nat) (p N E : Int) (D : List Int) (w : World) (hg : Blk w g 90 (brC (.slice a len cap) p)) (hD : D.length = 32)
    (hC : ∀ V : World, Below w.heap.size w V → Calls Tryd.prog 94 #[.slice a len cap, .int .i64 p] V fun e w' => e = .returned (.tuple #[.agg (u8s D).toArray, .int .i64 N, .int .i64 E]) ∧ Below V.heap.size V w') :
    Calls Tryd.prog 81 #[.pointer (some ⟨g, 0, none⟩)] w fun e w' =>
      (E = 0 → e = .returned (.agg (u8s D).toArray) ∧ Blk w' g 90 (brC (.slice a len cap) N) ∧ Chg g w w') ∧ (E ≠ 0 → e = .panicked PE ∧ Chg g w w') := by
  have G := hide hg
  have HC := hide hC
  have HDU := hide (show (u8s D).length = 32 by rw [u8s_length, hD])
  clear hg hC hD
  go_enter Tryd.func81, Tryd.ntmps81
  go_wp2_with (refine step_alloc zD rfl ?_)
  intro w1 g2 hr1 hl1 hb1
  have B1 := hide hb1
  have R2 := hide hr1
  have GW := hide (G.out.below hb1 G.out.lt)
  have hg2 : g < w.heap.size := G.out.lt
  clear hr1 hb1
  go_wp2_with fail
  refine joinE (fun g3 W => Blk W g3 45 (u8s D) ∧ w1.heap.size ≤ g3 ∧ Below w1.heap.size w1 W) ?act ?tail (fun hjoin => ?_)
  rotate_left
  rotate_left
  · have Y0 := hide ((Below.refl w1.heap.size w1).drew)
    have hc0 : ∀ v : World, Below w1.heap.size w1 v → v.cell? ⟨g, 0, none⟩ = some (.slice a len cap) := fun v hv => (br_at (GW.out.below hv GW.out.lt)).1
    have hc1 : ∀ v : World, Below w1.heap.size w1 v → v.cell? ⟨g, 1, none⟩ = some (.int .i64 p) := fun v hv => (br_at (GW.out.below hv GW.out.lt)).2
    refine wp_region_held_drew (S := fun v : World => Below w1.heap.size w1 v) (by kernel_rfl) Y0.out (fun hHeld => ?_)
    refine takeH 0 7 (.pointer (some ⟨g, 0, none⟩)) hHeld rfl rfl (by kernel_rfl) (by kernel_rfl) (by kernel_rfl) (fun _ _ _ h => h) (Or.inl ⟨by rfl, fun w _ => by go_simp⟩) ?_
    simp only [Act.put, List.setIfInBounds_toArray, List.set_cons_zero, List.set_cons_succ]
    refine takeH 1 8 (.pointer (some ⟨g, 0, none⟩)) hHeld rfl rfl (by kernel_rfl) (by kernel_rfl) (by kernel_rfl) (fun _ _ _ h => h) (Or.inl ⟨by rfl, fun w _ => by go_simp⟩) ?_
    simp only [Act.put, List.setIfInBounds_toArray, List.set_cons_zero, List.set_cons_succ]
    refine takeH 2 9 (.pointer (some ⟨g, 0, none⟩)) hHeld rfl rfl (by kernel_rfl) (by kernel_rfl) (by kernel_rfl) (fun _ _ _ h => h) (Or.inl ⟨by rfl, fun w _ => by go_simp⟩) ?_
    simp only [Act.put, List.setIfInBounds_toArray, List.set_cons_zero, List.set_cons_succ]
    refine takeH 3 10 (.slice a len cap) hHeld rfl rfl (by kernel_rfl) (by kernel_rfl) (by kernel_rfl) (fun _ _ _ h => h) (Or.inl ⟨by rfl, fun w hw => by have hw' : w.cell? ⟨g, 0, none⟩ = some (.slice a len cap) := hc0 _ hw; go_simp⟩) ?_
    simp only [Act.put, List.setIfInBounds_toArray, List.set_cons_zero, List.set_cons_succ]
    refine takeH 4 11 (.pointer (some ⟨g, 0, none⟩)) hHeld rfl rfl (by kernel_rfl) (by kernel_rfl) (by kernel_rfl) (fun _ _ _ h => h) (Or.inl ⟨by rfl, fun w _ => by go_simp⟩) ?_
    simp only [Act.put, List.setIfInBounds_toArray, List.set_cons_zero, List.set_cons_succ]
    refine takeH 5 12 (.pointer (some ⟨g, 0, none⟩)) hHeld rfl rfl (by kernel_rfl) (by kernel_rfl) (by kernel_rfl) (fun _ _ _ h => h) (Or.inl ⟨by rfl, fun w _ => by go_simp⟩) ?_
    simp only [Act.put, List.setIfInBounds_toArray, List.set_cons_zero, List.set_cons_succ]
    refine takeH 6 13 (.pointer (some ⟨g, 1, none⟩)) hHeld rfl rfl (by kernel_rfl) (by kernel_rfl) (by kernel_rfl) (fun _ _ _ h => h) (Or.inl ⟨by rfl, fun w _ => by go_simp⟩) ?_
    simp only [Act.put, List.setIfInBounds_toArray, List.set_cons_zero, List.set_cons_succ]
    refine takeH 7 14 (.int .i64 p) hHeld rfl rfl (by kernel_rfl) (by kernel_rfl) (by kernel_rfl) (fun _ _ _ h => h) (Or.inl ⟨by rfl, fun w hw => by have hw' : w.cell? ⟨g, 1, none⟩ = some (.int .i64 p) := hc1 _ hw; go_simp⟩) ?_
    simp only [Act.put, List.setIfInBounds_toArray, List.set_cons_zero, List.set_cons_succ]
    refine wpAnyH_ready (rs := [8, 13]) (by kernel_rfl) (by simp) (AllReadyH.cons rfl (fun K hK => ?_) (AllReadyH.cons rfl (fun K hK => ?_) AllReadyH.nil))
    · rw [if_pos (by rfl)]
      go_simp
      refine (HC.out _ (B1.out.trans (Y0.out.mono B1.out.size))).mono ?_
      rintro e v1 ⟨rfl, hv1⟩
      have Y1 := hide (on_below Y0.out hv1)
      refine hK.out _ _ Y1.out (fun hHeld => ?_)
      clear hK K
      try simp only [Act.put, List.setIfInBounds_toArray, List.set_cons_zero, List.set_cons_succ]
      refine takeH 9 6 (.tuple #[.agg (u8s D).toArray, .int .i64 N, .int .i64 E]) hHeld rfl rfl (by kernel_rfl) (by kernel_rfl) (by kernel_rfl) (fun _ _ _ h => h) (Or.inl ⟨by rfl, fun w _ => by go_simp⟩) ?_
      simp only [Act.put, List.setIfInBounds_toArray, List.set_cons_zero, List.set_cons_succ]
      refine takeH 10 16 (.agg (u8s D).toArray) hHeld rfl rfl (by kernel_rfl) (by kernel_rfl) (by kernel_rfl) (fun _ _ _ h => h) (Or.inl ⟨by rfl, fun w _ => by go_simp⟩) ?_
      simp only [Act.put, List.setIfInBounds_toArray, List.set_cons_zero, List.set_cons_succ]
      refine takeH 11 17 (.int .i64 N) hHeld rfl rfl (by kernel_rfl) (by kernel_rfl) (by kernel_rfl) (fun _ _ _ h => h) (Or.inl ⟨by rfl, fun w _ => by go_simp⟩) ?_
      simp only [Act.put, List.setIfInBounds_toArray, List.set_cons_zero, List.set_cons_succ]
      refine takeH 12 18 (.int .i64 E) hHeld rfl rfl (by kernel_rfl) (by kernel_rfl) (by kernel_rfl) (fun _ _ _ h => h) (Or.inl ⟨by rfl, fun w _ => by go_simp⟩) ?_
      simp only [Act.put, List.setIfInBounds_toArray, List.set_cons_zero, List.set_cons_succ]
      refine wpAnyH_ready (rs := [13]) (by kernel_rfl) (by simp) (AllReadyH.cons rfl (fun K hK => ?_) AllReadyH.nil)
      rw [if_pos (by rfl)]
      refine wp_allocG zD ?_
      intro v2 g3 hr3 hl3 hv2
      have G3 := hide hr3
      have Y2 := hide (on_below Y1.out hv2)
      have L3 : w1.heap.size ≤ g3 := Nat.le_trans Y1.out.size hl3
      refine hK.out _ _ Y2.out (fun hHeld => ?_)
      clear hK K
      try simp only [Act.put, List.setIfInBounds_toArray, List.set_cons_zero, List.set_cons_succ]
      refine wpAnyH_ready (rs := [14]) (by kernel_rfl) (by simp) (AllReadyH.cons rfl (fun K hK => ?_) AllReadyH.nil)
      rw [if_pos (by rfl)]
      refine wp_storeW wD rfl rfl rfl G3.out HDU.out (One.u8 _) (by rw [u8s_length, zer_length]; omega) ?_
      intro z1 hz1 hbz1
      rw [spl_full (by rw [HDU.out, u8s_length, zer_length])] at hz1
      have hbz := Y2.out.trans (hbz1.below L3)
      refine hK.out _ _ hbz (fun hHeld => ?_)
      clear hK K
      try simp only [Act.put, List.setIfInBounds_toArray, List.set_cons_zero, List.set_cons_succ]
      refine wpAnyH_ready (rs := [15]) (by kernel_rfl) (by simp) (AllReadyH.cons rfl (fun K hK => ?_) AllReadyH.nil)
      rw [if_pos (by rfl)]
      go_simp
      refine hK.out _ _ hbz (fun hHeld => ?_)
      clear hK K
      try simp only [Act.put, List.setIfInBounds_toArray, List.set_cons_zero, List.set_cons_succ]
      refine wpAnyH_ready (rs := [16]) (by kernel_rfl) (by simp) (AllReadyH.cons rfl (fun K hK => ?_) AllReadyH.nil)
      rw [if_pos (by rfl)]
      go_simp
      refine hK.out _ _ hbz (fun hHeld => ?_)
      clear hK K
      try simp only [Act.put, List.setIfInBounds_toArray, List.set_cons_zero, List.set_cons_succ]
      refine wpAnyH_done (by kernel_rfl) ?_ _
      exact hjoin _ _ ⟨hz1, L3, hbz⟩
    · rw [if_pos (by rfl)]
      refine wp_allocG zD ?_
      intro v1 g3 hr3 hl3 hv1
      have Y1 := hide (on_below Y0.out hv1)
      have L3 : w1.heap.size ≤ g3 := Nat.le_trans Y0.out.size hl3
      refine hK.out _ _ Y1.out (fun hHeld => ?_)
      clear hK K
      try simp only [Act.put, List.setIfInBounds_toArray, List.set_cons_zero, List.set_cons_succ]
      refine wpAnyH_ready (rs := [8]) (by kernel_rfl) (by simp) (AllReadyH.cons rfl (fun K hK => ?_) AllReadyH.nil)
      rw [if_pos (by rfl)]
      go_simp
      refine (HC.out _ (B1.out.trans (Y1.out.mono B1.out.size))).mono ?_
      rintro e v2 ⟨rfl, hv2⟩
      have Y2 := hide (on_below Y1.out hv2)
      have G3 := hide (hr3.on hv2)
      refine hK.out _ _ Y2.out (fun hHeld => ?_)
      clear hK K
      try simp only [Act.put, List.setIfInBounds_toArray, List.set_cons_zero, List.set_cons_succ]
      refine takeH 9 6 (.tuple #[.agg (u8s D).toArray, .int .i64 N, .int .i64 E]) hHeld rfl rfl (by kernel_rfl) (by kernel_rfl) (by kernel_rfl) (fun _ _ _ h => h) (Or.inl ⟨by rfl, fun w _ => by go_simp⟩) ?_
      simp only [Act.put, List.setIfInBounds_toArray, List.set_cons_zero, List.set_cons_succ]
      refine takeH 10 16 (.agg (u8s D).toArray) hHeld rfl rfl (by kernel_rfl) (by kernel_rfl) (by kernel_rfl) (fun _ _ _ h => h) (Or.inl ⟨by rfl, fun w _ => by go_simp⟩) ?_
      simp only [Act.put, List.setIfInBounds_toArray, List.set_cons_zero, List.set_cons_succ]
      refine takeH 11 17 (.int .i64 N) hHeld rfl rfl (by kernel_rfl) (by kernel_rfl) (by kernel_rfl) (fun _ _ _ h => h) (Or.inl ⟨by rfl, fun w _ => by go_simp⟩) ?_
      simp only [Act.put, List.setIfInBounds_toArray, List.set_cons_zero, List.set_cons_succ]
      refine takeH 12 18 (.int .i64 E) hHeld rfl rfl (by kernel_rfl) (by kernel_rfl) (by kernel_rfl) (fun _ _ _ h => h) (Or.inl ⟨by rfl, fun w _ => by go_simp⟩) ?_
      simp only [Act.put, List.setIfInBounds_toArray, List.set_cons_zero, List.set_cons_succ]
      refine wpAnyH_ready (rs := [14]) (by kernel_rfl) (by simp) (AllReadyH.cons rfl (fun K hK => ?_) AllReadyH.nil)
      rw [if_pos (by rfl)]
      refine wp_storeW wD rfl rfl rfl G3.out HDU.out (One.u8 _) (by rw [u8s_length, zer_length]; omega) ?_
      intro z1 hz1 hbz1
      rw [spl_full (by rw [HDU.out, u8s_length, zer_length])] at hz1
      have hbz := Y2.out.trans (hbz1.below L3)
      refine hK.out _ _ hbz (fun hHeld => ?_)
      clear hK K
      try simp only [Act.put, List.setIfInBounds_toArray, List.set_cons_zero, List.set_cons_succ]
      refine wpAnyH_ready (rs := [15]) (by kernel_rfl) (by simp) (AllReadyH.cons rfl (fun K hK => ?_) AllReadyH.nil)
      rw [if_pos (by rfl)]
      go_simp
      refine hK.out _ _ hbz (fun hHeld => ?_)
      clear hK K
      try simp only [Act.put, List.setIfInBounds_toArray, List.set_cons_zero, List.set_cons_succ]
      refine wpAnyH_ready (rs := [16]) (by kernel_rfl) (by simp) (AllReadyH.cons rfl (fun K hK => ?_) AllReadyH.nil)
      rw [if_pos (by rfl)]
      go_simp
      refine hK.out _ _ hbz (fun hHeld => ?_)
      clear hK K
      try simp only [Act.put, List.setIfInBounds_toArray, List.set_cons_zero, List.set_cons_succ]
      refine wpAnyH_done (by kernel_rfl) ?_ _
      exact hjoin _ _ ⟨hz1, L3, hbz⟩
  · rintro g3 W ⟨hr3, hl3, hbW⟩
    have GX := hide (GW.out.on hbW)
    have R2W := hide (R2.out.on hbW)
    have R3 := hide hr3
    have CH : Hid (Chg g w W) := hide (Chg.of_below (on_below B1.out hbW))
    obtain ⟨c0, c1⟩ := br_at GX.out
    have hfz := GX.out.free 1
    have n2 : g2 ≠ g := by omega
    have n3 : g3 ≠ g := by have := B1.out.size; omega
    have n23 : g2 ≠ g3 := by have := R2.out.lt; omega
    clear hr3 hl3 hbW HC GW R2 B1 G
    by_cases hE : E = 0
    · subst hE
      go_wp2_with fail
      refine (need_ok _).mono ?_
      rintro e w' ⟨rfl, rfl⟩
      have GN := hide (GX.out.set 1 (.int .i64 N))
      have BN := hide (But.setCell w' g 1 (.int .i64 N))
      have R2N := hide (R2W.out.but BN.out n2)
      have R3N := hide (R3.out.but BN.out n3)
      go_wp2_with (first | (refine step_loadA wD rfl rfl R3N.out HDU.out ?_) | (refine step_storeA wD rfl rfl rfl R2N.out HDU.out (One.u8 _) (by rw [u8s_length, zer_length]) ?_; intro w9 hg9 hbut9))
      refine bodyPost_ret (results_wide rfl wD _ _ rfl hg9 HDU.out) rfl ⟨rfl, GN.out.but hbut9 n2.symm, (CH.out.trans (Chg.of_but BN.out)).fresh hbut9 hl1⟩
    · have hne : (E == 0) = false := by simpa using hE
      go_wp2_with fail
      refine (need_no _).mono ?_
      rintro e w' ⟨rfl, rfl⟩
      exact ⟨rfl, fun h => absurd h hE, fun _ => ⟨rfl, CH.out⟩⟩
theorem dig_ok (g : Nat) (a : Option Addr) (len cap : Nat) (xs : List Int) (p : Nat) (w : World) (hg : Blk w g 90 (brC (.slice a len cap) (p : Int))) (hs : Sl w a len cap xs) (hp : p + 32 ≤ len) :
    Calls Tryd.prog 81 #[.pointer (some ⟨g, 0, none⟩)] w fun e w' => e = .returned (.agg (u8s ((xs.drop p).take 32)).toArray) ∧ Blk w' g 90 (brC (.slice a len cap) ((p + 32 : Nat) : Int)) ∧ Chg g w w' := by
  obtain ⟨b, off, rfl, _⟩ := hs.hcell (by omega)
  refine (dig_any g _ len cap (p : Int) ((p : Int) + 32) 0 ((xs.drop p).take 32) w hg (by rw [List.length_take, List.length_drop, hs.hlen]; omega) (fun V hV => octD_ok b off len cap xs p V (hs.below hV) hp)).mono ?_
  rintro e w' ⟨h, _⟩
  rw [show ((p + 32 : Nat) : Int) = (p : Int) + 32 by omega]
  exact h rfl
theorem dig_no (g : Nat) (a : Option Addr) (len cap : Nat) (p : Nat) (w : World) (hg : Blk w g 90 (brC (.slice a len cap) (p : Int))) (hl : len ≤ 140737488355328) (hp : len < p + 32) :
    Calls Tryd.prog 81 #[.pointer (some ⟨g, 0, none⟩)] w fun e w' => e = .panicked PE ∧ Chg g w w' := by
  refine (dig_any g _ len cap (p : Int) 0 (rdE len (p : Int) 32) (zer 32) w hg (zer_length 32) (fun V hV => octD_no a len cap (p : Int) V hl (by omega))).mono ?_
  rintro e w' ⟨_, h⟩
  exact h (rdE32_no hp)

/-- How many digests a proof has; none: there is no such proof. -/
def pcnt (k i n : Int) : Option Nat :=
  if k = 1 then (if 0 ≤ i ∧ i < n ∧ n ≤ 281474976710656 then some (hvL i.toNat 0 n.toNat).length else none)
  else if k = 2 then (if 1 ≤ i ∧ i ≤ n ∧ n ≤ 281474976710656 then some ((hvM i.toNat 0 n.toNat).length + ptM i.toNat 0 n.toNat) else none)
  else none
theorem pcnt_le {k i n : Int} {m : Nat} (h : pcnt k i n = some m) : m ≤ 49 := by
  unfold pcnt at h
  split at h
  · split at h
    · rename_i h1
      obtain rfl := Option.some.inj h
      have := hvL_few (i := i.toNat) (b := 0) (n := n.toNat) (Nat.zero_le _) (by omega) (by omega)
      omega
    · cases h
  · split at h
    · split at h
      · rename_i h1
        obtain rfl := Option.some.inj h
        have := hvM_few (m := i.toNat) (b := 0) (n := n.toNat) (by omega) (by omega) (by omega) (by omega)
        have := ptM_le i.toNat 0 n.toNat
        omega
      · cases h
    · cases h
/-- The cells of a proof. -/
def pfC (k i n : Int) (v : Value) : List Value := [.int .i64 k, .int .i64 i, .int .i64 n, v]
theorem wP : Wide 24 4 := ⟨by kernel_rfl, by kernel_rfl⟩
theorem zP : Zeroed 24 (pfC 0 0 0 (.slice none 0 0)) := fun _ _ _ _ _ _ _ => by kernel_rfl
theorem pf_at {w : World} {g : Nat} {t : TypeId} {k i n : Int} {v : Value} (h : Blk w g t (pfC k i n v)) : w.cell? ⟨g, 0, none⟩ = some (.int .i64 k) ∧ w.cell? ⟨g, 1, none⟩ = some (.int .i64 i) ∧ w.cell? ⟨g, 2, none⟩ = some (.int .i64 n) ∧ w.cell? ⟨g, 3, none⟩ = some v :=
  ⟨by rw [h.cell]; rfl, by rw [h.cell]; rfl, by rw [h.cell]; rfl, by rw [h.cell]; rfl⟩
theorem lengthV (i n : Int) (w : World) : ∃ m : Nat, ∃ E : Int, ((E = 0 ∧ pcnt 1 i n = some m) ∨ (E ≠ 0 ∧ m = 0 ∧ pcnt 1 i n = none)) ∧ (∀ V : World, Calls Tryd.prog 65 #[.int .i64 i, .int .i64 n] V fun r w' => r = .returned (.tuple #[.int .i64 (m : Int), .int .i64 E]) ∧ Below V.heap.size V w') ∧
    ∀ V : World, Calls Tryd.prog 67 #[.int .i64 i, .int .i64 n] V fun r w' => r = .returned (.tuple #[.int .i64 (m : Int), .int .i64 E]) ∧ w' = V := by
  by_cases h : 0 ≤ i ∧ i < n ∧ n ≤ 281474976710656
  · obtain ⟨a, rfl⟩ := Int.eq_ofNat_of_zero_le h.1
    obtain ⟨b, rfl⟩ := Int.eq_ofNat_of_zero_le (show 0 ≤ n by omega)
    exact ⟨(hvL a 0 b).length, 0, .inl ⟨rfl, by unfold pcnt; rw [if_pos rfl, if_pos h]; rfl⟩, fun V => length_ok a b V (by omega) (by omega), fun V => lengthR_ok a b V (by omega) (by omega)⟩
  · exact ⟨0, 40, .inr ⟨by decide, rfl, by unfold pcnt; rw [if_pos rfl, if_neg h]⟩, fun V => length_bad i n V (by omega), fun V => lengthR_bad i n V (by omega)⟩
theorem stepsV (i n : Int) (w : World) : ∃ m : Nat, ∃ E : Int, ((E = 0 ∧ pcnt 2 i n = some m) ∨ (E ≠ 0 ∧ m = 0 ∧ pcnt 2 i n = none)) ∧ (∀ V : World, Calls Tryd.prog 66 #[.int .i64 i, .int .i64 n] V fun r w' => r = .returned (.tuple #[.int .i64 (m : Int), .int .i64 E]) ∧ Below V.heap.size V w') ∧
    ∀ V : World, Calls Tryd.prog 68 #[.int .i64 i, .int .i64 n] V fun r w' => r = .returned (.tuple #[.int .i64 (m : Int), .int .i64 E]) ∧ w' = V := by
  by_cases h : 1 ≤ i ∧ i ≤ n ∧ n ≤ 281474976710656
  · obtain ⟨a, rfl⟩ := Int.eq_ofNat_of_zero_le (show 0 ≤ i by omega)
    obtain ⟨b, rfl⟩ := Int.eq_ofNat_of_zero_le (show 0 ≤ n by omega)
    exact ⟨(hvM a 0 b).length + ptM a 0 b, 0, .inl ⟨rfl, by unfold pcnt; rw [if_neg (by decide), if_pos rfl, if_pos h]; rfl⟩, fun V => steps_ok a b V (by omega) (by omega) (by omega), fun V => stepsR_ok a b V (by omega) (by omega) (by omega)⟩
  · exact ⟨0, 40, .inr ⟨by decide, rfl, by unfold pcnt; rw [if_neg (by decide), if_pos rfl, if_neg h]⟩, fun V => steps_bad i n V (by omega), fun V => stepsR_bad i n V (by omega)⟩

end Go.Proofs.YtojepbapdjkknaaDoor

/-
  How many digests a proof has: wire.digestsOf, the document's count; whether it may be: Valid of both.
-/
namespace Go.Proofs.YtojepbapdjkknaaDoor
open Go.RowKit
set_option linter.unusedVariables false
set_option linter.unusedSimpArgs false

set_option maxRecDepth 100000 in
theorem dgs_any (k i n : Int) (v : Value) (w : World) :
    Calls Tryd.prog 38 #[.agg (pfC k i n v).toArray] w fun r w' => r = .returned (.tuple #[.int .i64 (((pcnt k i n).getD 0 : Nat) : Int), .bool (pcnt k i n).isSome]) ∧ Below w.heap.size w w' := by
  by_cases h1 : k = 1
  · subst h1
    obtain ⟨m, E, hme, hp, _⟩ := lengthV i n w
    rcases hme with ⟨rfl, hm⟩ | ⟨hE, rfl, hm⟩
    · rw [hm]
      have HP := hide hp
      clear hp hm
      go_enter Tryd.func38, Tryd.ntmps38
      go_wp2_with (first | (refine step_box (cs := pfC 1 i n v) rfl rfl ?_; intro w1 g1 hg1 hle1 hb1; obtain ⟨c0, c1, c2', c3⟩ := pf_at hg1; clear hg1) | fail)
      refine (HP.out _).mono ?_
      rintro r w3 ⟨rfl, hb3⟩
      skip
      go_wp2
      go_ret2
      exact ⟨rfl, on_below hb1 hb3⟩
    · rw [hm]
      have hE' : (E == 0) = false := by simpa using hE
      have HP := hide hp
      clear hp hm
      go_enter Tryd.func38, Tryd.ntmps38
      go_wp2_with (first | (refine step_box (cs := pfC 1 i n v) rfl rfl ?_; intro w1 g1 hg1 hle1 hb1; obtain ⟨c0, c1, c2', c3⟩ := pf_at hg1; clear hg1) | fail)
      refine (HP.out _).mono ?_
      rintro r w3 ⟨rfl, hb3⟩
      skip
      go_wp2
      go_ret2
      exact ⟨rfl, on_below hb1 hb3⟩
  · by_cases h2 : k = 2
    · subst h2
      obtain ⟨m, E, hme, hp, _⟩ := stepsV i n w
      rcases hme with ⟨rfl, hm⟩ | ⟨hE, rfl, hm⟩
      · rw [hm]
        have HP := hide hp
        clear hp hm
        go_enter Tryd.func38, Tryd.ntmps38
        go_wp2_with (first | (refine step_box (cs := pfC 2 i n v) rfl rfl ?_; intro w1 g1 hg1 hle1 hb1; obtain ⟨c0, c1, c2', c3⟩ := pf_at hg1; clear hg1) | fail)
        refine (HP.out _).mono ?_
        rintro r w3 ⟨rfl, hb3⟩
        skip
        go_wp2
        go_ret2
        exact ⟨rfl, on_below hb1 hb3⟩
      · rw [hm]
        have hE' : (E == 0) = false := by simpa using hE
        have HP := hide hp
        clear hp hm
        go_enter Tryd.func38, Tryd.ntmps38
        go_wp2_with (first | (refine step_box (cs := pfC 2 i n v) rfl rfl ?_; intro w1 g1 hg1 hle1 hb1; obtain ⟨c0, c1, c2', c3⟩ := pf_at hg1; clear hg1) | fail)
        refine (HP.out _).mono ?_
        rintro r w3 ⟨rfl, hb3⟩
        skip
        go_wp2
        go_ret2
        exact ⟨rfl, on_below hb1 hb3⟩
    · skip
      have hn : pcnt k i n = none := by unfold pcnt; rw [if_neg h1, if_neg h2]
      rw [hn]
      have k1 : (k == 1) = false := by simpa using h1
      have k2 : (k == 2) = false := by simpa using h2
      clear hn
      go_enter Tryd.func38, Tryd.ntmps38
      go_wp2_with (first | (refine step_box (cs := pfC k i n v) rfl rfl ?_; intro w1 g1 hg1 hle1 hb1; obtain ⟨c0, c1, c2', c3⟩ := pf_at hg1; clear hg1) | fail)
      go_ret2
      exact ⟨rfl, hb1⟩
set_option maxRecDepth 100000 in
theorem count_any (k i n : Int) (v : Value) (w : World) :
    Calls Tryd.prog 39 #[.agg (pfC k i n v).toArray] w fun r w' => r = .returned (.tuple #[.int .i64 (((pcnt k i n).getD 0 : Nat) : Int), .bool (pcnt k i n).isSome]) ∧ Below w.heap.size w w' := by
  by_cases h1 : k = 1
  · subst h1
    obtain ⟨m, E, hme, _, hp⟩ := lengthV i n w
    rcases hme with ⟨rfl, hm⟩ | ⟨hE, rfl, hm⟩
    · rw [hm]
      have HP := hide hp
      clear hp hm
      go_enter Tryd.func39, Tryd.ntmps39
      go_wp2_with (first | (refine step_box (cs := pfC 1 i n v) rfl rfl ?_; intro w1 g1 hg1 hle1 hb1; obtain ⟨c0, c1, c2', c3⟩ := pf_at hg1; clear hg1) | fail)
      refine (HP.out _).mono ?_
      rintro r w3 ⟨rfl, hb3⟩
      subst hb3
      go_wp2
      go_ret2
      exact ⟨rfl, hb1⟩
    · rw [hm]
      have hE' : (E == 0) = false := by simpa using hE
      have HP := hide hp
      clear hp hm
      go_enter Tryd.func39, Tryd.ntmps39
      go_wp2_with (first | (refine step_box (cs := pfC 1 i n v) rfl rfl ?_; intro w1 g1 hg1 hle1 hb1; obtain ⟨c0, c1, c2', c3⟩ := pf_at hg1; clear hg1) | fail)
      refine (HP.out _).mono ?_
      rintro r w3 ⟨rfl, hb3⟩
      subst hb3
      go_wp2
      go_ret2
      exact ⟨rfl, hb1⟩
  · by_cases h2 : k = 2
    · subst h2
      obtain ⟨m, E, hme, _, hp⟩ := stepsV i n w
      rcases hme with ⟨rfl, hm⟩ | ⟨hE, rfl, hm⟩
      · rw [hm]
        have HP := hide hp
        clear hp hm
        go_enter Tryd.func39, Tryd.ntmps39
        go_wp2_with (first | (refine step_box (cs := pfC 2 i n v) rfl rfl ?_; intro w1 g1 hg1 hle1 hb1; obtain ⟨c0, c1, c2', c3⟩ := pf_at hg1; clear hg1) | fail)
        refine (HP.out _).mono ?_
        rintro r w3 ⟨rfl, hb3⟩
        subst hb3
        go_wp2
        go_ret2
        exact ⟨rfl, hb1⟩
      · rw [hm]
        have hE' : (E == 0) = false := by simpa using hE
        have HP := hide hp
        clear hp hm
        go_enter Tryd.func39, Tryd.ntmps39
        go_wp2_with (first | (refine step_box (cs := pfC 2 i n v) rfl rfl ?_; intro w1 g1 hg1 hle1 hb1; obtain ⟨c0, c1, c2', c3⟩ := pf_at hg1; clear hg1) | fail)
        refine (HP.out _).mono ?_
        rintro r w3 ⟨rfl, hb3⟩
        subst hb3
        go_wp2
        go_ret2
        exact ⟨rfl, hb1⟩
    · skip
      have hn : pcnt k i n = none := by unfold pcnt; rw [if_neg h1, if_neg h2]
      rw [hn]
      have k1 : (k == 1) = false := by simpa using h1
      have k2 : (k == 2) = false := by simpa using h2
      clear hn
      go_enter Tryd.func39, Tryd.ntmps39
      go_wp2_with (first | (refine step_box (cs := pfC k i n v) rfl rfl ?_; intro w1 g1 hg1 hle1 hb1; obtain ⟨c0, c1, c2', c3⟩ := pf_at hg1; clear hg1) | fail)
      go_ret2
      exact ⟨rfl, hb1⟩

/-- Whether a proof may be. -/
def pval (k i n : Int) (m : Nat) : Bool := decide (pcnt k i n = some m)
set_option maxRecDepth 100000 in
theorem valid_any (k i n : Int) (a : Option Addr) (m cap : Nat) (w : World) (hm : m ≤ 9223372036854775807) :
    Calls Tryd.prog 13 #[.agg (pfC k i n (.slice a m cap)).toArray] w fun r w' => r = .returned (.bool (pval k i n m)) ∧ Below w.heap.size w w' := by
  obtain ⟨c, hc⟩ : ∃ c, pcnt k i n = c := ⟨_, rfl⟩
  have hle : ∀ q, c = some q → q ≤ 49 := fun q hq => pcnt_le (hc.trans hq)
  have HP := hide (fun V => dgs_any k i n (.slice a m cap) V)
  unfold pval
  rw [hc] at HP ⊢
  clear hc
  cases c with
  | none =>
    go_enter Tryd.func13, Tryd.ntmps13
    go_wp2_with (first | (refine step_box (cs := pfC k i n (.slice a m cap)) rfl rfl ?_; intro w1 g1 hg1 hle1 hb1; obtain ⟨c0, c1, c2', c3⟩ := pf_at hg1; have HG := hide hg1; clear hg1) | (refine step_loadA wP rfl rfl HG.out rfl ?_) | fail)
    refine (HP.out _).mono ?_
    rintro r w3 ⟨rfl, hb3⟩
    go_wp2
    go_ret
    exact ⟨by simp, on_below hb1 hb3⟩
  | some q =>
    have hq := hle q rfl
    have hd : decide (some q = some m) = ((m : Int) == (q : Int)) := by
      by_cases h : q = m
      · subst h; simp
      · have : ¬ (m : Int) = (q : Int) := by omega
        simp [h, this]
    rw [hd]
    clear hd hle
    go_enter Tryd.func13, Tryd.ntmps13
    go_wp2_with (first | (refine step_box (cs := pfC k i n (.slice a m cap)) rfl rfl ?_; intro w1 g1 hg1 hle1 hb1; obtain ⟨c0, c1, c2', c3⟩ := pf_at hg1; have HG := hide hg1; clear hg1) | (refine step_loadA wP rfl rfl HG.out rfl ?_) | fail)
    refine (HP.out _).mono ?_
    rintro r w3 ⟨rfl, hb3⟩
    have d3 := cell_kept c3 hb3
    go_wp2
    go_ret
    exact ⟨rfl, on_below hb1 hb3⟩
set_option maxRecDepth 100000 in
theorem validR_any (k i n : Int) (a : Option Addr) (m cap : Nat) (w : World) (hm : m ≤ 9223372036854775807) :
    Calls Tryd.prog 14 #[.agg (pfC k i n (.slice a m cap)).toArray] w fun r w' => r = .returned (.bool (pval k i n m)) ∧ Below w.heap.size w w' := by
  obtain ⟨c, hc⟩ : ∃ c, pcnt k i n = c := ⟨_, rfl⟩
  have hle : ∀ q, c = some q → q ≤ 49 := fun q hq => pcnt_le (hc.trans hq)
  have HP := hide (fun V => count_any k i n (.slice a m cap) V)
  unfold pval
  rw [hc] at HP ⊢
  clear hc
  cases c with
  | none =>
    go_enter Tryd.func14, Tryd.ntmps14
    go_wp2_with (first | (refine step_box (cs := pfC k i n (.slice a m cap)) rfl rfl ?_; intro w1 g1 hg1 hle1 hb1; obtain ⟨c0, c1, c2', c3⟩ := pf_at hg1; have HG := hide hg1; clear hg1) | (refine step_loadA wP rfl rfl HG.out rfl ?_) | fail)
    refine (HP.out _).mono ?_
    rintro r w3 ⟨rfl, hb3⟩
    go_wp2
    go_ret
    exact ⟨by simp, on_below hb1 hb3⟩
  | some q =>
    have hq := hle q rfl
    have hd : decide (some q = some m) = ((m : Int) == (q : Int)) := by
      by_cases h : q = m
      · subst h; simp
      · have : ¬ (m : Int) = (q : Int) := by omega
        simp [h, this]
    rw [hd]
    clear hd hle
    go_enter Tryd.func14, Tryd.ntmps14
    go_wp2_with (first | (refine step_box (cs := pfC k i n (.slice a m cap)) rfl rfl ?_; intro w1 g1 hg1 hle1 hb1; obtain ⟨c0, c1, c2', c3⟩ := pf_at hg1; have HG := hide hg1; clear hg1) | (refine step_loadA wP rfl rfl HG.out rfl ?_) | fail)
    refine (HP.out _).mono ?_
    rintro r w3 ⟨rfl, hb3⟩
    have d3 := cell_kept c3 hb3
    go_wp2
    go_ret
    exact ⟨rfl, on_below hb1 hb3⟩

end Go.Proofs.YtojepbapdjkknaaDoor

/-
  wire: the proof that a reader of bytes tells, or that it gives up.
-/
namespace Go.Proofs.YtojepbapdjkknaaDoor
open Go.RowKit
set_option linter.unusedVariables false
set_option linter.unusedSimpArgs false

theorem zcell (n i : Nat) (h : i < n) : (u8s (zer n)).toArray[i]! = .int .u8 0 := by
  rw [getElem!_pos _ _ (by simpa [u8s, zer] using h)]
  simp [u8s, zer]
theorem madeD_zer (n : Nat) : madeCells (u8s (zer 32)).toArray n = (u8s (zer n)).toArray := by
  apply Array.ext
  · simp [size_madeCells, u8s_length, zer_length]
  · intro i h1 h2
    have hi : i % 32 < 32 := Nat.mod_lt _ (by decide)
    simp only [madeCells, Array.getElem_map, Array.getElem_range]
    have hsz : (u8s (zer 32)).toArray.size = 32 := by simp [u8s_length, zer_length]
    rw [hsz]
    have e1 : (u8s (zer 32)).toArray[i % 32]! = .int .u8 0 := zcell 32 _ hi
    rw [e1]
    simp [u8s, zer]
section
variable {dst : Option Tmp} {ty : TypeId} {pos : String} {aft : Array Edge} {gd : Option (Nat × Bool)} {ops : Array Oper} {rest : List Oper} {a : Act} {w : World} {Q : Exit → Act → World → Prop}
/-- make of a slice of digests. -/
theorem step_makeD {l c : Operand} {L C : Int} (n : Nat) (hw : Region.wanted ⟨dst, .makeSlice 22 l c, ty, pos, aft, gd⟩ (yielded ops a.tmps) = true)
    (hl : a.eval l = .int .i64 L) (hc : a.eval c = .int .i64 C) (hL : L = (n : Int)) (hC : C = (n : Int)) (hn : n ≤ 4398046511104)
    (h : ∀ w1 g, Blk w1 g 45 (u8s (zer (n * 32))) → w.heap.size ≤ g → Below w.heap.size w w1 → wpList Tryd.prog ops Q rest (a.put dst (.slice (some ⟨g, 0, none⟩) n n)) w1) :
    wpList Tryd.prog ops Q (⟨dst, .makeSlice 22 l c, ty, pos, aft, gd⟩ :: rest) a w := by
  obtain ⟨i0, hi, hz0, hz1, hz2⟩ := info_parts infoD
  subst hL hC
  refine step_run hw (.slice (some ⟨w.heap.size, 0, none⟩) n n) (w.alloc (.cells (u8s (zer (n * 32))).toArray 45)) ?_ (h _ _ (Blk.made _ _ _) (Nat.le_refl _) ((Below.refl _ _).alloc (Nat.le_refl _) _))
  have hr := run_make (P := Tryd.prog) w 22 45 i0 _ undDl hi hz0 .i64 .i64 (n : Int) (n : Int) (by omega) (Int.le_refl _) (by rw [hz2]; omega) (by omega)
  rw [hz1] at hr
  simp only [Value.cells, Int.toNat_natCast, madeD_zer] at hr
  simp [execOp, hl, hc, hr, Result.andThen]
end
/-- Bytes that are a proof's with n digests. -/
structure DkOK (xs : List Int) (n : Nat) : Prop where
  len : xs.length = 18 + 32 * n
  f : rdV xs 1 8 ≤ 281474976710656
  s : rdV xs 9 8 ≤ 281474976710656
  c : pcnt (xs.getD 0 0) (rdV xs 1 8) (rdV xs 9 8) = some n
  t : xs.getD 17 0 = (n : Int)
/-- Bytes that are no proof's. -/
def DkNo (xs : List Int) : Prop := ∀ n, ¬ DkOK xs n
theorem build_pf (K : Int) (w : World) (ev : Operand → Value) (x : Operand) (dst : Option Tmp) (ty : TypeId) (pos : String) (aft : Array Edge) (gd : Option (Nat × Bool)) (hx : ev x = .int .i64 K) :
    (execOp ev ⟨dst, .build 24 #[(0, x)], ty, pos, aft, gd⟩).run Tryd.prog w = .ok (.value (.agg (pfC K 0 0 (.slice none 0 0)).toArray)) w := by
  simp only [execOp, List.map_toArray, List.map_cons, List.map_nil, hx]
  kernel_rfl
section
variable {dst : Option Tmp} {ty : TypeId} {pos : String} {aft : Array Edge} {gd : Option (Nat × Bool)} {ops : Array Oper} {rest : List Oper} {a : Act} {w : World} {Q : Exit → Act → World → Prop}
theorem step_buildP {x : Operand} {K : Int} (hw : Region.wanted ⟨dst, .build 24 #[(0, x)], ty, pos, aft, gd⟩ (yielded ops a.tmps) = true) (hx : a.eval x = .int .i64 K)
    (h : wpList Tryd.prog ops Q rest (a.put dst (.agg (pfC K 0 0 (.slice none 0 0)).toArray)) w) : wpList Tryd.prog ops Q (⟨dst, .build 24 #[(0, x)], ty, pos, aft, gd⟩ :: rest) a w :=
  step_run hw _ w (build_pf K w a.eval x dst ty pos aft gd hx) h
end
theorem One.pf (k i n : Int) (a : Option Addr) (l c : Nat) : One (pfC k i n (.slice a l c)) := by
  intro v hv
  simp only [pfC, List.mem_cons, List.not_mem_nil, or_false] at hv
  rcases hv with rfl | rfl | rfl | rfl <;> rfl
theorem numI (g : Nat) (a : Option Addr) (len cap : Nat) (xs : List Int) (p : Nat) (P Z : Int) (w : World) (hP : P = (p : Int)) (hZ : Z = ((p + 8 : Nat) : Int)) (hg : Blk w g 90 (brC (.slice a len cap) P)) (hs : Sl w a len cap xs) (hp : p + 8 ≤ len) (hm : rdV xs P 8 ≤ 281474976710656) :
    Calls Tryd.prog 80 #[.pointer (some ⟨g, 0, none⟩)] w fun e w' => e = .returned (.int .i64 (rdV xs P 8)) ∧ Blk w' g 90 (brC (.slice a len cap) Z) ∧ But g w w' := by
  subst hP hZ
  exact num_ok g a len cap xs p w hg hs hp hm
theorem numI_no (g : Nat) (a : Option Addr) (len cap : Nat) (xs : List Int) (p : Nat) (P : Int) (w : World) (hP : P = (p : Int)) (hg : Blk w g 90 (brC (.slice a len cap) P)) (hs : Sl w a len cap xs) (hp : len < p + 8 ∨ 281474976710656 < rdV xs P 8) :
    Calls Tryd.prog 80 #[.pointer (some ⟨g, 0, none⟩)] w fun e w' => e = .panicked PE ∧ But g w w' := by
  subst hP
  exact num_no g a len cap xs p w hg hs hp
theorem oneI (g : Nat) (a : Option Addr) (len cap : Nat) (xs : List Int) (p : Nat) (P Z : Int) (w : World) (hP : P = (p : Int)) (hZ : Z = ((p + 1 : Nat) : Int)) (hg : Blk w g 90 (brC (.slice a len cap) P)) (hs : Sl w a len cap xs) (hp : p < len) :
    Calls Tryd.prog 79 #[.pointer (some ⟨g, 0, none⟩)] w fun e w' => e = .returned (.int .i64 (xs.getD p 0)) ∧ Blk w' g 90 (brC (.slice a len cap) Z) ∧ But g w w' := by
  subst hP hZ
  exact one_ok g a len cap xs p w hg hs hp
/-- What stands while a proof is read. -/
structure PV (w W : World) (g g2 g3 : Nat) (a : Option Addr) (len cap : Nat) (xs : List Int) (p : Int) (cs : List Value) : Prop where
  r : Blk W g 90 (brC (.slice a len cap) p)
  s : Sl W a len cap xs
  r2 : Blk W g2 24 (pfC 0 0 0 (.slice none 0 0))
  r3 : Blk W g3 24 cs
  ch : Chg g w W
  gl : g < w.heap.size
  l2 : w.heap.size ≤ g2
  l3 : w.heap.size ≤ g3
  n23 : g2 ≠ g3
section
variable {w W W' : World} {g g2 g3 : Nat} {a : Option Addr} {len cap : Nat} {xs : List Int} {p p' : Int} {cs cs' : List Value}
theorem PV.rd (h : PV w W g g2 g3 a len cap xs p cs) (hc : Chg g W W') (hg : Blk W' g 90 (brC (.slice a len cap) p')) : PV w W' g g2 g3 a len cap xs p' cs := by
  have := h.gl; have := h.l2; have := h.l3
  exact ⟨hg, h.s.chg hc (br_apart (n := 0) h.r h.s), h.r2.chg hc (by omega), h.r3.chg hc (by omega), h.ch.trans hc, h.gl, h.l2, h.l3, h.n23⟩
theorem PV.on (h : PV w W g g2 g3 a len cap xs p cs) (hb : Below W.heap.size W W') : PV w W' g g2 g3 a len cap xs p cs :=
  ⟨h.r.on hb, h.s.below hb, h.r2.on hb, h.r3.on hb, h.ch.trans (Chg.of_below hb), h.gl, h.l2, h.l3, h.n23⟩
theorem pf_apart {t : TypeId} {k i n : Int} {q : Option Addr} {m c : Nat} (h : Blk W g3 t (pfC k i n (.slice q m c))) (hs : Sl W a len cap xs) : 0 < len → Apart g3 a := fun h0 x hx e => by
  obtain ⟨b, off, rfl, hce⟩ := hs.hcell h0
  obtain rfl := Option.some.inj hx
  simp only at e
  subst e
  have := hce 0 h0
  rw [h.cell] at this
  rcases hq : off + 0 with _ | _ | _ | _ | k <;> rw [hq] at this
  · cases this
  · cases this
  · cases this
  · cases this
  · rw [List.getElem?_eq_none (by simp [pfC])] at this
    cases this
theorem PV.set {k i n : Int} {q : Option Addr} {m c : Nat} (h : PV w W g g2 g3 a len cap xs p (pfC k i n (.slice q m c))) (hb : But g3 W W') (hg : Blk W' g3 24 cs') : PV w W' g g2 g3 a len cap xs p cs' := by
  have := h.gl; have := h.l3
  exact ⟨h.r.but hb (by omega), h.s.but hb (pf_apart h.r3 h.s), h.r2.but hb h.n23, hg, h.ch.fresh hb h.l3, h.gl, h.l2, h.l3, h.n23⟩
end
theorem DOwn.of_blk {w : World} {g B n : Nat} {xs : List Int} (h : Blk w g 45 (u8s xs)) (hB : B ≤ g) (hl : xs.length = n * 32) (hn : n ≤ 4398046511104) : DOwn w B (.slice (some ⟨g, 0, none⟩) n n) n xs :=
  ⟨by rw [u8s_length, hl], .inr ⟨g, n, (u8s xs).toArray, rfl, hB, h, Nat.le_refl _, by unfold maxLen; omega, by simp [u8s_length, hl], by simp only [List.size_toArray]; rw [List.take_of_length_le (by rw [u8s_length, hl]; exact Nat.le_refl _)]⟩⟩
theorem spl_then (cs vs us : List Value) (h : vs.length + us.length ≤ cs.length) : spl (spl cs vs 0) us vs.length = spl cs (vs ++ us) 0 := by
  unfold spl
  simp only [List.take_zero, List.nil_append, Nat.zero_add]
  rw [List.take_left, ← List.drop_drop, List.drop_left, List.drop_drop, List.length_append, List.append_assoc]
theorem take_more (ys : List Int) (k : Nat) : ys.take (32 * (k + 1)) = ys.take (32 * k) ++ (ys.drop (32 * k)).take 32 := by
  rw [show 32 * (k + 1) = 32 * k + 32 by omega, List.take_add]
theorem spl_dig (xs : List Int) (n k : Nat) (hk : k < n) (hx : 18 + 32 * (k + 1) ≤ xs.length) :
    spl (spl (u8s (zer (n * 32))) (u8s ((xs.drop 18).take (32 * k))) 0) (u8s ((xs.drop (18 + 32 * k)).take 32)) (32 * k) = spl (u8s (zer (n * 32))) (u8s ((xs.drop 18).take (32 * (k + 1)))) 0 := by
  have h1 : (u8s ((xs.drop 18).take (32 * k))).length = 32 * k := by rw [u8s_length, List.length_take, List.length_drop]; omega
  have h2 : (u8s ((xs.drop (18 + 32 * k)).take 32)).length = 32 := by rw [u8s_length, List.length_take, List.length_drop]; omega
  have e := spl_then (u8s (zer (n * 32))) (u8s ((xs.drop 18).take (32 * k))) (u8s ((xs.drop (18 + 32 * k)).take 32)) (by rw [h1, h2, u8s_length, zer_length]; omega)
  rw [h1] at e
  rw [e, take_more, ← u8s_app, List.drop_drop]

set_option maxRecDepth 100000 in
set_option maxHeartbeats 2000000 in
theorem proof_any (g : Nat) (a : Option Addr) (len cap : Nat) (xs : List Int) (w : World) (hg : Blk w g 90 (brC (.slice a len cap) 0)) (hs : Sl w a len cap xs) :
    Calls Tryd.prog 52 #[.pointer (some ⟨g, 0, none⟩)] w fun e w' => Chg g w w' ∧ ((DkNo xs ∧ e = .panicked PE) ∨
      ∃ n v, DkOK xs n ∧ e = .returned (.agg (pfC (xs.getD 0 0) (rdV xs 1 8) (rdV xs 9 8) v).toArray) ∧ DOwn w' w.heap.size v n (xs.drop 18)) := by
  have hr := hs.hreach
  have G := hide hg
  have S := hide hs
  have HL := hide hs.hlen
  have SA := hide hs.lt
  clear hg hs
  go_enter Tryd.func52, Tryd.ntmps52
  go_wp2_with (refine step_alloc zP rfl ?_)
  intro w1 g2 hr1 hl1 hb1
  have B1 := hide hb1
  have R2 := hide hr1
  have hgl : g < w.heap.size := G.out.lt
  replace G := hide (G.out.on hb1)
  replace S := hide (S.out.below hb1)
  clear hr1 hb1
  go_wp2_with fail
  by_cases h1 : 0 < len
  rotate_left
  · refine (one_no g a len cap 0 w1 G.out (by omega) (by omega)).mono ?_
    rintro e w2 ⟨rfl, hb2⟩
    refine ⟨rfl, (Chg.of_below B1.out).trans (Chg.of_but hb2), .inl ⟨fun n h => ?_, rfl⟩⟩
    have := h.len
    rw [HL.out] at this
    omega
  refine (one_ok g a len cap xs 0 w1 G.out S.out h1).mono ?_
  rintro e w2 ⟨rfl, hg2, hb2⟩
  obtain ⟨k0, hk0⟩ : ∃ z, xs.getD 0 0 = z := ⟨_, rfl⟩
  rw [hk0]
  have S2 := hide (S.out.but hb2 (br_apart (n := 0) G.out S.out))
  have R2b := hide (R2.out.but hb2 (by omega))
  have G2 := hide hg2
  have CH2 : Hid (Chg g w w2) := hide ((Chg.of_below B1.out).trans (Chg.of_but hb2))
  have hsz2 := hb2.size
  have hb1s := B1.out.size
  clear hg2 hb2 G S R2
  go_wp2_with (first | (refine step_buildP rfl rfl ?_) | (refine step_alloc zP rfl ?_; intro w3 g3 hr3 hl3 hb3; have G3 := hide hr3; clear hr3) | (refine step_storeA wP rfl rfl rfl G3.out rfl (One.pf _ _ _ _ _ _) rfl ?_; intro w4 hg4 hbut4))
  have P : Hid (PV w w4 g g2 g3 a len cap xs 1 (pfC k0 0 0 (.slice none 0 0))) := hide (by
    have := G2.out.lt
    have := R2b.out.lt
    exact ⟨(G2.out.on hb3).but hbut4 (by omega), (S2.out.below hb3).but hbut4 (S2.out.apart hl3), (R2b.out.on hb3).but hbut4 (by omega), hg4, (CH2.out.trans (Chg.of_below hb3)).fresh hbut4 (by omega), hgl, hl1, by omega, by omega⟩)
  clear hg4 hbut4 hb3 hl3 G3 G2 S2 R2b CH2 B1 hsz2 hb1s
  by_cases h2 : 9 ≤ len ∧ rdV xs 1 8 ≤ 281474976710656
  rotate_left
  · refine (numI_no g a len cap xs 1 1 _ rfl P.out.r P.out.s (by omega)).mono ?_
    rintro e w5 ⟨rfl, hb5⟩
    refine ⟨rfl, P.out.ch.trans (Chg.of_but hb5), .inl ⟨fun n h => h2 ⟨?_, h.f⟩, rfl⟩⟩
    have := h.len
    rw [HL.out] at this
    omega
  refine (numI g a len cap xs 1 1 9 _ rfl rfl P.out.r P.out.s (by omega) h2.2).mono ?_
  rintro e w5 ⟨rfl, hg5, hb5⟩
  obtain ⟨f0, hf0⟩ : ∃ z, rdV xs 1 8 = z := ⟨_, rfl⟩
  rw [hf0] at h2 ⊢
  replace P := hide (P.out.rd (Chg.of_but hb5) hg5)
  clear hg5 hb5
  obtain ⟨c30, c31, c32, c33⟩ := pf_at P.out.r3
  have hz1 := P.out.r3.free 1
  have P5 := hide (P.out.set (But.setCell w5 g3 1 (.int .i64 f0)) (P.out.r3.set 1 (.int .i64 f0)))
  go_wp2_with fail
  by_cases h3 : 17 ≤ len ∧ rdV xs 9 8 ≤ 281474976710656
  rotate_left
  · refine (numI_no g a len cap xs 9 9 _ rfl P5.out.r P5.out.s (by omega)).mono ?_
    rintro e w6 ⟨rfl, hb6⟩
    refine ⟨rfl, P5.out.ch.trans (Chg.of_but hb6), .inl ⟨fun n h => h3 ⟨?_, h.s⟩, rfl⟩⟩
    have := h.len
    rw [HL.out] at this
    omega
  refine (numI g a len cap xs 9 9 17 _ rfl rfl P5.out.r P5.out.s (by omega) h3.2).mono ?_
  rintro e w6 ⟨rfl, hg6, hb6⟩
  obtain ⟨s0, hs0⟩ : ∃ z, rdV xs 9 8 = z := ⟨_, rfl⟩
  rw [hs0] at h3 ⊢
  have P6 := hide (P5.out.rd (Chg.of_but hb6) hg6)
  clear hg6 hb6 P P5 c30 c31 c32 c33 hz1
  obtain ⟨c30, c31, c32, c33⟩ := pf_at P6.out.r3
  have hz2 := P6.out.r3.free 2
  have P7 : Hid (PV w (w6.setCell ⟨g3, 2, none⟩ (.int .i64 s0)) g g2 g3 a len cap xs 17 (pfC k0 f0 s0 (.slice none 0 0))) := hide (P6.out.set (But.setCell w6 g3 2 (.int .i64 s0)) (P6.out.r3.set 2 (.int .i64 s0)))
  go_wp2_with (first | (refine step_loadA wP rfl rfl P7.out.r3 rfl ?_) | fail)
  refine (dgs_any k0 f0 s0 _ _).mono ?_
  rintro r w8 ⟨rfl, hb8⟩
  have P8 := hide (P7.out.on hb8)
  clear hb8 P7 P6 c30 c31 c32 c33 hz2
  obtain ⟨c, hc⟩ : ∃ c, pcnt k0 f0 s0 = c := ⟨_, rfl⟩
  rw [hc]
  cases c with
  | none =>
    go_wp2_with fail
    refine (need_no _).mono ?_
    rintro e w9 ⟨rfl, rfl⟩
    refine ⟨rfl, P8.out.ch, .inl ⟨fun n h => ?_, rfl⟩⟩
    have := h.c
    rw [hk0, hf0, hs0, hc] at this
    cases this
  | some n =>
    have hn49 := pcnt_le hc
    go_wp2_with fail
    by_cases h4 : 17 < len
    rotate_left
    · refine (one_no g a len cap 17 _ P8.out.r (by omega) (by omega)).mono ?_
      rintro e w9 ⟨rfl, hb9⟩
      refine ⟨rfl, P8.out.ch.trans (Chg.of_but hb9), .inl ⟨fun n h => ?_, rfl⟩⟩
      have := h.len
      rw [HL.out] at this
      omega
    refine (oneI g a len cap xs 17 17 18 _ rfl rfl P8.out.r P8.out.s h4).mono ?_
    rintro e w9 ⟨rfl, hg9, hb9⟩
    have P9 := hide (P8.out.rd (Chg.of_but hb9) hg9)
    clear hg9 hb9 P8
    obtain ⟨t0, ht0⟩ : ∃ z, xs.getD 17 0 = z := ⟨_, rfl⟩
    rw [ht0]
    by_cases h5 : t0 = (n : Int)
    rotate_left
    · have h5' : (t0 == (n : Int)) = false := by simpa using h5
      go_wp2_with fail
      refine (need_no _).mono ?_
      rintro e w10 ⟨rfl, rfl⟩
      refine ⟨rfl, P9.out.ch, .inl ⟨fun m h => ?_, rfl⟩⟩
      have h6 := h.c
      rw [hk0, hf0, hs0, hc] at h6
      obtain rfl := Option.some.inj h6
      have := h.t
      rw [ht0] at this
      exact h5 this
    subst h5
    go_wp2_with fail
    refine (need_ok _).mono ?_
    rintro e w10 ⟨rfl, rfl⟩
    obtain ⟨c30, c31, c32, c33⟩ := pf_at P9.out.r3
    go_wp2_with (refine step_makeD n rfl rfl rfl rfl rfl (by omega) ?_)
    intro w11 gs hrs hls hbs
    have P11 := hide (P9.out.on hbs)
    have hg3 := P9.out.r3.lt
    have hg2l := P9.out.r2.lt
    have hgsl : w.heap.size ≤ gs := Nat.le_trans P9.out.ch.size hls
    have GS := hide hrs
    clear hrs hbs P9 c30 c31 c32 c33
    obtain ⟨c30, c31, c32, c33⟩ := pf_at P11.out.r3
    have hz3 := P11.out.r3.free 3
    have PW : Hid (PV w (w11.setCell ⟨g3, 3, none⟩ (.slice (some ⟨gs, 0, none⟩) n n)) g g2 g3 a len cap xs 18 (pfC k0 f0 s0 (.slice (some ⟨gs, 0, none⟩) n n))) := hide (P11.out.set (But.setCell w11 g3 3 _) (P11.out.r3.set 3 (.slice (some ⟨gs, 0, none⟩) n n)))
    have GW := hide (GS.out.but (But.setCell w11 g3 3 (.slice (some ⟨gs, 0, none⟩) n n)) (show gs ≠ g3 by omega))
    have n3 : g3 ≠ gs := by omega
    have e33 := (pf_at PW.out.r3).2.2.2
    have ng : g ≠ gs := by omega
    have n2 : g2 ≠ gs := by omega
    clear GS hls hg3 hg2l
    go_wp2_with fail
    generalize w11.setCell ⟨g3, 3, none⟩ (.slice (some ⟨gs, 0, none⟩) n n) = w12 at *
    clear P11 c30 c31 c32 c33 hz3 e33
    go_loopw [35] (fun i W => ∃ k : Nat, k ≤ n ∧ 18 + 32 * k ≤ len ∧ i = .int .i64 (k : Int) ∧ PV w W g g2 g3 a len cap xs ((18 + 32 * k : Nat) : Int) (pfC k0 f0 s0 (.slice (some ⟨gs, 0, none⟩) n n)) ∧ Blk W gs 45 (spl (u8s (zer (n * 32))) (u8s ((xs.drop 18).take (32 * k))) 0)) (fun i _ => n - (intOf i).toNat)
    case atStart => exact ⟨0, by omega, by omega, rfl, PW.out, by simpa [spl, u8s] using GW.out⟩
    case round =>
      obtain ⟨k, hkn, hkl, rfl, hP, hG⟩ := hrel
      have P := hide hP
      have GS := hide hG
      clear hP hG PW GW
      by_cases hlt : k < n
      · have hlt' : (k : Int) < (n : Int) := by omega
        have c33 := (pf_at P.out.r3).2.2.2
        go_wp2_with fail
        refine wp_region_held_drew (S := fun v : World => v.cell? ⟨g3, 3, none⟩ = some (.slice (some ⟨gs, 0, none⟩) n n)) (by kernel_rfl) c33 (fun hHeld => ?_)
        refine takeH 0 38 (.pointer (some ⟨g3, 3, none⟩)) hHeld rfl rfl (by kernel_rfl) (by kernel_rfl) (by kernel_rfl) (fun _ _ _ h => h) (Or.inl ⟨by rfl, fun w _ => by go_simp⟩) ?_
        simp only [Act.put, List.setIfInBounds_toArray, List.set_cons_zero, List.set_cons_succ]
        refine takeH 1 39 (.slice (some ⟨gs, 0, none⟩) n n) hHeld rfl rfl (by kernel_rfl) (by kernel_rfl) (by kernel_rfl) (fun _ _ _ h => h) (Or.inl ⟨by rfl, fun w hw => by have hw' : w.cell? ⟨g3, 3, none⟩ = some (.slice (some ⟨gs, 0, none⟩) n n) := id hw; go_simp⟩) ?_
        simp only [Act.put, List.setIfInBounds_toArray, List.set_cons_zero, List.set_cons_succ]
        refine takeH 2 40 (.int .i64 (k : Int)) hHeld rfl rfl (by kernel_rfl) (by kernel_rfl) (by kernel_rfl) (fun _ _ _ h => h) (Or.inl ⟨by rfl, fun w _ => by go_simp⟩) ?_
        simp only [Act.put, List.setIfInBounds_toArray, List.set_cons_zero, List.set_cons_succ]
        refine takeH 3 41 (.pointer (some ⟨g, 0, none⟩)) hHeld rfl rfl (by kernel_rfl) (by kernel_rfl) (by kernel_rfl) (fun _ _ _ h => h) (Or.inl ⟨by rfl, fun w _ => by go_simp⟩) ?_
        simp only [Act.put, List.setIfInBounds_toArray, List.set_cons_zero, List.set_cons_succ]
        refine wpAnyH_ready (rs := [4]) (by kernel_rfl) (by simp) (AllReadyH.cons rfl (fun K hK => ?_) AllReadyH.nil)
        rw [if_pos (by rfl)]
        go_simp
        have PD := hide (P.out.on ((Below.refl wr.heap.size wr).drew))
        have GD : Hid (Blk wr.drew gs 45 (spl (u8s (zer (n * 32))) (u8s ((xs.drop 18).take (32 * k))) 0)) := hide (GS.out.on ((Below.refl wr.heap.size wr).drew))
        by_cases h6 : 18 + 32 * k + 32 ≤ len
        rotate_left
        · refine (dig_no g a len cap (18 + 32 * k) _ PD.out.r hr (by omega)).mono ?_
          rintro e w13 ⟨rfl, hc13⟩
          refine ⟨rfl, PD.out.ch.trans hc13, .inl ⟨fun m h => ?_, rfl⟩⟩
          have h7 := h.c
          rw [hk0, hf0, hs0, hc] at h7
          obtain rfl := Option.some.inj h7
          have := h.len
          rw [HL.out] at this
          omega
        refine (dig_ok g a len cap xs (18 + 32 * k) _ PD.out.r PD.out.s h6).mono ?_
        rintro e w13 ⟨rfl, hg13, hc13⟩
        have P13 := hide (PD.out.rd hc13 hg13)
        have G13 := hide (GD.out.chg hc13 ng.symm)
        have HU := hide (show (u8s ((xs.drop (18 + 32 * k)).take 32)).length = 32 by rw [u8s_length, List.length_take, List.length_drop, HL.out]; omega)
        have HSP := hide (spl_dig xs n k hlt (by rw [HL.out]; omega))
        clear hg13 hc13 PD GD c33
        refine hK.out _ _ (pf_at P13.out.r3).2.2.2 (fun hHeld => ?_)
        clear hK K
        try simp only [Act.put, List.setIfInBounds_toArray, List.set_cons_zero, List.set_cons_succ]
        refine takeH 5 43 (.pointer (some ⟨gs, 0 + 32 * k, none⟩)) hHeld rfl rfl (by kernel_rfl) (by kernel_rfl) (by kernel_rfl) (fun _ _ _ h => h) (Or.inl ⟨by rfl, fun w _ => run_op rfl ((d_at gs 0 n n k (k : Int) rfl hlt) w)⟩) ?_
        simp only [Act.put, List.setIfInBounds_toArray, List.set_cons_zero, List.set_cons_succ]
        refine wpAnyH_ready (rs := [6]) (by kernel_rfl) (by simp) (AllReadyH.cons rfl (fun K hK => ?_) AllReadyH.nil)
        rw [if_pos (by rfl)]
        refine wp_storeW wD rfl rfl rfl G13.out HU.out (One.u8 _) (by rw [spl_length _ _ _ (by rw [u8s_length, u8s_length, zer_length, List.length_take, List.length_drop]; omega), u8s_length, zer_length]; omega) ?_
        intro w14 hg14 hb14
        rw [Nat.zero_add, HSP.out] at hg14
        have P14 : Hid (PV w w14 g g2 g3 a len cap xs ((18 + 32 * (k + 1) : Nat) : Int) (pfC k0 f0 s0 (.slice (some ⟨gs, 0, none⟩) n n))) := hide (by
          have q := P13.out
          rw [show 18 + 32 * k + 32 = 18 + 32 * (k + 1) by omega] at q
          exact ⟨q.r.but hb14 ng, q.s.but hb14 (fun h0 x hx e => by have := SA.out h0 x hx; omega), q.r2.but hb14 n2, q.r3.but hb14 n3, q.ch.fresh hb14 hgsl, q.gl, q.l2, q.l3, q.n23⟩)
        refine hK.out _ _ (pf_at P14.out.r3).2.2.2 (fun hHeld => ?_)
        clear hK K
        simp only [Act.put]
        refine wpAnyH_done (by kernel_rfl) ?_ _
        clear hHeld
        go_wp2
        exact ⟨⟨k + 1, by omega, by omega, by go_num, P14.out, hg14⟩, by simp [intOf]; omega⟩
      · obtain rfl : k = n := by omega
        have hxx : ¬ ((k : Int) < (k : Int)) := by omega
        obtain ⟨pp, hpp⟩ : ∃ pp, 18 + 32 * k = pp := ⟨_, rfl⟩
        have HPP := hide hpp
        rw [hpp] at P
        clear hpp hlt hkn
        obtain ⟨c0, c1⟩ := br_at P.out.r
        by_cases h8 : pp = len
        · subst h8
          go_wp2_with fail
          go_quiet (first | (go_at_call 71; exact Calls.quiet_of_same (need_ok _)))
          have PQ := hide (P.out.on (below_drewN (Below.refl wr.heap.size wr) nq))
          have GQ := hide (GS.out.drewN nq)
          clear P GS c0 c1
          generalize wr.drewN nq = wq at *
          go_wp2_with (first | (refine step_loadA wP rfl rfl PQ.out.r3 rfl ?_) | (refine step_storeA wP rfl rfl rfl PQ.out.r2 rfl (One.pf _ _ _ _ _ _) rfl ?_; intro w20 hg20 hb20))
          refine bodyPost_ret (results_wide rfl wP _ _ rfl hg20 rfl) rfl ⟨PQ.out.ch.fresh hb20 PQ.out.l2, .inr ⟨k, _, ?_, by rw [hk0, hf0, hs0], ?_⟩⟩
          · exact ⟨by rw [HL.out]; exact HPP.out.symm, by omega, by omega, by rw [hk0, hf0, hs0]; exact hc, ht0⟩
          · have hxl : (xs.drop 18).length = k * 32 := by rw [List.length_drop, HL.out]; have := HPP.out; omega
            have e := GQ.out.but hb20 n2.symm
            rw [List.take_of_length_le (by omega), spl_full (by rw [u8s_length, u8s_length, zer_length, hxl])] at e
            exact DOwn.of_blk e hgsl hxl (by omega)
        · have hne : ((pp : Int) == (len : Int)) = false := by simp; omega
          have hpl : pp ≤ len := by rw [← HPP.out]; exact hkl
          go_wp2_with fail
          refine wp_region_held_drew (S := fun v : World => v.cell? ⟨g, 0, none⟩ = some (.slice a len cap) ∧ v.cell? ⟨g, 1, none⟩ = some (.int .i64 (pp : Int))) (by kernel_rfl) ⟨c0, c1⟩ (fun hHeld => ?_)
          refine takeH 0 45 (.pointer (some ⟨g, 0, none⟩)) hHeld rfl rfl (by kernel_rfl) (by kernel_rfl) (by kernel_rfl) (fun _ _ _ h => h) (Or.inl ⟨by rfl, fun w _ => by go_simp⟩) ?_
          simp only [Act.put, List.setIfInBounds_toArray, List.set_cons_zero, List.set_cons_succ]
          refine takeH 1 46 (.pointer (some ⟨g, 0, none⟩)) hHeld rfl rfl (by kernel_rfl) (by kernel_rfl) (by kernel_rfl) (fun _ _ _ h => h) (Or.inl ⟨by rfl, fun w _ => by go_simp⟩) ?_
          simp only [Act.put, List.setIfInBounds_toArray, List.set_cons_zero, List.set_cons_succ]
          refine takeH 2 47 (.pointer (some ⟨g, 1, none⟩)) hHeld rfl rfl (by kernel_rfl) (by kernel_rfl) (by kernel_rfl) (fun _ _ _ h => h) (Or.inl ⟨by rfl, fun w _ => by go_simp⟩) ?_
          simp only [Act.put, List.setIfInBounds_toArray, List.set_cons_zero, List.set_cons_succ]
          refine takeH 3 48 (.int .i64 (pp : Int)) hHeld rfl rfl (by kernel_rfl) (by kernel_rfl) (by kernel_rfl) (fun _ _ _ h => h) (Or.inl ⟨by rfl, fun w hw => by have hw' : w.cell? ⟨g, 1, none⟩ = some (.int .i64 (pp : Int)) := And.right hw; go_simp⟩) ?_
          simp only [Act.put, List.setIfInBounds_toArray, List.set_cons_zero, List.set_cons_succ]
          refine takeH 4 49 (.pointer (some ⟨g, 0, none⟩)) hHeld rfl rfl (by kernel_rfl) (by kernel_rfl) (by kernel_rfl) (fun _ _ _ h => h) (Or.inl ⟨by rfl, fun w _ => by go_simp⟩) ?_
          simp only [Act.put, List.setIfInBounds_toArray, List.set_cons_zero, List.set_cons_succ]
          refine takeH 5 50 (.pointer (some ⟨g, 0, none⟩)) hHeld rfl rfl (by kernel_rfl) (by kernel_rfl) (by kernel_rfl) (fun _ _ _ h => h) (Or.inl ⟨by rfl, fun w _ => by go_simp⟩) ?_
          simp only [Act.put, List.setIfInBounds_toArray, List.set_cons_zero, List.set_cons_succ]
          refine takeH 6 51 (.pointer (some ⟨g, 0, none⟩)) hHeld rfl rfl (by kernel_rfl) (by kernel_rfl) (by kernel_rfl) (fun _ _ _ h => h) (Or.inl ⟨by rfl, fun w _ => by go_simp⟩) ?_
          simp only [Act.put, List.setIfInBounds_toArray, List.set_cons_zero, List.set_cons_succ]
          refine takeH 7 52 (.slice a len cap) hHeld rfl rfl (by kernel_rfl) (by kernel_rfl) (by kernel_rfl) (fun _ _ _ h => h) (Or.inl ⟨by rfl, fun w hw => by have hw' : w.cell? ⟨g, 0, none⟩ = some (.slice a len cap) := And.left hw; go_simp⟩) ?_
          simp only [Act.put, List.setIfInBounds_toArray, List.set_cons_zero, List.set_cons_succ]
          refine takeH 8 53 (.int .i64 (len : Int)) hHeld rfl rfl (by kernel_rfl) (by kernel_rfl) (by kernel_rfl) (fun _ _ _ h => h) (Or.inl ⟨by rfl, fun w _ => by go_simp⟩) ?_
          simp only [Act.put, List.setIfInBounds_toArray, List.set_cons_zero, List.set_cons_succ]
          refine takeH 9 54 (.bool false) hHeld rfl rfl (by kernel_rfl) (by kernel_rfl) (by kernel_rfl) (fun _ _ _ h => h) (Or.inl ⟨by rfl, fun w _ => by go_simp⟩) ?_
          simp only [Act.put, List.setIfInBounds_toArray, List.set_cons_zero, List.set_cons_succ]
          refine wpAnyH_ready (rs := [10]) (by kernel_rfl) (by simp) (AllReadyH.cons rfl (fun K hK => ?_) AllReadyH.nil)
          rw [if_pos (by rfl)]
          go_simp
          refine (need_no _).mono ?_
          rintro e w15 ⟨rfl, rfl⟩
          refine ⟨rfl, P.out.ch.trans (chg_drew _ _), .inl ⟨fun m h => ?_, rfl⟩⟩
          have h7 := h.c
          rw [hk0, hf0, hs0, hc] at h7
          obtain rfl := Option.some.inj h7
          have := h.len
          rw [HL.out] at this
          have := HPP.out
          omega

end Go.Proofs.YtojepbapdjkknaaDoor

/-
  wire.Decode: what is given up is caught.
-/
namespace Go.Proofs.YtojepbapdjkknaaDoor
open Go.RowKit
set_option linter.unusedVariables false
set_option linter.unusedSimpArgs false

theorem zE : Zeroed 27 [.int .i64 0] := fun _ _ _ _ _ _ _ => by kernel_rfl
section
variable {dst : Option Tmp} {ty : TypeId} {pos : String} {aft : Array Edge} {gd : Option (Nat × Bool)} {ops : Array Oper} {rest : List Oper} {a : Act} {w : World} {Q : Exit → Act → World → Prop}
theorem step_buildP0 (hw : Region.wanted ⟨dst, .build 24 #[], ty, pos, aft, gd⟩ (yielded ops a.tmps) = true)
    (h : wpList Tryd.prog ops Q rest (a.put dst (.agg (pfC 0 0 0 (.slice none 0 0)).toArray)) w) : wpList Tryd.prog ops Q (⟨dst, .build 24 #[], ty, pos, aft, gd⟩ :: rest) a w :=
  step_run hw _ w (by kernel_rfl) h
theorem step_buildBr {x : Operand} {v : Value} {sa : Option Addr} {m c : Nat} (hw : Region.wanted ⟨dst, .build 90 #[(0, x)], ty, pos, aft, gd⟩ (yielded ops a.tmps) = true) (hx : a.eval x = .slice sa m c)
    (h : wpList Tryd.prog ops Q rest (a.put dst (.agg (brC (.slice sa m c) 0).toArray)) w) : wpList Tryd.prog ops Q (⟨dst, .build 90 #[(0, x)], ty, pos, aft, gd⟩ :: rest) a w :=
  step_run hw _ w (by simp only [execOp, List.map_toArray, List.map_cons, List.map_nil, hx]; kernel_rfl) h
end
/-- The deferred function where nothing was given up. -/
theorem caught_idle (p q : Addr) (w : World) :
    CallsD Tryd.prog 51 #[.pointer (some p), .pointer (some q)] .returning w fun e u' w' => e = .returned (.tuple #[]) ∧ u' = .returning ∧ w' = w := by
  refine callsD_of_wpS Tryd.func51 rfl fun c₀ cs hu => ?_
  apply wpS_seq
  apply wpS_region
  simp [wpOpsS, go_sem, recoverD, hu, Tryd.ntmps51, Exit.thenS]
  refine wpS_cond (t := false) (by simp [Act.eval, Array.replicate]) ?_
  simp only [Bool.false_eq_true, if_false]
  refine wpS_of_wp (wp_skip ?_)
  cases c₀
  simp_all [bodyPostS, results, Tryd.results51]
theorem wS1 : Tryd.prog.underlying 27 = some (.int .i64) := by kernel_rfl
set_option maxRecDepth 100000 in
theorem caught (gp ge : Nat) (u : TypeId) (pv : Value) (older : List PanicEntry) (cs0 : List Value) (y : Int) (w : World) (hp : Blk w gp 24 cs0) (hl : cs0.length = 4) (he : Blk w ge 27 [.int .i64 y]) (hne : gp ≠ ge) :
    CallsD Tryd.prog 51 #[.pointer (some ⟨gp, 0, none⟩), .pointer (some ⟨ge, 0, none⟩)] (.panicking ({ v := .iface u pv, recovered := false } :: older)) w fun e u' w' =>
      e = .returned (.tuple #[]) ∧ u' = .panicking ({ v := .iface u pv, recovered := true } :: older) ∧ Blk w' gp 24 (pfC 0 0 0 (.slice none 0 0)) ∧ Blk w' ge 27 [.int .i64 80] ∧ (∀ i, i ≠ gp → i ≠ ge → w'.heap[i]? = w.heap[i]?) ∧ w'.os = w.os ∧ w'.tape = w.tape ∧ w'.output = w.output ∧ w'.heap.size = w.heap.size := by
  refine callsD_of_wpS Tryd.func51 rfl fun c₀ cs hu => ?_
  apply wpS_seq
  apply wpS_region
  simp [wpOpsS, go_sem, recoverD, hu, Tryd.ntmps51, Exit.thenS]
  refine wpS_cond (t := true) (by simp [Act.eval, Array.replicate]) ?_
  simp only [if_true]
  refine wpS_of_wp ?_
  go_wp2_with (first | (refine step_buildP0 rfl ?_) | (refine step_storeA wP rfl rfl rfl hp rfl (One.pf _ _ _ _ _ _) hl ?_; intro w1 hg1 hb1; have c0 := (he.but hb1 hne.symm).cell 0; have z0 := (he.but hb1 hne.symm).free 0; simp at c0))
  simp [bodyPostS, results, Tryd.results51]
  exact ⟨hg1.but (But.setCell _ _ _ _) hne, (he.but hb1 hne.symm).set 0 (.int .i64 80), fun i h1 h2 => by rw [(But.setCell w1 ge 0 (.int .i64 80)).block i h2]; exact hb1.block i h1, hb1.os, hb1.tape, hb1.output, hb1.size⟩
theorem zBr : Zeroed 90 (brC (.slice none 0 0) 0) := fun _ _ _ _ _ _ _ => by kernel_rfl
theorem One.br (a : Option Addr) (l c : Nat) (p : Int) : One (brC (.slice a l c) p) := by
  intro v hv
  simp only [brC, List.mem_cons, List.not_mem_nil, or_false] at hv
  rcases hv with rfl | rfl <;> rfl

theorem DOwn.but {w w' : World} {B g : Nat} {v : Value} {n : Nat} {xs : List Int} (h : DOwn w B v n xs) (hb : But g w w') (hg : g < B) : DOwn w' B v n xs := by
  obtain ⟨h1, h2⟩ := h
  refine ⟨h1, ?_⟩
  rcases h2 with h2 | ⟨k, cap, cur, e, hB, hh, r⟩
  · exact .inl h2
  · exact .inr ⟨k, cap, cur, e, hB, by rw [hb.block k (by omega)]; exact hh, r⟩
theorem results_cc {fn : Func} {p q : Tmp} {T : TypeId} (h : fn.results = #[.cell p T, .cell q 27]) {n : Nat} (hT : Wide T n) (tmps : Array Value) (w : World)
    {g : Nat} {t : TypeId} {cs : List Value} (hp : tmps.getD p undef = .pointer (some ⟨g, 0, none⟩)) (hg : Blk w g t cs) (hl : cs.length = n) {k : Nat} {t' : TypeId} {y : Int} (hq : tmps.getD q undef = .pointer (some ⟨k, 0, none⟩)) (hk : Blk w k t' [.int .i64 y]) :
    (results fn tmps).run Tryd.prog w = .ok (.tuple #[.agg cs.toArray, .int .i64 y]) w := by
  have hp' : tmps[p]?.getD undef = .pointer (some ⟨g, 0, none⟩) := by simpa using hp
  have hq' : tmps[q]?.getD undef = .pointer (some ⟨k, 0, none⟩) := by simpa using hq
  have hc : w.cell? ⟨k, 0, none⟩ = some (.int .i64 y) := by rw [hk.cell]; rfl
  have hE : (loadVar 27 ⟨k, 0, none⟩).run Tryd.prog w = .ok (.int .i64 y) w := by simp [go_sem, hc]
  obtain ⟨d, hu, hd⟩ := hT.und
  simp [results, h, hp', hq', asAddr, run_loadVar_mid w g 0 T cs d (hg.range 0 cs (by simp)) hu hd (by rw [hT.size, hl]), hE]

set_option maxRecDepth 100000 in
set_option maxHeartbeats 1000000 in
theorem decode_any (a : Option Addr) (len cap : Nat) (xs : List Int) (w : World) (hs : Sl w a len cap xs) :
    Calls Tryd.prog 24 #[.slice a len cap] w fun e w' => Below w.heap.size w w' ∧ ((DkNo xs ∧ e = .returned (.tuple #[.agg (pfC 0 0 0 (.slice none 0 0)).toArray, .int .i64 80])) ∨
      ∃ n v, DkOK xs n ∧ e = .returned (.tuple #[.agg (pfC (xs.getD 0 0) (rdV xs 1 8) (rdV xs 9 8) v).toArray, .int .i64 0]) ∧ DOwn w' w.heap.size v n (xs.drop 18)) := by
  have hmf : ∀ (fn : Fn) (first cap : Array Value) (w : World), (Instr.makeFunc fn first cap).run Tryd.prog w = .ok (.func fn first cap) w := fun _ _ _ _ => rfl
  have S := hide hs
  clear hs
  go_enter_defers Tryd.func24, Tryd.ntmps24
  go_wp2_with (refine step_alloc zP rfl ?_)
  intro w1 gp hr1 hl1 hb1
  go_wp2_with (refine step_alloc zE rfl ?_)
  intro w2 ge hr2 hl2 hb2
  have RP := hide (hr1.on hb2)
  have RE := hide hr2
  have B2 := hide (on_below hb1 hb2)
  have npe : gp ≠ ge := by have := hr1.lt; omega
  have hle : w.heap.size ≤ ge := Nat.le_trans hb1.size hl2
  clear hr1 hr2 hb1 hb2
  go_wp2_with (first | (refine step_buildBr (v := undef) rfl rfl ?_) | (refine step_alloc zBr rfl ?_; intro w3 g hr3 hl3 hb3; have R3 := hide hr3; clear hr3) | (refine step_storeA wBr rfl rfl rfl R3.out rfl (One.br _ _ _ _) rfl ?_; intro w4 hg4 hbut4))
  have lgp := RP.out.lt
  have lge := RE.out.lt
  have RP4 := hide ((RP.out.on hb3).but hbut4 (by omega))
  have RE4 := hide ((RE.out.on hb3).but hbut4 (by omega))
  have S4 := hide (((S.out.below B2.out).below hb3).but hbut4 ((S.out.below B2.out).apart hl3))
  have B4 := hide (new_below B2.out hb3 hl3 hbut4)
  have G4 := hide hg4
  have hgw : w.heap.size ≤ g := Nat.le_trans B2.out.size hl3
  clear hg4 hbut4 hb3 R3 RP RE S B2
  refine (proof_any g a len cap xs w4 G4.out S4.out).mono ?_
  rintro e w5 ⟨hc5, ⟨hno, rfl⟩ | ⟨n, v, hok, rfl, hown⟩⟩
  · have RP5 := hide (RP4.out.chg hc5 (by omega))
    have RE5 := hide (RE4.out.chg hc5 (by omega))
    have B5 := hide (B4.out.trans (hc5.below hgw B4.out.size))
    clear hc5
    refine leaves_cons (f := 51) (args := #[.pointer (some ⟨gp, 0, none⟩), .pointer (some ⟨ge, 0, none⟩)]) (by simp) (by simp [go_sem]) ?_
    refine (caught gp ge _ _ [] _ _ _ RP5.out rfl RE5.out npe).mono ?_
    rintro e u' w6 ⟨rfl, rfl, h1, h2, h3, h4, h5, h6, h7⟩
    simp only [Leaves, settle, List.dropWhile_nil]
    refine ⟨_, results_cc rfl wP _ _ rfl h1 rfl rfl h2, ?_, .inl ⟨hno, rfl⟩⟩
    exact B5.out.trans ⟨h4, h5, h6, Nat.le_of_eq h7.symm, fun k hk => h3 k (by omega) (by omega)⟩
  · have RP5 := hide (RP4.out.chg hc5 (by omega))
    have RE5 := hide (RE4.out.chg hc5 (by omega))
    have B5 := hide (B4.out.trans (hc5.below hgw B4.out.size))
    have D5 := hide hown
    obtain ⟨va, vc, rfl⟩ : ∃ va vc, v = .slice va n vc := by
      rcases hown.2 with ⟨rfl, h0⟩ | ⟨k, cap, cur, rfl, _⟩
      · exact ⟨none, 0, by rw [h0]⟩
      · exact ⟨_, _, rfl⟩
    obtain ⟨k0, hk0⟩ : ∃ z, xs.getD 0 0 = z := ⟨_, rfl⟩
    obtain ⟨f0, hf0⟩ : ∃ z, rdV xs 1 8 = z := ⟨_, rfl⟩
    obtain ⟨s0, hs0⟩ : ∃ z, rdV xs 9 8 = z := ⟨_, rfl⟩
    rw [hk0, hf0, hs0]
    have HO := hide hok
    clear hc5 hown hok
    go_wp2_with (first | (refine step_storeA wP rfl rfl rfl RP5.out rfl (One.pf _ _ _ _ _ _) rfl ?_; intro w6 hg6 hb6; have c0 : w6.cell? ⟨ge, 0, none⟩ = some (.int .i64 0) := (by rw [(RE5.out.but hb6 npe.symm).cell]; rfl); have z0 := (RE5.out.but hb6 npe.symm).free 0))
    refine leaves_cons (f := 51) (args := #[.pointer (some ⟨gp, 0, none⟩), .pointer (some ⟨ge, 0, none⟩)]) (by simp) (by simp [go_sem]) ?_
    refine (caught_idle ⟨gp, 0, none⟩ ⟨ge, 0, none⟩ _).mono ?_
    rintro e u' w7 ⟨rfl, rfl, rfl⟩
    simp only [Leaves, settle]
    have lg := G4.out.lt
    refine ⟨_, results_cc rfl wP _ _ rfl (hg6.but (But.setCell _ _ _ _) npe) rfl rfl ((RE5.out.but hb6 npe.symm).set 0 (.int .i64 0)), ?_, .inr ⟨n, _, HO.out, by rw [hk0, hf0, hs0], ?_⟩⟩
    · exact (B5.out.trans (hb6.below hl1)).trans ((But.setCell w6 ge 0 (.int .i64 0)).below hle)
    · exact ((D5.out.but hb6 (by omega)).but (But.setCell w6 ge 0 (.int .i64 0)) (by omega)).base B4.out.size
end Go.Proofs.YtojepbapdjkknaaDoor

/-
  The document's Decode.
-/
namespace Go.Proofs.YtojepbapdjkknaaDoor
open Go.RowKit
set_option linter.unusedVariables false
set_option linter.unusedSimpArgs false

theorem DOwn.blk8 {w : World} {B g : Nat} {v : Value} {n : Nat} {xs : List Int} (h : DOwn w B v n xs) (hg : v.ownBlock = some g) : ∃ cs, Blk w g 45 cs := by
  rcases h.2 with ⟨rfl, _⟩ | ⟨k, cap, cur, rfl, _, hh, _⟩
  · cases hg
  · simp only [Value.ownBlock, Option.some.injEq] at hg
    subst hg
    exact ⟨cur.toList, by unfold Blk; simpa using hh⟩
theorem DOwn.apart8 {w : World} {B g : Nat} {v : Value} {n : Nat} {xs : List Int} {t : TypeId} {cs : List Value} (h : DOwn w B v n xs) (hg : Blk w g t cs) (ht : t ≠ 45) : v.ownBlock ≠ some g := by
  intro e
  obtain ⟨cs', hb⟩ := h.blk8 e
  rw [Blk, hb] at hg
  injection hg with hg
  injection hg with _ h2 _
  exact ht h2.symm
theorem DOwn.slice8 {w : World} {B : Nat} {v : Value} {n : Nat} {xs : List Int} (h : DOwn w B v n xs) : ∃ a c, v = .slice a n c := by
  rcases h.2 with ⟨rfl, h0⟩ | ⟨_, _, _, rfl, _⟩
  · exact ⟨none, 0, by rw [h0]⟩
  · exact ⟨_, _, rfl⟩
theorem DOwn.but8 {w w' : World} {B g : Nat} {v : Value} {n : Nat} {xs : List Int} (h : DOwn w B v n xs) (hb : But g w w') (hg : v.ownBlock ≠ some g) : DOwn w' B v n xs := by
  obtain ⟨h1, h2⟩ := h
  refine ⟨h1, ?_⟩
  rcases h2 with h2 | ⟨k, cap, cur, rfl, hB, hh, r⟩
  · exact .inl h2
  · exact .inr ⟨k, cap, cur, rfl, hB, by rw [hb.block k (fun e => hg (by rw [← e]; rfl))]; exact hh, r⟩
theorem ds_one8 {W : World} {g : Nat} {d : List Int} (h : Blk W g 45 (u8s d)) (hd : d.length = 32) (hb : isB d) : Ds W (some ⟨g, 0, none⟩) 1 1 d := by
  have hs := h.sl0 hb (by omega)
  rw [hd] at hs
  exact ⟨Nat.le_refl _, by omega, (fun e => by cases e), hs⟩
section
variable {dst : Option Tmp} {ty : TypeId} {pos : String} {aft : Array Edge} {gd : Option (Nat × Bool)} {ops : Array Oper} {rest : List Oper} {a : Act} {w : World} {Q : Exit → Act → World → Prop}
set_option maxRecDepth 100000 in
theorem step_one8 {x : Operand} {ds : List Int} (hw : Region.wanted ⟨dst, .buildSlice 22 1 #[(0, x)], ty, pos, aft, gd⟩ (yielded ops a.tmps) = true) (hx : a.eval x = .agg (u8s ds).toArray) (hd : ds.length = 32)
    (h : ∀ w1 g, Blk w1 g 45 (u8s ds) → w.heap.size ≤ g → Below w.heap.size w w1 → wpList Tryd.prog ops Q rest (a.put dst (.slice (some ⟨g, 0, none⟩) 1 1)) w1) :
    wpList Tryd.prog ops Q (⟨dst, .buildSlice 22 1 #[(0, x)], ty, pos, aft, gd⟩ :: rest) a w := by
  refine step_run hw (.slice (some ⟨w.heap.size, 0, none⟩) 1 1) (w.alloc (.cells (u8s ds).toArray 45)) ?_ (h _ _ (Blk.made _ _ _) (Nat.le_refl _) ((Below.refl _ _).alloc (Nat.le_refl _) _))
  unfold execOp
  simp only [List.map_toArray, List.map_cons, List.map_nil, hx]
  simp only [Sem.run_bind, build_D ds hd, Result.andThen_ok, Sem.run_pure]
theorem step_buildP3 {x y z : Operand} {K I N : Int} (hw : Region.wanted ⟨dst, .build 24 #[(0, x), (1, y), (2, z)], ty, pos, aft, gd⟩ (yielded ops a.tmps) = true) (hx : a.eval x = .int .i64 K) (hy : a.eval y = .int .i64 I) (hz : a.eval z = .int .i64 N)
    (h : wpList Tryd.prog ops Q rest (a.put dst (.agg (pfC K I N (.slice none 0 0)).toArray)) w) : wpList Tryd.prog ops Q (⟨dst, .build 24 #[(0, x), (1, y), (2, z)], ty, pos, aft, gd⟩ :: rest) a w :=
  step_run hw _ w (by simp only [execOp, List.map_toArray, List.map_cons, List.map_nil, hx, hy, hz]; kernel_rfl) h
end
/-- What the loop of the document's Decode keeps. -/
structure DD (w W : World) (g2 gp : Nat) (k0 f0 s0 : Int) (xs : List Int) (v : Value) (k : Nat) : Prop where
  c2 : Blk W g2 24 (pfC 0 0 0 (.slice none 0 0))
  cp : Blk W gp 24 (pfC k0 f0 s0 v)
  own : DOwn W w.heap.size v k ((xs.drop 18).take (32 * k))
  bel : Below w.heap.size w W
theorem DD.below {w W W' : World} {g2 gp : Nat} {k0 f0 s0 : Int} {xs : List Int} {v : Value} {k : Nat} (h : DD w W g2 gp k0 f0 s0 xs v k) (hb : Below W.heap.size W W') : DD w W' g2 gp k0 f0 s0 xs v k :=
  ⟨h.c2.on hb, h.cp.on hb, h.own.below hb, on_below h.bel hb⟩
theorem DD.next {w W W' : World} {g2 gp : Nat} {k0 f0 s0 : Int} {xs : List Int} {v v' : Value} {k : Nat} (h : DD w W g2 gp k0 f0 s0 xs v k) (hg : W.grownBy W' v.ownBlock) (ho : DOwn W' w.heap.size v' (k + 1) ((xs.drop 18).take (32 * k) ++ (xs.drop (18 + 32 * k)).take 32)) (hgp : w.heap.size ≤ gp) (h2p : g2 ≠ gp) :
    DD w (W'.setCell ⟨gp, 3, none⟩ v') g2 gp k0 f0 s0 xs v' (k + 1) := by
  have h2 := h.c2.grew hg (h.own.apart8 h.c2 (by decide))
  have hp := h.cp.grew hg (h.own.apart8 h.cp (by decide))
  have hbut := But.setCell W' gp 3 v'
  have e : (xs.drop 18).take (32 * (k + 1)) = (xs.drop 18).take (32 * k) ++ (xs.drop (18 + 32 * k)).take 32 := by rw [take_more, List.drop_drop]
  exact ⟨h2.but hbut h2p, hp.set 3 v', by rw [e]; exact ho.but8 hbut (ho.apart8 hp (by decide)), (h.bel.trans (Below.of_grown hg h.bel.size h.own.lt)).trans (hbut.below hgp)⟩
set_option maxRecDepth 100000 in
set_option maxHeartbeats 2000000 in
theorem decodeR_any (a : Option Addr) (len cap : Nat) (xs : List Int) (w : World) (hs : Sl w a len cap xs) :
    Calls Tryd.prog 47 #[.slice a len cap] w fun e w' => Below w.heap.size w w' ∧ ((DkNo xs ∧ e = .returned (.tuple #[.agg (pfC 0 0 0 (.slice none 0 0)).toArray, .int .i64 80])) ∨
      ∃ n v, DkOK xs n ∧ e = .returned (.tuple #[.agg (pfC (xs.getD 0 0) (rdV xs 1 8) (rdV xs 9 8) v).toArray, .int .i64 0]) ∧ DOwn w' w.heap.size v n (xs.drop 18)) := by
  have hr := hs.hreach
  have HL := hide hs.hlen
  by_cases h18 : len < 18
  · have hI : (len : Int) < 18 := by omega
    have HN : Hid (DkNo xs) := hide (fun n h => by have := h.len; rw [HL.out] at this; omega)
    clear hs
    go_enter Tryd.func47, Tryd.ntmps47
    go_wp2_with (refine step_alloc zP rfl ?_)
    intro w1 g2 hr1 hl1 hb1
    have R2 := hide hr1
    clear hr1
    go_wp2_with (first | (refine step_buildP0 rfl ?_) | (refine step_storeA wP rfl rfl rfl R2.out rfl (One.pf _ _ _ _ _ _) rfl ?_; intro w9 hg9 hb9))
    refine bodyPost_ret (results_wide2 rfl wP _ _ rfl hg9 rfl) rfl ⟨hb1.trans (hb9.below hl1), .inl ⟨HN.out, rfl⟩⟩
  have hI : ¬ (len : Int) < 18 := by omega
  have hI0 : (0 : Int) < (len : Int) := by omega
  have hI17 : (17 : Int) < (len : Int) := by omega
  obtain ⟨b, off, ea, hce⟩ := hs.hcell (by omega)
  have hc17 := hce 17 (by omega)
  have hc0 := hce 0 (by omega)
  rw [Nat.add_zero] at hc0
  have HB := hs.hbyte
  obtain ⟨m, hm⟩ : ∃ m : Nat, xs.getD 17 0 = (m : Int) := ⟨(xs.getD 17 0).toNat, by have := (HB.get 17).1; omega⟩
  have hm255 : m ≤ 255 := by have := (HB.get 17).2; omega
  rw [hm] at hc17
  have HM := hide hm
  have S := hide hs
  have hbl : b < w.heap.size := World.block_lt_of_cell? w _ hc0
  clear hs hce hm
  subst ea
  have hk0b := HB.get 0
  obtain ⟨k0, hk0⟩ : ∃ z, xs.getD 0 0 = z := ⟨_, rfl⟩
  rw [hk0] at hk0b hc0 ⊢
  have HK0 := hide hk0
  obtain ⟨hk00, hk01⟩ := hk0b
  have hmw : IntKind.i64.wrap (32 * (m : Int)) = 32 * (m : Int) := wrap_in _ (by omega) (by omega)
  have hmw2 : IntKind.i64.wrap (18 + 32 * (m : Int)) = 18 + 32 * (m : Int) := wrap_in _ (by omega) (by omega)
  clear hk0 HB
  by_cases hlen : len = 18 + 32 * m
  rotate_left
  · have hne : ((len : Int) != 18 + 32 * (m : Int)) = true := by simp; omega
    have HN : Hid (DkNo xs) := hide (fun n h => by
      have h1 := h.len; rw [HL.out] at h1
      have h2 := h.t; rw [HM.out] at h2
      omega)
    go_enter Tryd.func47, Tryd.ntmps47
    go_wp2_with (refine step_alloc zP rfl ?_)
    intro w1 g2 hr1 hl1 hb1
    have R2 := hide hr1
    have d17 := cell_kept hc17 hb1
    clear hr1
    go_wp2_with (first | (refine step_buildP0 rfl ?_) | (refine step_storeA wP rfl rfl rfl R2.out rfl (One.pf _ _ _ _ _ _) rfl ?_; intro w9 hg9 hb9))
    refine bodyPost_ret (results_wide2 rfl wP _ _ rfl hg9 rfl) rfl ⟨hb1.trans (hb9.below hl1), .inl ⟨HN.out, rfl⟩⟩
  have hne : ((len : Int) != 18 + 32 * (m : Int)) = false := by simp; omega
  have hle2 : len ≤ 8178 := by omega
  have HLN := hide hlen
  have hf := rdV8_bd xs S.out.hbyte 1
  have hss := rdV8_bd xs S.out.hbyte 9
  have hf' : 0 ≤ rdV xs 1 8 ∧ rdV xs 1 8 < 18446744073709551616 := hf
  have hs' : 0 ≤ rdV xs 9 8 ∧ rdV xs 9 8 < 18446744073709551616 := hss
  clear hf hss hlen
  obtain ⟨f0, hf0⟩ : ∃ z, rdV xs 1 8 = z := ⟨_, rfl⟩
  obtain ⟨s0, hs0⟩ : ∃ z, rdV xs 9 8 = z := ⟨_, rfl⟩
  have HR1 : Hid (∀ V : World, Below w.heap.size w V → Calls Tryd.prog 75 #[.slice (some ⟨b, off, none⟩) len cap, .int .i64 1, .int .i64 8] V fun e w' => e = .returned (.tuple #[.int .u64 f0, .int .i64 (rdN len 1 8), .int .i64 (rdE len 1 8)]) ∧ w' = V) :=
    hide (fun V hV => by
      have h := read_any (some ⟨b, off, none⟩) len cap xs 1 8 V (S.out.below hV) (by omega) (by omega)
      rw [hf0] at h
      exact h.mono fun _ _ h => ⟨h.1, by rw [h.2]⟩)
  have HR2 : Hid (∀ V : World, Below w.heap.size w V → Calls Tryd.prog 75 #[.slice (some ⟨b, off, none⟩) len cap, .int .i64 9, .int .i64 8] V fun e w' => e = .returned (.tuple #[.int .u64 s0, .int .i64 (rdN len 9 8), .int .i64 (rdE len 9 8)]) ∧ w' = V) :=
    hide (fun V hV => by
      have h := read_any (some ⟨b, off, none⟩) len cap xs 9 8 V (S.out.below hV) (by omega) (by omega)
      rw [hs0] at h
      exact h.mono fun _ _ h => ⟨h.1, by rw [h.2]⟩)
  rw [hf0] at hf' ⊢
  rw [hs0] at hs' ⊢
  have HF0 := hide hf0
  have HS0 := hide hs0
  clear hf0 hs0
  generalize rdN len 1 8 = N1 at *
  generalize rdE len 1 8 = E1 at *
  generalize rdN len 9 8 = N2 at *
  generalize rdE len 9 8 = E2 at *
  obtain ⟨hf1, hf2⟩ := hf'
  obtain ⟨hs1, hs2⟩ := hs'
  go_enter Tryd.func47, Tryd.ntmps47
  go_wp2_with (refine step_alloc zP rfl ?_)
  intro w1 g2 hr1 hl1 hb1
  have R2 := hide hr1
  have d17 := cell_kept hc17 hb1
  have d0 := cell_kept hc0 hb1
  have B1 := hide hb1
  clear hr1 hb1
  go_wp2_with fail
  refine (HR1.out _ B1.out).mono ?_
  rintro r w' ⟨rfl, rfl⟩
  go_wp2_with fail
  refine (HR2.out _ B1.out).mono ?_
  rintro r w' ⟨rfl, rfl⟩
  by_cases hF : f0 > 281474976710656
  · have HN : Hid (DkNo xs) := hide (fun n h => by have := h.f; rw [HF0.out] at this; omega)
    go_wp2_with (first | (refine step_buildP0 rfl ?_) | (refine step_storeA wP rfl rfl rfl R2.out rfl (One.pf _ _ _ _ _ _) rfl ?_; intro w9 hg9 hb9))
    refine bodyPost_ret (results_wide2 rfl wP _ _ rfl hg9 rfl) rfl ⟨B1.out.trans (hb9.below hl1), .inl ⟨HN.out, rfl⟩⟩
  by_cases hG : s0 > 281474976710656
  · have HN : Hid (DkNo xs) := hide (fun n h => by have := h.s; rw [HS0.out] at this; omega)
    go_wp2_with (first | (refine step_buildP0 rfl ?_) | (refine step_storeA wP rfl rfl rfl R2.out rfl (One.pf _ _ _ _ _ _) rfl ?_; intro w9 hg9 hb9))
    refine bodyPost_ret (results_wide2 rfl wP _ _ rfl hg9 rfl) rfl ⟨B1.out.trans (hb9.below hl1), .inl ⟨HN.out, rfl⟩⟩
  have hwf : IntKind.i64.wrap f0 = f0 := wrap_in _ (by omega) (by omega)
  have hws : IntKind.i64.wrap s0 = s0 := wrap_in _ (by omega) (by omega)
  go_wp2_with (first | (refine step_buildP3 rfl rfl rfl rfl ?_) | (refine step_alloc zP rfl ?_; intro w3 gp hr3 hl3 hb3; have R3 := hide hr3; clear hr3) | (refine step_storeA wP rfl rfl rfl R3.out rfl (One.pf _ _ _ _ _ _) rfl ?_; intro w4 hg4 hb4))
  have hg2 := R2.out.lt
  have hgp : w.heap.size ≤ gp := Nat.le_trans B1.out.size hl3
  have hg2p : g2 ≠ gp := by omega
  have L : Hid (DD w w4 g2 gp k0 f0 s0 xs (.slice none 0 0) 0) := hide ⟨(R2.out.on hb3).but hb4 hg2p, hg4, by simpa using DOwn.nil _ _, new_below B1.out hb3 hl3 hb4⟩
  clear hg4 hb4 hb3 hl3 R3 B1 R2 d17 d0
  have HW17 : Hid (∀ V : World, Below w.heap.size w V → V.cell? ⟨b, off + 17, none⟩ = some (.int .u8 (m : Int))) := hide (fun V hV => cell_kept hc17 hV)
  clear hc17 hc0 HR1 HR2
  go_loopw [11] (fun s W => ∃ (k : Nat) (v : Value), k ≤ m ∧ s = .int .i64 (k : Int) ∧ DD w W g2 gp k0 f0 s0 xs v k) (fun s _ => m - (intOf s).toNat)
  case atStart => exact ⟨0, _, by omega, rfl, L.out⟩
  case round =>
    obtain ⟨k, v, hkn, rfl, hL⟩ := hrel
    replace L := hide hL
    clear hL
    have d17 := HW17.out _ L.out.bel
    by_cases hlt : k < m
    · have hlt' : (k : Int) < (m : Int) := by omega
      have hp1 : wrap64 (32 * (k : Int)) = 32 * (k : Int) := by unfold wrap64; omega
      have hp2 : wrap64 (18 + 32 * (k : Int)) = 18 + 32 * (k : Int) := by unfold wrap64; omega
      obtain ⟨D, HDD⟩ : ∃ D, Hid ((xs.drop (18 + 32 * k)).take 32 = D) := ⟨_, hide rfl⟩
      have HD : Hid (∀ V : World, Below w.heap.size w V → Calls Tryd.prog 45 #[.slice (some ⟨b, off, none⟩) len cap, .int .i64 (18 + 32 * (k : Int))] V fun r w' => r = .returned (.tuple #[.agg (u8s D).toArray, .int .i64 (((18 + 32 * k : Nat) : Int) + 32), .int .i64 0]) ∧ Below V.heap.size V w') := hide fun V hV => by
        have h := digAt_any (some ⟨b, off, none⟩) len cap xs (18 + 32 * k) V (S.out.below hV) (by have := HLN.out; omega)
        rw [HDD.out] at h
        rwa [show ((18 + 32 * k : Nat) : Int) = 18 + 32 * (k : Int) by omega] at h ⊢
      have HDL := hide (show D.length = 32 by rw [← HDD.out, List.length_take, List.length_drop, HL.out, HLN.out]; omega)
      have HDB := hide (show isB D by rw [← HDD.out]; exact (S.out.hbyte.drop _).take _)
      have HDU := hide (show (u8s D).length = 32 by rw [u8s_length, HDL.out])
      go_wp2_with fail
      refine (HD.out _ L.out.bel).mono ?_
      rintro r w7 ⟨rfl, hb7⟩
      have L7 := hide (L.out.below hb7)
      clear hb7 L d17
      generalize ((18 + 32 * k : Nat) : Int) + 32 = N3
      go_wp2_with (refine step_alloc zD0 rfl ?_)
      intro w8 g13 hr8 hl8 hb8
      have G13 := hide hr8
      clear hr8
      go_wp2_with (refine step_storeA wD0 rfl rfl rfl G13.out HDU.out (One.u8 _) rfl ?_)
      intro w9 hg9 hbut9
      have L9 := hide (L7.out.below (hb8.trans (hbut9.below hl8)))
      have G139 := hide hg9
      clear hg9 hbut9 hb8 hl8 G13 L7
      obtain ⟨va, vc, rfl⟩ := L9.out.own.slice8
      have hc3 := (pf_at L9.out.cp).2.2.2
      go_wp2_with (first | (refine step_loadA wD0 rfl rfl G139.out HDU.out ?_) | (refine step_one8 rfl rfl HDL.out ?_))
      intro wa gx hgx hlx hbx
      have LA := hide (L9.out.below hbx)
      have HY := hide (ds_one8 hgx HDL.out HDB.out)
      clear hgx hbx L9 G139 hc3
      go_wp2_with (refine step_appendD rfl rfl rfl LA.out.own HY.out (by omega) LA.out.bel.size ?_)
      intro v' wb hob hgb
      rw [← HDD.out] at hob
      have LB := hide (LA.out.next hgb hob hgp hg2p)
      have hcr := LA.out.cp.grew hgb (LA.out.own.apart8 LA.out.cp (by decide))
      have hfr := hcr.free 3
      have hc4 := (pf_at hcr).2.2.2
      obtain ⟨va', vc', rfl⟩ := hob.slice8
      clear hob hgb hcr LA HY
      go_wp2
      go_roundw
      case rel => exact ⟨k + 1, _, by omega, by simp, LB.out⟩
      case measure => simp only [intOf]; omega
    · obtain rfl : k = m := by omega
      have hlt' : ¬ ((k : Int) < (k : Int)) := by omega
      obtain ⟨va, vc, rfl⟩ := L.out.own.slice8
      have HV := hide (fun V => validR_any k0 f0 s0 va k vc V (by omega))
      obtain ⟨q, hq⟩ : ∃ q, pval k0 f0 s0 k = q := ⟨_, rfl⟩
      rw [hq] at HV
      have HQ := hide hq
      clear hq
      go_wp2_with (first | (refine step_loadA wP rfl rfl L.out.cp rfl ?_) | fail)
      refine (HV.out _).mono ?_
      rintro r w7 ⟨rfl, hb7⟩
      have L7 := hide (L.out.below hb7)
      clear hb7 L d17
      have hpc : (q = true → pcnt k0 f0 s0 = some k) ∧ (q = false → pcnt k0 f0 s0 ≠ some k) := by
        have := HQ.out
        unfold pval at this
        constructor
        · intro e; rw [e] at this; simpa using this
        · intro e; rw [e] at this; simpa using this
      cases q with
      | false =>
        have HN : Hid (DkNo xs) := hide (fun n h => by
          have h1 := h.t
          rw [HM.out] at h1
          obtain rfl : k = n := by omega
          have := h.c
          rw [HK0.out, HF0.out, HS0.out] at this
          exact hpc.2 rfl this)
        clear hpc
        have R2 := hide L7.out.c2
        go_wp2_with (first | (refine step_buildP0 rfl ?_) | (refine step_storeA wP rfl rfl rfl R2.out rfl (One.pf _ _ _ _ _ _) rfl ?_; intro w9 hg9 hb9))
        refine bodyPost_ret (results_wide2 rfl wP _ _ rfl hg9 rfl) rfl ⟨L7.out.bel.trans (hb9.below hl1), .inl ⟨HN.out, rfl⟩⟩
      | true =>
        have HO : Hid (DkOK xs k) := hide ⟨by rw [HL.out]; exact HLN.out, by rw [HF0.out]; omega, by rw [HS0.out]; omega, by rw [HK0.out, HF0.out, HS0.out]; exact hpc.1 rfl, HM.out⟩
        clear hpc
        go_wp2_with (first | (refine step_loadA wP rfl rfl L7.out.cp rfl ?_) | (refine step_storeA wP rfl rfl rfl L7.out.c2 rfl (One.pf _ _ _ _ _ _) rfl ?_; intro w9 hg9 hb9))
        refine bodyPost_ret (results_wide2 rfl wP _ _ rfl hg9 rfl) rfl ⟨L7.out.bel.trans (hb9.below hl1), .inr ⟨k, _, HO.out, rfl, ?_⟩⟩
        have e := L7.out.own.but8 hb9 (L7.out.own.apart8 L7.out.c2 (by decide))
        rwa [List.take_of_length_le (by rw [List.length_drop, HL.out, HLN.out]; omega)] at e

end Go.Proofs.YtojepbapdjkknaaDoor

/-
  The law's same, lent, names: two proofs with the same digests are the same.
-/
namespace Go.Proofs.YtojepbapdjkknaaDoor
open Go.RowKit
set_option linter.unusedVariables false
set_option linter.unusedSimpArgs false

theorem names8 (w : World) : Calls Tryd.prog 17 #[] w fun r w' => r = .returned (.bool true) ∧ w' = w := by
  go_enter Tryd.func17, Tryd.ntmps17
  go_wp2
  go_ret
  exact ⟨rfl, rfl⟩
set_option maxRecDepth 100000 in
set_option maxHeartbeats 1000000 in
theorem samep (k i n : Int) (a a' : Option Addr) (m cap cap' : Nat) (xs : List Int) (w : World) (hs : Ds w a m cap xs) (hs' : Ds w a' m cap' xs) :
    Calls Tryd.prog 16 #[.agg (pfC k i n (.slice a m cap)).toArray, .agg (pfC k i n (.slice a' m cap')).toArray] w fun r w' => r = .returned (.bool true) ∧ Below w.heap.size w w' := by
  have hm := hs.hreach
  have HS := hide hs
  have HS' := hide hs'
  clear hs hs'
  go_enter Tryd.func16, Tryd.ntmps16
  go_wp2_with (refine step_box (cs := pfC k i n (.slice a m cap)) rfl rfl ?_)
  intro w1 g1 hr1 hl1 hb1
  go_wp2_with (refine step_box (cs := pfC k i n (.slice a' m cap')) rfl rfl ?_)
  intro w2 g2 hr2 hl2 hb2
  have B2 := hide (on_below hb1 hb2)
  have R1 := hide (hr1.on hb2)
  have R2 := hide hr2
  obtain ⟨c10, c11, c12, c13⟩ := pf_at R1.out
  obtain ⟨c20, c21, c22, c23⟩ := pf_at R2.out
  clear hr1 hr2 hb1 hb2
  go_wp2_with fail
  go_loopw [5] (fun s W => ∃ q : Nat, q ≤ m ∧ s = .int .i64 (q : Int) ∧ Below w2.heap.size w2 W) (fun s _ => m - (intOf s).toNat)
  case atStart => exact ⟨0, by omega, rfl, Below.refl _ _⟩
  case round =>
    obtain ⟨q, hqm, rfl, hbq⟩ := hrel
    have BQ := hide hbq
    have e13 := cell_kept c13 hbq
    have e23 := cell_kept c23 hbq
    clear hbq
    by_cases hlt : q < m
    · have hlt' : (q : Int) < (m : Int) := by omega
      obtain ⟨b, o, rfl⟩ := HS.out.place (by omega)
      obtain ⟨b', o', rfl⟩ := HS'.out.place (by omega)
      have hdl := dat_length HS.out.hlen hlt
      have HDU := hide (show (u8s (dat xs q)).length = 32 by rw [u8s_length, hdl])
      have hu := aD.und
      have HI1 : Hid ((Tryd.prog.info? 45).map (·.size) = some (u8s (dat xs q)).length) := hide (by rw [wD.size, HDU.out])
      have HDL := hide hdl
      have hrg : ∀ v : World, Below w.heap.size w v → v.rangeAt b (o + 32 * q) (u8s (dat xs q)) ∧ v.rangeAt b' (o' + 32 * q) (u8s (dat xs q)) := fun v hv => ⟨(HS.out.below hv).range q hlt, (HS'.out.below hv).range q hlt⟩
      have HRG := hide hrg
      have B0 := hide (BQ.out.drew)
      have hBW : ∀ v : World, Below w2.heap.size w2 v → Below w.heap.size w v := fun v hv => on_below B2.out hv
      have hk3 : ∀ v : World, Below w2.heap.size w2 v → v.cell? ⟨g1, 3, none⟩ = some (.slice (some ⟨b, o, none⟩) m cap) := fun v hv => cell_kept c13 hv
      have hk4 : ∀ v : World, Below w2.heap.size w2 v → v.cell? ⟨g2, 3, none⟩ = some (.slice (some ⟨b', o', none⟩) m cap') := fun v hv => cell_kept c23 hv
      clear hdl hrg
      go_wp2_with fail
      refine wp_region_noPanic ?_
      refine wp_region_held_drew (S := fun v : World => Below w2.heap.size w2 v) (by kernel_rfl) B0.out (fun hHeld => ?_)
      refine takeH 0 41 (.pointer (some ⟨g1, 3, none⟩)) hHeld rfl rfl (by kernel_rfl) (by kernel_rfl) (by kernel_rfl) (fun _ _ _ h => h) (Or.inl ⟨by rfl, fun w _ => by go_simp⟩) ?_
      simp only [Act.put, List.setIfInBounds_toArray, List.set_cons_zero, List.set_cons_succ]
      refine takeH 1 42 (.slice (some ⟨b, o, none⟩) m cap) hHeld rfl rfl (by kernel_rfl) (by kernel_rfl) (by kernel_rfl) (fun _ _ _ h => h) (Or.inl ⟨by rfl, fun w hw => by have hw' : w.cell? ⟨g1, 3, none⟩ = some (.slice (some ⟨b, o, none⟩) m cap) := hk3 _ hw; go_simp⟩) ?_
      simp only [Act.put, List.setIfInBounds_toArray, List.set_cons_zero, List.set_cons_succ]
      refine takeH 2 43 (.int .i64 (q : Int)) hHeld rfl rfl (by kernel_rfl) (by kernel_rfl) (by kernel_rfl) (fun _ _ _ h => h) (Or.inl ⟨by rfl, fun w _ => by go_simp⟩) ?_
      simp only [Act.put, List.setIfInBounds_toArray, List.set_cons_zero, List.set_cons_succ]
      refine takeH 3 44 (.pointer (some ⟨b, o + 32 * q, none⟩)) hHeld rfl rfl (by kernel_rfl) (by kernel_rfl) (by kernel_rfl) (fun _ _ _ h => h) (Or.inl ⟨by rfl, fun w _ => run_op rfl ((d_at b o m cap q (q : Int) rfl hlt) w)⟩) ?_
      simp only [Act.put, List.setIfInBounds_toArray, List.set_cons_zero, List.set_cons_succ]
      refine takeH 4 45 (.agg (u8s (dat xs q)).toArray) hHeld rfl rfl (by kernel_rfl) (by kernel_rfl) (by kernel_rfl) (fun _ _ _ h => h) (yieldsIf_load_mid (by rfl) _ _ rfl b (o + 32 * q) rfl _ _ (fun w h => (HRG.out w (hBW w h)).1) hu rfl HI1.out) ?_
      simp only [Act.put, List.setIfInBounds_toArray, List.set_cons_zero, List.set_cons_succ]
      refine takeH 5 46 (.pointer (some ⟨g2, 3, none⟩)) hHeld rfl rfl (by kernel_rfl) (by kernel_rfl) (by kernel_rfl) (fun _ _ _ h => h) (Or.inl ⟨by rfl, fun w _ => by go_simp⟩) ?_
      simp only [Act.put, List.setIfInBounds_toArray, List.set_cons_zero, List.set_cons_succ]
      refine takeH 6 47 (.slice (some ⟨b', o', none⟩) m cap') hHeld rfl rfl (by kernel_rfl) (by kernel_rfl) (by kernel_rfl) (fun _ _ _ h => h) (Or.inl ⟨by rfl, fun w hw => by have hw' : w.cell? ⟨g2, 3, none⟩ = some (.slice (some ⟨b', o', none⟩) m cap') := hk4 _ hw; go_simp⟩) ?_
      simp only [Act.put, List.setIfInBounds_toArray, List.set_cons_zero, List.set_cons_succ]
      refine takeH 7 48 (.int .i64 (q : Int)) hHeld rfl rfl (by kernel_rfl) (by kernel_rfl) (by kernel_rfl) (fun _ _ _ h => h) (Or.inl ⟨by rfl, fun w _ => by go_simp⟩) ?_
      simp only [Act.put, List.setIfInBounds_toArray, List.set_cons_zero, List.set_cons_succ]
      refine takeH 8 49 (.pointer (some ⟨b', o' + 32 * q, none⟩)) hHeld rfl rfl (by kernel_rfl) (by kernel_rfl) (by kernel_rfl) (fun _ _ _ h => h) (Or.inl ⟨by rfl, fun w _ => run_op rfl ((d_at b' o' m cap' q (q : Int) rfl hlt) w)⟩) ?_
      simp only [Act.put, List.setIfInBounds_toArray, List.set_cons_zero, List.set_cons_succ]
      refine takeH 9 50 (.agg (u8s (dat xs q)).toArray) hHeld rfl rfl (by kernel_rfl) (by kernel_rfl) (by kernel_rfl) (fun _ _ _ h => h) (yieldsIf_load_mid (by rfl) _ _ rfl b' (o' + 32 * q) rfl _ _ (fun w h => (HRG.out w (hBW w h)).2) hu rfl HI1.out) ?_
      simp only [Act.put, List.setIfInBounds_toArray, List.set_cons_zero, List.set_cons_succ]
      refine takeH 10 51 (.bool false) hHeld rfl rfl (by kernel_rfl) (by kernel_rfl) (by kernel_rfl) (fun _ _ _ h => h) (Or.inl ⟨by rfl, fun v _ => run_neT aD _ rfl rfl HDL.out⟩) ?_
      simp only [Act.put, List.setIfInBounds_toArray, List.set_cons_zero, List.set_cons_succ]
      refine wpAnyH_done (by kernel_rfl) ?_ _
      refine NoPanic.normal ?_
      clear hHeld hu hBW hk3 hk4
      go_wp2
      exact ⟨⟨q + 1, by omega, by go_num, B0.out⟩, by simp [intOf]; omega⟩
    · have hlt' : ¬ ((q : Int) < (m : Int)) := by omega
      go_wp2
      go_ret
      exact ⟨rfl, on_below B2.out BQ.out⟩

end Go.Proofs.YtojepbapdjkknaaDoor

/-
  What both Decodes tell of any bytes, in one form.
-/
namespace Go.Proofs.YtojepbapdjkknaaDoor
open Go.RowKit
set_option linter.unusedVariables false
set_option linter.unusedSimpArgs false

/-- What is told of bytes: kind, first, size, n digests ys, error. -/
def DecB (xs : List Int) (k f s : Int) (n : Nat) (ys : List Int) (E : Int) : Prop :=
  (DkNo xs ∧ k = 0 ∧ f = 0 ∧ s = 0 ∧ n = 0 ∧ ys = [] ∧ E = 80) ∨ (DkOK xs n ∧ k = xs.getD 0 0 ∧ f = rdV xs 1 8 ∧ s = rdV xs 9 8 ∧ ys = xs.drop 18 ∧ E = 0)
theorem decB (xs : List Int) : ∃ k f s n ys E, DecB xs k f s n ys E := by
  by_cases h : ∃ n, DkOK xs n
  · obtain ⟨n, h⟩ := h
    exact ⟨_, _, _, n, _, _, .inr ⟨h, rfl, rfl, rfl, rfl, rfl⟩⟩
  · exact ⟨_, _, _, _, _, _, .inl ⟨fun n hn => h ⟨n, hn⟩, rfl, rfl, rfl, rfl, rfl, rfl⟩⟩
theorem DkOK.one {xs : List Int} {n m : Nat} (h : DkOK xs n) (h' : DkOK xs m) : n = m := by
  have := h.len; have := h'.len; omega
section
variable {xs : List Int} {k f s : Int} {n : Nat} {ys : List Int} {E : Int}
theorem DecB.few (h : DecB xs k f s n ys E) : n ≤ 49 := by
  rcases h with h | h
  · omega
  · exact pcnt_le h.1.c
theorem DecB.byte (h : DecB xs k f s n ys E) (hb : isB xs) : isB ys := by
  rcases h with ⟨_, _, _, _, _, rfl, _⟩ | ⟨_, _, _, _, rfl, _⟩
  · intro x hx; cases hx
  · exact hb.drop _
theorem DecB.len (h : DecB xs k f s n ys E) : ys.length = 32 * n := by
  rcases h with ⟨_, _, _, _, rfl, rfl, _⟩ | ⟨h, _, _, _, rfl, _⟩
  · rfl
  · rw [List.length_drop, h.len]; omega
theorem decodeB (h : DecB xs k f s n ys E) (a : Option Addr) (len cap : Nat) (w : World) (hs : Sl w a len cap xs) :
    Calls Tryd.prog 24 #[.slice a len cap] w fun e w' => Below w.heap.size w w' ∧ ∃ v, e = .returned (.tuple #[.agg (pfC k f s v).toArray, .int .i64 E]) ∧ DOwn w' w.heap.size v n ys := by
  refine (decode_any a len cap xs w hs).mono ?_
  rintro e w' ⟨hb, ⟨hno, rfl⟩ | ⟨m, v, hok, rfl, ho⟩⟩
  · rcases h with ⟨_, rfl, rfl, rfl, rfl, rfl, rfl⟩ | ⟨h, _⟩
    · exact ⟨hb, _, rfl, DOwn.nil _ _⟩
    · exact absurd h (hno n)
  · rcases h with ⟨h, _⟩ | ⟨h, rfl, rfl, rfl, rfl, rfl⟩
    · exact absurd hok (h m)
    · obtain rfl := hok.one h
      exact ⟨hb, v, rfl, ho⟩
theorem decodeRB (h : DecB xs k f s n ys E) (a : Option Addr) (len cap : Nat) (w : World) (hs : Sl w a len cap xs) :
    Calls Tryd.prog 47 #[.slice a len cap] w fun e w' => Below w.heap.size w w' ∧ ∃ v, e = .returned (.tuple #[.agg (pfC k f s v).toArray, .int .i64 E]) ∧ DOwn w' w.heap.size v n ys := by
  refine (decodeR_any a len cap xs w hs).mono ?_
  rintro e w' ⟨hb, ⟨hno, rfl⟩ | ⟨m, v, hok, rfl, ho⟩⟩
  · rcases h with ⟨_, rfl, rfl, rfl, rfl, rfl, rfl⟩ | ⟨h, _⟩
    · exact ⟨hb, _, rfl, DOwn.nil _ _⟩
    · exact absurd h (hno n)
  · rcases h with ⟨h, _⟩ | ⟨h, rfl, rfl, rfl, rfl, rfl⟩
    · exact absurd hok (h m)
    · obtain rfl := hok.one h
      exact ⟨hb, v, rfl, ho⟩
end

end Go.Proofs.YtojepbapdjkknaaDoor

/-
  wire.Encode.
-/
namespace Go.Proofs.YtojepbapdjkknaaDoor
open Go.RowKit
set_option linter.unusedVariables false
set_option linter.unusedSimpArgs false

/-- A proof's bytes ahead of its digests, and all of them. -/
def encH (k f s : Int) (n : Nat) : List Int := (([k] ++ be f 8) ++ be s 8) ++ [(n : Int)]
def encB (k f s : Int) (n : Nat) (ys : List Int) : List Int := encH k f s n ++ ys
theorem encH_length (k f s : Int) (n : Nat) : (encH k f s n).length = 18 := by simp [encH, be_length]
theorem pcnt_bd {k i n : Int} {m : Nat} (h : pcnt k i n = some m) : (k = 1 ∨ k = 2) ∧ 0 ≤ i ∧ i ≤ n ∧ n ≤ 281474976710656 := by
  unfold pcnt at h
  split at h
  · split at h
    · rename_i h1 h2; exact ⟨.inl h1, by omega, by omega, by omega⟩
    · cases h
  · split at h
    · split at h
      · rename_i h1 h2; exact ⟨.inr (by assumption), by omega, by omega, by omega⟩
      · cases h
    · cases h
theorem isB_app {xs ys : List Int} (h : isB xs) (h' : isB ys) : isB (xs ++ ys) := h.append h'
theorem isB_one {x : Int} (h0 : 0 ≤ x) (h1 : x ≤ 255) : isB [x] := by intro y hy; simp at hy; omega
theorem wrap_u8 (x : Int) (h0 : 0 ≤ x) (h1 : x ≤ 255) : IntKind.u8.wrap x = x := by rw [IntKind.wrap_u8]; omega
theorem wrap_u64 (x : Int) (h0 : 0 ≤ x) (h1 : x < 18446744073709551616) : IntKind.u64.wrap x = x := by rw [IntKind.wrap_u64]; omega
set_option maxRecDepth 100000 in
theorem encode_bad (k f s : Int) (a : Option Addr) (m cap : Nat) (w : World) (hm : m ≤ 9223372036854775807) (hv : pval k f s m = false) :
    Calls Tryd.prog 9 #[.agg (pfC k f s (.slice a m cap)).toArray] w fun r w' => r = .returned (.tuple #[.slice none 0 0, .int .i64 2]) ∧ Below w.heap.size w w' := by
  have HV := hide (fun V => valid_any k f s a m cap V hm)
  rw [hv] at HV
  go_enter Tryd.func9, Tryd.ntmps9
  go_wp2_with (refine step_box (cs := pfC k f s (.slice a m cap)) rfl rfl ?_)
  intro w1 g1 hr1 hl1 hb1
  have R1 := hide hr1
  clear hr1
  go_wp2_with (first | (refine step_loadA wP rfl rfl R1.out rfl ?_) | fail)
  refine (HV.out _).mono ?_
  rintro r w2 ⟨rfl, hb2⟩
  go_wp2
  go_ret2
  exact ⟨rfl, on_below hb1 hb2⟩
set_option maxRecDepth 100000 in
set_option maxHeartbeats 1000000 in
theorem encode_ok (k f s : Int) (a : Option Addr) (n cap : Nat) (ys : List Int) (w : World) (hs : Ds w a n cap ys) (hc : pcnt k f s = some n) :
    Calls Tryd.prog 9 #[.agg (pfC k f s (.slice a n cap)).toArray] w fun r w' => Below w.heap.size w w' ∧ ∃ v, r = .returned (.tuple #[v, .int .i64 0]) ∧ v ≠ .slice none 0 0 ∧ Own w' w.heap.size v (encB k f s n ys) := by
  have hn49 := pcnt_le hc
  obtain ⟨hk, hf0, hfs, hs48⟩ := pcnt_bd hc
  have HV := hide (fun V => valid_any k f s a n cap V (by omega))
  rw [show pval k f s n = true by unfold pval; simp [hc]] at HV
  have HS := hide hs
  have HYB := hide hs.hbyte
  have HYL := hide hs.hlen
  have wk : IntKind.u8.wrap k = k := wrap_u8 k (by omega) (by omega)
  have wf : IntKind.u64.wrap f = f := wrap_u64 f (by omega) (by omega)
  have ws : IntKind.u64.wrap s = s := wrap_u64 s (by omega) (by omega)
  have wn : IntKind.u8.wrap (n : Int) = (n : Int) := wrap_u8 _ (by omega) (by omega)
  have HB1 : Hid (isB [k]) := hide (isB_one (by omega) (by omega))
  have HB2 : Hid (isB ([k] ++ be f 8)) := hide (HB1.out.append (be_isB f 8))
  have HB3 : Hid (isB (([k] ++ be f 8) ++ be s 8)) := hide (HB2.out.append (be_isB s 8))
  have HB4 : Hid (isB (encH k f s n)) := hide (HB3.out.append (isB_one (by omega) (by omega)))
  clear hs hc hk
  go_enter Tryd.func9, Tryd.ntmps9
  go_wp2_with (refine step_box (cs := pfC k f s (.slice a n cap)) rfl rfl ?_)
  intro w1 g1 hr1 hl1 hb1
  have R1 := hide hr1
  have B1 := hide hb1
  clear hr1 hb1
  go_wp2_with (first | (refine step_loadA wP rfl rfl R1.out rfl ?_) | fail)
  refine (HV.out _).mono ?_
  rintro r w2 ⟨rfl, hb2⟩
  have B2 := hide (on_below B1.out hb2)
  have R2 := hide (R1.out.on hb2)
  obtain ⟨c0, c1, c2', c3⟩ := pf_at R2.out
  clear hb2 R1 B1
  have S3 := hide (one_slB w2 k (HB1.out k (by simp)))
  have Y3 := hide ((Below.refl w2.heap.size w2).alloc (Nat.le_refl _) (.cells #[.int .u8 k] 5))
  have d1 := cell_kept c1 Y3.out
  go_wp2_with fail
  refine (putUint64_any _ 1 1 [k] f _ S3.out (by omega) (by omega)).mono ?_
  rintro r w4 ⟨g4, rfl, hl4, hr4, hb4⟩
  have Y4 := hide (on_below Y3.out hb4)
  have S4 := hide (hr4.sl0 HB2.out (by simp [be_length]))
  rw [show ([k] ++ be f 8).length = 9 by simp [be_length]] at S4
  have B4 := hide (on_below B2.out Y4.out)
  have R4 := hide (R2.out.on Y4.out)
  clear hl4 hr4 hb4 S3 Y3 Y4 R2 B2 c0 c1 c2' c3 d1
  obtain ⟨c0, c1, c2', c3⟩ := pf_at R4.out
  go_wp2_with fail
  refine (putUint64_any _ 9 9 _ s _ S4.out (by omega) (by omega)).mono ?_
  rintro r w5 ⟨g5, rfl, hl5, hr5, hb5⟩
  have O5 := hide (Own.of_blk hr5 (Nat.le_trans B4.out.size hl5) (by simp [be_length]))
  rw [show (([k] ++ be f 8) ++ be s 8).length = 17 by simp [be_length]] at O5
  have B5 := hide (on_below B4.out hb5)
  have R5 := hide (R4.out.on hb5)
  clear hl5 hr5 hb5 S4 R4 B4 c0 c1 c2' c3
  obtain ⟨c0, c1, c2', c3⟩ := pf_at R5.out
  go_wp2_with (refine step_append rfl rfl rfl (O5.out.alloc _) (one_slB _ (n : Int) (by omega)) (by simp [be_length]) (by have := B5.out.size; simp; omega) ?_)
  intro v6 w6 ho6 hg6 hn6
  have Y5 := hide ((Below.refl w5.heap.size w5).alloc (Nat.le_refl _) (.cells #[.int .u8 (n : Int)] 5))
  have B6 := hide ((B5.out.alloc B5.out.size (.cells #[.int .u8 (n : Int)] 5)).trans (Below.of_grown hg6 (by have := B5.out.size; simp; omega) O5.out.lt))
  have N6 : Hid (v6 ≠ .slice none 0 0) := hide (fun e => by have e2 := (hn6 e).1; cases e2)
  have R6 := hide ((R5.out.on Y5.out).grown (by decide) (O5.out.alloc _) hg6)
  have O6 : Hid (Own w6 w.heap.size v6 (encH k f s n ++ ys.take (32 * 0))) := hide (by rw [Nat.mul_zero, List.take_zero, List.append_nil]; exact ho6)
  clear ho6 hg6 hn6 O5 R5 Y5 c0 c1 c2' c3
  have c3 := (pf_at R6.out).2.2.2
  go_wp2_with fail
  go_loopw [4, 34] (fun v i W => ∃ q : Nat, q ≤ n ∧ i = .int .i64 (q : Int) ∧ v ≠ .slice none 0 0 ∧ Own W w.heap.size v (encH k f s n ++ ys.take (32 * q)) ∧ Below w.heap.size w W) (fun _ i _ => n - (intOf i).toNat)
  case atStart => exact ⟨0, by omega, rfl, N6.out, O6.out, B6.out⟩
  case round =>
    obtain ⟨q, hqn, rfl, hvn, ho, hbq⟩ := hrel
    have BQ := hide hbq
    have OQ := hide ho
    have NQ := hide hvn
    clear hbq ho hvn O6 N6 B6 R6 c3
    by_cases hlt : q < n
    · have hlt' : (q : Int) < (n : Int) := by omega
      obtain ⟨b, o, rfl⟩ := HS.out.place (by omega)
      have hdl := dat_length HYL.out hlt
      have HDL := hide hdl
      have HDU := hide (show (u8s (dat ys q)).length = 32 by rw [u8s_length, hdl])
      have HDB := hide (dat_isB HYB.out q)
      have HRG := hide ((HS.out.below BQ.out).range q hlt)
      have hat := d_at b o n cap q (q : Int) rfl hlt
      have hql : (encH k f s n ++ ys.take (32 * q)).length = 18 + 32 * q := by rw [List.length_append, encH_length, List.length_take, HYL.out]; omega
      obtain ⟨gq, cq, rfl, _, hsq⟩ := OQ.out.sl (HB4.out.append (HYB.out.take _)) (by omega) NQ.out
      rw [hql] at hsq ⊢
      have SQ := hide hsq
      clear hdl hsq
      go_wp2_with (first | (refine step_loadR wD rfl rfl _ HRG.out HDU.out ?_) | (refine step_alloc zD rfl ?_))
      intro w7 g6 hr7 hl7 hb7
      have G7 := hide hr7
      clear hr7
      go_wp2_with (refine step_storeA wD rfl rfl rfl G7.out HDU.out (One.u8 _) (by rw [u8s_length, zer_length]) ?_)
      intro w8 hg8 hbut8
      have G8 := hide hg8
      have Y8 := hide (hb7.trans (hbut8.below hl7))
      have S8 := hide (SQ.out.below Y8.out)
      have B8 := hide (on_below BQ.out Y8.out)
      clear hg8 hbut8 hb7 hl7 G7 SQ Y8 HRG hat
      go_wp2_with (first | (refine step_loadA wD rfl rfl G8.out HDU.out ?_) | fail)
      refine (putDigest_any _ _ _ _ (dat ys q) _ S8.out HDL.out HDB.out).mono ?_
      rintro r w9 ⟨g9, rfl, hl9, hr9, hb9⟩
      have e9 : (encH k f s n ++ ys.take (32 * q)) ++ dat ys q = encH k f s n ++ ys.take (32 * (q + 1)) := by rw [List.append_assoc, take_more]; rfl
      rw [e9] at hr9
      have hl2 : (encH k f s n ++ ys.take (32 * (q + 1))).length = 18 + 32 * q + 32 := by rw [List.length_append, encH_length, List.length_take, HYL.out]; omega
      have O9 := Own.of_blk hr9 (Nat.le_trans B8.out.size hl9) (by omega)
      rw [hl2] at O9
      have HO9 := hide O9
      have B9 := hide (on_below B8.out hb9)
      clear O9 hr9 hl9 hb9 e9 hl2
      go_wp2
      go_roundw
      case rel => exact ⟨q + 1, by omega, by simp, by simp, HO9.out, B9.out⟩
      case measure => simp only [intOf]; omega
    · obtain rfl : q = n := by omega
      have hlt' : ¬ ((q : Int) < (q : Int)) := by omega
      go_wp2
      go_ret2
      refine ⟨BQ.out, _, rfl, NQ.out, ?_⟩
      have e := OQ.out
      rw [List.take_of_length_le (by rw [HYL.out]; exact Nat.le_refl _)] at e
      exact e

end Go.Proofs.YtojepbapdjkknaaDoor

/-
  A proof's bytes are read as that proof. No program here.
-/
namespace Go.Proofs.YtojepbapdjkknaaDoor
open Go.RowKit
set_option linter.unusedVariables false

theorem be_succW (v : Int) (n : Nat) : be v (n + 1) = be (v / 256) n ++ [v % 256] := by
  unfold be
  rw [List.range_succ, List.map_append]
  congr 1
  · apply List.map_congr_left
    intro i hi
    have hi' : i < n := List.mem_range.1 hi
    rw [show n + 1 - 1 - i = (n - 1 - i) + 1 by omega, Int.pow_succ, Int.mul_comm, Int.ediv_ediv_of_nonneg (by decide)]
  · simp
theorem beVal_beW (n : Nat) : ∀ v : Int, 0 ≤ v → v < 256 ^ n → beVal (be v n) = v := by
  induction n with
  | zero => intro v h0 h1; simp at h1; simp [be, beVal]; omega
  | succ n ih =>
    intro v h0 h1
    have h2 : v / 256 < 256 ^ n := by
      rw [Int.pow_succ] at h1
      exact Int.ediv_lt_of_lt_mul (by decide) h1
    have := ih (v / 256) (Int.ediv_nonneg h0 (by decide)) h2
    rw [be_succW]
    unfold beVal at *
    rw [List.foldl_append, this]
    simp only [List.foldl_cons, List.foldl_nil]
    omega
section
variable {k f s : Int} {n : Nat} {ys : List Int}
theorem encB_eq : encB k f s n ys = k :: (be f 8 ++ (be s 8 ++ ((n : Int) :: ys))) := by simp [encB, encH]
theorem encB_length (hy : ys.length = 32 * n) : (encB k f s n ys).length = 18 + 32 * n := by
  rw [encB, List.length_append, encH_length, hy]
theorem rdV_at {xs : List Int} (p : Nat) (v : Int) (h : (xs.drop p).take 8 = be v 8) (hl : p + 8 ≤ xs.length) (h0 : 0 ≤ v) (h1 : v < 18446744073709551616) : rdV xs (p : Int) 8 = v := by
  unfold rdV
  rw [if_pos (by omega), Int.toNat_natCast, h]
  exact beVal_beW 8 v h0 (by have e : (256 : Int) ^ 8 = 18446744073709551616 := by decide
                             omega)
theorem encB_reads (hc : pcnt k f s = some n) (hy : ys.length = 32 * n) : (encB k f s n ys).getD 0 0 = k ∧ rdV (encB k f s n ys) 1 8 = f ∧ rdV (encB k f s n ys) 9 8 = s ∧ (encB k f s n ys).getD 17 0 = (n : Int) ∧ (encB k f s n ys).drop 18 = ys := by
  obtain ⟨_, hf0, hfs, hs48⟩ := pcnt_bd hc
  have hl := encB_length (k := k) (f := f) (s := s) hy
  have d1 : (encB k f s n ys).drop 1 = be f 8 ++ (be s 8 ++ ((n : Int) :: ys)) := by rw [encB_eq]; rfl
  have d9 : (encB k f s n ys).drop 9 = be s 8 ++ ((n : Int) :: ys) := by
    rw [show 9 = 1 + 8 from rfl, ← List.drop_drop, d1, List.drop_left' (be_length f 8)]
  have d17 : (encB k f s n ys).drop 17 = (n : Int) :: ys := by
    rw [show 17 = 9 + 8 from rfl, ← List.drop_drop, d9, List.drop_left' (be_length s 8)]
  refine ⟨by rw [encB_eq]; rfl, ?_, ?_, ?_, ?_⟩
  · exact rdV_at 1 f (by rw [d1, List.take_left' (be_length f 8)]) (by omega) hf0 (by omega)
  · exact rdV_at 9 s (by rw [d9, List.take_left' (be_length s 8)]) (by omega) (by omega) (by omega)
  · have e : ((encB k f s n ys).drop 17)[0]? = some (n : Int) := by rw [d17]; rfl
    rw [List.getElem?_drop] at e
    simp only [List.getD, Nat.add_zero] at e ⊢
    rw [e]
    rfl
  · rw [show 18 = 17 + 1 from rfl, ← List.drop_drop, d17]; rfl
theorem dec_enc (hc : pcnt k f s = some n) (hy : ys.length = 32 * n) : DecB (encB k f s n ys) k f s n ys 0 := by
  obtain ⟨h1, h2, h3, h4, h5⟩ := encB_reads hc hy
  obtain ⟨_, hf0, hfs, hs48⟩ := pcnt_bd hc
  refine .inr ⟨⟨encB_length hy, by rw [h2]; omega, by rw [h3]; omega, by rw [h1, h2, h3]; exact hc, h4⟩, h1.symm, h2.symm, h3.symm, h5.symm, rfl⟩
theorem encB_isB (hc : pcnt k f s = some n) (hb : isB ys) : isB (encB k f s n ys) := by
  obtain ⟨hk, _⟩ := pcnt_bd hc
  have := pcnt_le hc
  exact ((((isB_one (by omega) (by omega)).append (be_isB f 8)).append (be_isB s 8)).append (isB_one (by omega) (by omega))).append hb
end

end Go.Proofs.YtojepbapdjkknaaDoor

/-
  A proof's text, in letters; the document's digits and words.
-/
namespace Go.Proofs.YtojepbapdjkknaaDoor
open Go.RowKit
set_option linter.unusedVariables false
set_option linter.unusedSimpArgs false

/-- A text's letters, and the text of letters. -/
def strL (s : ByteArray) : List UInt8 := s.data.toList
def bA (l : List UInt8) : ByteArray := ⟨l.toArray⟩
theorem strL_bA (l : List UInt8) : strL (bA l) = l := rfl
theorem bA_strL (s : ByteArray) : bA (strL s) = s := rfl
theorem strL_app (p q : ByteArray) : strL (p ++ q) = strL p ++ strL q := by
  show (ByteArray.append p q).data.toList = _
  rw [ByteArray.append_eq, ByteArray.data_append, Array.toList_append]
  rfl
theorem strL_length (s : ByteArray) : (strL s).length = s.size := by simp [strL]
theorem eq_of_strL {p q : ByteArray} (h : strL p = strL q) : p = q := by rw [← bA_strL p, ← bA_strL q, h]
theorem app_size (p q : ByteArray) : (p ++ q).size = p.size + q.size := by rw [← strL_length, strL_app, List.length_append, strL_length, strL_length]
theorem strCells_eq (s : ByteArray) : Lib.strCells s = Lib.byteCells (strL s) := rfl
theorem byteCells_app (l m : List UInt8) : Lib.byteCells l ++ Lib.byteCells m = Lib.byteCells (l ++ m) := by simp [Lib.byteCells]
theorem byteCells_length (l : List UInt8) : (Lib.byteCells l).length = l.length := by simp [Lib.byteCells]

theorem run_addS {dst : Option Tmp} {ty : TypeId} {pos : String} {aft : Array Edge} {gd : Option (Nat × Bool)} {a : Act} {w : World} {x y : Operand} {p q : ByteArray} (hx : a.eval x = .string p) (hy : a.eval y = .string q) (hs : p.size + q.size ≤ 9223372036854775807) :
    (execOp a.eval ⟨dst, .binOp .add 9 x y 9, ty, pos, aft, gd⟩).run Tryd.prog w = .ok (.value (.string (p ++ q))) w := by
  have h : ¬ 9223372036854775807 < p.size + q.size := by omega
  unfold execOp
  simp only [hx, hy]
  simp [go_sem, h]

theorem dec_step {n : Nat} (h : ¬ n < 10) : Lib.decDigits n = Lib.decDigits (n / 10) ++ Lib.decDigits (n % 10) := by
  rw [Lib.decDigits, dif_neg h, Lib.decDigits_one (Nat.mod_lt _ (by decide))]
theorem dec_len (n : Nat) (h : n < 18446744073709551616) : (Lib.decDigits n).length ≤ 20 := by
  rw [Lib.decDigits_length]; exact Lib.nDigits_le20 n h

set_option maxRecDepth 100000 in
theorem digits_one (n : Nat) (w : World) (h : n < 10) : Calls Tryd.prog 36 #[.int .i64 (n : Int)] w fun r w' => r = .returned (.string (bA (Lib.decDigits n))) ∧ w' = w := by
  rw [Lib.decDigits_one h]
  have hn : n = 0 ∨ n = 1 ∨ n = 2 ∨ n = 3 ∨ n = 4 ∨ n = 5 ∨ n = 6 ∨ n = 7 ∨ n = 8 ∨ n = 9 := by omega
  rcases hn with rfl | rfl | rfl | rfl | rfl | rfl | rfl | rfl | rfl | rfl
  all_goals
    clear h
    go_enter Tryd.func36, Tryd.ntmps36
    go_wp2
    go_ret
    exact ⟨by kernel_rfl, rfl⟩

set_option maxRecDepth 100000 in
theorem digits_any (m : Nat) : ∀ (n : Nat) (w : World), n ≤ m → n < 9223372036854775808 → Calls Tryd.prog 36 #[.int .i64 (n : Int)] w fun r w' => r = .returned (.string (bA (Lib.decDigits n))) ∧ w' = w := by
  induction m with
  | zero => intro n w hm hn; exact digits_one n w (by omega)
  | succ m ih =>
    intro n w hm hn
    by_cases h : n < 10
    · exact digits_one n w h
    have H1 := hide (fun V => ih (n / 10) V (by omega) (by omega))
    clear ih
    have H2 := hide (fun V => digits_one (n % 10) V (Nat.mod_lt _ (by decide)))
    have hl : ¬ (n : Int) < 10 := by omega
    have l1 := dec_len (n / 10) (by omega)
    have l2 := dec_len (n % 10) (by omega)
    have e := dec_step h
    obtain ⟨p, hp⟩ : ∃ p, n / 10 = p := ⟨_, rfl⟩
    obtain ⟨q, hq⟩ : ∃ q, n % 10 = q := ⟨_, rfl⟩
    rw [hp] at H1 l1 e
    rw [hq] at H2 l2 e
    have q1 : (n : Int) / 10 = (p : Int) := by omega
    have q2 : (n : Int) % 10 = (q : Int) := by omega
    have q3 : (n : Int).tdiv 10 = (p : Int) := by rw [Int.tdiv_eq_ediv_of_nonneg (by omega)]; exact q1
    have q4 : (n : Int).tmod 10 = (q : Int) := by rw [Int.tmod_eq_emod_of_nonneg (by omega)]; exact q2
    clear hp hq
    obtain ⟨A, hA⟩ : ∃ A, bA (Lib.decDigits p) = A := ⟨_, rfl⟩
    obtain ⟨B, hB⟩ : ∃ B, bA (Lib.decDigits q) = B := ⟨_, rfl⟩
    have sA : A.size ≤ 20 := by rw [← hA, ← strL_length, strL_bA]; exact l1
    have sB : B.size ≤ 20 := by rw [← hB, ← strL_length, strL_bA]; exact l2
    have eAB : bA (Lib.decDigits n) = A ++ B := eq_of_strL (by rw [strL_app, ← hA, ← hB, strL_bA, strL_bA, strL_bA, e])
    rw [hA] at H1
    rw [hB] at H2
    rw [eAB]
    clear eAB hA hB e l1 l2 h
    have hs : ¬ 9223372036854775807 < A.size + B.size := by omega
    go_enter Tryd.func36, Tryd.ntmps36
    go_wp2_with fail
    refine (H1.out _).mono ?_
    rintro r w1 ⟨rfl, rfl⟩
    go_wp2_with fail
    refine (H2.out _).mono ?_
    rintro r w1 ⟨rfl, rfl⟩
    go_wp2
    go_ret
    exact ⟨rfl, rfl⟩

/-- The word of a kind. -/
def wordU (k : Int) : List UInt8 := if k = 1 then [105, 110, 99, 108, 117, 115, 105, 111, 110] else [99, 111, 110, 115, 105, 115, 116, 101, 110, 99, 121]
/-- The first line; a digest's line; all lines. -/
def headU (k : Int) (f s : Nat) : List UInt8 := ((((wordU k ++ [32]) ++ Lib.decDigits f) ++ [32]) ++ Lib.decDigits s) ++ [10]
def lineU (d : List Int) : List UInt8 := strL (Oct.str (Oct.b64B d)) ++ [10]
def bodyU (ys : List Int) (q : Nat) : List UInt8 := (List.range q).flatMap fun j => lineU (dat ys j)
def textU (k : Int) (f s n : Nat) (ys : List Int) : List UInt8 := headU k f s ++ bodyU ys n
theorem bodyU_succ (ys : List Int) (q : Nat) : bodyU ys (q + 1) = bodyU ys q ++ lineU (dat ys q) := by simp [bodyU, List.range_succ]
theorem wordU_length (k : Int) : (wordU k).length ≤ 11 := by unfold wordU; split <;> decide
theorem headU_length (k : Int) (f s : Nat) (hf : f < 18446744073709551616) (hs : s < 18446744073709551616) : (headU k f s).length ≤ 54 := by
  have := wordU_length k; have := dec_len f hf; have := dec_len s hs
  simp only [headU, List.length_append, List.length_cons, List.length_nil]
  omega
theorem b64_size {d : List Int} (h : d.length = 32) : (Oct.str (Oct.b64B d)).size = 44 := by
  rw [Oct.str_size]
  unfold Oct.b64B
  rw [Oct.b64To_length, h]
theorem lineU_length {d : List Int} (h : d.length = 32) : (lineU d).length = 45 := by
  rw [lineU, List.length_append, strL_length, b64_size h]; rfl
theorem bodyU_length {ys : List Int} {n : Nat} (hy : ys.length = 32 * n) : ∀ q, q ≤ n → (bodyU ys q).length = 45 * q
  | 0, _ => rfl
  | q + 1, hq => by rw [bodyU_succ, List.length_append, bodyU_length hy q (by omega), lineU_length (dat_length hy (by omega))]; omega
theorem wordR_any (k : Int) (w : World) (hk : k = 1 ∨ k = 2) : Calls Tryd.prog 35 #[.int .i64 k] w fun r w' => r = .returned (.string (bA (wordU k))) ∧ w' = w := by
  rcases hk with rfl | rfl
  all_goals
    go_enter Tryd.func35, Tryd.ntmps35
    go_wp2
    go_ret
    exact ⟨by kernel_rfl, rfl⟩

end Go.Proofs.YtojepbapdjkknaaDoor

/-
  (*strings.Builder).copyCheck and WriteString at this program (the shelf's own do not lie here: the text of the panic is not in the cut).
-/
namespace Go.Proofs.YtojepbapdjkknaaDoor
open Go.RowKit
set_option linter.unusedVariables false
set_option linter.unusedSimpArgs false

theorem sizeBd : (Tryd.prog.info? 63).map (·.size) = some 2 := by kernel_rfl
theorem liesBd : liesAt Tryd.prog Tryd.prog.depth 63 (2 / Tryd.prog.cellsOf 63) 0 63 1 = true := by kernel_rfl
theorem undBdp : Tryd.prog.underlying 61 = some (.pointer 63) := by kernel_rfl
theorem undUp : Tryd.prog.underlying 130 = some .unsafePointer := by kernel_rfl
set_option maxHeartbeats 1000000 in
set_option maxRecDepth 100000 in
theorem copyCheck_used (b : Nat) (w : World) (h0 : w.cell? ⟨b, 0, none⟩ = some (.pointer (some ⟨b, 0, none⟩))) :
    Calls Tryd.prog 62 #[.pointer (some ⟨b, 0, none⟩)] w fun e w' => e = .returned (.tuple #[]) ∧ w' = w := by
  obtain ⟨j, hj, _⟩ := Option.map_eq_some_iff.1 sizeBd
  go_enter Tryd.func62, Tryd.ntmps62
  go_wp2
  rw [Lib.run_neq_ptr_same w _ undBdp hj]
  go_wp2
  go_end0
  exact ⟨rfl, rfl⟩
set_option maxHeartbeats 1000000 in
set_option maxRecDepth 100000 in
theorem copyCheck_fresh (b : Nat) (w : World) (h0 : w.cell? ⟨b, 0, none⟩ = some (.pointer none)) (hsh : w.shape? b = some (63, 2)) (hfz : w.frozen? ⟨b, 0, none⟩ = false) :
    Calls Tryd.prog 62 #[.pointer (some ⟨b, 0, none⟩)] w fun e w' => e = .returned (.tuple #[]) ∧ w' = w.setCell ⟨b, 0, none⟩ (.pointer (some ⟨b, 0, none⟩)) := by
  obtain ⟨j, hj, hjs⟩ := Option.map_eq_some_iff.1 sizeBd
  go_enter Tryd.func62, Tryd.ntmps62
  go_wp2
  rw [Lib.run_to_unsafe w ⟨b, 0, none⟩ undBdp undUp hj (by rw [hjs]; decide) hsh (Nat.zero_lt_succ 1)]
  simp only [Result.andThen]
  rw [Oper.upon_value]
  go_wp2
  rw [run_callFunc_extern Tryd.func84 (by kernel_rfl) (by kernel_rfl) (by kernel_rfl) (e := Extern.AbiNoEscape.same) (by kernel_rfl)]
  rw [Lib.run_noEscape]
  simp only [Result.andThen]
  rw [Oper.upon_value]
  go_wp2
  rw [Lib.run_from_unsafe w ⟨b, 0, none⟩ undUp undBdp hj hsh liesBd]
  simp only [Result.andThen]
  rw [Oper.upon_value]
  go_wp2
  go_end0
  exact ⟨rfl, rfl⟩
theorem copyCheck_k (B b : Nat) (bs : List Value) (w : World) (h : Lib.IsBuilderF 63 5 B b bs w) :
    Calls Tryd.prog 62 #[.pointer (some ⟨b, 0, none⟩)] w fun e w' => e = .returned (.tuple #[]) ∧ (Lib.BuilderAtF 63 5 B b (.pointer (some ⟨b, 0, none⟩)) bs w' ∧ Below B w w') := by
  rcases h with h | h
  · refine (copyCheck_fresh b w h.cell0 h.shape h.frozen0).mono ?_
    rintro e w' ⟨rfl, rfl⟩
    exact ⟨rfl, h.used _, (Below.refl B w).setCell (p := ⟨b, 0, none⟩) h.1 _⟩
  · refine (copyCheck_used b w h.cell0).mono ?_
    rintro e w' ⟨rfl, rfl⟩
    exact ⟨rfl, h, Below.refl B _⟩
theorem infoB8 : (Tryd.prog.info? 5).map (fun i => (i.zero, i.size, i.bytes)) = some (some (.int .u8 0), 1, 1) := by kernel_rfl
theorem undSl8 : Tryd.prog.underlying 26 = some (.slice 5) := by kernel_rfl
theorem undSt8 : Tryd.prog.underlying 9 = some .string := by kernel_rfl
set_option maxHeartbeats 2000000 in
set_option maxRecDepth 100000 in
theorem writeString_any (B b : Nat) (bs : List Value) (s : ByteArray) (w : World) (h : Lib.IsBuilderF 63 5 B b bs w) (hlen : bs.length + s.size ≤ 140737488355328) (hBw : B ≤ w.heap.size) :
    Calls Tryd.prog 31 #[.pointer (some ⟨b, 0, none⟩), .string s] w fun e w' => e = .returned (.tuple #[.int .i64 s.size, .nilIface]) ∧ (Lib.IsBuilderF 63 5 B b (bs ++ Lib.strCells s) w' ∧ Below B w w') := by
  obtain ⟨i0, hi, hz0, hz1, hz2⟩ := info_parts infoB8
  go_enter Tryd.func31, Tryd.ntmps31
  go_wp2_with (go_at_call 62; refine (copyCheck_k B b bs _ h).mono ?_)
  rintro e w1 ⟨rfl, h1, hb1⟩
  obtain ⟨hB, v, hbk, hown, hne⟩ := h1
  have c0 : w1.cell? ⟨b, 0, none⟩ = some (.pointer (some ⟨b, 0, none⟩)) := by rw [Lib.cell_of_heap hbk]; rfl
  have c1 : w1.cell? ⟨b, 1, none⟩ = some v := by rw [Lib.cell_of_heap hbk]; rfl
  go_wp2_with (at_builtin; refine Lib.wpList_append_own_stringF _ rfl _ _ 26 9 rfl B 5 i0 undSl8 undSt8 hi hz0 hz1 hz2 _ _ _ rfl hown s rfl ?c3 ?c4 ?c5 ?_)
  case c3 => unfold maxLen; omega
  case c4 => omega
  case c5 => have := hb1.size; omega
  intro v' w2 hown' hgrow _
  have hlt : b < w1.heap.size := by
    rcases Nat.lt_or_ge b w1.heap.size with h' | h'
    · exact h'
    · simp [Array.getElem?_eq_none h'] at hbk
  have hb2 : w2.heap[b]? = some (.cells #[.pointer (some ⟨b, 0, none⟩), v] 63 (0, 0)) := by
    rw [hgrow.block b hlt (fun e => hne e.symm)]
    exact hbk
  have d0 : w2.cell? ⟨b, 0, none⟩ = some (.pointer (some ⟨b, 0, none⟩)) := by rw [Lib.cell_of_heap hb2]; rfl
  have d1 : w2.cell? ⟨b, 1, none⟩ = some v := by rw [Lib.cell_of_heap hb2]; rfl
  have f1 : w2.frozen? ⟨b, 1, none⟩ = false := Lib.frozen_of_heap hb2 1
  obtain ⟨ao, n', cap, rfl⟩ : ∃ ao n' cap, v' = .slice ao n' cap := by
    rcases hown'.2 with ⟨hv, _⟩ | ⟨g, cap, cur, fz, hv, _⟩
    · exact ⟨_, _, _, hv⟩
    · exact ⟨_, _, _, hv⟩
  go_wp2
  go_ret2
  refine ⟨rfl, .inr ?_, ?_⟩
  · exact Lib.BuilderAtF.put (T := 63) (e := 5) hB hb2 (bs' := bs ++ Lib.strCells s) (by simpa [Lib.strCells_length] using hown') (by decide)
  · exact (hb1.grown hgrow (by have := hb1.size; omega) (fun k hk => (hown.lt k hk).1)).setCell (p := ⟨b, 1, none⟩) hB _

end Go.Proofs.YtojepbapdjkknaaDoor

/-
  The shelf's contracts at this program that are wanted here, laid in plain words.
-/
namespace Go.Proofs
open Go.Shelf
def Tryd.lays169_ren : Go.Shelf.Ren := ⟨fun | 169 => 34 | n => n, fun | 70 => 61 | 9 => 9 | 0 => 0 | 72 => 63 | 37 => 26 | 127 => 105 | 3 => 3 | 5 => 5 | n => n, fun | n => n⟩
theorem Tryd.lays169 : Go.Proofs.Lays.n169 Tryd.prog Tryd.lays169_ren := {
  mixed := by kernel_rfl
  f169 := Tryd.func34.trans (congrArg some (by kernel_rfl))
  t0 := Tryd.underlying0
  a0 := Tryd.isAgg0
  z0 := Tryd.sizeOf0
  v0 := Tryd.zeroValue0
  t3 := Tryd.underlying3
  a3 := Tryd.isAgg3
  z3 := Tryd.sizeOf3
  v3 := Tryd.zeroValue3
  t9 := Tryd.underlying9
  a9 := Tryd.isAgg9
  z9 := Tryd.sizeOf9
  v9 := Tryd.zeroValue9
  t37 := Tryd.underlying26
  a37 := Tryd.isAgg26
  z37 := Tryd.sizeOf26
  v37 := Tryd.zeroValue26
  t70 := Tryd.underlying61
  a70 := Tryd.isAgg61
  z70 := Tryd.sizeOf61
  v70 := Tryd.zeroValue61
  t72 := Tryd.underlying63
  a72 := Tryd.isAgg63
  z72 := Tryd.sizeOf63
  v72 := Tryd.zeroValue63
  t127 := Tryd.underlying105
  a127 := Tryd.isAgg105
  z127 := Tryd.sizeOf105
  v127 := Tryd.zeroValue105 }
theorem Tryd.Builder_Extra_169 : Builder.Extra Tryd.prog Tryd.lays169_ren := {
  sizeBuilder := by kernel_rfl
  liesBuilder := by kernel_rfl
  t5 := Tryd.underlying5
  a5 := Tryd.isAgg5
  z5 := Tryd.sizeOf5
  v5 := Tryd.zeroValue5
  infoByte := by kernel_rfl
  cellsByte := by kernel_rfl
  sizeByte := by kernel_rfl
  neB5 := by decide }
open Go.RowKit in
theorem Tryd.Builder_String_any_k (B b : Nat) (l : List UInt8) (w : World) (h : Lib.IsBuilderF 63 5 B b (Lib.byteCells l) w) (hBw : B ≤ w.heap.size) :
    Calls Tryd.prog 34 #[.pointer (some ⟨b, 0, none⟩)] w fun e w' => e = .returned (.string ⟨l.toArray⟩) ∧ (Lib.IsBuilderF 63 5 B b (Lib.byteCells l) w' ∧ Below B w w' ∧ Lib.OthersKept 5 (some b) w w') := Any.Builder_String_any_k Tryd.lays169 Tryd.Builder_Extra_169 B b l w h hBw
def Tryd.laysM171_ren : Go.Shelf.Ren := ⟨fun | 171 => 32 | 243 => 63 | 246 => 85 | 283 => 104 | 284 => 105 | 285 => 106 | 286 => 107 | 129 => 103 | 317 => 125 | 318 => 126 | 319 => 127 | 320 => 128 | 337 => 140 | 338 => 141 | n => n, fun | 3 => 3 | 9 => 9 | 2 => 2 | 4 => 4 | 171 => 161 | 0 => 0 | 53 => 58 | 37 => 26 | 5 => 5 | 173 => 163 | 212 => 183 | 51 => 133 | 20 => 20 | 213 => 129 | 46 => 114 | 232 => 44 | 233 => 155 | n => n, fun | 17 => 0 | 18 => 3 | 19 => 4 | n => n⟩
theorem Tryd.laysM171 : Go.Proofs.LaysM.n171 Tryd.prog Tryd.laysM171_ren := {
  mixed := by kernel_rfl
  f129 := Tryd.func103.trans (congrArg some (by kernel_rfl))
  f171 := Tryd.func32.trans (congrArg some (by kernel_rfl))
  f243 := Tryd.func63.trans (congrArg some (by kernel_rfl))
  f246 := Tryd.func85.trans (congrArg some (by kernel_rfl))
  f283 := Tryd.func104.trans (congrArg some (by kernel_rfl))
  f284 := Tryd.func105.trans (congrArg some (by kernel_rfl))
  f285 := Tryd.func106.trans (congrArg some (by kernel_rfl))
  f286 := Tryd.func107.trans (congrArg some (by kernel_rfl))
  f317 := Tryd.func125.trans (congrArg some (by kernel_rfl))
  f318 := Tryd.func126.trans (congrArg some (by kernel_rfl))
  f319 := Tryd.func127.trans (congrArg some (by kernel_rfl))
  f320 := Tryd.func128.trans (congrArg some (by kernel_rfl))
  f337 := Tryd.func140.trans (congrArg some (by kernel_rfl))
  f338 := Tryd.func141.trans (congrArg some (by kernel_rfl))
  t0 := Tryd.underlying0
  a0 := Tryd.isAgg0
  z0 := Tryd.sizeOf0
  v0 := Tryd.zeroValue0
  t2 := Tryd.underlying2
  a2 := Tryd.isAgg2
  z2 := Tryd.sizeOf2
  v2 := Tryd.zeroValue2
  t3 := Tryd.underlying3
  a3 := Tryd.isAgg3
  z3 := Tryd.sizeOf3
  v3 := Tryd.zeroValue3
  t4 := Tryd.underlying4
  a4 := Tryd.isAgg4
  z4 := Tryd.sizeOf4
  v4 := Tryd.zeroValue4
  t5 := Tryd.underlying5
  a5 := Tryd.isAgg5
  z5 := Tryd.sizeOf5
  v5 := Tryd.zeroValue5
  t9 := Tryd.underlying9
  a9 := Tryd.isAgg9
  z9 := Tryd.sizeOf9
  v9 := Tryd.zeroValue9
  t20 := Tryd.underlying20
  a20 := Tryd.isAgg20
  z20 := Tryd.sizeOf20
  v20 := Tryd.zeroValue20
  t37 := Tryd.underlying26
  a37 := Tryd.isAgg26
  z37 := Tryd.sizeOf26
  v37 := Tryd.zeroValue26
  t46 := Tryd.underlying114
  a46 := Tryd.isAgg114
  z46 := Tryd.sizeOf114
  v46 := Tryd.zeroValue114
  t51 := Tryd.underlying133
  a51 := Tryd.isAgg133
  z51 := Tryd.sizeOf133
  v51 := Tryd.zeroValue133
  t53 := Tryd.underlying58
  a53 := Tryd.isAgg58
  z53 := Tryd.sizeOf58
  v53 := Tryd.zeroValue58
  t171 := Tryd.underlying161
  a171 := Tryd.isAgg161
  z171 := Tryd.sizeOf161
  v171 := Tryd.zeroValue161
  t173 := Tryd.underlying163
  a173 := Tryd.isAgg163
  z173 := Tryd.sizeOf163
  v173 := Tryd.zeroValue163
  t212 := Tryd.underlying183
  a212 := Tryd.isAgg183
  z212 := Tryd.sizeOf183
  v212 := Tryd.zeroValue183
  t213 := Tryd.underlying129
  a213 := Tryd.isAgg129
  z213 := Tryd.sizeOf129
  t232 := Tryd.underlying44
  a232 := Tryd.isAgg44
  z232 := Tryd.sizeOf44
  v232 := Tryd.zeroValue44
  t233 := Tryd.underlying155
  a233 := Tryd.isAgg155
  z233 := Tryd.sizeOf155
  v233 := Tryd.zeroValue155
  g17 := by kernel_rfl
  g18 := by kernel_rfl
  g19 := by kernel_rfl
  i0 := by kernel_rfl
  i2 := by kernel_rfl
  i3 := by kernel_rfl
  i4 := by kernel_rfl
  i5 := by kernel_rfl
  i9 := by kernel_rfl
  i20 := by kernel_rfl
  i37 := by kernel_rfl
  i46 := by kernel_rfl
  i51 := by kernel_rfl
  i53 := by kernel_rfl
  i171 := by kernel_rfl
  i173 := by kernel_rfl
  i212 := by kernel_rfl
  i232 := by kernel_rfl
  i233 := by kernel_rfl
  m17 := by kernel_rfl
  m18 := by kernel_rfl
  m19 := by kernel_rfl }
open Go.RowKit Go.Sort Go.Lib in
theorem Tryd.strconv_Itoa (n : Int) (h0 : -9223372036854775808 ≤ n) (h1 : n ≤ 9223372036854775807) (w : World) (htab : Lib.TabIs Tryd.prog w "internal/strconv.uint64pow10" .u64 Lib.pow10Tab) :
    Calls Tryd.prog 32 #[.int .i64 n] w fun e w' => e = .returned (.string ⟨(Lib.itoa n).toArray⟩) ∧ ∃ k os, w' = grow (w.drewN k) os := Any.strconv_Itoa Tryd.laysM171 n h0 h1 w htab
end Go.Proofs
