/-
  Texts one behind the other: Bya Byb Kqt ShZ Kqu Jls Sgl Bxl Bxm Bxo Byk.
-/
import Derived.Test.YtpocadbhajacaaaGreatDoorNw
import Derived.Test.YtpocadbhajacaaaGreatDoorBu
import Derived.Test.YtpocadbhajacaaaGreatDoorPkYA
import Derived.Great.BuildSlice
import Derived.Laws.Bits64
import Derived.Deep.AppendLies
import Derived.Test.YtpocadbhajacaaaGreatDoorPkYE
import Derived.Test.YtpocadbhajacaaaGreatDoorPkYB
import Derived.Sort.Walk0
import Derived.Ground.GgzProg
import Derived.Ground.SlgmProg
import Derived.Shelf.SlGeneric
import Derived.Shelf.SlIter.Nil
import Derived.Shelf.SortM.Plain
import Derived.Shelf.SortM.SortNone
import Derived.Test.YtpocadbhajacaaaGreatDoorProg
import Derived.Test.YtpocadbhajacaaaGreatDoorKmj
import Derived.Test.YtpocadbhajacaaaGreatDoorPkYC
import Derived.OpenShut

/-
  Slices of slices of bytes of the call's own: how one is built of one, how one is appended to.
-/
namespace Go.Proofs.YtpocadbhajacaaaGreatDoor
open Go.RowKit
set_option linter.unusedVariables false
set_option maxRecDepth 100000

/-- A slice of bytes, as an element. -/
abbrev Sv := Option Addr × Nat × Nat
def svV (x : Sv) : Value := .slice x.1 x.2.1 x.2.2
/-- The cells of names. -/
def vC (hs : List Sv) : List Value := hs.map svV
theorem One.vC (hs : List Sv) : One (vC hs) := by intro v hv; obtain ⟨x, _, rfl⟩ := List.mem_map.1 hv; rfl
theorem vC_length (hs : List Sv) : (vC hs).length = hs.length := by simp [vC]
theorem vC_at (hs : List Sv) (i : Nat) (n : Sv) (h : hs[i]? = some n) : (vC hs)[i]? = some (svV n) := by simp [vC, h]
theorem info_someV {P : Program} {t : TypeId} {z : Option Value} {s b : Nat} (h : (P.info? t).map (fun i => (i.zero, i.size, i.bytes)) = some (z, s, b)) : ∃ i, P.info? t = some i ∧ i.zero = z ∧ i.size = s ∧ i.bytes = b := by
  cases hi : P.info? t with
  | none => simp [hi] at h
  | some i => simp [hi] at h; exact ⟨i, rfl, h.1, h.2.1, h.2.2⟩
theorem infoV : (Tryz.prog.info? 31).map (fun i => (i.zero, i.size, i.bytes)) = some (some (.slice none 0 0), 1, 24) := by kernel_rfl
theorem undVl : Tryz.prog.underlying 59 = some (.slice 31) := by kernel_rfl
theorem undVs : Tryz.prog.underlying 59 = some (.slice (Tryz.prog.elem 59)) := by kernel_rfl
theorem elemVv : Tryz.prog.elem 59 = 31 := by kernel_rfl
theorem sizeVv (w : World) : (sizeOf 31).run Tryz.prog w = .ok 1 w := by kernel_rfl
theorem atVv (b n cap i : Nat) (I : Int) (hI : I = (i : Int)) (hi : i < n) (v : World) : (Instr.indexAt 59 (.slice (some ⟨b, 0, none⟩) n cap) (.int .i64 I)).run Tryz.prog v = .ok (.pointer (some ⟨b, i, none⟩)) v := by
  subst hI
  rw [run_indexAt_slice v _ _ _ _ .i64 i undVs, if_pos ⟨by omega, by omega⟩, elemVv, sizeVv]
  simp only [Result.andThen_ok, Int.toNat_natCast]
  rw [Addr.add_lit, Nat.zero_add, Nat.mul_one]
/-- In a slice of the call's own. -/
def OwnV (w : World) (B : Nat) (v : Value) (ns : List Sv) : Prop := w.ownsRow B 31 1 v ns.length (vC ns)
theorem OwnV.nil (w : World) (B : Nat) : OwnV w B (.slice none 0 0) [] := World.ownsRow_nil _ _ _ _
theorem OwnV.below {w w' : World} {B : Nat} {v : Value} {ns : List Sv} (h : OwnV w B v ns) (hb : Below w.heap.size w w') : OwnV w' B v ns := by
  obtain ⟨h1, h2⟩ := h
  refine ⟨h1, ?_⟩
  rcases h2 with h2 | ⟨g, cap, cur, e, hg, hh, r⟩
  · exact .inl h2
  · refine .inr ⟨g, cap, cur, e, hg, ?_, r⟩
    rw [hb.block g (Array.getElem?_eq_some_iff.1 hh).1]
    exact hh
theorem OwnV.but {w w' : World} {B g : Nat} {v : Value} {ns : List Sv} (h : OwnV w B v ns) (hb : But g w w') (hg : v.ownBlock ≠ some g) : OwnV w' B v ns := by
  obtain ⟨h1, h2⟩ := h
  refine ⟨h1, ?_⟩
  rcases h2 with h2 | ⟨k, cap, cur, rfl, hk, hh, r⟩
  · exact .inl h2
  · refine .inr ⟨k, cap, cur, rfl, hk, ?_, r⟩
    rw [hb.block k (fun e => hg (by rw [← e]; rfl))]
    exact hh
theorem OwnV.lies {w : World} {B : Nat} {v : Value} {ns : List Sv} (h : OwnV w B v ns) : (v = .slice none 0 0 ∧ ns = []) ∨
    ∃ g cap cs, v = .slice (some ⟨g, 0, none⟩) ns.length cap ∧ B ≤ g ∧ Blk w g 31 cs ∧ ns.length ≤ cap ∧ cap ≤ 9223372036854775807 ∧ cs.length = cap ∧ cs.take ns.length = vC ns := by
  obtain ⟨h1, h2⟩ := h
  rcases h2 with ⟨e, h0⟩ | ⟨g, cap, cur, rfl, hB, hh, h3, h4, h5, h6⟩
  · exact .inl ⟨e, List.eq_nil_of_length_eq_zero h0⟩
  · exact .inr ⟨g, cap, cur.toList, rfl, hB, by unfold Blk; simpa using hh, h3, by simpa [maxLen] using h4, by simpa using h5, by simpa using h6⟩
theorem OwnV.slice {w : World} {B : Nat} {v : Value} {ns : List Sv} (h : OwnV w B v ns) : ∃ a c, v = Value.slice a ns.length c := by
  rcases h.lies with ⟨rfl, rfl⟩ | ⟨g, cap, cs, rfl, _⟩
  · exact ⟨_, _, rfl⟩
  · exact ⟨_, _, rfl⟩
theorem OwnV.mk {w : World} {B g cap : Nat} {cs : List Value} {ns : List Sv} (hB : B ≤ g) (hb : Blk w g 31 cs) (hn : ns.length ≤ cap) (hc : cap ≤ 9223372036854775807) (hl : cs.length = cap) (ht : cs.take ns.length = vC ns) : OwnV w B (.slice (some ⟨g, 0, none⟩) ns.length cap) ns := by
  refine ⟨by rw [vC_length]; omega, .inr ⟨g, cap, cs.toArray, rfl, hB, by unfold Blk at hb; simpa using hb, hn, by simpa [maxLen] using hc, by simpa using hl, by simpa using ht⟩⟩
theorem OwnV.lt {w : World} {B : Nat} {v : Value} {ns : List Sv} (h : OwnV w B v ns) : ∀ k, v.ownBlock = some k → B ≤ k ∧ k < w.heap.size := fun k hk => World.ownsRow.lt h k hk
theorem OwnV.cell {w : World} {B g cap : Nat} {ns : List Sv} {m : Nat} (h : OwnV w B (.slice (some ⟨g, 0, none⟩) m cap) ns) (i : Nat) (n : Sv) (hi : ns[i]? = some n) : w.cell? ⟨g, i, none⟩ = some (svV n) := by
  rcases h.lies with ⟨e, _⟩ | ⟨g', c, cs, e, _, hb, _, _, _, ht⟩
  · cases e
  · injection e with e1 _ _
    injection e1 with e1
    injection e1 with e1 _ _
    subst e1
    rw [hb.cell]
    have hlt : i < ns.length := (List.getElem?_eq_some_iff.1 hi).1
    have := vC_at ns i n hi
    rw [← ht, List.getElem?_take, if_pos hlt] at this
    exact this
theorem buildV (n : Sv) (w : World) : (Instr.buildSlice 59 1 #[(0, svV n)]).run Tryz.prog w = .ok (.slice (some ⟨w.heap.size, 0, none⟩) 1 1) (w.alloc (.cells (vC [n]).toArray 31)) := by
  obtain ⟨i0, hi, hz0, hz1, hz2⟩ := info_someV infoV
  refine run_buildSlice w 59 31 1 _ _ i0 _ undVl hi hz0 (by rw [hz1]; decide) (by rw [hz1]; decide) ?_
  rw [hz1]
  have e0 : ((Array.range (1 * 1)).map ((Value.slice none 0 0).cells[· % (Value.slice none 0 0).cells.size]!)) = (vC [((none, 0, 0) : Sv)]).toArray := by kernel_rfl
  rw [e0]
  show Instr.fill _ _ [(0, svV n)] = _
  rw [fill_cons (place := fun i => some (i * 1, 1)) (off := 0) (size := 1) (vs := vC [n]) rfl rfl rfl (by decide), fill_nil]
  rfl
section
variable {dst : Option Tmp} {ty : TypeId} {pos : String} {aft : Array Edge} {gd : Option (Nat × Bool)} {ops : Array Oper} {rest : List Oper} {a : Act} {w : World} {K : Act → World → Prop} {Q : Exit → Act → World → Prop}
set_option maxRecDepth 100000 in
theorem wponeV {x : Operand} {n : Sv} (hx : a.eval x = svV n) (h : ∀ w1 g, Blk w1 g 31 (vC [n]) → w.heap.size ≤ g → Below w.heap.size w w1 → K (a.put dst (.slice (some ⟨g, 0, none⟩) 1 1)) w1) :
    Oper.wp Tryz.prog ⟨dst, .buildSlice 59 1 #[(0, x)], ty, pos, aft, gd⟩ a w K Q := by
  refine wp_runV (.slice (some ⟨w.heap.size, 0, none⟩) 1 1) (w.alloc (.cells (vC [n]).toArray 31)) ?_ (h _ _ (Blk.made _ _ _) (Nat.le_refl _) ((Below.refl _ _).alloc (Nat.le_refl _) _))
  unfold execOp
  simp only [List.map_toArray, List.map_cons, List.map_nil, hx]
  simp only [Sem.run_bind, buildV n, Result.andThen_ok, Sem.run_pure]
theorem wpappV {s x : Operand} {B : Nat} {v : Value} {ns : List Sv} {n : Sv} {g c : Nat} (hs : a.eval s = v) (hx : a.eval x = .slice (some ⟨g, 0, none⟩) 1 c) (hown : OwnV w B v ns) (hy : Blk w g 31 (vC [n])) (hlen : ns.length ≤ 1048576) (hB : B ≤ w.heap.size)
    (h : ∀ v' w', OwnV w' B v' (ns ++ [n]) → w.grownBy w' v.ownBlock → (∀ k, v'.ownBlock = some k → v.ownBlock = some k ∨ w.heap.size ≤ k) → K (a.put dst v') w') :
    Oper.wp Tryz.prog ⟨dst, .call { callee := .builtin .append, args := #[s, x], argTypes := #[59, 59] }, ty, pos, aft, gd⟩ a w K Q := by
  obtain ⟨i0, hi, hz0, hz1, hz2⟩ := info_someV infoV
  obtain ⟨g', cap', w', hr, ho, hgr, hat, hlt⟩ := run_append_lies (P := Tryz.prog) w 59 ty B 31 i0 (.slice none 0 0) 1 24 undVl hi hz0 hz1 hz2 rfl (by decide) v _ _ hown ⟨g, 0, none⟩ 1 c (vC [n]) rfl (fun j u hu => by
    rw [Addr.add_lit, Nat.zero_add, hy.cell]
    exact hu) (One.vC [n]) (by decide) (by unfold maxLen; omega) (by omega) hB _ rfl
  unfold Oper.wp
  simp [execOp, resolve, invoke, builtin, hs, hx, hr, Result.andThen]
  refine h _ _ (by unfold OwnV; rw [show vC (ns ++ [n]) = vC ns ++ vC [n] by simp [vC], List.length_append]; exact ho) hgr (fun k hk => ?_)
  injection hk with hk
  subst hk
  rcases hat with hat | hat
  · exact .inl hat
  · exact .inr (Nat.le_of_eq hat.symm)
end
section
variable {F : Fence} {n : Nat} {dst : Option Tmp} {ty : TypeId} {pos : String} {aft : Array Edge} {gd : Option (Nat × Bool)} {ops : Array Oper} {rest : List Oper} {a : Act} {w : World} {Q : Exit → Act → World → Prop}
theorem istep_oneV (hF : WideF F) {x : Operand} {s : Sv} (hw : Region.wanted ⟨dst, .buildSlice 59 1 #[(0, x)], ty, pos, aft, gd⟩ (yielded ops a.tmps) = true) (hx : a.eval x = svV s)
    (h : ∀ w1 g, Blk w1 g 31 (vC [s]) → w.heap.size ≤ g → Below w.heap.size w w1 → wpListIn F n Tryz.prog ops Q rest (a.put dst (.slice (some ⟨g, 0, none⟩) 1 1)) w1) :
    wpListIn F n Tryz.prog ops Q (⟨dst, .buildSlice 59 1 #[(0, x)], ty, pos, aft, gd⟩ :: rest) a w :=
  istep hF (fun c => by simp) hw fun K hK => wponeV hx fun w1 g h1 h2 h3 => hK _ _ (h w1 g h1 h2 h3)
theorem istep_appV (hF : WideF F) {s x : Operand} {B : Nat} {v : Value} {ns : List Sv} {m : Sv} {g c : Nat} (hw : Region.wanted ⟨dst, .call { callee := .builtin .append, args := #[s, x], argTypes := #[59, 59] }, ty, pos, aft, gd⟩ (yielded ops a.tmps) = true)
    (hs : a.eval s = v) (hx : a.eval x = .slice (some ⟨g, 0, none⟩) 1 c) (hown : OwnV w B v ns) (hy : Blk w g 31 (vC [m])) (hlen : ns.length ≤ 1048576) (hB : B ≤ w.heap.size)
    (h : ∀ v' w', OwnV w' B v' (ns ++ [m]) → w.grownBy w' v.ownBlock → (∀ k, v'.ownBlock = some k → v.ownBlock = some k ∨ w.heap.size ≤ k) → wpListIn F n Tryz.prog ops Q rest (a.put dst v') w') :
    wpListIn F n Tryz.prog ops Q (⟨dst, .call { callee := .builtin .append, args := #[s, x], argTypes := #[59, 59] }, ty, pos, aft, gd⟩ :: rest) a w :=
  istep hF (fun c => by simp) hw fun K hK => wpappV hs hx hown hy hlen hB fun v' w' h1 h2 h3 => hK _ _ (h v' w' h1 h2 h3)
end
theorem OwnV.ck {W W' : World} {B : Nat} {v : Value} {ns : List Sv} (h : OwnV W B v ns) (hk : CK W W') : OwnV W' B v ns := row_same h (fun k e => by
  obtain ⟨cs, hc⟩ := row_lies h e
  exact (hc.ck hk).trans hc.symm)

end Go.Proofs.YtpocadbhajacaaaGreatDoor

/-
  All: the leaves are read ahead, then handed out.
-/
namespace Go.Proofs.YtpocadbhajacaaaGreatDoor
open Go.RowKit Go.Shelf
set_option linter.unusedVariables false
set_option linter.unusedSimpArgs false
set_option maxRecDepth 100000

/-- All cells from B on are left. -/
structure KC (B : Nat) (A C : World) : Prop where
  size : A.heap.size ≤ C.heap.size
  rest : ∀ k t cs, B ≤ k → Blk A k t cs → Blk C k t cs
theorem KC.trans {B : Nat} {A C D : World} (h : KC B A C) (k : KC B C D) : KC B A D := ⟨Nat.le_trans h.size k.size, fun i t cs h1 h2 => k.rest i t cs h1 (h.rest i t cs h1 h2)⟩
theorem KC.below {B : Nat} {A C : World} (h : Below A.heap.size A C) : KC B A C := ⟨h.size, fun k t cs _ hb => hb.on h⟩
theorem KC.but {B g : Nat} {A C : World} (h : But g A C) (hg : g < B) : KC B A C := ⟨Nat.le_of_eq h.size.symm, fun k t cs h1 hb => hb.but h (by omega)⟩
theorem KC.book {B : Nat} (W : World) (l : Nat) (o o' : Obj) (h : W.heap[l]? = some o) (hc : o.isCells = false) : KC B W (W.putObj l o') :=
  ⟨(grownBy_putObj' W l o').size, fun k t cs _ hb => by
    have hne : k ≠ l := fun e => by
      subst e
      rw [hb] at h
      injection h with h
      subst h
      cases hc
    unfold Blk
    rw [World.putObj_heap_other hne]
    exact hb⟩
theorem row_kc {w w' : World} {B Z : Nat} {e : TypeId} {q n : Nat} {v : Value} {xs : List Value} (h : w.ownsRow Z e q v n xs) (hk : KC B w w') (hB : B ≤ Z) : w'.ownsRow Z e q v n xs := row_same h (fun k hk2 => by
  obtain ⟨cs, hc⟩ := row_lies h hk2
  have h1 := row_ge h hk2
  exact (hk.rest k _ cs (by omega) hc).trans hc.symm)
theorem OwnV.kc {w w' : World} {B Z : Nat} {v : Value} {ns : List Sv} (h : OwnV w Z v ns) (hk : KC B w w') (hB : B ≤ Z) : OwnV w' Z v ns := row_kc h hk hB
theorem Own.kc {w w' : World} {B Z : Nat} {v : Value} {xs : List Int} (h : Own w Z v xs) (hk : KC B w w') (hB : B ≤ Z) : Own w' Z v xs := row_kc h hk hB
section
variable {A C : World} {Z : Nat} {fv : Value} {vs : List Sv}
theorem appV_ne (ho : OwnV A Z fv vs) {g : Nat} {t : TypeId} {cs : List Value} (hb : Blk A g t cs) (ht : t ≠ 31) : fv.ownBlock ≠ some g := fun e => by
  obtain ⟨cs', hc⟩ := row_lies ho e
  unfold Blk at hb hc
  rw [hb] at hc
  injection hc with hc
  injection hc with _ h2
  exact ht h2
theorem Blk.appV {g : Nat} {t : TypeId} {cs : List Value} (hb : Blk A g t cs) (ht : t ≠ 31) (ho : OwnV A Z fv vs) (hg : A.grownBy C fv.ownBlock) : Blk C g t cs :=
  hb.same (hg.block g hb.lt (fun e => appV_ne ho hb ht e.symm))
theorem Own.appV {B : Nat} {v : Value} {xs : List Int} (h : Own A B v xs) (ho : OwnV A Z fv vs) (hg : A.grownBy C fv.ownBlock) : Own C B v xs := row_same h (fun k hk => by
  obtain ⟨cs, hc⟩ := row_lies h hk
  exact hg.block k hc.lt (fun e => appV_ne ho hc (by decide) e.symm))
theorem KB.appV {B : Nat} {F : Nat → Prop} (hF : ∀ k, F k → k < Z) (ho : OwnV A Z fv vs) (hg : A.grownBy C fv.ownBlock) : KB B F A C :=
  ⟨hg.size, fun k hk hl => hg.block k hl (fun e => by have h1 := row_ge ho e.symm; have := hF k hk; omega), fun k t cs _ ht hb => hb.appV ht ho hg⟩
end
/-- What stands while the leaves are read ahead. -/
structure AV (w W : World) (Z gd d b4 s : Nat) (rs : List Rw) (D : Dm) (fv : Value) (vs : List Sv) (H : Nat) : Prop where
  cd : Blk W gd 26 [.pointer (some ⟨d, 0, none⟩)]
  dk : DkAt W d s rs D
  pt : PT W
  c4 : Blk W b4 59 [fv]
  own : OwnV W Z fv vs
  ls : ∀ i x, vs[i]? = some x → Own W Z (svV x) (lf (play rs) H i)
  l4 : w.heap.size ≤ b4 ∧ b4 < Z
  bel : Below w.heap.size w W
  sz : Z ≤ W.heap.size
section
variable {w W W' : World} {Z gd d b4 s : Nat} {rs : List Rw} {D : Dm} {fv : Value} {vs : List Sv} {H : Nat}
theorem AV.on (h : AV w W Z gd d b4 s rs D fv vs H) (hb : Below W.heap.size W W') : AV w W' Z gd d b4 s rs D fv vs H :=
  ⟨h.cd.on hb, h.dk.below hb, h.pt.below hb, h.c4.on hb, h.own.ck (CK.below hb), fun i x hx => (h.ls i x hx).ck (CK.below hb), h.l4, on_below h.bel hb, Nat.le_trans h.sz hb.size⟩
theorem AV.grown {row : Option Nat} {E : Nat} (h : AV w W Z gd d b4 s rs D fv vs H) (hE : ∀ k, FD d D k → k < E) (hw : w.heap.size ≤ E) (hg : W.grownBy W' row) (hr : ∀ r, row = some r → E ≤ r ∧ ∃ o : Obj, W.heap[r]? = some o ∧ o.isCells = false) : AV w W' Z gd d b4 s rs D fv vs H := by
  have hk : ∀ k, FD d D k → W'.heap[k]? = W.heap[k]? := fun k hq => hg.block k (fd_lt h.dk h.pt hq) (fun e => by have := (hr k e.symm).1; have := hE k hq; omega)
  have hck := CK.of_grown hg (fun r e => (hr r e).2)
  exact ⟨h.cd.ck hck, dk_fd h.dk hk, pt_fd h.pt hk, h.c4.ck hck, h.own.ck hck, fun i x hx => (h.ls i x hx).ck hck, h.l4, h.bel.grown hg h.bel.size (fun r e => by have := (hr r e).1; omega), Nat.le_trans h.sz hg.size⟩
end
/-- What is handed out: a number and a leaf. -/
def encA (x : Nat × Sv) : Array Value := #[.int .i64 (x.1 : Int), svV x.2]
def RA (F : ByteArray → Option (List Int)) (H n : Nat) (pre : List (Nat × Sv)) (x : Nat × Sv) (W0 W : World) : Prop := pre.length < n ∧ x.1 = pre.length ∧ ∃ Z, Own W Z (svV x.2) (lf F H pre.length)
theorem ra_own (F : ByteArray → Option (List Int)) (H n B0 : Nat) (pre : List (Nat × Sv)) (x : Nat × Sv) (W0 : World) : OwnFrom B0 (fun (_ : Unit) W => RA F H n pre x W0 W) := fun _ W W' row h hg hr => by
  obtain ⟨h1, h2, Z, h3⟩ := h
  exact ⟨h1, h2, Z, h3.ck (CK.of_grown hg (fun r e => (hr r e).2))⟩
/-- Where a leaf lies its bytes are read. -/
theorem leaf_read {w : World} {d s : Nat} {rs : List Rw} {D : Dm} (hd : DkAt w d s rs D) {H n j : Nat} (hn : CnL (play rs) H n) (hj : j < n) (hwt : wt rs ≤ 1099511000000) :
    Calls Tryz.prog 50 #[.pointer (some ⟨d, 0, none⟩), .string (plL (play rs) H j).1, .int .i64 (((plL (play rs) H j).2.1 : Nat) : Int), .int .i64 (((plL (play rs) H j).2.2 : Nat) : Int)] w fun e w' => ∃ v, e = .returned (.tuple #[v, .int .i64 0]) ∧ Own w' w.heap.size v (lf (play rs) H j) ∧ Below w.heap.size w w' := by
  have h1 := hn.1 j hj
  unfold hasL at h1
  simp only [Bool.and_eq_true, decide_eq_true_eq] at h1
  have hk := h1.2
  unfold lf
  unfold plL plK
  simp only
  have hw0 : wlF (play rs) H (j / 2 ^ H) = wl (2 ^ H) (fl (play rs) (lfN H (j / 2 ^ H))) := rfl
  rw [hw0] at hk ⊢
  have hbb := hd.byB (lfN H (j / 2 ^ H))
  generalize lfN H (j / 2 ^ H) = nm at *
  generalize j % 2 ^ H = k at *
  have hnx := offL_next hbb hk
  obtain ⟨t, ht⟩ := wl_at hbb hk
  have := read_any d s rs D w hd nm ((offL (wl (2 ^ H) (fl (play rs) nm)) k + 2 : Nat) : Int) ((((wl (2 ^ H) (fl (play rs) nm)).getD k []).length : Nat) : Int) hwt
  obtain ⟨e1, e2⟩ := rq_in hd nm (offL (wl (2 ^ H) (fl (play rs) nm)) k + 2) ((wl (2 ^ H) (fl (play rs) nm)).getD k []).length (by omega)
  have hf : fE rs nm = 0 := by
    by_cases hf : fE rs nm = 0
    · exact hf
    · have h0 := fE_fl hd hf
      rw [h0] at hnx
      simp at hnx
  rw [e1, e2, hf, ← List.drop_drop, ht] at this
  unfold lfB at this
  simp only [List.cons_append, List.drop_succ_cons, List.drop_zero, List.take_left] at this
  exact this
/-- The height's leaves are small. -/
theorem lf_small {w : World} {d s : Nat} {rs : List Rw} {D : Dm} (hd : DkAt w d s rs D) {H n j : Nat} (hn : CnL (play rs) H n) (hj : j < n) : (lf (play rs) H j).length ≤ 65535 ∧ isB (lf (play rs) H j) := by
  have h1 := hn.1 j hj
  unfold hasL at h1
  simp only [Bool.and_eq_true, decide_eq_true_eq] at h1
  have hbb := hd.byB (lfN H (j / 2 ^ H))
  exact wl_ok _ _ hbb _ (getD_mem h1.2)
set_option maxHeartbeats 4000000 in
theorem allB_seq (d s : Nat) (rs : List Rw) (D : Dm) (gd gh H n : Nat) (w : World) (hd : DkAt w d s rs D) (ht : PT w) (bd : Blk w gd 26 [.pointer (some ⟨d, 0, none⟩)]) (bh : Blk w gh 3 [.int .i64 (H : Int)]) (hh : hB H) (hn : CnL (play rs) H n) (hwt : wt rs ≤ 1099511000000) :
    SeqM Fence.wide 5 Tryz.prog 53 #[.pointer (some ⟨gd, 0, none⟩), .pointer (some ⟨gh, 0, none⟩)] encA (RA (play rs) H n) (fun _ => KC w.heap.size) (fun ys => ys.length = n) (fun ys => ys.length ≤ n) w := by
  intro l0 J Jx W hW hl0 hJ hJx hY h0
  have HD := hide (hd.below hW)
  have HT := hide (ht.below hW)
  have HBD := hide (bd.on hW)
  have HBH := hide (bh.on hW)
  have HJ0 := hide h0
  have HFD : Hid (∀ k, FD d D k → k < W.heap.size) := hide (fun k hk => Nat.lt_of_lt_of_le (fd_lt hd ht hk) hW.size)
  have hnb : n ≤ 1048576 := hn.le
  have HLR : Hid (∀ (V : World) (j : Nat), DkAt V d s rs D → j < n → Calls Tryz.prog 50 #[.pointer (some ⟨d, 0, none⟩), .string (plL (play rs) H j).1, .int .i64 (((plL (play rs) H j).2.1 : Nat) : Int), .int .i64 (((plL (play rs) H j).2.2 : Nat) : Int)] V fun e w' => ∃ v, e = .returned (.tuple #[v, .int .i64 0]) ∧ Own w' V.heap.size v (lf (play rs) H j) ∧ Below V.heap.size V w') := hide (fun V j hV hj => leaf_read hV hn hj hwt)
  have HLB : Hid (∀ j, j < n → (lf (play rs) H j).length ≤ 65535) := hide (fun j hj => (lf_small hd hn hj).1)
  have HPS : Hid (∀ (V : World) (ed eh : Nat) (B : Nat), QAt V d s rs D ed eh H B → B ≤ V.heap.size → (∀ k, FD d D k → k < B) → SeqM Fence.wide 4 Tryz.prog 82 #[.pointer (some ⟨eh, 0, none⟩), .pointer (some ⟨ed, 0, none⟩)] encPl (RPl (play rs) H n) (fun _ => KB B (FD d D)) (fun ys => ys = plsL (play rs) H n) (fun ys => ∃ k, k ≤ n ∧ ys = plsL (play rs) H k) V) := hide (fun V ed eh B hQ hB hF => placesB_seq d s rs D ed eh H n B V hQ hh hn hwt hB hF)
  have hWw : w.heap.size ≤ W.heap.size := hW.size
  clear hd ht bd bh hW h0 hh hn hwt
  refine callsIn_of_wp_marks Tryz.func53 rfl trivial ?_ rfl
  simp only [Tryz.ntmps53, List.size_toArray, List.length_cons, List.length_nil, Nat.reduceAdd, Nat.reduceSub, Array.replicate_succ, Array.replicate_zero, List.push_toArray, List.append_toArray, List.nil_append, List.cons_append]
  refine wpIn_wide.2 ?_
  have C9 : Blk (W.alloc (.cells #[.slice none 0 0] 59)) W.heap.size 59 [.slice none 0 0] := Blk.made W 59 [.slice none 0 0]
  have hb1 : Below W.heap.size W (W.alloc (.cells #[.slice none 0 0] 59)) := (Below.refl _ _).alloc (Nat.le_refl _) _
  have HB1 := hide hb1
  have HC9 := hide C9
  clear hb1 C9
  have c1 : (W.alloc (.cells #[.slice none 0 0] 59)).cell? ⟨gh, 0, none⟩ = some (.int .i64 (H : Int)) := by rw [(HBH.out.on HB1.out).cell]; rfl
  have c2 : (W.alloc (.cells #[.slice none 0 0] 59)).cell? ⟨gd, 0, none⟩ = some (.pointer (some ⟨d, 0, none⟩)) := by rw [(HBD.out.on HB1.out).cell]; rfl
  go_wp2_with fail
  obtain ⟨b9, hb9⟩ : ∃ b9, W.heap.size = b9 := ⟨_, rfl⟩
  have hb90 : W.heap.size ≤ b9 := by omega
  generalize W.alloc (.cells #[.slice none 0 0] 59) = W1 at *
  rw [hb9] at HC9
  simp only [hb9]
  refine (placesB_mk _ _ _).mono ?_
  rintro e w3 ⟨ed, eh, rfl, BD, BH, hed, heh, hb3⟩
  have HB3 := hide (on_below HB1.out hb3)
  have HC3 := hide (HC9.out.on hb3)
  have h91 : b9 < W1.heap.size := HC9.out.lt
  have HSQ := hide (HPS.out w3 ed eh W1.heap.size ⟨HD.out.below HB3.out, HT.out.below HB3.out, BD, BH, hed, heh⟩ hb3.size (fun k hk => Nat.lt_of_lt_of_le (HFD.out k hk) HB1.out.size))
  have HA3 : Hid (AV W w3 w3.heap.size gd d b9 s rs D (.slice none 0 0) [] H) := hide ⟨HBD.out.on HB3.out, HD.out.below HB3.out, HT.out.below HB3.out, HC3.out, World.ownsRow_nil _ _ _ _, (fun i x hx => by cases hx), ⟨hb90, Nat.lt_of_lt_of_le h91 hb3.size⟩, HB3.out, Nat.le_refl _⟩
  have hs3 : W.heap.size ≤ w3.heap.size := HB3.out.size
  have h13 : W1.heap.size ≤ w3.heap.size := hb3.size
  have hs1 : W.heap.size ≤ W1.heap.size := HB1.out.size
  clear hb3 c1 c2 BD BH HC9 HC3 hed heh HPS
  go_wp2_with fail
  refine (wpIn_wide (n := 5)).1 ?_
  refine rangeM rfl (by decide) (gf := 82) (lb := #[.pointer (some ⟨eh, 0, none⟩), .pointer (some ⟨ed, 0, none⟩)]) rfl trivial (enters_of Tryz.func82 (by kernel_rfl) rfl)
    HSQ.out KB.trans (fun x V l o o' hl h hc => KB.book (B' := w3.heap.size) (fun k hk => by have := HFD.out k hk; omega) V l o o' hl h hc) (fun x A C h => KB.below h) (fun _ => rfl) (fun pre x V0 => rpl_own _ _ _ _ pre x V0)
    (fun pre V => ∃ fv vs, vs.length = pre.length ∧ AV W V w3.heap.size gd d b9 s rs D fv vs H) (fun _ _ _ => False)
    (fun _ A C row h hg hr => by
      obtain ⟨fv, vs, h1, h2⟩ := h
      exact ⟨fv, vs, h1, h2.grown (fun k hk => by have := HFD.out k hk; omega) hs3 hg hr⟩)
    (fun c _ A C row h hg hr => h) ⟨_, [], rfl, HA3.out⟩ ?act (fun x g V => Blk V g 102 (plV x)) (fun x g V l r o' hl hx => blk_loop V l r o' hl hx) ?assign ?body ?done ?stop
  case assign =>
    rintro l x V K ⟨pre, V0, h1, h2, h3⟩ hK
    have hsem := Oper.semAt_some
    simp only [encPl]
    clear h1 h2 h3
    have ez : ∀ (t : Array Value) (v : Value), (Array.zip #[13] #[v]).foldl (fun t (x : Tmp × Value) => t.setIfInBounds x.1 x.2) t = t.setIfInBounds 13 v := fun t v => by simp
    rw [ez]
    simp only [List.setIfInBounds_toArray, List.set_cons_succ, List.set_cons_zero]
    gi_wp2_with (refine istep_alloc (.round l) zPl rfl ?_)
    intro V1 g9 hg9 hle9 hb9'
    gi_wp2_with (refine istep_storeA (.round l) wPl rfl rfl rfl hg9 rfl (One.pl x) rfl ?_)
    intro V2 hg92 hbut9
    have hb92 : Below V.heap.size V V2 := hb9'.trans (hbut9.below hle9)
    have hK2 := hK g9 V2 hb92 hle9 hg92
    clear hK
    gi_wp2
    exact hK2
  case stop =>
    rintro Dk c pre V hD hSp hx hK
    exact hx.elim
  case body =>
    rintro l pre xp gx V0 V hgx hbx _ hck hsz ⟨fv, vs, hvl, hA⟩ ⟨h1, h2, h3⟩
    have hsem := Oper.semAt_some
    obtain ⟨j, HJJ⟩ : ∃ j, Hid (pre.length = j) := ⟨_, hide rfl⟩
    rw [HJJ.out] at h1 h3 hvl
    have HP1 : Hid ((pre ++ [xp]).length = j + 1) := hide (by rw [List.length_append, HJJ.out]; rfl)
    have hbx2 : Blk V gx 102 (plV xp) := hbx
    rw [h3] at hbx2
    have HRD := hide (HLR.out V j hA.dk h1)
    have HVL := hide hvl
    obtain ⟨⟨pn, pa, pz⟩, HPX⟩ : ∃ q, Hid (plL (play rs) H j = q) := ⟨_, hide rfl⟩
    rw [HPX.out] at hbx2 HRD
    simp only at HRD
    obtain ⟨p0, p1, p2⟩ := hbx2.pl3
    simp only at p0 p1 p2
    have HA := hide hA
    have c3 : V.cell? ⟨gd, 0, none⟩ = some (.pointer (some ⟨d, 0, none⟩)) := by rw [hA.cd.cell]; rfl
    clear hbx hbx2 hck hsz h2 h3 hA hgx HPX hvl
    gi_wp2_with fail
    refine ⟨trivial, (calls_round (WideF.round l) HRD.out).mono ?_⟩
    rintro e V5 ⟨v, rfl, ho5, hb5⟩
    obtain ⟨va, vc, hvs⟩ := ho5.slice
    obtain ⟨xl, hxl⟩ : ∃ xl, (lf (play rs) H j).length = xl := ⟨_, rfl⟩
    rw [hxl] at hvs
    subst hvs
    have HO5 : Hid (Own V5 w3.heap.size (svV (va, xl, vc)) (lf (play rs) H j)) := hide (own_down ho5 HA.out.sz)
    have HA5 := hide (HA.out.on hb5)
    have HK5 := hide (keepsO_below hb5)
    have HB5 : Hid (KB W1.heap.size (FD d D) V V5) := hide (KB.below hb5)
    clear ho5 hb5 c3 p0 p1 p2 hxl HRD HA
    have c9 : V5.cell? ⟨b9, 0, none⟩ = some fv := by rw [HA5.out.c4.cell]; rfl
    gi_wp2_with (refine istep_oneV (.round l) (s := (va, xl, vc)) rfl rfl ?_)
    intro V6 g6 hg6 hle6 hb6
    have HA6 := hide (HA5.out.on hb6)
    have HG6 := hide hg6
    have HO6 := hide (HO5.out.ck (CK.below hb6))
    have HK6 := hide (HK5.out.trans (keepsO_below hb6))
    have HB6 : Hid (KB W1.heap.size (FD d D) V V6) := hide (HB5.out.trans (KB.below hb6))
    clear hg6 hle6 hb6 HA5 HO5 HK5 HB5 c9
    gi_wp2_with (refine istep_appV (.round l) rfl rfl rfl HA6.out.own HG6.out (by have := HVL.out; omega) HA6.out.sz ?_)
    intro fv2 V7 hown7 hgr7 _
    obtain ⟨fa, fc, hfv2⟩ := OwnV.slice hown7
    have hll : (vs ++ [(va, xl, vc)]).length = j + 1 := by rw [List.length_append, HVL.out]; rfl
    rw [hll] at hfv2
    subst hfv2
    have hFDZ : ∀ k, FD d D k → k < w3.heap.size := fun k hk => by have := HFD.out k hk; omega
    have hgdl : gd < W.heap.size := HBD.out.lt
    have HK7 := hide (HK6.out.trans (keepsO_grown hgr7 (fun g e => by
      obtain ⟨cs, hc⟩ := row_lies HA6.out.own e
      exact ⟨_, cs, hc⟩)))
    have HB7 : Hid (KB W1.heap.size (FD d D) V V7) := hide (HB6.out.trans (KB.appV hFDZ HA6.out.own hgr7))
    have hfk : ∀ k, FD d D k → V7.heap[k]? = V6.heap[k]? := fun k hk => (KB.appV (B := 0) hFDZ HA6.out.own hgr7).keep k hk (fd_lt HA6.out.dk HA6.out.pt hk)
    have HA7 : Hid (Blk V7 gd 26 [.pointer (some ⟨d, 0, none⟩)] ∧ DkAt V7 d s rs D ∧ PT V7 ∧ Blk V7 b9 59 [fv] ∧ (∀ i x, (vs ++ [(va, xl, vc)])[i]? = some x → Own V7 w3.heap.size (svV x) (lf (play rs) H i)) ∧ Below W.heap.size W V7 ∧ w3.heap.size ≤ V7.heap.size) := hide (by
      refine ⟨HA6.out.cd.appV (by decide) HA6.out.own hgr7, dk_fd HA6.out.dk hfk, pt_fd HA6.out.pt hfk, HA6.out.c4.appV (by decide) HA6.out.own hgr7, fun i x hx => ?_, HA6.out.bel.grown hgr7 HA6.out.bel.size (fun r e => by have h1 := row_ge HA6.out.own e; omega), Nat.le_trans HA6.out.sz hgr7.size⟩
      by_cases hi : i < vs.length
      · rw [List.getElem?_append_left hi] at hx
        exact (HA6.out.ls i x hx).appV HA6.out.own hgr7
      · rw [List.getElem?_append_right (by omega)] at hx
        have hi2 : i = j := by
          have := (List.getElem?_eq_some_iff.1 hx).1
          have h9 := HVL.out
          simp at this
          omega
        subst hi2
        have h9 := HVL.out
        rw [h9] at hx
        simp at hx
        subst hx
        exact HO6.out.appV HA6.out.own hgr7)
    have HOW := hide hown7
    have HL4 := hide HA6.out.l4
    have f9 := HA7.out.2.2.2.1.free 0
    have d9 : V7.cell? ⟨b9, 0, none⟩ = some fv := by rw [HA7.out.2.2.2.1.cell]; rfl
    clear hown7 hgr7 hfk HA6 HG6 HO6 HK6 HB6 HVL
    have HLL := hide hll
    clear hll
    gi_wp2
    have hbut := But.setCell V7 b9 0 (.slice fa (j + 1) fc)
    have HV7 := HA7.out
    obtain ⟨q1, q2, q3, q4, q5, q6, q7⟩ := HV7
    have hFB : ∀ k, FD d D k → k ≠ b9 := fun k hk => by have := HFD.out k hk; omega
    have hfk8 : ∀ k, FD d D k → (V7.setCell ⟨b9, 0, none⟩ (.slice fa (j + 1) fc)).heap[k]? = V7.heap[k]? := fun k hk => hbut.block k (hFB k hk)
    refine ⟨(HK7.out.trans (keepsO_but hbut q4)).from _, HB7.out.trans (KB.but hbut h91 hFB), .slice fa (j + 1) fc, vs ++ [(va, xl, vc)], by rw [HLL.out, HP1.out], ?_⟩
    exact ⟨q1.but hbut (fun e => by have := HL4.out.1; omega), dk_fd q2 hfk8, pt_fd q3 hfk8, q4.set 0 _, row_same HOW.out (fun k hk => hbut.block k (by have h1 := row_ge HOW.out hk; have := HL4.out.2; omega)), fun i x hx => row_same (q5 i x hx) (fun k hk => hbut.block k (by have h1 := row_ge (q5 i x hx) hk; have := HL4.out.2; omega)), HL4.out, q6.trans (hbut.below hb90), by rw [hbut.size]; exact q7⟩
  case done =>
    rintro Dk ys V hD hS ⟨fv, vs, hvl, hA⟩ hK
    obtain rfl : ys = plsL (play rs) H n := hS
    rw [plsL_len] at hvl
    have hhas : ∀ k, k < n → ∃ x, vs[k]? = some x := fun k hk => ⟨_, List.getElem?_eq_getElem (by rw [hvl]; exact hk)⟩
    have HHAS := hide hhas
    obtain ⟨fa, fc, hfv⟩ := OwnV.slice hA.own
    rw [hvl] at hfv
    subst hfv
    have HJV := hide (hJ _ W V none HJ0.out ⟨hA.bel.os, hA.bel.tape, hA.bel.output, hA.bel.size, fun i hi _ => hA.bel.block i hi⟩ (fun r e => by cases e))
    have HST : Hid (OwnV V w3.heap.size (.slice fa n fc) vs ∧ (∀ i x, vs[i]? = some x → Own V w3.heap.size (svV x) (lf (play rs) H i)) ∧ V.heap[Dk]? = some (.deferred (some [])) ∧ W.heap.size ≤ V.heap.size) := hide ⟨hA.own, hA.ls, hK, hA.bel.size⟩
    have c9 : V.cell? ⟨b9, 0, none⟩ = some (.slice fa n fc) := by rw [hA.c4.cell]; rfl
    have hDw : W.heap.size ≤ Dk := by omega
    clear hA hK hhas HLR HSQ HA3
    go_wp2_with fail
    try simp only [Act.put]
    refine (wpIn_wide (n := 5)).1 ?_
    gi_loopw [31] (fun i wr => ∃ (k : Nat) (pre : List (Nat × Sv)), k ≤ n ∧ i = .int .i64 (k : Int) ∧ Hid (pre.length = k) ∧ Hid (J pre wr) ∧ Hid (OwnV wr w3.heap.size (.slice fa n fc) vs ∧ (∀ i x, vs[i]? = some x → Own wr w3.heap.size (svV x) (lf (play rs) H i)) ∧ wr.heap[Dk]? = some (.deferred (some [])) ∧ W.heap.size ≤ wr.heap.size)) (fun i _ => n - (intOf i).toNat)
    case atStart => exact ⟨0, [], Nat.zero_le _, rfl, hide rfl, HJV, HST⟩
    case round =>
      clear HJV HST c9
      obtain ⟨k, pre, hk, rfl, HPL, HJ, HST⟩ := hrel
      by_cases hkn : k < n
      · have hkni : (k : Int) < (n : Int) := by omega
        obtain ⟨⟨xa, xl, xc⟩, hx⟩ := HHAS.out k hkn
        have HX := hide hx
        have hlies := OwnV.lies HST.out.1
        obtain ⟨g, rfl⟩ : ∃ g, fa = some ⟨g, 0, none⟩ := by
          rcases hlies with ⟨e, e2⟩ | ⟨g, cap, cs, e, _⟩
          · rw [e2] at hvl
            simp at hvl
            omega
          · injection e with e1 _ _
            exact ⟨g, e1⟩
        have hix := atVv g n fc k (k : Int) rfl hkn
        have hc : wr.cell? ⟨g, k, none⟩ = some (.slice xa xl xc) := OwnV.cell HST.out.1 k (xa, xl, xc) hx
        have hYY := hY pre (k, (xa, xl, xc)) wr wr HJ.out (Below.refl _ _) HJ.out ⟨by rw [HPL.out]; exact hkn, HPL.out.symm, w3.heap.size, by rw [HPL.out]; exact HST.out.2.1 k _ hx⟩
        obtain ⟨fn, tmps, assign, body, hy, hR⟩ := hYY
        simp only [encA, svV] at hy
        have HP1 : Hid ((pre ++ [(k, ((xa, xl, xc) : Sv))]).length = k + 1) := hide (by rw [List.length_append, HPL.out]; rfl)
        clear hx hlies
        gi_wp2_with fail
        refine hR.mono ?_
        rintro r W7 (⟨rfl, hJ7, hk7, hn7⟩ | ⟨rfl, hJx7, hn7⟩)
        · have HJ7 := hide hJ7
          have HS7 : Hid (OwnV W7 w3.heap.size (.slice (some ⟨g, 0, none⟩) n fc) vs ∧ (∀ i x, vs[i]? = some x → Own W7 w3.heap.size (svV x) (lf (play rs) H i)) ∧ W7.heap[Dk]? = some (.deferred (some [])) ∧ W.heap.size ≤ W7.heap.size) := hide
            ⟨OwnV.kc HST.out.1 hk7 (by omega), fun i x hx => (HST.out.2.1 i x hx).kc hk7 (by omega), hn7.same Dk _ (by omega) (by omega) HST.out.2.2.1 rfl, Nat.le_trans HST.out.2.2.2 hk7.size⟩
          clear hJ7 hk7 hn7 hy hR HJ HST HPL hc hix HX
          gi_wp2
          go_roundw
          case rel => exact ⟨k + 1, _, by omega, by go_num, HP1.out ▸ hide rfl, HJ7, HS7⟩
          case measure => simp only [intOf]; omega
        · have HJx7 := hide hJx7
          have HK7 := hide (hn7.same Dk _ (by omega) (by omega) HST.out.2.2.1 rfl)
          clear hJx7 hk hn7 hy hR HJ HST HPL hc hix HX
          gi_wp2
          exact (leaves_marks (B := W.heap.size) (J := fun V => Jx (pre ++ [(k, (xa, xl, xc))]) V) (fun V D h hB hD => hJx _ V _ (some D) h (grownBy_putObj' V D _) (fun r e => by cases e; exact ⟨hB, _, hD, rfl⟩)) (fun V h => ⟨_, results_none rfl _ _ _, ⟨_, rfl⟩, .inr ⟨_, by show (pre ++ [(k, ((xa, xl, xc) : Sv))]).length ≤ n; rw [HP1.out]; omega, h⟩⟩) [Dk] W7 (by simp) (fun E hE => by simp at hE; omega) (fun E hE => by simp at hE; subst hE; exact HK7.out) HJx7.out)
      · have hkni : ¬ (k : Int) < (n : Int) := by omega
        have hke : k = n := by omega
        have HK7 := hide HST.out.2.2.1
        clear HST
        gi_wp2
        exact (leaves_marks (B := W.heap.size) (J := fun V => J pre V) (fun V D h hB hD => hJ _ V _ (some D) h (grownBy_putObj' V D _) (fun r e => by cases e; exact ⟨hB, _, hD, rfl⟩)) (fun V h => ⟨_, results_none rfl _ _ _, ⟨_, rfl⟩, .inl ⟨_, by show pre.length = n; rw [HPL.out, hke], h⟩⟩) [Dk] wr (by simp) (fun E hE => by simp at hE; omega) (fun E hE => by simp at hE; subst hE; exact HK7.out) HJ.out)

end Go.Proofs.YtpocadbhajacaaaGreatDoor

/-
  The names of a disk's files, sorted: the document's list.
-/
namespace Go.Proofs.YtpocadbhajacaaaGreatDoor
open Go.RowKit
set_option linter.unusedVariables false

theorem le_iff (x y : List UInt8) : decide (x ≤ y) = !Op.bytesLess y x := by
  rw [bytesLess_eq]
  rw [← decide_not]
  exact decide_eq_decide.2 Iff.rfl
theorem perm_of_mem {α : Type} : ∀ {a b : List α}, a.Nodup → b.Nodup → (∀ x, x ∈ a ↔ x ∈ b) → a.Perm b
  | [], b, _, _, h => by
    cases b with
    | nil => exact List.Perm.refl _
    | cons y t => have := (h y).2 (by simp); cases this
  | x :: a, b, ha, hb, h => by
    obtain ⟨s, t, rfl⟩ := List.append_of_mem ((h x).1 (by simp))
    have hx : x ∉ a := (List.nodup_cons.1 ha).1
    have hp : (s ++ x :: t).Perm (x :: (s ++ t)) := List.perm_middle
    have hb2 := hp.nodup_iff.1 hb
    have hx2 : x ∉ s ++ t := (List.nodup_cons.1 hb2).1
    refine (List.Perm.cons x (perm_of_mem (List.nodup_cons.1 ha).2 (List.nodup_cons.1 hb2).2 (fun z => ?_))).trans hp.symm
    have hz := h z
    rw [hp.mem_iff] at hz
    simp only [List.mem_cons] at hz
    constructor
    · intro hm
      rcases hz.1 (.inr hm) with e | e
      · subst e; exact absurd hm hx
      · exact e
    · intro hm
      rcases hz.2 (.inr hm) with e | e
      · subst e; exact absurd hm hx2
      · exact e
theorem sort_names {f : ByteArray → Option (List Int)} {l : List (ByteArray × List Int)} (h : FL f l) {ns : List ByteArray} (hn : ns.Nodup) (hm : ∀ n, n ∈ ns ↔ (f n).isSome = true) {ss : List (List UInt8)} (hp : ss.Perm (ns.map fun x => x.toList)) :
    ss.mergeSort (fun x y => decide (x ≤ y)) = l.map (fun x => x.1.toList) := by
  have hle : ∀ x y : List UInt8, decide (x ≤ y) = true ↔ Op.bytesLess y x = false := fun x y => by rw [le_iff]; simp
  have hlsrt : (l.map fun x => x.1.toList).Pairwise (fun x y => decide (x ≤ y) = true) := by
    rw [List.pairwise_map]
    refine h.srt.imp (fun {a b} hab => ?_)
    rw [hle]
    cases hba : Op.bytesLess b.1.toList a.1.toList with
    | false => rfl
    | true => have := bl_trans _ _ _ hab hba; rw [bl_irr] at this; cases this
  have hlnd : (l.map fun x => x.1).Nodup := by
    rw [List.Nodup, List.pairwise_map]
    exact h.srt.imp (fun {a b} hab => blt_ne hab)
  have hperm : ns.Perm (l.map fun x => x.1) := perm_of_mem hn hlnd (fun n => by
    rw [hm]
    constructor
    · intro hs
      cases hf : f n with
      | none => rw [hf] at hs; cases hs
      | some xs => exact List.mem_map.2 ⟨(n, xs), (h.mem n xs).1 hf, rfl⟩
    · intro hs
      obtain ⟨x, hx, rfl⟩ := List.mem_map.1 hs
      rw [(h.mem x.1 x.2).2 hx]
      rfl)
  have hp2 : (ss.mergeSort (fun x y => decide (x ≤ y))).Perm (l.map fun x => x.1.toList) := by
    refine (List.mergeSort_perm _ _).trans (hp.trans ?_)
    have := hperm.map (fun x : ByteArray => x.toList)
    rw [List.map_map] at this
    exact this
  refine hp2.eq_of_pairwise (le := fun x y => decide (x ≤ y) = true) (fun a b _ _ h1 h2 => ?_) (List.pairwise_mergeSort (fun a b c h1 h2 => ?_) (fun a b => ?_) ss) hlsrt
  · rw [hle] at h1 h2
    by_cases e : a = b
    · exact e
    · have := bl_tot a b e h2
      rw [h1] at this
      cases this
  · rw [hle] at h1 h2 ⊢
    cases hca : Op.bytesLess c a with
    | false => rfl
    | true =>
      by_cases e : b = a
      · subst e; rw [h2] at hca; cases hca
      · have h3 := bl_tot b a e h1
        have h4 := bl_trans _ _ _ hca h3
        rw [h2] at h4
        cases h4
  · cases hba : Op.bytesLess b a with
    | false => rw [le_iff, hba]; rfl
    | true =>
      have : Op.bytesLess a b = false := by
        cases hab : Op.bytesLess a b with
        | false => rfl
        | true => have := bl_trans _ _ _ hab hba; rw [bl_irr] at this; cases this
      rw [le_iff b a, this]
      simp

end Go.Proofs.YtpocadbhajacaaaGreatDoor

/-
  The library's functions at this program: the numbers, and that their bodies are the library's.
-/
namespace Go.Proofs
open Go.Shelf
def Tryz.lKeys_ren : Go.Shelf.Ren := ⟨fun | 7 => 81 | 10 => 101 | n => n, fun | 23 => 48 | 26 => 9 | 3 => 31 | 28 => 105 | 0 => 0 | 27 => 104 | 33 => 141 | 4 => 4 | n => n, fun | n => n⟩
theorem Tryz.lKeys : Go.Proofs.SlLaysZ.n7 Tryz.prog Tryz.lKeys_ren := {
  mixed := by kernel_rfl
  f7 := ⟨Tryz.f81.name, by decide, Tryz.func81.trans (congrArg some (by kernel_rfl))⟩
  f10 := ⟨Tryz.f101.name, by decide, Tryz.func101.trans (congrArg some (by kernel_rfl))⟩
  t0 := Tryz.underlying0
  a0 := Tryz.isAgg0
  z0 := Tryz.sizeOf0
  v0 := Tryz.zeroValue0
  t4 := Tryz.underlying4
  a4 := Tryz.isAgg4
  z4 := Tryz.sizeOf4
  v4 := Tryz.zeroValue4
  t23 := Tryz.underlying48
  a23 := Tryz.isAgg48
  z23 := Tryz.sizeOf48
  v23 := Tryz.zeroValue48
  t26 := Tryz.underlying9
  a26 := Tryz.isAgg9
  z26 := Tryz.sizeOf9
  v26 := Tryz.zeroValue9
  t27 := Tryz.underlying104
  a27 := Tryz.isAgg104
  z27 := Tryz.sizeOf104
  v27 := Tryz.zeroValue104
  t28 := Tryz.underlying105
  a28 := Tryz.isAgg105
  z28 := Tryz.sizeOf105
  v28 := Tryz.zeroValue105
  t33 := Tryz.underlying141
  a33 := Tryz.isAgg141
  z33 := Tryz.sizeOf141
  v33 := Tryz.zeroValue141 }
def Tryz.lSorted_ren : Go.Shelf.Ren := ⟨fun | 6 => 80 | 8 => 99 | 9 => 100 | 11 => 112 | 13 => 114 | 12 => 113 | 23 => 135 | 24 => 136 | 14 => 126 | 15 => 127 | 16 => 128 | 17 => 129 | 18 => 130 | 19 => 131 | 20 => 132 | 21 => 133 | 22 => 134 | 25 => 144 | 26 => 145 | 27 => 146 | 28 => 147 | 29 => 148 | 30 => 149 | 31 => 154 | n => n, fun | 26 => 9 | 28 => 105 | 24 => 74 | 0 => 0 | 3 => 3 | 37 => 87 | 48 => 166 | 50 => 89 | 4 => 4 | 40 => 192 | 39 => 191 | 45 => 95 | 5 => 5 | 9 => 9 | 51 => 207 | 55 => 211 | 57 => 217 | 58 => 34 | 33 => 141 | n => n, fun | n => n⟩
theorem Tryz.lSorted : Go.Proofs.SlLaysZ.n6 Tryz.prog Tryz.lSorted_ren := {
  mixed := by kernel_rfl
  f6 := ⟨Tryz.f80.name, by decide, Tryz.func80.trans (congrArg some (by kernel_rfl))⟩
  f8 := ⟨Tryz.f99.name, by decide, Tryz.func99.trans (congrArg some (by kernel_rfl))⟩
  f11 := ⟨Tryz.f112.name, by decide, Tryz.func112.trans (congrArg some (by kernel_rfl))⟩
  t0 := Tryz.underlying0
  a0 := Tryz.isAgg0
  z0 := Tryz.sizeOf0
  v0 := Tryz.zeroValue0
  t24 := Tryz.underlying74
  a24 := Tryz.isAgg74
  z24 := Tryz.sizeOf74
  v24 := Tryz.zeroValue74
  t26 := Tryz.underlying9
  a26 := Tryz.isAgg9
  z26 := Tryz.sizeOf9
  v26 := Tryz.zeroValue9
  t28 := Tryz.underlying105
  a28 := Tryz.isAgg105
  z28 := Tryz.sizeOf105
  v28 := Tryz.zeroValue105
  i26 := by kernel_rfl }
def Tryz.lSort_ren : Go.Shelf.Ren := ⟨fun | 6 => 100 | 8 => 114 | 9 => 113 | 19 => 135 | 20 => 136 | 21 => 126 | 22 => 127 | 23 => 128 | 24 => 129 | 25 => 130 | 26 => 131 | 27 => 132 | 28 => 133 | 29 => 134 | 36 => 144 | 31 => 145 | 32 => 146 | 37 => 147 | 38 => 148 | 39 => 149 | 41 => 154 | n => n, fun | 27 => 74 | 29 => 9 | 3 => 3 | 32 => 87 | 26 => 74 | 0 => 0 | 44 => 166 | 46 => 89 | 4 => 4 | 36 => 192 | 35 => 191 | 41 => 95 | 5 => 5 | 9 => 9 | 53 => 207 | 57 => 211 | 63 => 217 | 64 => 34 | n => n, fun | n => n⟩
theorem Tryz.lSort : Go.Proofs.SlLaysM.n6 Tryz.prog Tryz.lSort_ren := {
  mixed := by kernel_rfl
  f6 := ⟨Tryz.f100.name, by decide, Tryz.func100.trans (congrArg some (by kernel_rfl))⟩
  f8 := Tryz.func114.trans (congrArg some (by kernel_rfl))
  f9 := ⟨Tryz.f113.name, by decide, Tryz.func113.trans (congrArg some (by kernel_rfl))⟩
  f19 := Tryz.func135.trans (congrArg some (by kernel_rfl))
  f20 := Tryz.func136.trans (congrArg some (by kernel_rfl))
  f21 := ⟨Tryz.f126.name, by decide, Tryz.func126.trans (congrArg some (by kernel_rfl))⟩
  f22 := ⟨Tryz.f127.name, by decide, Tryz.func127.trans (congrArg some (by kernel_rfl))⟩
  f23 := ⟨Tryz.f128.name, by decide, Tryz.func128.trans (congrArg some (by kernel_rfl))⟩
  f24 := ⟨Tryz.f129.name, by decide, Tryz.func129.trans (congrArg some (by kernel_rfl))⟩
  f25 := ⟨Tryz.f130.name, by decide, Tryz.func130.trans (congrArg some (by kernel_rfl))⟩
  f26 := ⟨Tryz.f131.name, by decide, Tryz.func131.trans (congrArg some (by kernel_rfl))⟩
  f27 := ⟨Tryz.f132.name, by decide, Tryz.func132.trans (congrArg some (by kernel_rfl))⟩
  f28 := ⟨Tryz.f133.name, by decide, Tryz.func133.trans (congrArg some (by kernel_rfl))⟩
  f29 := ⟨Tryz.f134.name, by decide, Tryz.func134.trans (congrArg some (by kernel_rfl))⟩
  f31 := Tryz.func145.trans (congrArg some (by kernel_rfl))
  f32 := Tryz.func146.trans (congrArg some (by kernel_rfl))
  f36 := ⟨Tryz.f144.name, by decide, Tryz.func144.trans (congrArg some (by kernel_rfl))⟩
  f37 := ⟨Tryz.f147.name, by decide, Tryz.func147.trans (congrArg some (by kernel_rfl))⟩
  f38 := ⟨Tryz.f148.name, by decide, Tryz.func148.trans (congrArg some (by kernel_rfl))⟩
  f39 := ⟨Tryz.f149.name, by decide, Tryz.func149.trans (congrArg some (by kernel_rfl))⟩
  f41 := ⟨Tryz.f154.name, by decide, Tryz.func154.trans (congrArg some (by kernel_rfl))⟩
  t0 := Tryz.underlying0
  a0 := Tryz.isAgg0
  z0 := Tryz.sizeOf0
  v0 := Tryz.zeroValue0
  t3 := Tryz.underlying3
  a3 := Tryz.isAgg3
  z3 := Tryz.sizeOf3
  v3 := Tryz.zeroValue3
  t4 := Tryz.underlying4
  a4 := Tryz.isAgg4
  z4 := Tryz.sizeOf4
  v4 := Tryz.zeroValue4
  t5 := Tryz.underlying5
  a5 := Tryz.isAgg5
  z5 := Tryz.sizeOf5
  v5 := Tryz.zeroValue5
  t9 := Tryz.underlying9
  a9 := Tryz.isAgg9
  z9 := Tryz.sizeOf9
  v9 := Tryz.zeroValue9
  t26 := Tryz.underlying74
  a26 := Tryz.isAgg74
  z26 := Tryz.sizeOf74
  v26 := Tryz.zeroValue74
  t27 := Tryz.underlying74
  a27 := Tryz.isAgg74
  z27 := Tryz.sizeOf74
  v27 := Tryz.zeroValue74
  t29 := Tryz.underlying9
  a29 := Tryz.isAgg9
  z29 := Tryz.sizeOf9
  v29 := Tryz.zeroValue9
  t32 := Tryz.underlying87
  a32 := Tryz.isAgg87
  z32 := Tryz.sizeOf87
  v32 := Tryz.zeroValue87
  t35 := Tryz.underlying191
  a35 := Tryz.isAgg191
  z35 := Tryz.sizeOf191
  v35 := Tryz.zeroValue191
  t36 := Tryz.underlying192
  a36 := Tryz.isAgg192
  z36 := Tryz.sizeOf192
  v36 := Tryz.zeroValue192
  t41 := Tryz.underlying95
  a41 := Tryz.isAgg95
  z41 := Tryz.sizeOf95
  v41 := Tryz.zeroValue95
  t44 := Tryz.underlying166
  a44 := Tryz.isAgg166
  z44 := Tryz.sizeOf166
  v44 := Tryz.zeroValue166
  t46 := Tryz.underlying89
  a46 := Tryz.isAgg89
  z46 := Tryz.sizeOf89
  v46 := Tryz.zeroValue89
  t53 := Tryz.underlying207
  a53 := Tryz.isAgg207
  z53 := Tryz.sizeOf207
  v53 := Tryz.zeroValue207
  t57 := Tryz.underlying211
  a57 := Tryz.isAgg211
  z57 := Tryz.sizeOf211
  v57 := Tryz.zeroValue211
  t63 := Tryz.underlying217
  a63 := Tryz.isAgg217
  z63 := Tryz.sizeOf217
  v63 := Tryz.zeroValue217
  t64 := Tryz.underlying34
  a64 := Tryz.isAgg34
  z64 := Tryz.sizeOf34
  v64 := Tryz.zeroValue34 }
end Go.Proofs

/-
  slices.Sorted(maps.Keys(files)): the names, rising.
-/
namespace Go.Proofs.YtpocadbhajacaaaGreatDoor
open Go.RowKit Go.Maps Go.Sort Go.Shelf
set_option linter.unusedVariables false

theorem sorts12 (m : Nat) : AnyZ.SortsIn Tryz.prog Tryz.lSorted_ren Fence.wide m :=
  ⟨fun blk off cap ss W hH hblk hsz => callsIn_wide.2 (AnyM.slices_Sort_string Tryz.lSort blk off cap ss W hH hblk hsz),
   fun p cap W => callsIn_wide.2 (AnyM.slices_Sort_string_none Tryz.lSort p cap W)⟩
theorem keys12 (mb : Option Nat) (W : World) : CallsIn Fence.wide 5 Tryz.prog 81 #[.map mb] W fun e w' => e = .returned (.func (.func 101) #[] #[.pointer (some ⟨W.heap.size, 0, none⟩)]) ∧ w' = W.alloc (.cells #[.map mb] 48) := AnyZ.keys_in Tryz.lKeys Fence.wide 5 trivial rfl mb W
set_option maxHeartbeats 1000000 in
theorem sorted12 (d s : Nat) (rs : List Rw) (D : Dm) (w : World) (h : DkAt w d s rs D) (hwt : wt rs ≤ 1099511000000) {l : List (ByteArray × List Int)} (hl : FL (play rs) l) :
    CallsIn Fence.wide 5 Tryz.prog 80 #[.func (.func 101) #[] #[.pointer (some ⟨w.heap.size, 0, none⟩)]] (w.alloc (.cells #[.map (some D.m)] 48)) fun e w' => ∃ v, e = .returned v ∧ w'.ownsRow w.heap.size 9 1 v l.length (nmsC l) ∧ Below w.heap.size w w' := by
  obtain ⟨b1, b2⟩ := h.bounds hwt
  obtain ⟨Rd, hR1, _⟩ := reads_ex w
  obtain ⟨L, hown, hLp⟩ := h.fil.owns b1 b2 hR1
  have hbl := hown.lt
  have hlen : Maps.size (DataW.map L) = D.fm.length := by
    have := hLp.length_eq
    rw [List.length_map] at this
    exact this
  have hseq : SeqGives Fence.wide 2 Tryz.prog 101 #[.pointer (some ⟨w.heap.size, 0, none⟩)] encStr (fun ss => ss.Perm (strKeys (DataW.map L))) (Maps.size (DataW.map L)) (w.alloc (.cells #[.map (some D.m)] 48)) :=
    AnyZ.keys_gives (ρ := Tryz.lKeys_ren) { Tryz.lKeys with } Fence.wide _ trivial rfl (by omega) w.heap.size D.m D.fm.length (DataW.map L) _ (by simp) (by simp) (by
      obtain ⟨es, clock, hb, Ft, hs, hD⟩ := hown
      exact ⟨es, clock, (Below.heap_alloc _ _ D.m hbl).trans hb, Ft, hs, hD⟩)
  have hsm : Maps.size (DataW.map L) ≤ 1099511000000 := by rw [hlen]; exact b2
  have cS := AnyZ.sorted_in Tryz.lSorted Fence.wide 5 trivial trivial trivial trivial rfl (by omega) (sorts12 _) (enters_of Tryz.func100 (by kernel_rfl) rfl) 101 #[.pointer (some ⟨w.heap.size, 0, none⟩)] trivial (enters_of Tryz.func101 (by kernel_rfl) rfl) _ _ (by unfold maxLen; omega) (by omega) _ hseq
  change CallsIn _ _ Tryz.prog 80 _ _ _ at cS
  refine cS.mono ?_
  rintro e w' ⟨v, ss, rfl, hS, hrow, _, hb⟩
  have hp : ss.Perm ((D.fm.map (·.1)).map fun x => x.toList) := by
    refine hS.trans ?_
    have h1 : (strKeys (DataW.map L)).Perm ((D.fm.map (ent (play rs))).map fun p => Go.strOf p.1) := hLp.map _
    refine h1.trans (List.Perm.of_eq ?_)
    rw [List.map_map, List.map_map]
    apply List.map_congr_left
    intro x _
    show x.1.data.toList = x.1.toList
    rw [ByteArray.toList_eq]
  have hsort := sort_names hl h.fil.map.one (fun n => by
    constructor
    · intro hn
      obtain ⟨x, hx, rfl⟩ := List.mem_map.1 hn
      rw [h.fil.some hx]
      rfl
    · intro hn
      cases hf : play rs n with
      | none => rw [hf] at hn; cases hn
      | some xs =>
        obtain ⟨u, hu, _⟩ := h.fil.mem hf
        exact List.mem_map.2 ⟨_, hu, rfl⟩) hp
  have hlen2 : ss.length = l.length := by
    have := congrArg List.length hsort
    rw [List.length_mergeSort, List.length_map] at this
    exact this
  refine ⟨v, rfl, ?_, ((Below.refl _ w).alloc (Nat.le_refl _) _).trans (hb.mono (by simp))⟩
  have h2 := ownsRow_base_a hrow (base' := w.heap.size) (by simp)
  rw [hsort, hlen2, List.map_map] at h2
  have h3 : (l.map (encStr ∘ fun x => x.1.toList)) = nmsC l := by
    unfold nmsC
    apply List.map_congr_left
    intro x _
    show encStr x.1.toList = .string x.1
    unfold encStr
    congr 1
    apply bytes_inj
    rw [ByteArray.toList_eq, ByteArray.toList_eq]
  rw [h3] at h2
  exact h2

end Go.Proofs.YtpocadbhajacaaaGreatDoor

/-
  The program's way through the names, for bodies that leave all names.
-/
namespace Go.Proofs.YtpocadbhajacaaaGreatDoor
open Go.RowKit Go.Maps Go.Sort Go.Shelf
set_option linter.unusedVariables false

theorem st_at (g n cap i : Nat) (hi : i < n) (W : World) : (Instr.indexAt 74 (.slice (some ⟨g, 0, none⟩) n cap) (.int .i64 (i : Int))).run Tryz.prog W = .ok (.pointer (some ⟨g, i, none⟩)) W := by
  have := vw_at rSt g n cap i hi W
  rw [Nat.mul_one] at this
  exact this
/-- What the program's iterator asks of a round that goes on: all blocks of names are left. -/
structure KS (A C : World) : Prop where
  size : A.heap.size ≤ C.heap.size
  keep : ∀ (k : Nat) (cs : List Value), Blk A k 9 cs → Blk C k 9 cs
theorem KS.refl (A : World) : KS A A := ⟨Nat.le_refl _, fun _ _ h => h⟩
theorem KS.trans {A C D : World} (h : KS A C) (k : KS C D) : KS A D := ⟨Nat.le_trans h.size k.size, fun i cs ho => k.keep i cs (h.keep i cs ho)⟩
theorem KS.book (W : World) (l : Nat) (o o' : Obj) (h : W.heap[l]? = some o) (hc : o.isCells = false) : KS W (W.putObj l o') :=
  ⟨(grownBy_putObj' W l o').size, fun k cs hq => by
    have hne : k ≠ l := fun e => by
      subst e
      rw [hq] at h
      injection h with h
      subst h
      cases hc
    unfold Blk
    rw [World.putObj_heap_other hne]
    exact hq⟩
theorem KS.below {A C : World} (h : Below A.heap.size A C) : KS A C := ⟨h.size, fun k cs hk => hk.on h⟩
theorem KS.but {g : Nat} {A C : World} {t : TypeId} {cs : List Value} (h : But g A C) (hg : Blk A g t cs) (ht : 9 ≠ t) : KS A C := ⟨Nat.le_of_eq h.size.symm, fun k ds hk => hk.but h (hk.apart hg ht)⟩
theorem KS.grown {A C : World} {row : Option Nat} (h : A.grownBy C row) (hr : ∀ g, row = some g → ∃ t cs, Blk A g t cs ∧ 9 ≠ t) : KS A C :=
  ⟨h.size, fun k ds hk => by
    unfold Blk
    rw [h.block k hk.lt (fun e => by
      obtain ⟨t, cs, h1, h2⟩ := hr k e.symm
      exact hk.apart h1 h2 rfl)]
    exact hk⟩
/-- What is handed out behind pre is the next name. -/
def RL (ls : List (ByteArray × List Int)) (pre : List ByteArray) (x : ByteArray) (W : World) : Prop := pre = (ls.take pre.length).map (·.1) ∧ ∃ ys, ls[pre.length]? = some (x, ys)
set_option maxRecDepth 100000 in
set_option maxHeartbeats 2000000 in
theorem list_seq (Bs d s : Nat) (rs : List Rw) (D : Dm) {ls : List (ByteArray × List Int)} (hl : FL (play rs) ls) (hwt : wt rs ≤ 1099511000000) (w : World) (hBs0 : Blk w Bs 26 [.pointer (some ⟨d, 0, none⟩)]) (hd0 : DkAt w d s rs D) :
    SeqR Fence.wide 6 Tryz.prog 79 #[.pointer (some ⟨Bs, 0, none⟩)] (fun x : ByteArray => #[.string x]) (RL ls) (fun _ => KS) (fun ys => ys = ls.map (·.1)) (fun pre => pre <+: ls.map (·.1)) w := by
  intro l J Jx W hbw hJ hJx hY h0
  have h : DkAt W d s rs D := hd0.below hbw
  have hBs : W.cell? ⟨Bs, 0, none⟩ = some (.pointer (some ⟨d, 0, none⟩)) := by rw [(hBs0.on hbw).cell]; rfl
  clear hbw hBs0 hd0 hJx
  obtain ⟨c0, c1, c3, hp⟩ := h.made
  have hlen : ls.length ≤ 1099511000000 := by
    have h1 : ls.length ≤ D.fm.length := by
      have h2 := sub_len (ls.map (·.1)) (D.fm.map (·.1)) (by rw [List.Nodup, List.pairwise_map]; exact hl.srt.imp (fun {a b} hab => blt_ne hab)) (fun n hn => by
        obtain ⟨x, hx, rfl⟩ := List.mem_map.1 hn
        obtain ⟨u, hu, _⟩ := h.fil.mem ((hl.mem x.1 x.2).2 hx)
        exact List.mem_map.2 ⟨_, hu, rfl⟩)
      simpa using h2
    have h3 := (h.bounds hwt).2
    omega
  have hS := sorted12 d s rs D W h hwt hl
  have HS := hide hS
  have HYY := hide hY
  have HJJ := hide hJ
  have H0 := hide h0
  have hfK : Fence.wide.fn 81 := trivial
  have hfS : Fence.wide.fn 80 := trivial
  have hfM : Fence.wide.fn 55 := trivial
  clear h hS hY hJ h0 c3
  generalize hL : ls.length = L at *
  have HL := hide hL
  clear hL
  refine callsIn_of_wp Tryz.func79 rfl trivial ?_ rfl
  simp only [Tryz.ntmps79, List.size_toArray, List.length_cons, List.length_nil, Nat.reduceAdd, Nat.reduceSub, Array.replicate_succ, Array.replicate_zero, List.push_toArray, List.append_toArray, List.nil_append, List.cons_append]
  gi_wp2_with (first
    | (gi_at_call 55; refine (callsIn_wide.2 (made_ok _ _ _ c0 hp)).mono ?_; rintro e W ⟨rfl, rfl⟩)
    | (gi_at_call 81; refine (keys12 _ _).mono ?_; rintro e w' ⟨rfl, rfl⟩)
    | (gi_at_call 80; refine HS.out.mono ?_; rintro e W2 ⟨v, rfl, hrow, hb⟩; obtain ⟨va, vc, hve⟩ := row_slice hrow; subst hve))
  have J2 : J [] W2 := HJJ.out [] W W2 none H0.out ⟨hb.os, hb.tape, hb.output, hb.size, fun i hi _ => hb.block i hi⟩ (fun r e => by cases e)
  have HJ2 := hide J2
  have HROW := hide hrow
  clear J2 hrow hb c0 c1
  gi_loopw [15] (fun c wr => ∃ k : Nat, k ≤ L ∧ c = .int .i64 (k : Int) ∧ Hid (J ((ls.take k).map (·.1)) wr) ∧ Hid (wr.ownsRow W.heap.size 9 1 (.slice va L vc) L (nmsC ls))) (fun c _ => L - (intOf c).toNat)
  case atStart => exact ⟨0, Nat.zero_le _, rfl, HJ2, HROW⟩
  case round =>
    obtain ⟨k, hk, rfl, HJk, HRk⟩ := hrel
    by_cases hlt : k < L
    · have hlti : (k : Int) < (L : Int) := by omega
      obtain ⟨x, hx⟩ : ∃ x, ls[k]? = some x := ⟨_, List.getElem?_eq_getElem (by rw [HL.out]; exact hlt)⟩
      obtain ⟨g, cap, cs, e1, hg, hcs, _⟩ := row_at HRk.out (by omega)
      injection e1 with e1 e2 e3
      clear e2
      subst e1 e3
      have hix := st_at g L vc k hlt
      have hcell : wr.cell? ⟨g, k, none⟩ = some (.string x.1) := by
        rw [hg.cell]
        have h1 : (nmsC ls)[k]? = some (.string x.1) := by unfold nmsC; rw [List.getElem?_map, hx]; rfl
        rw [← hcs, List.getElem?_take, if_pos (by omega)] at h1
        exact h1
      have HET : Hid ((ls.take (k + 1)).map (·.1) = (ls.take k).map (·.1) ++ [x.1]) := hide (by
        obtain ⟨hi, rfl⟩ := List.getElem?_eq_some_iff.1 hx
        rw [List.take_succ_eq_append_getElem hi, List.map_append]
        rfl)
      have HPRE : Hid ((ls.take (k + 1)).map (·.1) <+: ls.map (·.1)) := hide ((List.take_prefix _ _).map _)
      have hpl : ((ls.take k).map (·.1)).length = k := by rw [List.length_map, List.length_take]; have := HL.out; omega
      obtain ⟨fn, tmps, assign, body, hy, hR⟩ := HYY.out _ x.1 wr HJk.out ⟨by rw [hpl], x.2, by rw [hpl]; exact hx⟩
      have hge := row_ge HRk.out (k := g) rfl
      clear hx hg hcs hpl
      gi_wp2
      refine hR.mono ?_
      rintro e W3 (⟨rfl, hJ3, hk3⟩ | ⟨rfl, hJx3⟩)
      · rw [← HET.out] at hJ3
        have HJ3 := hide hJ3
        have HR3 : Hid (W3.ownsRow W.heap.size 9 1 (.slice (some ⟨g, 0, none⟩) L vc) L (nmsC ls)) := hide (row_same HRk.out (fun q hq => by
          obtain ⟨cs', hc'⟩ := row_lies HRk.out hq
          exact (hk3.keep q _ hc').trans hc'.symm))
        clear hJ3 hk3
        gi_wp2
        go_roundw
        case rel => exact ⟨k + 1, by omega, by go_num, HJ3, HR3⟩
        case measure => simp [intOf]; omega
      · rw [← HET.out] at hJx3
        gi_wp2
        refine bodyPost_ret (results_none rfl _ _ _) rfl ?_
        exact ⟨⟨_, rfl⟩, .inr ⟨_, HPRE.out, hJx3⟩⟩
    · have hlti : ¬ (k : Int) < (L : Int) := by omega
      have e1 : k = L := by omega
      have hfin := HJk.out
      rw [e1, List.take_of_length_le (by rw [HL.out]; omega)] at hfin
      have HFIN := hide hfin
      clear hfin
      gi_wp2
      go_end0
      exact ⟨⟨_, rfl⟩, .inl HFIN.out⟩

end Go.Proofs.YtpocadbhajacaaaGreatDoor

/-
  The files of a disk as a list: there is one for any; the disk's own way through its names (out of Spw, Sbh).
-/
namespace Go.Proofs.YtpocadbhajacaaaGreatDoor
open Go.RowKit
set_option linter.unusedVariables false
set_option linter.unusedSimpArgs false
set_option maxRecDepth 100000

theorem FL.upd_ex {f : ByteArray → Option (List Int)} {l : List (ByteArray × List Int)} (h : FL f l) (n : ByteArray) (v : Option (List Int)) : ∃ l', FL (upd f n v) l' := by
  obtain ⟨A, B, rfl, _, hA, hc⟩ := h.split n
  cases v with
  | some xs =>
    rcases hc with ⟨_, hB⟩ | ⟨ys, B', _, rfl, hB⟩
    · exact ⟨_, h.put hA hB xs⟩
    · exact ⟨_, h.set hA hB xs⟩
  | none =>
    rcases hc with ⟨h0, hB⟩ | ⟨ys, B', _, rfl, hB⟩
    · exact ⟨_, by rw [← h0, upd_self]; exact h⟩
    · exact ⟨_, h.turn hA hB⟩
theorem FL.do_ex {f : ByteArray → Option (List Int)} {l : List (ByteArray × List Int)} (h : FL f l) (r : Rw) : ∃ l', FL (doR f r) l' := by
  unfold doR
  split
  · exact h.upd_ex _ _
  · split
    · exact h.upd_ex _ _
    · split
      · exact h.upd_ex _ _
      · split
        · exact h.upd_ex _ _
        · split
          · obtain ⟨l1, h1⟩ := h.upd_ex r.t (some (fl f r.n))
            exact h1.upd_ex _ _
          · exact ⟨l, h⟩
theorem FL.fold_ex : ∀ (rs : List Rw) {f : ByteArray → Option (List Int)} {l : List (ByteArray × List Int)} (h : FL f l), ∃ l', FL (rs.foldl doR f) l'
  | [], f, l, h => ⟨l, h⟩
  | r :: t, f, l, h => by
    obtain ⟨l1, h1⟩ := h.do_ex r
    exact FL.fold_ex t h1
theorem FL.play_ex (rs : List Rw) : ∃ l, FL (play rs) l := FL.fold_ex rs FL.nil
theorem FL.nodup {f : ByteArray → Option (List Int)} {l : List (ByteArray × List Int)} (h : FL f l) : (l.map (·.1)).Nodup := by
  unfold List.Nodup
  rw [List.pairwise_map]
  exact h.srt.imp fun h => blt_ne h
theorem rl_ownS (ls : List (ByteArray × List Int)) (B : Nat) (pre : List ByteArray) (x : ByteArray) : OwnFrom B (fun (_ : Unit) W => RL ls pre x W) := fun _ W W' row h hg hr => h
theorem dlist_any (p : Option Addr) (w : World) : Calls Tryz.prog 51 #[.pointer p] w fun e w' => ∃ bx, e = .returned (.func (.func 79) #[] #[.pointer (some ⟨bx, 0, none⟩)]) ∧ Blk w' bx 26 [.pointer p] ∧ Below w.heap.size w w' :=
  (list_any p w).mono (fun r w' ⟨e, hw⟩ => ⟨w.heap.size, e, by rw [hw]; exact Blk.made _ _ _, by rw [hw]; exact (Below.refl _ _).alloc (Nat.le_refl _) _⟩)

end Go.Proofs.YtpocadbhajacaaaGreatDoor

/-
  A range over a disk's names whose body lays names of its own: what lay ahead of the first round is left.
-/
namespace Go.Proofs.YtpocadbhajacaaaGreatDoor
open Go.RowKit Go.Maps Go.Sort Go.Shelf
set_option linter.unusedVariables false

section
variable {F : Fence} {n : Nat} {P : Program}
/-- As SeqR; Z: where the heap ended ahead of the first round. -/
def SeqZ {α : Type} (F : Fence) (n : Nat) (P : Program) (g : Nat) (lb : Array Value) (encs : α → Array Value) (R : List α → α → World → Prop) (Kp : Nat → World → World → Prop) (S Sp : List α → Prop) (w : World) : Prop :=
  ∀ (l : Nat) (J Jx : Nat → List α → World → Prop) (W : World), Below w.heap.size w W → (∀ Z, AbidesFrom W.heap.size (J Z)) → (∀ Z, AbidesFrom W.heap.size (Jx Z)) →
    (∀ Z pre x W1, w.heap.size ≤ Z → J Z pre W1 → R pre x W1 → YieldAt F (n - 1) P l (encs x) W1 fun e W' => (e = .returned (.bool true) ∧ J Z (pre ++ [x]) W' ∧ Kp Z W1 W') ∨ (e = .returned (.bool false) ∧ Jx Z (pre ++ [x]) W')) →
    (∀ V, Below W.heap.size W V → J V.heap.size [] V) → CallsIn F n P g (#[.func (.yield l) #[] #[]] ++ lb) W fun e W' => (∃ v, e = .returned v) ∧ ∃ Z, ((∃ xs, S xs ∧ J Z xs W') ∨ (∃ pre, Sp pre ∧ Jx Z pre W'))
theorem rangeZ {α : Type} {g : Operand} {ps : Array Tmp} {assign body : Code} {Q : Exit → Act → World → Prop} {a : Act} {w : World}
    (hro : F.round = none) (h1 : 1 ≤ n) {gf : Nat} {lb : Array Value} (hg : a.eval g = .func (.func gf) #[] lb) (hFg : F.fn gf) (eg : ∀ args w, (callFunc gf args).run P w = .ok (.enter gf args) w)
    {encs : α → Array Value} {R : List α → α → World → Prop} {Kp : Nat → World → World → Prop} {S Sp : List α → Prop} (hseq : SeqZ F (n - 1) P gf lb encs R Kp S Sp w)
    (hKt : ∀ {Z : Nat} {A B C : World}, Kp Z A B → Kp Z B C → Kp Z A C) (hKb : ∀ (Z : Nat) (W : World) (l : Nat) (o o' : Obj), w.heap.size ≤ l → W.heap[l]? = some o → o.isCells = false → Kp Z W (W.putObj l o')) (hps : ∀ x, (encs x).size = ps.size)
    (hR : ∀ pre x, OwnFrom w.heap.size (fun (_ : Unit) W => R pre x W))
    (I : Nat → List α → World → Prop) (Ix : Nat → Code → List α → World → Prop) (hI : ∀ Z, OwnFrom w.heap.size (I Z)) (hIx : ∀ Z c, OwnFrom w.heap.size (Ix Z c)) (h0 : ∀ V, Below w.heap.size w V → I V.heap.size [] V) (a₁ : α → Act)
    (hassign : ∀ (l : Nat) (x : α) (W : World) (K : Act → World → Prop), K (a₁ x) W →
      assign.wpIn (F.inRound l) (n - 1 - 1) P (Exit.then K (fun _ _ _ => False)) { tmps := (ps.zip (encs x)).foldl (fun t (p, v) => t.setIfInBounds p v) a.tmps, defers := [] } W)
    (hbody : ∀ (Z l : Nat) (pre : List α) (x : α) (W : World), w.heap.size ≤ Z → I Z pre W → R pre x W → body.wpIn (F.inRound l) (n - 1 - 1) P (ownPostG w.heap.size (Kp Z) (I Z) (Ix Z) (pre ++ [x]) W) (a₁ x) W)
    (hdone : ∀ (Z D : Nat) (xs : List α) (W : World), w.heap.size ≤ D → S xs → I Z xs W → W.heap[D]? = some (.deferred (some [])) → Q .normal { a with defers := { target := .collected D, args := #[] } :: a.defers } W)
    (hstop : ∀ (Z D : Nat) (c : Code) (pre : List α) (W : World), w.heap.size ≤ D → Sp pre → Ix Z c pre W → W.heap[D]? = some (.deferred (some [])) → c.wpIn F n P Q { a with defers := { target := .collected D, args := #[] } :: a.defers } W) :
    (Code.rangeFunc g ps assign body).wpIn F n P Q a w := by
  refine wpIn_rangeFunc fun fn hfn => ?_
  rw [hro]
  obtain ⟨W1, hW1⟩ : ∃ W1, (w.alloc (.deferred (some []))).alloc (.loop (lrec fn a.tmps ps assign body w.heap.size .ready none)) = W1 := ⟨_, rfl⟩
  have B1 : Bk (lrec fn a.tmps ps assign body w.heap.size .ready none) w.heap.size W1 := by rw [← hW1]; exact Bk.new w _
  have b1 : Below w.heap.size w W1 := by rw [← hW1]; exact ((Below.refl _ w).alloc (Nat.le_refl _) _).alloc (by simp) _
  have s1 : w.heap.size ≤ W1.heap.size := b1.size
  have far : ∀ {A : World} {row : Option Nat}, (∀ r, row = some r → W1.heap.size ≤ r ∧ ∃ o : Obj, A.heap[r]? = some o ∧ o.isWalk = true) → ∀ r, row = some r → w.heap.size ≤ r ∧ ∃ o : Obj, A.heap[r]? = some o ∧ o.isCells = false :=
    fun hr r e => by obtain ⟨hb, o, ho, hw⟩ := hr r e; exact ⟨by omega, o, ho, Obj.not_cells_of_walk hw⟩
  refine ⟨w.heap.size + 1, [{ target := .collected w.heap.size, args := #[] }], W1, { target := .fn (.func gf) lb, args := #[.func (.yield (w.heap.size + 1)) #[] #[]] }, W1, gf,
    #[.func (.yield (w.heap.size + 1)) #[] #[]] ++ lb, W1, by rw [← hW1]; exact run_enterLoop_outer _ _ _ _ _, by simp only [resolve, hg]; simp [go_sem], fun f' hf' => by simp [Target.leads] at hf'; subst hf'; exact hFg, by simp [invoke, go_sem, eg], fun _ => h1, ?_⟩
  refine (hseq (w.heap.size + 1) (fun Z pre W => I Z pre W ∧ Bk (lrec fn a.tmps ps assign body w.heap.size .ready none) w.heap.size W) (fun Z pre W => ∃ c, Ix Z c pre W ∧ Bk (lrec fn a.tmps ps assign body w.heap.size .done (some c)) w.heap.size W) W1 b1
    (fun Z s A B row hs hg' hr => ⟨hI Z s A B row hs.1 hg' (far hr), hs.2.abide hg' hr⟩)
    (fun Z s A B row hs hg' hr => by obtain ⟨c, hc, hb⟩ := hs; exact ⟨c, hIx Z c s A B row hc hg' (far hr), hb.abide hg' hr⟩) ?_
    (fun V hV => ⟨h0 V (on_below b1 hV), B1.own (row := none) ⟨hV.os, hV.tape, hV.output, hV.size, fun i hi _ => hV.block i hi⟩ (fun q e => by cases e)⟩)).mono ?_
  · rintro Z pre x W hZ ⟨hi, hB⟩ hr
    refine round_R hfn (hps x) hB (hassign _ x W) ?_
    have hB2 := hB.put (lrec fn a.tmps ps assign body w.heap.size .busy none)
    have hK2 : Kp Z W (W.putObj (w.heap.size + 1) (.loop (lrec fn a.tmps ps assign body w.heap.size .busy none))) := hKb Z _ _ _ _ (by omega) hB.loop rfl
    refine wpIn_mono (hbody Z _ pre x _ (by omega) ((hI Z).putObj _ hi (by omega) hB.loop rfl) ((hR pre x).putObj (s := ()) _ hr (by omega) hB.loop rfl)) ?_
    intro e a3 W3 hp
    cases e with
    | normal =>
      have hB3 := hB2.keep hp.1
      exact ⟨hB3, .inl ⟨rfl, ⟨(hI Z).putObj _ hp.2.2 (by omega) hB3.loop rfl, hB3.put _⟩, hKt hK2 (hKt hp.2.1 (hKb Z _ _ _ _ (by omega) hB3.loop rfl))⟩⟩
    | ret =>
      have hB3 := hB2.keep hp.1
      exact ⟨hB3, .inr ⟨rfl, .ret, (hIx Z _).putObj _ hp.2 (by omega) hB3.loop rfl, hB3.put _⟩⟩
    | exit id =>
      have hB3 := hB2.keep hp.1
      exact ⟨hB3, .inr ⟨rfl, .exit id, (hIx Z _).putObj _ hp.2 (by omega) hB3.loop rfl, hB3.put _⟩⟩
    | goto u =>
      have hB3 := hB2.keep hp.1
      exact ⟨hB3, .inr ⟨rfl, .goto u, (hIx Z _).putObj _ hp.2 (by omega) hB3.loop rfl, hB3.put _⟩⟩
    | panic ch => exact hp.elim
    | outgrown => exact hp.elim
  · rintro e W2 ⟨⟨v, rfl⟩, Z, (⟨xs, hS, hi, hB⟩ | ⟨pre, hSp, c, hi, hB⟩)⟩
    · exact ⟨none, _, run_endLoop (P := P) hB.loop (by simp [lrec]), hdone Z _ xs _ (Nat.le_refl _) hS ((hI Z).putObj _ hi (by omega) hB.loop rfl) ((World.putObj_heap_other (by omega)).trans hB.mark)⟩
    · exact ⟨some c, _, run_endLoop (P := P) hB.loop (by simp [lrec]), hstop Z _ c pre _ (Nat.le_refl _) hSp ((hIx Z c).putObj _ hi (by omega) hB.loop rfl) ((World.putObj_heap_other (by omega)).trans hB.mark)⟩
end
/-- Blocks of names that lay ahead are left. -/
structure KZ (Z : Nat) (A C : World) : Prop where
  size : A.heap.size ≤ C.heap.size
  keep : ∀ (k : Nat) (cs : List Value), k < Z → Blk A k 9 cs → Blk C k 9 cs
theorem KZ.trans {Z : Nat} {A C D : World} (h : KZ Z A C) (k : KZ Z C D) : KZ Z A D := ⟨Nat.le_trans h.size k.size, fun i cs hi ho => k.keep i cs hi (h.keep i cs hi ho)⟩
theorem KZ.book (Z : Nat) (W : World) (l : Nat) (o o' : Obj) (h : W.heap[l]? = some o) (hc : o.isCells = false) : KZ Z W (W.putObj l o') := ⟨(KS.book W l o o' h hc).size, fun k cs _ hk => (KS.book W l o o' h hc).keep k cs hk⟩
theorem KZ.below {Z : Nat} {A C : World} (h : Below A.heap.size A C) : KZ Z A C := ⟨h.size, fun k cs _ hk => hk.on h⟩
theorem KZ.but {Z g : Nat} {A C : World} {t : TypeId} {cs : List Value} (h : But g A C) (hg : Blk A g t cs) (ht : 9 ≠ t) : KZ Z A C := ⟨Nat.le_of_eq h.size.symm, fun k ds _ hk => hk.but h (hk.apart hg ht)⟩
theorem KZ.grown {Z : Nat} {A C : World} {row : Option Nat} (h : A.grownBy C row) (hr : ∀ g, row = some g → Z ≤ g) : KZ Z A C :=
  ⟨h.size, fun k ds hkZ hk => by
    unfold Blk
    rw [h.block k hk.lt (fun e => by have := hr k e.symm; omega)]
    exact hk⟩
set_option maxRecDepth 100000 in
set_option maxHeartbeats 2000000 in
theorem list_seqZ (Bs d s : Nat) (rs : List Rw) (D : Dm) {ls : List (ByteArray × List Int)} (hl : FL (play rs) ls) (hwt : wt rs ≤ 1099511000000) (w : World) (hBs0 : Blk w Bs 26 [.pointer (some ⟨d, 0, none⟩)]) (hd0 : DkAt w d s rs D) :
    SeqZ Fence.wide 6 Tryz.prog 79 #[.pointer (some ⟨Bs, 0, none⟩)] (fun x : ByteArray => #[.string x]) (RL ls) KZ (fun ys => ys = ls.map (·.1)) (fun pre => pre <+: ls.map (·.1)) w := by
  intro l J Jx W hbw hJ hJx hY h0
  have h : DkAt W d s rs D := hd0.below hbw
  have hwW : w.heap.size ≤ W.heap.size := hbw.size
  have hBs : W.cell? ⟨Bs, 0, none⟩ = some (.pointer (some ⟨d, 0, none⟩)) := by rw [(hBs0.on hbw).cell]; rfl
  clear hbw hBs0 hd0 hJx
  obtain ⟨c0, c1, c3, hp⟩ := h.made
  have hlen : ls.length ≤ 1099511000000 := by
    have h1 : ls.length ≤ D.fm.length := by
      have h2 := sub_len (ls.map (·.1)) (D.fm.map (·.1)) (by rw [List.Nodup, List.pairwise_map]; exact hl.srt.imp (fun {a b} hab => blt_ne hab)) (fun n hn => by
        obtain ⟨x, hx, rfl⟩ := List.mem_map.1 hn
        obtain ⟨u, hu, _⟩ := h.fil.mem ((hl.mem x.1 x.2).2 hx)
        exact List.mem_map.2 ⟨_, hu, rfl⟩)
      simpa using h2
    have h3 := (h.bounds hwt).2
    omega
  have hS := sorted12 d s rs D W h hwt hl
  have HS := hide hS
  have HYY := hide hY
  have HJJ := hide hJ
  have H0 := hide h0
  have hfK : Fence.wide.fn 81 := trivial
  have hfS : Fence.wide.fn 80 := trivial
  have hfM : Fence.wide.fn 55 := trivial
  clear h hS hY hJ h0 c3
  generalize hL : ls.length = L at *
  have HL := hide hL
  clear hL
  refine callsIn_of_wp Tryz.func79 rfl trivial ?_ rfl
  simp only [Tryz.ntmps79, List.size_toArray, List.length_cons, List.length_nil, Nat.reduceAdd, Nat.reduceSub, Array.replicate_succ, Array.replicate_zero, List.push_toArray, List.append_toArray, List.nil_append, List.cons_append]
  gi_wp2_with (first
    | (gi_at_call 55; refine (callsIn_wide.2 (made_ok _ _ _ c0 hp)).mono ?_; rintro e W ⟨rfl, rfl⟩)
    | (gi_at_call 81; refine (keys12 _ _).mono ?_; rintro e w' ⟨rfl, rfl⟩)
    | (gi_at_call 80; refine HS.out.mono ?_; rintro e W2 ⟨v, rfl, hrow, hb⟩; obtain ⟨va, vc, hve⟩ := row_slice hrow; subst hve))
  have J2 : J W2.heap.size [] W2 := H0.out W2 hb
  have hgZ : ∀ g cap, Value.slice va L vc = Value.slice (some ⟨g, 0, none⟩) L cap → 0 < L → g < W2.heap.size := fun g cap e h0 => by
    obtain ⟨g', cap', cs, e1, hg, _⟩ := row_at hrow (by omega)
    rw [e] at e1
    injection e1 with e1 _ _
    injection e1 with e1
    injection e1 with e1
    subst e1
    exact hg.lt
  have HGZ := hide hgZ
  have hWZ : w.heap.size ≤ W2.heap.size := by have := hb.size; omega
  clear hgZ
  generalize W2.heap.size = Z at *
  have HJ2 := hide J2
  have HROW := hide hrow
  clear J2 hrow hb c0 c1
  gi_loopw [15] (fun c wr => ∃ k : Nat, k ≤ L ∧ c = .int .i64 (k : Int) ∧ Hid (J Z ((ls.take k).map (·.1)) wr) ∧ Hid (wr.ownsRow W.heap.size 9 1 (.slice va L vc) L (nmsC ls))) (fun c _ => L - (intOf c).toNat)
  case atStart => exact ⟨0, Nat.zero_le _, rfl, HJ2, HROW⟩
  case round =>
    obtain ⟨k, hk, rfl, HJk, HRk⟩ := hrel
    by_cases hlt : k < L
    · have hlti : (k : Int) < (L : Int) := by omega
      obtain ⟨x, hx⟩ : ∃ x, ls[k]? = some x := ⟨_, List.getElem?_eq_getElem (by rw [HL.out]; exact hlt)⟩
      obtain ⟨g, cap, cs, e1, hg, hcs, _⟩ := row_at HRk.out (by omega)
      injection e1 with e1 e2 e3
      clear e2
      subst e1 e3
      have hix := st_at g L vc k hlt
      have hcell : wr.cell? ⟨g, k, none⟩ = some (.string x.1) := by
        rw [hg.cell]
        have h1 : (nmsC ls)[k]? = some (.string x.1) := by unfold nmsC; rw [List.getElem?_map, hx]; rfl
        rw [← hcs, List.getElem?_take, if_pos (by omega)] at h1
        exact h1
      have HET : Hid ((ls.take (k + 1)).map (·.1) = (ls.take k).map (·.1) ++ [x.1]) := hide (by
        obtain ⟨hi, rfl⟩ := List.getElem?_eq_some_iff.1 hx
        rw [List.take_succ_eq_append_getElem hi, List.map_append]
        rfl)
      have HPRE : Hid ((ls.take (k + 1)).map (·.1) <+: ls.map (·.1)) := hide ((List.take_prefix _ _).map _)
      have hpl : ((ls.take k).map (·.1)).length = k := by rw [List.length_map, List.length_take]; have := HL.out; omega
      obtain ⟨fn, tmps, assign, body, hy, hR⟩ := HYY.out Z _ x.1 wr hWZ HJk.out ⟨by rw [hpl], x.2, by rw [hpl]; exact hx⟩
      have hge := row_ge HRk.out (k := g) rfl
      have hgz := HGZ.out g _ rfl (by omega)
      clear hx hg hcs hpl
      gi_wp2
      refine hR.mono ?_
      rintro e W3 (⟨rfl, hJ3, hk3⟩ | ⟨rfl, hJx3⟩)
      · rw [← HET.out] at hJ3
        have HJ3 := hide hJ3
        have HR3 : Hid (W3.ownsRow W.heap.size 9 1 (.slice (some ⟨g, 0, none⟩) L vc) L (nmsC ls)) := hide (row_same HRk.out (fun q hq => by
          obtain ⟨cs', hc'⟩ := row_lies HRk.out hq
          exact (hk3.keep q _ (by have h9 : some g = some q := hq; injection h9 with h9; omega) hc').trans hc'.symm))
        clear hJ3 hk3
        gi_wp2
        go_roundw
        case rel => exact ⟨k + 1, by omega, by go_num, HJ3, HR3⟩
        case measure => simp [intOf]; omega
      · rw [← HET.out] at hJx3
        gi_wp2
        refine bodyPost_ret (results_none rfl _ _ _) rfl ?_
        exact ⟨⟨_, rfl⟩, Z, .inr ⟨_, HPRE.out, hJx3⟩⟩
    · have hlti : ¬ (k : Int) < (L : Int) := by omega
      have e1 : k = L := by omega
      have hfin := HJk.out
      rw [e1, List.take_of_length_le (by rw [HL.out]; omega)] at hfin
      have HFIN := hide hfin
      clear hfin
      gi_wp2
      go_end0
      exact ⟨⟨_, rfl⟩, Z, .inl HFIN.out⟩

end Go.Proofs.YtpocadbhajacaaaGreatDoor

/-
  The file that a name tells: firstLeaf; slices.Reverse over names of the call's own.
-/
namespace Go.Proofs.YtpocadbhajacaaaGreatDoor
open Go.RowKit
set_option linter.unusedVariables false
set_option linter.unusedSimpArgs false
set_option maxRecDepth 100000

theorem jD_dg (g : Nat) : ∀ b ∈ jD g, isDg b := by
  intro b hb
  unfold jD at hb
  rcases List.mem_append.1 hb with hb | hb
  · exact ⟨0, by decide, (List.mem_replicate.1 hb).2⟩
  · exact dec_dg g g (Nat.le_refl _) b hb
theorem jD_atoi {g : Nat} (h : g ≤ 2147483647) : Lib.atoiAll (jD g) = .ok (g : Int) := by
  have := jD_le h
  refine atoi_dg (by omega) (fun e => ?_) (jD_dg g) (jD_dec g)
  rw [e] at this
  simp at this
/-- Is it the name of a file of this height, and of which? -/
def FlR (H : Nat) (x : ByteArray) (idx : Int) (ok : Bool) : Prop :=
  (ok = true ∧ ∃ q, q * 2 ^ H < 1048576 ∧ x = lfN H q ∧ idx = ((q * 2 ^ H : Nat) : Int)) ∨ (ok = false ∧ ∀ q, q * 2 ^ H < 1048576 → x ≠ lfN H q)
theorem lfq_le {H q : Nat} (k : q * 2 ^ H < 1048576) : q < 1048576 := by
  have := Nat.le_mul_of_pos_right q (Nat.two_pow_pos H)
  omega
theorem trim_lf (l m : List UInt8) : Lib.trimPrefix (l ++ m) l = m := by
  unfold Lib.trimPrefix Lib.hasPrefix
  rw [if_pos (List.isPrefixOf_iff_prefix.2 (List.prefix_append _ _)), List.drop_left]
theorem trim_len (l m : List UInt8) : (Lib.trimPrefix l m).length ≤ l.length := by
  unfold Lib.trimPrefix
  split
  · rw [List.length_drop]; omega
  · exact Nat.le_refl _
theorem beqC_t {n t : ByteArray} (h : n = t) : (n.toList == t.toList) = true := by rw [h]; simp
theorem beqC_f {n t : ByteArray} (h : n ≠ t) : (n.toList == t.toList) = false := by
  rw [beq_eq_false_iff_ne, ByteArray.toList_eq, ByteArray.toList_eq]
  intro e
  exact h (by cases n; cases t; simp at e; rw [e])
set_option maxHeartbeats 2000000 in
theorem firstLeaf_any (H : Nat) (s : List UInt8) (w : World) (hh : hB H) (hs : s.length ≤ 128) (he : EV w) :
    Calls Tryz.prog 69 #[.int .i64 (H : Int), .string (bA s)] w fun r w' => ∃ idx ok, r = .returned (.tuple #[.int .i64 idx, .bool ok]) ∧ FlR H (bA s) idx ok ∧ Below w.heap.size w w' := by
  have HF := hide (folder_any H w hh he.pt)
  have HE := hide he
  have hno : (∀ v, Lib.atoiAll (Lib.trimPrefix s (lfD H)) ≠ .ok v) → ∀ q, q * 2 ^ H < 1048576 → bA s ≠ lfN H q := fun h q hq e => by
    have e1 := bA_inj e
    rw [e1] at h
    have h2 : Lib.trimPrefix (lfL H q) (lfD H) = jD q := trim_lf (lfD H) (jD q)
    rw [h2] at h
    exact h _ (jD_atoi (by have := lfq_le hq; omega))
  by_cases hv : ∃ v, Lib.atoiAll (Lib.trimPrefix s (lfD H)) = .ok v
  · obtain ⟨v, hv⟩ := hv
    have hq : ∀ q, q * 2 ^ H < 1048576 → bA s = lfN H q → v = (q : Int) := fun q hq e => by
      have e1 := bA_inj e
      rw [e1] at hv
      have h2 : Lib.trimPrefix (lfL H q) (lfD H) = jD q := trim_lf (lfD H) (jD q)
      rw [h2, jD_atoi (by have := lfq_le hq; omega)] at hv
      injection hv with hv
      exact hv.symm
    have HA := hide (fun (V : World) => atoi_ok _ v V (by have := trim_len s (lfD H); omega) hv)
    have hvb := Lib.atoiAll_bounds hv
    have HW : Hid (∀ q, q * 2 ^ H < 1048576 → bA s = lfN H q → wrap64 (v * 2 ^ H) = ((q * 2 ^ H : Nat) : Int)) := hide (fun q hq2 e => by
      have h1 := hq q hq2 e
      have e1 : (v * 2 ^ H : Int) = ((q * 2 ^ H : Nat) : Int) := by rw [h1, Int.natCast_mul, Int.natCast_pow]; rfl
      rw [e1]
      unfold wrap64
      omega)
    obtain ⟨idx, HI⟩ : ∃ idx, Hid (wrap64 (v * 2 ^ H) = idx) := ⟨_, hide rfl⟩
    rw [HI.out] at HW
    have HN := hide (fun (V : World) (hV : PT V) => bname_any (H : Int) idx V hV)
    have h8 : (H : Int) ≤ 8 := by have := hh.2; omega
    have hres : ∀ ok : Bool, ok = (decide (bnE (H : Int) idx = 0) && decide (bnP (H : Int) idx = bA s)) → FlR H (bA s) idx ok := fun ok hok => by
      cases ok with
      | true =>
        have h2 := hok.symm
        simp only [Bool.and_eq_true, decide_eq_true_eq] at h2
        obtain ⟨h3, h4⟩ := h2
        obtain ⟨H', I, e1, e2, _, hI⟩ := nmO'_nats (bnE_zero h3)
        obtain rfl : H = H' := by omega
        subst e2
        rw [bnP_nat hh hI] at h4
        have h5 : I / 2 ^ H * 2 ^ H < 1048576 := Nat.lt_of_le_of_lt (Nat.div_mul_le_self _ _) hI
        have h6 := HW.out _ h5 h4.symm
        exact .inl ⟨rfl, _, h5, h4.symm, h6⟩
      | false =>
        refine .inr ⟨rfl, fun q hq2 e => ?_⟩
        have h6 := HW.out q hq2 e
        have h7 : bnE (H : Int) idx = 0 := by rw [h6]; exact bnE_nat hh hq2
        have h9 : bnP (H : Int) idx = bA s := by rw [h6, bnP_nat hh hq2, e, Nat.mul_div_cancel _ (Nat.two_pow_pos H)]
        rw [h7, h9] at hok
        simp at hok
    have HR := hide hres
    have HT := hide (fun (V : World) => trim_any s (lfD H) V)
    clear hno hv hvb hq hres hh he HW
    by_cases h0 : bnE (H : Int) idx = 0
    · by_cases hn : bnP (H : Int) idx = bA s
      · have HZ : Hid (FlR H (bA s) idx true) := hide (HR.out true (by rw [decide_eq_true h0, decide_eq_true hn]; rfl))
        have hbq := beqC_t hn
        rw [h0] at HN
        generalize bnP (H : Int) idx = nm at *
        clear h0 hn HR
        go_enter Tryz.func69, Tryz.ntmps69
        go_wp2_with fail
        refine HF.out.mono ?_
        rintro e w1 ⟨rfl, hb1⟩
        have HB1 := hide hb1
        clear hb1
        go_wp2_with (go_at_call 90; refine (HT.out _).mono ?_; rintro r w' ⟨rfl, hw'⟩; subst w')
        refine (HA.out _).mono ?_
        rintro r w3 ⟨rfl, hb3⟩
        have HB3 := hide (on_below HB1.out hb3)
        clear hb3
        go_wp2_with (rw [HI.out])
        refine (HN.out _ (HE.out.pt.below HB3.out)).mono ?_
        rintro r w4 ⟨rfl, hb4⟩
        have HB4 := hide (on_below HB3.out hb4)
        clear hb4
        go_wp2
        go_ret2
        exact ⟨idx, true, rfl, HZ.out, HB4.out⟩
      · have HZ : Hid (FlR H (bA s) idx false) := hide (HR.out false (by rw [decide_eq_true h0, decide_eq_false hn]; rfl))
        have hbq := beqC_f hn
        rw [h0] at HN
        generalize bnP (H : Int) idx = nm at *
        clear h0 hn HR
        go_enter Tryz.func69, Tryz.ntmps69
        go_wp2_with fail
        refine HF.out.mono ?_
        rintro e w1 ⟨rfl, hb1⟩
        have HB1 := hide hb1
        clear hb1
        go_wp2_with (go_at_call 90; refine (HT.out _).mono ?_; rintro r w' ⟨rfl, hw'⟩; subst w')
        refine (HA.out _).mono ?_
        rintro r w3 ⟨rfl, hb3⟩
        have HB3 := hide (on_below HB1.out hb3)
        clear hb3
        go_wp2_with (rw [HI.out])
        refine (HN.out _ (HE.out.pt.below HB3.out)).mono ?_
        rintro r w4 ⟨rfl, hb4⟩
        have HB4 := hide (on_below HB3.out hb4)
        clear hb4
        go_wp2
        go_ret2
        exact ⟨idx, false, rfl, HZ.out, HB4.out⟩
    · have HZ : Hid (FlR H (bA s) idx false) := hide (HR.out false (by rw [decide_eq_false h0]; rfl))
      have h2 : bnE (H : Int) idx = 2 := by rcases bnE_bin (H : Int) idx with k | k; exact absurd k h0; exact k
      rw [h2] at HN
      generalize bnP (H : Int) idx = nm at *
      clear h0 h2 HR
      go_enter Tryz.func69, Tryz.ntmps69
      go_wp2_with fail
      refine HF.out.mono ?_
      rintro e w1 ⟨rfl, hb1⟩
      have HB1 := hide hb1
      clear hb1
      go_wp2_with (go_at_call 90; refine (HT.out _).mono ?_; rintro r w' ⟨rfl, hw'⟩; subst w')
      refine (HA.out _).mono ?_
      rintro r w3 ⟨rfl, hb3⟩
      have HB3 := hide (on_below HB1.out hb3)
      clear hb3
      go_wp2_with (rw [HI.out])
      refine (HN.out _ (HE.out.pt.below HB3.out)).mono ?_
      rintro r w4 ⟨rfl, hb4⟩
      have HB4 := hide (on_below HB3.out hb4)
      clear hb4
      go_wp2
      go_ret2
      exact ⟨idx, false, rfl, HZ.out, HB4.out⟩
  · have HA := hide (fun (V : World) (hV : EV V) => atoi_no (Lib.trimPrefix s (lfD H)) V (by have := trim_len s (lfD H); omega) hV (fun v e => hv ⟨v, e⟩))
    have HZ : Hid (FlR H (bA s) 0 false) := hide (.inr ⟨rfl, hno (fun v e => hv ⟨v, e⟩)⟩)
    have HT := hide (fun (V : World) => trim_any s (lfD H) V)
    clear hno hv hh he
    go_enter Tryz.func69, Tryz.ntmps69
    go_wp2_with fail
    refine HF.out.mono ?_
    rintro e w1 ⟨rfl, hb1⟩
    have HB1 := hide hb1
    clear hb1
    go_wp2_with (go_at_call 90; refine (HT.out _).mono ?_; rintro r w' ⟨rfl, hw'⟩; subst w')
    refine (HA.out _ (HE.out.below HB1.out)).mono ?_
    rintro r w3 ⟨x, tp, p, rfl, hb3⟩
    have HB3 := hide (on_below HB1.out hb3)
    clear hb3
    go_wp2
    go_ret2
    exact ⟨0, false, rfl, HZ.out, HB3.out⟩

end Go.Proofs.YtpocadbhajacaaaGreatDoor

/-
  The files of a height behind a leaf: behind.
-/
namespace Go.Proofs.YtpocadbhajacaaaGreatDoor
open Go.RowKit Go.Shelf
set_option linter.unusedVariables false
set_option linter.unusedSimpArgs false
set_option maxRecDepth 100000

/-- Is it the name of a file of this height, all leaves of which are from n on? -/
def BhB (H n : Nat) (x : ByteArray) : Bool := (List.range 1048576).any fun q => decide (q * 2 ^ H < 1048576) && decide (n ≤ q * 2 ^ H) && decide (x = lfN H q)
theorem BhB_iff {H n : Nat} {x : ByteArray} : BhB H n x = true ↔ ∃ q, q * 2 ^ H < 1048576 ∧ n ≤ q * 2 ^ H ∧ x = lfN H q := by
  unfold BhB
  rw [List.any_eq_true]
  constructor
  · rintro ⟨q, _, h⟩
    simp only [Bool.and_eq_true, decide_eq_true_eq] at h
    exact ⟨q, h.1.1, h.1.2, h.2⟩
  · rintro ⟨q, h1, h2, h3⟩
    exact ⟨q, List.mem_range.2 (lfq_le h1), by simp [h1, h2, h3]⟩
def bhL (H n : Nat) (ns : List ByteArray) : List ByteArray := ns.filter (BhB H n)
theorem bhL_app (H n : Nat) (ns : List ByteArray) (x : ByteArray) : bhL H n (ns ++ [x]) = bhL H n ns ++ (if BhB H n x = true then [x] else []) := by
  unfold bhL
  rw [List.filter_append]
  generalize BhB H n = f
  cases h : f x <;> simp [List.filter, h]
theorem bhL_le (H n : Nat) (ns : List ByteArray) : (bhL H n ns).length ≤ ns.length := List.length_filter_le _ _
section
variable {F : Fence} {n : Nat} {dst : Option Tmp} {ty : TypeId} {pos : String} {aft : Array Edge} {gd : Option (Nat × Bool)} {ops : Array Oper} {rest : List Oper} {a : Act} {w : World} {Q : Exit → Act → World → Prop}
theorem istep_oneN (hF : WideF F) {x : Operand} {s : ByteArray} (hw : Region.wanted ⟨dst, .buildSlice 74 1 #[(0, x)], ty, pos, aft, gd⟩ (yielded ops a.tmps) = true) (hx : a.eval x = .string s)
    (h : ∀ w1 g, Blk w1 g 9 (nC [s]) → w.heap.size ≤ g → Below w.heap.size w w1 → wpListIn F n Tryz.prog ops Q rest (a.put dst (.slice (some ⟨g, 0, none⟩) 1 1)) w1) :
    wpListIn F n Tryz.prog ops Q (⟨dst, .buildSlice 74 1 #[(0, x)], ty, pos, aft, gd⟩ :: rest) a w :=
  istep hF (fun c => by simp) hw fun K hK => wponeN hx fun w1 g h1 h2 h3 => hK _ _ (h w1 g h1 h2 h3)
theorem istep_appN (hF : WideF F) {s x : Operand} {B : Nat} {v : Value} {ns : List ByteArray} {m : ByteArray} {g c : Nat} (hw : Region.wanted ⟨dst, .call { callee := .builtin .append, args := #[s, x], argTypes := #[74, 74] }, ty, pos, aft, gd⟩ (yielded ops a.tmps) = true)
    (hs : a.eval s = v) (hx : a.eval x = .slice (some ⟨g, 0, none⟩) 1 c) (hown : OwnN w B v ns) (hy : Blk w g 9 (nC [m])) (hlen : ns.length ≤ 1048576) (hB : B ≤ w.heap.size)
    (h : ∀ v' w', OwnN w' B v' (ns ++ [m]) → w.grownBy w' v.ownBlock → (∀ k, v'.ownBlock = some k → v.ownBlock = some k ∨ w.heap.size ≤ k) → wpListIn F n Tryz.prog ops Q rest (a.put dst v') w') :
    wpListIn F n Tryz.prog ops Q (⟨dst, .call { callee := .builtin .append, args := #[s, x], argTypes := #[74, 74] }, ty, pos, aft, gd⟩ :: rest) a w :=
  istep hF (fun c => by simp) hw fun K hK => wpappN hs hx hown hy hlen hB fun v' w' h1 h2 h3 => hK _ _ (h v' w' h1 h2 h3)
end
theorem reverseN_all (B : Nat) (v : Value) (ns : List ByteArray) (w : World) (hn2 : ns.length ≤ 1048576) (hB : B ≤ w.heap.size) (h : OwnN w B v ns) :
    Calls Tryz.prog 70 #[v] w fun r w' => (∃ x, r = .returned x) ∧ OwnN w' B v ns.reverse ∧ Below B w w' ∧ KeepsOthers w w' := by
  rcases h.lies with ⟨rfl, rfl⟩ | ⟨g, cap, cs, rfl, hg, hb, _⟩
  · refine (reverseN_nil w).mono ?_
    rintro r w' ⟨hr, rfl⟩
    exact ⟨hr, h, Below.refl _ _, KeepsOthers.refl _⟩
  · refine (reverseN_own B g cap ns.length ns w rfl hn2 h).mono ?_
    rintro r w' ⟨hr, ho, hbut⟩
    exact ⟨hr, ho, hbut.below hg, keepsO_but hbut hb⟩
theorem rowB_mono {w : World} {B B' : Nat} {e : TypeId} {q n : Nat} {v : Value} {xs : List Value} (h : w.ownsRow B e q v n xs) (hb : B' ≤ B) : w.ownsRow B' e q v n xs := by
  obtain ⟨h1, h2⟩ := h
  refine ⟨h1, ?_⟩
  rcases h2 with h2 | ⟨g, cap, cur, rfl, hg, h3⟩
  · exact .inl h2
  · exact .inr ⟨g, cap, cur, rfl, Nat.le_trans hb hg, h3⟩
/-- What stands while names are looked through. -/
structure FJ (w W : World) (Z b4 b5 b7 : Nat) (fv : Value) (ns : List ByteArray) (H n : Nat) : Prop where
  c4 : Blk W b4 3 [.int .i64 (H : Int)]
  c5 : Blk W b5 3 [.int .i64 (n : Int)]
  c7 : Blk W b7 74 [fv]
  own : OwnN W Z fv ns
  l7 : w.heap.size ≤ b7 ∧ b7 < Z ∧ b7 ≠ b4 ∧ b7 ≠ b5
  bel : Below w.heap.size w W
  sz : Z ≤ W.heap.size
section
variable {w W W' : World} {Z b4 b5 b7 : Nat} {fv : Value} {ns : List ByteArray} {H n : Nat}
theorem OwnN.ck {W W' : World} {B : Nat} {v : Value} {ns : List ByteArray} (h : OwnN W B v ns) (hk : CK W W') : OwnN W' B v ns := row_same h (fun k e => by
  obtain ⟨cs, hc⟩ := row_lies h e
  exact (hc.ck hk).trans hc.symm)
theorem FJ.ck (h : FJ w W Z b4 b5 b7 fv ns H n) (hk : CK W W') (hb : Below w.heap.size w W') : FJ w W' Z b4 b5 b7 fv ns H n := ⟨h.c4.ck hk, h.c5.ck hk, h.c7.ck hk, h.own.ck hk, h.l7, hb, Nat.le_trans h.sz hk.size⟩
theorem FJ.on (h : FJ w W Z b4 b5 b7 fv ns H n) (hb : Below W.heap.size W W') : FJ w W' Z b4 b5 b7 fv ns H n := h.ck (CK.below hb) (on_below h.bel hb)
end
set_option maxHeartbeats 4000000 in
theorem behindB_any (d s : Nat) (rs : List Rw) (D : Dm) (ls : List (ByteArray × List Int)) (H n : Nat) (w : World) (hd : DkAt w d s rs D) (hl : FL (play rs) ls) (hh : hB H) (hn : n ≤ 1048576) (he : EV w) (hwt : wt rs ≤ 1099511000000) (hls : ls.length ≤ 1000000) :
    Calls Tryz.prog 39 #[.pointer (some ⟨d, 0, none⟩), .int .i64 (H : Int), .int .i64 (n : Int)] w fun e w' => ∃ v, e = .returned v ∧ OwnN w' w.heap.size v (bhL H n (ls.map (·.1))).reverse ∧ Below w.heap.size w w' := by
  have HD := hide hd
  have HL := hide hl
  have HE := hide he
  have HW := hide hwt
  have HLS := hide hls
  have HHH := hide hh
  have hH8 : (H : Int) ≤ 8 := by have := hh.2; omega
  clear hd hl he hwt hls
  refine (callsIn_wide (n := 7)).1 ?_
  refine callsIn_of_wp_marks Tryz.func39 rfl trivial ?_ rfl
  refine wpIn_wide.2 ?_
  simp only [Tryz.ntmps39, List.size_toArray, List.length_cons, List.length_nil, Nat.reduceAdd, Nat.reduceSub, Array.replicate_succ, Array.replicate_zero, List.push_toArray, List.append_toArray, List.nil_append, List.cons_append]
  go_wp2_with fail
  have hnew : ∃ W, W = ((w.alloc (.cells #[.int .i64 (H : Int)] 3)).alloc (.cells #[.int .i64 (n : Int)] 3)).alloc (.cells #[.slice none 0 0] 74) ∧
      Blk W w.heap.size 3 [.int .i64 (H : Int)] ∧ Blk W (w.heap.size + 1) 3 [.int .i64 (n : Int)] ∧ Blk W (w.heap.size + 1 + 1) 74 [.slice none 0 0] ∧ Below w.heap.size w W := by
    refine ⟨_, rfl, ?_⟩
    have b1 : Below w.heap.size w (w.alloc (.cells #[.int .i64 (H : Int)] 3)) := (Below.refl _ _).alloc (Nat.le_refl _) _
    have B1 : Blk (w.alloc (.cells #[.int .i64 (H : Int)] 3)) w.heap.size 3 [.int .i64 (H : Int)] := Blk.made _ _ _
    have z1 : (w.alloc (.cells #[.int .i64 (H : Int)] 3)).heap.size = w.heap.size + 1 := World.size_alloc _ _
    generalize w.alloc (.cells #[.int .i64 (H : Int)] 3) = W1 at *
    have b2 : Below W1.heap.size W1 (W1.alloc (.cells #[.int .i64 (n : Int)] 3)) := (Below.refl _ _).alloc (Nat.le_refl _) _
    have B2 : Blk (W1.alloc (.cells #[.int .i64 (n : Int)] 3)) W1.heap.size 3 [.int .i64 (n : Int)] := Blk.made _ _ _
    have z2 : (W1.alloc (.cells #[.int .i64 (n : Int)] 3)).heap.size = W1.heap.size + 1 := World.size_alloc _ _
    generalize W1.alloc (.cells #[.int .i64 (n : Int)] 3) = W2 at *
    have b3 : Below W2.heap.size W2 (W2.alloc (.cells #[.slice none 0 0] 74)) := (Below.refl _ _).alloc (Nat.le_refl _) _
    have B3 : Blk (W2.alloc (.cells #[.slice none 0 0] 74)) W2.heap.size 74 [.slice none 0 0] := Blk.made _ _ _
    rw [z1] at B2 z2
    rw [z2] at B3
    exact ⟨(B1.on b2).on b3, B2.on b3, B3, on_below (on_below b1 b2) b3⟩
  obtain ⟨W4, hW4, B4, B5, B7, hbl⟩ := hnew
  rw [← hW4]
  have HB4 := hide B4
  have HB5 := hide B5
  have HB7 := hide B7
  have HBL := hide hbl
  clear hW4 B4 B5 B7 hbl
  obtain ⟨b4, hb4⟩ : ∃ b, w.heap.size = b := ⟨_, rfl⟩
  obtain ⟨b5, hb5⟩ : ∃ b, w.heap.size + 1 = b := ⟨_, rfl⟩
  obtain ⟨b7, hb7⟩ : ∃ b, w.heap.size + 1 + 1 = b := ⟨_, rfl⟩
  have hne : w.heap.size ≤ b7 ∧ b7 ≠ b4 ∧ b7 ≠ b5 := by omega
  rw [hb7] at HB7 ⊢
  rw [hb5] at HB5 ⊢
  rw [hb4] at HB4
  rw [hb4]
  have hb4' := hide hb4
  clear hb4 hb5 hb7
  refine (dlist_any _ _).mono ?_
  rintro r w5 ⟨bx, rfl, BX, hbx⟩
  have HF0 : Hid (∀ V, Below w5.heap.size w5 V → FJ w V V.heap.size b4 b5 b7 (.slice none 0 0) [] H n) := hide (fun V hV => by
    have c7 := (HB7.out.on hbx).on hV
    exact ⟨(HB4.out.on hbx).on hV, (HB5.out.on hbx).on hV, c7, OwnN.nil _ _, ⟨hne.1, c7.lt, hne.2.1, hne.2.2⟩, on_below (on_below HBL.out hbx) hV, Nat.le_refl _⟩)
  have hs5 : w.heap.size ≤ w5.heap.size := (on_below HBL.out hbx).size
  have HSQ := hide (list_seqZ bx d s rs D HL.out HW.out w5 BX (HD.out.below (on_below HBL.out hbx)))
  clear BX hbx
  go_wp2_with fail
  refine (wpIn_wide (n := 7)).1 ?_
  refine rangeZ rfl (by decide) (gf := 79) (lb := #[.pointer (some ⟨bx, 0, none⟩)]) rfl trivial (enters_of Tryz.func79 (by kernel_rfl) rfl)
    HSQ.out KZ.trans (fun Z W l o o' hl h hc => KZ.book Z W l o o' h hc) (fun _ => rfl) (fun pre x => rl_ownS _ _ pre x)
    (fun Z pre W => ∃ fv, FJ w W Z b4 b5 b7 fv (bhL H n pre) H n) (fun _ _ _ _ => False)
    (fun Z _ A C row h hg hr => by
      obtain ⟨fv, hf⟩ := h
      exact ⟨fv, hf.ck (CK.of_grown hg (fun r e => (hr r e).2)) (hf.bel.grown hg hf.bel.size (fun r e => by have h1 := (hr r e).1; omega))⟩) (fun Z c _ A C row h hg hr => h) (fun V hV => ⟨_, HF0.out V hV⟩) ?act ?assign ?body ?done ?stop
  case assign =>
    rintro l x W K hK
    have hsem := Oper.semAt_some
    gi_wp2
    exact hK
  case stop =>
    rintro Z D c pre W hD hSp hF2 hK2
    exact hF2.elim
  case body =>
    rintro Z l pre x W hZ ⟨fv, hf⟩ hR
    have hsem := Oper.semAt_some
    have HF := hide hf
    have hxs : x.size ≤ 128 := by
      obtain ⟨_, ys, h2⟩ := hR
      have hx1 : nmB x = true := by
        cases hb : nmB x with
        | true => rfl
        | false =>
          have h3 := (HL.out.mem x ys).2 (List.mem_of_getElem? h2)
          rw [Nmd.play HD.out.valS x hb] at h3
          cases h3
      simp [nmB] at hx1
      omega
    have HFEW : Hid ((bhL H n pre).length ≤ 1048576) := hide (by
      have h1 := bhL_le H n pre
      have h5 := HLS.out
      obtain ⟨_, ys, h2⟩ := hR
      have := (List.getElem?_eq_some_iff.1 h2).1
      omega)
    obtain ⟨ss, hss⟩ : ∃ s : List UInt8, x = bA s := ⟨x.data.toList, by apply ByteArray.ext; simp [bA]⟩
    subst hss
    rw [bA_size] at hxs
    have HCALL := hide (firstLeaf_any H ss W HHH.out hxs (HE.out.below hf.bel))
    have c4 : W.cell? ⟨b4, 0, none⟩ = some (.int .i64 (H : Int)) := by rw [hf.c4.cell]; rfl
    have HAPP := hide (bhL_app H n pre (bA ss))
    clear hf hR
    gi_wp2_with fail
    refine ⟨trivial, (calls_round (WideF.round l) HCALL.out).mono ?_⟩
    rintro _ V ⟨idx, ok, rfl, hfl, hbV⟩
    have HFV := hide (HF.out.on hbV)
    have HOV := hide (keepsO_below hbV)
    have HSV : Hid (KZ Z W V) := hide (KZ.below hbV)
    clear hbV HCALL c4 HF
    have c5 : V.cell? ⟨b5, 0, none⟩ = some (.int .i64 (n : Int)) := by rw [HFV.out.c5.cell]; rfl
    rcases hfl with ⟨rfl, q, hq1, hq2, rfl⟩ | ⟨rfl, hno⟩
    · by_cases hqn : n ≤ q * 2 ^ H
      · have hB : BhB H n (bA ss) = true := BhB_iff.2 ⟨q, hq1, hqn, hq2⟩
        have hAPP := HAPP.out
        rw [if_pos hB] at hAPP
        have HA2 := hide hAPP
        obtain ⟨Q, HQ⟩ : ∃ Q, Hid (q * 2 ^ H = Q) := ⟨_, hide rfl⟩
        have hqi : (n : Int) ≤ (Q : Int) := by have := HQ.out; omega
        rw [HQ.out]
        have c7 : V.cell? ⟨b7, 0, none⟩ = some fv := by rw [HFV.out.c7.cell]; rfl
        clear hq1 hq2 hqn hB hAPP HAPP
        gi_wp2_with (refine istep_oneN (.round l) rfl rfl ?_)
        intro V1 g11 hg11 hle11 hb11
        have HF1 := hide (HFV.out.on hb11)
        have HG1 := hide hg11
        have HO1 := hide (HOV.out.trans (keepsO_below hb11))
        have HS1 : Hid (KZ Z W V1) := hide (HSV.out.trans (KZ.below hb11))
        clear hg11 hle11 hb11
        gi_wp2_with (refine istep_appN (.round l) rfl rfl rfl HF1.out.own HG1.out HFEW.out HF1.out.sz ?_)
        intro fv2 V2 hown2 hgr2 _
        obtain ⟨fa, fc, hfv2⟩ := OwnN.slice hown2
        have hll : ((bhL H n pre) ++ [bA ss]).length = (bhL H n pre).length + 1 := by simp
        rw [hll] at hfv2
        subst hfv2
        clear hll
        have hfB : ∀ k, fv.ownBlock = some k → Z ≤ k ∧ ∃ cs, Blk V1 k 9 cs := fun k hk => ⟨row_ge HF1.out.own hk, row_lies HF1.out.own hk⟩
        have l7 := HF1.out.l7
        have k7 : Blk V2 b7 74 [fv] := HF1.out.c7.same (hgr2.block b7 HF1.out.c7.lt (fun e => by have := (hfB b7 e.symm).1; omega))
        have k4 : Blk V2 b4 3 [.int .i64 (H : Int)] := HF1.out.c4.same (hgr2.block b4 HF1.out.c4.lt (fun e => by
          obtain ⟨_, cs, hc⟩ := hfB b4 e.symm
          exact hc.apart HF1.out.c4 (by decide) rfl))
        have k5 : Blk V2 b5 3 [.int .i64 (n : Int)] := HF1.out.c5.same (hgr2.block b5 HF1.out.c5.lt (fun e => by
          obtain ⟨_, cs, hc⟩ := hfB b5 e.symm
          exact hc.apart HF1.out.c5 (by decide) rfl))
        have f7 := k7.free 0
        have d7 : V2.cell? ⟨b7, 0, none⟩ = some fv := by rw [k7.cell]; rfl
        have HK7 := hide k7
        have HK4 := hide k4
        have HK5 := hide k5
        have HGR := hide hgr2
        have HOW := hide hown2
        have HFB := hide hfB
        clear k7 k4 k5 hgr2 hown2 hfB c7 c5
        gi_wp2
        have hbut := But.setCell V2 b7 0 (.slice fa ((bhL H n pre).length + 1) fc)
        refine ⟨((HO1.out.trans (keepsO_grown HGR.out (fun g e => by
          obtain ⟨_, cs, hc⟩ := HFB.out g e
          exact ⟨_, cs, hc⟩))).trans (keepsO_but hbut HK7.out)).from _, (HS1.out.trans (KZ.grown HGR.out (fun g e => (HFB.out g e).1))).trans (KZ.but hbut HK7.out (by decide)), .slice fa ((bhL H n pre).length + 1) fc, ?_⟩
        rw [HA2.out]
        have hlt : ∀ k, (Value.slice fa ((bhL H n pre).length + 1) fc).ownBlock = some k → Z ≤ k := fun k hk => row_ge HOW.out hk
        exact ⟨HK4.out.but hbut (fun e => l7.2.2.1 e.symm), HK5.out.but hbut (fun e => l7.2.2.2 e.symm), HK7.out.set 0 _, row_same HOW.out (fun k hk => hbut.block k (by have := hlt k hk; omega)), l7, (HF1.out.bel.grown HGR.out HF1.out.bel.size (fun r e => by have := (HFB.out r e).1; omega)).trans (hbut.below l7.1), by rw [hbut.size]; have := HGR.out.size; have := HF1.out.sz; omega⟩
      · have hB : ¬ BhB H n (bA ss) = true := fun h => by
          obtain ⟨q', h1, h2, h3⟩ := BhB_iff.1 h
          rw [hq2] at h3
          have := (lfN_inj HHH.out HHH.out h3).2
          subst this
          exact hqn h2
        have hAPP := HAPP.out
        rw [if_neg hB, List.append_nil] at hAPP
        have HA2 := hide hAPP
        obtain ⟨Q, HQ⟩ : ∃ Q, Hid (q * 2 ^ H = Q) := ⟨_, hide rfl⟩
        have hqi : ¬ (n : Int) ≤ (Q : Int) := by have := HQ.out; omega
        rw [HQ.out]
        clear hq1 hq2 hqn hB hAPP HAPP
        gi_wp2
        exact ⟨HOV.out.from _, HSV.out, _, by rw [HA2.out]; exact HFV.out⟩
    · have hB : ¬ BhB H n (bA ss) = true := fun h => by
        obtain ⟨q', h1, h2, h3⟩ := BhB_iff.1 h
        exact hno q' h1 h3
      have hAPP := HAPP.out
      rw [if_neg hB, List.append_nil] at hAPP
      have HA2 := hide hAPP
      clear hno hB hAPP HAPP
      gi_wp2
      exact ⟨HOV.out.from _, HSV.out, _, by rw [HA2.out]; exact HFV.out⟩
  case done =>
    rintro Z Dk ys W hD hS ⟨fv, hf⟩ hK
    subst hS
    have c7 : W.cell? ⟨b7, 0, none⟩ = some fv := by rw [hf.c7.cell]; rfl
    have HF := hide hf
    have HK := hide hK
    have HFEW : Hid ((bhL H n (ls.map (·.1))).length ≤ 1048576) := hide (by
      have h1 := bhL_le H n (ls.map (·.1))
      have h5 := HLS.out
      rw [List.length_map] at h1
      omega)
    obtain ⟨ns, HNS⟩ : ∃ ns, Hid (bhL H n (ls.map (·.1)) = ns) := ⟨_, hide rfl⟩
    rw [HNS.out] at HF HFEW
    clear hf hK
    go_wp2_with fail
    refine (reverseN_all Z fv ns W HFEW.out HF.out.sz HF.out.own).mono ?_
    rintro r W2 ⟨⟨rv, rfl⟩, hown, hbw, hko⟩
    have k7 : Blk W2 b7 74 [fv] := HF.out.c7.same (hbw.block b7 HF.out.l7.2.1)
    have c7' : W2.cell? ⟨b7, 0, none⟩ = some fv := by rw [k7.cell]; rfl
    have hk2 := hko.same Dk _ HK.out rfl
    have HK2 := hide hk2
    have HOW := hide hown
    have HB2 := hide (HF.out.bel.trans (hbw.mono (show w.heap.size ≤ Z by have := HF.out.l7; omega)))
    have hwD : w.heap.size ≤ Dk := by omega
    have hwZ : w.heap.size ≤ Z := by have := HF.out.l7; omega
    clear hk2 hown hbw hko
    go_wp2
    refine ⟨by simp, .inl ⟨_, _, rfl, run_takeDeferred HK2.out, ?_⟩⟩
    refine ⟨fv, by simp [results, Tryz.f39, go_sem], ?_⟩
    refine ⟨fv, rfl, ?_, HB2.out.trans (belowK_b (w := w) (Nat.le_refl _) _ Dk _ (.deferred none) hwD HK2.out rfl rfl)⟩
    rw [HNS.out]
    exact rowB_mono (OwnN.ck HOW.out (CK.put (.deferred none) HK2.out rfl)) hwZ

end Go.Proofs.YtpocadbhajacaaaGreatDoor

/-
  The law's counts: a height's leaves, counted and told by both.
-/
namespace Go.Proofs.YtpocadbhajacaaaGreatDoor
open Go.RowKit Go.Shelf
set_option linter.unusedVariables false
set_option linter.unusedSimpArgs false
set_option maxRecDepth 100000

/-- What stands in the law's loop over a height's leaves: its variables. -/
structure ZCt (w W : World) (b4 b6 b8 B : Nat) (v : Value) (ws : List ByteArray) (k : Nat) : Prop where
  c4 : Blk W b4 74 [v]
  c6 : Blk W b6 4 [.bool false]
  c8 : Blk W b8 3 [.int .i64 (k : Int)]
  n8 : w.heap.size ≤ b8 ∧ b8 ≠ b4 ∧ b8 ≠ b6
  ow : OwnN W B v ws
  o8 : v.ownBlock ≠ some b8
  bel : Below w.heap.size w W
section
variable {w W W' : World} {b4 b6 b8 B : Nat} {v : Value} {ws : List ByteArray} {k : Nat}
theorem ZCt.ck (h : ZCt w W b4 b6 b8 B v ws k) (hk : CK W W') (hb : Below w.heap.size w W') : ZCt w W' b4 b6 b8 B v ws k := ⟨h.c4.ck hk, h.c6.ck hk, h.c8.ck hk, h.n8, h.ow.ck hk, h.o8, hb⟩
theorem ZCt.on (h : ZCt w W b4 b6 b8 B v ws k) (hb : Below W.heap.size W W') : ZCt w W' b4 b6 b8 B v ws k := h.ck (CK.below hb) (on_below h.bel hb)
end
set_option maxHeartbeats 4000000 in
theorem counts_ok (d r s : Nat) (rs : List Rw) (D : Dm) (R : Rm) (H n : Nat) (w : World) (hh : hB H) (hn : CnL (play rs) H n) (hd : DkAt w d s rs D) (hr : RkAt w r s rs R) (hwt : wt rs ≤ 1099511000000) (ht : PT w) :
    Calls Tryz.prog 16 #[.pointer (some ⟨d, 0, none⟩), .pointer (some ⟨r, 0, none⟩), .int .i64 (H : Int)] w fun e w' => e = .returned (.bool true) ∧ Below w.heap.size w w' := by
  have e0 : bnE (H : Int) 0 = 0 := bnE_nat (I := 0) hh (by decide)
  have HD := hide hd
  have HR := hide hr
  have HT := hide ht
  have HCU := hide (fun (W : World) (h1 : DkAt W d s rs D) (h2 : PT W) => countB_any d s rs D W h1 (H : Int) n h2 (fun _ => by rw [Int.toNat_natCast]; exact hn) hwt)
  have HCL := hide (fun (W : World) (h1 : RkAt W r s rs R) => countR_any r s rs R W h1 (H : Int) n (fun _ => by rw [Int.toNat_natCast]; exact hn) hwt)
  simp only [e0, if_true] at HCU HCL
  have HAL := hide (fun (W : World) (h1 : RkAt W r s rs R) => allR_any r s rs R W h1 H n hh hn hwt)
  have hn9 : n ≤ 1048576 := hn.le
  have HSM : Hid (∀ j, j < n → (lf (play rs) H j).length ≤ 65535 ∧ isB (lf (play rs) H j)) := hide (fun j hj => lf_small hd hn hj)
  have HSQ0 : Hid (∀ (W : World) (gd gh : Nat), DkAt W d s rs D → PT W → Blk W gd 26 [.pointer (some ⟨d, 0, none⟩)] → Blk W gh 3 [.int .i64 (H : Int)] →
    SeqM Fence.wide 5 Tryz.prog 53 #[.pointer (some ⟨gd, 0, none⟩), .pointer (some ⟨gh, 0, none⟩)] encA (RA (play rs) H n) (fun _ => KC W.heap.size) (fun ys => ys.length = n) (fun ys => ys.length ≤ n) W) := hide (fun W gd gh h1 h2 h3 h4 => allB_seq d s rs D gd gh H n W h1 h2 h3 h4 hh hn hwt)
  obtain ⟨ws, HWS⟩ : ∃ ws, Hid ((lfs (play rs) H n).map str = ws) := ⟨_, hide rfl⟩
  have HWL : Hid (ws.length = n) := hide (by rw [← HWS.out, List.length_map, lfs_len])
  have HWA : Hid (∀ j, j < n → ws[j]? = some (str (lf (play rs) H j))) := hide (fun j hj => by rw [← HWS.out]; simp [lfs, hj])
  rw [HWS.out] at HAL
  clear hd hr ht hwt hn e0 HWS hh
  refine (callsIn_wide (n := 6)).1 ?_
  refine callsIn_of_wp_marks Tryz.func16 rfl trivial ?_ rfl
  refine wpIn_wide.2 ?_
  simp only [Tryz.ntmps16, List.size_toArray, List.length_cons, List.length_nil, Nat.reduceAdd, Nat.reduceSub, Array.replicate_succ, Array.replicate_zero, List.push_toArray, List.append_toArray, List.nil_append, List.cons_append]
  go_wp2_with fail
  have B6 : Blk (w.alloc (.cells #[.bool false] 4)) w.heap.size 4 [.bool false] := Blk.made _ _ _
  have hb6 : Below w.heap.size w (w.alloc (.cells #[.bool false] 4)) := (Below.refl _ _).alloc (Nat.le_refl _) _
  obtain ⟨b6, hb6e⟩ : ∃ b, w.heap.size = b := ⟨_, rfl⟩
  have HL6 : Hid (w.heap.size ≤ b6) := hide (by omega)
  have HC6 : Hid (Blk (w.alloc (.cells #[.bool false] 4)) b6 4 [.bool false]) := hide (by rw [← hb6e]; exact B6)
  have HB6 := hide hb6
  rw [hb6e]
  clear B6 hb6 hb6e
  revert HC6 HB6
  generalize w.alloc (.cells #[.bool false] 4) = V6
  intro HC6 HB6
  refine (HCU.out _ (HD.out.below HB6.out) (HT.out.below HB6.out)).mono ?_
  rintro e V1 ⟨rfl, hb1⟩
  have HB1 := hide (on_below HB6.out hb1)
  have HC1 := hide (HC6.out.on hb1)
  clear hb1 HC6 HB6 HCU
  go_wp2_with fail
  refine (HCL.out _ (HR.out.below HB1.out)).mono ?_
  rintro e V2 ⟨rfl, hb2⟩
  have HB2 := hide (on_below HB1.out hb2)
  have HC2 := hide (HC1.out.on hb2)
  clear hb2 HC1 HB1 HCL
  go_wp2_with fail
  refine (HAL.out _ (HR.out.below HB2.out)).mono ?_
  rintro e V3 ⟨v, rfl, ho, hb3⟩
  obtain ⟨a, c, rfl⟩ := OwnN.slice ho
  rw [HWL.out] at ho ⊢
  have HOW := hide ho
  clear ho
  have HB3 := hide (on_below HB2.out hb3)
  have HC3 := hide (HC2.out.on hb3)
  have HL3 : Hid (b6 < V3.heap.size) := hide (HC2.out.on hb3).lt
  have h3s := HB3.out.size
  clear hb3 HC2 HB2 HAL
  go_wp2_with fail
  have B4 : Blk (V3.alloc (.cells #[.slice a n c] 74)) V3.heap.size 74 [.slice a n c] := Blk.made _ _ _
  have hb4 : Below V3.heap.size V3 (V3.alloc (.cells #[.slice a n c] 74)) := (Below.refl _ _).alloc (Nat.le_refl _) _
  have z4 : (V3.alloc (.cells #[.slice a n c] 74)).heap.size = V3.heap.size + 1 := World.size_alloc _ _
  obtain ⟨b4, hb4e⟩ : ∃ b, V3.heap.size = b := ⟨_, rfl⟩
  have G4 : Hid (Blk (V3.alloc (.cells #[.slice a n c] 74)) b4 74 [.slice a n c]) := hide (by rw [← hb4e]; exact B4)
  have HL4 : Hid (V3.heap.size = b4) := hide hb4e
  have BB4 := hide hb4
  rw [hb4e] at z4 ⊢
  rw [← z4]
  clear B4 hb4 hb4e
  revert G4 BB4 z4
  generalize V3.alloc (.cells #[.slice a n c] 74) = V4
  intro z4 G4 BB4
  have B8 : Blk (V4.alloc (.cells #[.int .i64 0] 3)) V4.heap.size 3 [.int .i64 0] := Blk.made _ _ _
  have hb8 : Below V4.heap.size V4 (V4.alloc (.cells #[.int .i64 0] 3)) := (Below.refl _ _).alloc (Nat.le_refl _) _
  have Z8 : Hid (ZCt V3 (V4.alloc (.cells #[.int .i64 0] 3)) b4 b6 V4.heap.size V2.heap.size (.slice a n c) ws 0) := hide ⟨G4.out.on hb8, (HC3.out.on BB4.out).on hb8, B8, ⟨BB4.out.size, by omega, by have := HL3.out; have := HL4.out; omega⟩, (HOW.out.below BB4.out).below hb8, (fun e => by have := (HOW.out.lt _ e).2; have := BB4.out.size; omega), on_below BB4.out hb8⟩
  have D8 := hide (((HD.out.below HB3.out).below BB4.out).below hb8)
  have T8 := hide (((HT.out.below HB3.out).below BB4.out).below hb8)
  have h8l : V4.heap.size < (V4.alloc (.cells #[.int .i64 0] 3)).heap.size := B8.lt
  clear B8 hb8 G4 BB4 z4 HC3
  revert Z8 D8 T8 h8l
  generalize V4.alloc (.cells #[.int .i64 0] 3) = w8
  generalize V4.heap.size = b8
  intro Z8 D8 T8 h8l
  refine (allB_mkP _ _ _).mono ?_
  rintro r w9 ⟨gd0, gh0, rfl, _, _, _, _, hb9⟩
  have Z9 := hide (Z8.out.on hb9)
  have D9 := hide (D8.out.below hb9)
  have T9 := hide (T8.out.below hb9)
  clear hb9 Z8 D8 T8
  have heq : ∀ v : World, (binOp BinOp.eql 56 (.func (.func 53) #[] #[.pointer (some ⟨gd0, 0, none⟩), .pointer (some ⟨gh0, 0, none⟩)]) .nilFunc).run Tryz.prog v = .ok (.bool false) v := fun v => by kernel_rfl
  go_wp2_with fail
  refine (allB_mkP _ _ _).mono ?_
  rintro r w10 ⟨gd, gh, rfl, BD, BH, _, _, hb10⟩
  have Z10 := hide (Z9.out.on hb10)
  have D10 := hide (D9.out.below hb10)
  have T10 := hide (T9.out.below hb10)
  clear hb10 Z9 D9 T9 heq
  have hws : V3.heap.size ≤ w10.heap.size := Z10.out.bel.size
  have h8w : b8 < w10.heap.size := Z10.out.c8.lt
  have HSQ := hide (HSQ0.out w10 gd gh D10.out T10.out BD BH)
  clear BD BH D10 T10 HSQ0
  go_wp2_with fail
  refine (wpIn_wide (n := 6)).1 ?_
  refine rangeM rfl (by decide) (gf := 53) (lb := #[.pointer (some ⟨gd, 0, none⟩), .pointer (some ⟨gh, 0, none⟩)]) rfl trivial (enters_of Tryz.func53 (by kernel_rfl) rfl)
    HSQ.out KC.trans (fun x V l o o' hl h hc => KC.book V l o o' h hc) (fun x A C h => KC.below h) (fun _ => rfl) (fun pre x V0 => ra_own _ _ _ _ pre x V0)
    (fun pre V => ZCt V3 V b4 b6 b8 V2.heap.size (.slice a n c) ws pre.length) (fun _ _ _ => False)
    (fun _ A C row h hg hr => h.ck (CK.of_grown hg (fun r e => (hr r e).2)) (h.bel.grown hg h.bel.size (fun r e => by have := (hr r e).1; omega)))
    (fun c _ A C row h hg hr => h) Z10.out ?act (fun x g V => True) (fun x g V l r o' hl hx => trivial) ?assign ?body ?done ?stop
  case assign =>
    rintro l x V K ⟨pre, V0, h1, h2, h3⟩ hK
    have hsem := Oper.semAt_some
    simp only [encA]
    clear h1 h2 h3
    obtain ⟨g, hg⟩ : ∃ g, V.heap.size = g := ⟨_, rfl⟩
    have hK2 := hK g V (Below.refl _ _) (by omega) trivial
    clear hK hg
    have ez : ∀ (t : Array Value) (v u : Value), (Array.zip #[45, 46] #[v, u]).foldl (fun t (x : Tmp × Value) => t.setIfInBounds x.1 x.2) t = (t.setIfInBounds 45 v).setIfInBounds 46 u := fun t v u => by simp
    rw [ez]
    simp only [List.setIfInBounds_toArray, List.set_cons_succ, List.set_cons_zero]
    gi_wp2
    exact hK2
  case stop =>
    rintro D0 c pre V hD hSp h hK
    exact h.elim
  case body =>
    rintro l pre ⟨xi, xa, xl, xc⟩ gx V0 V hgx hbx _ hck hsz hz ⟨h1, h2, Zb, h3⟩
    have hsem := Oper.semAt_some
    obtain ⟨j, HJ⟩ : ∃ j, Hid (pre.length = j) := ⟨_, hide rfl⟩
    simp only [svV] at h3
    rw [HJ.out] at h1 h2 h3 hz
    simp only at h2
    subst h2
    obtain ⟨hsm, hbb⟩ := HSM.out xi h1
    obtain ⟨xa', xc', hxe, hsl⟩ := h3.sl' hbb (by omega)
    have hwa := HWA.out xi h1
    have HP1 : Hid ((pre ++ [((xi, xa, xl, xc) : Nat × Sv)]).length = xi + 1) := hide (by rw [List.length_append, HJ.out]; rfl)
    injection hxe with ea el ec
    subst ea el ec
    generalize lf (play rs) H xi = y at *
    obtain ⟨m, hm⟩ : ∃ m, y.length = m := ⟨_, rfl⟩
    rw [hm] at hsl
    try rw [hm] at HP1
    have HSL := hide hsl
    obtain ⟨X, HX⟩ : ∃ X, Hid (str y = X) := ⟨_, hide rfl⟩
    rw [HX.out] at hwa
    have HT1 : Hid (∀ v : World, Below V.heap.size V v → (convert 31 9 (.slice xa m xc)).run Tryz.prog v = .ok (.string X) v) := hide (fun v hv => by rw [← HX.out]; exact toStr (HSL.out.below hv))
    have hself : (X.toList == X.toList) = true := by simp
    obtain ⟨bb, rfl⟩ : ∃ bb, a = some ⟨bb, 0, none⟩ := by
      rcases hz.ow.lies with ⟨e, e2⟩ | ⟨g, cap, cs, e, _⟩
      · have := HWL.out
        rw [e2] at this
        simp at this
        omega
      · injection e with e1 _ _
        exact ⟨g, e1⟩
    have hix := atN bb n c xi (xi : Int) rfl h1
    have HZ := hide hz
    have HWX := hide hwa
    have hge : ¬ (n : Int) ≤ (xi : Int) := by omega
    have hge2 : ¬ n ≤ xi := by omega
    try rw [hm]
    clear hz h3 hck hsz hsl hsm hbb hwa hm
    gi_wp2_with fail
    refine wpIn_region_held (S := fun v => Below V.heap.size V v) (WideF.round l) (by kernel_rfl) (by kernel_rfl) (Below.refl V.heap.size V).drew (fun hHeld => ?_)
    refine takeH 0 47 (.int .i64 (xi : Int)) hHeld rfl rfl (by kernel_rfl) (by kernel_rfl) (by kernel_rfl) (fun _ _ _ h => h) (Or.inl ⟨by rfl, fun w _ => by go_simp⟩) ?_
    simp only [Act.put, List.setIfInBounds_toArray, List.set_cons_zero, List.set_cons_succ]
    refine takeH 1 48 (.int .i64 (xi : Int)) hHeld rfl rfl (by kernel_rfl) (by kernel_rfl) (by kernel_rfl) (fun _ _ _ h => h) (Or.inl ⟨by rfl, fun w hw => by have hw' : w.cell? ⟨b8, 0, none⟩ = some (.int .i64 (xi : Int)) := (fun hw => by rw [((HZ.out.on hw).c8).cell]; rfl) hw; go_simp⟩) ?_
    simp only [Act.put, List.setIfInBounds_toArray, List.set_cons_zero, List.set_cons_succ]
    refine takeH 2 49 (.bool false) hHeld rfl rfl (by kernel_rfl) (by kernel_rfl) (by kernel_rfl) (fun _ _ _ h => h) (Or.inl ⟨by rfl, fun w _ => by go_simp⟩) ?_
    simp only [Act.put, List.setIfInBounds_toArray, List.set_cons_zero, List.set_cons_succ]
    refine takeH 3 50 (.bool false) hHeld rfl rfl (by kernel_rfl) (by kernel_rfl) (by kernel_rfl) (fun _ _ _ h => h) (Or.inl ⟨by rfl, fun w _ => by go_simp⟩) ?_
    simp only [Act.put, List.setIfInBounds_toArray, List.set_cons_zero, List.set_cons_succ]
    refine takeH 4 51 (.int .i64 (xi : Int)) hHeld rfl rfl (by kernel_rfl) (by kernel_rfl) (by kernel_rfl) (fun _ _ _ h => h) (Or.inl ⟨by rfl, fun w hw => by have hw' : w.cell? ⟨b8, 0, none⟩ = some (.int .i64 (xi : Int)) := (fun hw => by rw [((HZ.out.on hw).c8).cell]; rfl) hw; go_simp⟩) ?_
    simp only [Act.put, List.setIfInBounds_toArray, List.set_cons_zero, List.set_cons_succ]
    refine takeH 5 52 (.slice (some ⟨bb, 0, none⟩) n c) hHeld rfl rfl (by kernel_rfl) (by kernel_rfl) (by kernel_rfl) (fun _ _ _ h => h) (Or.inl ⟨by rfl, fun w hw => by have hw' : w.cell? ⟨b4, 0, none⟩ = some (.slice (some ⟨bb, 0, none⟩) n c) := (fun hw => by rw [((HZ.out.on hw).c4).cell]; rfl) hw; go_simp⟩) ?_
    simp only [Act.put, List.setIfInBounds_toArray, List.set_cons_zero, List.set_cons_succ]
    refine takeH 6 53 (.int .i64 (n : Int)) hHeld rfl rfl (by kernel_rfl) (by kernel_rfl) (by kernel_rfl) (fun _ _ _ h => h) (Or.inl ⟨by rfl, fun w _ => by go_simp⟩) ?_
    simp only [Act.put, List.setIfInBounds_toArray, List.set_cons_zero, List.set_cons_succ]
    refine takeH 7 54 (.bool false) hHeld rfl rfl (by kernel_rfl) (by kernel_rfl) (by kernel_rfl) (fun _ _ _ h => h) (Or.inl ⟨by rfl, fun w _ => by go_simp⟩) ?_
    simp only [Act.put, List.setIfInBounds_toArray, List.set_cons_zero, List.set_cons_succ]
    refine takeH 8 55 (.bool false) hHeld rfl rfl (by kernel_rfl) (by kernel_rfl) (by kernel_rfl) (fun _ _ _ h => h) (Or.inl ⟨by rfl, fun w _ => by go_simp⟩) ?_
    simp only [Act.put, List.setIfInBounds_toArray, List.set_cons_zero, List.set_cons_succ]
    refine takeH 9 56 (.bool false) hHeld rfl rfl (by kernel_rfl) (by kernel_rfl) (by kernel_rfl) (fun _ _ _ h => h) (Or.inl ⟨by rfl, fun w _ => by go_simp⟩) ?_
    simp only [Act.put, List.setIfInBounds_toArray, List.set_cons_zero, List.set_cons_succ]
    refine takeH 10 57 (.slice xa m xc) hHeld rfl rfl (by kernel_rfl) (by kernel_rfl) (by kernel_rfl) (fun _ _ _ h => h) (Or.inl ⟨by rfl, fun w _ => by go_simp; rfl⟩) ?_
    simp only [Act.put, List.setIfInBounds_toArray, List.set_cons_zero, List.set_cons_succ]
    refine takeH 11 58 (.string X) hHeld rfl rfl (by kernel_rfl) (by kernel_rfl) (by kernel_rfl) (fun _ _ _ h => h) (Or.inl ⟨by rfl, fun w hw => by have hcv := HT1.out w hw; go_simp⟩) ?_
    simp only [Act.put, List.setIfInBounds_toArray, List.set_cons_zero, List.set_cons_succ]
    refine takeH 12 59 (.slice (some ⟨bb, 0, none⟩) n c) hHeld rfl rfl (by kernel_rfl) (by kernel_rfl) (by kernel_rfl) (fun _ _ _ h => h) (Or.inl ⟨by rfl, fun w hw => by have hw' : w.cell? ⟨b4, 0, none⟩ = some (.slice (some ⟨bb, 0, none⟩) n c) := (fun hw => by rw [((HZ.out.on hw).c4).cell]; rfl) hw; go_simp⟩) ?_
    simp only [Act.put, List.setIfInBounds_toArray, List.set_cons_zero, List.set_cons_succ]
    refine takeH 13 60 (.int .i64 (xi : Int)) hHeld rfl rfl (by kernel_rfl) (by kernel_rfl) (by kernel_rfl) (fun _ _ _ h => h) (Or.inl ⟨by rfl, fun w hw => by have hw' : w.cell? ⟨b8, 0, none⟩ = some (.int .i64 (xi : Int)) := (fun hw => by rw [((HZ.out.on hw).c8).cell]; rfl) hw; go_simp⟩) ?_
    simp only [Act.put, List.setIfInBounds_toArray, List.set_cons_zero, List.set_cons_succ]
    refine takeH 14 61 (.pointer (some ⟨bb, xi, none⟩)) hHeld rfl rfl (by kernel_rfl) (by kernel_rfl) (by kernel_rfl) (fun _ _ _ h => h) (Or.inl ⟨by rfl, fun w _ => run_op rfl (hix w)⟩) ?_
    simp only [Act.put, List.setIfInBounds_toArray, List.set_cons_zero, List.set_cons_succ]
    refine takeH 15 62 (.string X) hHeld rfl rfl (by kernel_rfl) (by kernel_rfl) (by kernel_rfl) (fun _ _ _ h => h) (Or.inl ⟨by rfl, fun w hw => by have hw' : w.cell? ⟨bb, xi, none⟩ = some (.string X) := (fun hw => (HZ.out.on hw).ow.cell xi X HWX.out) hw; go_simp⟩) ?_
    simp only [Act.put, List.setIfInBounds_toArray, List.set_cons_zero, List.set_cons_succ]
    refine takeH 16 63 (.bool false) hHeld rfl rfl (by kernel_rfl) (by kernel_rfl) (by kernel_rfl) (fun _ _ _ h => h) (Or.inl ⟨by rfl, fun w _ => by go_simp⟩) ?_
    simp only [Act.put, List.setIfInBounds_toArray, List.set_cons_zero, List.set_cons_succ]
    refine takeH 17 64 (.bool false) hHeld rfl rfl (by kernel_rfl) (by kernel_rfl) (by kernel_rfl) (fun _ _ _ h => h) (Or.inl ⟨by rfl, fun w _ => by go_simp⟩) ?_
    simp only [Act.put, List.setIfInBounds_toArray, List.set_cons_zero, List.set_cons_succ]
    refine wpAnyH_done (by kernel_rfl) ?_ _
    refine Only.normal ?_
    obtain ⟨Vd, hVd⟩ : ∃ v, V.drew = v := ⟨_, rfl⟩
    rw [hVd] at hHeld ⊢
    clear hVd
    have HZd := hide (HZ.out.on hHeld)
    have HKd : Hid (KC w10.heap.size V Vd) := hide (KC.below hHeld)
    have HOd := hide (keepsO_below hHeld)
    have d8 : Vd.cell? ⟨b8, 0, none⟩ = some (.int .i64 (xi : Int)) := by rw [HZd.out.c8.cell]; rfl
    have f8 := HZd.out.c8.free 0
    clear hHeld hix hge hge2
    gi_wp2
    have hbut := But.setCell Vd b8 0 (.int .i64 ((xi + 1 : Nat) : Int))
    refine ⟨(HOd.out.trans (keepsO_but hbut HZd.out.c8)).from _, HKd.out.trans (KC.but hbut h8w), ?_⟩
    show ZCt V3 _ b4 b6 b8 _ _ _ (pre ++ [((xi, xa, m, xc) : Nat × Sv)]).length
    rw [HP1.out]
    exact ⟨HZd.out.c4.but hbut (fun e => HZd.out.n8.2.1 e.symm), HZd.out.c6.but hbut (fun e => HZd.out.n8.2.2 e.symm), HZd.out.c8.set 0 _, HZd.out.n8, HZd.out.ow.but hbut HZd.out.o8, HZd.out.o8, HZd.out.bel.trans (hbut.below HZd.out.n8.1)⟩
  case done =>
    rintro Dk ys V hD hS hz hK2
    have hz2 : ZCt V3 V b4 b6 b8 V2.heap.size (.slice a n c) ws n := by have := hz; rwa [show ys.length = n from hS] at this
    clear hz
    have hz := hz2
    clear hz2
    have HZ := hide hz
    have HDK := hide hK2
    have hDk : w.heap.size ≤ Dk := by omega
    clear hz hK2 hD
    have d8 : V.cell? ⟨b8, 0, none⟩ = some (.int .i64 (n : Int)) := by rw [HZ.out.c8.cell]; rfl
    have d4 : V.cell? ⟨b4, 0, none⟩ = some (.slice a n c) := by rw [HZ.out.c4.cell]; rfl
    have f6 := HZ.out.c6.free 0
    have d6 : V.cell? ⟨b6, 0, none⟩ = some (.bool false) := by rw [HZ.out.c6.cell]; rfl
    go_wp2
    have hbut := But.setCell V b6 0 (.bool true)
    have hdk2 : (V.setCell ⟨b6, 0, none⟩ (.bool true)).heap[Dk]? = some (.deferred (some [])) := (hbut.block Dk (fun e => by
      have h1 := HDK.out
      rw [e] at h1
      have h2 := HZ.out.c6
      unfold Blk at h2
      rw [h1] at h2
      cases h2)).trans HDK.out
    refine ⟨by simp, .inl ⟨_, _, rfl, run_takeDeferred hdk2, ?_⟩⟩
    have hc6 : ((V.setCell ⟨b6, 0, none⟩ (.bool true)).putObj Dk (.deferred none)).cell? ⟨b6, 0, none⟩ = some (.bool true) := by
      rw [(((HZ.out.c6.set 0 (.bool true))).ck (CK.put (.deferred none) hdk2 rfl)).cell]
      rfl
    refine ⟨.bool true, by simp [results, Tryz.f16, go_sem, hc6], rfl, ?_⟩
    exact ((HB3.out.trans (HZ.out.bel.mono HB3.out.size)).trans (hbut.below HL6.out)).trans (belowK_b (w := w) (Nat.le_refl _) _ Dk _ (.deferred none) hDk hdk2 rfl rfl)
set_option maxHeartbeats 4000000 in
theorem counts_bad (d r s : Nat) (rs : List Rw) (D : Dm) (R : Rm) (h : Int) (w : World) (he : bnE h 0 ≠ 0) (hd : DkAt w d s rs D) (hr : RkAt w r s rs R) (hwt : wt rs ≤ 1099511000000) (ht : PT w) :
    Calls Tryz.prog 16 #[.pointer (some ⟨d, 0, none⟩), .pointer (some ⟨r, 0, none⟩), .int .i64 h] w fun e w' => e = .returned (.bool true) ∧ Below w.heap.size w w' := by
  have e2 : bnE h 0 = 2 := by rcases bnE_bin h 0 with k | k; exact absurd k he; exact k
  have HD := hide hd
  have HR := hide hr
  have HT := hide ht
  have HNE := hide he
  have HCU := hide (fun (W : World) (h1 : DkAt W d s rs D) (h2 : PT W) => countB_any d s rs D W h1 h 0 h2 (fun e => absurd e he) hwt)
  have HCL := hide (fun (W : World) (h1 : RkAt W r s rs R) => countR_any r s rs R W h1 h 0 (fun e => absurd e he) hwt)
  rw [if_neg he, e2] at HCU HCL
  have HAL := hide (fun (W : World) (h1 : RkAt W r s rs R) => allR_bad r W h he)
  clear hd hr ht hwt he e2
  refine (callsIn_wide (n := 6)).1 ?_
  refine callsIn_of_wp_marks Tryz.func16 rfl trivial ?_ rfl
  refine wpIn_wide.2 ?_
  simp only [Tryz.ntmps16, List.size_toArray, List.length_cons, List.length_nil, Nat.reduceAdd, Nat.reduceSub, Array.replicate_succ, Array.replicate_zero, List.push_toArray, List.append_toArray, List.nil_append, List.cons_append]
  go_wp2_with fail
  have B6 : Blk (w.alloc (.cells #[.bool false] 4)) w.heap.size 4 [.bool false] := Blk.made _ _ _
  have hb6 : Below w.heap.size w (w.alloc (.cells #[.bool false] 4)) := (Below.refl _ _).alloc (Nat.le_refl _) _
  obtain ⟨b6, hb6e⟩ : ∃ b, w.heap.size = b := ⟨_, rfl⟩
  have HL6 : Hid (w.heap.size ≤ b6) := hide (by omega)
  have HC6 : Hid (Blk (w.alloc (.cells #[.bool false] 4)) b6 4 [.bool false]) := hide (by rw [← hb6e]; exact B6)
  have HB6 := hide hb6
  rw [hb6e]
  clear B6 hb6 hb6e
  revert HC6 HB6
  generalize w.alloc (.cells #[.bool false] 4) = V6
  intro HC6 HB6
  refine (HCU.out _ (HD.out.below HB6.out) (HT.out.below HB6.out)).mono ?_
  rintro e V1 ⟨rfl, hb1⟩
  have HB1 := hide (on_below HB6.out hb1)
  have HC1 := hide (HC6.out.on hb1)
  clear hb1 HC6 HB6 HCU
  go_wp2_with fail
  refine (HCL.out _ (HR.out.below HB1.out)).mono ?_
  rintro e V2 ⟨rfl, hb2⟩
  have HB2 := hide (on_below HB1.out hb2)
  have HC2 := hide (HC1.out.on hb2)
  clear hb2 HC1 HB1 HCL
  go_wp2_with fail
  refine (HAL.out _ (HR.out.below HB2.out)).mono ?_
  rintro e V3 ⟨rfl, hb3e⟩
  have hb3 : Below V2.heap.size V2 V3 := by rw [hb3e]; exact Below.refl _ _
  have HOW0 : OwnN V3 V2.heap.size (.slice none 0 0) [] := OwnN.nil _ _
  clear hb3e
  obtain ⟨a, ha⟩ : ∃ a : Option Addr, a = none := ⟨_, rfl⟩
  obtain ⟨n, hn⟩ : ∃ n : Nat, n = 0 := ⟨_, rfl⟩
  obtain ⟨c, hc⟩ : ∃ n : Nat, n = 0 := ⟨_, rfl⟩
  have hsl : Value.slice none 0 0 = Value.slice a n c := by rw [ha, hn, hc]
  rw [hsl] at HOW0 ⊢
  obtain ⟨ws, hws0⟩ : ∃ ws : List ByteArray, ws = [] := ⟨_, rfl⟩
  rw [← hws0] at HOW0
  have HOW := hide HOW0
  have HA := hide (And.intro ha (And.intro hn hc))
  clear ha hn hc hsl HOW0 hws0
  have HB3 := hide (on_below HB2.out hb3)
  have HC3 := hide (HC2.out.on hb3)
  have HL3 : Hid (b6 < V3.heap.size) := hide (HC2.out.on hb3).lt
  have h3s := HB3.out.size
  clear hb3 HC2 HB2 HAL
  go_wp2_with fail
  have B4 : Blk (V3.alloc (.cells #[.slice a n c] 74)) V3.heap.size 74 [.slice a n c] := Blk.made _ _ _
  have hb4 : Below V3.heap.size V3 (V3.alloc (.cells #[.slice a n c] 74)) := (Below.refl _ _).alloc (Nat.le_refl _) _
  have z4 : (V3.alloc (.cells #[.slice a n c] 74)).heap.size = V3.heap.size + 1 := World.size_alloc _ _
  obtain ⟨b4, hb4e⟩ : ∃ b, V3.heap.size = b := ⟨_, rfl⟩
  have G4 : Hid (Blk (V3.alloc (.cells #[.slice a n c] 74)) b4 74 [.slice a n c]) := hide (by rw [← hb4e]; exact B4)
  have HL4 : Hid (V3.heap.size = b4) := hide hb4e
  have BB4 := hide hb4
  rw [hb4e] at z4 ⊢
  rw [← z4]
  clear B4 hb4 hb4e
  revert G4 BB4 z4
  generalize V3.alloc (.cells #[.slice a n c] 74) = V4
  intro z4 G4 BB4
  have B8 : Blk (V4.alloc (.cells #[.int .i64 0] 3)) V4.heap.size 3 [.int .i64 0] := Blk.made _ _ _
  have hb8 : Below V4.heap.size V4 (V4.alloc (.cells #[.int .i64 0] 3)) := (Below.refl _ _).alloc (Nat.le_refl _) _
  have Z8 : Hid (ZCt V3 (V4.alloc (.cells #[.int .i64 0] 3)) b4 b6 V4.heap.size V2.heap.size (.slice a n c) ws 0) := hide ⟨G4.out.on hb8, (HC3.out.on BB4.out).on hb8, B8, ⟨BB4.out.size, by omega, by have := HL3.out; have := HL4.out; omega⟩, (HOW.out.below BB4.out).below hb8, (fun e => by have := (HOW.out.lt _ e).2; have := BB4.out.size; omega), on_below BB4.out hb8⟩
  have D8 := hide (((HD.out.below HB3.out).below BB4.out).below hb8)
  have T8 := hide (((HT.out.below HB3.out).below BB4.out).below hb8)
  have h8l : V4.heap.size < (V4.alloc (.cells #[.int .i64 0] 3)).heap.size := B8.lt
  clear B8 hb8 G4 BB4 z4 HC3
  revert Z8 D8 T8 h8l
  generalize V4.alloc (.cells #[.int .i64 0] 3) = w8
  generalize V4.heap.size = b8
  intro Z8 D8 T8 h8l
  refine (allB_mkP _ _ _).mono ?_
  rintro r w9 ⟨gd0, gh0, rfl, _, _, _, _, hb9⟩
  have Z9 := hide (Z8.out.on hb9)
  have D9 := hide (D8.out.below hb9)
  have T9 := hide (T8.out.below hb9)
  clear hb9 Z8 D8 T8
  have heq : ∀ v : World, (binOp BinOp.eql 56 (.func (.func 53) #[] #[.pointer (some ⟨gd0, 0, none⟩), .pointer (some ⟨gh0, 0, none⟩)]) .nilFunc).run Tryz.prog v = .ok (.bool false) v := fun v => by kernel_rfl
  go_wp2_with fail
  refine (allB_mkP _ _ _).mono ?_
  rintro r w10 ⟨gd, gh, rfl, BD, BH, _, _, hb10⟩
  have Z10 := hide (Z9.out.on hb10)
  have D10 := hide (D9.out.below hb10)
  have T10 := hide (T9.out.below hb10)
  clear hb10 Z9 D9 T9 heq
  have hws : V3.heap.size ≤ w10.heap.size := Z10.out.bel.size
  have h8w : b8 < w10.heap.size := Z10.out.c8.lt
  have hk0 : ∀ k, k = 0 → ZCt V3 w10 b4 b6 b8 V2.heap.size (.slice a n c) ws k := fun k hk => by subst hk; exact Z10.out
  have ZN := hide (hk0 n HA.out.2.1)
  clear hk0
  have HEM := hide (all_badF (some ⟨d, 0, none⟩) gd gh h w10 HNE.out T10.out BD BH)
  clear BD BH
  go_wp2_with fail
  refine (wpIn_wide (n := 6)).1 ?_
  refine rangeE (by decide) (gf := 53) (lb := #[.pointer (some ⟨gd, 0, none⟩), .pointer (some ⟨gh, 0, none⟩)]) rfl (enters_of Tryz.func53 (by kernel_rfl) rfl) HEM.out ?_
  rintro Dk V hD hbV hK2
  have hz := ZN.out.on hbV
  clear hbV
  have HZ := hide hz
  have HDK := hide hK2
  have hDk : w.heap.size ≤ Dk := by omega
  clear hz hK2 hD
  have d8 : V.cell? ⟨b8, 0, none⟩ = some (.int .i64 (n : Int)) := by rw [HZ.out.c8.cell]; rfl
  have d4 : V.cell? ⟨b4, 0, none⟩ = some (.slice a n c) := by rw [HZ.out.c4.cell]; rfl
  have f6 := HZ.out.c6.free 0
  have d6 : V.cell? ⟨b6, 0, none⟩ = some (.bool false) := by rw [HZ.out.c6.cell]; rfl
  go_wp2
  have hbut := But.setCell V b6 0 (.bool true)
  have hdk2 : (V.setCell ⟨b6, 0, none⟩ (.bool true)).heap[Dk]? = some (.deferred (some [])) := (hbut.block Dk (fun e => by
    have h1 := HDK.out
    rw [e] at h1
    have h2 := HZ.out.c6
    unfold Blk at h2
    rw [h1] at h2
    cases h2)).trans HDK.out
  refine ⟨by simp, .inl ⟨_, _, rfl, run_takeDeferred hdk2, ?_⟩⟩
  have hc6 : ((V.setCell ⟨b6, 0, none⟩ (.bool true)).putObj Dk (.deferred none)).cell? ⟨b6, 0, none⟩ = some (.bool true) := by
    rw [(((HZ.out.c6.set 0 (.bool true))).ck (CK.put (.deferred none) hdk2 rfl)).cell]
    rfl
  refine ⟨.bool true, by simp [results, Tryz.f16, go_sem, hc6], rfl, ?_⟩
  exact ((HB3.out.trans (HZ.out.bel.mono HB3.out.size)).trans (hbut.below HL6.out)).trans (belowK_b (w := w) (Nat.le_refl _) _ Dk _ (.deferred none) hDk hdk2 rfl rfl)

end Go.Proofs.YtpocadbhajacaaaGreatDoor
