/-
  Laws on slices of bytes, as the walks meet them: made, copied, appended to, turned into texts.
-/
import Derived.Test.YtabpfbankinojaaMc
namespace Go.Proofs.Ytabpfbankinojaa
open Go.RowKit
set_option linter.unusedVariables false

theorem infoB : (Try.prog.info? 5).map (fun i => (i.zero, i.size, i.bytes)) = some (some (.int .u8 0), 1, 1) := by kernel_rfl
theorem infoB1 : (Try.prog.info? 5).map (·.size) = some 1 := by kernel_rfl
theorem undB : Try.prog.underlying 5 = some (.int .u8) := by kernel_rfl
theorem undBs : Try.prog.underlying 72 = some (.slice 5) := by kernel_rfl
theorem undS : Try.prog.underlying 9 = some .string := by kernel_rfl

theorem made_zer (n : Nat) : madeCells #[Value.int .u8 0] n = (u8s (zer n)).toArray := by
  apply Array.toList_inj.1
  rw [toList_madeCells_one]
  simp [u8s, zer]

/-- Bytes, written over by others from a place on. -/
def splB (xs ys : List Int) (o : Nat) : List Int := xs.take o ++ ys ++ xs.drop (o + ys.length)
theorem spl_u8 (xs ys : List Int) (o : Nat) : spl (u8s xs) (u8s ys) o = u8s (splB xs ys o) := by
  simp [spl, splB, u8s]

section
variable {dst : Option Tmp} {ty : TypeId} {pos : String} {aft : Array Edge} {gd : Option (Nat × Bool)} {ops : Array Oper} {rest : List Oper} {a : Act} {w : World} {Q : Exit → Act → World → Prop}

/-- make of a slice of bytes. -/
theorem step_make {l c : Operand} {L C : Int} (n : Nat) (hw : Region.wanted ⟨dst, .makeSlice 72 l c, ty, pos, aft, gd⟩ (yielded ops a.tmps) = true)
    (hl : a.eval l = .int .i64 L) (hc : a.eval c = .int .i64 C) (hL : L = (n : Int)) (hC : C = (n : Int)) (hn : n ≤ 281474976710656)
    (h : ∀ w1 g, Blk w1 g 5 (u8s (zer n)) → w.heap.size ≤ g → Below w.heap.size w w1 → wpList Try.prog ops Q rest (a.put dst (.slice (some ⟨g, 0, none⟩) n n)) w1) :
    wpList Try.prog ops Q (⟨dst, .makeSlice 72 l c, ty, pos, aft, gd⟩ :: rest) a w := by
  obtain ⟨i0, hi, hz0, hz1, hz2⟩ := info_parts infoB
  subst hL hC
  refine step_run hw (.slice (some ⟨w.heap.size, 0, none⟩) n n) (w.alloc (.cells (u8s (zer n)).toArray 5)) ?_ (h _ _ (Blk.made _ _ _) (Nat.le_refl _) ((Below.refl _ _).alloc (Nat.le_refl _) _))
  have hr := run_make_row (P := Try.prog) 72 5 i0 (.int .u8 0) undBs hi hz0 hz1 rfl .i64 .i64 n (by rw [hz2]; omega) (by omega) w
  rw [made_zer] at hr
  simp [execOp, hl, hc, hr, Result.andThen]

theorem wp_copyB {o : Oper} {K : Act → World → Prop} {d s : Operand} (ho : o.op = .call { callee := .builtin .copy, args := #[d, s], argTypes := #[72, 72] })
    {dp sa : Option Addr} {dLen dCap m c : Nat} {ys : List Int} (hd : a.eval d = .slice dp dLen dCap) (hs : a.eval s = .slice sa m c) (hy : Sl w sa m c ys)
    (g off k : Nat) (hk : k = min m dLen) {t : TypeId} {cs : List Value} (hg : Blk w g t cs) (hdp : 0 < k → dp = some ⟨g, off, none⟩) (hfit : off + k ≤ cs.length)
    (h : ∀ w1, Blk w1 g t (spl cs (u8s (ys.take k)) off) → But g w w1 → K (a.put o.dst (goInt k)) w1) : Oper.wp Try.prog o a w K Q := by
  have hkm : k ≤ m := by omega
  have hk' : k = Nat.min m dLen := hk
  have hlen : (ys.take k).length = k := by
    have := hy.hlen
    rw [List.length_take]; omega
  by_cases h0 : k = 0
  · have hrun := run_copy_none (P := Try.prog) w 72 72 o.type 5 dp sa dLen dCap m c undBs infoB1 (by rw [← hk']; exact h0)
    unfold Oper.wp
    simp [execOp, ho, resolve, invoke, builtin, hd, hs, hrun, Result.andThen]
    have hx : spl cs (u8s (ys.take k)) off = cs := by rw [h0]; simp [spl, u8s]
    have h' := h w (by rw [hx]; exact hg) (But.refl _ _)
    rw [h0] at h'
    exact h'
  · have hp := hdp (by omega)
    subst hp
    obtain ⟨b, o', e, hc⟩ := hy.hcell (by omega)
    subst e
    have hrun := run_copy_row (P := Try.prog) w 72 72 o.type 5 g off dLen dCap ⟨b, o', none⟩ m c cs.toArray t (u8s (ys.take k)) undBs infoB1 hg (by rw [u8s_length, hlen]; exact hk')
      (by
        intro j v hj
        have hjl : j < k := by
          have := (List.getElem?_eq_some_iff.1 hj).1
          rwa [u8s_length, hlen] at this
        have hjm : j < m := by omega
        rw [Addr.add_lit, hc j hjm]
        have e2 : (u8s (ys.take k))[j]? = some (.int .u8 (ys.getD j 0)) := by
          rw [u8s_get _ _ (by omega)]
          simp [List.getD, hjl]
        rw [e2] at hj
        exact hj)
      (by rw [u8s_length, hlen]; simpa using hfit) (One.u8 _)
    have e4 : (u8s (ys.take k)).length = k := by rw [u8s_length, hlen]
    have e3 : (cs.toArray.toList.take off ++ u8s (ys.take k) ++ cs.toArray.toList.drop (off + (u8s (ys.take k)).length)).toArray = (spl cs (u8s (ys.take k)) off).toArray := by simp [spl]
    rw [e3, e4] at hrun
    unfold Oper.wp
    simp [execOp, ho, resolve, invoke, builtin, hd, hs, hrun, Result.andThen]
    exact h _ (hg.setRow _) (But.setRow _ _ _)

/-- copy, one step of a list of operations. -/
theorem step_copy {d s : Operand} {dp sa : Option Addr} {dLen dCap m c : Nat} {ys : List Int}
    (hw : Region.wanted ⟨dst, .call { callee := .builtin .copy, args := #[d, s], argTypes := #[72, 72] }, ty, pos, aft, gd⟩ (yielded ops a.tmps) = true)
    (hd : a.eval d = .slice dp dLen dCap) (hs : a.eval s = .slice sa m c) (hy : Sl w sa m c ys)
    (g off k : Nat) (hk : k = min m dLen) {t : TypeId} {cs : List Value} (hg : Blk w g t cs) (hdp : 0 < k → dp = some ⟨g, off, none⟩) (hfit : off + k ≤ cs.length)
    (h : ∀ w1, Blk w1 g t (spl cs (u8s (ys.take k)) off) → But g w w1 → wpList Try.prog ops Q rest (a.put dst (goInt k)) w1) :
    wpList Try.prog ops Q (⟨dst, .call { callee := .builtin .copy, args := #[d, s], argTypes := #[72, 72] }, ty, pos, aft, gd⟩ :: rest) a w :=
  BigFrame.wpList_want hw fun K hK => wp_copyB rfl hd hs hy g off k hk hg hdp hfit fun w1 h1 h2 => hK _ _ (h w1 h1 h2)

/-- copy, one step of a region that draws its order. -/
theorem rstep_copy {K : Act → World → Prop} {E : Prop} {o : Oper} (hgd : o.guard = none) {d s : Operand} (ho : o.op = .call { callee := .builtin .copy, args := #[d, s], argTypes := #[72, 72] })
    {dp sa : Option Addr} {dLen dCap m c : Nat} {ys : List Int} (hd : a.eval d = .slice dp dLen dCap) (hs : a.eval s = .slice sa m c) (hy : Sl w sa m c ys)
    (g off k : Nat) (hk : k = min m dLen) {t : TypeId} {cs : List Value} (hg : Blk w g t cs) (hdp : 0 < k → dp = some ⟨g, off, none⟩) (hfit : off + k ≤ cs.length)
    (h : ∀ w1, Blk w1 g t (spl cs (u8s (ys.take k)) off) → But g w w1 → K (a.put o.dst (goInt k)) w1) :
    if Region.wanted o (yielded ops a.tmps) = true then Oper.wp Try.prog o a w K Q else E := by
  have hw : Region.wanted o (yielded ops a.tmps) = true := by simp [Region.wanted, hgd]
  rw [if_pos hw]
  exact wp_copyB ho hd hs hy g off k hk hg hdp hfit h
end

/-- A slice of the call's own that holds the bytes xs. -/
def Own (w : World) (B : Nat) (v : Value) (xs : List Int) : Prop := w.ownsRow B 5 1 v xs.length (u8s xs)

theorem Own.sl {w : World} {B : Nat} {v : Value} {xs : List Int} (h : Own w B v xs) (hb : isB xs) (hl : xs.length ≤ 140737488355328) (hn : v ≠ .slice none 0 0) :
    ∃ g cap, v = .slice (some ⟨g, 0, none⟩) xs.length cap ∧ B ≤ g ∧ Sl w (some ⟨g, 0, none⟩) xs.length cap xs := by
  obtain ⟨_, h2⟩ := h
  rcases h2 with ⟨e, _⟩ | ⟨g, cap, cur, rfl, hB, hh, h3, h4, h5, h6⟩
  · exact absurd e hn
  refine ⟨g, cap, rfl, hB, rfl, h3, by simpa [maxLen] using h4, hl, hb, (fun e => by cases e), fun _ => ⟨g, 0, rfl, fun i hi => ?_⟩⟩
  rw [Nat.zero_add, cell_of_row w g i cur 5 (0, 0) hh]
  have e : (cur.toList.take (xs.length * 1))[i]? = some (.int .u8 (xs.getD i 0)) := by rw [h6]; exact u8s_get xs i hi
  rw [List.getElem?_take, if_pos (by omega)] at e
  simpa using e
theorem Own.nil (w : World) (B : Nat) : Own w B (.slice none 0 0) [] := World.ownsRow_nil _ _ _ _
theorem Own.alloc {w : World} {B : Nat} {v : Value} {xs : List Int} (h : Own w B v xs) (o : Obj) : Own (w.alloc o) B v xs := World.ownsRow.alloc h o
theorem Own.sl' {w : World} {B : Nat} {v : Value} {xs : List Int} (h : Own w B v xs) (hb : isB xs) (hl : xs.length ≤ 140737488355328) : ∃ a cap, v = .slice a xs.length cap ∧ Sl w a xs.length cap xs := by
  by_cases hn : v = .slice none 0 0
  · subst hn
    obtain ⟨h1, h2⟩ := h
    rcases h2 with ⟨_, e⟩ | ⟨g, cap, cur, e, _⟩
    · refine ⟨none, 0, by rw [e], by omega, by omega, by omega, hl, hb, fun _ => ⟨e, rfl⟩, fun h0 => absurd h0 (by omega)⟩
    · cases e
  · obtain ⟨g, cap, e, _, hs⟩ := h.sl hb hl hn
    exact ⟨_, cap, e, hs⟩
theorem Own.below {w w' : World} {B : Nat} {v : Value} {xs : List Int} (h : Own w B v xs) (hb : Below w.heap.size w w') : Own w' B v xs := by
  obtain ⟨h1, h2⟩ := h
  refine ⟨h1, ?_⟩
  rcases h2 with h2 | ⟨g, cap, cur, e, hg, hh, r⟩
  · exact .inl h2
  · refine .inr ⟨g, cap, cur, e, hg, ?_, r⟩
    rw [hb.block g (Array.getElem?_eq_some_iff.1 hh).1]
    exact hh

theorem Below.of_grown {w w' : World} {B : Nat} {row : Option Nat} (hg : w.grownBy w' row) (hB : B ≤ w.heap.size) (hr : ∀ k, row = some k → B ≤ k) : Below B w w' :=
  (Below.refl B w).grown hg hB hr
theorem Own.lt {w : World} {B : Nat} {v : Value} {xs : List Int} (h : Own w B v xs) : ∀ k, v.ownBlock = some k → B ≤ k := fun k hk => (World.ownsRow.lt h k hk).1

theorem wp_appendB {o : Oper} {K : Act → World → Prop} {s x : Operand} {a : Act} {w : World} {Q : Exit → Act → World → Prop}
    {B : Nat} {v : Value} {xs : List Int} {sa : Option Addr} {m c : Nat} {ys : List Int}
    (ho : o.op = .call { callee := .builtin .append, args := #[s, x], argTypes := #[72, 72] }) (hs : a.eval s = v) (hx : a.eval x = .slice sa m c) (hown : Own w B v xs) (hy : Sl w sa m c ys)
    (hlen : xs.length + m ≤ 140737488355328) (hB : B ≤ w.heap.size)
    (h : ∀ v' w', Own w' B v' (xs ++ ys) → w.grownBy w' v.ownBlock → (v' = .slice none 0 0 → v = .slice none 0 0 ∧ m = 0) → K (a.put o.dst v') w') : Oper.wp Try.prog o a w K Q := by
  obtain ⟨i0, hi, hz0, hz1, hz2⟩ := info_parts infoB
  cases sa with
  | none =>
    obtain ⟨rfl, rfl⟩ := hy.hnil rfl
    obtain rfl : ys = [] := List.eq_nil_of_length_eq_zero hy.hlen
    have hrun := run_append_owned_none (P := Try.prog) (w := w) B 72 o.type 5 i0 1 undBs hi v _ _ hown
    unfold Oper.wp
    simp [execOp, ho, resolve, invoke, builtin, hs, hx, hrun, Result.andThen]
    exact (h v w (by simpa using hown) (World.grownBy.refl _ _) (fun e => ⟨e, rfl⟩))
  | some ad =>
    refine wp_append_own _ s x 72 ho B 5 i0 (.int .u8 0) 1 1 undBs hi hz0 hz1 hz2 rfl (by decide) v _ _ hs hown ad m c (u8s ys) hx (by simp [u8s_length, hy.hlen]) ?_ (One.u8 ys) ?_ ?_ hB ?_
    · intro j u hu
      have hj : j < m := by
        have := (List.getElem?_eq_some_iff.1 hu).1
        simpa [u8s_length, hy.hlen] using this
      obtain ⟨b, off, e, hc⟩ := hy.hcell (by omega)
      obtain rfl := Option.some.inj e
      rw [Addr.add_lit, hc j hj]
      rw [u8s_get ys j (by rw [hy.hlen]; exact hj)] at hu
      exact hu
    · unfold maxLen; omega
    · omega
    · intro v' w' h1 h2 h3
      have hm : (xs ++ ys).length = xs.length + m := by rw [List.length_append, hy.hlen]
      exact (h v' w' (by unfold Own; rw [hm, u8s_app]; exact h1) h2 h3.1)

theorem step_append {dst : Option Tmp} {s x : Operand} {ty : TypeId} {pos : String} {aft : Array Edge} {gd : Option (Nat × Bool)} {ops : Array Oper} {rest : List Oper} {a : Act} {w : World} {Q : Exit → Act → World → Prop}
    {B : Nat} {v : Value} {xs : List Int} {sa : Option Addr} {m c : Nat} {ys : List Int}
    (hw : Region.wanted ⟨dst, .call { callee := .builtin .append, args := #[s, x], argTypes := #[72, 72] }, ty, pos, aft, gd⟩ (yielded ops a.tmps) = true)
    (hs : a.eval s = v) (hx : a.eval x = .slice sa m c) (hown : Own w B v xs) (hy : Sl w sa m c ys)
    (hlen : xs.length + m ≤ 140737488355328) (hB : B ≤ w.heap.size)
    (h : ∀ v' w', Own w' B v' (xs ++ ys) → w.grownBy w' v.ownBlock → (v' = .slice none 0 0 → v = .slice none 0 0 ∧ m = 0) → wpList Try.prog ops Q rest (a.put dst v') w') :
    wpList Try.prog ops Q (⟨dst, .call { callee := .builtin .append, args := #[s, x], argTypes := #[72, 72] }, ty, pos, aft, gd⟩ :: rest) a w :=
  BigFrame.wpList_want hw fun K hK => wp_appendB rfl hs hx hown hy hlen hB fun v' w' h1 h2 h3 => hK _ _ (h v' w' h1 h2 h3)

theorem rstep_append {K : Act → World → Prop} {E : Prop} {ops : Array Oper} {o : Oper} (hgd : o.guard = none) {s x : Operand} {a : Act} {w : World} {Q : Exit → Act → World → Prop}
    {B : Nat} {v : Value} {xs : List Int} {sa : Option Addr} {m c : Nat} {ys : List Int}
    (ho : o.op = .call { callee := .builtin .append, args := #[s, x], argTypes := #[72, 72] }) (hs : a.eval s = v) (hx : a.eval x = .slice sa m c) (hown : Own w B v xs) (hy : Sl w sa m c ys)
    (hlen : xs.length + m ≤ 140737488355328) (hB : B ≤ w.heap.size)
    (h : ∀ v' w', Own w' B v' (xs ++ ys) → w.grownBy w' v.ownBlock → (v' = .slice none 0 0 → v = .slice none 0 0 ∧ m = 0) → K (a.put o.dst v') w') :
    if Region.wanted o (yielded ops a.tmps) = true then Oper.wp Try.prog o a w K Q else E := by
  have hw : Region.wanted o (yielded ops a.tmps) = true := by simp [Region.wanted, hgd]
  rw [if_pos hw]
  exact wp_appendB ho hs hx hown hy hlen hB h

/-- The bytes as a string. -/
def str (xs : List Int) : ByteArray := strOfNums xs

theorem toStr {w : World} {a : Option Addr} {len cap : Nat} {xs : List Int} (h : Sl w a len cap xs) : (convert 72 9 (.slice a len cap)).run Try.prog w = .ok (.string (str xs)) w := by
  cases a with
  | none =>
    have e := h.hnil rfl
    obtain rfl : xs = [] := List.eq_nil_of_length_eq_zero (by rw [h.hlen]; exact e.1)
    exact run_convert_bytes_nil w 72 5 undBs undB len cap 9 undS
  | some x =>
    by_cases h0 : 0 < len
    · obtain ⟨b, off, e, hc⟩ := h.hcell h0
      obtain rfl := Option.some.inj e
      exact run_convert_bytes_arg w 72 5 undBs undB b off len cap xs h.hlen hc 9 undS
    · obtain rfl : len = 0 := by omega
      obtain rfl : xs = [] := List.eq_nil_of_length_eq_zero h.hlen
      rw [run_convert_bytes_string w 72 9 5 _ 0 cap undBs undB undS, run_bytesToString w x 0 cap [] (by simp [loadCells, loadCellsFrom])]
      rfl

section
variable {dst : Option Tmp} {ty : TypeId} {pos : String} {aft : Array Edge} {gd : Option (Nat × Bool)} {ops : Array Oper} {rest : List Oper} {a : Act} {w : World} {Q : Exit → Act → World → Prop}
theorem step_toStr {x : Operand} {sa : Option Addr} {m c : Nat} {ys : List Int} (hw : Region.wanted ⟨dst, .convert 72 9 x, ty, pos, aft, gd⟩ (yielded ops a.tmps) = true)
    (hx : a.eval x = .slice sa m c) (hy : Sl w sa m c ys) (h : wpList Try.prog ops Q rest (a.put dst (.string (str ys))) w) :
    wpList Try.prog ops Q (⟨dst, .convert 72 9 x, ty, pos, aft, gd⟩ :: rest) a w :=
  step_run hw (.string (str ys)) w (by simp [execOp, hx, toStr hy, Result.andThen]) h
end

theorem str_append (xs ys : List Int) : str xs ++ str ys = str (xs ++ ys) := by
  apply ByteArray.ext
  simp [str, strOfNums]
theorem str_size (xs : List Int) : (str xs).size = xs.length := strOfNums_size xs

end Go.Proofs.Ytabpfbankinojaa
