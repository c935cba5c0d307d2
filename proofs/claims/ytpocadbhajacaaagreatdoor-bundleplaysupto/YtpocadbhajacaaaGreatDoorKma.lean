/-
  The map from names to files in memory.
-/
import Derived.Test.YtpocadbhajacaaaGreatDoorKpb
import Derived.Maps.OwnSet
import Derived.StringKeys
namespace Go.Proofs.YtpocadbhajacaaaGreatDoor
open Go.RowKit
set_option linter.unusedVariables false

theorem klS : WideMaps.KeyLaw Tryz.prog 9 := WideMaps.string_law undS
theorem key_ofS {n : ByteArray} (h : n.size ≤ 128) : keyOf Tryz.prog 9 (.string n) = some (.string n.data.toList) := WideMaps.keyOf_string_mk undS (by unfold maxLen; omega)
theorem nm_size {n : ByteArray} (h : nmB n = true) : n.size ≤ 128 := by
  simp [nmB] at h
  exact h.2
theorem undMp : Tryz.prog.underlying 48 = some (.map 9 31) := by kernel_rfl
/-- A map from names to slices: its entries in their order. -/
structure Mp (w : World) (mb : Nat) (m : List (ByteArray × Value)) : Prop where
  ex : ∃ (es : Array MapEntry) (clock : Nat), w.heap[mb]? = some (.map es clock) ∧ MapKept.Stamped es clock ∧ es.toList.map (fun e => (e.key, e.val)) = m.map (fun x => (Value.string x.1, x.2))
  wf : ∀ x ∈ m, x.1.size ≤ 128
theorem Mp.lt {w : World} {mb : Nat} {m : List (ByteArray × Value)} (h : Mp w mb m) : mb < w.heap.size := by
  obtain ⟨es, clock, hb, _⟩ := h.ex
  exact (Array.getElem?_eq_some_iff.1 hb).1
theorem Mp.same {w w' : World} {mb : Nat} {m : List (ByteArray × Value)} (h : Mp w mb m) (hb : w'.heap[mb]? = w.heap[mb]?) : Mp w' mb m := by
  obtain ⟨es, clock, h1, h2⟩ := h.ex
  exact ⟨⟨es, clock, hb.trans h1, h2⟩, h.wf⟩
theorem Mp.new {w : World} {mb : Nat} (h : w.heap[mb]? = some (.map #[] 0)) : Mp w mb [] := ⟨⟨#[], 0, h, MapKept.stamped_empty 0, rfl⟩, fun x hx => by cases hx⟩
theorem Mp.one {w : World} {mb : Nat} {m : List (ByteArray × Value)} (h : Mp w mb m) : (m.map (·.1)).Nodup := by
  obtain ⟨es, clock, _, h2, he⟩ := h.ex
  have h3 := h2.2.2
  have e : es.toList.map (·.key) = m.map (fun x => Value.string x.1) := by
    have := congrArg (List.map Prod.fst) he
    rw [List.map_map, List.map_map] at this
    exact this
  rw [e] at h3
  have e2 : m.map (fun x => Value.string x.1) = (m.map (·.1)).map Value.string := by simp
  rw [e2] at h3
  exact List.Pairwise.imp (fun h e => h (by rw [e])) (List.pairwise_map.1 h3)
def mfind (m : List (ByteArray × Value)) (n : ByteArray) : Option Value := (m.find? fun x => decide (x.1 = n)).map (·.2)
theorem mfind_at {m : List (ByteArray × Value)} {x : ByteArray × Value} (h1 : (m.map (·.1)).Nodup) (hj : x ∈ m) : mfind m x.1 = some x.2 := by
  unfold mfind
  induction m with
  | nil => cases hj
  | cons y r ih =>
    rw [List.map_cons, List.nodup_cons] at h1
    rcases List.mem_cons.1 hj with rfl | hj
    · simp
    · have hne : ¬ y.1 = x.1 := fun e => h1.1 (by rw [e]; exact List.mem_map_of_mem hj)
      rw [List.find?_cons_of_neg (by simpa using hne)]
      exact ih h1.2 hj
theorem mfind_no {m : List (ByteArray × Value)} {n : ByteArray} (h : n ∉ m.map (·.1)) : mfind m n = none := by
  unfold mfind
  rw [List.find?_eq_none.2 (fun x hx => by
    simp only [decide_eq_true_eq]
    exact fun e => h (by rw [← e]; exact List.mem_map_of_mem hx))]
  rfl
theorem mfind_mem {m : List (ByteArray × Value)} {n : ByteArray} {v : Value} (h : mfind m n = some v) : (n, v) ∈ m := by
  unfold mfind at h
  obtain ⟨x, hx, rfl⟩ := Option.map_eq_some_iff.1 h
  have h1 := List.find?_some hx
  have h2 := List.mem_of_find?_eq_some hx
  simp at h1
  rw [← h1]
  exact h2
theorem ent_keys {m : List (ByteArray × Value)} {es : Array MapEntry} (hw : ∀ x ∈ m, x.1.size ≤ 128) (he : es.toList.map (fun e => (e.key, e.val)) = m.map (fun x => (Value.string x.1, x.2))) : ∀ e ∈ es.toList, ∃ l, keyOf Tryz.prog 9 e.key = some l := by
  intro e hm
  have h1 : (e.key, e.val) ∈ m.map (fun x => (Value.string x.1, x.2)) := by rw [← he]; exact List.mem_map_of_mem hm
  obtain ⟨x, hx, e1⟩ := List.mem_map.1 h1
  rw [Prod.mk.injEq] at e1
  exact ⟨_, by rw [← e1.1]; exact key_ofS (hw x hx)⟩
theorem ent_no {m : List (ByteArray × Value)} {es : Array MapEntry} {n : ByteArray} (he : es.toList.map (fun e => (e.key, e.val)) = m.map (fun x => (Value.string x.1, x.2))) (h2 : ∀ e ∈ es.toList, e.key ≠ .string n) : n ∉ m.map (·.1) := fun hm => by
  obtain ⟨x, hx, rfl⟩ := List.mem_map.1 hm
  have h4 : (Value.string x.1, x.2) ∈ es.toList.map (fun e => (e.key, e.val)) := by rw [he]; exact List.mem_map_of_mem hx
  obtain ⟨e, hm, e1⟩ := List.mem_map.1 h4
  rw [Prod.mk.injEq] at e1
  exact h2 e hm e1.1
theorem ent_at {m : List (ByteArray × Value)} {es : Array MapEntry} {n : ByteArray} {j : Nat} {e0 : MapEntry} (he : es.toList.map (fun e => (e.key, e.val)) = m.map (fun x => (Value.string x.1, x.2))) (h2 : es.toList[j]? = some e0) (h3 : e0.key = .string n) : m[j]? = some (n, e0.val) := by
  have h4 : (es.toList.map (fun e => (e.key, e.val)))[j]? = some (e0.key, e0.val) := by rw [List.getElem?_map, h2]; rfl
  rw [he, List.getElem?_map] at h4
  obtain ⟨x, hx, e1⟩ := Option.map_eq_some_iff.1 h4
  rw [Prod.mk.injEq, h3] at e1
  rw [hx]
  have := e1.1
  injection this with this
  rw [← this, ← e1.2]
theorem lookup_is {w : World} {mb : Nat} {m : List (ByteArray × Value)} (h : Mp w mb m) (n : ByteArray) (hn : n.size ≤ 128) :
    (Instr.lookup 48 (.map (some mb)) (.string n) false).run Tryz.prog w = .ok ((mfind m n).getD (.slice none 0 0)) w ∧
    (Instr.lookup 48 (.map (some mb)) (.string n) true).run Tryz.prog w = .ok (.tuple #[(mfind m n).getD (.slice none 0 0), .bool (mfind m n).isSome]) w := by
  obtain ⟨es, clock, hb, hst, he⟩ := h.ex
  have hkey := key_ofS hn
  rcases klS.find w hkey es.toList (ent_keys h.wf he) with ⟨h1, h2⟩ | ⟨j, e0, h1, h2, h3⟩
  · rw [mfind_no (ent_no he h2)]
    constructor
    · simp [Instr.lookup, run_underlying undMp, MapKept.run_getObj_map hb, klS.check w _ hkey, h1, Result.andThen]
    · simp [Instr.lookup, run_underlying undMp, MapKept.run_getObj_map hb, klS.check w _ hkey, h1, Result.andThen]
  · have hm := ent_at he h2 h3
    have e2 := mfind_at h.one (List.mem_of_getElem? hm)
    simp only at e2
    rw [e2]
    constructor
    · simp [Instr.lookup, run_underlying undMp, MapKept.run_getObj_map hb, klS.check w _ hkey, h1, Result.andThen]
    · simp [Instr.lookup, run_underlying undMp, MapKept.run_getObj_map hb, klS.check w _ hkey, h1, Result.andThen]
/-- A world with another map in that block. -/
def setMap (w : World) (mb : Nat) (es : Array MapEntry) (clock : Nat) : World := { w with heap := w.heap.setIfInBounds mb (.map es clock) }
theorem But.of_map (w : World) (mb : Nat) (es : Array MapEntry) (clock : Nat) : But mb w (setMap w mb es clock) :=
  ⟨rfl, rfl, rfl, by simp [setMap], fun k hm => by simp [setMap, Ne.symm hm]⟩
theorem setMap_at {w : World} {mb : Nat} {o : Obj} (h : w.heap[mb]? = some o) (es : Array MapEntry) (clock : Nat) : (setMap w mb es clock).heap[mb]? = some (.map es clock) := by
  have hlt : mb < w.heap.size := (Array.getElem?_eq_some_iff.1 h).1
  simp [setMap, hlt]
/-- A name's value put: at its place, or behind the others. -/
def mput (m : List (ByteArray × Value)) (n : ByteArray) (v : Value) : List (ByteArray × Value) := if m.any (fun x => decide (x.1 = n)) = true then m.map (fun x => if x.1 = n then (n, v) else x) else m ++ [(n, v)]
theorem any_in {m : List (ByteArray × Value)} {n : ByteArray} : m.any (fun x => decide (x.1 = n)) = true ↔ n ∈ m.map (·.1) := by
  simp only [List.any_eq_true, decide_eq_true_eq, List.mem_map]
def mdel (m : List (ByteArray × Value)) (n : ByteArray) : List (ByteArray × Value) := m.filter fun x => decide (x.1 ≠ n)
theorem map_set_at {m : List (ByteArray × Value)} (h1 : (m.map (·.1)).Nodup) {j : Nat} {x : ByteArray × Value} (hj : m[j]? = some x) (v : Value) : m.set j (x.1, v) = m.map (fun y => if y.1 = x.1 then (x.1, v) else y) := by
  induction m generalizing j with
  | nil => simp at hj
  | cons y r ih =>
    rw [List.map_cons, List.nodup_cons] at h1
    cases j with
    | zero =>
      simp at hj
      subst hj
      rw [List.set_cons_zero, List.map_cons, if_pos rfl]
      congr 1
      have : ∀ z ∈ r, (if z.1 = y.1 then (y.1, v) else z) = z := fun z hz => by
        rw [if_neg (fun e => h1.1 (by rw [← e]; exact List.mem_map_of_mem hz))]
      rw [List.map_congr_left this, List.map_id']
    | succ j =>
      simp at hj
      have hx : x ∈ r := List.mem_of_getElem? hj
      have hne : ¬ y.1 = x.1 := fun e => h1.1 (by rw [e]; exact List.mem_map_of_mem hx)
      rw [List.set_cons_succ, List.map_cons, if_neg hne, ih h1.2 hj]
theorem erase_at {m : List (ByteArray × Value)} (h1 : (m.map (·.1)).Nodup) {j : Nat} {x : ByteArray × Value} (hj : m[j]? = some x) : m.eraseIdx j = mdel m x.1 := by
  unfold mdel
  induction m generalizing j with
  | nil => simp at hj
  | cons y r ih =>
    rw [List.map_cons, List.nodup_cons] at h1
    cases j with
    | zero =>
      simp at hj
      subst hj
      rw [List.eraseIdx_cons_zero, List.filter_cons_of_neg (by simp)]
      symm
      apply List.filter_eq_self.2
      intro z hz
      simp only [decide_eq_true_eq]
      exact fun e => h1.1 (by rw [← e]; exact List.mem_map_of_mem hz)
    | succ j =>
      simp at hj
      have hx : x ∈ r := List.mem_of_getElem? hj
      have hne : ¬ y.1 = x.1 := fun e => h1.1 (by rw [e]; exact List.mem_map_of_mem hx)
      rw [List.eraseIdx_cons_succ, List.filter_cons_of_pos (by simpa using hne), ih h1.2 hj]
theorem mput_wf {m : List (ByteArray × Value)} {n : ByteArray} {v : Value} (h : ∀ x ∈ m, x.1.size ≤ 128) (hn : n.size ≤ 128) : ∀ x ∈ mput m n v, x.1.size ≤ 128 := by
  intro x hx
  unfold mput at hx
  split at hx
  · obtain ⟨y, hy, rfl⟩ := List.mem_map.1 hx
    split
    · exact hn
    · exact h y hy
  · rcases List.mem_append.1 hx with hx | hx
    · exact h x hx
    · simp at hx
      rw [hx]
      exact hn
theorem update_is {w : World} {mb : Nat} {m : List (ByteArray × Value)} (h : Mp w mb m) (n : ByteArray) (v : Value) (hn : n.size ≤ 128) :
    ∃ w', (Instr.mapUpdate 48 (.map (some mb)) (.string n) v).run Tryz.prog w = .ok () w' ∧ Mp w' mb (mput m n v) ∧ But mb w w' := by
  obtain ⟨es, clock, hb, hst, he⟩ := h.ex
  have hkey := key_ofS hn
  rcases klS.find w hkey es.toList (ent_keys h.wf he) with ⟨h1, h2⟩ | ⟨j, e0, h1, h2, h3⟩
  · have hno := ent_no he h2
    refine ⟨setMap w mb (es.push ⟨.string n, v, clock⟩) (clock + 1), ?_, ⟨⟨_, _, setMap_at hb _ _, MapKept.stamped_push hst h2, ?_⟩, mput_wf h.wf hn⟩, But.of_map _ _ _ _⟩
    · simp [Instr.mapUpdate, run_underlying undMp, MapKept.run_getObj_map hb, klS.check w _ hkey, h1, MapKept.run_setObj_map _ hb, Result.andThen, setMap]
    · unfold mput
      rw [if_neg (fun h => hno (any_in.1 h)), Array.toList_push, List.map_append, List.map_append, he]
      rfl
  · have hx := ent_at he h2 h3
    have hin : n ∈ m.map (·.1) := List.mem_map.2 ⟨_, List.mem_of_getElem? hx, rfl⟩
    have hej : es[j]? = some e0 := by rw [← Array.getElem?_toList]; exact h2
    refine ⟨setMap w mb (es.modify j fun e => { e with key := .string n, val := v }) clock, ?_, ⟨⟨_, _, setMap_at hb _ _, ?_, ?_⟩, mput_wf h.wf hn⟩, But.of_map _ _ _ _⟩
    · simp [Instr.mapUpdate, run_underlying undMp, MapKept.run_getObj_map hb, klS.check w _ hkey, h1, hej, h3, klS.stays w hkey, MapKept.run_setObj_map _ hb, Result.andThen, setMap]
    · refine MapKept.stamped_modify hst _ _ (fun _ _ => rfl) (fun e _ he' => ?_)
      rw [hej] at he'
      rw [← Option.some.inj he']
      exact h3.symm
    · unfold mput
      rw [if_pos (any_in.2 hin)]
      have := map_set_at h.one hx v
      simp only at this
      rw [← this, List.map_set, ← he, Array.toList_modify]
      apply List.ext_getElem?
      intro q
      rw [List.getElem?_map, List.getElem?_modify, List.getElem?_set, List.getElem?_map]
      by_cases hq : j = q
      · subst hq
        have hlt : j < es.size := (Array.getElem?_eq_some_iff.1 hej).1
        simp [hlt]
      · simp [hq]
set_option maxRecDepth 100000 in
theorem delete_is {w : World} {mb : Nat} {m : List (ByteArray × Value)} (h : Mp w mb m) (n : ByteArray) (hn : n.size ≤ 128) (ty : TypeId) :
    ∃ w', (Builtin.delete_ #[48, 9] ty #[.map (some mb), .string n]).run Tryz.prog w = .ok (.tuple #[]) w' ∧ Mp w' mb (mdel m n) ∧ But mb w w' := by
  obtain ⟨es, clock, hb, hst, he⟩ := h.ex
  have hkey := key_ofS hn
  have hwf : ∀ x ∈ mdel m n, x.1.size ≤ 128 := fun x hx => h.wf x (List.mem_filter.1 hx).1
  rcases klS.find w hkey es.toList (ent_keys h.wf he) with ⟨h1, h2⟩ | ⟨j, e0, h1, h2, h3⟩
  · have hno := ent_no he h2
    refine ⟨setMap w mb es clock, ?_, ⟨⟨es, clock, setMap_at hb _ _, hst, ?_⟩, hwf⟩, But.of_map _ _ _ _⟩
    · simp [Builtin.delete_, run_underlying undMp, MapKept.run_getObj_map hb, klS.check w _ hkey, h1, MapKept.run_setObj_map _ hb, Result.andThen, setMap]
    · rw [he]
      congr 1
      symm
      apply List.filter_eq_self.2
      intro z hz
      simp only [decide_eq_true_eq]
      exact fun e => hno (by rw [← e]; exact List.mem_map_of_mem hz)
  · have hx := ent_at he h2 h3
    have hjs : j < es.size := by
      have := (List.getElem?_eq_some_iff.1 h2).1
      simpa using this
    have hsub : (es.eraseIdxIfInBounds j).toList = es.toList.eraseIdx j := by
      unfold Array.eraseIdxIfInBounds
      rw [dif_pos hjs]
      simp
    refine ⟨setMap w mb (es.eraseIdxIfInBounds j) clock, ?_, ⟨⟨_, clock, setMap_at hb _ _, MapKept.stamped_erase hst j, ?_⟩, hwf⟩, But.of_map _ _ _ _⟩
    · simp [Builtin.delete_, run_underlying undMp, MapKept.run_getObj_map hb, klS.check w _ hkey, h1, MapKept.run_setObj_map _ hb, Result.andThen, setMap]
    · have em : ∀ {α β : Type} (f : α → β) (l : List α) (k : Nat), (l.eraseIdx k).map f = (l.map f).eraseIdx k := fun f l k => by
        induction l generalizing k with
        | nil => rfl
        | cons y r ih => cases k <;> simp [ih]
      rw [hsub, em, he, ← em]
      have := erase_at h.one hx
      simp only at this
      rw [this]
section
variable {dst : Option Tmp} {ty : TypeId} {pos : String} {aft : Array Edge} {gd : Option (Nat × Bool)} {a : Act} {w : World} {K : Act → World → Prop} {Q : Exit → Act → World → Prop}
set_option maxRecDepth 100000 in
theorem wp_mapUp {x y z : Operand} {mb : Nat} {m : List (ByteArray × Value)} {n : ByteArray} {v : Value} (hx : a.eval x = .map (some mb)) (hy : a.eval y = .string n) (hz : a.eval z = v) (hm : Mp w mb m) (hn : n.size ≤ 128) (h : ∀ w', Mp w' mb (mput m n v) → But mb w w' → K (a.put dst undef) w') :
    Oper.wp Tryz.prog ⟨dst, .mapUpdate 48 x y z, ty, pos, aft, gd⟩ a w K Q := by
  obtain ⟨w', h1, h2, h3⟩ := update_is hm n v hn
  unfold Oper.wp
  simp [execOp, hx, hy, hz, h1, Result.andThen]
  exact h w' h2 h3
set_option maxRecDepth 100000 in
theorem wp_mapDel {x y : Operand} {mb : Nat} {m : List (ByteArray × Value)} {n : ByteArray} (hx : a.eval x = .map (some mb)) (hy : a.eval y = .string n) (hm : Mp w mb m) (hn : n.size ≤ 128) (h : ∀ w', Mp w' mb (mdel m n) → But mb w w' → K (a.put dst (.tuple #[])) w') :
    Oper.wp Tryz.prog ⟨dst, .call { callee := .builtin .delete, args := #[x, y], argTypes := #[48, 9] }, ty, pos, aft, gd⟩ a w K Q := by
  obtain ⟨w', h1, h2, h3⟩ := delete_is hm n hn ty
  unfold Oper.wp
  simp [execOp, resolve, invoke, builtin, hx, hy, h1, Result.andThen]
  exact h w' h2 h3
end

end Go.Proofs.YtpocadbhajacaaaGreatDoor
