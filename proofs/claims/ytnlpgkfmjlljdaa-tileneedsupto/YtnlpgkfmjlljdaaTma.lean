/-
  The map from places to widths that the program's Need keeps.
-/
import Derived.Test.YtnlpgkfmjlljdaaTp
import Derived.WideKeyArr
namespace Go.Proofs.Ytnlpgkfmjlljdaa
open Go.RowKit
set_option linter.unusedVariables false

/-- A place as a map's key. -/
def pkey (k : Int × Int) : Value := .agg (c2 k.1 k.2).toArray
theorem klP : WideMaps.KeyLaw Try.prog 61 := deep_law (m := 3) (by omega) (by kernel_rfl) (by kernel_rfl) (by kernel_rfl)
theorem ktP : Try.prog.keyType 61 = true := by kernel_rfl
theorem ckP : Try.prog.cellsOf 61 = 2 := by kernel_rfl
theorem ciP : Try.prog.cellsOf 3 = 1 := by kernel_rfl
theorem tsP : ∃ k, Try.prog.types.size = k + 1 := Nat.exists_eq_add_one_of_ne_zero (by
  have h : 0 < Try.prog.types.size := by decide +kernel
  omega)
theorem pkey_inj {k k' : Int × Int} (h : pkey k = pkey k') : k = k' := by
  obtain ⟨a, b⟩ := k
  obtain ⟨c, d⟩ := k'
  unfold pkey c2 at h
  simp at h
  rw [h.1, h.2]
/-- Numbers that the machine has. -/
def wfK (k : Int × Int) : Prop := (Lit.int .i64 k.1).wf = true ∧ (Lit.int .i64 k.2).wf = true
theorem key_ofP {k : Int × Int} (hk : wfK k) : ∃ l, keyOf Try.prog 61 (pkey k) = some l := by
  obtain ⟨hl, hi⟩ := hk
  obtain ⟨a, b⟩ := k
  have hu : Try.prog.underlying 3 = some (.int .i64) := by kernel_rfl
  have hlit : ∀ z : Int, (Lit.int .i64 z).wf = true → Try.prog.keyLits Try.prog.types.size 3 [.int .i64 z] = some [.int .i64 z] := by
    intro z hz
    obtain ⟨q, hq⟩ := tsP
    rw [hq]
    unfold Program.keyLits
    simp [hu, hz]
  unfold keyOf pkey c2
  simp only [Try.underlying61, ktP, Value.formed, Bool.true_and, Value.cells]
  rw [if_pos (by rw [ckP]; rfl)]
  unfold Program.keyLits
  simp only [Try.underlying61]
  rw [if_pos ⟨by rw [ckP]; rfl, by simp⟩]
  simp only [List.mapM_cons, List.mapM_nil, ciP, List.drop_zero, List.drop_succ_cons, List.take_succ_cons, List.take_zero, hlit a hl, hlit b hi]
  exact ⟨_, rfl⟩
/-- The map's entries in the order in which they came. -/
structure Mp (w : World) (mb : Nat) (m : List ((Int × Int) × Int)) : Prop where
  ex : ∃ (es : Array MapEntry) (clock : Nat), w.heap[mb]? = some (.map es clock) ∧ es.toList.map (fun e => (e.key, e.val)) = m.map (fun x => (pkey x.1, Value.int .i64 x.2))
  one : (m.map (·.1)).Nodup
  wf : ∀ x ∈ m, wfK x.1
/-- What is told of a key. -/
def mget (m : List ((Int × Int) × Int)) (k : Int × Int) : Int := ((m.find? fun x => decide (x.1 = k)).map (·.2)).getD 0
/-- A key's value put. -/
def mput (m : List ((Int × Int) × Int)) (k : Int × Int) (v : Int) : List ((Int × Int) × Int) := if k ∈ m.map (·.1) then m.map (fun x => if x.1 = k then (k, v) else x) else m ++ [(k, v)]
theorem mget_at {m : List ((Int × Int) × Int)} {j : Nat} {x : (Int × Int) × Int} (h1 : (m.map (·.1)).Nodup) (hj : m[j]? = some x) : mget m x.1 = x.2 := by
  unfold mget
  induction m generalizing j with
  | nil => simp at hj
  | cons y r ih =>
    rw [List.map_cons, List.nodup_cons] at h1
    cases j with
    | zero =>
      simp at hj
      subst hj
      simp
    | succ j =>
      simp at hj
      have hx : x ∈ r := List.mem_of_getElem? hj
      have hne : ¬ y.1 = x.1 := fun e => h1.1 (by rw [e]; exact List.mem_map_of_mem hx)
      rw [List.find?_cons_of_neg (by simpa using hne)]
      exact ih h1.2 hj
theorem mget_no {m : List ((Int × Int) × Int)} {k : Int × Int} (h : k ∉ m.map (·.1)) : mget m k = 0 := by
  unfold mget
  rw [List.find?_eq_none.2 (fun x hx => by
    simp only [decide_eq_true_eq]
    exact fun e => h (by rw [← e]; exact List.mem_map_of_mem hx))]
  rfl
theorem undMpP : Try.prog.underlying 59 = some (.map 61 3) := by kernel_rfl
theorem zeroI (w : World) : (zeroValue 3).run Try.prog w = .ok (.int .i64 0) w := by kernel_rfl
theorem ent_keys {m : List ((Int × Int) × Int)} {es : Array MapEntry} (hw : ∀ x ∈ m, wfK x.1) (he : es.toList.map (fun e => (e.key, e.val)) = m.map (fun x => (pkey x.1, Value.int .i64 x.2))) : ∀ e ∈ es.toList, ∃ l, keyOf Try.prog 61 e.key = some l := by
  intro e hm
  have h1 : (e.key, e.val) ∈ m.map (fun x => (pkey x.1, Value.int .i64 x.2)) := by rw [← he]; exact List.mem_map_of_mem hm
  obtain ⟨x, hx, e1⟩ := List.mem_map.1 h1
  obtain ⟨l, hl⟩ := key_ofP (hw x hx)
  rw [Prod.mk.injEq] at e1
  exact ⟨l, by rw [← e1.1]; exact hl⟩
theorem lookup_isP {w : World} {mb : Nat} {m : List ((Int × Int) × Int)} (h : Mp w mb m) (k : Int × Int) (hk : wfK k) :
    (Instr.lookup 59 (.map (some mb)) (pkey k) false).run Try.prog w = .ok (.int .i64 (mget m k)) w := by
  obtain ⟨es, clock, hb, he⟩ := h.ex
  obtain ⟨kl, hkey⟩ := key_ofP hk
  rcases klP.find w hkey es.toList (ent_keys h.wf he) with ⟨h1, h2⟩ | ⟨j, e0, h1, h2, h3⟩
  · have hno : k ∉ m.map (·.1) := fun hm => by
      obtain ⟨x, hx, rfl⟩ := List.mem_map.1 hm
      have h4 : (pkey x.1, Value.int .i64 x.2) ∈ es.toList.map (fun e => (e.key, e.val)) := by rw [he]; exact List.mem_map_of_mem hx
      obtain ⟨e, hm, e1⟩ := List.mem_map.1 h4
      rw [Prod.mk.injEq] at e1
      exact h2 e hm e1.1
    rw [mget_no hno]
    simp [Instr.lookup, run_underlying undMpP, MapKept.run_getObj_map hb, klP.check w _ hkey, h1, Result.andThen]
  · have h4 : (es.toList.map (fun e => (e.key, e.val)))[j]? = some (e0.key, e0.val) := by rw [List.getElem?_map, h2]; rfl
    rw [he, List.getElem?_map] at h4
    obtain ⟨x, hx, e1⟩ := Option.map_eq_some_iff.1 h4
    rw [Prod.mk.injEq, h3] at e1
    obtain rfl := pkey_inj e1.1
    rw [mget_at h.one hx]
    simp [Instr.lookup, run_underlying undMpP, MapKept.run_getObj_map hb, klP.check w _ hkey, h1, Result.andThen, ← e1.2]

/-- A world with another map in that block. -/
def setMapP (w : World) (mb : Nat) (es : Array MapEntry) (clock : Nat) : World := { w with heap := w.heap.setIfInBounds mb (.map es clock) }
theorem But.of_map (w : World) (mb : Nat) (es : Array MapEntry) (clock : Nat) : But mb w (setMapP w mb es clock) :=
  ⟨rfl, rfl, rfl, by simp [setMapP], fun k hm => by simp [setMapP, Ne.symm hm]⟩
theorem setMap_at {w : World} {mb : Nat} {o : Obj} (h : w.heap[mb]? = some o) (es : Array MapEntry) (clock : Nat) : (setMapP w mb es clock).heap[mb]? = some (.map es clock) := by
  have hlt : mb < w.heap.size := (Array.getElem?_eq_some_iff.1 h).1
  simp [setMapP, hlt]
theorem map_set_at {α β : Type} [DecidableEq α] {m : List (α × β)} (h1 : (m.map (·.1)).Nodup) {j : Nat} {x : α × β} (hj : m[j]? = some x) (v : β) : m.set j (x.1, v) = m.map (fun y => if y.1 = x.1 then (x.1, v) else y) := by
  induction m generalizing j with
  | nil => simp at hj
  | cons y r ih =>
    rw [List.map_cons, List.nodup_cons] at h1
    cases j with
    | zero =>
      simp at hj
      subst hj
      rw [List.set_cons_zero, List.map_cons, if_pos rfl]
      congr 1
      have : ∀ z ∈ r, (if z.1 = y.1 then (y.1, v) else z) = z := fun z hz => by
        rw [if_neg (fun e => h1.1 (by rw [← e]; exact List.mem_map_of_mem hz))]
      rw [List.map_congr_left this, List.map_id']
    | succ j =>
      simp at hj
      have hx : x ∈ r := List.mem_of_getElem? hj
      have hne : ¬ y.1 = x.1 := fun e => h1.1 (by rw [e]; exact List.mem_map_of_mem hx)
      rw [List.set_cons_succ, List.map_cons, if_neg hne, ih h1.2 hj]
theorem mput_keys {m : List ((Int × Int) × Int)} {k : Int × Int} (v : Int) : (mput m k v).map (·.1) = if k ∈ m.map (·.1) then m.map (·.1) else m.map (·.1) ++ [k] := by
  unfold mput
  split
  · rw [List.map_map]
    apply List.map_congr_left
    intro x _
    simp only [Function.comp]
    split
    · rename_i h; exact h.symm
    · rfl
  · simp
theorem update_isP {w : World} {mb : Nat} {m : List ((Int × Int) × Int)} (h : Mp w mb m) (k : Int × Int) (v : Int) (hk : wfK k) :
    ∃ w', (Instr.mapUpdate 59 (.map (some mb)) (pkey k) (.int .i64 v)).run Try.prog w = .ok () w' ∧ Mp w' mb (mput m k v) ∧ But mb w w' := by
  obtain ⟨es, clock, hb, he⟩ := h.ex
  obtain ⟨kl, hkey⟩ := key_ofP hk
  have hone : ((mput m k v).map (·.1)).Nodup := by
    rw [mput_keys]
    split
    · exact h.one
    · rename_i hn
      rw [List.nodup_append]
      exact ⟨h.one, by simp, by
        intro a ha b hb' e
        simp at hb'
        subst hb'
        subst e
        exact hn ha⟩
  have hwf : ∀ x ∈ mput m k v, wfK x.1 := fun x hx => by
    have h1 : x.1 ∈ (mput m k v).map (·.1) := List.mem_map_of_mem hx
    rw [mput_keys] at h1
    split at h1
    · obtain ⟨y, hy, e⟩ := List.mem_map.1 h1
      rw [← e]; exact h.wf y hy
    · rcases List.mem_append.1 h1 with h1 | h1
      · obtain ⟨y, hy, e⟩ := List.mem_map.1 h1
        rw [← e]; exact h.wf y hy
      · simp at h1; rw [h1]; exact hk
  rcases klP.find w hkey es.toList (ent_keys h.wf he) with ⟨h1, h2⟩ | ⟨j, e0, h1, h2, h3⟩
  · have hno : k ∉ m.map (·.1) := fun hm => by
      obtain ⟨x, hx, rfl⟩ := List.mem_map.1 hm
      have h4 : (pkey x.1, Value.int .i64 x.2) ∈ es.toList.map (fun e => (e.key, e.val)) := by rw [he]; exact List.mem_map_of_mem hx
      obtain ⟨e, hm, e1⟩ := List.mem_map.1 h4
      rw [Prod.mk.injEq] at e1
      exact h2 e hm e1.1
    refine ⟨setMapP w mb (es.push ⟨pkey k, .int .i64 v, clock⟩) (clock + 1), ?_, ⟨⟨_, _, setMap_at hb _ _, ?_⟩, hone, hwf⟩, But.of_map _ _ _ _⟩
    · simp [Instr.mapUpdate, run_underlying undMpP, MapKept.run_getObj_map hb, klP.check w _ hkey, h1, MapKept.run_setObj_map _ hb, Result.andThen, setMapP]
    · unfold mput
      rw [if_neg hno, Array.toList_push, List.map_append, List.map_append, he]
      rfl
  · have h4 : (es.toList.map (fun e => (e.key, e.val)))[j]? = some (e0.key, e0.val) := by rw [List.getElem?_map, h2]; rfl
    rw [he, List.getElem?_map] at h4
    obtain ⟨x, hx, e1⟩ := Option.map_eq_some_iff.1 h4
    rw [Prod.mk.injEq, h3] at e1
    obtain rfl := pkey_inj e1.1
    have hin : x.1 ∈ m.map (·.1) := List.mem_map_of_mem (List.mem_of_getElem? hx)
    have hej : es[j]? = some e0 := by rw [← Array.getElem?_toList]; exact h2
    refine ⟨setMapP w mb (es.modify j fun e => { e with key := pkey x.1, val := .int .i64 v }) clock, ?_, ⟨⟨_, _, setMap_at hb _ _, ?_⟩, hone, hwf⟩, But.of_map _ _ _ _⟩
    · simp [Instr.mapUpdate, run_underlying undMpP, MapKept.run_getObj_map hb, klP.check w _ hkey, h1, hej, h3, klP.stays w hkey, MapKept.run_setObj_map _ hb, Result.andThen, setMapP]
    · unfold mput
      rw [if_pos hin, ← map_set_at h.one hx v, List.map_set, ← he, Array.toList_modify]
      apply List.ext_getElem?
      intro n
      rw [List.getElem?_map, List.getElem?_modify, List.getElem?_set, List.getElem?_map]
      by_cases hn : j = n
      · subst hn
        have hlt : j < es.size := (Array.getElem?_eq_some_iff.1 hej).1
        simp [hlt]
      · simp [hn]
section
variable {dst : Option Tmp} {ty : TypeId} {pos : String} {aft : Array Edge} {gd : Option (Nat × Bool)} {ops : Array Oper} {rest : List Oper} {a : Act} {w : World} {K : Act → World → Prop} {Q : Exit → Act → World → Prop}
theorem wp_lookupP {x y : Operand} {mb : Nat} {m : List ((Int × Int) × Int)} {k : Int × Int} (hx : a.eval x = .map (some mb)) (hy : a.eval y = pkey k) (hm : Mp w mb m) (hk : wfK k) (h : K (a.put dst (.int .i64 (mget m k))) w) :
    Oper.wp Try.prog ⟨dst, .lookup 59 x y false, ty, pos, aft, gd⟩ a w K Q := by
  unfold Oper.wp
  simp [execOp, hx, hy, lookup_isP hm k hk, Result.andThen]
  exact h
theorem step_lookupP {x y : Operand} {mb : Nat} {m : List ((Int × Int) × Int)} {k : Int × Int} (hw : Region.wanted ⟨dst, .lookup 59 x y false, ty, pos, aft, gd⟩ (yielded ops a.tmps) = true) (hx : a.eval x = .map (some mb)) (hy : a.eval y = pkey k) (hm : Mp w mb m) (hk : wfK k) (h : wpList Try.prog ops Q rest (a.put dst (.int .i64 (mget m k))) w) :
    wpList Try.prog ops Q (⟨dst, .lookup 59 x y false, ty, pos, aft, gd⟩ :: rest) a w :=
  BigFrame.wpList_want hw fun K hK => wp_lookupP hx hy hm hk (hK _ _ h)
theorem wp_mapUpP {x y z : Operand} {mb : Nat} {m : List ((Int × Int) × Int)} {k : Int × Int} {v : Int} (hx : a.eval x = .map (some mb)) (hy : a.eval y = pkey k) (hz : a.eval z = .int .i64 v) (hm : Mp w mb m) (hk : wfK k) (h : ∀ w', Mp w' mb (mput m k v) → But mb w w' → K (a.put dst undef) w') :
    Oper.wp Try.prog ⟨dst, .mapUpdate 59 x y z, ty, pos, aft, gd⟩ a w K Q := by
  obtain ⟨w', h1, h2, h3⟩ := update_isP hm k v hk
  unfold Oper.wp
  simp [execOp, hx, hy, hz, h1, Result.andThen]
  exact h w' h2 h3
end

end Go.Proofs.Ytnlpgkfmjlljdaa
