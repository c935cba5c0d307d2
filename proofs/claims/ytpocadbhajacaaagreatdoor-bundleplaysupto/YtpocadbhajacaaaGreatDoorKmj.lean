/-
  Same: two disks' files held against each other.
-/
import Derived.Test.YtpocadbhajacaaaGreatDoorKmi
import Derived.Test.YtpocadbhajacaaaGreatDoorShE
import Derived.Lib.Bytes
namespace Go.Proofs.YtpocadbhajacaaaGreatDoor
open Go.RowKit Go.Maps
set_option linter.unusedVariables false

section
variable {dst : Option Tmp} {ty : TypeId} {pos : String} {aft : Array Edge} {gd : Option (Nat × Bool)} {ops : Array Oper} {rest : List Oper} {a : Act} {w : World} {K : Act → World → Prop} {Q : Exit → Act → World → Prop}
end
/-! ### two lists without doubles -/
theorem sub_len {α : Type} : ∀ (a b : List α), a.Nodup → (∀ x ∈ a, x ∈ b) → a.length ≤ b.length
  | [], _, _, _ => Nat.zero_le _
  | x :: r, b, h, hs => by
    obtain ⟨s, t, rfl⟩ := List.append_of_mem (hs x (by simp))
    rw [List.nodup_cons] at h
    have := sub_len r (s ++ t) h.2 (fun y hy => by
      have h1 := hs y (by simp [hy])
      rcases List.mem_append.1 h1 with h1 | h1
      · exact List.mem_append.2 (.inl h1)
      · rcases List.mem_cons.1 h1 with rfl | h1
        · exact absurd hy h.1
        · exact List.mem_append.2 (.inr h1))
    simp at this ⊢
    omega
/-! ### files as data -/
theorem Own.uniq {w : World} {B : Nat} {v : Value} {xs ys : List Int} (h : Own w B v xs) (h' : Own w B v ys) : xs = ys := by
  have key : u8s xs = u8s ys := by
    obtain ⟨h1, h2⟩ := h
    obtain ⟨h1', h2'⟩ := h'
    rcases h2 with ⟨rfl, e⟩ | ⟨g, cap, cur, rfl, hg, hh, r1, r2, r3, r4⟩
    · rcases h2' with ⟨_, e'⟩ | ⟨g', cap', cur', e', _⟩
      · rw [List.eq_nil_of_length_eq_zero e, List.eq_nil_of_length_eq_zero e']
      · cases e'
    · rcases h2' with ⟨e', _⟩ | ⟨g', cap', cur', e', hg', hh', r1', r2', r3', r4'⟩
      · cases e'
      · injection e' with e1 e2 e3
        injection e1 with e1
        injection e1 with e1
        subst e1
        rw [hh] at hh'
        injection hh' with hh'
        injection hh' with hh'
        subst hh'
        rw [← r4, ← r4', e2]
  have := congrArg (List.map fun v => intOf v) key
  simpa [u8s, intOf, Function.comp_def] using this
def encB (xs : List Int) : DataW Unit := .slice (xs.map fun x => .lit (.int .u8 x)) []
/-- How a world's slices are read as data: none but those that hold bytes. -/
theorem reads_ex (w : World) : ∃ R : Value → Option (DataW Unit × List MemPlace), (∀ v xs, Own w 0 v xs → isB xs → xs.length ≤ 1099511000000 → R v = some (encB xs, [])) ∧ ∀ v z, R v = some z → ∃ xs, Own w 0 v xs ∧ isB xs ∧ xs.length ≤ 1099511000000 ∧ z = (encB xs, []) := by
  refine ⟨fun v => @dite _ (∃ xs, Own w 0 v xs ∧ isB xs ∧ xs.length ≤ 1099511000000) (Classical.propDecidable _) (fun h => some (encB (Classical.choose h), [])) (fun _ => none), fun v xs h1 h2 h3 => ?_, fun v z hz => ?_⟩
  · have hx : ∃ xs, Own w 0 v xs ∧ isB xs ∧ xs.length ≤ 1099511000000 := ⟨xs, h1, h2, h3⟩
    have h4 := Classical.choose_spec hx
    simp only [dif_pos hx]
    rw [h4.1.uniq h1]
  · by_cases hx : ∃ xs, Own w 0 v xs ∧ isB xs ∧ xs.length ≤ 1099511000000
    · simp only [dif_pos hx, Option.some.injEq] at hz
      have h4 := Classical.choose_spec hx
      exact ⟨_, h4.1, h4.2.1, h4.2.2, hz.symm⟩
    · simp only [dif_neg hx] at hz
      cases hz
/-- A file as an entry of the datum. -/
def ent (f : (ByteArray → Option (List Int))) (x : ByteArray × Value) : Lit × DataW Unit := (.string x.1.data.toList, encB (fl f x.1))
theorem FilAt.owns {w : World} {m : Nat} {fm : List (ByteArray × Value)} {f : (ByteArray → Option (List Int))} (h : FilAt w m fm f) (hl : ∀ n, (fl f n).length ≤ 1099511000000) (hfew : fm.length ≤ 1099511000000) {R : Value → Option (DataW Unit × List MemPlace)} (hR : ∀ v xs, Own w 0 v xs → isB xs → xs.length ≤ 1099511000000 → R v = some (encB xs, [])) :
    ∃ L : List (Lit × DataW Unit), w.ownsMap Tryz.prog 9 R m fm.length (.map L) ∧ L.Perm (fm.map (ent f)) := by
  obtain ⟨es, clock, hb, hst, he⟩ := h.map.ex
  have hlen : es.size = fm.length := by
    have := congrArg List.length he
    simpa using this
  have hrd : ∀ e ∈ es.toList, ∃ x ∈ fm, e.key = .string x.1 ∧ e.val = x.2 := fun e hm => by
    have h1 : (e.key, e.val) ∈ fm.map (fun x => (Value.string x.1, x.2)) := by rw [← he]; exact List.mem_map_of_mem hm
    obtain ⟨x, hx, e1⟩ := List.mem_map.1 h1
    rw [Prod.mk.injEq] at e1
    exact ⟨x, hx, e1.1.symm, e1.2.symm⟩
  have hrx : ∀ e ∈ es.toList, ∀ x ∈ fm, e.key = .string x.1 → e.val = x.2 → WideElems.rd Tryz.prog 9 R e = some (ent f x) := fun e _ x hx e1 e2 => by
    have hv := mfind_at h.map.one hx
    obtain ⟨o1, o2⟩ := h.own x.1 x.2 hv
    unfold WideElems.rd
    rw [e1, e2, key_ofS (h.map.wf x hx), hR x.2 _ o1 o2 (hl x.1)]
    rfl
  refine ⟨(es.toList.map (WideElems.rg Tryz.prog 9 R)).foldr DataW.insert [], ⟨es, clock, hb, ⟨by unfold maxLen; omega, hst, fun e hm => ?_⟩, Nat.le_of_eq hlen, rfl⟩, ?_⟩
  · obtain ⟨x, hx, e1, e2⟩ := hrd e hm
    exact ⟨_, hrx e hm x hx e1 e2⟩
  · refine (WideShapes.sorted_perm _).trans (List.Perm.of_eq ?_)
    apply List.ext_getElem?
    intro j
    rw [List.getElem?_map, List.getElem?_map]
    cases hj : es.toList[j]? with
    | none =>
      have h1 : es.toList.length ≤ j := List.getElem?_eq_none_iff.1 hj
      have : fm[j]? = none := List.getElem?_eq_none_iff.2 (by simp at h1; omega)
      rw [this]
      rfl
    | some e =>
      have h4 : (es.toList.map (fun e => (e.key, e.val)))[j]? = some (e.key, e.val) := by rw [List.getElem?_map, hj]; rfl
      rw [he, List.getElem?_map] at h4
      obtain ⟨x, hx, e1⟩ := Option.map_eq_some_iff.1 h4
      rw [Prod.mk.injEq] at e1
      rw [hx]
      show some (WideElems.rg Tryz.prog 9 R e) = some (ent f x)
      rw [WideElems.rg, hrx e (List.mem_of_getElem? hj) x (List.mem_of_getElem? hx) e1.1.symm e1.2.symm]
      rfl

theorem FilAt.mem {w : World} {m : Nat} {fm : List (ByteArray × Value)} {f : (ByteArray → Option (List Int))} (h : FilAt w m fm f) {n : ByteArray} {xs : List Int} (hn : f n = some xs) : ∃ v, (n, v) ∈ fm ∧ fl f n = xs := by
  obtain ⟨v, hv, _⟩ := h.get hn
  exact ⟨v, mfind_mem hv, by simp [fl, hn]⟩
theorem FilAt.some {w : World} {m : Nat} {fm : List (ByteArray × Value)} {f : (ByteArray → Option (List Int))} (h : FilAt w m fm f) {x : ByteArray × Value} (hx : x ∈ fm) : f x.1 = some (fl f x.1) := by
  have h1 := h.iff x.1
  rw [mfind_at h.map.one hx] at h1
  cases hf : f x.1 with
  | none => rw [hf] at h1; cases h1
  | some y => simp [fl, hf]
theorem DkAt.bounds {w : World} {d s : Nat} {rs : List Rw} {D : Dm} (h : DkAt w d s rs D) (hw : wt rs ≤ 1099511000000) : (∀ n, (fl (play rs) n).length ≤ 1099511000000) ∧ D.fm.length ≤ 1099511000000 :=
  ⟨fun n => Nat.le_trans (play_wt rs n) hw, by have h1 := h.few; have h2 := len_wt rs; omega⟩
end Go.Proofs.YtpocadbhajacaaaGreatDoor
