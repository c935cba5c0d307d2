/-
  The names of a disk's files, sorted: the document's list.
-/
import Derived.Test.YtpocadbhajacaaaGreatDoorKqa
import Derived.Sort.Walk0
namespace Go.Proofs.YtpocadbhajacaaaGreatDoor
open Go.RowKit
set_option linter.unusedVariables false

theorem le_iff (x y : List UInt8) : decide (x ≤ y) = !Op.bytesLess y x := by
  rw [bytesLess_eq]
  rw [← decide_not]
  exact decide_eq_decide.2 Iff.rfl
theorem perm_of_mem {α : Type} : ∀ {a b : List α}, a.Nodup → b.Nodup → (∀ x, x ∈ a ↔ x ∈ b) → a.Perm b
  | [], b, _, _, h => by
    cases b with
    | nil => exact List.Perm.refl _
    | cons y t => have := (h y).2 (by simp); cases this
  | x :: a, b, ha, hb, h => by
    obtain ⟨s, t, rfl⟩ := List.append_of_mem ((h x).1 (by simp))
    have hx : x ∉ a := (List.nodup_cons.1 ha).1
    have hp : (s ++ x :: t).Perm (x :: (s ++ t)) := List.perm_middle
    have hb2 := hp.nodup_iff.1 hb
    have hx2 : x ∉ s ++ t := (List.nodup_cons.1 hb2).1
    refine (List.Perm.cons x (perm_of_mem (List.nodup_cons.1 ha).2 (List.nodup_cons.1 hb2).2 (fun z => ?_))).trans hp.symm
    have hz := h z
    rw [hp.mem_iff] at hz
    simp only [List.mem_cons] at hz
    constructor
    · intro hm
      rcases hz.1 (.inr hm) with e | e
      · subst e; exact absurd hm hx
      · exact e
    · intro hm
      rcases hz.2 (.inr hm) with e | e
      · subst e; exact absurd hm hx2
      · exact e
theorem sort_names {f : ByteArray → Option (List Int)} {l : List (ByteArray × List Int)} (h : FL f l) {ns : List ByteArray} (hn : ns.Nodup) (hm : ∀ n, n ∈ ns ↔ (f n).isSome = true) {ss : List (List UInt8)} (hp : ss.Perm (ns.map fun x => x.toList)) :
    ss.mergeSort (fun x y => decide (x ≤ y)) = l.map (fun x => x.1.toList) := by
  have hle : ∀ x y : List UInt8, decide (x ≤ y) = true ↔ Op.bytesLess y x = false := fun x y => by rw [le_iff]; simp
  have hlsrt : (l.map fun x => x.1.toList).Pairwise (fun x y => decide (x ≤ y) = true) := by
    rw [List.pairwise_map]
    refine h.srt.imp (fun {a b} hab => ?_)
    rw [hle]
    cases hba : Op.bytesLess b.1.toList a.1.toList with
    | false => rfl
    | true => have := bl_trans _ _ _ hab hba; rw [bl_irr] at this; cases this
  have hlnd : (l.map fun x => x.1).Nodup := by
    rw [List.Nodup, List.pairwise_map]
    exact h.srt.imp (fun {a b} hab => blt_ne hab)
  have hperm : ns.Perm (l.map fun x => x.1) := perm_of_mem hn hlnd (fun n => by
    rw [hm]
    constructor
    · intro hs
      cases hf : f n with
      | none => rw [hf] at hs; cases hs
      | some xs => exact List.mem_map.2 ⟨(n, xs), (h.mem n xs).1 hf, rfl⟩
    · intro hs
      obtain ⟨x, hx, rfl⟩ := List.mem_map.1 hs
      rw [(h.mem x.1 x.2).2 hx]
      rfl)
  have hp2 : (ss.mergeSort (fun x y => decide (x ≤ y))).Perm (l.map fun x => x.1.toList) := by
    refine (List.mergeSort_perm _ _).trans (hp.trans ?_)
    have := hperm.map (fun x : ByteArray => x.toList)
    rw [List.map_map] at this
    exact this
  refine hp2.eq_of_pairwise (le := fun x y => decide (x ≤ y) = true) (fun a b _ _ h1 h2 => ?_) (List.pairwise_mergeSort (fun a b c h1 h2 => ?_) (fun a b => ?_) ss) hlsrt
  · rw [hle] at h1 h2
    by_cases e : a = b
    · exact e
    · have := bl_tot a b e h2
      rw [h1] at this
      cases this
  · rw [hle] at h1 h2 ⊢
    cases hca : Op.bytesLess c a with
    | false => rfl
    | true =>
      by_cases e : b = a
      · subst e; rw [h2] at hca; cases hca
      · have h3 := bl_tot b a e h1
        have h4 := bl_trans _ _ _ hca h3
        rw [h2] at h4
        cases h4
  · cases hba : Op.bytesLess b a with
    | false => rw [le_iff, hba]; rfl
    | true =>
      have : Op.bytesLess a b = false := by
        cases hab : Op.bytesLess a b with
        | false => rfl
        | true => have := bl_trans _ _ _ hab hba; rw [bl_irr] at this; cases this
      rw [le_iff b a, this]
      simp

end Go.Proofs.YtpocadbhajacaaaGreatDoor
