/-
  The document's files: by rising names, one behind the other, without any program.
-/
import Derived.Test.YtpocadbhajacaaaGreatDoorKpb
namespace Go.Proofs.YtpocadbhajacaaaGreatDoor
open Go.RowKit
set_option linter.unusedVariables false

theorem bl_irr : ∀ x : List UInt8, Op.bytesLess x x = false
  | [] => rfl
  | a :: x => by
    unfold Op.bytesLess
    have h := bl_irr x
    simp [h]
theorem bl_tot : ∀ x y : List UInt8, x ≠ y → Op.bytesLess x y = false → Op.bytesLess y x = true
  | [], [], h, _ => absurd rfl h
  | [], b :: y, _, h => by simp [Op.bytesLess] at h
  | a :: x, [], _, _ => by simp [Op.bytesLess]
  | a :: x, b :: y, h, h' => by
    unfold Op.bytesLess at h' ⊢
    simp only [Bool.or_eq_false_iff, decide_eq_false_iff_not, Bool.and_eq_false_iff, beq_eq_false_iff_ne] at h'
    simp only [Bool.or_eq_true, decide_eq_true_eq, Bool.and_eq_true, beq_iff_eq]
    by_cases hab : a = b
    · right
      refine ⟨hab.symm, bl_tot x y (fun e => h (by rw [hab, e])) ?_⟩
      rcases h'.2 with h2 | h2
      · exact absurd hab h2
      · exact h2
    · left
      exact UInt8.lt_of_le_of_ne (UInt8.not_lt.1 h'.1) (Ne.symm hab)
theorem bl_trans : ∀ x y z : List UInt8, Op.bytesLess x y = true → Op.bytesLess y z = true → Op.bytesLess x z = true
  | _, _, [], _, h => by simp [Op.bytesLess] at h
  | _, [], _ :: _, h, _ => by simp [Op.bytesLess] at h
  | [], _ :: _, _ :: _, _, _ => by simp [Op.bytesLess]
  | a :: x, b :: y, c :: z, h1, h2 => by
    unfold Op.bytesLess at h1 h2 ⊢
    simp only [Bool.or_eq_true, decide_eq_true_eq, Bool.and_eq_true, beq_iff_eq] at h1 h2 ⊢
    rcases h1 with h1 | ⟨h1, h1'⟩
    · rcases h2 with h2 | ⟨h2, h2'⟩
      · exact .inl (UInt8.lt_trans h1 h2)
      · exact .inl (h2 ▸ h1)
    · rcases h2 with h2 | ⟨h2, h2'⟩
      · exact .inl (h1 ▸ h2)
      · exact .inr ⟨h1.trans h2, bl_trans x y z h1' h2'⟩

def blt (a b : ByteArray) : Bool := Op.bytesLess a.toList b.toList
theorem blt_irr (a : ByteArray) : blt a a = false := bl_irr _
theorem blt_ne {a b : ByteArray} (h : blt a b = true) : a ≠ b := fun e => by rw [e, blt_irr] at h; cases h
theorem bytes_inj {a b : ByteArray} (h : a.toList = b.toList) : a = b := by
  rw [ByteArray.toList_eq, ByteArray.toList_eq] at h
  exact ByteArray.ext (Array.toList_inj.1 h)
theorem blt_tot {a b : ByteArray} (h : a ≠ b) (h' : blt a b = false) : blt b a = true := bl_tot _ _ (fun e => h (bytes_inj e)) h'
theorem blt_trans {a b c : ByteArray} (h : blt a b = true) (h' : blt b c = true) : blt a c = true := bl_trans _ _ _ h h'

def Srt (l : List (ByteArray × List Int)) : Prop := l.Pairwise fun a b => blt a.1 b.1 = true
/-- Files as a function, and as a list by rising names. -/
structure FL (f : ByteArray → Option (List Int)) (l : List (ByteArray × List Int)) : Prop where
  srt : Srt l
  mem : ∀ n xs, f n = some xs ↔ (n, xs) ∈ l
theorem FL.nil : FL (fun _ => none) [] := ⟨List.Pairwise.nil, fun n xs => by simp⟩
def posF (l : List (ByteArray × List Int)) (n : ByteArray) : Nat := (l.takeWhile fun x => blt x.1 n).length
theorem posF_lt : ∀ (l : List (ByteArray × List Int)) (n : ByteArray) (i : Nat) (x : ByteArray × List Int), l[i]? = some x → i ≤ posF l n → (blt x.1 n = true ↔ i < posF l n)
  | [], _, _, _, h, _ => by simp at h
  | y :: l, n, 0, x, h, _ => by
    simp at h
    subst h
    cases hb : blt y.1 n <;> simp [posF, hb]
  | y :: l, n, i + 1, x, h, hi => by
    simp at h
    cases hb : blt y.1 n with
    | false => simp [posF, hb] at hi
    | true =>
      have e : posF (y :: l) n = posF l n + 1 := by simp [posF, hb]
      rw [e] at hi ⊢
      rw [posF_lt l n i x h (by omega)]
      omega
theorem posF_le (l : List (ByteArray × List Int)) (n : ByteArray) : posF l n ≤ l.length := (List.takeWhile_sublist _).length_le
theorem takeWhile_all {p : (ByteArray × List Int) → Bool} : ∀ (l : List (ByteArray × List Int)), ∀ x ∈ l.takeWhile p, p x = true
  | [], x, h => by simp at h
  | y :: l, x, h => by
    rw [List.takeWhile_cons] at h
    split at h
    · rename_i hy
      rcases List.mem_cons.1 h with rfl | h
      · exact hy
      · exact takeWhile_all l x h
    · cases h
theorem dropWhile_hd {p : (ByteArray × List Int) → Bool} : ∀ (l : List (ByteArray × List Int)) {y : ByteArray × List Int} {t : List (ByteArray × List Int)}, l.dropWhile p = y :: t → p y = false
  | [], y, t, h => by simp at h
  | z :: l, y, t, h => by
    rw [List.dropWhile_cons] at h
    split at h
    · exact dropWhile_hd l h
    · rename_i hz
      injection h with h1 h2
      subst h1
      simpa using hz
/-- Where a name stands, or would stand. -/
theorem FL.split {f : ByteArray → Option (List Int)} {l : List (ByteArray × List Int)} (h : FL f l) (n : ByteArray) :
    ∃ A B, l = A ++ B ∧ A.length = posF l n ∧ (∀ a ∈ A, blt a.1 n = true) ∧ ((f n = none ∧ ∀ b ∈ B, blt n b.1 = true) ∨ ∃ xs B', f n = some xs ∧ B = (n, xs) :: B' ∧ ∀ b ∈ B', blt n b.1 = true) := by
  obtain ⟨A, hA⟩ : ∃ A, A = l.takeWhile fun x => blt x.1 n := ⟨_, rfl⟩
  obtain ⟨B, hB⟩ : ∃ B, B = l.dropWhile fun x => blt x.1 n := ⟨_, rfl⟩
  have hl : l = A ++ B := by rw [hA, hB, List.takeWhile_append_dropWhile]
  have hA2 : ∀ a ∈ A, blt a.1 n = true := by rw [hA]; exact takeWhile_all (p := fun x => blt x.1 n) l
  refine ⟨A, B, hl, by rw [hA]; rfl, hA2, ?_⟩
  have hs := h.srt
  rw [hl] at hs
  have hsB := (List.pairwise_append.1 hs).2.1
  have hout : ∀ xs, (n, xs) ∈ l → (n, xs) ∈ B := fun xs hx => by
    rw [hl] at hx
    rcases List.mem_append.1 hx with hx | hx
    · exact absurd rfl (blt_ne (hA2 _ hx))
    · exact hx
  cases hBc : B with
  | nil =>
    refine .inl ⟨?_, fun b hb => by cases hb⟩
    cases hf : f n with
    | none => rfl
    | some xs =>
      have := hout xs ((h.mem n xs).1 hf)
      rw [hBc] at this
      cases this
  | cons y t =>
    rw [hBc] at hsB hB
    have hy : blt y.1 n = false := dropWhile_hd (p := fun x => blt x.1 n) l hB.symm
    have hst := List.pairwise_cons.1 hsB
    by_cases hyn : y.1 = n
    · right
      have hye : y = (n, y.2) := by rw [← hyn]
      refine ⟨y.2, t, (h.mem n y.2).2 (by rw [hl, hBc, ← hye]; simp), by rw [← hye], fun b hb => by have := hst.1 b hb; rw [hyn] at this; exact this⟩
    · left
      have h1 : blt n y.1 = true := blt_tot hyn hy
      have h2 : ∀ b ∈ y :: t, blt n b.1 = true := fun b hb => by
        rcases List.mem_cons.1 hb with rfl | hb
        · exact h1
        · exact blt_trans h1 (hst.1 b hb)
      refine ⟨?_, h2⟩
      cases hf : f n with
      | none => rfl
      | some xs =>
        have := hout xs ((h.mem n xs).1 hf)
        rw [hBc] at this
        exact absurd rfl (blt_ne (h2 _ this))
section
variable {f : ByteArray → Option (List Int)} {A B : List (ByteArray × List Int)} {n : ByteArray}
/-- The file at a name's place: new, or turned. -/
theorem FL.put (h : FL f (A ++ B)) (hA : ∀ a ∈ A, blt a.1 n = true) (hB : ∀ b ∈ B, blt n b.1 = true) (xs : List Int) : FL (upd f n (some xs)) (A ++ (n, xs) :: B) := by
  obtain ⟨h1, h2, h3⟩ := List.pairwise_append.1 h.srt
  refine ⟨List.pairwise_append.2 ⟨h1, List.pairwise_cons.2 ⟨hB, h2⟩, fun a ha b hb => ?_⟩, fun m ys => ?_⟩
  · rcases List.mem_cons.1 hb with rfl | hb
    · exact hA a ha
    · exact h3 a ha b hb
  · have hm := h.mem m ys
    unfold upd
    by_cases e : m = n
    · subst e
      rw [if_pos rfl]
      constructor
      · intro e
        injection e with e
        subst e
        simp
      · intro hx
        rcases List.mem_append.1 hx with hx | hx
        · exact absurd rfl (blt_ne (hA _ hx))
        · rcases List.mem_cons.1 hx with hx | hx
          · injection hx with _ hx
            rw [hx]
          · exact absurd rfl (blt_ne (hB _ hx))
    · rw [if_neg e, hm]
      simp only [List.mem_append, List.mem_cons, Prod.mk.injEq, e, false_and, false_or]
theorem FL.turn {ys : List Int} (h : FL f (A ++ (n, ys) :: B)) (hA : ∀ a ∈ A, blt a.1 n = true) (hB : ∀ b ∈ B, blt n b.1 = true) : FL (upd f n none) (A ++ B) := by
  obtain ⟨h1, h2, h3⟩ := List.pairwise_append.1 h.srt
  refine ⟨List.pairwise_append.2 ⟨h1, (List.pairwise_cons.1 h2).2, fun a ha b hb => h3 a ha b (List.mem_cons_of_mem _ hb)⟩, fun m zs => ?_⟩
  have hm := h.mem m zs
  unfold upd
  by_cases e : m = n
  · subst e
    rw [if_pos rfl]
    refine ⟨fun h => (by cases h), fun hx => ?_⟩
    rcases List.mem_append.1 hx with hx | hx
    · exact absurd rfl (blt_ne (hA _ hx))
    · exact absurd rfl (blt_ne (hB _ hx))
  · rw [if_neg e, hm]
    simp only [List.mem_append, List.mem_cons, Prod.mk.injEq, e, false_and, false_or]
theorem FL.set {ys : List Int} (h : FL f (A ++ (n, ys) :: B)) (hA : ∀ a ∈ A, blt a.1 n = true) (hB : ∀ b ∈ B, blt n b.1 = true) (xs : List Int) : FL (upd f n (some xs)) (A ++ (n, xs) :: B) := by
  have := (h.turn hA hB).put hA hB xs
  rw [upd_upd] at this
  exact this
end
/-- Two lists by rising names with the same files are the same. -/
theorem srt_ext : ∀ (l l' : List (ByteArray × List Int)), Srt l → Srt l' → (∀ x, x ∈ l ↔ x ∈ l') → l = l'
  | [], [], _, _, _ => rfl
  | [], y :: t, _, _, h => by have := (h y).2 (by simp); cases this
  | x :: t, [], _, _, h => by have := (h x).1 (by simp); cases this
  | x :: t, y :: t', h1, h2, h => by
    have p1 := List.pairwise_cons.1 h1
    have p2 := List.pairwise_cons.1 h2
    have e : x = y := by
      rcases List.mem_cons.1 ((h x).1 (by simp)) with e | hx
      · exact e
      · rcases List.mem_cons.1 ((h y).2 (by simp)) with e | hy
        · exact e.symm
        · have a1 := p2.1 x hx
          have a2 := p1.1 y hy
          exact absurd rfl (blt_ne (blt_trans a1 a2))
    subst e
    rw [srt_ext t t' p1.2 p2.2 (fun z => ?_)]
    have hz := h z
    simp only [List.mem_cons] at hz
    constructor
    · intro hm
      rcases hz.1 (.inr hm) with e | h'
      · exact absurd e.symm (fun e => by have := p1.1 z hm; rw [e] at this; exact absurd rfl (blt_ne this))
      · exact h'
    · intro hm
      rcases hz.2 (.inr hm) with e | h'
      · exact absurd e.symm (fun e => by have := p2.1 z hm; rw [e] at this; exact absurd rfl (blt_ne this))
      · exact h'
theorem FL.ext {f f' : ByteArray → Option (List Int)} {l l' : List (ByteArray × List Int)} (h : FL f l) (h' : FL f' l') : l = l' ↔ f = f' := by
  constructor
  · rintro rfl
    funext n
    cases hf : f n with
    | none =>
      cases hf' : f' n with
      | none => rfl
      | some xs => have := (h.mem n xs).2 ((h'.mem n xs).1 hf'); rw [hf] at this; cases this
    | some xs => exact ((h'.mem n xs).2 ((h.mem n xs).1 hf)).symm
  · rintro rfl
    exact srt_ext _ _ h.srt h'.srt (fun x => by rw [show x = (x.1, x.2) from rfl, ← h.mem, ← h'.mem])
/-- What a rename makes, done as the document does it: first the old name goes. -/
theorem ren_upd (f : ByteArray → Option (List Int)) {n t : ByteArray} (h : n ≠ t) (xs : List Int) : upd (upd f n none) t (some xs) = upd (upd f t (some xs)) n none := by
  funext x
  unfold upd
  by_cases h1 : x = t
  · subst h1
    rw [if_pos rfl, if_neg (Ne.symm h), if_pos rfl]
  · by_cases h2 : x = n
    · subst h2
      rw [if_neg h1, if_pos rfl, if_pos rfl]
    · rw [if_neg h1, if_neg h2, if_neg h2, if_neg h1]

end Go.Proofs.YtpocadbhajacaaaGreatDoor
