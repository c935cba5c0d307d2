/-
  What both Decodes tell of any bytes, in one form.
-/
import Derived.Test.YtojepbapdjkknaaDoorWr
namespace Go.Proofs.YtojepbapdjkknaaDoor
open Go.RowKit
set_option linter.unusedVariables false
set_option linter.unusedSimpArgs false

/-- What is told of bytes: kind, first, size, n digests ys, error. -/
def DecB (xs : List Int) (k f s : Int) (n : Nat) (ys : List Int) (E : Int) : Prop :=
  (DkNo xs ∧ k = 0 ∧ f = 0 ∧ s = 0 ∧ n = 0 ∧ ys = [] ∧ E = 80) ∨ (DkOK xs n ∧ k = xs.getD 0 0 ∧ f = rdV xs 1 8 ∧ s = rdV xs 9 8 ∧ ys = xs.drop 18 ∧ E = 0)
theorem decB (xs : List Int) : ∃ k f s n ys E, DecB xs k f s n ys E := by
  by_cases h : ∃ n, DkOK xs n
  · obtain ⟨n, h⟩ := h
    exact ⟨_, _, _, n, _, _, .inr ⟨h, rfl, rfl, rfl, rfl, rfl⟩⟩
  · exact ⟨_, _, _, _, _, _, .inl ⟨fun n hn => h ⟨n, hn⟩, rfl, rfl, rfl, rfl, rfl, rfl⟩⟩
theorem DkOK.one {xs : List Int} {n m : Nat} (h : DkOK xs n) (h' : DkOK xs m) : n = m := by
  have := h.len; have := h'.len; omega
section
variable {xs : List Int} {k f s : Int} {n : Nat} {ys : List Int} {E : Int}
theorem DecB.few (h : DecB xs k f s n ys E) : n ≤ 49 := by
  rcases h with h | h
  · omega
  · exact pcnt_le h.1.c
theorem DecB.byte (h : DecB xs k f s n ys E) (hb : isB xs) : isB ys := by
  rcases h with ⟨_, _, _, _, _, rfl, _⟩ | ⟨_, _, _, _, rfl, _⟩
  · intro x hx; cases hx
  · exact hb.drop _
theorem DecB.len (h : DecB xs k f s n ys E) : ys.length = 32 * n := by
  rcases h with ⟨_, _, _, _, rfl, rfl, _⟩ | ⟨h, _, _, _, rfl, _⟩
  · rfl
  · rw [List.length_drop, h.len]; omega
theorem decodeB (h : DecB xs k f s n ys E) (a : Option Addr) (len cap : Nat) (w : World) (hs : Sl w a len cap xs) :
    Calls Tryd.prog 24 #[.slice a len cap] w fun e w' => Below w.heap.size w w' ∧ ∃ v, e = .returned (.tuple #[.agg (pfC k f s v).toArray, .int .i64 E]) ∧ DOwn w' w.heap.size v n ys := by
  refine (decode_any a len cap xs w hs).mono ?_
  rintro e w' ⟨hb, ⟨hno, rfl⟩ | ⟨m, v, hok, rfl, ho⟩⟩
  · rcases h with ⟨_, rfl, rfl, rfl, rfl, rfl, rfl⟩ | ⟨h, _⟩
    · exact ⟨hb, _, rfl, DOwn.nil _ _⟩
    · exact absurd h (hno n)
  · rcases h with ⟨h, _⟩ | ⟨h, rfl, rfl, rfl, rfl, rfl⟩
    · exact absurd hok (h m)
    · obtain rfl := hok.one h
      exact ⟨hb, v, rfl, ho⟩
theorem decodeRB (h : DecB xs k f s n ys E) (a : Option Addr) (len cap : Nat) (w : World) (hs : Sl w a len cap xs) :
    Calls Tryd.prog 47 #[.slice a len cap] w fun e w' => Below w.heap.size w w' ∧ ∃ v, e = .returned (.tuple #[.agg (pfC k f s v).toArray, .int .i64 E]) ∧ DOwn w' w.heap.size v n ys := by
  refine (decodeR_any a len cap xs w hs).mono ?_
  rintro e w' ⟨hb, ⟨hno, rfl⟩ | ⟨m, v, hok, rfl, ho⟩⟩
  · rcases h with ⟨_, rfl, rfl, rfl, rfl, rfl, rfl⟩ | ⟨h, _⟩
    · exact ⟨hb, _, rfl, DOwn.nil _ _⟩
    · exact absurd h (hno n)
  · rcases h with ⟨h, _⟩ | ⟨h, rfl, rfl, rfl, rfl, rfl⟩
    · exact absurd hok (h m)
    · obtain rfl := hok.one h
      exact ⟨hb, v, rfl, ho⟩
end

end Go.Proofs.YtojepbapdjkknaaDoor
