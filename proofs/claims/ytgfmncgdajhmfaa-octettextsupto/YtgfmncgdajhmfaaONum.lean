/-
  octet, ported from round 1 (Num).
-/
import Derived.Test.YtgfmncgdajhmfaaProg
import Derived.Test.YtgfmncgdajhmfaaPlain
import Derived.WalkKit
import Derived.WalkSpells
import Derived.WalkLawsBesides
namespace Go.Proofs.Ytgfmncgdajhmfaa
open Go.RowKit

/-- A slice of bytes in memory: its bytes are xs. -/
structure Sl (w : World) (a : Option Addr) (len cap : Nat) (xs : List Int) : Prop where
  hlen : xs.length = len
  hcap : len ≤ cap
  hmax : cap ≤ 9223372036854775807
  hreach : len ≤ 140737488355328
  hbyte : isB xs
  hnil : a = none → len = 0 ∧ cap = 0
  hcell : 0 < len → ∃ b off, a = some ⟨b, off, none⟩ ∧ ∀ i, i < len → w.cell? ⟨b, off + i, none⟩ = some (.int .u8 (xs.getD i 0))

theorem Sl.below {w w' : World} {a : Option Addr} {len cap : Nat} {xs : List Int} (h : Sl w a len cap xs) (hb : Below w.heap.size w w') : Sl w' a len cap xs := by
  obtain ⟨h1, h2, h3, h4, h5, h6, h7⟩ := h
  refine ⟨h1, h2, h3, h4, h5, h6, fun h => ?_⟩
  obtain ⟨b, off, e, hc⟩ := h7 h
  refine ⟨b, off, e, fun i hi => ?_⟩
  have := hc i hi
  rw [hb.cell (World.block_lt_of_cell? w _ this)]
  exact this

theorem Sl.pre {w : World} {a : Option Addr} {n cap : Nat} {xs ys : List Int} (h : Sl w a n cap (xs ++ ys)) : Sl w a xs.length cap xs := by
  have hl := h.hlen
  rw [List.length_append] at hl
  have hcap := h.hcap
  have hreach := h.hreach
  refine ⟨rfl, by omega, h.hmax, by omega, fun x hx => h.hbyte x (List.mem_append_left _ hx), fun e => by have := h.hnil e; omega, fun hp => ?_⟩
  obtain ⟨b, off, e, hc⟩ := h.hcell (by omega)
  refine ⟨b, off, e, fun i hi => ?_⟩
  rw [hc i (by omega)]
  simp [List.getD, List.getElem?_append_left hi]

theorem mul_step (v x : Int) (h0 : 0 ≤ v) (h1 : v < 72057594037927936) (h2 : 0 ≤ x) (h3 : x ≤ 255) :
    IntKind.u64.wrap (IntKind.u64.wrap (v * 256) + IntKind.u64.wrap x) = v * 256 + x := by
  rw [IntKind.wrap_u64, IntKind.wrap_u64, IntKind.wrap_u64, Int.emod_eq_of_lt (by omega) (by omega), Int.emod_eq_of_lt (by omega) (by omega)]
  omega

end Go.Proofs.Ytgfmncgdajhmfaa
