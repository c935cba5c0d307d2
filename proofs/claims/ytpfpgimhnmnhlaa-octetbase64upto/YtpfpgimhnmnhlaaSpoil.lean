/-
  spoil over a slice that the code's own append made.
-/
import Derived.Test.YtpfpgimhnmnhlaaUnb
import Derived.Test.YtpfpgimhnmnhlaaPutD
namespace Go.Proofs.Ytpfpgimhnmnhlaa
open Go.RowKit
set_option linter.unusedVariables false

theorem Own.set {w : World} {B g n cap : Nat} {ys : List Int} (h : Own w B (.slice (some ⟨g, 0, none⟩) n cap) ys) (hl : ys.length = n) (k : Nat) (z : Int) :
    Own (w.setCell ⟨g, k, none⟩ (.int .u8 z)) B (.slice (some ⟨g, 0, none⟩) n cap) (ys.set k z) := by
  unfold Own at h ⊢
  rw [hl] at h
  rw [List.length_set, hl, List.map_set]
  exact (World.ownsRow.stored h k _).1

set_option maxHeartbeats 400000 in
theorem spoil_own (g n cap B : Nat) (xs : List Int) (w : World) (ho : Own w B (.slice (some ⟨g, 0, none⟩) n cap) xs) (hx : xs.length = n) (hn : n ≤ 140737488355328) :
    Calls Try.prog 26 #[.slice (some ⟨g, 0, none⟩) n cap] w fun e w' => e = .returned (.tuple #[]) ∧ But g w w' := by
  go_enter Try.func26, Try.ntmps26
  go_wp2
  go_loopw [2] (fun i wr => ∃ k : Nat, k ≤ n ∧ i = .int .i64 k ∧ (∃ ys, Own wr B (.slice (some ⟨g, 0, none⟩) n cap) ys ∧ ys.length = n) ∧ But g w wr) (fun i _ => n - (intOf i).toNat)
  case atStart => exact ⟨0, by omega, rfl, ⟨xs, ho, hx⟩, But.refl _ _⟩
  case round =>
    obtain ⟨k, hk, rfl, ⟨ys, hr1, hy⟩, hb1⟩ := hrel
    have HY := hide hy
    have HR := hide hr1
    clear hy hr1 ho hx
    by_cases hlt : k < n
    · have hyk : (ys.map (Value.int .u8))[k]? = some (.int .u8 (ys.getD k 0)) := by
        have : k < ys.length := by rw [HY.out]; exact hlt
        simp [List.getD, this]
      have hcell : wr.cell? ⟨g, k, none⟩ = some (.int .u8 (ys.getD k 0)) := by
        have h := World.ownsRow.cells HR.out (g := g) rfl k _ hyk
        rwa [Addr.add_lit, Nat.zero_add] at h
      have hfree : wr.frozen? ⟨g, k, none⟩ = false := by
        rcases HR.out.2 with ⟨e, _⟩ | ⟨g', c', cur, e, _, hh, _⟩
        · cases e
        · cases e
          exact frozen_of_row wr g k cur 5 hh
      clear hyk
      go_wp2
      go_roundw
      case rel =>
        exact ⟨k + 1, by omega, by go_num, ⟨_, HR.out.set HY.out k _, by rw [List.length_set]; exact HY.out⟩, hb1.trans (But.setCell _ _ _ _)⟩
      case measure => simp [intOf]; omega
    · go_wp2
      go_end0
      exact ⟨rfl, hb1⟩

theorem NewO.below {w w' : World} {B : Nat} {v : Value} {xs : List Int} (h : NewO w B v xs) (hb : Below w.heap.size w w') : NewO w' B v xs := by
  rcases h with h | ⟨h, hn⟩
  · exact .inl h
  · refine .inr ⟨?_, hn⟩
    obtain ⟨h1, h2⟩ := h
    refine ⟨h1, ?_⟩
    rcases h2 with h2 | ⟨g, cap, cur, e, hg, hh, r⟩
    · exact .inl h2
    · refine .inr ⟨g, cap, cur, e, hg, ?_, r⟩
      rw [hb.block g (Array.getElem?_eq_some_iff.1 hh).1]
      exact hh

theorem NewO.sl {w : World} {B : Nat} {v : Value} {xs : List Int} (h : NewO w B v xs) (hb : isB xs) (hl : xs.length ≤ 140737488355328) : ∃ a cap, v = .slice a xs.length cap ∧ Sl w a xs.length cap xs := by
  rcases h with ⟨rfl, rfl⟩ | ⟨h, _⟩
  · exact ⟨none, 0, rfl, rfl, by simp, by omega, hl, hb, fun _ => ⟨rfl, rfl⟩, fun h => absurd h (by simp)⟩
  · exact h.sl' hb hl

/-- spoil of a slice that the call made: only its own row turns. -/
theorem spoil_newO (v : Value) (xs : List Int) (B : Nat) (w : World) (h : NewO w B v xs) (hn : xs.length ≤ 140737488355328) :
    Calls Try.prog 26 #[v] w fun e w' => e = .returned (.tuple #[]) ∧ Below B w w' ∧ ∀ a len cap ys, Sl w a len cap ys → (∀ x, a = some x → v.ownBlock ≠ some x.block) → Sl w' a len cap ys := by
  rcases h with ⟨rfl, rfl⟩ | ⟨h, hne⟩
  · go_enter Try.func26, Try.ntmps26
    go_wp2
    refine wp_loop_rounds 1 ?_
    rw [rounds_succ]
    go_wp2
    go_end0
    exact ⟨rfl, Below.refl _ _, fun a len cap ys h _ => h⟩
  · have h' := h
    rcases h'.2 with ⟨e, _⟩ | ⟨g, cap, cur, rfl, hg, _⟩
    · exact absurd e hne
    · refine (spoil_own g xs.length cap B xs w h rfl hn).mono ?_
      rintro e w' ⟨rfl, hbut⟩
      refine ⟨rfl, hbut.below hg, fun a len cap ys hs ha => hs.but hbut (fun _ x hx => ?_)⟩
      have := ha x hx
      simpa [Value.ownBlock, eq_comm] using this

end Go.Proofs.Ytpfpgimhnmnhlaa
