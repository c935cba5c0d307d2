/-
  The names of tiles' files: the document's Name.
-/
import Derived.Test.YtlgcjdgcgnlcaaaDoorSkd
import Derived.Test.YtlgcjdgcgnlcaaaDoorTqb
namespace Go.Proofs.YtlgcjdgcgnlcaaaDoor
open Go.RowKit
set_option linter.unusedVariables false
set_option linter.unusedSimpArgs false

set_option maxHeartbeats 1000000 in
theorem snameR_any (h l i : Int) (w : World) :
    Calls Tryd.prog 7 #[.int .i64 h, .int .i64 l, .int .i64 i] w fun r w' => r = .returned (.tuple #[.string (bA (smP h l i)), .int .i64 (smE h l i)]) ∧ Below w.heap.size w w' := by
  by_cases hb : h < 1 ∨ 8 < h
  · have e1 : smP h l i = [] := by unfold smP; rw [smB_h hb]; rfl
    have e2 : smE h l i = 2 := by unfold smE; rw [smB_h hb]; rfl
    have HC := hide (heightR_no h w hb)
    rw [e1, e2]
    clear e1 e2 hb
    go_enter Tryd.func7, Tryd.ntmps7
    go_wp2_with (go_at_call 19; refine HC.out.mono ?_; rintro r w' ⟨rfl, rfl⟩)
    go_ret2
    exact ⟨rfl, Below.refl _ _⟩
  · obtain ⟨H, hH⟩ : ∃ H : Nat, h = (H : Int) := ⟨h.toNat, by omega⟩
    have hh : isH H := ⟨by omega, by omega⟩
    have hc : ∀ W : World, Calls Tryd.prog 19 #[.int .i64 h] W fun r w' => r = .returned (.bool true) ∧ w' = W := fun W => by
      rw [hH]
      exact heightR_yes H W hh
    have hf : ∀ W : World, Calls Tryd.prog 21 #[.int .i64 h] W fun r w' => r = .returned (.int .i64 ((2 ^ H : Nat) : Int)) ∧ w' = W := fun W => by
      rw [hH]
      exact full_any H (2 ^ H) W hh rfl
    obtain ⟨p, e, hpe, hp⟩ := pathR_any h l i ((2 ^ H : Nat) : Int)
    have e1 : p = smP h l i ∧ e = smE h l i ∧ (e ≠ 0 → p = [] ∧ e = 2) := by
      rcases hpe with ⟨rfl, k, rfl⟩ | ⟨rfl, k, rfl⟩
      · have kb := (smB_tOK hH).2 k
        unfold smP smE
        rw [if_pos kb, if_pos kb]
        obtain ⟨H', L, I, e1, rfl, rfl, k2⟩ := smB_nats kb
        obtain rfl : H = H' := by omega
        refine ⟨?_, rfl, fun h => absurd rfl h⟩
        rw [hH]
        simp only [Int.toNat_natCast]
        rw [sP_ok k2]
      · have kb : ¬ smB h l i = true := fun kb => k ((smB_tOK hH).1 kb)
        unfold smP smE
        rw [if_neg kb, if_neg kb]
        exact ⟨rfl, rfl, fun _ => ⟨rfl, rfl⟩⟩
    obtain ⟨rfl, rfl, hz⟩ := e1
    have HC := hide hc
    have HF := hide hf
    have HP := hide hp
    have HZ := hide hz
    clear hc hf hp hpe hb hH hz
    generalize smP h l i = p at *
    generalize smE h l i = e at *
    generalize ((2 ^ H : Nat) : Int) = q at *
    go_enter Tryd.func7, Tryd.ntmps7
    go_wp2_with (first | (go_at_call 19; refine (HC.out _).mono ?_; rintro r w' ⟨rfl, rfl⟩) | (go_at_call 21; refine (HF.out _).mono ?_; rintro r w' ⟨rfl, rfl⟩) | (refine step_buildT4 rfl rfl rfl rfl rfl ?_))
    refine (HP.out _).mono ?_
    rintro r w2 ⟨rfl, hb2⟩
    by_cases he : e = 0
    · subst he
      go_wp2
      go_ret2
      exact ⟨rfl, hb2⟩
    · obtain ⟨rfl, rfl⟩ := HZ.out he
      go_wp2
      go_ret2
      exact ⟨rfl, hb2⟩

end Go.Proofs.YtlgcjdgcgnlcaaaDoor
