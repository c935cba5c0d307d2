/-
  Both Needs tell the same: one list of tiles and one number, whatever the height and the nodes.
-/
import Derived.Test.YtnlpgkfmjlljdaaTna
import Derived.Test.YtnlpgkfmjlljdaaTmc
namespace Go.Proofs.Ytnlpgkfmjlljdaa
open Go.RowKit
set_option linter.unusedVariables false

theorem V_first : ∀ ns : List (Int × Int), (∀ x ∈ ns, V x.1 x.2) ∨ ∃ (J : Nat) (y1 y2 : Int), ns[J]? = some (y1, y2) ∧ ¬ V y1 y2 ∧ ∀ i x, i < J → ns[i]? = some x → V x.1 x.2
  | [] => .inl (fun x hx => by cases hx)
  | n :: ns => by
    by_cases hn : V n.1 n.2
    · rcases V_first ns with h | ⟨J, y1, y2, h1, h2, h3⟩
      · refine .inl (fun x hx => ?_)
        rcases List.mem_cons.1 hx with rfl | hx
        · exact hn
        · exact h x hx
      · refine .inr ⟨J + 1, y1, y2, by simpa using h1, h2, fun i x hi hx => ?_⟩
        cases i with
        | zero => simp at hx; subst hx; exact hn
        | succ i => exact h3 i x (by omega) (by simpa using hx)
    · exact .inr ⟨0, n.1, n.2, rfl, hn, fun i x hi => by omega⟩
theorem need_both (h : Int) (ns : List (Int × Int)) (hl : ns.length ≤ 1048576) : ∃ (k : Int) (T : List Tl), T.length ≤ ns.length ∧
    (∀ (a : Option Addr) (len cap : Nat) (w : World), Nds w a len cap ns → Calls Try.prog 16 #[.int .i64 h, .slice a len cap] w fun r w' => ∃ v, r = .returned (.tuple #[v, .int .i64 k]) ∧ OwnT w' w.heap.size v T ∧ Below w.heap.size w w') ∧
    (∀ (a : Option Addr) (len cap : Nat) (w : World), Nds w a len cap ns → Calls Try.prog 17 #[.int .i64 h, .slice a len cap] w fun r w' => ∃ v, r = .returned (.tuple #[v, .int .i64 k]) ∧ OwnT w' w.heap.size v T ∧ Below w.heap.size w w') := by
  by_cases hh : h < 1 ∨ 8 < h
  · exact ⟨2, [], by simp, fun a len cap w hn => (need_bad1 h a len cap w hh).mono fun r w' ⟨e, b⟩ => ⟨_, e, OwnT.nil _ _, b⟩, fun a len cap w hn => (needR_bad1 h a len cap w hh).mono fun r w' ⟨e, b⟩ => ⟨_, e, OwnT.nil _ _, b⟩⟩
  · obtain ⟨z, rfl⟩ : ∃ z : Nat, h = (z : Int) := ⟨h.toNat, by omega⟩
    have hz : isH z := by unfold isH; omega
    rcases V_first ns with hv | ⟨J, y1, y2, h1, h2, h3⟩
    · refine ⟨0, (nwid z ns).map (mT z), ?_, fun a len cap w hn => need_ok z a len cap ns w hz hn hv (by rw [← hn.hlen]; exact hl), fun a len cap w hn => needR_ok z a len cap ns w hz hn hv (by rw [← hn.hlen]; exact hl)⟩
      rw [List.length_map]
      have := nwid_len z ns []
      simpa [nwid] using this
    · exact ⟨2, [], by simp, fun a len cap w hn => (need_bad2 z J a len cap ns y1 y2 w hz hn h3 h1 h2 (by rw [← hn.hlen]; exact hl)).mono fun r w' ⟨e, b⟩ => ⟨_, e, OwnT.nil _ _, b⟩, fun a len cap w hn => (needR_bad2 z J a len cap ns y1 y2 w hz hn h3 h1 h2 (by rw [← hn.hlen]; exact hl)).mono fun r w' ⟨e, b⟩ => ⟨_, e, OwnT.nil _ _, b⟩⟩
end Go.Proofs.Ytnlpgkfmjlljdaa
