/-
  Indexes that no call made: nothing is told, nothing is handed out.
-/
import Derived.Test.YtabpfbankinojaaDgc
import Derived.Test.YtabpfbankinojaaDgr
namespace Go.Proofs.Ytabpfbankinojaa
open Go.RowKit Go.Shelf
set_option linter.unusedVariables false
set_option linter.unusedSimpArgs false
set_option maxRecDepth 100000

/-- A pointer to an index that no call made. -/
def NoI (w : World) (p : Option Addr) : Prop := p = none ∨ ∃ g rv, p = some ⟨g, 0, none⟩ ∧ PI w g false rv
theorem NoI.on {w w' : World} {p : Option Addr} (h : NoI w p) (hb : Below w.heap.size w w') : NoI w' p := by
  rcases h with h | ⟨g, rv, h1, h2⟩
  · exact .inl h
  · exact .inr ⟨g, rv, h1, Blk.on h2 hb⟩
section
variable (p : Option Addr) (w : World) (h : NoI w p)
include h
theorem made_nob : Calls Try.prog 18 #[.pointer p] w fun r w' => r = .returned (.bool false) ∧ w' = w := by
  rcases h with rfl | ⟨g, rv, rfl, h2⟩
  · exact made_nil w
  · exact made_at g false rv w h2
theorem find_nob (d : List Int) : Calls Try.prog 14 #[.pointer p, .agg (u8s d).toArray] w fun r w' => r = .returned (.tuple #[.int .i64 0, .bool false]) ∧ Below w.heap.size w w' := by
  have H0 := hide h
  clear h
  go_enter Try.func14, Try.ntmps14
  go_wp2_with (refine step_box (cs := u8s d) rfl rfl ?_)
  intro w1 g1 hg1 hle1 hb1
  have H1 := hide (made_nob p w1 (H0.out.on hb1))
  clear hg1
  go_wp2_with fail
  go_step3
  go_wp2_with (go_at_call 18; refine H1.out.mono ?_; rintro r w' ⟨rfl, hw'⟩; subst w')
  simp only [Exit.noGoto]
  go_ret2
  exact ⟨rfl, hb1⟩
theorem runs_nob : Calls Try.prog 16 #[.pointer p] w fun r w' => r = .returned (.slice none 0 0) ∧ w' = w := by
  have H1 := hide (made_nob p w h)
  clear h
  go_enter Try.func16, Try.ntmps16
  go_wp2_with (go_at_call 18; refine H1.out.mono ?_; rintro r w' ⟨rfl, hw'⟩; subst w')
  go_ret
  exact ⟨rfl, rfl⟩
theorem clone_nob : Calls Try.prog 9 #[.pointer p] w fun r w' => r = .returned (.pointer none) ∧ w' = w := by
  have H1 := hide (made_nob p w h)
  clear h
  go_enter Try.func9, Try.ntmps9
  go_wp2_with (go_at_call 18; refine H1.out.mono ?_; rintro r w' ⟨rfl, hw'⟩; subst w')
  go_ret
  exact ⟨rfl, rfl⟩
theorem len_nob : Calls Try.prog 15 #[.pointer p] w fun r w' => r = .returned (.int .i64 0) ∧ w' = w := by
  have H1 := hide (runs_nob p w h)
  clear h
  go_enter Try.func15, Try.ntmps15
  go_wp2_with (go_at_call 16; refine H1.out.mono ?_; rintro r w' ⟨rfl, hw'⟩; subst w')
  go_loopw [3, 9] (fun a i wr => a = .int .i64 0 ∧ i = .int .i64 0 ∧ wr = w) (fun _ _ _ => 0)
  case atStart => exact ⟨rfl, rfl, rfl⟩
  case round =>
    obtain ⟨rfl, rfl, rfl⟩ := hrel
    go_wp2
    go_ret
    exact ⟨rfl, rfl⟩
theorem add_nob (d : List Int) (q : Int) : Calls Try.prog 10 #[.pointer p, .agg (u8s d).toArray, .int .i64 q] w fun r w' => r = .returned (.int .i64 1) ∧ Below w.heap.size w w' := by
  have H0 := hide h
  clear h
  go_enter Try.func10, Try.ntmps10
  go_wp2_with (refine step_box (cs := u8s d) rfl rfl ?_)
  intro w1 g1 hg1 hle1 hb1
  have H1 := hide (made_nob p w1 (H0.out.on hb1))
  clear hg1
  go_wp2_with (go_at_call 18; refine H1.out.mono ?_; rintro r w' ⟨rfl, hw'⟩; subst w')
  go_ret
  exact ⟨rfl, hb1⟩
end
/-- All makes its closure. -/
theorem all_mk (p : Option Addr) (w : World) : Calls Try.prog 13 #[.pointer p] w fun r w' => ∃ b1, r = .returned (.func (.func 23) #[] #[.pointer (some ⟨b1, 0, none⟩)]) ∧ Blk w' b1 25 [.pointer p] ∧ w.heap.size ≤ b1 ∧ Below w.heap.size w w' := by
  go_enter Try.func13, Try.ntmps13
  go_wp2
  go_ret
  exact ⟨_, rfl, Blk.made w 25 [.pointer p], Nat.le_refl _, (Below.refl _ _).alloc (Nat.le_refl _) _⟩
theorem all_nob (p : Option Addr) (b1 n : Nat) (w : World) (h : NoI w p) (hb1 : Blk w b1 25 [.pointer p]) {α : Type} (encs : α → Array Value) (t : TypeId) (Kp : World → World → Prop) :
    SeqD t Fence.wide n Try.prog 23 #[.pointer (some ⟨b1, 0, none⟩)] encs [] Kp w := by
  intro l J Jx W hW hJ hJx hY h0
  have hc1 : W.cell? ⟨b1, 0, none⟩ = some (.pointer p) := by rw [(hb1.on hW).cell]; rfl
  have H1 := hide (made_nob p W (h.on hW))
  clear h hb1 hW hY
  refine callsIn_of_wp Try.func23 rfl trivial ?_ rfl
  simp only [Try.ntmps23, List.size_toArray, List.length_cons, List.length_nil, Nat.reduceAdd, Nat.reduceSub, Array.replicate_succ, Array.replicate_zero, List.push_toArray, List.append_toArray, List.nil_append, List.cons_append]
  refine wpIn_wide.2 ?_
  go_step3
  go_wp2_with fail
  refine H1.out.mono ?_
  rintro _ w1 ⟨rfl, hw'⟩
  subst w1
  go_wp2
  simp only [Exit.noGoto]
  refine bodyPost_ret (results_none rfl _ _ _) rfl ?_
  exact ⟨⟨_, rfl⟩, .inl h0⟩

end Go.Proofs.Ytabpfbankinojaa
