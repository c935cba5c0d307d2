/-
  Journals that no call made.
-/
import Derived.Test.YtninkkdbcgadpaaGreatDoorKnb
import Derived.Test.YtninkkdbcgadpaaGreatDoorBu
import Derived.Test.YtninkkdbcgadpaaGreatDoorIs
namespace Go.Proofs.YtninkkdbcgadpaaGreatDoor
open Go.RowKit Go.Shelf
set_option linter.unusedVariables false

/-- A journal's cells. -/
def jnC (p : Option Addr) (g : Int) (lv : Value) : List Value := [.pointer p, .int .i64 g, lv]
section
variable {dst : Option Tmp} {ty : TypeId} {pos : String} {aft : Array Edge} {gd : Option (Nat × Bool)} {ops : Array Oper} {rest : List Oper} {a : Act} {w : World} {Q : Exit → Act → World → Prop}
theorem step_buildJn0 (hw : Region.wanted ⟨dst, .build 50 #[], ty, pos, aft, gd⟩ (yielded ops a.tmps) = true)
    (h : wpList Tryz.prog ops Q rest (a.put dst (.agg (jnC none 0 (.slice none 0 0)).toArray)) w) : wpList Tryz.prog ops Q (⟨dst, .build 50 #[], ty, pos, aft, gd⟩ :: rest) a w :=
  step_run hw _ w (by kernel_rfl) h
end
/-- A journal that nobody made. -/
def JNob (w : World) (p : Option Addr) : Prop := p = none ∨ ∃ g, p = some ⟨g, 0, none⟩ ∧ w.cell? ⟨g, 0, none⟩ = some (.pointer none)
theorem JNob.below {w w' : World} {p : Option Addr} (h : JNob w p) (hb : Below w.heap.size w w') : JNob w' p := by
  rcases h with h | ⟨g, e, h⟩
  · exact .inl h
  · exact .inr ⟨g, e, cell_kept h hb⟩
theorem jmade_nob (p : Option Addr) (w : World) (h : JNob w p) : Calls Tryz.prog 47 #[.pointer p] w fun e w' => e = .returned (.bool false) ∧ w' = w := by
  rcases h with rfl | ⟨g, rfl, h⟩
  · go_enter Tryz.func47, Tryz.ntmps47
    go_wp2
    go_ret
    exact ⟨rfl, rfl⟩
  · go_enter Tryz.func47, Tryz.ntmps47
    go_wp2
    go_ret
    exact ⟨rfl, rfl⟩
section
variable (p : Option Addr) (w : World) (h : JNob w p)
include h
theorem jadd_nob (v : Value) : Calls Tryz.prog 14 #[.pointer p, v] w fun e w' => e = .returned (.int .i64 1) ∧ w' = w := by
  go_enter Tryz.func14, Tryz.ntmps14
  go_wp2_with (go_at_call 47; refine (jmade_nob _ _ h).mono ?_; rintro e w' ⟨rfl, rfl⟩)
  go_ret
  exact ⟨rfl, rfl⟩
theorem jclear_nob (k : Int) : Calls Tryz.prog 12 #[.pointer p, .int .i64 k] w fun e w' => e = .returned (.int .i64 1) ∧ w' = w := by
  go_enter Tryz.func12, Tryz.ntmps12
  go_wp2_with (go_at_call 47; refine (jmade_nob _ _ h).mono ?_; rintro e w' ⟨rfl, rfl⟩)
  go_ret
  exact ⟨rfl, rfl⟩
theorem jlen_nob : Calls Tryz.prog 18 #[.pointer p] w fun e w' => e = .returned (.int .i64 0) ∧ w' = w := by
  go_enter Tryz.func18, Tryz.ntmps18
  go_wp2_with (go_at_call 47; refine (jmade_nob _ _ h).mono ?_; rintro e w' ⟨rfl, rfl⟩)
  go_ret
  exact ⟨rfl, rfl⟩
theorem jgen_nob : Calls Tryz.prog 19 #[.pointer p] w fun e w' => e = .returned (.int .i64 0) ∧ w' = w := by
  go_enter Tryz.func19, Tryz.ntmps19
  go_wp2_with (go_at_call 47; refine (jmade_nob _ _ h).mono ?_; rintro e w' ⟨rfl, rfl⟩)
  go_ret
  exact ⟨rfl, rfl⟩
end
theorem jopen_nob (p : Option Addr) (w : World) (h : Nob w p) : Calls Tryz.prog 8 #[.pointer p] w fun e w' => e = .returned (.tuple #[.pointer none, .int .i64 1]) ∧ w' = w := by
  go_enter Tryz.func8, Tryz.ntmps8
  go_wp2_with (go_at_call 31; refine (sector_nob _ _ h).mono ?_; rintro e w' ⟨rfl, rfl⟩)
  go_ret2
  exact ⟨rfl, rfl⟩
theorem jall_any (p : Option Addr) (w : World) : Calls Tryz.prog 17 #[.pointer p] w fun e w' => e = .returned (.func (.func 53) #[] #[.pointer (some ⟨w.heap.size, 0, none⟩)]) ∧ w' = w.alloc (.cells #[.pointer p] 30) := by
  go_enter Tryz.func17, Tryz.ntmps17
  go_wp2
  go_ret
  exact ⟨rfl, rfl⟩
theorem jall_nob_stops (Bs n₀ : Nat) (p : Option Addr) (w : World) (hB : Bs < n₀) (hn0 : n₀ ≤ w.heap.size) (hBs : w.cell? ⟨Bs, 0, none⟩ = some (.pointer p)) (h : JNob w p) :
    SeqStopsK Fence.wide 2 Tryz.prog 53 #[.pointer (some ⟨Bs, 0, none⟩)] (fun x : Unit => #[Value.int .i64 0, Value.slice none 0 0]) (Below n₀) (fun xs => xs = []) (fun pre => pre = []) 0 w := by
  intro l J Jx W hW hJ hJx hY h0
  have hc : W.cell? ⟨Bs, 0, none⟩ = some (.pointer p) := cell_kept hBs hW
  have HN := hide (h.below hW)
  refine callsIn_of_wp Tryz.func53 rfl trivial ?_ rfl
  simp only [Tryz.ntmps53, List.size_toArray, List.length_cons, List.length_nil, Nat.reduceAdd, Nat.reduceSub, Array.replicate_succ, Array.replicate_zero, List.push_toArray, List.append_toArray, List.nil_append, List.cons_append]
  gi_wp2_with fail
  refine ⟨trivial, (callsIn_wide.2 (jmade_nob _ _ HN.out)).mono ?_⟩
  rintro e w' ⟨rfl, rfl⟩
  gi_wp2
  refine bodyPost_ret (results_none rfl _ _ _) rfl ?_
  exact ⟨⟨_, rfl⟩, .inl ⟨[], rfl, h0⟩⟩

end Go.Proofs.YtninkkdbcgadpaaGreatDoor
