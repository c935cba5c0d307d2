/-
  Disks that no call made: Raw, Same, and the way through the names; New; the law's raws.
-/
import Derived.Test.YtpocadbhajacaaaGreatDoorKna
import Derived.Test.YtpocadbhajacaaaGreatDoorIs
namespace Go.Proofs.YtpocadbhajacaaaGreatDoor
open Go.RowKit Go.Shelf
set_option linter.unusedVariables false

/-- The cells of a raw write. -/
def rwC (k : Int) (n : ByteArray) (b : Value) (s : Int) (t : ByteArray) : List Value := [.int .i64 k, .string n, b, .int .i64 s, .string t]
def rw0 : List Value := rwC 0 ByteArray.empty (.slice none 0 0) 0 ByteArray.empty
theorem zRw : Zeroed 117 rw0 := fun _ _ _ _ _ _ _ => by kernel_rfl
theorem wRw : Wide 117 5 := ⟨by kernel_rfl, by kernel_rfl⟩
theorem zInt : Zeroed 3 [.int .i64 0] := fun _ _ _ _ _ _ _ => by kernel_rfl
theorem One.rw (k : Int) (n : ByteArray) (a : Option Addr) (l c : Nat) (s : Int) (t : ByteArray) : One (rwC k n (.slice a l c) s t) := by
  intro v hv
  simp [rwC] at hv
  rcases hv with rfl | rfl | rfl | rfl | rfl <;> rfl
section
variable {dst : Option Tmp} {ty : TypeId} {pos : String} {aft : Array Edge} {gd : Option (Nat × Bool)} {ops : Array Oper} {rest : List Oper} {a : Act} {w : World} {Q : Exit → Act → World → Prop}
theorem step_buildRw0 (hw : Region.wanted ⟨dst, .build 117 #[], ty, pos, aft, gd⟩ (yielded ops a.tmps) = true)
    (h : wpList Tryz.prog ops Q rest (a.put dst (.agg rw0.toArray)) w) : wpList Tryz.prog ops Q (⟨dst, .build 117 #[], ty, pos, aft, gd⟩ :: rest) a w :=
  step_run hw (.agg rw0.toArray) w (by kernel_rfl) h
/-- The cells of a disk. -/
def dkC (s : Int) (m : Option Nat) (r : Value) (n : Int) : List Value := [.int .i64 s, .map m, r, .int .i64 n]
theorem step_buildDk0 (hw : Region.wanted ⟨dst, .build 51 #[], ty, pos, aft, gd⟩ (yielded ops a.tmps) = true)
    (h : wpList Tryz.prog ops Q rest (a.put dst (.agg (dkC 0 none (.slice none 0 0) 0).toArray)) w) : wpList Tryz.prog ops Q (⟨dst, .build 51 #[], ty, pos, aft, gd⟩ :: rest) a w :=
  step_run hw (.agg (dkC 0 none (.slice none 0 0) 0).toArray) w (by kernel_rfl) h
theorem run_buildDk (s : Int) (m : Nat) (w : World) : (Instr.build 51 #[(0, .int .i64 s), (1, .map (some m))]).run Tryz.prog w = .ok (.agg (dkC s (some m) (.slice none 0 0) 0).toArray) w := by kernel_rfl
theorem step_buildDk {x y : Operand} {s : Int} {m : Nat} (hw : Region.wanted ⟨dst, .build 51 #[(0, x), (1, y)], ty, pos, aft, gd⟩ (yielded ops a.tmps) = true) (hx : a.eval x = .int .i64 s) (hy : a.eval y = .map (some m))
    (h : wpList Tryz.prog ops Q rest (a.put dst (.agg (dkC s (some m) (.slice none 0 0) 0).toArray)) w) : wpList Tryz.prog ops Q (⟨dst, .build 51 #[(0, x), (1, y)], ty, pos, aft, gd⟩ :: rest) a w :=
  step_run hw _ w (run_op (M := Instr.build 51 #[(0, .int .i64 s), (1, .map (some m))]) (by simp [execOp, hx, hy]) (run_buildDk s m w)) h
end
/-- A new disk's memory. -/
structure New0 (w w' : World) (g m : Nat) (s : Int) : Prop where
  dk : Blk w' g 51 (dkC s (some m) (.slice none 0 0) 0)
  mp : w'.heap[m]? = some (.map #[] 0)
  new : w.heap.size ≤ g ∧ w.heap.size ≤ m
  bel : Below w.heap.size w w'
theorem empty_any (s : Int) (w : World) : Calls Tryz.prog 54 #[.int .i64 s] w fun e w' => ∃ g m, e = .returned (.pointer (some ⟨g, 0, none⟩)) ∧ New0 w w' g m s := by
  have hmk : ∀ w : World, (Instr.makeMap 48 none).run Tryz.prog w = .ok (.map (some w.heap.size)) (w.alloc (.map #[] 0)) := fun w => by kernel_rfl
  go_enter Tryz.func54, Tryz.ntmps54
  go_wp2_with (first | (refine step_buildDk rfl rfl rfl ?_) | (refine step_box (cs := dkC s (some w.heap.size) (.slice none 0 0) 0) rfl rfl ?_; intro w1 g1 hg1 hle1 hb1))
  go_ret
  have hb0 : Below w.heap.size w (w.alloc (.map #[] 0)) := (Below.refl _ _).alloc (Nat.le_refl _) _
  refine ⟨_, _, rfl, hg1, ?_, ⟨by have := hb0.size; omega, Nat.le_refl _⟩, hb0.trans (hb1.mono hb0.size)⟩
  have e : (w.alloc (.map #[] 0)).heap[w.heap.size]? = some (.map #[] 0) := heap_alloc_new w _
  rw [hb1.block _ (by simp)]
  exact e
theorem new_bad (s : Int) (w : World) (h : ¬ (1 ≤ s ∧ s ≤ 4096)) : Calls Tryz.prog 20 #[.int .i64 s] w fun e w' => e = .returned (.tuple #[.pointer none, .int .i64 2]) ∧ w' = w := by
  by_cases h1 : s < 1
  · clear h
    go_enter Tryz.func20, Tryz.ntmps20
    go_wp2
    go_ret2
    exact ⟨rfl, rfl⟩
  · have h2 : 4096 < s := by omega
    clear h
    go_enter Tryz.func20, Tryz.ntmps20
    go_wp2
    go_ret2
    exact ⟨rfl, rfl⟩
theorem new_ok (s : Int) (w : World) (h1 : 1 ≤ s) (h2 : s ≤ 4096) : Calls Tryz.prog 20 #[.int .i64 s] w fun e w' => ∃ g m, e = .returned (.tuple #[.pointer (some ⟨g, 0, none⟩), .int .i64 0]) ∧ New0 w w' g m s := by
  have h3 : ¬ s < 1 := by omega
  have h4 : ¬ 4096 < s := by omega
  go_enter Tryz.func20, Tryz.ntmps20
  go_wp2_with (go_at_call 54; refine (empty_any _ _).mono ?_; rintro e w' ⟨g, m, rfl, hN⟩)
  go_ret2
  exact ⟨g, m, rfl, hN⟩

/-- Its way through the names tells nothing. -/
theorem list_nob_stops (Bs n₀ : Nat) (p : Option Addr) (w : World) (hB : Bs < n₀) (hn0 : n₀ ≤ w.heap.size) (hBs : w.cell? ⟨Bs, 0, none⟩ = some (.pointer p)) (h : Nob w p) :
    SeqStopsK Fence.wide 2 Tryz.prog 79 #[.pointer (some ⟨Bs, 0, none⟩)] (fun x : Unit => #[Value.string ByteArray.empty]) (Below n₀) (fun xs => xs = []) (fun pre => pre = []) 0 w := by
  intro l J Jx W hW hJ hJx hY h0
  have hc : W.cell? ⟨Bs, 0, none⟩ = some (.pointer p) := cell_kept hBs hW
  have HN := hide (h.below hW)
  refine callsIn_of_wp Tryz.func79 rfl trivial ?_ rfl
  simp only [Tryz.ntmps79, List.size_toArray, List.length_cons, List.length_nil, Nat.reduceAdd, Nat.reduceSub, Array.replicate_succ, Array.replicate_zero, List.push_toArray, List.append_toArray, List.nil_append, List.cons_append]
  gi_wp2_with fail
  refine ⟨trivial, (callsIn_wide.2 (made_nob _ _ HN.out)).mono ?_⟩
  rintro e w' ⟨rfl, rfl⟩
  gi_wp2
  refine bodyPost_ret (results_none rfl _ _ _) rfl ?_
  exact ⟨⟨_, rfl⟩, .inl ⟨[], rfl, h0⟩⟩

theorem same_nils (w : World) : Calls Tryz.prog 23 #[.pointer none, .pointer none] w fun e w' => e = .returned (.bool true) ∧ w' = w := by
  go_enter Tryz.func23, Tryz.ntmps23
  go_wp2
  go_ret
  exact ⟨rfl, rfl⟩
theorem same_nob (p : Option Addr) (g : Nat) (w : World) (h : Nob w p) : Calls Tryz.prog 23 #[.pointer p, .pointer (some ⟨g, 0, none⟩)] w fun e w' => e = .returned (.bool false) ∧ Below w.heap.size w w' := by
  have HN := hide h
  clear h
  have hq : ∀ x : Option Addr, ∀ v : World, (binOp .eql 26 (.pointer x) (.pointer none)).run Tryz.prog v = .ok (.bool x.isNone) v := fun x v => by cases x <;> kernel_rfl
  have nq : ∀ q, Nob (w.drewN q) p := fun q => HN.out.below (below_drewN (Below.refl _ _) q)
  have NQ := hide nq
  clear nq
  cases p with
  | none =>
    go_enter Tryz.func23, Tryz.ntmps23
    go_wp2_with fail
    go_quiet (first | (go_at_call 55; refine Calls.quiet_of_same (made_nob _ _ (NQ.out _))))
    go_wp2
    go_ret
    exact ⟨rfl, below_drewN (Below.refl _ _) _⟩
  | some x =>
    go_enter Tryz.func23, Tryz.ntmps23
    go_wp2_with fail
    go_quiet (first | (go_at_call 55; refine Calls.quiet_of_same (made_nob _ _ (NQ.out _))))
    go_wp2
    go_ret
    exact ⟨rfl, below_drewN (Below.refl _ _) _⟩
theorem same_nob2 (p : Option Addr) (g : Nat) (s : Int) (w : World) (h : Nob w p) (hg : w.cell? ⟨g, 0, none⟩ = some (.int .i64 s)) (hs : 0 < s) : Calls Tryz.prog 23 #[.pointer (some ⟨g, 0, none⟩), .pointer p] w fun e w' => e = .returned (.bool false) ∧ Below w.heap.size w w' := by
  have HN := hide h
  have HG := hide hg
  clear h hg
  go_enter Tryz.func23, Tryz.ntmps23
  go_wp2_with fail
  have hne := Sub.one w
  refine wp_region_sub (by kernel_rfl) (by kernel_rfl) ?_
  repeat (go_big_quiet_step (fail))
  go_big_quiet_step ((go_at_call 55; exact sub_call ((made_ok _ _ _ (Sub.cell HG.out _) hs).mono fun _ _ h => ⟨h.1, by rw [h.2]; exact Below.refl _ _⟩)))
  repeat (go_big_quiet_step (fail))
  go_big_quiet_step ((go_at_call 55; exact sub_call ((made_nob _ _ (HN.out.below (Sub.bel _))).mono fun _ _ h => ⟨h.1, by rw [h.2]; exact Below.refl _ _⟩)))
  repeat (go_big_quiet_step (fail))
  refine wpQuiet_nil ?_
  rintro _ ⟨⟨W, hW⟩, rfl⟩
  go_wp2
  go_ret
  exact ⟨rfl, hW⟩
end Go.Proofs.YtpocadbhajacaaaGreatDoor
