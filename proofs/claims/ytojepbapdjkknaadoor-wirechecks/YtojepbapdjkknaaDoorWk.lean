/-
  wire.Decode: what is given up is caught.
-/
import Derived.Test.YtojepbapdjkknaaDoorWq
import Derived.Defers
import Derived.Recover
namespace Go.Proofs.YtojepbapdjkknaaDoor
open Go.RowKit
set_option linter.unusedVariables false
set_option linter.unusedSimpArgs false

theorem zE : Zeroed 27 [.int .i64 0] := fun _ _ _ _ _ _ _ => by kernel_rfl
section
variable {dst : Option Tmp} {ty : TypeId} {pos : String} {aft : Array Edge} {gd : Option (Nat × Bool)} {ops : Array Oper} {rest : List Oper} {a : Act} {w : World} {Q : Exit → Act → World → Prop}
theorem step_buildP0 (hw : Region.wanted ⟨dst, .build 24 #[], ty, pos, aft, gd⟩ (yielded ops a.tmps) = true)
    (h : wpList Tryd.prog ops Q rest (a.put dst (.agg (pfC 0 0 0 (.slice none 0 0)).toArray)) w) : wpList Tryd.prog ops Q (⟨dst, .build 24 #[], ty, pos, aft, gd⟩ :: rest) a w :=
  step_run hw _ w (by kernel_rfl) h
theorem step_buildBr {x : Operand} {v : Value} {sa : Option Addr} {m c : Nat} (hw : Region.wanted ⟨dst, .build 90 #[(0, x)], ty, pos, aft, gd⟩ (yielded ops a.tmps) = true) (hx : a.eval x = .slice sa m c)
    (h : wpList Tryd.prog ops Q rest (a.put dst (.agg (brC (.slice sa m c) 0).toArray)) w) : wpList Tryd.prog ops Q (⟨dst, .build 90 #[(0, x)], ty, pos, aft, gd⟩ :: rest) a w :=
  step_run hw _ w (by simp only [execOp, List.map_toArray, List.map_cons, List.map_nil, hx]; kernel_rfl) h
end
/-- The deferred function where nothing was given up. -/
theorem caught_idle (p q : Addr) (w : World) :
    CallsD Tryd.prog 51 #[.pointer (some p), .pointer (some q)] .returning w fun e u' w' => e = .returned (.tuple #[]) ∧ u' = .returning ∧ w' = w := by
  refine callsD_of_wpS Tryd.func51 rfl fun c₀ cs hu => ?_
  apply wpS_seq
  apply wpS_region
  simp [wpOpsS, go_sem, recoverD, hu, Tryd.ntmps51, Exit.thenS]
  refine wpS_cond (t := false) (by simp [Act.eval, Array.replicate]) ?_
  simp only [Bool.false_eq_true, if_false]
  refine wpS_of_wp (wp_skip ?_)
  cases c₀
  simp_all [bodyPostS, results, Tryd.results51]
theorem wS1 : Tryd.prog.underlying 27 = some (.int .i64) := by kernel_rfl
set_option maxRecDepth 100000 in
theorem caught (gp ge : Nat) (u : TypeId) (pv : Value) (older : List PanicEntry) (cs0 : List Value) (y : Int) (w : World) (hp : Blk w gp 24 cs0) (hl : cs0.length = 4) (he : Blk w ge 27 [.int .i64 y]) (hne : gp ≠ ge) :
    CallsD Tryd.prog 51 #[.pointer (some ⟨gp, 0, none⟩), .pointer (some ⟨ge, 0, none⟩)] (.panicking ({ v := .iface u pv, recovered := false } :: older)) w fun e u' w' =>
      e = .returned (.tuple #[]) ∧ u' = .panicking ({ v := .iface u pv, recovered := true } :: older) ∧ Blk w' gp 24 (pfC 0 0 0 (.slice none 0 0)) ∧ Blk w' ge 27 [.int .i64 80] ∧ (∀ i, i ≠ gp → i ≠ ge → w'.heap[i]? = w.heap[i]?) ∧ w'.os = w.os ∧ w'.tape = w.tape ∧ w'.output = w.output ∧ w'.heap.size = w.heap.size := by
  refine callsD_of_wpS Tryd.func51 rfl fun c₀ cs hu => ?_
  apply wpS_seq
  apply wpS_region
  simp [wpOpsS, go_sem, recoverD, hu, Tryd.ntmps51, Exit.thenS]
  refine wpS_cond (t := true) (by simp [Act.eval, Array.replicate]) ?_
  simp only [if_true]
  refine wpS_of_wp ?_
  go_wp2_with (first | (refine step_buildP0 rfl ?_) | (refine step_storeA wP rfl rfl rfl hp rfl (One.pf _ _ _ _ _ _) hl ?_; intro w1 hg1 hb1; have c0 := (he.but hb1 hne.symm).cell 0; have z0 := (he.but hb1 hne.symm).free 0; simp at c0))
  simp [bodyPostS, results, Tryd.results51]
  exact ⟨hg1.but (But.setCell _ _ _ _) hne, (he.but hb1 hne.symm).set 0 (.int .i64 80), fun i h1 h2 => by rw [(But.setCell w1 ge 0 (.int .i64 80)).block i h2]; exact hb1.block i h1, hb1.os, hb1.tape, hb1.output, hb1.size⟩
theorem zBr : Zeroed 90 (brC (.slice none 0 0) 0) := fun _ _ _ _ _ _ _ => by kernel_rfl
theorem One.br (a : Option Addr) (l c : Nat) (p : Int) : One (brC (.slice a l c) p) := by
  intro v hv
  simp only [brC, List.mem_cons, List.not_mem_nil, or_false] at hv
  rcases hv with rfl | rfl <;> rfl

theorem DOwn.but {w w' : World} {B g : Nat} {v : Value} {n : Nat} {xs : List Int} (h : DOwn w B v n xs) (hb : But g w w') (hg : g < B) : DOwn w' B v n xs := by
  obtain ⟨h1, h2⟩ := h
  refine ⟨h1, ?_⟩
  rcases h2 with h2 | ⟨k, cap, cur, e, hB, hh, r⟩
  · exact .inl h2
  · exact .inr ⟨k, cap, cur, e, hB, by rw [hb.block k (by omega)]; exact hh, r⟩
theorem results_cc {fn : Func} {p q : Tmp} {T : TypeId} (h : fn.results = #[.cell p T, .cell q 27]) {n : Nat} (hT : Wide T n) (tmps : Array Value) (w : World)
    {g : Nat} {t : TypeId} {cs : List Value} (hp : tmps.getD p undef = .pointer (some ⟨g, 0, none⟩)) (hg : Blk w g t cs) (hl : cs.length = n) {k : Nat} {t' : TypeId} {y : Int} (hq : tmps.getD q undef = .pointer (some ⟨k, 0, none⟩)) (hk : Blk w k t' [.int .i64 y]) :
    (results fn tmps).run Tryd.prog w = .ok (.tuple #[.agg cs.toArray, .int .i64 y]) w := by
  have hp' : tmps[p]?.getD undef = .pointer (some ⟨g, 0, none⟩) := by simpa using hp
  have hq' : tmps[q]?.getD undef = .pointer (some ⟨k, 0, none⟩) := by simpa using hq
  have hc : w.cell? ⟨k, 0, none⟩ = some (.int .i64 y) := by rw [hk.cell]; rfl
  have hE : (loadVar 27 ⟨k, 0, none⟩).run Tryd.prog w = .ok (.int .i64 y) w := by simp [go_sem, hc]
  obtain ⟨d, hu, hd⟩ := hT.und
  simp [results, h, hp', hq', asAddr, run_loadVar_mid w g 0 T cs d (hg.range 0 cs (by simp)) hu hd (by rw [hT.size, hl]), hE]

set_option maxRecDepth 100000 in
set_option maxHeartbeats 1000000 in
theorem decode_any (a : Option Addr) (len cap : Nat) (xs : List Int) (w : World) (hs : Sl w a len cap xs) :
    Calls Tryd.prog 24 #[.slice a len cap] w fun e w' => Below w.heap.size w w' ∧ ((DkNo xs ∧ e = .returned (.tuple #[.agg (pfC 0 0 0 (.slice none 0 0)).toArray, .int .i64 80])) ∨
      ∃ n v, DkOK xs n ∧ e = .returned (.tuple #[.agg (pfC (xs.getD 0 0) (rdV xs 1 8) (rdV xs 9 8) v).toArray, .int .i64 0]) ∧ DOwn w' w.heap.size v n (xs.drop 18)) := by
  have hmf : ∀ (fn : Fn) (first cap : Array Value) (w : World), (Instr.makeFunc fn first cap).run Tryd.prog w = .ok (.func fn first cap) w := fun _ _ _ _ => rfl
  have S := hide hs
  clear hs
  go_enter_defers Tryd.func24, Tryd.ntmps24
  go_wp2_with (refine step_alloc zP rfl ?_)
  intro w1 gp hr1 hl1 hb1
  go_wp2_with (refine step_alloc zE rfl ?_)
  intro w2 ge hr2 hl2 hb2
  have RP := hide (hr1.on hb2)
  have RE := hide hr2
  have B2 := hide (on_below hb1 hb2)
  have npe : gp ≠ ge := by have := hr1.lt; omega
  have hle : w.heap.size ≤ ge := Nat.le_trans hb1.size hl2
  clear hr1 hr2 hb1 hb2
  go_wp2_with (first | (refine step_buildBr (v := undef) rfl rfl ?_) | (refine step_alloc zBr rfl ?_; intro w3 g hr3 hl3 hb3; have R3 := hide hr3; clear hr3) | (refine step_storeA wBr rfl rfl rfl R3.out rfl (One.br _ _ _ _) rfl ?_; intro w4 hg4 hbut4))
  have lgp := RP.out.lt
  have lge := RE.out.lt
  have RP4 := hide ((RP.out.on hb3).but hbut4 (by omega))
  have RE4 := hide ((RE.out.on hb3).but hbut4 (by omega))
  have S4 := hide (((S.out.below B2.out).below hb3).but hbut4 ((S.out.below B2.out).apart hl3))
  have B4 := hide (new_below B2.out hb3 hl3 hbut4)
  have G4 := hide hg4
  have hgw : w.heap.size ≤ g := Nat.le_trans B2.out.size hl3
  clear hg4 hbut4 hb3 R3 RP RE S B2
  refine (proof_any g a len cap xs w4 G4.out S4.out).mono ?_
  rintro e w5 ⟨hc5, ⟨hno, rfl⟩ | ⟨n, v, hok, rfl, hown⟩⟩
  · have RP5 := hide (RP4.out.chg hc5 (by omega))
    have RE5 := hide (RE4.out.chg hc5 (by omega))
    have B5 := hide (B4.out.trans (hc5.below hgw B4.out.size))
    clear hc5
    refine leaves_cons (f := 51) (args := #[.pointer (some ⟨gp, 0, none⟩), .pointer (some ⟨ge, 0, none⟩)]) (by simp) (by simp [go_sem]) ?_
    refine (caught gp ge _ _ [] _ _ _ RP5.out rfl RE5.out npe).mono ?_
    rintro e u' w6 ⟨rfl, rfl, h1, h2, h3, h4, h5, h6, h7⟩
    simp only [Leaves, settle, List.dropWhile_nil]
    refine ⟨_, results_cc rfl wP _ _ rfl h1 rfl rfl h2, ?_, .inl ⟨hno, rfl⟩⟩
    exact B5.out.trans ⟨h4, h5, h6, Nat.le_of_eq h7.symm, fun k hk => h3 k (by omega) (by omega)⟩
  · have RP5 := hide (RP4.out.chg hc5 (by omega))
    have RE5 := hide (RE4.out.chg hc5 (by omega))
    have B5 := hide (B4.out.trans (hc5.below hgw B4.out.size))
    have D5 := hide hown
    obtain ⟨va, vc, rfl⟩ : ∃ va vc, v = .slice va n vc := by
      rcases hown.2 with ⟨rfl, h0⟩ | ⟨k, cap, cur, rfl, _⟩
      · exact ⟨none, 0, by rw [h0]⟩
      · exact ⟨_, _, rfl⟩
    obtain ⟨k0, hk0⟩ : ∃ z, xs.getD 0 0 = z := ⟨_, rfl⟩
    obtain ⟨f0, hf0⟩ : ∃ z, rdV xs 1 8 = z := ⟨_, rfl⟩
    obtain ⟨s0, hs0⟩ : ∃ z, rdV xs 9 8 = z := ⟨_, rfl⟩
    rw [hk0, hf0, hs0]
    have HO := hide hok
    clear hc5 hown hok
    go_wp2_with (first | (refine step_storeA wP rfl rfl rfl RP5.out rfl (One.pf _ _ _ _ _ _) rfl ?_; intro w6 hg6 hb6; have c0 : w6.cell? ⟨ge, 0, none⟩ = some (.int .i64 0) := (by rw [(RE5.out.but hb6 npe.symm).cell]; rfl); have z0 := (RE5.out.but hb6 npe.symm).free 0))
    refine leaves_cons (f := 51) (args := #[.pointer (some ⟨gp, 0, none⟩), .pointer (some ⟨ge, 0, none⟩)]) (by simp) (by simp [go_sem]) ?_
    refine (caught_idle ⟨gp, 0, none⟩ ⟨ge, 0, none⟩ _).mono ?_
    rintro e u' w7 ⟨rfl, rfl, rfl⟩
    simp only [Leaves, settle]
    have lg := G4.out.lt
    refine ⟨_, results_cc rfl wP _ _ rfl (hg6.but (But.setCell _ _ _ _) npe) rfl rfl ((RE5.out.but hb6 npe.symm).set 0 (.int .i64 0)), ?_, .inr ⟨n, _, HO.out, by rw [hk0, hf0, hs0], ?_⟩⟩
    · exact (B5.out.trans (hb6.below hl1)).trans ((But.setCell w6 ge 0 (.int .i64 0)).below hle)
    · exact ((D5.out.but hb6 (by omega)).but (But.setCell w6 ge 0 (.int .i64 0)) (by omega)).base B4.out.size
end Go.Proofs.YtojepbapdjkknaaDoor
