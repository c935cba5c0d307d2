/-
  How many raw writes an entry is; where its pieces begin; its pieces.
-/
import Derived.Test.YtpocadbhajacaaaGreatDoorKmc
namespace Go.Proofs.YtpocadbhajacaaaGreatDoor
open Go.RowKit
set_option linter.unusedVariables false

/-- An entry's cells. -/
def enC (e : En) (v : Value) : List Value := [.int .i64 e.r.k, .string e.r.n, v, .int .i64 e.r.s, .string e.r.t, .int .i64 e.first, .int .i64 e.had]
theorem zEn : Zeroed 119 [.int .i64 0, .string ByteArray.empty, .slice none 0 0, .int .i64 0, .string ByteArray.empty, .int .i64 0, .int .i64 0] := fun _ _ _ _ _ _ _ => by kernel_rfl
theorem wEn : Wide 119 7 := ⟨by kernel_rfl, by kernel_rfl⟩
theorem One.en (e : En) (a : Option Addr) (l c : Nat) : One (enC e (.slice a l c)) := by
  intro v hv
  simp [enC] at hv
  rcases hv with rfl | rfl | rfl | rfl | rfl | rfl | rfl <;> rfl
theorem wrapN (x : Int) (h0 : 0 ≤ x) (h1 : x ≤ 4611686018427387904) : IntKind.i64.wrap x = x ∧ wrap64 x = x := by
  have := wrap_in x (by omega) (by omega)
  exact ⟨this, by unfold wrap64; omega⟩
theorem count_no (e : En) (v : Value) (s : Int) (w : World) (hk : e.r.k ≠ 2) : Calls Tryz.prog 83 #[.agg (enC e v).toArray, .int .i64 s] w fun r w' => r = .returned (.int .i64 1) ∧ Below w.heap.size w w' := by
  go_enter Tryz.func83, Tryz.ntmps83
  go_wp2_with (refine step_box (cs := enC e v) rfl rfl ?_)
  intro w1 g hg hle hb
  have c0 : w1.cell? ⟨g, 0, none⟩ = some (.int .i64 e.r.k) := by rw [hg.cell]; rfl
  go_wp2
  go_ret
  exact ⟨rfl, hb⟩
theorem count_ap (e : En) (a : Option Addr) (l c : Nat) (s : Nat) (w : World) (hk : e.r.k = 2) (hs : 1 ≤ s) (hs2 : s ≤ 4096) (hl : e.r.b.length = l) (hl2 : l ≤ 281474976710656) (hh : e.had ≤ 281474976710656) :
    Calls Tryz.prog 83 #[.agg (enC e (.slice a l c)).toArray, .int .i64 s] w fun r w' => r = .returned (.int .i64 (cntN s e.had e.r.b.length)) ∧ Below w.heap.size w w' := by
  subst hl
  obtain ⟨S, hS⟩ : ∃ S : Int, S = (s : Int) := ⟨_, rfl⟩
  obtain ⟨D, hD⟩ : ∃ D : Int, D = (e.had : Int) := ⟨_, rfl⟩
  obtain ⟨h, hhd⟩ : ∃ h : Int, h = ((e.had % s : Nat) : Int) := ⟨_, rfl⟩
  obtain ⟨C, hC⟩ : ∃ C : Int, C = (cntN s e.had e.r.b.length : Int) := ⟨_, rfl⟩
  have hm : e.had % s < s := Nat.mod_lt _ hs
  have f1 : D.tmod S = h := by rw [hD, hS, hhd, Int.tmod_eq_emod_of_nonneg (by omega)]; rfl
  have f2 := wrapN (h + (e.r.b.length : Int)) (by omega) (by omega)
  have f3 := wrapN (h + (e.r.b.length : Int) + S) (by omega) (by omega)
  have f4 := wrapN (h + (e.r.b.length : Int) + S - 1) (by omega) (by omega)
  have f5 : (h + (e.r.b.length : Int) + S - 1).tdiv S = C := by
    rw [hC, hhd, hS, Int.tdiv_eq_ediv_of_nonneg (by omega)]
    have : (((e.had % s : Nat) : Int) + (e.r.b.length : Int) + (s : Int) - 1) = ((e.had % s + e.r.b.length + s - 1 : Nat) : Int) := by omega
    rw [this]
    rfl
  have hCb : C ≤ 4611686018427387904 := by
    have := cnt_bd (had := e.had) (len := e.r.b.length) hs
    omega
  have f6 := wrapN C (by omega) hCb
  have f7 : ¬ S = 0 := by omega
  have f8 := wrapN h (by omega) (by omega)
  obtain ⟨f2a, f2b⟩ := f2
  obtain ⟨f3a, f3b⟩ := f3
  obtain ⟨f4a, f4b⟩ := f4
  obtain ⟨f6a, f6b⟩ := f6
  obtain ⟨f8a, f8b⟩ := f8
  rw [← hS, ← hC]
  have hcells : enC e (.slice a e.r.b.length c) = [.int .i64 2, .string e.r.n, .slice a e.r.b.length c, .int .i64 e.r.s, .string e.r.t, .int .i64 e.first, .int .i64 D] := by rw [enC, hk, hD]
  rw [hcells]
  generalize e.r.b.length = l at *
  clear hcells hS hhd hC hm hCb hD
  go_enter Tryz.func83, Tryz.ntmps83
  go_wp2_with (refine step_box (cs := [.int .i64 2, .string e.r.n, .slice a l c, .int .i64 e.r.s, .string e.r.t, .int .i64 e.first, .int .i64 D]) rfl rfl ?_)
  intro w1 g hg hle hb
  have c0 : w1.cell? ⟨g, 0, none⟩ = some (.int .i64 2) := by rw [hg.cell]; rfl
  have c2 : w1.cell? ⟨g, 2, none⟩ = some (.slice a l c) := by rw [hg.cell]; rfl
  have c6 : w1.cell? ⟨g, 6, none⟩ = some (.int .i64 D) := by rw [hg.cell]; rfl
  clear hg
  go_wp2_with fail
  go_quiet (fail)
  go_wp2
  go_ret
  exact ⟨rfl, below_drewN hb _⟩
end Go.Proofs.YtpocadbhajacaaaGreatDoor
