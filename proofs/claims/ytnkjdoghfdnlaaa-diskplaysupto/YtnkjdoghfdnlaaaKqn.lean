/-
  The document's List.
-/
import Derived.Test.YtnkjdoghfdnlaaaKqm
namespace Go.Proofs.Ytnkjdoghfdnlaaa
open Go.RowKit
set_option linter.unusedVariables false

theorem rSt : Ro 91 9 1 16 (.string ByteArray.empty) := ⟨by kernel_rfl, by kernel_rfl, by kernel_rfl, rfl, by decide, by decide, fun w => by kernel_rfl⟩
theorem build_S (n : ByteArray) (w : World) : (Instr.buildSlice 91 1 #[(0, .string n)]).run Try.prog w = .ok (.slice (some ⟨w.heap.size, 0, none⟩) 1 1) (w.alloc (.cells #[.string n] 9)) := by kernel_rfl
section
variable {dst : Option Tmp} {ty : TypeId} {pos : String} {aft : Array Edge} {gd : Option (Nat × Bool)} {ops : Array Oper} {rest : List Oper} {a : Act} {w : World} {Q : Exit → Act → World → Prop}
set_option maxRecDepth 100000 in
theorem step_oneS {x : Operand} {n : ByteArray} (hw : Region.wanted ⟨dst, .buildSlice 91 1 #[(0, x)], ty, pos, aft, gd⟩ (yielded ops a.tmps) = true) (hx : a.eval x = .string n) (h : ∀ w1 v, Vw w1 9 1 v 1 [.string n] → Below w.heap.size w w1 → wpList Try.prog ops Q rest (a.put dst v) w1) :
    wpList Try.prog ops Q (⟨dst, .buildSlice 91 1 #[(0, x)], ty, pos, aft, gd⟩ :: rest) a w := by
  refine step_run hw (.slice (some ⟨w.heap.size, 0, none⟩) 1 1) (w.alloc (.cells #[.string n] 9)) ?_ (h _ _ ⟨rfl, _, _, rfl, Nat.le_refl _, fun _ => ⟨_, 0, [.string n], rfl, Blk.made w 9 [.string n], rfl⟩⟩ ((Below.refl _ _).alloc (Nat.le_refl _) _))
  unfold execOp
  simp only [List.map_toArray, List.map_cons, List.map_nil, hx]
  simp only [Sem.run_bind, build_S, Result.andThen_ok, Sem.run_pure]
end
def nmsC (l : List (ByteArray × List Int)) : List Value := l.map fun x => .string x.1
theorem nmsC_succ (l : List (ByteArray × List Int)) {k : Nat} {x : ByteArray × List Int} (h : l[k]? = some x) : nmsC (l.take (k + 1)) = nmsC (l.take k) ++ [.string x.1] := by
  obtain ⟨hi, rfl⟩ := List.getElem?_eq_some_iff.1 h
  rw [List.take_succ_eq_append_getElem hi]
  unfold nmsC
  rw [List.map_append]
  rfl
set_option maxRecDepth 100000 in
set_option maxHeartbeats 1000000 in
theorem listR_any (r s : Nat) (rs : List Rw) (R : Rm) (w : World) (h : RkAt w r s rs R) (hwt : wt rs ≤ 16777216) :
    Calls Try.prog 49 #[.pointer (some ⟨r, 0, none⟩)] w fun e w' => ∃ v, e = .returned v ∧ w'.ownsRow w.heap.size 9 1 v R.l.length (nmsC R.l) ∧ Below w.heap.size w w' := by
  have hfew := h.few2 r s rs R w hwt
  obtain ⟨fa, fc, hfv⟩ := row_slice h.fk.row
  have HFV := hide hfv
  have HH := hide h
  clear h hwt hfv
  generalize hL : R.l.length = L at *
  have HL := hide hL
  clear hL
  go_enter Try.func49, Try.ntmps49
  go_wp2
  go_loopw [3, 4] (fun o i wr => ∃ k : Nat, i = .int .i64 (k : Int) ∧ k ≤ L ∧ Hid (wr.ownsRow w.heap.size 9 1 o k (nmsC (R.l.take k))) ∧ Hid (Below w.heap.size w wr)) (fun _ i _ => L - (intOf i).toNat)
  case atStart => exact ⟨0, rfl, Nat.zero_le _, hide (World.ownsRow_nil _ _ _ _), hide (Below.refl _ _)⟩
  case round =>
    obtain ⟨k, rfl, hk, HO, HB⟩ := hrel
    have hc1 : wr.cell? ⟨r, 1, none⟩ = some (.slice fa L fc) := by rw [(HH.out.fk.below HB.out).blk.cell, ← HFV.out]; rfl
    by_cases hlt : k < L
    · obtain ⟨x, hx⟩ : ∃ x, R.l[k]? = some x := ⟨_, List.getElem?_eq_getElem (by rw [HL.out]; exact hlt)⟩
      obtain ⟨g, cap, cs, e1, hg, _, _, _, hc0, _⟩ := HH.out.fk.file hx
      rw [HFV.out] at e1
      injection e1 with e1 e2 e3
      clear e2
      subst e1 e3
      have hix := vw_at rFi g L fc k hlt
      have hcell : wr.cell? ⟨g, k * 2, none⟩ = some (.string x.1) := by rw [(hg.on HB.out).cell]; exact hc0
      have hlti : (k : Int) < (L : Int) := by omega
      have HX := hide hx
      clear hg hc0 hx
      go_wp2_with (refine step_oneS rfl rfl ?_)
      intro w1 v1 hv1 hb1
      have B1 := hide (HB.out.trans (hb1.mono HB.out.size))
      have O1 := hide (row_on HO.out hb1)
      have V1 := hide hv1
      clear hb1 hv1 hc1 hcell
      go_wp2_with (refine step_appV rSt rfl rfl rfl O1.out V1.out (fun x hx => by simp at hx; subst hx; rfl) (by omega) B1.out.size ?_)
      intro v2 w2 hv2 hgr2 hat2
      have B2 := hide (B1.out.trans (grown_below hgr2 (fun k hk => row_ge O1.out hk) B1.out.size))
      have O2 : Hid (w2.ownsRow w.heap.size 9 1 v2 (k + 1) (nmsC (R.l.take (k + 1)))) := hide (by rw [nmsC_succ R.l HX.out]; exact hv2)
      clear hv2 hgr2 hat2 B1 O1 V1 HO HB
      go_wp2
      go_roundw
      case rel => exact ⟨k + 1, by go_num, by omega, O2, B2⟩
      case measure => simp [intOf]; omega
    · have hlti : ¬ (k : Int) < (L : Int) := by omega
      have e1 : k = L := by omega
      go_wp2
      go_ret
      refine ⟨_, rfl, ?_, HB.out⟩
      have := HO.out
      rw [e1, List.take_of_length_le (by rw [HL.out]; omega)] at this
      exact this

end Go.Proofs.Ytnkjdoghfdnlaaa
