/-
  New, Clone, Runs, Len.
-/
import Derived.Test.YtabpfbankinojaaDgy
namespace Go.Proofs.Ytabpfbankinojaa
open Go.RowKit
set_option linter.unusedVariables false
set_option linter.unusedSimpArgs false
set_option maxRecDepth 100000

theorem new_any (w : World) : Calls Try.prog 7 #[] w fun e w' => ∃ g, e = .returned (.pointer (some ⟨g, 0, none⟩)) ∧ IxA w' g (.slice none 0 0) [] [] ∧ w.heap.size ≤ g ∧ Below w.heap.size w w' := by
  go_enter Try.func7, Try.ntmps7
  go_wp2
  go_ret
  exact ⟨_, rfl, ⟨Blk.made w 42 [.bool true, .slice none 0 0], ⟨⟨rfl, none, 0, rfl, Nat.le_refl _, fun h => absurd rfl h⟩, fun i hi => absurd hi (Nat.not_lt_zero i)⟩, RsOk.nil⟩, Nat.le_refl _, (Below.refl _ _).alloc (Nat.le_refl _) _⟩
theorem cloneI_any (g0 : Nat) (v : Value) (us : List Value) (rs : List (List Ent)) (w : World) (h : IxA w g0 v us rs) :
    Calls Try.prog 9 #[.pointer (some ⟨g0, 0, none⟩)] w fun e w' => ∃ g, e = .returned (.pointer (some ⟨g, 0, none⟩)) ∧ IxA w' g v us rs ∧ w.heap.size ≤ g ∧ Below w.heap.size w w' := by
  obtain ⟨a, c, rfl⟩ := h.rv.slice
  have hc : w.cell? ⟨g0, 1, none⟩ = some (.slice a rs.length c) := by rw [Blk.cell h.hd]; rfl
  have H := hide h
  have H1 := hide (made_at g0 true _ w h.hd)
  clear h
  go_enter Try.func9, Try.ntmps9
  go_wp2_with (go_at_call 18; refine H1.out.mono ?_; rintro r w' ⟨rfl, hw'⟩; subst w')
  go_ret
  have hb : Below w.heap.size w (w.alloc (.cells #[.bool true, .slice a rs.length c] 42)) := (Below.refl _ _).alloc (Nat.le_refl _) _
  exact ⟨_, rfl, ⟨Blk.made w 42 [.bool true, .slice a rs.length c], H.out.rv.on hb, H.out.ok⟩, Nat.le_refl _, hb⟩

/-- Numbers. -/
def ns (l : List Nat) : List Value := l.map fun (n : Nat) => Value.int .i64 (n : Int)
theorem ns_len (l : List Nat) : (ns l).length = l.length := by simp [ns]
theorem ns_at (l : List Nat) (i : Nat) (h : i < l.length) : (ns l)[i]? = some (.int .i64 (l.getD i 0 : Int)) := by simp [ns, List.getD, h]
theorem n_at (g n c i : Nat) (I : Int) (hI : I = (i : Int)) (hi : i < n) (W : World) : (Instr.indexAt 28 (.slice (some ⟨g, 0, none⟩) n c) (.int .i64 I)).run Try.prog W = .ok (.pointer (some ⟨g, i, none⟩)) W := by
  subst hI
  have := vw_at roN g n c i hi W
  rwa [Nat.mul_one] at this
theorem infoN : (Try.prog.info? 3).map (fun i => (i.zero, i.size, i.bytes)) = some (some (.int .i64 0), 1, 8) := by kernel_rfl
theorem step_makeN {dst : Option Tmp} {ty : TypeId} {pos : String} {aft : Array Edge} {gd : Option (Nat × Bool)} {ops : Array Oper} {rest : List Oper} {a : Act} {w : World} {Q : Exit → Act → World → Prop} {l c : Operand} {L C : Int} (n : Nat) (hw : Region.wanted ⟨dst, .makeSlice 28 l c, ty, pos, aft, gd⟩ (yielded ops a.tmps) = true)
    (hl : a.eval l = .int .i64 L) (hc : a.eval c = .int .i64 C) (hL : L = (n : Int)) (hC : C = (n : Int)) (hn : n ≤ 1048576)
    (h : ∀ w1 g, Blk w1 g 3 (ns (List.replicate n 0)) → w.heap.size ≤ g → Below w.heap.size w w1 → wpList Try.prog ops Q rest (a.put dst (.slice (some ⟨g, 0, none⟩) n n)) w1) :
    wpList Try.prog ops Q (⟨dst, .makeSlice 28 l c, ty, pos, aft, gd⟩ :: rest) a w := by
  obtain ⟨i0, hi, hz0, hz1, hz2⟩ := info_parts infoN
  subst hL hC
  refine step_run hw (.slice (some ⟨w.heap.size, 0, none⟩) n n) (w.alloc (.cells (ns (List.replicate n 0)).toArray 3)) ?_ (h _ _ (Blk.made _ _ _) (Nat.le_refl _) ((Below.refl _ _).alloc (Nat.le_refl _) _))
  have hr := run_make_row (P := Try.prog) 28 3 i0 (.int .i64 0) roN.und hi hz0 hz1 rfl .i64 .i64 n (by rw [hz2]; omega) (by omega) w
  have e : madeCells #[Value.int .i64 0] n = (ns (List.replicate n 0)).toArray := by
    apply Array.toList_inj.1
    rw [toList_madeCells_one]
    simp [ns]
  rw [e] at hr
  simp [execOp, hl, hc, hr, Result.andThen]
/-- The first k of the lengths, the others nought. -/
def lens (rs : List (List Ent)) : List Nat := rs.map List.length
def lk (rs : List (List Ent)) (k : Nat) : List Nat := (lens rs).take k ++ List.replicate (rs.length - k) 0
theorem lk_len (rs : List (List Ent)) (k : Nat) (h : k ≤ rs.length) : (lk rs k).length = rs.length := by simp [lk, lens]; omega
theorem lk_zero (rs : List (List Ent)) : lk rs 0 = List.replicate rs.length 0 := by simp [lk]
theorem lk_all (rs : List (List Ent)) : lk rs rs.length = lens rs := by
  unfold lk
  rw [Nat.sub_self, List.take_of_length_le (by simp [lens])]
  simp
theorem lk_set (rs : List (List Ent)) (k : Nat) (h : k < rs.length) : (lk rs k).set k (rs.getD k []).length = lk rs (k + 1) := by
  unfold lk
  have e : ((lens rs).take k).length = k := by simp [lens]; omega
  rw [List.set_append_right _ _ (by omega), e, Nat.sub_self]
  have e2 : rs.length - k = (rs.length - (k + 1)) + 1 := by omega
  rw [e2, List.replicate_succ, List.set_cons_zero, List.take_succ_eq_append_getElem (by simp [lens]; omega)]
  have e3 : (rs.getD k []).length = (lens rs)[k]'(by simp [lens]; omega) := by
    rw [List.getD_eq_getElem?_getD, List.getElem?_eq_getElem h, Option.getD_some]
    simp [lens]
  rw [e3, List.append_assoc]
  rfl
theorem ns_set (l : List Nat) (i x : Nat) : (ns l).set i (.int .i64 (x : Int)) = ns (l.set i x) := by simp [ns, List.map_set]
set_option maxHeartbeats 1000000 in
theorem runs_any (g0 : Nat) (v : Value) (us : List Value) (rs : List (List Ent)) (w : World) (h : IxA w g0 v us rs) (hn : rs.length ≤ 1048576) :
    Calls Try.prog 16 #[.pointer (some ⟨g0, 0, none⟩)] w fun e w' => ∃ g, e = .returned (.slice (some ⟨g, 0, none⟩) rs.length rs.length) ∧ Blk w' g 3 (ns (lens rs)) ∧ w.heap.size ≤ g ∧ Below w.heap.size w w' := by
  have HI := hide h
  have H1 := hide (made_at g0 true _ w h.hd)
  obtain ⟨av, cv, rfl⟩ := h.rv.slice
  obtain ⟨n, hnn⟩ : ∃ n, rs.length = n := ⟨_, rfl⟩
  rw [hnn] at hn ⊢
  have hc : w.cell? ⟨g0, 1, none⟩ = some (.slice av n cv) := by rw [Blk.cell h.hd, ← hnn]; rfl
  clear h
  go_enter Try.func16, Try.ntmps16
  go_wp2_with (first | (go_at_call 18; refine H1.out.mono ?_; rintro r w' ⟨rfl, hw'⟩; subst w') | (refine step_makeN n rfl rfl rfl rfl rfl hn ?_))
  intro w1 g hg hle hb
  rw [← hnn, ← lk_zero rs] at hg
  have HG := hide hg
  have HB := hide hb
  have hc1 : w1.cell? ⟨g0, 1, none⟩ = some (.slice av n cv) := by rw [Blk.cell (HI.out.on hb).hd, ← hnn]; rfl
  clear hg hb hc
  go_wp2_with fail
  try simp only [Act.put]
  go_loopw [20] (fun s wr => ∃ i : Nat, i ≤ n ∧ s = .int .i64 i ∧ Hid (Blk wr g 3 (ns (lk rs i))) ∧ Hid (Below w.heap.size w wr)) (fun s _ => n - (intOf s).toNat)
  case atStart => exact ⟨0, Nat.zero_le _, rfl, HG, HB⟩
  case round =>
    obtain ⟨i, hi, rfl, HG2, HB2⟩ := hrel
    by_cases hlt : i < n
    · have hlt' : (i : Int) < (n : Int) := by omega
      have hir : i < rs.length := by omega
      have I2 := hide (HI.out.on HB2.out)
      obtain ⟨gu, o, hix, hce⟩ := I2.out.rv.at hir
      rw [hnn] at hix
      have hcu := hce wr I2.out.rv.vw
      obtain ⟨a5, c5, hu⟩ := I2.out.rv.at' hir
      obtain ⟨mq, hmq⟩ : ∃ mq, (rs.getD i []).length = mq := ⟨_, rfl⟩
      rw [hu, hmq] at hcu
      have hgi := n_at g n n i (i : Int) rfl hlt
      have hf := HG2.out.free i
      have HS : Hid ((ns (lk rs i)).set i (.int .i64 (mq : Int)) = ns (lk rs (i + 1))) := hide (by rw [ns_set, ← hmq, lk_set rs i hir])
      have hcg : ∃ z, wr.cell? ⟨g, i, none⟩ = some z := by
        rw [HG2.out.cell]
        exact ⟨_, ns_at _ i (by rw [lk_len rs i (by omega)]; exact hir)⟩
      obtain ⟨z, hcg⟩ := hcg
      clear hce hu hmq
      go_wp2
      have hbut := But.setCell wr g i (.int .i64 (mq : Int))
      refine ⟨⟨i + 1, by omega, by go_num, hide ?_, hide (HB2.out.trans (hbut.below hle))⟩, by simp [intOf]; omega⟩
      rw [← HS.out]
      exact HG2.out.set i _
    · obtain rfl : i = n := by omega
      have hlt' : ¬ (i : Int) < (i : Int) := by omega
      go_wp2
      go_ret
      refine ⟨g, rfl, ?_, hle, HB2.out⟩
      have := HG2.out
      rwa [← hnn, lk_all] at this
set_option maxHeartbeats 1000000 in
theorem len_any (g0 : Nat) (v : Value) (us : List Value) (rs : List (List Ent)) (w : World) (h : IxA w g0 v us rs) (hc : cnt rs ≤ 4398046511104) :
    Calls Try.prog 15 #[.pointer (some ⟨g0, 0, none⟩)] w fun e w' => e = .returned (.int .i64 (cnt rs : Int)) ∧ Below w.heap.size w w' := by
  have hfew := h.ok.few hc
  have HR := hide (runs_any g0 v us rs w h (by omega))
  obtain ⟨n, hnn⟩ : ∃ n, rs.length = n := ⟨_, rfl⟩
  clear h
  go_enter Try.func15, Try.ntmps15
  go_wp2_with fail
  refine HR.out.mono ?_
  rintro e w1 ⟨g, rfl, hg, hle, hb⟩
  have HG := hide hg
  have HB := hide hb
  rw [hnn]
  clear hg hb HR
  go_wp2
  go_loopw [3, 9] (fun s3 s9 wr => ∃ i s : Nat, i ≤ n ∧ s9 = .int .i64 i ∧ s3 = .int .i64 (s : Int) ∧ Hid (s = ((lens rs).take i).sum) ∧ wr = w1) (fun _ s9 _ => n - (intOf s9).toNat)
  case atStart => exact ⟨0, 0, Nat.zero_le _, rfl, rfl, hide rfl, rfl⟩
  case round =>
    obtain ⟨i, s, hi, rfl, rfl, HS, hwr⟩ := hrel
    subst wr
    by_cases hlt : i < n
    · have hlt' : (i : Int) < (n : Int) := by omega
      have hgi := n_at g n n i (i : Int) rfl hlt
      have hil : i < (lens rs).length := by simp [lens]; omega
      obtain ⟨z, hz⟩ : ∃ z, (lens rs).getD i 0 = z := ⟨_, rfl⟩
      have hcg : w1.cell? ⟨g, i, none⟩ = some (.int .i64 (z : Int)) := by rw [HG.out.cell, ns_at _ i hil, hz]
      have HS2 : Hid (s + z = ((lens rs).take (i + 1)).sum) := hide (by
        rw [List.take_succ_eq_append_getElem hil, List.sum_append, ← HS.out, ← hz, List.getD_eq_getElem?_getD, List.getElem?_eq_getElem hil, Option.getD_some]
        simp)
      have hbd : s + z ≤ 4398046511104 := by
        rw [HS2.out]
        have h1 : ((lens rs).take (i + 1)).sum + ((lens rs).drop (i + 1)).sum = cnt rs := by
          rw [← List.sum_append, List.take_append_drop]
          rfl
        omega
      clear hz
      go_wp2
      exact ⟨⟨i + 1, s + z, by omega, by go_num, by go_num, HS2, by first | rfl | trivial⟩, by simp [intOf]; omega⟩
    · obtain rfl : i = n := by omega
      have hlt' : ¬ (i : Int) < (i : Int) := by omega
      go_wp2
      go_ret
      refine ⟨?_, HB.out⟩
      have e : s = cnt rs := by
        rw [HS.out, List.take_of_length_le (by simp [lens]; omega)]
        rfl
      rw [← e]
      rfl

end Go.Proofs.Ytabpfbankinojaa
