/-
  slices.Grow, slices.Concat of two and slices.Clone over runs.
-/
import Derived.Test.YtabpfbankinojaaDgv
import Derived.Lib.AppendZeros
namespace Go.Proofs.Ytabpfbankinojaa
open Go.RowKit
set_option linter.unusedVariables false
set_option linter.unusedSimpArgs false
set_option maxRecDepth 100000

theorem undIk : Try.prog.underlying 3 = some (.int .i64) := by kernel_rfl
theorem infoR : (Try.prog.info? 59).map (fun i => (i.zero, i.size, i.bytes)) = some (some (.slice none 0 0), 1, 24) := by kernel_rfl
theorem undTR : Try.prog.underlying 40 = some (.slice 59) := by kernel_rfl
theorem roRR : Ro 68 40 1 24 (.slice none 0 0) := ⟨by kernel_rfl, by kernel_rfl, by kernel_rfl, by kernel_rfl, by omega, by omega, by omega, fun w => by kernel_rfl⟩
theorem sl_nilK (v : World) : (Instr.slice 40 (.slice none 0 0) none (some (.int .i64 0)) none).run Try.prog v = .ok (.slice none 0 0) v := by kernel_rfl
theorem sl_toK (g n cap : Nat) (v : World) : (Instr.slice 40 (.slice (some ⟨g, 0, none⟩) n cap) none (some (.int .i64 0)) none).run Try.prog v = .ok (.slice (some ⟨g, 0, none⟩) 0 cap) v := by
  have := run_slice_h v 40 (some ⟨g, 0, none⟩) n cap roR.und2 .i64 0 (by omega) (by omega)
  rw [roR.el, roR.sz] at this
  simpa [sliced, Addr.add_lit] using this
/-- append(nil, make([][]placed, n)...) -/
theorem zeros_ownK (n : Nat) (ty : TypeId) (w : World) (h0 : 0 < n) (hl : n ≤ 1099511627776) :
    ∃ cap w', (Builtin.append_ #[40, 3] ty #[.slice none 0 0, .int .i64 (n : Int)]).run Try.prog w = .ok (.slice (some ⟨w.heap.size, 0, none⟩) n cap) w' ∧ w'.ownsRow w.heap.size 59 1 (.slice (some ⟨w.heap.size, 0, none⟩) 0 cap) 0 [] ∧ Below w.heap.size w w' := by
  obtain ⟨i0, hi, hz0, hz1, hz2⟩ := info_parts infoR
  have hr := Lib.run_append_nil_zeros (P := Try.prog) w 40 3 ty 59 i0 (.slice none 0 0) .i64 .i64 undTR undIk hi hz0 n h0 (by omega) (by omega) (by rw [hz2]; omega)
  have hge := grownCap_ge w n 0 59
  have hcm := grownCap_le_maxLen w n 0 59 (by unfold maxLen; omega)
  refine ⟨_, _, hr, ⟨by simp, .inr ⟨w.heap.size, _, _, rfl, Nat.le_refl _, heap_alloc_new w.drew _, Nat.zero_le _, hcm, ?_, by simp⟩⟩, ?_⟩
  · simp only [Array.size_append, size_zeroCells]
    have e : (Value.slice none 0 0).cells.size = 1 := rfl
    rw [e]
    omega
  · exact (below_drew (Below.refl _ _)).alloc (Nat.le_refl _) _
theorem step_zerosK {dst : Option Tmp} {ty : TypeId} {pos : String} {aft : Array Edge} {gd : Option (Nat × Bool)} {ops : Array Oper} {rest : List Oper} {a : Act} {w : World} {Q : Exit → Act → World → Prop} {s x : Operand} (n : Nat) (h0 : 0 < n) (hl : n ≤ 1099511627776)
    (hw : Region.wanted ⟨dst, .call { callee := .builtin .append, args := #[s, x], argTypes := #[40, 3] }, ty, pos, aft, gd⟩ (yielded ops a.tmps) = true)
    (hs : a.eval s = .slice none 0 0) (hx : a.eval x = .int .i64 (n : Int))
    (h : ∀ g cap w', w'.ownsRow w.heap.size 59 1 (.slice (some ⟨g, 0, none⟩) 0 cap) 0 [] → Below w.heap.size w w' → wpList Try.prog ops Q rest (a.put dst (.slice (some ⟨g, 0, none⟩) n cap)) w') :
    wpList Try.prog ops Q (⟨dst, .call { callee := .builtin .append, args := #[s, x], argTypes := #[40, 3] }, ty, pos, aft, gd⟩ :: rest) a w := by
  obtain ⟨cap, w', hr, h1, h2⟩ := zeros_ownK n ty w h0 hl
  exact BigFrame.wpList_want hw fun K hK => Lib.wp_append_run w s x _ _ rfl _ _ hs hx _ _ hr (hK _ _ (h _ _ _ h1 h2))
set_option maxHeartbeats 1000000 in
theorem growK_any (n : Nat) (w : World) (h0 : 0 < n) (hn : n ≤ 1099511627776) : Calls Try.prog 28 #[.slice none 0 0, .int .i64 (n : Int)] w fun r w' => ∃ v, r = .returned v ∧ w'.ownsRow w.heap.size 59 1 v 0 [] ∧ Below w.heap.size w w' := by
  have h1 : ¬ ((n : Int) < 0) := by omega
  have h2 : 0 < (n : Int) := by omega
  have hnil := sl_nilK
  go_enter Try.func28, Try.ntmps28
  go_wp2_with (refine step_zerosK n h0 hn rfl rfl rfl ?_)
  intro g cap w1 ho hb
  have hto := sl_toK g n cap
  go_wp2
  go_ret
  exact ⟨_, rfl, ho, hb⟩
theorem row_base {w : World} {B B' : Nat} {e : TypeId} {q n : Nat} {v : Value} {xs : List Value} (h : w.ownsRow B e q v n xs) (hB : B' ≤ B) : w.ownsRow B' e q v n xs := by
  obtain ⟨h1, h2⟩ := h
  refine ⟨h1, ?_⟩
  rcases h2 with h2 | ⟨g, cap, cur, e, hg, r⟩
  · exact .inl h2
  · exact .inr ⟨g, cap, cur, e, Nat.le_trans hB hg, r⟩
theorem row_on {w w' : World} {B : Nat} {e : TypeId} {q n : Nat} {v : Value} {xs : List Value} (h : w.ownsRow B e q v n xs) (hb : Below w.heap.size w w') : w'.ownsRow B e q v n xs :=
  row_same h (fun k e => hb.block k (by obtain ⟨cs, hc⟩ := row_lies h e; exact hc.lt))
theorem roR_at (g n cap i : Nat) (I : Int) (hI : I = (i : Int)) (hi : i < n) (W : World) : (Instr.indexAt 68 (.slice (some ⟨g, 0, none⟩) n cap) (.int .i64 I)).run Try.prog W = .ok (.pointer (some ⟨g, i, none⟩)) W := by
  subst hI
  have := vw_at roRR g n cap i hi W
  rwa [Nat.mul_one] at this
set_option maxHeartbeats 2000000 in
theorem concatK_any (g m k : Nat) (s1 s2 : Value) (ys zs : List Value) (w : World) (hc : Blk w g 40 [s1, s2]) (h1 : Vw w 59 1 s1 m ys) (h2 : Vw w 59 1 s2 k zs)
    (o1 : ∀ x ∈ ys, x.oneCell' = true) (o2 : ∀ x ∈ zs, x.oneCell' = true) (hk : 0 < k) (hl : m + k ≤ 1099511627776) :
    Calls Try.prog 21 #[.slice (some ⟨g, 0, none⟩) 2 2] w fun r w' => ∃ v, r = .returned v ∧ w'.ownsRow w.heap.size 59 1 v (m + k) (ys ++ zs) ∧ Below w.heap.size w w' := by
  obtain ⟨a1, c1, rfl⟩ := h1.slice
  obtain ⟨a2, c2, rfl⟩ := h2.slice
  have e1 : w.cell? ⟨g, 0, none⟩ = some (.slice a1 m c1) := by rw [hc.cell]; rfl
  have e2 : w.cell? ⟨g, 1, none⟩ = some (.slice a2 k c2) := by rw [hc.cell]; rfl
  have HC := hide hc
  have H1 := hide h1
  have H2 := hide h2
  have O1 := hide o1
  have O2 := hide o2
  have i0 := roR_at g 2 2 0 0 rfl (by omega)
  have i1 := roR_at g 2 2 1 1 rfl (by omega)
  have n1 : ¬ ((m : Int) < 0) := by omega
  have n2 : ¬ ((m : Int) + (k : Int) < 0) := by omega
  clear hc h1 h2 o1 o2
  go_enter Try.func21, Try.ntmps21
  go_wp2
  refine wp_loop_rounds 3 ?_
  rw [rounds_succ]
  go_wp2
  rw [rounds_succ]
  go_wp2
  rw [rounds_succ]
  go_wp2_with fail
  have hg := growK_any (m + k) w (by omega) hl
  rw [Int.natCast_add] at hg
  refine hg.mono ?_
  rintro r w1 ⟨v0, rfl, ho1, hb1⟩
  have R1 := hide ho1
  have B1 := hide hb1
  clear ho1 hb1 hg e1 e2
  have e1 : w1.cell? ⟨g, 0, none⟩ = some (.slice a1 m c1) := by rw [(HC.out.on B1.out).cell]; rfl
  go_wp2
  refine wp_loop_rounds 3 ?_
  rw [rounds_succ]
  go_wp2_with (refine step_appV roR rfl rfl rfl R1.out (Vw.on H1.out B1.out) O1.out (by omega) B1.out.size ?_)
  intro v2 w2 ho2 hg2 _
  have R2 := hide ho2
  have B2 := hide (B1.out.trans (Below.of_grown hg2 B1.out.size (fun k e => row_ge R1.out e)))
  clear ho2 hg2 e1
  have e2 : w2.cell? ⟨g, 1, none⟩ = some (.slice a2 k c2) := by rw [(HC.out.on B2.out).cell]; rfl
  go_wp2_with fail
  rw [rounds_succ]
  go_wp2_with (refine step_appV roR rfl rfl rfl R2.out (Vw.on H2.out B2.out) O2.out (by omega) B2.out.size ?_)
  intro v3 w3 ho3 hg3 _
  have B3 := hide (B2.out.trans (Below.of_grown hg3 B2.out.size (fun k e => row_ge R2.out e)))
  rw [Nat.zero_add, List.nil_append] at ho3
  have R3 := hide ho3
  clear ho3 hg3 e2
  go_wp2_with fail
  rw [rounds_succ]
  go_wp2
  go_ret
  exact ⟨_, rfl, R3.out, B3.out⟩
/-- slices.Clone. -/
theorem cloneK_any (s : Value) (m : Nat) (ys : List Value) (w : World) (h : Vw w 59 1 s m ys) (o : ∀ x ∈ ys, x.oneCell' = true) (hl : m ≤ 1099511627776) :
    Calls Try.prog 24 #[s] w fun r w' => ∃ v, r = .returned v ∧ w'.ownsRow w.heap.size 59 1 v m ys ∧ Below w.heap.size w w' := by
  obtain ⟨a1, c1, rfl⟩ := h.slice
  have H := hide h
  have O := hide o
  have hem : Empt 40 59 := fun w => by kernel_rfl
  go_enter Try.func24, Try.ntmps24
  cases a1 with
  | none =>
    obtain ⟨hl1, a', c', e', _, h4⟩ := h
    injection e' with e1 _ e3
    subst e1 e3
    have hm : m = 0 := by
      by_cases h0 : m = 0
      · exact h0
      · obtain ⟨g, o, cs, e1, _⟩ := h4 h0
        cases e1
    subst hm
    have hy : ys = [] := List.eq_nil_of_length_eq_zero (by rw [hl1])
    subst hy
    clear h4 hl1 o H O
    have heq : ∀ v : World, (binOp BinOp.eql 40 (.slice none 0 c1) (.slice none 0 0)).run Try.prog v = .ok (.bool true) v := fun v => by kernel_rfl
    go_wp2
    go_ret
    exact ⟨_, rfl, World.ownsRow_nil _ _ _ _, Below.refl _ _⟩
  | some ad =>
    clear h o
    have heq : ∀ v : World, (binOp BinOp.eql 40 (.slice (some ad) m c1) (.slice none 0 0)).run Try.prog v = .ok (.bool false) v := fun v => by kernel_rfl
    go_wp2_with (refine step_zeroV (q := 1) hem rfl ?_)
    intro w1 g ho1 hg1 hb1
    have R1 := hide ho1
    have B1 := hide hb1
    clear ho1 hb1 hg1
    go_wp2_with (refine step_appV roR rfl rfl rfl R1.out (Vw.on H.out B1.out) O.out (by omega) B1.out.size ?_)
    intro v2 w2 ho2 hg2 _
    have B2 := hide (B1.out.trans (Below.of_grown hg2 B1.out.size (fun k e => row_ge R1.out e)))
    rw [Nat.zero_add, List.nil_append] at ho2
    have R2 := hide ho2
    clear ho2 hg2
    go_wp2
    go_ret
    exact ⟨_, rfl, R2.out, B2.out⟩

end Go.Proofs.Ytabpfbankinojaa
