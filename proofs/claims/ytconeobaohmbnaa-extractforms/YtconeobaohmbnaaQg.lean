/-
  slices.Grow and slices.Concat over bytes; the bytes of leaves' and nodes' digests.
-/
import Derived.Test.YtconeobaohmbnaaNw
import Derived.Test.YtconeobaohmbnaaMe
import Derived.Lib.AppendZeros
namespace Go.Proofs.Ytconeobaohmbnaa
open Go.RowKit
set_option linter.unusedVariables false

theorem undIq : Try.prog.underlying 3 = some (.int .i64) := by kernel_rfl
theorem sizeBq (w : World) : (sizeOf 5).run Try.prog w = .ok 1 w := by kernel_rfl
theorem und22q : Try.prog.underlying 22 = some (.slice (Try.prog.elem 22)) := by kernel_rfl
theorem elem22q : Try.prog.elem 22 = 5 := by kernel_rfl
theorem und38q : Try.prog.underlying 29 = some (.slice (Try.prog.elem 29)) := by kernel_rfl
theorem elem38q : Try.prog.elem 29 = 22 := by kernel_rfl
theorem size25q (w : World) : (sizeOf 22).run Try.prog w = .ok 1 w := by kernel_rfl
theorem sl_toQ (g n cap k : Nat) (K : Int) (hK : K = (k : Int)) (hk : k ≤ cap) (v : World) :
    (Instr.slice 22 (.slice (some ⟨g, 0, none⟩) n cap) none (some (.int .i64 K)) none).run Try.prog v = .ok (.slice (some ⟨g, 0, none⟩) k cap) v := by
  subst hK
  rw [run_slice_h v _ _ _ _ und22q .i64 k (by omega) (by omega), elem22q, sizeBq]
  simp [sliced, Addr.add_lit]
theorem sl_nilQ (v : World) : (Instr.slice 22 (.slice none 0 0) none (some (.int .i64 0)) none).run Try.prog v = .ok (.slice none 0 0) v := by kernel_rfl
theorem idx38 (g n cap i : Nat) (I : Int) (hI : I = (i : Int)) (hi : i < n) (v : World) : (Instr.indexAt 29 (.slice (some ⟨g, 0, none⟩) n cap) (.int .i64 I)).run Try.prog v = .ok (.pointer (some ⟨g, i, none⟩)) v := by
  subst hI
  rw [run_indexAt_slice v _ _ _ _ .i64 i und38q, if_pos ⟨by omega, by omega⟩, elem38q, size25q]
  simp only [Result.andThen_ok, Int.toNat_natCast, Nat.mul_one]
  rw [Addr.add_lit, Nat.zero_add]

theorem Own.baseQ {w : World} {B B' : Nat} {v : Value} {xs : List Int} (h : Own w B v xs) (hB : B' ≤ B) : Own w B' v xs := by
  obtain ⟨h1, h2⟩ := h
  refine ⟨h1, ?_⟩
  rcases h2 with h2 | ⟨g, cap, cur, e, hg, r⟩
  · exact .inl h2
  · exact .inr ⟨g, cap, cur, e, Nat.le_trans hB hg, r⟩
/-- append(nil, make([]byte, n)...) -/
theorem zeros_own (n : Nat) (ty : TypeId) (w : World) (h0 : 0 < n) (hl : n ≤ 140737488355328) :
    ∃ cap w', (Builtin.append_ #[22, 3] ty #[.slice none 0 0, .int .i64 (n : Int)]).run Try.prog w = .ok (.slice (some ⟨w.heap.size, 0, none⟩) n cap) w' ∧ Own w' w.heap.size (.slice (some ⟨w.heap.size, 0, none⟩) 0 cap) [] ∧ Below w.heap.size w w' := by
  obtain ⟨i0, hi, hz0, hz1, hz2⟩ := info_parts infoB
  have hr := Lib.run_append_nil_zeros (P := Try.prog) w 22 3 ty 5 i0 (.int .u8 0) .i64 .i64 undBs undIq hi hz0 n h0 (by omega) (by omega) (by rw [hz2]; omega)
  have hge := grownCap_ge w n 0 5
  have hcm := grownCap_le_maxLen w n 0 5 (by unfold maxLen; omega)
  refine ⟨_, _, hr, ⟨by simp [u8s], .inr ⟨w.heap.size, _, _, rfl, Nat.le_refl _, heap_alloc_new w.drew _, Nat.zero_le _, hcm, ?_, by simp [u8s]⟩⟩, ?_⟩
  · simp only [Array.size_append, size_zeroCells]
    have e : (Value.int IntKind.u8 0).cells.size = 1 := rfl
    rw [e]
    omega
  · exact (below_drew (Below.refl _ _)).alloc (Nat.le_refl _) _

section
variable {dst : Option Tmp} {ty : TypeId} {pos : String} {aft : Array Edge} {gd : Option (Nat × Bool)} {ops : Array Oper} {rest : List Oper} {a : Act} {w : World} {Q : Exit → Act → World → Prop}
theorem step_zeros {s x : Operand} (n : Nat) (h0 : 0 < n) (hl : n ≤ 140737488355328)
    (hw : Region.wanted ⟨dst, .call { callee := .builtin .append, args := #[s, x], argTypes := #[22, 3] }, ty, pos, aft, gd⟩ (yielded ops a.tmps) = true)
    (hs : a.eval s = .slice none 0 0) (hx : a.eval x = .int .i64 (n : Int))
    (h : ∀ g cap w', Own w' w.heap.size (.slice (some ⟨g, 0, none⟩) 0 cap) [] → Below w.heap.size w w' → wpList Try.prog ops Q rest (a.put dst (.slice (some ⟨g, 0, none⟩) n cap)) w') :
    wpList Try.prog ops Q (⟨dst, .call { callee := .builtin .append, args := #[s, x], argTypes := #[22, 3] }, ty, pos, aft, gd⟩ :: rest) a w := by
  obtain ⟨cap, w', hr, h1, h2⟩ := zeros_own n ty w h0 hl
  exact BigFrame.wpList_want hw fun K hK => Lib.wp_append_run w s x _ _ rfl _ _ hs hx _ _ hr (hK _ _ (h _ _ _ h1 h2))
end

set_option maxRecDepth 100000 in
set_option maxHeartbeats 1000000 in
theorem grow_any (n : Nat) (w : World) (hn : n ≤ 140737488355328) : Calls Try.prog 7 #[.slice none 0 0, .int .i64 (n : Int)] w fun r w' => ∃ v, r = .returned v ∧ Own w' w.heap.size v [] ∧ Below w.heap.size w w' := by
  have h1 : ¬ ((n : Int) < 0) := by omega
  go_enter Try.func7, Try.ntmps7
  by_cases h0 : 0 < n
  · have h2 : 0 < (n : Int) := by omega
    have hnil := sl_nilQ
    go_wp2_with (refine step_zeros n h0 hn rfl rfl rfl ?_)
    intro g cap w1 ho hb
    have hto := sl_toQ g n cap 0 0 rfl (Nat.zero_le _)
    go_wp2
    go_ret
    exact ⟨_, rfl, ho, hb⟩
  · obtain rfl : n = 0 := by omega
    go_wp2
    go_ret
    exact ⟨_, rfl, Own.nil _ _, Below.refl _ _⟩

/-- The first k of them, one behind the other. -/
def fl (ps : List (List Int)) (k : Nat) : List Int := (ps.take k).flatten
theorem fl_succ (ps : List (List Int)) (k : Nat) (h : k < ps.length) : fl ps (k + 1) = fl ps k ++ ps.getD k [] := by
  unfold fl
  have e : ps.take (k + 1) = ps.take k ++ [ps.getD k []] := by
    rw [List.take_add_one, List.getElem?_eq_getElem h]
    simp [List.getD, List.getElem?_eq_getElem h]
  rw [e, List.flatten_append]
  simp only [List.flatten_cons, List.flatten_nil, List.append_nil]
theorem fl_le (ps : List (List Int)) : ∀ (n k : Nat), k ≤ n → (fl ps k).length ≤ (fl ps n).length := by
  intro n k h
  unfold fl
  have e : ps.take n = ps.take k ++ (ps.take n).drop k := by
    have e1 := List.take_append_drop k (ps.take n)
    rw [List.take_take, Nat.min_eq_left h] at e1
    exact e1.symm
  rw [e, List.flatten_append, List.length_append]
  omega
/-- Slices of bytes, one behind the other in memory. -/
structure SS (w : World) (g : Nat) (ss : List (Option Addr × Nat × Nat)) (ps : List (List Int)) : Prop where
  blk : Blk w g 22 (ss.map fun s => Value.slice s.1 s.2.1 s.2.2)
  len : ss.length = ps.length
  sl : ∀ i, i < ps.length → Sl w (ss.getD i (none, 0, 0)).1 (ss.getD i (none, 0, 0)).2.1 (ss.getD i (none, 0, 0)).2.2 (ps.getD i [])
theorem SS.below {w w' : World} {g : Nat} {ss : List (Option Addr × Nat × Nat)} {ps : List (List Int)} (h : SS w g ss ps) (hb : Below w.heap.size w w') : SS w' g ss ps := ⟨h.blk.on hb, h.len, fun i hi => (h.sl i hi).below hb⟩
theorem SS.at {w : World} {g : Nat} {ss : List (Option Addr × Nat × Nat)} {ps : List (List Int)} (h : SS w g ss ps) (i : Nat) (hi : i < ps.length) :
    ∃ a l c, w.cell? ⟨g, i, none⟩ = some (.slice a l c) ∧ Sl w a l c (ps.getD i []) := by
  refine ⟨_, _, _, ?_, h.sl i hi⟩
  rw [h.blk.cell, List.getElem?_map, List.getElem?_eq_getElem (by rw [h.len]; exact hi)]
  simp [List.getD, List.getElem?_eq_getElem (show i < ss.length by rw [h.len]; exact hi)]

set_option maxRecDepth 100000 in
set_option maxHeartbeats 1000000 in
theorem concat_any (g n : Nat) (ss : List (Option Addr × Nat × Nat)) (ps : List (List Int)) (w : World) (hs : SS w g ss ps) (hn : ps.length = n) (hn' : n ≤ 16) (htot : (fl ps n).length ≤ 140737488355328) :
    Calls Try.prog 6 #[.slice (some ⟨g, 0, none⟩) n n] w fun r w' => ∃ v, r = .returned v ∧ Own w' w.heap.size v (fl ps n) ∧ Below w.heap.size w w' := by
  have HS := hide hs
  have HN := hide hn
  have HT := hide htot
  clear hs hn htot
  go_enter Try.func6, Try.ntmps6
  go_wp2
  go_loopw [3, 11] (fun z i wr => ∃ k s : Nat, k ≤ n ∧ i = .int .i64 k ∧ z = .int .i64 (s : Int) ∧ Hid (s = (fl ps k).length) ∧ Below w.heap.size w wr) (fun _ i _ => n - (intOf i).toNat)
  case atStart => exact ⟨0, 0, by omega, rfl, rfl, hide rfl, Below.refl _ _⟩
  case round =>
    obtain ⟨k, s, hk, rfl, rfl, HK, hb⟩ := hrel
    have HB := hide hb
    clear hb
    by_cases hlt : k < n
    · have hlt' : (k : Int) < (n : Int) := by omega
      obtain ⟨a, l, c, hc, hsl⟩ := (HS.out.below HB.out).at k (by rw [HN.out]; exact hlt)
      have HSL := hide hsl
      have HE : Hid ((fl ps (k + 1)).length = s + l) := hide (by rw [fl_succ ps k (by rw [HN.out]; exact hlt), List.length_append, HSL.out.hlen, HK.out])
      have hle : s + l ≤ 140737488355328 := by
        have := fl_le ps n (k + 1) (by omega)
        have := HT.out
        have := HE.out
        omega
      have hix := idx38 g n n k (k : Int) rfl hlt
      have hneg : ¬ ((s : Int) + (l : Int) < 0) := by omega
      clear hsl
      go_wp2
      exact ⟨⟨k + 1, s + l, by omega, by go_num, by go_num, hide HE.out.symm, HB.out⟩, by simp [intOf]; omega⟩
    · obtain rfl : k = n := by omega
      have hlt' : ¬ ((k : Int) < (k : Int)) := by omega
      have hsz : s ≤ 140737488355328 := by have := HT.out; have := HK.out; omega
      go_wp2_with fail
      refine (grow_any s _ hsz).mono ?_
      rintro r w1 ⟨v0, rfl, ho, hb1⟩
      have B1 := hide (HB.out.trans (hb1.mono HB.out.size))
      have HO := hide (ho.baseQ HB.out.size)
      clear ho hb1
      go_wp2
      go_loopw [6, 27] (fun v i wr => ∃ j : Nat, j ≤ k ∧ i = .int .i64 j ∧ Own wr w.heap.size v (fl ps j) ∧ Below w.heap.size w wr) (fun _ i _ => k - (intOf i).toNat)
      case atStart => exact ⟨0, by omega, rfl, HO.out, B1.out⟩
      case round =>
        obtain ⟨j, hj, rfl, hov, hb⟩ := hrel
        have HB2 := hide hb
        have HOV := hide hov
        clear hb hov
        by_cases hlt2 : j < k
        · have hlt2' : (j : Int) < (k : Int) := by omega
          obtain ⟨a, l, c, hc, hsl⟩ := (HS.out.below HB2.out).at j (by rw [HN.out]; exact hlt2)
          have HSL := hide hsl
          have hix := idx38 g k k j (j : Int) rfl hlt2
          have HE : Hid (fl ps (j + 1) = fl ps j ++ ps.getD j []) := hide (fl_succ ps j (by rw [HN.out]; exact hlt2))
          have HL : Hid ((fl ps j).length + l ≤ 140737488355328) := hide (by
            have h1 := fl_le ps k (j + 1) (by omega)
            rw [HE.out, List.length_append, HSL.out.hlen] at h1
            have := HT.out
            omega)
          clear hsl
          go_wp2_with (refine step_append rfl rfl rfl HOV.out HSL.out HL.out HB2.out.size ?_)
          intro v2 w2 ho2 hg2 _
          have B2 := hide (HB2.out.grown hg2 HB2.out.size HOV.out.lt)
          have HO2 := hide ho2
          clear ho2 hg2
          go_wp2
          refine ⟨⟨j + 1, by omega, by go_num, ?_, B2.out⟩, by simp [intOf]; omega⟩
          rw [HE.out]
          exact HO2.out
        · obtain rfl : j = k := by omega
          have hlt2' : ¬ ((j : Int) < (j : Int)) := by omega
          go_wp2
          go_ret
          exact ⟨_, rfl, HOV.out, HB2.out⟩

end Go.Proofs.Ytconeobaohmbnaa
