/-
  Texts one behind the other: Qg Qp Ou Qn FrC Qb Qk Qs Qc Qi Qj Oy Pb Hv Qo.
-/
import Derived.Test.YtconeobaohmbnaaDoorNw
import Derived.Test.YtconeobaohmbnaaDoorMe
import Derived.Lib.AppendZeros
import Derived.Test.YtconeobaohmbnaaDoorMc
import Derived.Test.YtconeobaohmbnaaDoorPkWA
import Derived.Test.YtconeobaohmbnaaDoorFrD
import Derived.Deep.Strs
import Derived.Test.YtconeobaohmbnaaDoorSm
import Derived.WideKeyArr
import Derived.Lib.Bytes
import Derived.Deep.Cut
import Derived.Laws.EntriesVeiled
import Derived.Test.YtconeobaohmbnaaDoorDa
import Derived.Test.YtconeobaohmbnaaDoorBu
import Derived.Great.BuildSlice

/-
  slices.Grow and slices.Concat over bytes; the bytes of leaves' and nodes' digests.
-/
namespace Go.Proofs.YtconeobaohmbnaaDoor
open Go.RowKit
set_option linter.unusedVariables false

theorem undIq : Tryd.prog.underlying 3 = some (.int .i64) := by kernel_rfl
theorem sizeBq (w : World) : (sizeOf 5).run Tryd.prog w = .ok 1 w := by kernel_rfl
theorem und22q : Tryd.prog.underlying 25 = some (.slice (Tryd.prog.elem 25)) := by kernel_rfl
theorem elem22q : Tryd.prog.elem 25 = 5 := by kernel_rfl
theorem und38q : Tryd.prog.underlying 38 = some (.slice (Tryd.prog.elem 38)) := by kernel_rfl
theorem elem38q : Tryd.prog.elem 38 = 25 := by kernel_rfl
theorem size25q (w : World) : (sizeOf 25).run Tryd.prog w = .ok 1 w := by kernel_rfl
theorem sl_toQ (g n cap k : Nat) (K : Int) (hK : K = (k : Int)) (hk : k ≤ cap) (v : World) :
    (Instr.slice 25 (.slice (some ⟨g, 0, none⟩) n cap) none (some (.int .i64 K)) none).run Tryd.prog v = .ok (.slice (some ⟨g, 0, none⟩) k cap) v := by
  subst hK
  rw [run_slice_h v _ _ _ _ und22q .i64 k (by omega) (by omega), elem22q, sizeBq]
  simp [sliced, Addr.add_lit]
theorem sl_nilQ (v : World) : (Instr.slice 25 (.slice none 0 0) none (some (.int .i64 0)) none).run Tryd.prog v = .ok (.slice none 0 0) v := by kernel_rfl
theorem idx38 (g n cap i : Nat) (I : Int) (hI : I = (i : Int)) (hi : i < n) (v : World) : (Instr.indexAt 38 (.slice (some ⟨g, 0, none⟩) n cap) (.int .i64 I)).run Tryd.prog v = .ok (.pointer (some ⟨g, i, none⟩)) v := by
  subst hI
  rw [run_indexAt_slice v _ _ _ _ .i64 i und38q, if_pos ⟨by omega, by omega⟩, elem38q, size25q]
  simp only [Result.andThen_ok, Int.toNat_natCast, Nat.mul_one]
  rw [Addr.add_lit, Nat.zero_add]

theorem Own.baseQ {w : World} {B B' : Nat} {v : Value} {xs : List Int} (h : Own w B v xs) (hB : B' ≤ B) : Own w B' v xs := by
  obtain ⟨h1, h2⟩ := h
  refine ⟨h1, ?_⟩
  rcases h2 with h2 | ⟨g, cap, cur, e, hg, r⟩
  · exact .inl h2
  · exact .inr ⟨g, cap, cur, e, Nat.le_trans hB hg, r⟩
/-- append(nil, make([]byte, n)...) -/
theorem zeros_own (n : Nat) (ty : TypeId) (w : World) (h0 : 0 < n) (hl : n ≤ 140737488355328) :
    ∃ cap w', (Builtin.append_ #[25, 3] ty #[.slice none 0 0, .int .i64 (n : Int)]).run Tryd.prog w = .ok (.slice (some ⟨w.heap.size, 0, none⟩) n cap) w' ∧ Own w' w.heap.size (.slice (some ⟨w.heap.size, 0, none⟩) 0 cap) [] ∧ Below w.heap.size w w' := by
  obtain ⟨i0, hi, hz0, hz1, hz2⟩ := info_parts infoB
  have hr := Lib.run_append_nil_zeros (P := Tryd.prog) w 25 3 ty 5 i0 (.int .u8 0) .i64 .i64 undBs undIq hi hz0 n h0 (by omega) (by omega) (by rw [hz2]; omega)
  have hge := grownCap_ge w n 0 5
  have hcm := grownCap_le_maxLen w n 0 5 (by unfold maxLen; omega)
  refine ⟨_, _, hr, ⟨by simp [u8s], .inr ⟨w.heap.size, _, _, rfl, Nat.le_refl _, heap_alloc_new w.drew _, Nat.zero_le _, hcm, ?_, by simp [u8s]⟩⟩, ?_⟩
  · simp only [Array.size_append, size_zeroCells]
    have e : (Value.int IntKind.u8 0).cells.size = 1 := rfl
    rw [e]
    omega
  · exact (below_drew (Below.refl _ _)).alloc (Nat.le_refl _) _

section
variable {dst : Option Tmp} {ty : TypeId} {pos : String} {aft : Array Edge} {gd : Option (Nat × Bool)} {ops : Array Oper} {rest : List Oper} {a : Act} {w : World} {Q : Exit → Act → World → Prop}
theorem step_zeros {s x : Operand} (n : Nat) (h0 : 0 < n) (hl : n ≤ 140737488355328)
    (hw : Region.wanted ⟨dst, .call { callee := .builtin .append, args := #[s, x], argTypes := #[25, 3] }, ty, pos, aft, gd⟩ (yielded ops a.tmps) = true)
    (hs : a.eval s = .slice none 0 0) (hx : a.eval x = .int .i64 (n : Int))
    (h : ∀ g cap w', Own w' w.heap.size (.slice (some ⟨g, 0, none⟩) 0 cap) [] → Below w.heap.size w w' → wpList Tryd.prog ops Q rest (a.put dst (.slice (some ⟨g, 0, none⟩) n cap)) w') :
    wpList Tryd.prog ops Q (⟨dst, .call { callee := .builtin .append, args := #[s, x], argTypes := #[25, 3] }, ty, pos, aft, gd⟩ :: rest) a w := by
  obtain ⟨cap, w', hr, h1, h2⟩ := zeros_own n ty w h0 hl
  exact BigFrame.wpList_want hw fun K hK => Lib.wp_append_run w s x _ _ rfl _ _ hs hx _ _ hr (hK _ _ (h _ _ _ h1 h2))
end

set_option maxRecDepth 100000 in
set_option maxHeartbeats 1000000 in
theorem grow_any (n : Nat) (w : World) (hn : n ≤ 140737488355328) : Calls Tryd.prog 105 #[.slice none 0 0, .int .i64 (n : Int)] w fun r w' => ∃ v, r = .returned v ∧ Own w' w.heap.size v [] ∧ Below w.heap.size w w' := by
  have h1 : ¬ ((n : Int) < 0) := by omega
  go_enter Tryd.func105, Tryd.ntmps105
  by_cases h0 : 0 < n
  · have h2 : 0 < (n : Int) := by omega
    have hnil := sl_nilQ
    go_wp2_with (refine step_zeros n h0 hn rfl rfl rfl ?_)
    intro g cap w1 ho hb
    have hto := sl_toQ g n cap 0 0 rfl (Nat.zero_le _)
    go_wp2
    go_ret
    exact ⟨_, rfl, ho, hb⟩
  · obtain rfl : n = 0 := by omega
    go_wp2
    go_ret
    exact ⟨_, rfl, Own.nil _ _, Below.refl _ _⟩

/-- The first k of them, one behind the other. -/
def fl (ps : List (List Int)) (k : Nat) : List Int := (ps.take k).flatten
theorem fl_succ (ps : List (List Int)) (k : Nat) (h : k < ps.length) : fl ps (k + 1) = fl ps k ++ ps.getD k [] := by
  unfold fl
  have e : ps.take (k + 1) = ps.take k ++ [ps.getD k []] := by
    rw [List.take_add_one, List.getElem?_eq_getElem h]
    simp [List.getD, List.getElem?_eq_getElem h]
  rw [e, List.flatten_append]
  simp only [List.flatten_cons, List.flatten_nil, List.append_nil]
theorem fl_le (ps : List (List Int)) : ∀ (n k : Nat), k ≤ n → (fl ps k).length ≤ (fl ps n).length := by
  intro n k h
  unfold fl
  have e : ps.take n = ps.take k ++ (ps.take n).drop k := by
    have e1 := List.take_append_drop k (ps.take n)
    rw [List.take_take, Nat.min_eq_left h] at e1
    exact e1.symm
  rw [e, List.flatten_append, List.length_append]
  omega
/-- Slices of bytes, one behind the other in memory. -/
structure SS (w : World) (g : Nat) (ss : List (Option Addr × Nat × Nat)) (ps : List (List Int)) : Prop where
  blk : Blk w g 25 (ss.map fun s => Value.slice s.1 s.2.1 s.2.2)
  len : ss.length = ps.length
  sl : ∀ i, i < ps.length → Sl w (ss.getD i (none, 0, 0)).1 (ss.getD i (none, 0, 0)).2.1 (ss.getD i (none, 0, 0)).2.2 (ps.getD i [])
theorem SS.below {w w' : World} {g : Nat} {ss : List (Option Addr × Nat × Nat)} {ps : List (List Int)} (h : SS w g ss ps) (hb : Below w.heap.size w w') : SS w' g ss ps := ⟨h.blk.on hb, h.len, fun i hi => (h.sl i hi).below hb⟩
theorem SS.at {w : World} {g : Nat} {ss : List (Option Addr × Nat × Nat)} {ps : List (List Int)} (h : SS w g ss ps) (i : Nat) (hi : i < ps.length) :
    ∃ a l c, w.cell? ⟨g, i, none⟩ = some (.slice a l c) ∧ Sl w a l c (ps.getD i []) := by
  refine ⟨_, _, _, ?_, h.sl i hi⟩
  rw [h.blk.cell, List.getElem?_map, List.getElem?_eq_getElem (by rw [h.len]; exact hi)]
  simp [List.getD, List.getElem?_eq_getElem (show i < ss.length by rw [h.len]; exact hi)]

set_option maxRecDepth 100000 in
set_option maxHeartbeats 1000000 in
theorem concat_any (g n : Nat) (ss : List (Option Addr × Nat × Nat)) (ps : List (List Int)) (w : World) (hs : SS w g ss ps) (hn : ps.length = n) (hn' : n ≤ 16) (htot : (fl ps n).length ≤ 140737488355328) :
    Calls Tryd.prog 82 #[.slice (some ⟨g, 0, none⟩) n n] w fun r w' => ∃ v, r = .returned v ∧ Own w' w.heap.size v (fl ps n) ∧ Below w.heap.size w w' := by
  have HS := hide hs
  have HN := hide hn
  have HT := hide htot
  clear hs hn htot
  go_enter Tryd.func82, Tryd.ntmps82
  go_wp2
  go_loopw [3, 11] (fun z i wr => ∃ k s : Nat, k ≤ n ∧ i = .int .i64 k ∧ z = .int .i64 (s : Int) ∧ Hid (s = (fl ps k).length) ∧ Below w.heap.size w wr) (fun _ i _ => n - (intOf i).toNat)
  case atStart => exact ⟨0, 0, by omega, rfl, rfl, hide rfl, Below.refl _ _⟩
  case round =>
    obtain ⟨k, s, hk, rfl, rfl, HK, hb⟩ := hrel
    have HB := hide hb
    clear hb
    by_cases hlt : k < n
    · have hlt' : (k : Int) < (n : Int) := by omega
      obtain ⟨a, l, c, hc, hsl⟩ := (HS.out.below HB.out).at k (by rw [HN.out]; exact hlt)
      have HSL := hide hsl
      have HE : Hid ((fl ps (k + 1)).length = s + l) := hide (by rw [fl_succ ps k (by rw [HN.out]; exact hlt), List.length_append, HSL.out.hlen, HK.out])
      have hle : s + l ≤ 140737488355328 := by
        have := fl_le ps n (k + 1) (by omega)
        have := HT.out
        have := HE.out
        omega
      have hix := idx38 g n n k (k : Int) rfl hlt
      have hneg : ¬ ((s : Int) + (l : Int) < 0) := by omega
      clear hsl
      go_wp2
      exact ⟨⟨k + 1, s + l, by omega, by go_num, by go_num, hide HE.out.symm, HB.out⟩, by simp [intOf]; omega⟩
    · obtain rfl : k = n := by omega
      have hlt' : ¬ ((k : Int) < (k : Int)) := by omega
      have hsz : s ≤ 140737488355328 := by have := HT.out; have := HK.out; omega
      go_wp2_with fail
      refine (grow_any s _ hsz).mono ?_
      rintro r w1 ⟨v0, rfl, ho, hb1⟩
      have B1 := hide (HB.out.trans (hb1.mono HB.out.size))
      have HO := hide (ho.baseQ HB.out.size)
      clear ho hb1
      go_wp2
      go_loopw [6, 27] (fun v i wr => ∃ j : Nat, j ≤ k ∧ i = .int .i64 j ∧ Own wr w.heap.size v (fl ps j) ∧ Below w.heap.size w wr) (fun _ i _ => k - (intOf i).toNat)
      case atStart => exact ⟨0, by omega, rfl, HO.out, B1.out⟩
      case round =>
        obtain ⟨j, hj, rfl, hov, hb⟩ := hrel
        have HB2 := hide hb
        have HOV := hide hov
        clear hb hov
        by_cases hlt2 : j < k
        · have hlt2' : (j : Int) < (k : Int) := by omega
          obtain ⟨a, l, c, hc, hsl⟩ := (HS.out.below HB2.out).at j (by rw [HN.out]; exact hlt2)
          have HSL := hide hsl
          have hix := idx38 g k k j (j : Int) rfl hlt2
          have HE : Hid (fl ps (j + 1) = fl ps j ++ ps.getD j []) := hide (fl_succ ps j (by rw [HN.out]; exact hlt2))
          have HL : Hid ((fl ps j).length + l ≤ 140737488355328) := hide (by
            have h1 := fl_le ps k (j + 1) (by omega)
            rw [HE.out, List.length_append, HSL.out.hlen] at h1
            have := HT.out
            omega)
          clear hsl
          go_wp2_with (refine step_append rfl rfl rfl HOV.out HSL.out HL.out HB2.out.size ?_)
          intro v2 w2 ho2 hg2 _
          have B2 := hide (HB2.out.grown hg2 HB2.out.size HOV.out.lt)
          have HO2 := hide ho2
          clear ho2 hg2
          go_wp2
          refine ⟨⟨j + 1, by omega, by go_num, ?_, B2.out⟩, by simp [intOf]; omega⟩
          rw [HE.out]
          exact HO2.out
        · obtain rfl : j = k := by omega
          have hlt2' : ¬ ((j : Int) < (j : Int)) := by omega
          go_wp2
          go_ret
          exact ⟨_, rfl, HOV.out, HB2.out⟩

end Go.Proofs.YtconeobaohmbnaaDoor

/-
  The bytes of leaves' and nodes' digests: LeafPreimage, Preimage.
-/
namespace Go.Proofs.YtconeobaohmbnaaDoor
open Go.RowKit
set_option linter.unusedVariables false

theorem build_1q (q : Int) (w : World) : (Instr.buildSlice 25 1 #[(0, .int .u8 q)]).run Tryd.prog w = .ok (.slice (some ⟨w.heap.size, 0, none⟩) 1 1) (w.alloc (.cells #[.int .u8 q] 5)) := by kernel_rfl
theorem build_2q (a b : Option Addr) (l c m d : Nat) (w : World) : (Instr.buildSlice 38 2 #[(0, .slice a l c), (1, .slice b m d)]).run Tryd.prog w = .ok (.slice (some ⟨w.heap.size, 0, none⟩) 2 2) (w.alloc (.cells #[.slice a l c, .slice b m d] 25)) := by kernel_rfl
theorem build_3q (a b e : Option Addr) (l c m d n f : Nat) (w : World) : (Instr.buildSlice 38 3 #[(0, .slice a l c), (1, .slice b m d), (2, .slice e n f)]).run Tryd.prog w = .ok (.slice (some ⟨w.heap.size, 0, none⟩) 3 3) (w.alloc (.cells #[.slice a l c, .slice b m d, .slice e n f] 25)) := by kernel_rfl
theorem slice_Dq (g : Nat) (v : World) : (Instr.sliceAt 23 (.pointer (some ⟨g, 0, none⟩)) none none none).run Tryd.prog v = .ok (.slice (some ⟨g, 0, none⟩) 32 32) v := by kernel_rfl
theorem Blk.slQ {w : World} {g : Nat} {t : TypeId} {xs : List Int} (h : Blk w g t (u8s xs)) (hb : isB xs) (hl : xs.length ≤ 140737488355328) : Sl w (some ⟨g, 0, none⟩) xs.length xs.length xs := by
  refine ⟨rfl, Nat.le_refl _, by omega, hl, hb, (fun e => by cases e), fun _ => ⟨g, 0, rfl, fun i hi => ?_⟩⟩
  rw [Nat.zero_add, h.cell]
  exact u8s_get xs i hi
theorem one_slQ (w : World) (x : Int) (hx : 0 ≤ x ∧ x ≤ 255) : Sl (w.alloc (.cells #[.int .u8 x] 5)) (some ⟨w.heap.size, 0, none⟩) 1 1 [x] := by
  have := (Blk.made w 5 (u8s [x])).slQ (by intro y hy; simp at hy; omega) (by simp)
  exact this
section
variable {dst : Option Tmp} {ty : TypeId} {pos : String} {aft : Array Edge} {gd : Option (Nat × Bool)} {ops : Array Oper} {rest : List Oper} {a : Act} {w : World} {K : Act → World → Prop} {Q : Exit → Act → World → Prop}
set_option maxRecDepth 100000 in
theorem wp_1q {x : Operand} {q : Int} (hq : 0 ≤ q ∧ q ≤ 255) (hx : a.eval x = .int .u8 q) (h : ∀ w1 g, Sl w1 (some ⟨g, 0, none⟩) 1 1 [q] → Below w.heap.size w w1 → K (a.put dst (.slice (some ⟨g, 0, none⟩) 1 1)) w1) :
    Oper.wp Tryd.prog ⟨dst, .buildSlice 25 1 #[(0, x)], ty, pos, aft, gd⟩ a w K Q := by
  refine wp_runV (.slice (some ⟨w.heap.size, 0, none⟩) 1 1) (w.alloc (.cells #[.int .u8 q] 5)) ?_ (h _ _ (one_slQ w q hq) ((Below.refl _ _).alloc (Nat.le_refl _) _))
  unfold execOp
  simp only [List.map_toArray, List.map_cons, List.map_nil, hx]
  simp only [Sem.run_bind, build_1q, Result.andThen_ok, Sem.run_pure]
set_option maxRecDepth 100000 in
theorem wp_2q {x y : Operand} {p q : Option Addr} {l c m d : Nat} (hx : a.eval x = .slice p l c) (hy : a.eval y = .slice q m d) (h : ∀ w1 g, Blk w1 g 25 [.slice p l c, .slice q m d] → Below w.heap.size w w1 → K (a.put dst (.slice (some ⟨g, 0, none⟩) 2 2)) w1) :
    Oper.wp Tryd.prog ⟨dst, .buildSlice 38 2 #[(0, x), (1, y)], ty, pos, aft, gd⟩ a w K Q := by
  refine wp_runV (.slice (some ⟨w.heap.size, 0, none⟩) 2 2) (w.alloc (.cells #[.slice p l c, .slice q m d] 25)) ?_ (h _ _ (Blk.made w _ [.slice p l c, .slice q m d]) ((Below.refl _ _).alloc (Nat.le_refl _) _))
  unfold execOp
  simp only [List.map_toArray, List.map_cons, List.map_nil, hx, hy]
  simp only [Sem.run_bind, build_2q, Result.andThen_ok, Sem.run_pure]
set_option maxRecDepth 100000 in
theorem wp_3q {x y z : Operand} {p q r : Option Addr} {l c m d n f : Nat} (hx : a.eval x = .slice p l c) (hy : a.eval y = .slice q m d) (hz : a.eval z = .slice r n f) (h : ∀ w1 g, Blk w1 g 25 [.slice p l c, .slice q m d, .slice r n f] → Below w.heap.size w w1 → K (a.put dst (.slice (some ⟨g, 0, none⟩) 3 3)) w1) :
    Oper.wp Tryd.prog ⟨dst, .buildSlice 38 3 #[(0, x), (1, y), (2, z)], ty, pos, aft, gd⟩ a w K Q := by
  refine wp_runV (.slice (some ⟨w.heap.size, 0, none⟩) 3 3) (w.alloc (.cells #[.slice p l c, .slice q m d, .slice r n f] 25)) ?_ (h _ _ (Blk.made w _ [.slice p l c, .slice q m d, .slice r n f]) ((Below.refl _ _).alloc (Nat.le_refl _) _))
  unfold execOp
  simp only [List.map_toArray, List.map_cons, List.map_nil, hx, hy, hz]
  simp only [Sem.run_bind, build_3q, Result.andThen_ok, Sem.run_pure]
set_option maxRecDepth 100000 in
theorem step_1q {x : Operand} {q : Int} (hq : 0 ≤ q ∧ q ≤ 255) (hw : Region.wanted ⟨dst, .buildSlice 25 1 #[(0, x)], ty, pos, aft, gd⟩ (yielded ops a.tmps) = true) (hx : a.eval x = .int .u8 q)
    (h : ∀ w1 g, Sl w1 (some ⟨g, 0, none⟩) 1 1 [q] → Below w.heap.size w w1 → wpList Tryd.prog ops Q rest (a.put dst (.slice (some ⟨g, 0, none⟩) 1 1)) w1) :
    wpList Tryd.prog ops Q (⟨dst, .buildSlice 25 1 #[(0, x)], ty, pos, aft, gd⟩ :: rest) a w :=
  BigFrame.wpList_want hw fun K hK => wp_1q hq hx fun w1 g h1 h2 => hK _ _ (h w1 g h1 h2)
set_option maxRecDepth 100000 in
theorem step_2q {x y : Operand} {p q : Option Addr} {l c m d : Nat} (hw : Region.wanted ⟨dst, .buildSlice 38 2 #[(0, x), (1, y)], ty, pos, aft, gd⟩ (yielded ops a.tmps) = true) (hx : a.eval x = .slice p l c) (hy : a.eval y = .slice q m d)
    (h : ∀ w1 g, Blk w1 g 25 [.slice p l c, .slice q m d] → Below w.heap.size w w1 → wpList Tryd.prog ops Q rest (a.put dst (.slice (some ⟨g, 0, none⟩) 2 2)) w1) :
    wpList Tryd.prog ops Q (⟨dst, .buildSlice 38 2 #[(0, x), (1, y)], ty, pos, aft, gd⟩ :: rest) a w :=
  BigFrame.wpList_want hw fun K hK => wp_2q hx hy fun w1 g h1 h2 => hK _ _ (h w1 g h1 h2)
end
theorem Own.placeQ {w : World} {B : Nat} {v : Value} {xs : List Int} (h : Own w B v xs) (h0 : 0 < xs.length) : ∃ g cap, v = .slice (some ⟨g, 0, none⟩) xs.length cap ∧ B ≤ g := by
  rcases h.2 with ⟨rfl, e⟩ | ⟨g, cap, cur, rfl, hB, _⟩
  · omega
  · exact ⟨g, cap, rfl, hB⟩
/-- A new slice that holds these bytes. -/
def New (w w' : World) (v : Value) (xs : List Int) : Prop := ∃ g cap, v = .slice (some ⟨g, 0, none⟩) xs.length cap ∧ w.heap.size ≤ g ∧ Own w' w.heap.size v xs
theorem New.sl {w w' : World} {v : Value} {xs : List Int} (h : New w w' v xs) (hb : isB xs) (hl : xs.length ≤ 140737488355328) : ∃ g cap, v = .slice (some ⟨g, 0, none⟩) xs.length cap ∧ w.heap.size ≤ g ∧ Sl w' (some ⟨g, 0, none⟩) xs.length cap xs := by
  obtain ⟨g, cap, rfl, hg, ho⟩ := h
  obtain ⟨a, c, e, hs⟩ := ho.sl' hb hl
  cases e
  exact ⟨g, cap, rfl, hg, hs⟩

set_option maxRecDepth 100000 in
set_option maxHeartbeats 1000000 in
theorem leafPre_any (a : Option Addr) (l c : Nat) (xs : List Int) (w : World) (hs : Sl w a l c xs) (hl : l ≤ 140737488355327) :
    Calls Tryd.prog 58 #[.slice a l c] w fun r w' => ∃ v, r = .returned v ∧ New w w' v (0 :: xs) ∧ Below w.heap.size w w' := by
  have HS := hide hs
  clear hs
  go_enter Tryd.func58, Tryd.ntmps58
  go_wp2_with (refine step_1q (q := 0) (by omega) rfl rfl ?_)
  intro w1 g1 h1 hb1
  go_wp2_with (refine step_2q rfl rfl rfl ?_)
  intro w2 g2 h2 hb2
  have HSS : Hid (SS w2 g2 [(some ⟨g1, 0, none⟩, 1, 1), (a, l, c)] [[0], xs]) := hide ⟨h2, rfl, fun i hi => by
    match i, hi with
    | 0, _ => exact h1.below hb2
    | 1, _ => exact (HS.out.below hb1).below hb2
    | i + 2, hi => exact absurd hi (by simp)⟩
  have HFL : Hid (fl [[0], xs] 2 = 0 :: xs) := hide (by simp [fl])
  have HB := hide (hb1.trans (hb2.mono hb1.size))
  clear h1 hb1 h2 hb2
  go_wp2_with fail
  refine (concat_any g2 2 _ _ _ HSS.out rfl (by omega) (by rw [HFL.out, List.length_cons, HS.out.hlen]; omega)).mono ?_
  rintro r w3 ⟨v, rfl, ho, hb3⟩
  rw [HFL.out] at ho
  have HO := hide (ho.baseQ HB.out.size)
  have HB3 := hide (HB.out.trans (hb3.mono HB.out.size))
  clear ho hb3
  go_wp2
  go_ret
  obtain ⟨g, cap, e, hg⟩ := HO.out.placeQ (by simp)
  exact ⟨v, rfl, ⟨g, cap, e, hg, HO.out⟩, HB3.out⟩

set_option maxRecDepth 100000 in
set_option maxHeartbeats 1000000 in
theorem pre_any (l r : List Int) (w : World) (hl : l.length = 32) (hr : r.length = 32) (hlb : isB l) (hrb : isB r) :
    Calls Tryd.prog 56 #[.agg (u8s l).toArray, .agg (u8s r).toArray] w fun e w' => ∃ v, e = .returned v ∧ New w w' v (1 :: (l ++ r)) ∧ Below w.heap.size w w' := by
  have HL := hide hl
  have HR := hide hr
  have HLB := hide hlb
  have HRB := hide hrb
  have HFL : Hid (fl [[1], l, r] 3 = 1 :: (l ++ r)) := hide (by simp [fl])
  have H65 : Hid ((1 :: (l ++ r)).length = 65) := hide (by simp [hl, hr])
  clear hl hr hlb hrb
  go_enter Tryd.func56, Tryd.ntmps56
  go_wp2_with (refine step_box rfl rfl ?_)
  intro w1 g2 hr1 hl1 hb1
  have G2 := hide hr1
  clear hr1
  go_wp2_with (refine step_box rfl rfl ?_)
  intro w2 g3 hr2 hl2 hb2
  have SR := hide (hr2.slQ HRB.out (by rw [HR.out]; omega))
  have SL := hide ((G2.out.below hb2 G2.out.lt).slQ HLB.out (by rw [HL.out]; omega))
  rw [HL.out] at SL
  rw [HR.out] at SR
  have B2 := hide (hb1.trans (hb2.mono hb1.size))
  clear hr2 hb1 hb2 G2 hl1 hl2
  go_wp2_with fail
  refine wp_region_noPanic ?_
  have B0 := hide ((Below.refl w2.heap.size w2).drew)
  refine wp_region_held_drew (S := fun v : World => True) (by kernel_rfl) trivial (fun hHeld => ?_)
  refine takeH 1 6 (.slice (some ⟨g2, 0, none⟩) 32 32) hHeld rfl rfl (by kernel_rfl) (by kernel_rfl) (by kernel_rfl) (fun _ _ _ h => h) (Or.inl ⟨by rfl, fun w _ => run_op rfl (slice_Dq g2 w)⟩) ?_
  simp only [Act.put, List.setIfInBounds_toArray, List.set_cons_zero, List.set_cons_succ]
  refine takeH 2 7 (.slice (some ⟨g3, 0, none⟩) 32 32) hHeld rfl rfl (by kernel_rfl) (by kernel_rfl) (by kernel_rfl) (fun _ _ _ h => h) (Or.inl ⟨by rfl, fun w _ => run_op rfl (slice_Dq g3 w)⟩) ?_
  simp only [Act.put, List.setIfInBounds_toArray, List.set_cons_zero, List.set_cons_succ]
  refine wpAnyH_ready (rs := [0]) (by kernel_rfl) (by simp) (AllReadyH.cons rfl (fun K hK => ?_) AllReadyH.nil)
  rw [if_pos (by rfl)]
  refine wp_1q (q := 1) (by omega) rfl ?_
  intro v1 g5 h1 hb1
  have B1 := hide (B0.out.trans (hb1.mono B0.out.size))
  refine hK.out _ _ (trivial) (fun hHeld => ?_)
  clear hK K
  simp only [Act.put]
  refine wpAnyH_ready (rs := [3]) (by kernel_rfl) (by simp) (AllReadyH.cons rfl (fun K hK => ?_) AllReadyH.nil)
  rw [if_pos (by rfl)]
  refine wp_3q rfl rfl rfl ?_
  intro v2 g8 h2 hb2
  have B3 := hide (B1.out.trans (hb2.mono B1.out.size))
  have HSS : Hid (SS v2 g8 [(some ⟨g5, 0, none⟩, 1, 1), (some ⟨g2, 0, none⟩, 32, 32), (some ⟨g3, 0, none⟩, 32, 32)] [[1], l, r]) := hide ⟨h2, rfl, fun i hi => by
    match i, hi with
    | 0, _ => exact h1.below hb2
    | 1, _ => exact SL.out.below B3.out
    | 2, _ => exact SR.out.below B3.out
    | i + 3, hi => exact absurd hi (by simp)⟩
  clear h1 hb1 h2 hb2
  refine hK.out _ _ (trivial) (fun hHeld => ?_)
  clear hK K
  simp only [Act.put]
  refine wpAnyH_ready (rs := [4]) (by kernel_rfl) (by simp) (AllReadyH.cons rfl (fun K hK => ?_) AllReadyH.nil)
  rw [if_pos (by rfl)]
  go_simp
  refine (concat_any g8 3 _ _ _ HSS.out rfl (by omega) (by rw [HFL.out, H65.out]; omega)).mono ?_
  rintro e v3 ⟨v, rfl, ho, hb3⟩
  rw [HFL.out] at ho
  have HO := hide (ho.baseQ (Nat.le_trans B2.out.size B3.out.size))
  have HB3 := hide ((B2.out.trans (B3.out.mono B2.out.size)).trans (hb3.mono (Nat.le_trans B2.out.size B3.out.size)))
  clear ho hb3
  refine hK.out _ _ (trivial) (fun hHeld => ?_)
  clear hK K
  refine takeH 5 4 v hHeld rfl rfl (by kernel_rfl) (by kernel_rfl) (by kernel_rfl) (fun _ _ _ h => h) (Or.inl ⟨by rfl, fun w _ => by go_simp⟩) ?_
  simp only [Act.put, List.setIfInBounds_toArray, List.set_cons_zero, List.set_cons_succ]
  refine wpAnyH_done (by kernel_rfl) ?_ _
  refine NoPanic.normal ?_
  clear hHeld
  go_wp2
  go_ret
  obtain ⟨g, cap, e, hg⟩ := HO.out.placeQ (by simp)
  exact ⟨v, rfl, ⟨g, cap, e, hg, HO.out⟩, HB3.out⟩

end Go.Proofs.YtconeobaohmbnaaDoor

/-
  A region that draws: what is held only till a given operation comes (a store behind the loads that it turns).
-/
namespace Go.Proofs.YtconeobaohmbnaaDoor
open Go.RowKit
set_option linter.unusedVariables false

section
variable {P : Program} {ops : Array Oper} {Q : Exit → Act → World → Prop} {md : Region.Mode} {S : World → Prop}
/-- Whatever order is picked from here on; S holds behind each operation that comes ahead of q. -/
def wpAnyU (P : Program) (md : Region.Mode) (ops : Array Oper) (Q : Exit → Act → World → Prop) (S : World → Prop) (q : Nat) : Nat → Array Bool → Act → World → Prop
  | 0, listed, a, w => Region.ready md ops listed = [] ∧ Q .normal a w
  | fuel + 1, listed, a, w =>
    (Region.ready md ops listed = [] → Q .normal a w) ∧
    ∀ i ∈ Region.ready md ops listed, wpOp P ops Q i (fun a' w' => ((listed.setIfInBounds i true).getD q true = false → S w') ∧ wpAnyU P md ops Q S q fuel (listed.setIfInBounds i true) a' w') a w
theorem wpAny_of_U {q : Nat} : ∀ (fuel : Nat) (listed : Array Bool) (a : Act) (w : World), wpAnyU P md ops Q S q fuel listed a w → wpAny P md ops Q fuel listed a w
  | 0, _, _, _, h => h
  | fuel + 1, _, _, _, h => ⟨h.1, fun i hi => wpOp_mono (fun a' w' h' => wpAny_of_U fuel _ a' w' h'.2) (h.2 i hi)⟩
/-- q waits for i. -/
def waits (md : Region.Mode) (ops : Array Oper) (q i : Nat) : Bool := match ops[q]? with | some o => o.after.any fun e => Region.binds md e && e.on == i | none => false
theorem wpAnyU_first {i q : Nat} {oi : Oper} {v : Value} (hi : ops[i]? = some oi) (hqi : waits md ops q i = true) (hne : q ≠ i) (hsel : ∀ (j : Nat) (o : Oper) cs b, ops[j]? = some o → o.op ≠ .select cs b)
    (hQ : ∀ c a w, Q (.panic c) (a.put oi.dst v) w → Q (.panic c) a w) :
    ∀ (fuel : Nat) (listed : Array Bool) (a : Act) (w : World),
      (∀ j oj, ops[j]? = some oj → j ≠ i → listed.getD j true = false → (∀ e ∈ oj.after, Region.binds md e = true → e.on ≠ i) → oi.apart ops oj = true) →
      i ∈ Region.ready md ops listed → listed.getD q true = false → YieldsIf P ops S oi v a → S w →
      wpAnyU P md ops Q S q fuel (listed.setIfInBounds i true) (a.put oi.dst v) w → wpAnyU P md ops Q S q (fuel + 1) listed a w := by
  intro fuel
  induction fuel with
  | zero =>
    intro listed a w _ hr hq hy hS H
    refine ⟨fun h => (by rw [h] at hr; cases hr), fun j hj => ?_⟩
    by_cases hji : j = i
    · subst hji; exact hy.wpOp hi hS ⟨fun _ => hS, H⟩
    · have := ready_mono hj hji
      rw [H.1] at this
      cases this
  | succ fuel ih =>
    intro listed a w hfree hr hq hy hS H
    refine ⟨fun h => (by rw [h] at hr; cases hr), fun j hj => ?_⟩
    by_cases hji : j = i
    · subst hji; exact hy.wpOp hi hS ⟨fun _ => hS, H⟩
    · have h1 := H.2 j (ready_mono hj hji)
      obtain ⟨hjun, oj, hoj, hall⟩ := mem_ready.1 hj
      have hnot : ∀ e ∈ oj.after, Region.binds md e = true → e.on ≠ i := fun e he hb heq => by
        have h1 := hall e he hb
        have h0 := (mem_ready.1 hr).1
        rw [heq] at h1
        rcases Nat.lt_or_ge i listed.size with h' | h'
        · simp [h'] at h0 h1; rw [h0] at h1; cases h1
        · simp [Array.getElem?_eq_none h'] at h1
      have hjq : j ≠ q := by
        rintro rfl
        unfold waits at hqi
        rw [hoj] at hqi
        simp only [Array.any_eq_true', Bool.and_eq_true, beq_iff_eq] at hqi
        obtain ⟨e, he, hb, hon⟩ := hqi
        exact hnot e he hb hon
      have h2 := wpOp_putIf hoj (hfree j oj hoj hji hjun hnot) (fun cs b => hsel i oi cs b hi) (fun cs b => hsel j oj cs b hoj) hQ hy h1
      have hfree' : ∀ k ok, ops[k]? = some ok → k ≠ i → (listed.setIfInBounds j true).getD k true = false →
          (∀ e ∈ ok.after, Region.binds md e = true → e.on ≠ i) → oi.apart ops ok = true := fun k ok hk hki hun hno => by
        refine hfree k ok hk hki ?_ hno
        by_cases hjk : j = k
        · subst hjk; exact hjun
        · rw [getD_set_ne true hjk] at hun; exact hun
      have hq' : (listed.setIfInBounds j true).getD q true = false := by rw [getD_set_ne true hjq]; exact hq
      have hq2 : ((listed.setIfInBounds i true).setIfInBounds j true).getD q true = false := by rw [getD_set_ne true hjq, getD_set_ne true (Ne.symm hne)]; exact hq
      refine wpOp_mono (fun a' w' h3 => ⟨fun _ => h3.2.1 hq2, ih (listed.setIfInBounds j true) a' w' hfree' (ready_mono hr (Ne.symm hji)) hq' h3.1 (h3.2.1 hq2) ?_⟩) h2
      rw [Array.setIfInBounds_comm _ _ hji]
      exact h3.2.2
theorem takeU (q : Nat) (i : Nat) (t : Tmp) (v : Value) {oi : Oper} {fuel : Nat} {listed : Array Bool} {a : Act} {w : World} (hS : S w) (hi : ops[i]? = some oi) (hd : oi.dst = some t) (hqi : waits md ops q i = true) (hqe : (q != i) = true) (hq : listed.getD q true = false)
    (hs : Region.noSelect ops = true) (hf : Region.free md ops listed i = true) (hr : (Region.ready md ops listed).contains i = true)
    (hQ : ∀ c a w, Q (.panic c) (a.put oi.dst v) w → Q (.panic c) a w) (hy : YieldsIf P ops S oi v a)
    (h : wpAnyU P md ops Q S q fuel (listed.setIfInBounds i true) (a.put (some t) v) w) : wpAnyU P md ops Q S q (fuel + 1) listed a w :=
  wpAnyU_first hi hqi (by simpa using hqe) (Region.noSelect_spec hs) hQ fuel listed a w (Region.free_spec hi hf) (by simpa using hr) hq hy hS (by rw [hd]; exact h)
def AllReadyU (P : Program) (md : Region.Mode) (ops : Array Oper) (Q : Exit → Act → World → Prop) (S : World → Prop) (q : Nat) (fuel : Nat) (listed : Array Bool) (a : Act) (w : World) (rs : List Nat) : Prop :=
  ∀ i ∈ rs, wpOp P ops Q i (fun a' w' => ((listed.setIfInBounds i true).getD q true = false → S w') ∧ wpAnyU P md ops Q S q fuel (listed.setIfInBounds i true) a' w') a w
theorem AllReadyU.nil {q : Nat} {fuel : Nat} {listed : Array Bool} {a : Act} {w : World} : AllReadyU P md ops Q S q fuel listed a w [] := fun _ h => by cases h
theorem AllReadyU.cons {q : Nat} {fuel : Nat} {listed : Array Bool} {a : Act} {w : World} {i : Nat} {o : Oper} {rs : List Nat} (ho : ops[i]? = some o)
    (h : ∀ K' : Act → World → Prop, Shut (∀ a w, ((listed.setIfInBounds i true).getD q true = false → S w) → wpAnyU P md ops Q S q fuel (listed.setIfInBounds i true) a w → K' a w) → if Region.wanted o (yielded ops a.tmps) = true then Oper.wp P o a w K' Q else K' (a.put o.dst undef) w)
    (hs : AllReadyU P md ops Q S q fuel listed a w rs) : AllReadyU P md ops Q S q fuel listed a w (i :: rs) := fun j hj => by
  rcases List.mem_cons.1 hj with rfl | hj
  · exact wpOp_step ho (fun K' hK => h K' (fun a w hS hW => hK a w ⟨hS, hW⟩))
  · exact hs j hj
theorem wpAnyU_ready {q : Nat} {rs : List Nat} {fuel : Nat} {listed : Array Bool} {a : Act} {w : World} (hr : Region.ready md ops listed = rs) (hne : rs ≠ [])
    (h : AllReadyU P md ops Q S q fuel listed a w rs) : wpAnyU P md ops Q S q (fuel + 1) listed a w := ⟨fun h0 => absurd (hr ▸ h0) hne, hr ▸ h⟩
theorem wpAnyU_done {q : Nat} {listed : Array Bool} {a : Act} {w : World} (hr : Region.ready md ops listed = []) (h : Q .normal a w) :
    ∀ fuel, wpAnyU P md ops Q S q fuel listed a w
  | 0 => ⟨hr, h⟩
  | _ + 1 => ⟨fun _ => h, by rw [hr]; simp⟩
theorem wp_region_U {q : Nat} {id : Nat} {a : Act} {w : World} (hm : P.follows .mixedOrders = true)
    (h : wpAnyU P .any ops Q S q ops.size (Array.replicate ops.size false) a w.drew) : (Code.region id ops true).wp P Q a w :=
  wp_region_any hm (wpAny_of_U _ _ _ _ h)
end

end Go.Proofs.YtconeobaohmbnaaDoor

/-
  The law's lent: a claim in memory of its own.
-/
namespace Go.Proofs.YtconeobaohmbnaaDoor
open Go.RowKit
set_option linter.unusedVariables false

/-- append of something to an empty slice: all that is turned is new. -/
theorem run_appendE (w : World) (t ty e : TypeId) (i : TypeInfo) (z : Value) (size bytes : Nat) (ht : Tryd.prog.underlying t = some (.slice e)) (hi : Tryd.prog.info? e = some i) (hz : i.zero = some z)
    (hsize : i.size = size) (hby : i.bytes = bytes) (hzs : z.cells.size = size) (g : Nat) (ad : Addr) (m c : Nat) (news : List Value) (hl : news.length = m * size) (hnews : ∀ j u, news[j]? = some u → w.cell? (ad.add j) = some u)
    (h0 : 0 < m) (hb : m * bytes ≤ 140737488355328) (hm : m ≤ 140737488355328) :
    ∃ cap w', (Builtin.append_ #[t, t] ty #[.slice (some ⟨g, 0, none⟩) 0 0, .slice (some ad) m c]).run Tryd.prog w = .ok (.slice (some ⟨w.heap.size, 0, none⟩) m cap) w' ∧ w'.ownsRow w.heap.size e size (.slice (some ⟨w.heap.size, 0, none⟩) m cap) m news ∧ Below w.heap.size w w' := by
  subst hsize hby
  have hr := run_append_grow (P := Tryd.prog) w t ty e i z ht hi hz ⟨g, 0, none⟩ 0 0 [] (by simp) (by simp) ad m c news hl hnews (by omega) (by omega) (growslice_fits (by omega) (by simpa using hb))
  have hge := grownCap_ge w (0 + m) 0 e
  have hcm := grownCap_le_maxLen w (0 + m) 0 e (by unfold maxLen; omega)
  rw [Nat.zero_add] at hr hge hcm
  refine ⟨_, _, hr, ⟨hl, .inr ⟨w.heap.size, _, _, rfl, Nat.le_refl _, heap_alloc_new w.drew _, hge, hcm, ?_, ?_⟩⟩, (below_drew (Below.refl _ _)).alloc (Nat.le_refl _) _⟩
  · simp only [Array.size_append, size_zeroCells, hzs, List.size_toArray, hl, List.length_nil, Nat.zero_add, ← Nat.add_mul]
    rw [Nat.add_sub_of_le hge]
  · simp only [Array.toList_append, List.nil_append]
    rw [← hl]
    exact List.take_left
section
variable {dst : Option Tmp} {ty : TypeId} {pos : String} {aft : Array Edge} {gd : Option (Nat × Bool)} {ops : Array Oper} {rest : List Oper} {a : Act} {w : World} {K : Act → World → Prop} {Q : Exit → Act → World → Prop}
theorem wp_appendE {s x : Operand} {g : Nat} {sa : Option Addr} {m c : Nat} {ys : List Int} (hs : a.eval s = .slice (some ⟨g, 0, none⟩) 0 0) (hx : a.eval x = .slice sa m c) (hy : Sl w sa m c ys)
    (h : ∀ a' c' w', Sl w' a' m c' ys → (0 < m → ∃ b, a' = some ⟨b, 0, none⟩ ∧ w.heap.size ≤ b) → Below w.heap.size w w' → K (a.put dst (.slice a' m c')) w') :
    Oper.wp Tryd.prog ⟨dst, .call { callee := .builtin .append, args := #[s, x], argTypes := #[25, 25] }, ty, pos, aft, gd⟩ a w K Q := by
  obtain ⟨i0, hi, hz0, hz1, hz2⟩ := info_parts infoB
  have hre := hy.hreach
  by_cases h0 : 0 < m
  · obtain ⟨b, off, e, hc⟩ := hy.hcell h0
    subst e
    obtain ⟨cap, w', hr, ho, hb⟩ := run_appendE w 25 ty 5 i0 (.int .u8 0) 1 1 undBs hi hz0 hz1 hz2 rfl g ⟨b, off, none⟩ m c (u8s ys) (by simp [u8s_length, hy.hlen]) (fun j u hu => by
      have hj : j < m := by
        have := (List.getElem?_eq_some_iff.1 hu).1
        simpa [u8s_length, hy.hlen] using this
      rw [Addr.add_lit, hc j hj]
      rw [u8s_get ys j (by rw [hy.hlen]; exact hj)] at hu
      exact hu) h0 (by omega) hre
    have hO : Own w' w.heap.size (.slice (some ⟨w.heap.size, 0, none⟩) m cap) ys := by unfold Own; rw [hy.hlen]; exact ho
    obtain ⟨a2, c2, e2, hs2⟩ := hO.sl' hy.hbyte (by rw [hy.hlen]; exact hre)
    rw [hy.hlen] at e2 hs2
    cases e2
    exact Lib.wp_append_run w s x _ _ rfl _ _ hs hx _ _ hr (h _ _ _ hs2 (fun _ => ⟨_, rfl, Nat.le_refl _⟩) hb)
  · obtain rfl : m = 0 := by omega
    obtain rfl : ys = [] := List.eq_nil_of_length_eq_zero hy.hlen
    have hr : (Builtin.append_ #[25, 25] ty #[.slice (some ⟨g, 0, none⟩) 0 0, .slice sa 0 c]).run Tryd.prog w = .ok (.slice (some ⟨g, 0, none⟩) 0 0) w := by
      cases sa <;> simp [Builtin.append_, run_underlying undBs, sizeOf, typeInfo, hi, Builtin.lenOf, Builtin.firstCells, loadCells, loadCellsFrom, storeCells]
    exact Lib.wp_append_run w s x _ _ rfl _ _ hs hx _ _ hr (h _ _ _ ⟨rfl, Nat.le_refl _, by omega, by omega, by intro y hy; simp at hy, (fun e => by cases e), fun h => absurd h (by omega)⟩ (fun h => absurd h (by omega)) (Below.refl _ _))
theorem wp_appendED {s x : Operand} {g : Nat} {sa : Option Addr} {m c : Nat} {ys : List Int} (hs : a.eval s = .slice (some ⟨g, 0, none⟩) 0 0) (hx : a.eval x = .slice sa m c) (hy : Ds w sa m c ys)
    (h : ∀ a' c' w', Ds w' a' m c' ys → (0 < m → ∃ b, a' = some ⟨b, 0, none⟩ ∧ w.heap.size ≤ b) → Below w.heap.size w w' → K (a.put dst (.slice a' m c')) w') :
    Oper.wp Tryd.prog ⟨dst, .call { callee := .builtin .append, args := #[s, x], argTypes := #[24, 24] }, ty, pos, aft, gd⟩ a w K Q := by
  obtain ⟨i0, hi, hz0, hz1, hz2⟩ := info_parts infoD
  have hre := hy.hreach
  by_cases h0 : 0 < m
  · obtain ⟨b, off, e⟩ := hy.place h0
    subst e
    have hl := hy.hlen
    obtain ⟨b', off', e', hc⟩ := hy.sl.hcell (by omega)
    cases e'
    obtain ⟨cap, w', hr, ho, hb⟩ := run_appendE w 24 ty 23 i0 (.agg (u8s (zer 32)).toArray) 32 32 undDl hi hz0 hz1 hz2 rfl g ⟨b, off, none⟩ m c (u8s ys) (by rw [u8s_length, hl]; omega) (fun j u hu => by
      have hj : j < 32 * m := by
        have := (List.getElem?_eq_some_iff.1 hu).1
        rw [u8s_length, hl] at this
        exact this
      rw [Addr.add_lit, hc j hj]
      rw [u8s_get ys j (by rw [hl]; exact hj)] at hu
      exact hu) h0 (by omega) (by omega)
    have hO : DOwn w' w.heap.size (.slice (some ⟨w.heap.size, 0, none⟩) m cap) m ys := ho
    obtain ⟨a2, c2, e2, hs2, _⟩ := hO.ds hy.hbyte hre
    cases e2
    exact Lib.wp_append_run w s x _ _ rfl _ _ hs hx _ _ hr (h _ _ _ hs2 (fun _ => ⟨_, rfl, Nat.le_refl _⟩) hb)
  · obtain rfl : m = 0 := by omega
    obtain rfl : ys = [] := List.eq_nil_of_length_eq_zero (by rw [hy.hlen])
    have hr : (Builtin.append_ #[24, 24] ty #[.slice (some ⟨g, 0, none⟩) 0 0, .slice sa 0 c]).run Tryd.prog w = .ok (.slice (some ⟨g, 0, none⟩) 0 0) w := by
      cases sa <;> simp [Builtin.append_, run_underlying undDl, sizeOf, typeInfo, hi, Builtin.lenOf, Builtin.firstCells, loadCells, loadCellsFrom, storeCells]
    refine Lib.wp_append_run w s x _ _ rfl _ _ hs hx _ _ hr (h _ _ _ ⟨Nat.le_refl _, by omega, (fun e => by cases e), ?_⟩ (fun h => absurd h (by omega)) (Below.refl _ _))
    exact ⟨rfl, Nat.le_refl _, by omega, by omega, by intro y hy; simp at hy, (fun e => by cases e), fun h => absurd h (by omega)⟩
set_option maxRecDepth 100000 in
theorem wp_0b (h : ∀ w1 g, Below w.heap.size w w1 → K (a.put dst (.slice (some ⟨g, 0, none⟩) 0 0)) w1) :
    Oper.wp Tryd.prog ⟨dst, .buildSlice 25 0 #[], ty, pos, aft, gd⟩ a w K Q :=
  wp_runV (.slice (some ⟨w.heap.size, 0, none⟩) 0 0) (w.alloc (.cells #[] 5)) (by kernel_rfl) (h _ _ ((Below.refl _ _).alloc (Nat.le_refl _) _))
set_option maxRecDepth 100000 in
theorem wp_0d (h : ∀ w1 g, Below w.heap.size w w1 → K (a.put dst (.slice (some ⟨g, 0, none⟩) 0 0)) w1) :
    Oper.wp Tryd.prog ⟨dst, .buildSlice 24 0 #[], ty, pos, aft, gd⟩ a w K Q :=
  wp_runV (.slice (some ⟨w.heap.size, 0, none⟩) 0 0) (w.alloc (.cells #[] 23)) (by kernel_rfl) (h _ _ ((Below.refl _ _).alloc (Nat.le_refl _) _))
set_option maxRecDepth 100000 in
theorem wp_stB {x y : Operand} {g i : Nat} {t : TypeId} {cs : List Value} {sa : Option Addr} {l c : Nat} (hx : a.eval x = .pointer (some ⟨g, i, none⟩)) (hy : a.eval y = .slice sa l c) (hg : Blk w g t cs) (hi : i < cs.length)
    (h : ∀ w1, Blk w1 g t (cs.set i (.slice sa l c)) → But g w w1 → K (a.put dst undef) w1) : Oper.wp Tryd.prog ⟨dst, .store 25 x y, ty, pos, aft, gd⟩ a w K Q := by
  have hc : w.cell? ⟨g, i, none⟩ = some cs[i] := by rw [hg.cell, List.getElem?_eq_getElem hi]
  have hf : w.frozen? ⟨g, i, none⟩ = false := hg.free i
  have hh := h _ (hg.set i (.slice sa l c)) (But.setCell _ _ _ _)
  unfold Oper.wp execOp
  simp only [hx, hy]
  go_simp
  exact hh
set_option maxRecDepth 100000 in
theorem wp_stD {x y : Operand} {g i : Nat} {t : TypeId} {cs : List Value} {sa : Option Addr} {l c : Nat} (hx : a.eval x = .pointer (some ⟨g, i, none⟩)) (hy : a.eval y = .slice sa l c) (hg : Blk w g t cs) (hi : i < cs.length)
    (h : ∀ w1, Blk w1 g t (cs.set i (.slice sa l c)) → But g w w1 → K (a.put dst undef) w1) : Oper.wp Tryd.prog ⟨dst, .store 24 x y, ty, pos, aft, gd⟩ a w K Q := by
  have hc : w.cell? ⟨g, i, none⟩ = some cs[i] := by rw [hg.cell, List.getElem?_eq_getElem hi]
  have hf : w.frozen? ⟨g, i, none⟩ = false := hg.free i
  have hh := h _ (hg.set i (.slice sa l c)) (But.setCell _ _ _ _)
  unfold Oper.wp execOp
  simp only [hx, hy]
  go_simp
  exact hh
theorem step_appendED {s x : Operand} {g : Nat} {sa : Option Addr} {m c : Nat} {ys : List Int} (hw : Region.wanted ⟨dst, .call { callee := .builtin .append, args := #[s, x], argTypes := #[24, 24] }, ty, pos, aft, gd⟩ (yielded ops a.tmps) = true) (hs : a.eval s = .slice (some ⟨g, 0, none⟩) 0 0) (hx : a.eval x = .slice sa m c) (hy : Ds w sa m c ys)
    (h : ∀ a' c' w', Ds w' a' m c' ys → (0 < m → ∃ b, a' = some ⟨b, 0, none⟩ ∧ w.heap.size ≤ b) → Below w.heap.size w w' → wpList Tryd.prog ops Q rest (a.put dst (.slice a' m c')) w') :
    wpList Tryd.prog ops Q (⟨dst, .call { callee := .builtin .append, args := #[s, x], argTypes := #[24, 24] }, ty, pos, aft, gd⟩ :: rest) a w :=
  BigFrame.wpList_want hw fun K hK => wp_appendED hs hx hy fun a' c' w' h1 h2 h3 => hK _ _ (h a' c' w' h1 h2 h3)
set_option maxRecDepth 100000 in
theorem step_0d (hw : Region.wanted ⟨dst, .buildSlice 24 0 #[], ty, pos, aft, gd⟩ (yielded ops a.tmps) = true)
    (h : ∀ w1 g, Below w.heap.size w w1 → wpList Tryd.prog ops Q rest (a.put dst (.slice (some ⟨g, 0, none⟩) 0 0)) w1) :
    wpList Tryd.prog ops Q (⟨dst, .buildSlice 24 0 #[], ty, pos, aft, gd⟩ :: rest) a w :=
  BigFrame.wpList_want hw fun K hK => wp_0d fun w1 g h1 => hK _ _ (h w1 g h1)
theorem step_stD {x y : Operand} {g i : Nat} {t : TypeId} {cs : List Value} {sa : Option Addr} {l c : Nat} (hw : Region.wanted ⟨dst, .store 24 x y, ty, pos, aft, gd⟩ (yielded ops a.tmps) = true) (hx : a.eval x = .pointer (some ⟨g, i, none⟩)) (hy : a.eval y = .slice sa l c) (hg : Blk w g t cs) (hi : i < cs.length)
    (h : ∀ w1, Blk w1 g t (cs.set i (.slice sa l c)) → But g w w1 → wpList Tryd.prog ops Q rest (a.put dst undef) w1) : wpList Tryd.prog ops Q (⟨dst, .store 24 x y, ty, pos, aft, gd⟩ :: rest) a w :=
  BigFrame.wpList_want hw fun K hK => wp_stD hx hy hg hi fun w1 h1 h2 => hK _ _ (h w1 h1 h2)
end

/-- Another claim of the same things, that lie elsewhere. -/
def Cv.moved (c : Cv) (aq : Option Addr) (cs : Nat) (ax : Option Addr) (cx : Nat) (ay : Option Addr) (cy : Nat) (ao : Option Addr) (co : Nat) (an : Option Addr) (cn : Nat) : Cv :=
  ⟨c.m, c.n, c.o, c.nw, c.i, aq, c.ls, cs, c.S, ax, c.lx, cx, c.X, ay, c.ly, cy, c.Y, ao, c.lo, co, c.O, an, c.ln, cn, c.N⟩
def c0v : Cv := ⟨0, 0, zer 32, zer 32, 0, none, 0, 0, [], none, 0, 0, [], none, 0, 0, [], none, 0, 0, [], none, 0, 0, []⟩
theorem zCl : Zeroed 27 c0v.cells := fun _ _ _ _ _ _ _ => by kernel_rfl
theorem wCl : Wide 27 72 := ⟨by kernel_rfl, by kernel_rfl⟩
theorem Cv.setTail (c : Cv) (h1 : c.o.length = 32) (h2 : c.nw.length = 32) (k : Nat) (v : Value) : c.cells.set (66 + k) v = [.int .i64 c.m, .int .i64 c.n] ++ (u8s c.o ++ (u8s c.nw ++ [Value.slice c.aq c.ls c.cs, .int .i64 c.i, .slice c.ax c.lx c.cx, .slice c.ay c.ly c.cy, .slice c.ao c.lo c.co, .slice c.an c.ln c.cn].set k v)) := by
  unfold Cv.cells
  rw [List.set_append_right _ _ (by simp; omega), List.set_append_right _ _ (by simp [u8s_length, h1]; omega), List.set_append_right _ _ (by simp [u8s_length, h1, h2]; omega)]
  simp only [u8s_length, h1, h2, List.length_cons, List.length_nil]
  rw [show 66 + k - (0 + 1 + 1) - 32 - 32 = k by omega]
theorem Cv.set68 (c : Cv) (h1 : c.o.length = 32) (h2 : c.nw.length = 32) (a : Option Addr) (m : Nat) : c.cells.set 68 (.slice a c.lx m) = (c.moved c.aq c.cs a m c.ay c.cy c.ao c.co c.an c.cn).cells := Cv.setTail c h1 h2 2 _
theorem Cv.set69 (c : Cv) (h1 : c.o.length = 32) (h2 : c.nw.length = 32) (a : Option Addr) (m : Nat) : c.cells.set 69 (.slice a c.ly m) = (c.moved c.aq c.cs c.ax c.cx a m c.ao c.co c.an c.cn).cells := Cv.setTail c h1 h2 3 _
theorem Cv.set70 (c : Cv) (h1 : c.o.length = 32) (h2 : c.nw.length = 32) (a : Option Addr) (m : Nat) : c.cells.set 70 (.slice a c.lo m) = (c.moved c.aq c.cs c.ax c.cx c.ay c.cy a m c.an c.cn).cells := Cv.setTail c h1 h2 4 _
theorem Cv.set71 (c : Cv) (h1 : c.o.length = 32) (h2 : c.nw.length = 32) (a : Option Addr) (m : Nat) : c.cells.set 71 (.slice a c.ln m) = (c.moved c.aq c.cs c.ax c.cx c.ay c.cy c.ao c.co a m).cells := Cv.setTail c h1 h2 5 _
theorem Cv.mv2 (c : Cv) (h1 : c.o.length = 32) (h2 : c.nw.length = 32) (aq : Option Addr) (cs : Nat) (ax : Option Addr) (cx : Nat) (ay : Option Addr) (cy : Nat) (ao : Option Addr) (co : Nat) (an : Option Addr) (cn : Nat) (a b : Option Addr) (m n : Nat) :
    ((c.moved aq cs ax cx ay cy ao co an cn).cells.set 68 (.slice a c.lx m)).set 69 (.slice b c.ly n) = (c.moved aq cs a m b n ao co an cn).cells :=
  (congrArg (fun l => List.set l 69 (Value.slice b c.ly n)) (Cv.set68 (c.moved aq cs ax cx ay cy ao co an cn) h1 h2 a m)).trans (Cv.set69 (c.moved aq cs a m ay cy ao co an cn) h1 h2 b n)
theorem Cv.mv3 (c : Cv) (h1 : c.o.length = 32) (h2 : c.nw.length = 32) (aq : Option Addr) (cs : Nat) (ax : Option Addr) (cx : Nat) (ay : Option Addr) (cy : Nat) (ao : Option Addr) (co : Nat) (an : Option Addr) (cn : Nat) (a b : Option Addr) (m n : Nat) :
    ((c.moved aq cs ax cx ay cy ao co an cn).cells.set 70 (.slice a c.lo m)).set 71 (.slice b c.ln n) = (c.moved aq cs ax cx ay cy a m b n).cells :=
  (congrArg (fun l => List.set l 71 (Value.slice b c.ln n)) (Cv.set70 (c.moved aq cs ax cx ay cy ao co an cn) h1 h2 a m)).trans (Cv.set71 (c.moved aq cs ax cx ay cy a m an cn) h1 h2 b n)
theorem Cv.one (c : Cv) : One c.cells := by
  intro v hv
  unfold Cv.cells at hv
  rcases List.mem_append.1 hv with hv | hv
  · simp at hv; rcases hv with rfl | rfl <;> rfl
  · rcases List.mem_append.1 hv with hv | hv
    · exact One.u8 _ v hv
    · rcases List.mem_append.1 hv with hv | hv
      · exact One.u8 _ v hv
      · simp at hv; rcases hv with rfl | rfl | rfl | rfl | rfl | rfl <;> rfl

theorem Ds.butQ {g : Nat} {w w' : World} {a : Option Addr} {len cap : Nat} {xs : List Int} (h : Ds w a len cap xs) (hb : But g w w') (hk : 0 < len → Apart g a) : Ds w' a len cap xs := ⟨h.hcap, h.hmax, h.hnil, h.sl.but hb (fun h0 => hk (by omega))⟩
theorem apartQ {g B m : Nat} {a : Option Addr} (h : 0 < m → ∃ b, a = some ⟨b, 0, none⟩ ∧ B ≤ b) (hg : g < B) : 0 < m → Apart g a := fun h0 x hx => by
  obtain ⟨b, e, hb⟩ := h h0
  rw [e] at hx
  cases hx
  show b ≠ g
  omega

theorem newM {B C m : Nat} {a : Option Addr} (h : 0 < m → ∃ b, a = some ⟨b, 0, none⟩ ∧ B ≤ b) (hC : C ≤ B) : 0 < m → ∃ b, a = some ⟨b, 0, none⟩ ∧ C ≤ b := fun h0 => by
  obtain ⟨b, e, hb⟩ := h h0
  exact ⟨b, e, Nat.le_trans hC hb⟩
theorem Ds.chgQ {g : Nat} {w w' : World} {a : Option Addr} {len cap : Nat} {xs : List Int} (h : Ds w a len cap xs) (hb : Chg g w w') (hk : 0 < len → Apart g a) : Ds w' a len cap xs := ⟨h.hcap, h.hmax, h.hnil, h.sl.chg hb (fun h0 => hk (by omega))⟩
theorem join6 {T : Program} {c : Code} {a : Act} {w : World} {Q : Exit → Act → World → Prop} {K : Act → World → Prop} (P : Nat → Option Addr → Nat → Nat → Option Addr → Nat → World → Prop) (act : Nat → Option Addr → Nat → Nat → Option Addr → Nat → Act) (h1 : ∀ g x m h y n W, P g x m h y n W → K (act g x m h y n) W)
    (h2 : (∀ g x m h y n W, P g x m h y n W → K (act g x m h y n) W) → Code.wp T c (Exit.then K Q) a w) : Code.wp T c (Exit.then K Q) a w := h2 h1
set_option maxRecDepth 100000 in
set_option maxHeartbeats 4000000 in
theorem lent9_any (c : Cv) (w : World) (hi : c.In w) :
    Calls Tryd.prog 9 #[.agg c.cells.toArray] w fun r w' => ∃ aq cs ax cx ay cy ao co an cn, r = .returned (.agg (c.moved aq cs ax cx ay cy ao co an cn).cells.toArray) ∧ (c.moved aq cs ax cx ay cy ao co an cn).In w' ∧ Below w.heap.size w w' := by
  have HI := hide hi
  have HO := hide hi.lo
  have HN := hide hi.ln
  have HL0 := hide (Cv.length hi.lo hi.ln)
  clear hi
  go_enter Tryd.func9, Tryd.ntmps9
  go_wp2_with (refine step_box rfl rfl ?_)
  intro w1 g1 hr1 hl1 hb1
  have hg1 := hl1
  go_wp2_with (refine step_alloc zCl rfl ?_)
  intro w2 g2 hr2 hl2 hb2
  have G0 := hide (hr1.on hb2)
  have G2 := hide hr2
  have h12 : g2 ≠ g1 := by have := hr1.lt; omega
  have hg2 : w.heap.size ≤ g2 := Nat.le_trans hb1.size hl2
  have B2 := hide (hb1.trans (hb2.mono hb1.size))
  clear hr1 hr2 hb1 hb2 hl1 hl2
  obtain ⟨_, _, k3, _, _, _, _, _⟩ := Cv.at G0.out HO.out HN.out
  have hb3 : Below w2.heap.size w2 (w2.alloc (.cells #[] 23)) := (Below.refl _ _).alloc (Nat.le_refl _) _
  have B3 := hide (B2.out.trans (hb3.mono B2.out.size))
  have k3' := cell_kept k3 hb3
  go_wp2_with (refine step_appendED rfl rfl rfl (HI.out.ds.below B3.out) ?_)
  intro a6 c6 w4 hs4 hn4 hb4
  have B4 := hide (B3.out.trans (hb4.mono B3.out.size))
  have G04 := hide ((G0.out.on hb3).on hb4)
  have G24 := hide ((G2.out.on hb3).on hb4)
  have hap : 0 < c.ls → Apart g1 a6 := apartQ hn4 (G0.out.on hb3).lt
  have HAP2 := hide (apartQ hn4 (G2.out.on hb3).lt)
  have hz := G04.out.set 66 (.slice a6 c.ls c6)
  have hbz := But.setCell w4 g1 66 (.slice a6 c.ls c6)
  have hc4 := (Cv.at G04.out HO.out HN.out).s
  have hf4 := G04.out.free 66
  go_wp2_with fail
  clear hc4 hf4
  generalize w4.setCell ⟨g1, 66, none⟩ (.slice a6 c.ls c6) = z at hz hbz ⊢
  have DS := hide (hs4.butQ hbz hap)
  have HAP := hide hap
  have G2z := hide (G24.out.but hbz h12)
  have BZ := hide (B4.out.trans (hbz.below hg1))
  have G1 : Hid (Blk z g1 27 (Cv.cells (c.moved a6 c6 c.ax c.cx c.ay c.cy c.ao c.co c.an c.cn))) := hide (by
    have e := Cv.setTail c HO.out HN.out 0 (.slice a6 c.ls c6)
    rw [Nat.add_zero] at e
    rw [e] at hz
    exact hz)
  have HL : Hid ((Cv.cells (c.moved a6 c6 c.ax c.cx c.ay c.cy c.ao c.co c.an c.cn)).length = 72) := hide (Cv.length (c := (c.moved a6 c6 c.ax c.cx c.ay c.cy c.ao c.co c.an c.cn)) HO.out HN.out)
  have SX := hide (HI.out.sx.below BZ.out)
  have SY := hide (HI.out.sy.below BZ.out)
  clear hz hs4 hn4 hb4 hb3 G04 G24 hap k3 k3' hbz
  refine join6 (fun g8 x m g12 y n W => Blk W g1 27 ((List.set (Cv.cells (c.moved a6 c6 c.ax c.cx c.ay c.cy c.ao c.co c.an c.cn)) 68 (.slice x c.lx m)).set 69 (.slice y c.ly n)) ∧ Sl W x c.lx m c.X ∧ Sl W y c.ly n c.Y ∧ (0 < c.lx → ∃ b, x = some ⟨b, 0, none⟩ ∧ z.heap.size ≤ b) ∧ (0 < c.ly → ∃ b, y = some ⟨b, 0, none⟩ ∧ z.heap.size ≤ b) ∧ Chg g1 z W) ?act1 ?tail1 (fun hjoin => ?_)
  rotate_left
  rotate_left
  · refine wp_region_noPanic ?_
    refine wp_region_U (q := 9) (S := fun v : World => Below z.heap.size z v) (by kernel_rfl) ?_
    have Z0 := hide ((Below.refl z.heap.size z).drew)
    have hHeld := Z0.out
    have hlt1 : g1 < z.heap.size := G1.out.lt
    have HA : Hid (∀ v : World, Below z.heap.size z v → Cv.At (c.moved a6 c6 c.ax c.cx c.ay c.cy c.ao c.co c.an c.cn) v g1) := hide (fun v hv => Cv.at (c := (c.moved a6 c6 c.ax c.cx c.ay c.cy c.ao c.co c.an c.cn)) (G1.out.on hv) HO.out HN.out)
    refine takeU 9 1 9 (.pointer (some ⟨g1, 68, none⟩)) hHeld rfl rfl (by kernel_rfl) (by kernel_rfl) (by kernel_rfl) (by kernel_rfl) (by kernel_rfl) (by kernel_rfl) (fun _ _ _ h => h) (Or.inl ⟨by rfl, fun w _ => by go_simp⟩) ?_
    simp only [Act.put, List.setIfInBounds_toArray, List.set_cons_zero, List.set_cons_succ]
    refine takeU 9 2 10 (.slice c.ax c.lx c.cx) hHeld rfl rfl (by kernel_rfl) (by kernel_rfl) (by kernel_rfl) (by kernel_rfl) (by kernel_rfl) (by kernel_rfl) (fun _ _ _ h => h) (Or.inl ⟨by rfl, fun w hw => by have hw' : w.cell? ⟨g1, 68, none⟩ = some (.slice c.ax c.lx c.cx) := (fun hw => (HA.out _ hw).x) hw; go_simp⟩) ?_
    simp only [Act.put, List.setIfInBounds_toArray, List.set_cons_zero, List.set_cons_succ]
    refine takeU 9 5 13 (.pointer (some ⟨g1, 69, none⟩)) hHeld rfl rfl (by kernel_rfl) (by kernel_rfl) (by kernel_rfl) (by kernel_rfl) (by kernel_rfl) (by kernel_rfl) (fun _ _ _ h => h) (Or.inl ⟨by rfl, fun w _ => by go_simp⟩) ?_
    simp only [Act.put, List.setIfInBounds_toArray, List.set_cons_zero, List.set_cons_succ]
    refine takeU 9 6 14 (.slice c.ay c.ly c.cy) hHeld rfl rfl (by kernel_rfl) (by kernel_rfl) (by kernel_rfl) (by kernel_rfl) (by kernel_rfl) (by kernel_rfl) (fun _ _ _ h => h) (Or.inl ⟨by rfl, fun w hw => by have hw' : w.cell? ⟨g1, 69, none⟩ = some (.slice c.ay c.ly c.cy) := (fun hw => (HA.out _ hw).y) hw; go_simp⟩) ?_
    simp only [Act.put, List.setIfInBounds_toArray, List.set_cons_zero, List.set_cons_succ]
    refine wpAnyU_ready (rs := [0, 4]) (by kernel_rfl) (by simp) (AllReadyU.cons rfl (fun K hK => ?_) (AllReadyU.cons rfl (fun K hK => ?_) AllReadyU.nil))
    · skip
      rw [if_pos (by rfl)]
      refine wp_0b ?_
      intro v1 g8 hb
      have Z1 := hide (Z0.out.trans (hb.mono Z0.out.size))
      clear hb
      refine hK.out _ _ (fun _ => Z1.out) ?_
      have hHeld := Z1.out
      clear hK K
      simp only [Act.put]
      refine wpAnyU_ready (rs := [3, 4]) (by kernel_rfl) (by simp) (AllReadyU.cons rfl (fun K hK => ?_) (AllReadyU.cons rfl (fun K hK => ?_) AllReadyU.nil))
      · skip
        rw [if_pos (by rfl)]
        refine wp_appendE rfl rfl (SX.out.below Z1.out) ?_
        intro a11 c11 v2 hs hnew hb
        have Z2 := hide (Z1.out.trans (hb.mono Z1.out.size))
        have N1 := hide hs
        have W1 := hide hnew
        clear hs hnew
        clear hb
        refine hK.out _ _ (fun _ => Z2.out) ?_
        have hHeld := Z2.out
        clear hK K
        simp only [Act.put]
        refine takeU 9 8 16 (.pointer (some ⟨g1, 68, none⟩)) hHeld rfl rfl (by kernel_rfl) (by kernel_rfl) (by kernel_rfl) (by kernel_rfl) (by kernel_rfl) (by kernel_rfl) (fun _ _ _ h => h) (Or.inl ⟨by rfl, fun w _ => by go_simp⟩) ?_
        simp only [Act.put, List.setIfInBounds_toArray, List.set_cons_zero, List.set_cons_succ]
        refine wpAnyU_ready (rs := [4]) (by kernel_rfl) (by simp) (AllReadyU.cons rfl (fun K hK => ?_) AllReadyU.nil)
        rw [if_pos (by rfl)]
        refine wp_0b ?_
        intro v3 g12 hb
        have Z3 := hide (Z2.out.trans (hb.mono Z2.out.size))
        have N2 := hide (N1.out.below hb)
        clear hb
        refine hK.out _ _ (fun _ => Z3.out) ?_
        have hHeld := Z3.out
        clear hK K
        simp only [Act.put]
        refine wpAnyU_ready (rs := [7]) (by kernel_rfl) (by simp) (AllReadyU.cons rfl (fun K hK => ?_) AllReadyU.nil)
        rw [if_pos (by rfl)]
        refine wp_appendE rfl rfl (SY.out.below Z3.out) ?_
        intro a15 c15 v4 hs hnew hb
        have Z4 := hide (Z3.out.trans (hb.mono Z3.out.size))
        have N3 := hide hs
        have W3 := hide hnew
        clear hs hnew
        have N4 := hide (N2.out.below hb)
        clear hb
        refine hK.out _ _ (fun _ => Z4.out) ?_
        have hHeld := Z4.out
        clear hK K
        simp only [Act.put]
        refine wpAnyU_ready (rs := [9]) (by kernel_rfl) (by simp) (AllReadyU.cons rfl (fun K hK => ?_) AllReadyU.nil)
        rw [if_pos (by rfl)]
        refine wp_stB rfl rfl (G1.out.on Z4.out) (by rw [HL.out]; omega) ?_
        intro x1 hx1 hbx1
        refine hK.out _ _ (fun h => absurd h (by decide)) ?_
        clear hK K
        simp only [Act.put]
        refine wpAnyU_ready (rs := [10]) (by kernel_rfl) (by simp) (AllReadyU.cons rfl (fun K hK => ?_) AllReadyU.nil)
        rw [if_pos (by rfl)]
        go_simp
        refine hK.out _ _ (fun h => absurd h (by decide)) ?_
        clear hK K
        refine wpAnyU_ready (rs := [11]) (by kernel_rfl) (by simp) (AllReadyU.cons rfl (fun K hK => ?_) AllReadyU.nil)
        rw [if_pos (by rfl)]
        refine wp_stB rfl rfl hx1 (by rw [List.length_set, HL.out]; omega) ?_
        intro x2 hx2 hbx2
        refine hK.out _ _ (fun h => absurd h (by decide)) ?_
        clear hK K
        simp only [Act.put]
        refine wpAnyU_done (by kernel_rfl) ?_ _
        refine NoPanic.normal ?_
        exact hjoin g8 a11 c11 g12 a15 c15 x2 ⟨hx2, (N4.out.but hbx1 (apartQ W1.out (Nat.lt_of_lt_of_le hlt1 Z1.out.size))).but hbx2 (apartQ W1.out (Nat.lt_of_lt_of_le hlt1 Z1.out.size)), (N3.out.but hbx1 (apartQ W3.out (Nat.lt_of_lt_of_le hlt1 Z3.out.size))).but hbx2 (apartQ W3.out (Nat.lt_of_lt_of_le hlt1 Z3.out.size)), newM W1.out Z1.out.size, newM W3.out Z3.out.size, ((Chg.of_below Z4.out).trans (Chg.of_but hbx1)).trans (Chg.of_but hbx2)⟩
      · skip
        rw [if_pos (by rfl)]
        refine wp_0b ?_
        intro v2 g12 hb
        have Z2 := hide (Z1.out.trans (hb.mono Z1.out.size))
        clear hb
        refine hK.out _ _ (fun _ => Z2.out) ?_
        have hHeld := Z2.out
        clear hK K
        simp only [Act.put]
        refine wpAnyU_ready (rs := [3]) (by kernel_rfl) (by simp) (AllReadyU.cons rfl (fun K hK => ?_) AllReadyU.nil)
        rw [if_pos (by rfl)]
        refine wp_appendE rfl rfl (SX.out.below Z2.out) ?_
        intro a11 c11 v3 hs hnew hb
        have Z3 := hide (Z2.out.trans (hb.mono Z2.out.size))
        have N1 := hide hs
        have W1 := hide hnew
        clear hs hnew
        clear hb
        refine hK.out _ _ (fun _ => Z3.out) ?_
        have hHeld := Z3.out
        clear hK K
        simp only [Act.put]
        refine takeU 9 8 16 (.pointer (some ⟨g1, 68, none⟩)) hHeld rfl rfl (by kernel_rfl) (by kernel_rfl) (by kernel_rfl) (by kernel_rfl) (by kernel_rfl) (by kernel_rfl) (fun _ _ _ h => h) (Or.inl ⟨by rfl, fun w _ => by go_simp⟩) ?_
        simp only [Act.put, List.setIfInBounds_toArray, List.set_cons_zero, List.set_cons_succ]
        refine wpAnyU_ready (rs := [7]) (by kernel_rfl) (by simp) (AllReadyU.cons rfl (fun K hK => ?_) AllReadyU.nil)
        rw [if_pos (by rfl)]
        refine wp_appendE rfl rfl (SY.out.below Z3.out) ?_
        intro a15 c15 v4 hs hnew hb
        have Z4 := hide (Z3.out.trans (hb.mono Z3.out.size))
        have N3 := hide hs
        have W3 := hide hnew
        clear hs hnew
        have N4 := hide (N1.out.below hb)
        clear hb
        refine hK.out _ _ (fun _ => Z4.out) ?_
        have hHeld := Z4.out
        clear hK K
        simp only [Act.put]
        refine wpAnyU_ready (rs := [9]) (by kernel_rfl) (by simp) (AllReadyU.cons rfl (fun K hK => ?_) AllReadyU.nil)
        rw [if_pos (by rfl)]
        refine wp_stB rfl rfl (G1.out.on Z4.out) (by rw [HL.out]; omega) ?_
        intro x1 hx1 hbx1
        refine hK.out _ _ (fun h => absurd h (by decide)) ?_
        clear hK K
        simp only [Act.put]
        refine wpAnyU_ready (rs := [10]) (by kernel_rfl) (by simp) (AllReadyU.cons rfl (fun K hK => ?_) AllReadyU.nil)
        rw [if_pos (by rfl)]
        go_simp
        refine hK.out _ _ (fun h => absurd h (by decide)) ?_
        clear hK K
        refine wpAnyU_ready (rs := [11]) (by kernel_rfl) (by simp) (AllReadyU.cons rfl (fun K hK => ?_) AllReadyU.nil)
        rw [if_pos (by rfl)]
        refine wp_stB rfl rfl hx1 (by rw [List.length_set, HL.out]; omega) ?_
        intro x2 hx2 hbx2
        refine hK.out _ _ (fun h => absurd h (by decide)) ?_
        clear hK K
        simp only [Act.put]
        refine wpAnyU_done (by kernel_rfl) ?_ _
        refine NoPanic.normal ?_
        exact hjoin g8 a11 c11 g12 a15 c15 x2 ⟨hx2, (N4.out.but hbx1 (apartQ W1.out (Nat.lt_of_lt_of_le hlt1 Z2.out.size))).but hbx2 (apartQ W1.out (Nat.lt_of_lt_of_le hlt1 Z2.out.size)), (N3.out.but hbx1 (apartQ W3.out (Nat.lt_of_lt_of_le hlt1 Z3.out.size))).but hbx2 (apartQ W3.out (Nat.lt_of_lt_of_le hlt1 Z3.out.size)), newM W1.out Z2.out.size, newM W3.out Z3.out.size, ((Chg.of_below Z4.out).trans (Chg.of_but hbx1)).trans (Chg.of_but hbx2)⟩
    · skip
      rw [if_pos (by rfl)]
      refine wp_0b ?_
      intro v1 g12 hb
      have Z1 := hide (Z0.out.trans (hb.mono Z0.out.size))
      clear hb
      refine hK.out _ _ (fun _ => Z1.out) ?_
      have hHeld := Z1.out
      clear hK K
      simp only [Act.put]
      refine wpAnyU_ready (rs := [0]) (by kernel_rfl) (by simp) (AllReadyU.cons rfl (fun K hK => ?_) AllReadyU.nil)
      rw [if_pos (by rfl)]
      refine wp_0b ?_
      intro v2 g8 hb
      have Z2 := hide (Z1.out.trans (hb.mono Z1.out.size))
      clear hb
      refine hK.out _ _ (fun _ => Z2.out) ?_
      have hHeld := Z2.out
      clear hK K
      simp only [Act.put]
      refine wpAnyU_ready (rs := [3]) (by kernel_rfl) (by simp) (AllReadyU.cons rfl (fun K hK => ?_) AllReadyU.nil)
      rw [if_pos (by rfl)]
      refine wp_appendE rfl rfl (SX.out.below Z2.out) ?_
      intro a11 c11 v3 hs hnew hb
      have Z3 := hide (Z2.out.trans (hb.mono Z2.out.size))
      have N1 := hide hs
      have W1 := hide hnew
      clear hs hnew
      clear hb
      refine hK.out _ _ (fun _ => Z3.out) ?_
      have hHeld := Z3.out
      clear hK K
      simp only [Act.put]
      refine takeU 9 8 16 (.pointer (some ⟨g1, 68, none⟩)) hHeld rfl rfl (by kernel_rfl) (by kernel_rfl) (by kernel_rfl) (by kernel_rfl) (by kernel_rfl) (by kernel_rfl) (fun _ _ _ h => h) (Or.inl ⟨by rfl, fun w _ => by go_simp⟩) ?_
      simp only [Act.put, List.setIfInBounds_toArray, List.set_cons_zero, List.set_cons_succ]
      refine wpAnyU_ready (rs := [7]) (by kernel_rfl) (by simp) (AllReadyU.cons rfl (fun K hK => ?_) AllReadyU.nil)
      rw [if_pos (by rfl)]
      refine wp_appendE rfl rfl (SY.out.below Z3.out) ?_
      intro a15 c15 v4 hs hnew hb
      have Z4 := hide (Z3.out.trans (hb.mono Z3.out.size))
      have N3 := hide hs
      have W3 := hide hnew
      clear hs hnew
      have N4 := hide (N1.out.below hb)
      clear hb
      refine hK.out _ _ (fun _ => Z4.out) ?_
      have hHeld := Z4.out
      clear hK K
      simp only [Act.put]
      refine wpAnyU_ready (rs := [9]) (by kernel_rfl) (by simp) (AllReadyU.cons rfl (fun K hK => ?_) AllReadyU.nil)
      rw [if_pos (by rfl)]
      refine wp_stB rfl rfl (G1.out.on Z4.out) (by rw [HL.out]; omega) ?_
      intro x1 hx1 hbx1
      refine hK.out _ _ (fun h => absurd h (by decide)) ?_
      clear hK K
      simp only [Act.put]
      refine wpAnyU_ready (rs := [10]) (by kernel_rfl) (by simp) (AllReadyU.cons rfl (fun K hK => ?_) AllReadyU.nil)
      rw [if_pos (by rfl)]
      go_simp
      refine hK.out _ _ (fun h => absurd h (by decide)) ?_
      clear hK K
      refine wpAnyU_ready (rs := [11]) (by kernel_rfl) (by simp) (AllReadyU.cons rfl (fun K hK => ?_) AllReadyU.nil)
      rw [if_pos (by rfl)]
      refine wp_stB rfl rfl hx1 (by rw [List.length_set, HL.out]; omega) ?_
      intro x2 hx2 hbx2
      refine hK.out _ _ (fun h => absurd h (by decide)) ?_
      clear hK K
      simp only [Act.put]
      refine wpAnyU_done (by kernel_rfl) ?_ _
      refine NoPanic.normal ?_
      exact hjoin g8 a11 c11 g12 a15 c15 x2 ⟨hx2, (N4.out.but hbx1 (apartQ W1.out (Nat.lt_of_lt_of_le hlt1 Z2.out.size))).but hbx2 (apartQ W1.out (Nat.lt_of_lt_of_le hlt1 Z2.out.size)), (N3.out.but hbx1 (apartQ W3.out (Nat.lt_of_lt_of_le hlt1 Z3.out.size))).but hbx2 (apartQ W3.out (Nat.lt_of_lt_of_le hlt1 Z3.out.size)), newM W1.out Z2.out.size, newM W3.out Z3.out.size, ((Chg.of_below Z4.out).trans (Chg.of_but hbx1)).trans (Chg.of_but hbx2)⟩
  case tail1 =>
    intro g8 a11 c11 g12 a15 c15 Z hP
    obtain ⟨h1, hX, hY, aX, aY, hC⟩ := hP
    rw [Cv.mv2 c HO.out HN.out] at h1
    have h1' := h1
    have DS2 := hide (DS.out.chgQ hC HAP.out)
    have BZ2 := hide (BZ.out.trans (hC.below hg1 BZ.out.size))
    have G2Z := hide (G2z.out.chg hC h12)
    have NX2 := hide hX
    have NY2 := hide hY
    have hl1z : g1 < z.heap.size := G1.out.lt
    have hl2z : g2 < z.heap.size := G2z.out.lt
    have AX2 := hide (apartQ aX hl1z)
    have AY2 := hide (apartQ aY hl1z)
    have AX3 := hide (apartQ aX hl2z)
    have AY3 := hide (apartQ aY hl2z)
    clear h1 hC hX hY aX aY DS G2z BZ G1 HL SX SY
    have G1 := hide h1'
    have HL : Hid ((Cv.cells (c.moved a6 c6 a11 c11 a15 c15 c.ao c.co c.an c.cn)).length = 72) := hide (Cv.length (c := (c.moved a6 c6 a11 c11 a15 c15 c.ao c.co c.an c.cn)) HO.out HN.out)
    have SX := hide (HI.out.dO.below BZ2.out)
    have SY := hide (HI.out.dN.below BZ2.out)
    clear h1'
    clear hl1z hl2z
    clear z
    generalize hzz : Z = z at *
    clear hzz
    go_wp2_with fail
    refine join6 (fun g8 x m g12 y n W => Blk W g1 27 ((List.set (Cv.cells (c.moved a6 c6 a11 c11 a15 c15 c.ao c.co c.an c.cn)) 70 (.slice x c.lo m)).set 71 (.slice y c.ln n)) ∧ Ds W x c.lo m c.O ∧ Ds W y c.ln n c.N ∧ (0 < c.lo → ∃ b, x = some ⟨b, 0, none⟩ ∧ z.heap.size ≤ b) ∧ (0 < c.ln → ∃ b, y = some ⟨b, 0, none⟩ ∧ z.heap.size ≤ b) ∧ Chg g1 z W) ?act2 ?tail2 (fun hjoin => ?_)
    rotate_left
    rotate_left
    · refine wp_region_noPanic ?_
      refine wp_region_U (q := 9) (S := fun v : World => Below z.heap.size z v) (by kernel_rfl) ?_
      have Z0 := hide ((Below.refl z.heap.size z).drew)
      have hHeld := Z0.out
      have hlt1 : g1 < z.heap.size := G1.out.lt
      have HA : Hid (∀ v : World, Below z.heap.size z v → Cv.At (c.moved a6 c6 a11 c11 a15 c15 c.ao c.co c.an c.cn) v g1) := hide (fun v hv => Cv.at (c := (c.moved a6 c6 a11 c11 a15 c15 c.ao c.co c.an c.cn)) (G1.out.on hv) HO.out HN.out)
      refine takeU 9 1 19 (.pointer (some ⟨g1, 70, none⟩)) hHeld rfl rfl (by kernel_rfl) (by kernel_rfl) (by kernel_rfl) (by kernel_rfl) (by kernel_rfl) (by kernel_rfl) (fun _ _ _ h => h) (Or.inl ⟨by rfl, fun w _ => by go_simp⟩) ?_
      simp only [Act.put, List.setIfInBounds_toArray, List.set_cons_zero, List.set_cons_succ]
      refine takeU 9 2 20 (.slice c.ao c.lo c.co) hHeld rfl rfl (by kernel_rfl) (by kernel_rfl) (by kernel_rfl) (by kernel_rfl) (by kernel_rfl) (by kernel_rfl) (fun _ _ _ h => h) (Or.inl ⟨by rfl, fun w hw => by have hw' : w.cell? ⟨g1, 70, none⟩ = some (.slice c.ao c.lo c.co) := (fun hw => (HA.out _ hw).o) hw; go_simp⟩) ?_
      simp only [Act.put, List.setIfInBounds_toArray, List.set_cons_zero, List.set_cons_succ]
      refine takeU 9 5 23 (.pointer (some ⟨g1, 71, none⟩)) hHeld rfl rfl (by kernel_rfl) (by kernel_rfl) (by kernel_rfl) (by kernel_rfl) (by kernel_rfl) (by kernel_rfl) (fun _ _ _ h => h) (Or.inl ⟨by rfl, fun w _ => by go_simp⟩) ?_
      simp only [Act.put, List.setIfInBounds_toArray, List.set_cons_zero, List.set_cons_succ]
      refine takeU 9 6 24 (.slice c.an c.ln c.cn) hHeld rfl rfl (by kernel_rfl) (by kernel_rfl) (by kernel_rfl) (by kernel_rfl) (by kernel_rfl) (by kernel_rfl) (fun _ _ _ h => h) (Or.inl ⟨by rfl, fun w hw => by have hw' : w.cell? ⟨g1, 71, none⟩ = some (.slice c.an c.ln c.cn) := (fun hw => (HA.out _ hw).nn) hw; go_simp⟩) ?_
      simp only [Act.put, List.setIfInBounds_toArray, List.set_cons_zero, List.set_cons_succ]
      refine wpAnyU_ready (rs := [0, 4]) (by kernel_rfl) (by simp) (AllReadyU.cons rfl (fun K hK => ?_) (AllReadyU.cons rfl (fun K hK => ?_) AllReadyU.nil))
      · skip
        rw [if_pos (by rfl)]
        refine wp_0d ?_
        intro v1 g18 hb
        have Z1 := hide (Z0.out.trans (hb.mono Z0.out.size))
        clear hb
        refine hK.out _ _ (fun _ => Z1.out) ?_
        have hHeld := Z1.out
        clear hK K
        simp only [Act.put]
        refine wpAnyU_ready (rs := [3, 4]) (by kernel_rfl) (by simp) (AllReadyU.cons rfl (fun K hK => ?_) (AllReadyU.cons rfl (fun K hK => ?_) AllReadyU.nil))
        · skip
          rw [if_pos (by rfl)]
          refine wp_appendED rfl rfl (SX.out.below Z1.out) ?_
          intro a21 c21 v2 hs hnew hb
          have Z2 := hide (Z1.out.trans (hb.mono Z1.out.size))
          have N1 := hide hs
          have W1 := hide hnew
          clear hs hnew
          clear hb
          refine hK.out _ _ (fun _ => Z2.out) ?_
          have hHeld := Z2.out
          clear hK K
          simp only [Act.put]
          refine takeU 9 8 26 (.pointer (some ⟨g1, 70, none⟩)) hHeld rfl rfl (by kernel_rfl) (by kernel_rfl) (by kernel_rfl) (by kernel_rfl) (by kernel_rfl) (by kernel_rfl) (fun _ _ _ h => h) (Or.inl ⟨by rfl, fun w _ => by go_simp⟩) ?_
          simp only [Act.put, List.setIfInBounds_toArray, List.set_cons_zero, List.set_cons_succ]
          refine wpAnyU_ready (rs := [4]) (by kernel_rfl) (by simp) (AllReadyU.cons rfl (fun K hK => ?_) AllReadyU.nil)
          rw [if_pos (by rfl)]
          refine wp_0d ?_
          intro v3 g22 hb
          have Z3 := hide (Z2.out.trans (hb.mono Z2.out.size))
          have N2 := hide (N1.out.below hb)
          clear hb
          refine hK.out _ _ (fun _ => Z3.out) ?_
          have hHeld := Z3.out
          clear hK K
          simp only [Act.put]
          refine wpAnyU_ready (rs := [7]) (by kernel_rfl) (by simp) (AllReadyU.cons rfl (fun K hK => ?_) AllReadyU.nil)
          rw [if_pos (by rfl)]
          refine wp_appendED rfl rfl (SY.out.below Z3.out) ?_
          intro a25 c25 v4 hs hnew hb
          have Z4 := hide (Z3.out.trans (hb.mono Z3.out.size))
          have N3 := hide hs
          have W3 := hide hnew
          clear hs hnew
          have N4 := hide (N2.out.below hb)
          clear hb
          refine hK.out _ _ (fun _ => Z4.out) ?_
          have hHeld := Z4.out
          clear hK K
          simp only [Act.put]
          refine wpAnyU_ready (rs := [9]) (by kernel_rfl) (by simp) (AllReadyU.cons rfl (fun K hK => ?_) AllReadyU.nil)
          rw [if_pos (by rfl)]
          refine wp_stD rfl rfl (G1.out.on Z4.out) (by rw [HL.out]; omega) ?_
          intro x1 hx1 hbx1
          refine hK.out _ _ (fun h => absurd h (by decide)) ?_
          clear hK K
          simp only [Act.put]
          refine wpAnyU_ready (rs := [10]) (by kernel_rfl) (by simp) (AllReadyU.cons rfl (fun K hK => ?_) AllReadyU.nil)
          rw [if_pos (by rfl)]
          go_simp
          refine hK.out _ _ (fun h => absurd h (by decide)) ?_
          clear hK K
          refine wpAnyU_ready (rs := [11]) (by kernel_rfl) (by simp) (AllReadyU.cons rfl (fun K hK => ?_) AllReadyU.nil)
          rw [if_pos (by rfl)]
          refine wp_stD rfl rfl hx1 (by rw [List.length_set, HL.out]; omega) ?_
          intro x2 hx2 hbx2
          refine hK.out _ _ (fun h => absurd h (by decide)) ?_
          clear hK K
          simp only [Act.put]
          refine wpAnyU_done (by kernel_rfl) ?_ _
          refine NoPanic.normal ?_
          exact hjoin g18 a21 c21 g22 a25 c25 x2 ⟨hx2, (N4.out.butQ hbx1 (apartQ W1.out (Nat.lt_of_lt_of_le hlt1 Z1.out.size))).butQ hbx2 (apartQ W1.out (Nat.lt_of_lt_of_le hlt1 Z1.out.size)), (N3.out.butQ hbx1 (apartQ W3.out (Nat.lt_of_lt_of_le hlt1 Z3.out.size))).butQ hbx2 (apartQ W3.out (Nat.lt_of_lt_of_le hlt1 Z3.out.size)), newM W1.out Z1.out.size, newM W3.out Z3.out.size, ((Chg.of_below Z4.out).trans (Chg.of_but hbx1)).trans (Chg.of_but hbx2)⟩
        · skip
          rw [if_pos (by rfl)]
          refine wp_0d ?_
          intro v2 g22 hb
          have Z2 := hide (Z1.out.trans (hb.mono Z1.out.size))
          clear hb
          refine hK.out _ _ (fun _ => Z2.out) ?_
          have hHeld := Z2.out
          clear hK K
          simp only [Act.put]
          refine wpAnyU_ready (rs := [3]) (by kernel_rfl) (by simp) (AllReadyU.cons rfl (fun K hK => ?_) AllReadyU.nil)
          rw [if_pos (by rfl)]
          refine wp_appendED rfl rfl (SX.out.below Z2.out) ?_
          intro a21 c21 v3 hs hnew hb
          have Z3 := hide (Z2.out.trans (hb.mono Z2.out.size))
          have N1 := hide hs
          have W1 := hide hnew
          clear hs hnew
          clear hb
          refine hK.out _ _ (fun _ => Z3.out) ?_
          have hHeld := Z3.out
          clear hK K
          simp only [Act.put]
          refine takeU 9 8 26 (.pointer (some ⟨g1, 70, none⟩)) hHeld rfl rfl (by kernel_rfl) (by kernel_rfl) (by kernel_rfl) (by kernel_rfl) (by kernel_rfl) (by kernel_rfl) (fun _ _ _ h => h) (Or.inl ⟨by rfl, fun w _ => by go_simp⟩) ?_
          simp only [Act.put, List.setIfInBounds_toArray, List.set_cons_zero, List.set_cons_succ]
          refine wpAnyU_ready (rs := [7]) (by kernel_rfl) (by simp) (AllReadyU.cons rfl (fun K hK => ?_) AllReadyU.nil)
          rw [if_pos (by rfl)]
          refine wp_appendED rfl rfl (SY.out.below Z3.out) ?_
          intro a25 c25 v4 hs hnew hb
          have Z4 := hide (Z3.out.trans (hb.mono Z3.out.size))
          have N3 := hide hs
          have W3 := hide hnew
          clear hs hnew
          have N4 := hide (N1.out.below hb)
          clear hb
          refine hK.out _ _ (fun _ => Z4.out) ?_
          have hHeld := Z4.out
          clear hK K
          simp only [Act.put]
          refine wpAnyU_ready (rs := [9]) (by kernel_rfl) (by simp) (AllReadyU.cons rfl (fun K hK => ?_) AllReadyU.nil)
          rw [if_pos (by rfl)]
          refine wp_stD rfl rfl (G1.out.on Z4.out) (by rw [HL.out]; omega) ?_
          intro x1 hx1 hbx1
          refine hK.out _ _ (fun h => absurd h (by decide)) ?_
          clear hK K
          simp only [Act.put]
          refine wpAnyU_ready (rs := [10]) (by kernel_rfl) (by simp) (AllReadyU.cons rfl (fun K hK => ?_) AllReadyU.nil)
          rw [if_pos (by rfl)]
          go_simp
          refine hK.out _ _ (fun h => absurd h (by decide)) ?_
          clear hK K
          refine wpAnyU_ready (rs := [11]) (by kernel_rfl) (by simp) (AllReadyU.cons rfl (fun K hK => ?_) AllReadyU.nil)
          rw [if_pos (by rfl)]
          refine wp_stD rfl rfl hx1 (by rw [List.length_set, HL.out]; omega) ?_
          intro x2 hx2 hbx2
          refine hK.out _ _ (fun h => absurd h (by decide)) ?_
          clear hK K
          simp only [Act.put]
          refine wpAnyU_done (by kernel_rfl) ?_ _
          refine NoPanic.normal ?_
          exact hjoin g18 a21 c21 g22 a25 c25 x2 ⟨hx2, (N4.out.butQ hbx1 (apartQ W1.out (Nat.lt_of_lt_of_le hlt1 Z2.out.size))).butQ hbx2 (apartQ W1.out (Nat.lt_of_lt_of_le hlt1 Z2.out.size)), (N3.out.butQ hbx1 (apartQ W3.out (Nat.lt_of_lt_of_le hlt1 Z3.out.size))).butQ hbx2 (apartQ W3.out (Nat.lt_of_lt_of_le hlt1 Z3.out.size)), newM W1.out Z2.out.size, newM W3.out Z3.out.size, ((Chg.of_below Z4.out).trans (Chg.of_but hbx1)).trans (Chg.of_but hbx2)⟩
      · skip
        rw [if_pos (by rfl)]
        refine wp_0d ?_
        intro v1 g22 hb
        have Z1 := hide (Z0.out.trans (hb.mono Z0.out.size))
        clear hb
        refine hK.out _ _ (fun _ => Z1.out) ?_
        have hHeld := Z1.out
        clear hK K
        simp only [Act.put]
        refine wpAnyU_ready (rs := [0]) (by kernel_rfl) (by simp) (AllReadyU.cons rfl (fun K hK => ?_) AllReadyU.nil)
        rw [if_pos (by rfl)]
        refine wp_0d ?_
        intro v2 g18 hb
        have Z2 := hide (Z1.out.trans (hb.mono Z1.out.size))
        clear hb
        refine hK.out _ _ (fun _ => Z2.out) ?_
        have hHeld := Z2.out
        clear hK K
        simp only [Act.put]
        refine wpAnyU_ready (rs := [3]) (by kernel_rfl) (by simp) (AllReadyU.cons rfl (fun K hK => ?_) AllReadyU.nil)
        rw [if_pos (by rfl)]
        refine wp_appendED rfl rfl (SX.out.below Z2.out) ?_
        intro a21 c21 v3 hs hnew hb
        have Z3 := hide (Z2.out.trans (hb.mono Z2.out.size))
        have N1 := hide hs
        have W1 := hide hnew
        clear hs hnew
        clear hb
        refine hK.out _ _ (fun _ => Z3.out) ?_
        have hHeld := Z3.out
        clear hK K
        simp only [Act.put]
        refine takeU 9 8 26 (.pointer (some ⟨g1, 70, none⟩)) hHeld rfl rfl (by kernel_rfl) (by kernel_rfl) (by kernel_rfl) (by kernel_rfl) (by kernel_rfl) (by kernel_rfl) (fun _ _ _ h => h) (Or.inl ⟨by rfl, fun w _ => by go_simp⟩) ?_
        simp only [Act.put, List.setIfInBounds_toArray, List.set_cons_zero, List.set_cons_succ]
        refine wpAnyU_ready (rs := [7]) (by kernel_rfl) (by simp) (AllReadyU.cons rfl (fun K hK => ?_) AllReadyU.nil)
        rw [if_pos (by rfl)]
        refine wp_appendED rfl rfl (SY.out.below Z3.out) ?_
        intro a25 c25 v4 hs hnew hb
        have Z4 := hide (Z3.out.trans (hb.mono Z3.out.size))
        have N3 := hide hs
        have W3 := hide hnew
        clear hs hnew
        have N4 := hide (N1.out.below hb)
        clear hb
        refine hK.out _ _ (fun _ => Z4.out) ?_
        have hHeld := Z4.out
        clear hK K
        simp only [Act.put]
        refine wpAnyU_ready (rs := [9]) (by kernel_rfl) (by simp) (AllReadyU.cons rfl (fun K hK => ?_) AllReadyU.nil)
        rw [if_pos (by rfl)]
        refine wp_stD rfl rfl (G1.out.on Z4.out) (by rw [HL.out]; omega) ?_
        intro x1 hx1 hbx1
        refine hK.out _ _ (fun h => absurd h (by decide)) ?_
        clear hK K
        simp only [Act.put]
        refine wpAnyU_ready (rs := [10]) (by kernel_rfl) (by simp) (AllReadyU.cons rfl (fun K hK => ?_) AllReadyU.nil)
        rw [if_pos (by rfl)]
        go_simp
        refine hK.out _ _ (fun h => absurd h (by decide)) ?_
        clear hK K
        refine wpAnyU_ready (rs := [11]) (by kernel_rfl) (by simp) (AllReadyU.cons rfl (fun K hK => ?_) AllReadyU.nil)
        rw [if_pos (by rfl)]
        refine wp_stD rfl rfl hx1 (by rw [List.length_set, HL.out]; omega) ?_
        intro x2 hx2 hbx2
        refine hK.out _ _ (fun h => absurd h (by decide)) ?_
        clear hK K
        simp only [Act.put]
        refine wpAnyU_done (by kernel_rfl) ?_ _
        refine NoPanic.normal ?_
        exact hjoin g18 a21 c21 g22 a25 c25 x2 ⟨hx2, (N4.out.butQ hbx1 (apartQ W1.out (Nat.lt_of_lt_of_le hlt1 Z2.out.size))).butQ hbx2 (apartQ W1.out (Nat.lt_of_lt_of_le hlt1 Z2.out.size)), (N3.out.butQ hbx1 (apartQ W3.out (Nat.lt_of_lt_of_le hlt1 Z3.out.size))).butQ hbx2 (apartQ W3.out (Nat.lt_of_lt_of_le hlt1 Z3.out.size)), newM W1.out Z2.out.size, newM W3.out Z3.out.size, ((Chg.of_below Z4.out).trans (Chg.of_but hbx1)).trans (Chg.of_but hbx2)⟩
    case tail2 =>
      intro g18 a21 c21 g22 a25 c25 Y hP
      obtain ⟨h1, hX, hY, aX, aY, hC⟩ := hP
      rw [Cv.mv3 c HO.out HN.out] at h1
      have GY := hide h1
      have HLY : Hid ((Cv.cells (c.moved a6 c6 a11 c11 a15 c15 a21 c21 a25 c25)).length = 72) := hide (Cv.length (c := (c.moved a6 c6 a11 c11 a15 c15 a21 c21 a25 c25)) HO.out HN.out)
      have HZ0 : Hid (c0v.cells.length = 72) := hide (by kernel_rfl)
      have G2Y := hide (G2Z.out.chg hC h12)
      have DY := hide (DS2.out.chgQ hC HAP.out)
      have XY := hide (NX2.out.chg hC AX2.out)
      have YY := hide (NY2.out.chg hC AY2.out)
      have BY := hide (BZ2.out.trans (hC.below hg1 BZ2.out.size))
      have OY := hide hX
      have NY := hide hY
      have hl2z : g2 < z.heap.size := G2Z.out.lt
      have AO3 := hide (apartQ aX hl2z)
      have AN3 := hide (apartQ aY hl2z)
      clear h1 hX hY aX aY hC hl2z
      go_wp2_with (first | (refine step_load wCl rfl rfl GY.out _ HLY.out (by rw [List.drop_zero, List.take_of_length_le (by rw [HLY.out]; omega)]) ?_) | (refine step_storeA wCl rfl rfl rfl G2Y.out HLY.out (Cv.one _) HZ0.out ?_))
      intro U hU hbU
      go_wp2
      refine bodyPost_ret (results_wide rfl wCl _ _ rfl hU HLY.out) rfl ⟨a6, c6, a11, c11, a15, c15, a21, c21, a25, c25, rfl, ?_, BY.out.trans (hbU.below hg2)⟩
      exact ⟨HO.out, HI.out.bo, HN.out, HI.out.bn, DY.out.butQ hbU HAP2.out, XY.out.but hbU AX3.out, HI.out.hx, YY.out.but hbU AY3.out, HI.out.hy, OY.out.butQ hbU AO3.out, NY.out.butQ hbU AN3.out⟩

end Go.Proofs.YtconeobaohmbnaaDoor

/-
  From how an argument is read as data to what the walks are told of it: a claim.
-/
namespace Go.Proofs.YtconeobaohmbnaaDoor
open Go.ChangeShapes Go.WideShapes Go.ChangeAt Go.RowKit
set_option linter.unusedVariables false

set_option maxRecDepth 100000 in
theorem dsC_trod {H : Type} {enc : TypeId × Value → H} {W : World} {fuel : Nat} {cs : List Value} {x : DataW H × List MemPlace}
    (hf : DataW.trod enc Tryd.prog W 0 (fun _ => true) true fuel 24 cs = some x) :
    ∃ a len cap xs, cs = [.slice a len cap] ∧ (cap ≤ 4398046511104 → Ds W a len cap xs) ∧ ((x.1 = .nil ∧ cap = 0) ∨ ∃ es rs, x.1 = .slice es rs ∧ es.length + rs.length = cap) := by
  rcases Deep.open_slice undDl hf with ⟨hcs, hx⟩ | ⟨x', len, cap, m, n, D, Pl, hcs, _, hl, hm, hmm, hx, hel⟩
  · refine ⟨none, 0, 0, [], hcs, fun _ => ⟨Nat.le_refl _, by omega, fun _ => rfl, Sl.none0 _⟩, .inl ⟨?_, rfl⟩⟩
    rw [hx]
  · have hmc : m = cap := by simpa using hmm
    subst hmc
    have cell : ∀ j, j < 32 * m → ∃ z : Int, W.cell? (x'.add j) = some (.int .u8 z) ∧ 0 ≤ z ∧ z ≤ 255 := by
      intro j hj
      obtain ⟨cs', h1, h2⟩ := hel (j / 32) (by omega)
      rw [cellsD] at h1
      obtain ⟨_, hlen, hcell⟩ := World.cells?_some h1
      obtain ⟨ys, q, _, _, _, hyl, hy⟩ := DataW.trod_array aD.und h2
      rw [aD.cells] at hy
      have e := hy (j % 32) (by omega)
      have hys : ys[j % 32]? = some ys[j % 32] := List.getElem?_eq_getElem (by omega)
      rw [hys, Nat.mul_one, List.drop_eq_getElem_cons (by omega)] at e
      simp only [List.take_succ_cons, List.take_zero] at e
      obtain ⟨z, hz, _, hwf⟩ := DataW.trod_int aD.elem e
      simp only [List.cons.injEq, and_true] at hz
      refine ⟨z, ?_, bounds_u8 hwf⟩
      have hc := hcell (j % 32) (by omega)
      rw [List.getElem?_eq_getElem (by omega), hz] at hc
      have ea : (x'.add (j / 32 * 32)).add (j % 32) = x'.add j := by
        rw [Deep.add_add, Nat.div_add_mod']
      rwa [ea] at hc
    refine ⟨some x', len, m, (List.range (32 * len)).map (fun j => intOf ((W.cell? (x'.add j)).getD undef)), hcs, fun hc => ⟨hl, by omega, (fun e => by cases e), by simp, Nat.le_refl _, by omega, by omega, ?_, (fun e => by cases e), fun h0 => ?_⟩, .inr ⟨_, _, by rw [hx], by simp; omega⟩⟩
    · intro y hy
      simp only [List.mem_map, List.mem_range] at hy
      obtain ⟨j, hj, rfl⟩ := hy
      obtain ⟨z, hz, hb⟩ := cell j (by omega)
      simp only [hz, Option.getD_some, intOf]
      exact hb
    · obtain ⟨b, off, spot⟩ := x'
      have hs : spot = none := by
        obtain ⟨z, hz, _⟩ := cell 0 (by omega)
        simpa [Addr.add] using World.cell?_spot hz
      subst hs
      refine ⟨b, off, rfl, fun i hi => ?_⟩
      obtain ⟨z, hz, _⟩ := cell i (by omega)
      rw [Addr.add_lit] at hz
      rw [hz]
      simp [List.getD, hi, Addr.add_lit, hz, intOf]
set_option maxRecDepth 100000 in
theorem slC_trod {H : Type} {enc : TypeId × Value → H} {W : World} {fuel : Nat} {cs : List Value} {x : DataW H × List MemPlace}
    (hf : DataW.trod enc Tryd.prog W 0 (fun _ => true) true fuel 25 cs = some x) :
    ∃ a len cap xs, cs = [.slice a len cap] ∧ (cap ≤ 140737488351232 → Sl W a len cap xs) ∧ ((x.1 = .nil ∧ cap = 0) ∨ ∃ es rs, x.1 = .slice es rs ∧ es.length + rs.length = cap) := by
  rcases open_ints undBs undB (by kernel_rfl) hf with ⟨hcs, hx⟩ | ⟨x', l, c, zs, hcs, _, hl, hm, hz, hx, hcell, hwz⟩
  · refine ⟨none, 0, 0, [], hcs, fun _ => Sl.none0 _, .inl ⟨?_, rfl⟩⟩
    rw [hx]
  · simp only [if_true] at hz
    refine ⟨some x', l, c, zs.take l, hcs, fun hc => ⟨by simp; omega, hl, by omega, by omega, fun y hy => bounds_u8 (hwz y (List.mem_of_mem_take hy)), (fun e => by cases e), fun h0 => ?_⟩, .inr ⟨_, _, by rw [hx], by simp [lits]; omega⟩⟩
    obtain ⟨b, off, spot⟩ := x'
    have hs : spot = none := by simpa [Addr.add] using World.cell?_spot (hcell 0 (by omega))
    subst hs
    refine ⟨b, off, rfl, fun i hi => ?_⟩
    have e := hcell i (by omega)
    rw [Addr.add_lit] at e
    rw [e]
    simp [List.getD, hi]
set_option maxRecDepth 100000 in
theorem digC_trod {H : Type} {enc : TypeId × Value → H} {W : World} {fuel : Nat} {cs : List Value} {x : DataW H × List MemPlace}
    (hf : DataW.trod enc Tryd.prog W 0 (fun _ => true) true fuel 23 cs = some x) (hl : cs.length = 32) :
    ∃ xs : List Int, cs = u8s xs ∧ xs.length = 32 ∧ isB xs := by
  obtain ⟨ys, m, _, _, _, hyl, hy⟩ := DataW.trod_array aD.und hf
  rw [aD.cells] at hy
  have key : ∀ i, i < 32 → ∃ z : Int, cs[i]? = some (.int .u8 z) ∧ 0 ≤ z ∧ z ≤ 255 := by
    intro i hi
    have e := hy i hi
    have hys : ys[i]? = some ys[i] := List.getElem?_eq_getElem (by omega)
    rw [hys, Nat.mul_one, List.drop_eq_getElem_cons (by omega)] at e
    simp only [List.take_succ_cons, List.take_zero] at e
    obtain ⟨z, hz, _, hwf⟩ := DataW.trod_int aD.elem e
    simp only [List.cons.injEq, and_true] at hz
    exact ⟨z, by rw [List.getElem?_eq_getElem (by omega), hz], bounds_u8 hwf⟩
  refine ⟨(List.range 32).map (fun i => intOf (cs[i]?.getD undef)), ?_, by simp, ?_⟩
  · apply List.ext_getElem?
    intro i
    by_cases hi : i < 32
    · obtain ⟨z, hz, _⟩ := key i hi
      rw [hz, u8s_get _ _ (by simp; exact hi)]
      simp [List.getD, hi, hz, intOf]
    · rw [List.getElem?_eq_none (by omega), List.getElem?_eq_none (by rw [u8s_length]; simp; omega)]
  · intro y hy'
    simp only [List.mem_map, List.mem_range] at hy'
    obtain ⟨j, hj, rfl⟩ := hy'
    obtain ⟨z, hz, hb⟩ := key j hj
    simp only [hz, Option.getD_some, intOf]
    exact hb
theorem cutC {L x : List Value} {k n : Nat} (h : (L.drop k).take n = x) (hx : x.length = n) : L.drop k = x ++ L.drop (k + n) := by
  rw [← h, ← List.drop_drop, List.take_append_drop]
theorem fldC {T : TypeId} {fs : Array Field} (hu : Tryd.prog.underlying T = some (.struct fs)) {H : Type} {ys : List (DataW H × List MemPlace)} {j : Nat} {f : Field} (hf : fs[j]? = some f) {y : DataW H × List MemPlace} (hy : ys[j]? = some y)
    (hall : ∀ n ∈ (DataW.agg (ys.map (·.1))).weights Tryd.prog T, n ≤ 140737488351232) : ∀ n ∈ y.1.weights Tryd.prog f.type, n ≤ 140737488351232 := by
  intro n hn
  apply hall
  simp only [DataW.weights, hu]
  exact DataW.weights_mem_each (j := j) (t := f.type) (d := y.1) (by simp [hf]) (by simp [hy]) n hn
theorem capB {H : Type} {y : DataW H × List MemPlace} {cap : Nat} (hall : ∀ n ∈ y.1.weights Tryd.prog 25, n ≤ 140737488351232) (h : (y.1 = .nil ∧ cap = 0) ∨ ∃ es rs, y.1 = .slice es rs ∧ es.length + rs.length = cap) : cap ≤ 140737488351232 := by
  rcases h with ⟨_, rfl⟩ | ⟨es, rs, e4, hl⟩
  · omega
  · have hm : (es.length + rs.length) * Tryd.prog.bytesOf 5 ∈ y.1.weights Tryd.prog 25 := by
      rw [e4]
      simp [DataW.weights]
    have := hall _ hm
    rw [bytes5, hl] at this
    omega
theorem capD {H : Type} {y : DataW H × List MemPlace} {cap : Nat} (hall : ∀ n ∈ y.1.weights Tryd.prog 24, n ≤ 140737488351232) (h : (y.1 = .nil ∧ cap = 0) ∨ ∃ es rs, y.1 = .slice es rs ∧ es.length + rs.length = cap) : cap ≤ 4398046510976 := by
  rcases h with ⟨_, rfl⟩ | ⟨es, rs, e4, hl⟩
  · omega
  · have hm : (es.length + rs.length) * Tryd.prog.bytesOf 23 ∈ y.1.weights Tryd.prog 24 := by
      rw [e4]
      simp [DataW.weights]
    have := hall _ hm
    rw [bytesD, hl] at this
    omega
theorem allC {T : TypeId} {H : Type} {d : DataW H} {ts : List TypeId} {ds : List (DataW H)} {j : Nat} (hsz : (DataW.weightsEach Tryd.prog ts ds).all (· ≤ reachBytes) = true) (ht : ts[j]? = some T) (hd : ds[j]? = some d) : ∀ n ∈ d.weights Tryd.prog T, n ≤ 140737488351232 := fun n hn => by
  have := List.all_eq_true.1 hsz _ (DataW.weights_mem_each ht hd _ hn)
  exact of_decide_eq_true this
theorem ciC : Tryd.prog.cellsOf 3 = 1 := by kernel_rfl
theorem csC : Tryd.prog.cellsOf 24 = 1 := by kernel_rfl
theorem cbC : Tryd.prog.cellsOf 25 = 1 := by kernel_rfl
theorem cdC : Tryd.prog.cellsOf 23 = 32 := by kernel_rfl
theorem uiC : Tryd.prog.underlying 3 = some (.int .i64) := by kernel_rfl

set_option maxRecDepth 100000 in
set_option maxHeartbeats 1000000 in
theorem clm_of {H : Type} {enc : TypeId × Value → H} {W : World} {base : Nat} {v : Value} {d : DataW H} {p : List MemPlace} {ts : List TypeId} {ds : List (DataW H)} (j : Nat)
    (hv : Value.okWide Tryd.prog W .any base 27 v) (h : DataW.Trod enc Tryd.prog W 0 (fun _ => true) true 27 v d p)
    (hsz : (DataW.weightsEach Tryd.prog ts ds).all (· ≤ reachBytes) = true) (ht : ts[j]? = some 27) (hd : ds[j]? = some d) :
    ∃ c : Cv, v = .agg c.cells.toArray ∧ c.In W := by
  have hu := Tryd.underlying27
  have hall := allC hsz ht hd
  obtain ⟨cs, rfl, hsz2⟩ := okWide_struct hu hv
  obtain ⟨L⟩ := cs
  have hL : L.length = 72 := by
    have e : Tryd.prog.cellsOf 27 = 72 := by kernel_rfl
    rw [e] at hsz2
    simpa using hsz2
  obtain ⟨fuel, hf⟩ := h
  obtain ⟨xs, n, _, hx, _, hxl, hfs⟩ := DataW.trod_struct hu hf
  simp only [Prod.mk.injEq] at hx
  rw [hx.1] at hall
  simp only [Value.cells] at hfs
  match xs, hxl with
  | [y0, y1, y2, y3, y4, y5, y6, y7, y8, y9], _ =>
    have h0 : DataW.trod enc Tryd.prog W 0 (fun _ => true) true n 3 ((L.drop 0).take (Tryd.prog.cellsOf 3)) = some y0 := hfs 0 _ rfl
    have h1 : DataW.trod enc Tryd.prog W 0 (fun _ => true) true n 3 ((L.drop 1).take (Tryd.prog.cellsOf 3)) = some y1 := hfs 1 _ rfl
    have h2 : DataW.trod enc Tryd.prog W 0 (fun _ => true) true n 23 ((L.drop 2).take (Tryd.prog.cellsOf 23)) = some y2 := hfs 2 _ rfl
    have h3 : DataW.trod enc Tryd.prog W 0 (fun _ => true) true n 23 ((L.drop 34).take (Tryd.prog.cellsOf 23)) = some y3 := hfs 3 _ rfl
    have h4 : DataW.trod enc Tryd.prog W 0 (fun _ => true) true n 24 ((L.drop 66).take (Tryd.prog.cellsOf 24)) = some y4 := hfs 4 _ rfl
    have h5 : DataW.trod enc Tryd.prog W 0 (fun _ => true) true n 3 ((L.drop 67).take (Tryd.prog.cellsOf 3)) = some y5 := hfs 5 _ rfl
    have h6 : DataW.trod enc Tryd.prog W 0 (fun _ => true) true n 25 ((L.drop 68).take (Tryd.prog.cellsOf 25)) = some y6 := hfs 6 _ rfl
    have h7 : DataW.trod enc Tryd.prog W 0 (fun _ => true) true n 25 ((L.drop 69).take (Tryd.prog.cellsOf 25)) = some y7 := hfs 7 _ rfl
    have h8 : DataW.trod enc Tryd.prog W 0 (fun _ => true) true n 24 ((L.drop 70).take (Tryd.prog.cellsOf 24)) = some y8 := hfs 8 _ rfl
    have h9 : DataW.trod enc Tryd.prog W 0 (fun _ => true) true n 24 ((L.drop 71).take (Tryd.prog.cellsOf 24)) = some y9 := hfs 9 _ rfl
    have q4 : ∀ n ∈ y4.1.weights Tryd.prog 24, n ≤ 140737488351232 := fldC hu (j := 4) rfl (y := y4) rfl hall
    have q6 : ∀ n ∈ y6.1.weights Tryd.prog 25, n ≤ 140737488351232 := fldC hu (j := 6) rfl (y := y6) rfl hall
    have q7 : ∀ n ∈ y7.1.weights Tryd.prog 25, n ≤ 140737488351232 := fldC hu (j := 7) rfl (y := y7) rfl hall
    have q8 : ∀ n ∈ y8.1.weights Tryd.prog 24, n ≤ 140737488351232 := fldC hu (j := 8) rfl (y := y8) rfl hall
    have q9 : ∀ n ∈ y9.1.weights Tryd.prog 24, n ≤ 140737488351232 := fldC hu (j := 9) rfl (y := y9) rfl hall
    rw [ciC] at h0 h1 h5
    rw [cdC] at h2 h3
    rw [csC] at h4 h8 h9
    rw [cbC] at h6 h7
    obtain ⟨m, e0, _, _⟩ := DataW.trod_int uiC h0
    obtain ⟨n', e1, _, _⟩ := DataW.trod_int uiC h1
    obtain ⟨o, e2, lo, bo⟩ := digC_trod h2 (by simp [hL])
    obtain ⟨nw, e3, ln, bn⟩ := digC_trod h3 (by simp [hL])
    obtain ⟨a4, l4, c4, x4, e4, s4, w4⟩ := dsC_trod h4
    obtain ⟨i, e5, _, _⟩ := DataW.trod_int uiC h5
    obtain ⟨a6, l6, c6, x6, e6, s6, w6⟩ := slC_trod h6
    obtain ⟨a7, l7, c7, x7, e7, s7, w7⟩ := slC_trod h7
    obtain ⟨a8, l8, c8, x8, e8, s8, w8⟩ := dsC_trod h8
    obtain ⟨a9, l9, c9, x9, e9, s9, w9⟩ := dsC_trod h9
    have k4 := capD q4 w4
    have k6 := capB q6 w6
    have k7 := capB q7 w7
    have k8 := capD q8 w8
    have k9 := capD q9 w9
    have t6 := s6 k6
    have t7 := s7 k7
    have z6 : l6 ≤ 140737488354304 := by have := t6.hcap; omega
    have z7 : l7 ≤ 140737488354304 := by have := t7.hcap; omega
    refine ⟨⟨m, n', o, nw, i, a4, l4, c4, x4, a6, l6, c6, x6, a7, l7, c7, x7, a8, l8, c8, x8, a9, l9, c9, x9⟩, ?_, lo, bo, ln, bn, s4 (by omega), t6, z6, t7, z7, s8 (by omega), s9 (by omega)⟩
    have d0 := cutC e0 rfl
    have d1 := cutC e1 rfl
    have d2 := cutC e2 (by rw [u8s_length, lo])
    have d3 := cutC e3 (by rw [u8s_length, ln])
    have d4 := cutC e4 rfl
    have d5 := cutC e5 rfl
    have d6 := cutC e6 rfl
    have d7 := cutC e7 rfl
    have d8 := cutC e8 rfl
    have d9 := cutC e9 rfl
    have dd : L.drop 72 = [] := List.drop_of_length_le (by omega)
    simp only [Nat.reduceAdd] at d0 d1 d2 d3 d4 d5 d6 d7 d8 d9
    have e : L = Cv.cells ⟨m, n', o, nw, i, a4, l4, c4, x4, a6, l6, c6, x6, a7, l7, c7, x7, a8, l8, c8, x8, a9, l9, c9, x9⟩ := by
      rw [← List.drop_zero (l := L), d0, d1, d2, d3, d4, d5, d6, d7, d8, d9, dd]
      rfl
    rw [e]

end Go.Proofs.YtconeobaohmbnaaDoor

/-
  Maps by digest; the book that keeps what was hashed (keep, sum).
-/
namespace Go.Proofs.YtconeobaohmbnaaDoor
open Go.RowKit
set_option linter.unusedVariables false

theorem str_injQ {xs ys : List Int} (hx : isB xs) (hy : isB ys) (h : str xs = str ys) : xs = ys := by
  have e := congrArg (fun s : ByteArray => s.data.toList) h
  simp only [str, strOfNums_data] at e
  have key : ∀ zs : List Int, isB zs → (zs.map fun n => UInt8.ofNat n.toNat).map (fun c => (c.toNat : Int)) = zs := by
    intro zs hz
    rw [List.map_map]
    conv => rhs; rw [← List.map_id zs]
    apply List.map_congr_left
    intro z hzz
    have := hz z hzz
    simp only [Function.comp, UInt8.toNat_ofNat', id]
    omega
  rw [← key xs hx, ← key ys hy, e]
theorem run_eqStr {dst : Option Tmp} {ty : TypeId} {pos : String} {aft : Array Edge} {gd : Option (Nat × Bool)} {a : Act} {w : World} {x y : Operand} {xs ys : List Int} (hx : a.eval x = .string (str xs)) (hy : a.eval y = .string (str ys)) (bx : isB xs) (by' : isB ys) :
    (execOp a.eval ⟨dst, .binOp .eql 9 x y 9, ty, pos, aft, gd⟩).run Tryd.prog w = .ok (.value (.bool (decide (xs = ys)))) w := by
  have e : ((str xs).toList == (str ys).toList) = decide (xs = ys) := by
    have e1 : (str xs).toList = Lib.bytesOf xs := Lib.strOfNums_toList xs
    have e2 : (str ys).toList = Lib.bytesOf ys := Lib.strOfNums_toList ys
    rw [e1, e2]
    by_cases h : xs = ys
    · subst h; simp
    · rw [decide_eq_false h]
      refine beq_false_of_ne (fun h2 => h (str_injQ bx by' ?_))
      apply ByteArray.ext
      exact congrArg List.toArray h2
  unfold execOp
  simp only [hx, hy]
  simp [go_sem]
  exact e
section
variable {dst : Option Tmp} {ty : TypeId} {pos : String} {aft : Array Edge} {gd : Option (Nat × Bool)} {ops : Array Oper} {rest : List Oper} {a : Act} {w : World} {K : Act → World → Prop} {Q : Exit → Act → World → Prop}
theorem step_eqStr {x y : Operand} {xs ys : List Int} (hw : Region.wanted ⟨dst, .binOp .eql 9 x y 9, ty, pos, aft, gd⟩ (yielded ops a.tmps) = true) (hx : a.eval x = .string (str xs)) (hy : a.eval y = .string (str ys)) (bx : isB xs) (by' : isB ys)
    (h : wpList Tryd.prog ops Q rest (a.put dst (.bool (decide (xs = ys)))) w) : wpList Tryd.prog ops Q (⟨dst, .binOp .eql 9 x y 9, ty, pos, aft, gd⟩ :: rest) a w :=
  step_run hw _ w (run_eqStr hx hy bx by') h
end
set_option maxRecDepth 100000 in
theorem bytesEq_any (a : Option Addr) (l c : Nat) (xs : List Int) (b : Option Addr) (m d : Nat) (ys : List Int) (w : World) (hx : Sl w a l c xs) (hy : Sl w b m d ys) :
    Calls Tryd.prog 29 #[.slice a l c, .slice b m d] w fun r w' => r = .returned (.bool (decide (xs = ys))) ∧ w' = w := by
  have HX := hide hx
  have HY := hide hy
  clear hx hy
  go_enter Tryd.func29, Tryd.ntmps29
  go_wp2_with (first | (refine step_toStr rfl rfl HX.out ?_) | (refine step_toStr rfl rfl HY.out ?_) | (refine step_eqStr rfl rfl rfl HX.out.hbyte HY.out.hbyte ?_))
  go_ret
  exact ⟨rfl, rfl⟩

/-- A digest as a map's key. -/
def dkey (d : List Int) : Value := .agg (u8s d).toArray
theorem akD : WideMaps.ArrKey Tryd.prog 23 5 32 := ⟨aD.und, by kernel_rfl, by kernel_rfl, by kernel_rfl⟩
theorem klD : WideMaps.KeyLaw Tryd.prog 23 := akD.law
theorem ktD : Tryd.prog.keyType 23 = true := by kernel_rfl
theorem ckD : Tryd.prog.cellsOf 23 = 32 := by kernel_rfl
theorem cuD : Tryd.prog.cellsOf 5 = 1 := by kernel_rfl
theorem dgL (xs : List Int) : (dg bL 0 xs).length = 32 := dg_length _ _ _ (by decide)
theorem tsD : ∃ k, Tryd.prog.types.size = k + 1 := Nat.exists_eq_add_one_of_ne_zero (by
  have h : 0 < Tryd.prog.types.size := by decide +kernel
  omega)
theorem key_of {d : List Int} (hl : d.length = 32) (hb : isB d) : ∃ l, keyOf Tryd.prog 23 (dkey d) = some l := by
  have hm : ∃ r, ((List.range 32).mapM fun i => Tryd.prog.keyLits (Tryd.prog.types.size) 5 (((u8s d).drop (i * Tryd.prog.cellsOf 5)).take (Tryd.prog.cellsOf 5))) = some r := by
    refine MapFrom.mapM_some fun i hi => ?_
    have hi' : i < 32 := List.mem_range.1 hi
    have e : ((u8s d).drop (i * Tryd.prog.cellsOf 5)).take (Tryd.prog.cellsOf 5) = [.int .u8 (d.getD i 0)] := by
      rw [cuD, Nat.mul_one, List.drop_eq_getElem_cons (by rw [u8s_length, hl]; exact hi')]
      simp only [List.take_succ_cons, List.take_zero]
      have e2 := u8s_get d i (by rw [hl]; exact hi')
      rw [List.getElem?_eq_getElem (by rw [u8s_length, hl]; exact hi')] at e2
      rw [Option.some.inj e2]
    rw [e]
    clear e
    have hw : (Lit.int .u8 (d.getD i 0)).wf = true := by
      have hb' := hb (d.getD i 0) (by
        rw [List.getD_eq_getElem?_getD, List.getElem?_eq_getElem (by rw [hl]; exact hi')]
        exact List.getElem_mem _)
      generalize d.getD i 0 = z at hb' ⊢
      simp [Lit.wf, IntKind.min, IntKind.max, IntKind.signed, IntKind.bits]
      omega
    generalize d.getD i 0 = z at hw ⊢
    obtain ⟨k, hk⟩ : ∃ k, Tryd.prog.types.size = k + 1 := tsD
    rw [hk]
    unfold Program.keyLits
    simp [aD.elem, hw]
  obtain ⟨r, hr⟩ := hm
  refine ⟨.string (keyBytes r.flatten), ?_⟩
  unfold keyOf dkey
  simp only [aD.und, ktD, Value.formed, Bool.true_and, Value.cells]
  rw [if_pos (by rw [ckD]; simp [u8s_length, hl])]
  unfold Program.keyLits
  simp only [aD.und]
  rw [if_pos (by rw [ckD, u8s_length, hl]), hr]
  rfl

theorem undMp : Tryd.prog.underlying 95 = some (.map 23 25) := by kernel_rfl
theorem zeroSl (w : World) : (zeroValue 25).run Tryd.prog w = .ok (.slice none 0 0) w := by kernel_rfl
theorem lookup_is (w : World) (mb : Nat) (es : Array MapEntry) (clock : Nat) (d : List Int) (hb : w.heap[mb]? = some (.map es clock)) (hk : ∀ e ∈ es.toList, ∃ l, keyOf Tryd.prog 23 e.key = some l) (hl : d.length = 32) (hd : isB d) :
    ((Instr.lookup 95 (.map (some mb)) (dkey d) true).run Tryd.prog w = .ok (.tuple #[.slice none 0 0, .bool false]) w ∧ ∀ e ∈ es.toList, e.key ≠ dkey d) ∨
    ∃ e ∈ es.toList, (Instr.lookup 95 (.map (some mb)) (dkey d) true).run Tryd.prog w = .ok (.tuple #[e.val, .bool true]) w ∧ e.key = dkey d := by
  obtain ⟨kl, hkey⟩ := key_of hl hd
  rcases klD.find w hkey es.toList hk with ⟨h1, h2⟩ | ⟨j, e0, h1, h2, h3⟩
  · exact .inl ⟨by simp [Instr.lookup, run_underlying undMp, MapKept.run_getObj_map hb, klD.check w _ hkey, h1, Result.andThen], h2⟩
  · exact .inr ⟨e0, List.mem_of_getElem? h2, by simp [Instr.lookup, run_underlying undMp, MapKept.run_getObj_map hb, klD.check w _ hkey, h1, Result.andThen], h3⟩
/-- A world with another map in that block. -/
def setMap (w : World) (mb : Nat) (es : Array MapEntry) (clock : Nat) : World := { w with heap := w.heap.setIfInBounds mb (.map es clock) }
theorem update_is (w : World) (mb : Nat) (es : Array MapEntry) (clock : Nat) (d : List Int) (v : Value) (hb : w.heap[mb]? = some (.map es clock)) (hk : ∀ e ∈ es.toList, ∃ l, keyOf Tryd.prog 23 e.key = some l) (hl : d.length = 32) (hd : isB d) (hno : ∀ e ∈ es.toList, e.key ≠ dkey d) :
    (Instr.mapUpdate 95 (.map (some mb)) (dkey d) v).run Tryd.prog w = .ok () (setMap w mb (es.push ⟨dkey d, v, clock⟩) (clock + 1)) := by
  obtain ⟨kl, hkey⟩ := key_of hl hd
  rcases klD.find w hkey es.toList hk with ⟨h1, h2⟩ | ⟨j, e0, h1, h2, h3⟩
  · simp [Instr.mapUpdate, run_underlying undMp, MapKept.run_getObj_map hb, klD.check w _ hkey, h1, MapKept.run_setObj_map _ hb, Result.andThen, setMap]
  · exact absurd h3 (hno e0 (List.mem_of_getElem? h2))

/-- Of what was there only the blocks g and mb have turned. -/
structure Bel (g mb : Nat) (w w' : World) : Prop where
  os : w'.os = w.os
  tape : w'.tape = w.tape
  output : w'.output = w.output
  size : w.heap.size ≤ w'.heap.size
  block : ∀ k, k < w.heap.size → k ≠ g → k ≠ mb → w'.heap[k]? = w.heap[k]?
theorem Bel.refl (g mb : Nat) (w : World) : Bel g mb w w := ⟨rfl, rfl, rfl, Nat.le_refl _, fun _ _ _ _ => rfl⟩
theorem Bel.trans {g mb : Nat} {a b c : World} (h : Bel g mb a b) (k : Bel g mb b c) : Bel g mb a c :=
  ⟨k.os.trans h.os, k.tape.trans h.tape, k.output.trans h.output, Nat.le_trans h.size k.size, fun i hi hg hm => (k.block i (Nat.lt_of_lt_of_le hi h.size) hg hm).trans (h.block i hi hg hm)⟩
theorem Bel.of_below {g mb : Nat} {w w' : World} (h : Below w.heap.size w w') : Bel g mb w w' := ⟨h.os, h.tape, h.output, h.size, fun k hk _ _ => h.block k hk⟩
theorem Bel.of_but {g mb : Nat} {w w' : World} (h : But g w w') : Bel g mb w w' := ⟨h.os, h.tape, h.output, Nat.le_of_eq h.size.symm, fun k _ hk _ => h.block k hk⟩
theorem Bel.below {g mb B : Nat} {w w' : World} (h : Bel g mb w w') (hg : B ≤ g) (hm : B ≤ mb) (hB : B ≤ w.heap.size) : Below B w w' := ⟨h.os, h.tape, h.output, h.size, fun k hk => h.block k (by omega) (by omega) (by omega)⟩
theorem Bel.of_map {g mb : Nat} (w : World) (es : Array MapEntry) (clock : Nat) : Bel g mb w (setMap w mb es clock) :=
  ⟨rfl, rfl, rfl, by simp [setMap], fun k _ _ hm => by simp [setMap, Ne.symm hm]⟩

/-- A slice lies in a block of bytes. -/
def Blu (w : World) (a : Option Addr) (l : Nat) : Prop := 0 < l → ∃ b o cs, a = some ⟨b, o, none⟩ ∧ Blk w b 5 cs
theorem Blu.on {w w' : World} {a : Option Addr} {l : Nat} (h : Blu w a l) (hb : Below w.heap.size w w') : Blu w' a l := fun h0 => by
  obtain ⟨b, o, cs, e, hk⟩ := h h0
  exact ⟨b, o, cs, e, hk.on hb⟩
theorem Blu.but {w w' : World} {a : Option Addr} {l k : Nat} {t : TypeId} {cs : List Value} (h : Blu w a l) (hk : Blk w k t cs) (ht : t ≠ 5) (hb : But k w w') : Blu w' a l := fun h0 => by
  obtain ⟨b, o, cs', e, hk'⟩ := h h0
  refine ⟨b, o, cs', e, hk'.but hb ?_⟩
  rintro rfl
  unfold Blk at hk hk'
  rw [hk] at hk'
  simp at hk'
  exact ht hk'.2
theorem Blu.apart {w : World} {a : Option Addr} {l k : Nat} {t : TypeId} {cs : List Value} (h : Blu w a l) (hk : Blk w k t cs) (ht : t ≠ 5) : 0 < l → Apart k a := fun h0 x hx => by
  obtain ⟨b, o, cs', e, hk'⟩ := h h0
  rw [e] at hx
  cases hx
  show b ≠ k
  rintro rfl
  unfold Blk at hk hk'
  rw [hk] at hk'
  simp at hk'
  exact ht hk'.2

/-- What the book holds: F, the strings that are kept. -/
structure BkD (w : World) (g mb : Nat) (L F : List (List Int)) (av bv : Value) (fd : Bool) (es : Array MapEntry) (clock : Nat) : Prop where
  blk : Blk w g 97 [.map (some mb), av, bv, .bool fd]
  map : w.heap[mb]? = some (.map es clock)
  ents : ∀ e ∈ es.toList, ∃ f ∈ F, e.key = dkey (dg bL 0 f) ∧ ∃ a l c, e.val = .slice a l c ∧ Sl w a l c f ∧ Blu w a l
  all : ∀ f ∈ F, ∃ e ∈ es.toList, e.key = dkey (dg bL 0 f)
  one : ∀ s t, s ∈ F → t ∈ F → dg bL 0 s = dg bL 0 t → s = t
  no : fd = false → av = .slice none 0 0 ∧ bv = .slice none 0 0 ∧ ∀ s ∈ L, s ∈ F
  yes : fd = true → ∃ a l c A b m d B, av = .slice a l c ∧ bv = .slice b m d ∧ Sl w a l c A ∧ Sl w b m d B ∧ A ≠ B ∧ dg bL 0 A = dg bL 0 B ∧ Blu w a l ∧ Blu w b m
/-- The book, when the strings L have been hashed by it. -/
def Bk (w : World) (g mb : Nat) (L : List (List Int)) : Prop := ∃ F av bv fd es clock, BkD w g mb L F av bv fd es clock
theorem BkD.slices {w : World} {g mb : Nat} {L F : List (List Int)} {av bv : Value} {fd : Bool} {es : Array MapEntry} {clock : Nat} (h : BkD w g mb L F av bv fd es clock) : (∃ a l c, av = .slice a l c) ∧ ∃ a l c, bv = .slice a l c := by
  cases fd with
  | false => obtain ⟨rfl, rfl, _⟩ := h.no rfl; exact ⟨⟨_, _, _, rfl⟩, ⟨_, _, _, rfl⟩⟩
  | true => obtain ⟨a, l, c, A, b, m, d, B, rfl, rfl, _⟩ := h.yes rfl; exact ⟨⟨_, _, _, rfl⟩, ⟨_, _, _, rfl⟩⟩
/-- Bytes don't lie in the book's blocks. -/
theorem BkD.sl {w w' : World} {g mb : Nat} {L F : List (List Int)} {av bv : Value} {fd : Bool} {es : Array MapEntry} {clock : Nat} (h : BkD w g mb L F av bv fd es clock) (hb : Bel g mb w w') {a : Option Addr} {l c : Nat} {xs : List Int} (hs : Sl w a l c xs) : Sl w' a l c xs := by
  obtain ⟨h1, h2, h3, h4, h5, h6, h7⟩ := hs
  refine ⟨h1, h2, h3, h4, h5, h6, fun h0 => ?_⟩
  obtain ⟨b, o, e, hc⟩ := h7 h0
  refine ⟨b, o, e, fun i hi => ?_⟩
  have hci := hc i hi
  have hlt := World.block_lt_of_cell? w _ hci
  have hg : b ≠ g := by
    rintro rfl
    rw [h.blk.cell] at hci
    obtain ⟨⟨a1, l1, c1, e1⟩, ⟨a2, l2, c2, e2⟩⟩ := h.slices
    subst e1 e2
    match o + i, hci with
    | 0, hci => simp at hci
    | 1, hci => simp at hci
    | 2, hci => simp at hci
    | 3, hci => simp at hci
    | k + 4, hci => simp at hci
  have hm : b ≠ mb := by
    rintro rfl
    simp [World.cell?, h.map] at hci
  rw [← hci]
  exact World.cell?_of_block (hb.block b hlt hg hm)
theorem Bk.sl {w w' : World} {g mb : Nat} {L : List (List Int)} (h : Bk w g mb L) (hb : Bel g mb w w') {a : Option Addr} {l c : Nat} {xs : List Int} (hs : Sl w a l c xs) : Sl w' a l c xs := by
  obtain ⟨F, av, bv, fd, es, clock, hd⟩ := h
  exact hd.sl hb hs
theorem Bk.ds {w w' : World} {g mb : Nat} {L : List (List Int)} (h : Bk w g mb L) (hb : Bel g mb w w') {a : Option Addr} {l c : Nat} {xs : List Int} (hs : Ds w a l c xs) : Ds w' a l c xs := ⟨hs.hcap, hs.hmax, hs.hnil, h.sl hb hs.sl⟩
theorem Bk.ne {w : World} {g mb : Nat} {L : List (List Int)} (h : Bk w g mb L) {k : Nat} {t : TypeId} {cs : List Value} (hk : Blk w k t cs) (ht : t ≠ 97) : k ≠ g ∧ k ≠ mb := by
  obtain ⟨F, av, bv, fd, es, clock, hd⟩ := h
  refine ⟨?_, ?_⟩
  · rintro rfl
    have e := hd.blk
    unfold Blk at e hk
    rw [hk] at e
    simp at e
    exact ht e.2
  · rintro rfl
    have e := hd.map
    unfold Blk at hk
    rw [hk] at e
    simp at e
theorem Bk.blk {w w' : World} {g mb : Nat} {L : List (List Int)} (h : Bk w g mb L) (hb : Bel g mb w w') {k : Nat} {t : TypeId} {cs : List Value} (hk : Blk w k t cs) (ht : t ≠ 97) : Blk w' k t cs := by
  obtain ⟨h1, h2⟩ := h.ne hk ht
  unfold Blk
  rw [hb.block k hk.lt h1 h2]
  exact hk
theorem Bk.kt {w w' : World} {g mb : Nat} {L : List (List Int)} (h : Bk w g mb L) (hb : Bel g mb w w') (hk : KT w) : KT w' := by
  obtain ⟨F, av, bv, fd, es, clock, hd⟩ := h
  intro i hi
  have hci := hk i hi
  have hlt := World.block_lt_of_cell? w _ hci
  have hg : 0 ≠ g := by
    intro e
    rw [e, hd.blk.cell] at hci
    obtain ⟨⟨a1, l1, c1, e1⟩, ⟨a2, l2, c2, e2⟩⟩ := hd.slices
    subst e1 e2
    match i, hci with
    | 0, hci => simp at hci
    | 1, hci => simp at hci
    | 2, hci => simp at hci
    | 3, hci => simp at hci
    | k + 4, hci => simp at hci
  have hm : 0 ≠ mb := by
    intro e
    rw [e] at hci
    simp [World.cell?, hd.map] at hci
  rw [← hci]
  exact World.cell?_of_block (hb.block _ hlt hg hm)
theorem Bk.lt {w : World} {g mb : Nat} {L : List (List Int)} (h : Bk w g mb L) : g < w.heap.size ∧ mb < w.heap.size := by
  obtain ⟨F, av, bv, fd, es, clock, hd⟩ := h
  exact ⟨hd.blk.lt, (Array.getElem?_eq_some_iff.1 hd.map).1⟩
theorem BkD.on {w w' : World} {g mb : Nat} {L F : List (List Int)} {av bv : Value} {fd : Bool} {es : Array MapEntry} {clock : Nat} (h : BkD w g mb L F av bv fd es clock) (hb : Below w.heap.size w w') : BkD w' g mb L F av bv fd es clock := by
  refine ⟨h.blk.on hb, by rw [hb.block mb (Array.getElem?_eq_some_iff.1 h.map).1]; exact h.map, fun e he => ?_, h.all, h.one, h.no, fun hf => ?_⟩
  · obtain ⟨f, h1, h2, a, l, c, h3, h4, h5⟩ := h.ents e he
    exact ⟨f, h1, h2, a, l, c, h3, h4.below hb, h5.on hb⟩
  · obtain ⟨a, l, c, A, b, m, d, B, h1, h2, h3, h4, h5, h6, h7, h8⟩ := h.yes hf
    exact ⟨a, l, c, A, b, m, d, B, h1, h2, h3.below hb, h4.below hb, h5, h6, h7.on hb, h8.on hb⟩
theorem Bk.on {w w' : World} {g mb : Nat} {L : List (List Int)} (h : Bk w g mb L) (hb : Below w.heap.size w w') : Bk w' g mb L := by
  obtain ⟨F, av, bv, fd, es, clock, hd⟩ := h
  exact ⟨F, av, bv, fd, es, clock, hd.on hb⟩
/-- A block that is neither bytes nor the book is turned. -/
theorem Bk.but {w w' : World} {g mb k : Nat} {t : TypeId} {cs : List Value} {L : List (List Int)} (hB : Bk w g mb L) (hk : Blk w k t cs) (ht : t ≠ 5) (ht' : t ≠ 97) (hb : But k w w') : Bk w' g mb L := by
  obtain ⟨h1, h2⟩ := hB.ne hk ht'
  obtain ⟨F, av, bv, fd, es, clock, h⟩ := hB
  refine ⟨F, av, bv, fd, es, clock, h.blk.but hb (Ne.symm h1), by rw [hb.block mb (Ne.symm h2)]; exact h.map, fun e he => ?_, h.all, h.one, h.no, fun hf => ?_⟩
  · obtain ⟨f, h1, h2, a, l, c, h3, h4, h5⟩ := h.ents e he
    exact ⟨f, h1, h2, a, l, c, h3, h4.but hb (h5.apart hk ht), h5.but hk ht hb⟩
  · obtain ⟨a, l, c, A, b, m, d, B, h1, h2, h3, h4, h5, h6, h7, h8⟩ := h.yes hf
    exact ⟨a, l, c, A, b, m, d, B, h1, h2, h3.but hb (h7.apart hk ht), h4.but hb (h8.apart hk ht), h5, h6, h7.but hk ht hb, h8.but hk ht hb⟩
theorem BkD.blu {w w' : World} {g mb : Nat} {L F : List (List Int)} {av bv : Value} {fd : Bool} {es : Array MapEntry} {clock : Nat} (h : BkD w g mb L F av bv fd es clock) (hb : Bel g mb w w') {a : Option Addr} {l : Nat} (hs : Blu w a l) : Blu w' a l := fun h0 => by
  obtain ⟨b, o, cs, e, hk⟩ := hs h0
  exact ⟨b, o, cs, e, Bk.blk ⟨F, av, bv, fd, es, clock, h⟩ hb hk (by decide)⟩
theorem BkD.keys {w : World} {g mb : Nat} {L F : List (List Int)} {av bv : Value} {fd : Bool} {es : Array MapEntry} {clock : Nat} (h : BkD w g mb L F av bv fd es clock) : ∀ e ∈ es.toList, ∃ l, keyOf Tryd.prog 23 e.key = some l := fun e he => by
  obtain ⟨f, _, h2, _⟩ := h.ents e he
  rw [h2]
  exact key_of (dgL f) (dgB f)
theorem dkey_inj {d e : List Int} (h : dkey d = dkey e) : d = e := by
  unfold dkey u8s at h
  have h2 := congrArg (fun v => match v with | Value.agg cs => cs.toList | _ => []) h
  have h3 : d.map (Value.int .u8) = e.map (Value.int .u8) := h2
  have key : ∀ zs : List Int, (zs.map (Value.int .u8)).map intOf = zs := fun zs => by
    rw [List.map_map]
    conv => rhs; rw [← List.map_id zs]
    rfl
  rw [← key d, ← key e, h3]

/-- One more string. -/
theorem BkD.push {w : World} {g mb : Nat} {L F : List (List Int)} {av bv : Value} {fd : Bool} {es : Array MapEntry} {clock : Nat} (h : BkD w g mb L F av bv fd es clock) (s : List Int) (a : Option Addr) (l c : Nat) (hs : Sl w a l c s) (hsl : Blu w a l) (hno : ∀ e ∈ es.toList, e.key ≠ dkey (dg bL 0 s)) :
    Bk (setMap w mb (es.push ⟨dkey (dg bL 0 s), .slice a l c, clock⟩) (clock + 1)) g mb (L ++ [s]) := by
  have hbel := Bel.of_map (g := g) (mb := mb) w (es.push ⟨dkey (dg bL 0 s), .slice a l c, clock⟩) (clock + 1)
  have hgm : g ≠ mb := by
    rintro rfl
    have e := h.blk
    unfold Blk at e
    rw [h.map] at e
    simp at e
  refine ⟨F ++ [s], av, bv, fd, es.push ⟨dkey (dg bL 0 s), .slice a l c, clock⟩, clock + 1, ?_, ?_, fun e he => ?_, fun f hf => ?_, fun x y hx hy hxy => ?_, fun hf => ?_, fun hf => ?_⟩
  · have hb := h.blk
    unfold Blk at hb ⊢
    rw [← hb]
    simp [setMap, Ne.symm hgm]
  · have hlt := (Array.getElem?_eq_some_iff.1 h.map).1
    simp [setMap, hlt]
  · rw [Array.toList_push, List.mem_append, List.mem_singleton] at he
    rcases he with he | rfl
    · obtain ⟨f, h1, h2, a', l', c', h3, h4, h5⟩ := h.ents e he
      exact ⟨f, List.mem_append_left _ h1, h2, a', l', c', h3, h.sl hbel h4, h.blu hbel h5⟩
    · exact ⟨s, List.mem_append_right _ (List.mem_singleton.2 rfl), rfl, a, l, c, rfl, h.sl hbel hs, h.blu hbel hsl⟩
  · rw [Array.toList_push]
    rcases List.mem_append.1 hf with hf | hf
    · obtain ⟨e, h1, h2⟩ := h.all f hf
      exact ⟨e, List.mem_append_left _ h1, h2⟩
    · obtain rfl := List.mem_singleton.1 hf
      exact ⟨_, List.mem_append_right _ (List.mem_singleton.2 rfl), rfl⟩
  · have hns : ∀ f ∈ F, dg bL 0 f ≠ dg bL 0 s := fun f hf e => by
      obtain ⟨e0, h1, h2⟩ := h.all f hf
      rw [e] at h2
      exact hno e0 h1 h2
    rcases List.mem_append.1 hx with hx1 | hx1 <;> rcases List.mem_append.1 hy with hy1 | hy1
    · exact h.one x y hx1 hy1 hxy
    · have ey := List.mem_singleton.1 hy1
      rw [ey] at hxy
      exact absurd hxy (hns x hx1)
    · have ex := List.mem_singleton.1 hx1
      rw [ex] at hxy
      exact absurd hxy.symm (hns y hy1)
    · rw [List.mem_singleton.1 hx1, List.mem_singleton.1 hy1]
  · obtain ⟨h1, h2, h3⟩ := h.no hf
    refine ⟨h1, h2, fun x hx => ?_⟩
    rcases List.mem_append.1 hx with hx | hx
    · exact List.mem_append_left _ (h3 x hx)
    · exact List.mem_append_right _ hx
  · obtain ⟨a', l', c', A, b, m, d, B, h1, h2, h3, h4, h5, h6, h7, h8⟩ := h.yes hf
    exact ⟨a', l', c', A, b, m, d, B, h1, h2, h.sl hbel h3, h.sl hbel h4, h5, h6, h.blu hbel h7, h.blu hbel h8⟩
/-- One that is kept already. -/
theorem BkD.same {w : World} {g mb : Nat} {L F : List (List Int)} {av bv : Value} {es : Array MapEntry} {clock : Nat} (h : BkD w g mb L F av bv false es clock) (s : List Int) (hs : s ∈ F) : Bk w g mb (L ++ [s]) := by
  refine ⟨F, av, bv, false, es, clock, h.blk, h.map, h.ents, h.all, h.one, fun hf => ?_, h.yes⟩
  obtain ⟨h1, h2, h3⟩ := h.no hf
  refine ⟨h1, h2, fun x hx => ?_⟩
  rcases List.mem_append.1 hx with hx | hx
  · exact h3 x hx
  · rw [List.mem_singleton.1 hx]; exact hs
/-- Two were found. -/
theorem BkD.found {w : World} {g mb : Nat} {L F : List (List Int)} {av bv : Value} {es : Array MapEntry} {clock : Nat} (h : BkD w g mb L F av bv true es clock) (s : List Int) : Bk w g mb (L ++ [s]) :=
  ⟨F, av, bv, true, es, clock, h.blk, h.map, h.ents, h.all, h.one, (fun hf => by cases hf), h.yes⟩
/-- .. now. -/
theorem BkD.find {w w' : World} {g mb : Nat} {L F : List (List Int)} {av bv : Value} {fd : Bool} {es : Array MapEntry} {clock : Nat} (h : BkD w g mb L F av bv fd es clock) (hb : But g w w') {a : Option Addr} {l c : Nat} {A : List Int} {b : Option Addr} {m d : Nat} {B : List Int}
    (hblk : Blk w' g 97 [.map (some mb), .slice a l c, .slice b m d, .bool true]) (hA : Sl w a l c A) (hB : Sl w b m d B) (hne : A ≠ B) (hd : dg bL 0 A = dg bL 0 B) (hAl : Blu w a l) (hBl : Blu w b m) : Bk w' g mb (L ++ [B]) := by
  have hbel : Bel g mb w w' := Bel.of_but hb
  have hgm : mb ≠ g := by
    rintro rfl
    have e := h.blk
    unfold Blk at e
    rw [h.map] at e
    simp at e
  refine ⟨F, _, _, true, es, clock, hblk, by rw [hb.block mb hgm]; exact h.map, fun e he => ?_, h.all, h.one, (fun hf => by cases hf), fun _ => ⟨a, l, c, A, b, m, d, B, rfl, rfl, h.sl hbel hA, h.sl hbel hB, hne, hd, h.blu hbel hAl, h.blu hbel hBl⟩⟩
  obtain ⟨f, h1, h2, a', l', c', h3, h4, h5⟩ := h.ents e he
  exact ⟨f, h1, h2, a', l', c', h3, h.sl hbel h4, h.blu hbel h5⟩

end Go.Proofs.YtconeobaohmbnaaDoor

/-
  The program's book: keep, sum.
-/
namespace Go.Proofs.YtconeobaohmbnaaDoor
open Go.RowKit
set_option linter.unusedVariables false

section
variable {dst : Option Tmp} {ty : TypeId} {pos : String} {aft : Array Edge} {gd : Option (Nat × Bool)} {a : Act} {w : World} {K : Act → World → Prop} {Q : Exit → Act → World → Prop}
set_option maxRecDepth 100000 in
theorem wp_mapUp {x y u : Operand} {M k v : Value} {w' : World} (hx : a.eval x = M) (hy : a.eval y = k) (hu : a.eval u = v) (hr : (Instr.mapUpdate 95 M k v).run Tryd.prog w = .ok () w') (h : K (a.put dst undef) w') :
    Oper.wp Tryd.prog ⟨dst, .mapUpdate 95 x y u, ty, pos, aft, gd⟩ a w K Q := by
  unfold Oper.wp execOp
  simp only [hx, hy, hu, Sem.run_bind, hr, Result.andThen_ok, Sem.run_pure]
  first | exact h | (simp only [Oper.upon]; first | exact h | exact .inl h)
set_option maxRecDepth 100000 in
theorem wp_lookup {x y : Operand} {M k v : Value} (hx : a.eval x = M) (hy : a.eval y = k) (hr : (Instr.lookup 95 M k true).run Tryd.prog w = .ok v w) (h : K (a.put dst v) w) :
    Oper.wp Tryd.prog ⟨dst, .lookup 95 x y true, ty, pos, aft, gd⟩ a w K Q := by
  refine wp_runV v w ?_ h
  unfold execOp
  simp only [hx, hy, Sem.run_bind, hr, Result.andThen_ok, Sem.run_pure]
end
set_option maxRecDepth 100000 in
set_option maxHeartbeats 2000000 in
theorem keep_any (g mb : Nat) (L : List (List Int)) (s : List Int) (a : Option Addr) (l c : Nat) (w : World) (hB : Bk w g mb L) (hs : Sl w a l c s) (hlo : Blu w a l) :
    Calls Tryd.prog 81 #[.pointer (some ⟨g, 0, none⟩), .agg (u8s (dg bL 0 s)).toArray, .slice a l c] w fun r w' => r = .returned (.tuple #[]) ∧ Bk w' g mb (L ++ [s]) ∧ Bel g mb w w' := by
  obtain ⟨F, av, bv, fd, es, clock, hd⟩ := hB
  have HD := hide hd
  have HS := hide hs
  have HLO := hide hlo
  clear hs hlo
  clear hd
  go_enter Tryd.func81, Tryd.ntmps81
  go_wp2_with (refine step_box rfl rfl ?_)
  intro z g4 hr1 hl1 hb1
  have G4 := hide hr1
  have B1 := hide hb1
  have HDZ := hide (HD.out.on hb1)
  have HSZ := hide (HS.out.below hb1)
  clear hr1 hb1
  go_wp2_with fail
  refine wp_region_noPanic ?_
  have Z0 := hide ((Below.refl z.heap.size z).drew)
  have hu := aD.und
  have HI1 : Hid ((Tryd.prog.info? 23).map (·.size) = some (u8s (dg bL 0 s)).length) := hide (by rw [wD.size, u8s_length, dgL])
  have HC0 : Hid (∀ v : World, Below z.heap.size z v → v.cell? ⟨g, 0, none⟩ = some (.map (some mb))) := hide (fun v hv => by rw [(HDZ.out.blk.on hv).cell]; rfl)
  have HM : Hid (∀ v : World, Below z.heap.size z v → v.heap[mb]? = some (.map es clock)) := hide (fun v hv => (HDZ.out.on hv).map)
  refine wp_region_held_drew (S := fun v : World => Below z.heap.size z v) (by kernel_rfl) Z0.out (fun hHeld => ?_)
  refine takeH 0 9 (.pointer (some ⟨g, 0, none⟩)) hHeld rfl rfl (by kernel_rfl) (by kernel_rfl) (by kernel_rfl) (fun _ _ _ h => h) (Or.inl ⟨by rfl, fun w _ => by go_simp⟩) ?_
  simp only [Act.put, List.setIfInBounds_toArray, List.set_cons_zero, List.set_cons_succ]
  refine takeH 1 10 (.pointer (some ⟨g, 0, none⟩)) hHeld rfl rfl (by kernel_rfl) (by kernel_rfl) (by kernel_rfl) (fun _ _ _ h => h) (Or.inl ⟨by rfl, fun w _ => by go_simp⟩) ?_
  simp only [Act.put, List.setIfInBounds_toArray, List.set_cons_zero, List.set_cons_succ]
  refine takeH 2 11 (.pointer (some ⟨g, 0, none⟩)) hHeld rfl rfl (by kernel_rfl) (by kernel_rfl) (by kernel_rfl) (fun _ _ _ h => h) (Or.inl ⟨by rfl, fun w _ => by go_simp⟩) ?_
  simp only [Act.put, List.setIfInBounds_toArray, List.set_cons_zero, List.set_cons_succ]
  refine takeH 3 12 (.map (some mb)) hHeld rfl rfl (by kernel_rfl) (by kernel_rfl) (by kernel_rfl) (fun _ _ _ h => h) (Or.inl ⟨by rfl, fun w hw => by have hw' : w.cell? ⟨g, 0, none⟩ = some (.map (some mb)) := (fun hw => HC0.out _ hw) hw; go_simp⟩) ?_
  simp only [Act.put, List.setIfInBounds_toArray, List.set_cons_zero, List.set_cons_succ]
  refine takeH 4 13 (.agg (u8s (dg bL 0 s)).toArray) hHeld rfl rfl (by kernel_rfl) (by kernel_rfl) (by kernel_rfl) (fun _ _ _ h => h) (yieldsIf_load_mid (by rfl) _ _ rfl g4 0 rfl _ _ (fun v hv => (G4.out.on hv).range 0 (u8s (dg bL 0 s)) (by simp)) hu rfl HI1.out) ?_
  simp only [Act.put, List.setIfInBounds_toArray, List.set_cons_zero, List.set_cons_succ]
  rcases lookup_is z.drew mb es clock (dg bL 0 s) (HM.out _ Z0.out) HD.out.keys (dgL s) (dgB s) with ⟨hlk, hno⟩ | ⟨e, he, hlk, hek⟩
  · have HNO := hide hno
    clear hno
    refine wpAnyH_ready (rs := [5]) (by kernel_rfl) (by simp) (AllReadyH.cons rfl (fun K hK => ?_) AllReadyH.nil)
    rw [if_pos (by rfl)]
    refine wp_lookup rfl rfl hlk ?_
    refine hK.out _ _ Z0.out (fun hHeld => ?_)
    clear hK K hlk
    simp only [Act.put]
    refine takeH 6 8 (.tuple #[.slice none 0 0, .bool false]) hHeld rfl rfl (by kernel_rfl) (by kernel_rfl) (by kernel_rfl) (fun _ _ _ h => h) (Or.inl ⟨by rfl, fun w _ => by go_simp⟩) ?_
    simp only [Act.put, List.setIfInBounds_toArray, List.set_cons_zero, List.set_cons_succ]
    refine takeH 7 15 (.slice none 0 0) hHeld rfl rfl (by kernel_rfl) (by kernel_rfl) (by kernel_rfl) (fun _ _ _ h => h) (Or.inl ⟨by rfl, fun w _ => by go_simp⟩) ?_
    simp only [Act.put, List.setIfInBounds_toArray, List.set_cons_zero, List.set_cons_succ]
    refine takeH 8 16 (.bool false) hHeld rfl rfl (by kernel_rfl) (by kernel_rfl) (by kernel_rfl) (fun _ _ _ h => h) (Or.inl ⟨by rfl, fun w _ => by go_simp⟩) ?_
    simp only [Act.put, List.setIfInBounds_toArray, List.set_cons_zero, List.set_cons_succ]
    refine takeH 9 6 (.slice none 0 0) hHeld rfl rfl (by kernel_rfl) (by kernel_rfl) (by kernel_rfl) (fun _ _ _ h => h) (Or.inl ⟨by rfl, fun w _ => by go_simp⟩) ?_
    simp only [Act.put, List.setIfInBounds_toArray, List.set_cons_zero, List.set_cons_succ]
    refine takeH 10 7 (.bool false) hHeld rfl rfl (by kernel_rfl) (by kernel_rfl) (by kernel_rfl) (fun _ _ _ h => h) (Or.inl ⟨by rfl, fun w _ => by go_simp⟩) ?_
    simp only [Act.put, List.setIfInBounds_toArray, List.set_cons_zero, List.set_cons_succ]
    refine wpAnyH_done (by kernel_rfl) ?_ _
    refine NoPanic.normal ?_
    clear hHeld
    clear hu
    go_wp2_with fail
    refine wp_region_noPanic ?_
    have Y0 := hide (Z0.out.drew)
    have hu := aD.und
    refine wp_region_held_drew (S := fun v : World => v.cell? ⟨g, 0, none⟩ = some (.map (some mb)) ∧ v.rangeAt g4 0 (u8s (dg bL 0 s))) (by kernel_rfl) ⟨HC0.out _ Y0.out, (G4.out.on Y0.out).range 0 (u8s (dg bL 0 s)) (by simp)⟩ (fun hHeld => ?_)
    refine takeH 0 20 (.pointer (some ⟨g, 0, none⟩)) hHeld rfl rfl (by kernel_rfl) (by kernel_rfl) (by kernel_rfl) (fun _ _ _ h => h) (Or.inl ⟨by rfl, fun w _ => by go_simp⟩) ?_
    simp only [Act.put, List.setIfInBounds_toArray, List.set_cons_zero, List.set_cons_succ]
    refine takeH 1 21 (.pointer (some ⟨g, 0, none⟩)) hHeld rfl rfl (by kernel_rfl) (by kernel_rfl) (by kernel_rfl) (fun _ _ _ h => h) (Or.inl ⟨by rfl, fun w _ => by go_simp⟩) ?_
    simp only [Act.put, List.setIfInBounds_toArray, List.set_cons_zero, List.set_cons_succ]
    refine takeH 2 22 (.pointer (some ⟨g, 0, none⟩)) hHeld rfl rfl (by kernel_rfl) (by kernel_rfl) (by kernel_rfl) (fun _ _ _ h => h) (Or.inl ⟨by rfl, fun w _ => by go_simp⟩) ?_
    simp only [Act.put, List.setIfInBounds_toArray, List.set_cons_zero, List.set_cons_succ]
    refine takeH 3 23 (.map (some mb)) hHeld rfl rfl (by kernel_rfl) (by kernel_rfl) (by kernel_rfl) (fun _ _ _ h => h) (Or.inl ⟨by rfl, fun w hw => by have hw' : w.cell? ⟨g, 0, none⟩ = some (.map (some mb)) := (fun hw => hw.1) hw; go_simp⟩) ?_
    simp only [Act.put, List.setIfInBounds_toArray, List.set_cons_zero, List.set_cons_succ]
    refine takeH 4 24 (.agg (u8s (dg bL 0 s)).toArray) hHeld rfl rfl (by kernel_rfl) (by kernel_rfl) (by kernel_rfl) (fun _ _ _ h => h) (yieldsIf_load_mid (by rfl) _ _ rfl g4 0 rfl _ _ (fun v hv => hv.2) hu rfl HI1.out) ?_
    simp only [Act.put, List.setIfInBounds_toArray, List.set_cons_zero, List.set_cons_succ]
    refine takeH 5 25 (.slice a l c) hHeld rfl rfl (by kernel_rfl) (by kernel_rfl) (by kernel_rfl) (fun _ _ _ h => h) (Or.inl ⟨by rfl, fun w _ => by go_simp⟩) ?_
    simp only [Act.put, List.setIfInBounds_toArray, List.set_cons_zero, List.set_cons_succ]
    have hup := update_is z.drew.drew mb es clock (dg bL 0 s) (.slice a l c) (HM.out _ Y0.out) HD.out.keys (dgL s) (dgB s) HNO.out
    have hp := (HDZ.out.on Y0.out).push s a l c (HSZ.out.below Y0.out) ((HLO.out.on B1.out).on Y0.out) HNO.out
    have hbel := Bel.of_map (g := g) (mb := mb) z.drew.drew (es.push ⟨dkey (dg bL 0 s), .slice a l c, clock⟩) (clock + 1)
    have hBk : Bk z.drew.drew g mb L := ⟨F, av, bv, fd, es, clock, HDZ.out.on Y0.out⟩
    have hg4 := hBk.blk hbel (G4.out.on Y0.out) (by decide)
    refine wpAnyH_ready (rs := [6]) (by kernel_rfl) (by simp) (AllReadyH.cons rfl (fun K hK => ?_) AllReadyH.nil)
    rw [if_pos (by rfl)]
    refine wp_mapUp rfl rfl rfl hup ?_
    have hc0 : (setMap z.drew.drew mb (es.push ⟨dkey (dg bL 0 s), .slice a l c, clock⟩) (clock + 1)).cell? ⟨g, 0, none⟩ = some (.map (some mb)) := by
      obtain ⟨F', av', bv', fd', es', clock', hd'⟩ := hp
      rw [hd'.blk.cell]
      rfl
    refine hK.out _ _ ⟨hc0, hg4.range 0 (u8s (dg bL 0 s)) (by simp)⟩ (fun hHeld => ?_)
    clear hK K
    simp only [Act.put]
    refine wpAnyH_done (by kernel_rfl) ?_ _
    refine NoPanic.normal ?_
    clear hHeld hu hup hc0
    have HP := hide hp
    have HBL := hide (((Bel.of_below B1.out).trans ((Bel.of_below Y0.out).trans hbel)) : Bel g mb w _)
    clear hp hbel hBk hg4
    go_wp2
    go_end0
    exact ⟨rfl, HP.out, HBL.out⟩
  · obtain ⟨f, hf, hfk, a', l', c', hev, hsl, hlo'⟩ := (HDZ.out.on Z0.out).ents e he
    have HLF := hide hlo'
    clear hlo'
    have hdf : dg bL 0 f = dg bL 0 s := dkey_inj (hfk.symm.trans hek)
    rw [hev] at hlk
    have HF := hide hf
    have HDF := hide hdf
    have HSL := hide hsl
    clear hf hfk hsl hdf hek hev he
    refine wpAnyH_ready (rs := [5]) (by kernel_rfl) (by simp) (AllReadyH.cons rfl (fun K hK => ?_) AllReadyH.nil)
    rw [if_pos (by rfl)]
    refine wp_lookup rfl rfl hlk ?_
    refine hK.out _ _ Z0.out (fun hHeld => ?_)
    clear hK K hlk
    simp only [Act.put]
    refine takeH 6 8 (.tuple #[.slice a' l' c', .bool true]) hHeld rfl rfl (by kernel_rfl) (by kernel_rfl) (by kernel_rfl) (fun _ _ _ h => h) (Or.inl ⟨by rfl, fun w _ => by go_simp⟩) ?_
    simp only [Act.put, List.setIfInBounds_toArray, List.set_cons_zero, List.set_cons_succ]
    refine takeH 7 15 (.slice a' l' c') hHeld rfl rfl (by kernel_rfl) (by kernel_rfl) (by kernel_rfl) (fun _ _ _ h => h) (Or.inl ⟨by rfl, fun w _ => by go_simp⟩) ?_
    simp only [Act.put, List.setIfInBounds_toArray, List.set_cons_zero, List.set_cons_succ]
    refine takeH 8 16 (.bool true) hHeld rfl rfl (by kernel_rfl) (by kernel_rfl) (by kernel_rfl) (fun _ _ _ h => h) (Or.inl ⟨by rfl, fun w _ => by go_simp⟩) ?_
    simp only [Act.put, List.setIfInBounds_toArray, List.set_cons_zero, List.set_cons_succ]
    refine takeH 9 6 (.slice a' l' c') hHeld rfl rfl (by kernel_rfl) (by kernel_rfl) (by kernel_rfl) (fun _ _ _ h => h) (Or.inl ⟨by rfl, fun w _ => by go_simp⟩) ?_
    simp only [Act.put, List.setIfInBounds_toArray, List.set_cons_zero, List.set_cons_succ]
    refine takeH 10 7 (.bool true) hHeld rfl rfl (by kernel_rfl) (by kernel_rfl) (by kernel_rfl) (fun _ _ _ h => h) (Or.inl ⟨by rfl, fun w _ => by go_simp⟩) ?_
    simp only [Act.put, List.setIfInBounds_toArray, List.set_cons_zero, List.set_cons_succ]
    refine wpAnyH_done (by kernel_rfl) ?_ _
    refine NoPanic.normal ?_
    clear hHeld
    clear hu
    have HDW := hide (HDZ.out.on Z0.out)
    have hc3 : z.drew.cell? ⟨g, 3, none⟩ = some (.bool fd) := by rw [HDW.out.blk.cell]; rfl
    cases fd with
    | true =>
      go_wp2
      go_end0
      exact ⟨rfl, HDW.out.found s, (Bel.of_below B1.out).trans (Bel.of_below Z0.out)⟩
    | false =>
      by_cases hfs : f = s
      · have hdc : decide (f = s) = true := decide_eq_true hfs
        go_wp2_with (go_at_call 29; refine (bytesEq_any _ _ _ f _ _ _ s _ HSL.out (HSZ.out.below Z0.out)).mono ?_; rintro r w' ⟨rfl, rfl⟩; rw [hdc])
        go_end0
        subst hfs
        exact ⟨rfl, HDW.out.same f HF.out, (Bel.of_below B1.out).trans (Bel.of_below Z0.out)⟩
      · have hdc : decide (f = s) = false := decide_eq_false hfs
        go_upto_region 5 with (go_at_call 29; refine (bytesEq_any _ _ _ f _ _ _ s _ HSL.out (HSZ.out.below Z0.out)).mono ?_; rintro r w' ⟨rfl, rfl⟩; rw [hdc])
        have HZZ := hide (HSZ.out.below Z0.out)
        have HLY := hide ((HLO.out.on B1.out).on Z0.out)
        have BL := hide ((Bel.of_below (g := g) (mb := mb) B1.out).trans (Bel.of_below Z0.out))
        clear hHeld Z0 hc3 HC0 HM HI1 HD HDZ HSZ G4 B1 hl1
        generalize z.drew = y at *
        have D0 := HDW.out.blk
        have D1 := D0.set 1 (.slice a' l' c')
        have D2 := D1.set 2 (.slice a l c)
        have D3 := D2.set 3 (.bool true)
        have q1 : y.cell? ⟨g, 1, none⟩ = some av := by rw [D0.cell]; rfl
        have q2 := D0.free 1
        have q3 : (y.setCell ⟨g, 1, none⟩ (.slice a' l' c')).cell? ⟨g, 2, none⟩ = some bv := by rw [D1.cell]; rfl
        have q4 := D1.free 2
        have q5 : ((y.setCell ⟨g, 1, none⟩ (.slice a' l' c')).setCell ⟨g, 2, none⟩ (.slice a l c)).cell? ⟨g, 3, none⟩ = some (.bool false) := by rw [D2.cell]; rfl
        have q6 := D2.free 3
        have HD3 := hide D3
        have HBT := hide (((But.setCell y g 1 (.slice a' l' c')).trans (But.setCell _ g 2 (.slice a l c))).trans (But.setCell _ g 3 (.bool true)))
        clear D0 D1 D2 D3 hdc
        go_wp2
        go_end0
        exact ⟨rfl, HDW.out.find HBT.out HD3.out HSL.out HZZ.out hfs HDF.out HLF.out HLY.out, BL.out.trans (Bel.of_but HBT.out)⟩

set_option maxRecDepth 100000 in
set_option maxHeartbeats 2000000 in
theorem bsum_any (g mb : Nat) (L : List (List Int)) (s : List Int) (a : Option Addr) (l c : Nat) (w : World) (hB : Bk w g mb L) (hs : Sl w a l c s) (hlo : Blu w a l) (hk : KT w) :
    Calls Tryd.prog 53 #[.pointer (some ⟨g, 0, none⟩), .slice a l c] w fun r w' => r = .returned (.agg (u8s (dg bL 0 s)).toArray) ∧ Bk w' g mb (L ++ [s]) ∧ Bel g mb w w' := by
  have HB := hide hB
  have HLO := hide hlo
  have HS := hide hs
  have HK := hide hk
  have HDL := hide (show (u8s (dg bL 0 s)).length = 32 by rw [u8s_length, dgL])
  clear hB hs hk hlo
  go_enter Tryd.func53, Tryd.ntmps53
  go_wp2_with (refine step_alloc zD rfl ?_)
  intro w1 g4 hr1 hl1 hb1
  have G4 := hide hr1
  have B1 := hide hb1
  have hl1' := hl1
  clear hr1 hb1 hl1
  go_wp2_with (go_at_call 23; refine (sum_any a l c s _ (HS.out.below B1.out) (HK.out.below B1.out HK.out.lt)).mono ?_)
  rintro r w2 ⟨rfl, hb2⟩
  have B2 := hide (B1.out.trans (hb2.mono B1.out.size))
  have G42 := hide (G4.out.on hb2)
  clear hb2
  go_wp2_with (refine step_alloc zD rfl ?_)
  intro w3 g5 hr3 hl3 hb3
  have B3 := hide (B2.out.trans (hb3.mono B2.out.size))
  have G43 := hide (G42.out.on hb3)
  have h45 : g4 ≠ g5 := by have := G42.out.lt; omega
  have h5 : w.heap.size ≤ g5 := Nat.le_trans B2.out.size hl3
  go_wp2_with (refine step_storeA wD rfl rfl rfl hr3 HDL.out (One.u8 _) (by rw [u8s_length, zer_length]) ?_)
  intro w4 hr4 hbt4
  have G5 := hide hr4
  have G44 := hide (G43.out.but hbt4 h45)
  have B4 := hide (B3.out.trans (hbt4.below h5))
  clear hr3 hl3 hb3 hr4 hbt4
  go_wp2_with (first | (refine step_load wD rfl rfl G5.out _ HDL.out (by rw [List.drop_zero, List.take_of_length_le (by rw [HDL.out]; omega)]) ?_) | (go_at_call 81; refine (keep_any g mb L s a l c _ (HB.out.on B4.out) (HS.out.below B4.out) (HLO.out.on B4.out)).mono ?_))
  rintro r w5 ⟨rfl, hB5, hbel5⟩
  have G55 := hide ((HB.out.on B4.out).blk hbel5 G5.out (by decide))
  have G45 := hide ((HB.out.on B4.out).blk hbel5 G44.out (by decide))
  have BL5 := hide ((Bel.of_below (g := g) (mb := mb) B4.out).trans hbel5)
  have HB5 := hide hB5
  have hn4 := (HB.out.on B4.out).ne G44.out (by decide)
  clear hB5 hbel5
  go_wp2_with (first | (refine step_load wD rfl rfl G55.out _ HDL.out (by rw [List.drop_zero, List.take_of_length_le (by rw [HDL.out]; omega)]) ?_) | (refine step_storeA wD rfl rfl rfl G45.out HDL.out (One.u8 _) (by rw [u8s_length, zer_length]) ?_))
  intro w6 hr6 hbt6
  have HB6 := hide (HB5.out.but G45.out (by decide) (by decide) hbt6)
  have BL6 : Hid (Bel g mb w w6) := hide ⟨hbt6.os.trans BL5.out.os, hbt6.tape.trans BL5.out.tape, hbt6.output.trans BL5.out.output, Nat.le_trans BL5.out.size (Nat.le_of_eq hbt6.size.symm), fun k hk hg hm => (hbt6.block k (by omega)).trans (BL5.out.block k hk hg hm)⟩
  go_wp2
  refine bodyPost_ret (results_wide rfl wD _ _ rfl hr6 HDL.out) rfl ⟨rfl, HB6.out, BL6.out⟩

end Go.Proofs.YtconeobaohmbnaaDoor

/-
  The byte strings that the checks of proofs hash, and that two unlike leaves at one place make two unlike strings of one digest. No program here.
-/
namespace Go.Proofs.YtconeobaohmbnaaDoor
open Go.RowKit
set_option linter.unusedVariables false

/-- The bytes of which jn is the digest. -/
def jnS (h : Int) (d x : List Int) : List Int := 1 :: (if h = 1 then x ++ d else d ++ x)
theorem jnS_dg (h : Int) (d x : List Int) : dg bL 0 (jnS h d x) = jn h d x := by
  unfold jnS jn nd
  split <;> rfl
/-- The strings of the first k digests of an inclusion proof. -/
def si (hs xs d : List Int) : Nat → List (List Int)
  | 0 => []
  | k + 1 => si hs xs d k ++ [jnS (hs.getD k 0) (fu hs xs d k) (dat xs k)]
/-- .. of a consistency proof. -/
def so (hs xs d : List Int) : Nat → List (List Int)
  | 0 => []
  | k + 1 => so hs xs d k ++ (if hs.getD k 0 = 1 then [jnS 1 (fo hs xs d k) (dat xs k), jnS 1 (fu hs xs d k) (dat xs k)] else [jnS 0 (fu hs xs d k) (dat xs k)])
theorem si_app (A B xs d : List Int) : ∀ k, k ≤ A.length → si (A ++ B) xs d k = si A xs d k
  | 0, _ => rfl
  | k + 1, h => by
    rw [si, si, si_app A B xs d k (by omega), fu_app A B xs d k (by omega)]
    have e : (A ++ B).getD k 0 = A.getD k 0 := by
      rw [List.getD_eq_getElem?_getD, List.getD_eq_getElem?_getD, List.getElem?_append_left (by omega)]
    rw [e]
theorem so_app (A B xs d : List Int) : ∀ k, k ≤ A.length → so (A ++ B) xs d k = so A xs d k
  | 0, _ => rfl
  | k + 1, h => by
    rw [so, so, so_app A B xs d k (by omega), fu_app A B xs d k (by omega), fo_app A B xs d k (by omega)]
    have e : (A ++ B).getD k 0 = A.getD k 0 := by
      rw [List.getD_eq_getElem?_getD, List.getD_eq_getElem?_getD, List.getElem?_append_left (by omega)]
    rw [e]
theorem get_last (A : List Int) (h : Int) : (A ++ [h]).getD A.length 0 = h := by simp
theorem si_snoc (A xs d : List Int) (h : Int) : si (A ++ [h]) xs d (A.length + 1) = si A xs d A.length ++ [jnS h (fu A xs d A.length) (dat xs A.length)] := by
  rw [si, si_app A [h] xs d _ (Nat.le_refl _), fu_app A [h] xs d _ (Nat.le_refl _), get_last]
theorem so_snoc (A xs d : List Int) (h : Int) : so (A ++ [h]) xs d (A.length + 1) = so A xs d A.length ++ (if h = 1 then [jnS 1 (fo A xs d A.length) (dat xs A.length), jnS 1 (fu A xs d A.length) (dat xs A.length)] else [jnS 0 (fu A xs d A.length) (dat xs A.length)]) := by
  rw [so, so_app A [h] xs d _ (Nat.le_refl _), fu_app A [h] xs d _ (Nat.le_refl _), fo_app A [h] xs d _ (Nat.le_refl _), get_last]
theorem fu_last (A xs d : List Int) (h : Int) : fu (A ++ [h]) xs d (A.length + 1) = jn h (fu A xs d A.length) (dat xs A.length) := by
  rw [fu, fu_app A [h] xs d _ (Nat.le_refl _), get_last]
theorem fo_last (A xs d : List Int) (h : Int) : fo (A ++ [h]) xs d (A.length + 1) = if h = 1 then nd (dat xs A.length) (fo A xs d A.length) else fo A xs d A.length := by
  rw [fo, fo_app A [h] xs d _ (Nat.le_refl _), get_last]

/-- Of these strings no two unlike ones have one digest. -/
def OneEach (S : List Int → Prop) : Prop := ∀ s t, S s → S t → dg bL 0 s = dg bL 0 t → s = t
theorem jnS_hi {d x e y : List Int} (h : jnS 1 d x = jnS 1 e y) (hl : d.length = e.length) : x = y ∧ d = e := by
  unfold jnS at h
  rw [if_pos rfl, if_pos rfl] at h
  exact List.append_inj' (List.cons.inj h).2 hl
theorem jnS_lo {d x e y : List Int} (h : jnS 0 d x = jnS 0 e y) (hl : d.length = e.length) : d = e ∧ x = y := by
  unfold jnS at h
  rw [if_neg (by decide), if_neg (by decide)] at h
  exact List.append_inj (List.cons.inj h).2 hl
theorem jnS_d {k : Int} {d x e y : List Int} (h : jnS k d x = jnS k e y) (hl : d.length = e.length) : d = e := by
  unfold jnS at h
  split at h
  · exact (List.append_inj' (List.cons.inj h).2 hl).2
  · exact (List.append_inj (List.cons.inj h).2 hl).1
/-- Two leaves that lead to one digest by halves of one kind are one. -/
theorem same_leaf {S : List Int → Prop} (hS : OneEach S) {hs xs ys X Y : List Int} (hX : S (0 :: X)) (hY : S (0 :: Y)) : ∀ k, fu hs xs (lf X) k = fu hs ys (lf Y) k → (∀ s ∈ si hs xs (lf X) k, S s) → (∀ s ∈ si hs ys (lf Y) k, S s) → X = Y
  | 0, h, _, _ => (List.cons.inj (hS _ _ hX hY h)).2
  | k + 1, h, h1, h2 => by
    rw [fu, fu, ← jnS_dg, ← jnS_dg] at h
    have hm1 : jnS (hs.getD k 0) (fu hs xs (lf X) k) (dat xs k) ∈ si hs xs (lf X) (k + 1) := by rw [si]; simp
    have hm2 : jnS (hs.getD k 0) (fu hs ys (lf Y) k) (dat ys k) ∈ si hs ys (lf Y) (k + 1) := by rw [si]; simp
    have e := jnS_d (hS _ _ (h1 _ hm1) (h2 _ hm2) h) (by rw [fu_length (lf_length X), fu_length (lf_length Y)])
    exact same_leaf hS hX hY k e (fun s hs' => h1 s (by rw [si]; exact List.mem_append_left _ hs')) (fun s hs' => h2 s (by rw [si]; exact List.mem_append_left _ hs'))
theorem hf_same (n m : Nat) (hn : n ≤ 281474976710656) (h1 : hf n < m) (h2 : m ≤ n) (h3 : 2 ≤ n) : hf m = hf n := by
  have hb := hf_bd n h3 (by omega)
  have := hf_uniq m (Lib.bitLen (n - 1) - 1) (by omega) (by omega) (by show hf n < m; exact h1) (by show m ≤ 2 * hf n; omega)
  exact this
/-- Going down from two roots that a proof joins: the leaves at one place are one. -/
theorem leaf_down {S : List Int → Prop} (hS : OneEach S) {xs d0 px py X Y : List Int} {m i : Nat} (hd : d0.length = 32) (hX : S (0 :: X)) (hY : S (0 :: Y)) (him : i < m) : ∀ (f b n : Nat), n ≤ f → n ≤ 281474976710656 → b ≤ i → m ≤ b + n →
    (∀ j, j < (hvM m b n).length → (dat xs j).length = 32) →
    fu (hvL i b (m - b)) px (lf X) (hvL i b (m - b)).length = fo (hvM m b n) xs d0 (hvM m b n).length →
    fu (hvL i b n) py (lf Y) (hvL i b n).length = fu (hvM m b n) xs d0 (hvM m b n).length →
    (∀ s ∈ so (hvM m b n) xs d0 (hvM m b n).length, S s) → (∀ s ∈ si (hvL i b (m - b)) px (lf X) (hvL i b (m - b)).length, S s) → (∀ s ∈ si (hvL i b n) py (lf Y) (hvL i b n).length, S s) → X = Y
  | 0, b, n, h, _, h1, h2, _, _, _, _, _, _ => by omega
  | f + 1, b, n, h, hN, h1, h2, hx, ho, hw, s1, s2, s3 => by
    by_cases he : b + n = m
    · obtain ⟨e1, _⟩ := hvM_end he
      obtain rfl : m - b = n := by omega
      rw [e1] at ho hw
      have e : fu (hvL i b (m - b)) px (lf X) (hvL i b (m - b)).length = fu (hvL i b (m - b)) py (lf Y) (hvL i b (m - b)).length := ho.trans hw.symm
      exact same_leaf hS hX hY _ e s2 s3
    · have hn2 : 2 ≤ n := by omega
      have hh := hf_bd n hn2 (by omega)
      by_cases hc : m - 1 < b + hf n
      · obtain ⟨e1, _⟩ := hvM_lo (m := m) (by omega) he hn2 hN (by omega) hc
        have e2 := hvL_lo (i := i) hn2 hN h1 (by omega)
        rw [e1, List.length_append, List.length_singleton] at ho hw s1 hx
        rw [e2, List.length_append, List.length_singleton] at hw s3
        rw [fo_last, if_neg (by decide)] at ho
        rw [fu_last, fu_last, ← jnS_dg, ← jnS_dg] at hw
        rw [so_snoc, if_neg (by decide)] at s1
        rw [si_snoc] at s3
        have q := hS _ _ (s3 _ (List.mem_append_right _ (List.mem_singleton.2 rfl))) (s1 _ (List.mem_append_right _ (List.mem_singleton.2 rfl))) hw
        obtain ⟨q1, _⟩ := jnS_lo q (by rw [fu_length (lf_length Y), fu_length hd])
        exact leaf_down hS hd hX hY him f b (hf n) (by omega) (by omega) h1 (by omega) (fun j hj => hx j (by omega)) ho q1 (fun s hs' => s1 s (List.mem_append_left _ hs')) s2 (fun s hs' => s3 s (List.mem_append_left _ hs'))
      · obtain ⟨e1, _⟩ := hvM_hi (m := m) (by omega) he hn2 hN h2 (by omega) hc
        have hk : hf (m - b) = hf n := hf_same n (m - b) hN (by omega) (by omega) hn2
        rw [e1, List.length_append, List.length_singleton] at ho hw s1 hx
        rw [fo_last, if_pos rfl] at ho
        rw [so_snoc, if_pos rfl] at s1
        rw [fu_last (hvM m (b + hf n) (n - hf n))] at hw
        have ho' : fu (hvL i b (m - b)) px (lf X) (hvL i b (m - b)).length = dg bL 0 (jnS 1 (fo (hvM m (b + hf n) (n - hf n)) xs d0 (hvM m (b + hf n) (n - hf n)).length) (dat xs (hvM m (b + hf n) (n - hf n)).length)) := by rw [jnS_dg, ho]; rfl
        rw [← jnS_dg] at hw
        have m1 := s1 _ (List.mem_append_right _ (List.mem_cons_self ..))
        have m2 := s1 _ (List.mem_append_right _ (List.mem_cons_of_mem _ (List.mem_singleton.2 rfl)))
        have hdx := hx (hvM m (b + hf n) (n - hf n)).length (by omega)
        by_cases hl : i < b + hf n
        · have e2 := hvL_lo (i := i) (b := b) hn2 hN h1 hl
          have e3 := hvL_lo (i := i) (b := b) (n := m - b) (by omega) (by omega) h1 (by rw [hk]; exact hl)
          rw [hk] at e3
          rw [e2, List.length_append, List.length_singleton] at hw s3
          rw [e3, List.length_append, List.length_singleton] at ho' s2
          rw [fu_last, ← jnS_dg] at hw ho'
          rw [si_snoc] at s3 s2
          have q := hS _ _ (s3 _ (List.mem_append_right _ (List.mem_singleton.2 rfl))) m2 hw
          have p := hS _ _ (s2 _ (List.mem_append_right _ (List.mem_singleton.2 rfl))) m1 ho'
          have q1 : fu (hvL i b (hf n)) py (lf Y) (hvL i b (hf n)).length = dat xs (hvM m (b + hf n) (n - hf n)).length := by
            unfold jnS at q
            rw [if_neg (by decide), if_pos rfl] at q
            exact (List.append_inj (List.cons.inj q).2 (by rw [fu_length (lf_length Y), hdx])).1
          have p1 : fu (hvL i b (hf n)) px (lf X) (hvL i b (hf n)).length = dat xs (hvM m (b + hf n) (n - hf n)).length := by
            unfold jnS at p
            rw [if_neg (by decide), if_pos rfl] at p
            exact (List.append_inj (List.cons.inj p).2 (by rw [fu_length (lf_length X), hdx])).1
          exact same_leaf hS hX hY _ (p1.trans q1.symm) (fun s hs' => s2 s (List.mem_append_left _ hs')) (fun s hs' => s3 s (List.mem_append_left _ hs'))
        · have e2 := hvL_hi (i := i) (b := b) hn2 hN (by omega) hl
          have e3 := hvL_hi (i := i) (b := b) (n := m - b) (by omega) (by omega) (by omega) (by rw [hk]; exact hl)
          rw [hk, show m - b - hf n = m - (b + hf n) by omega] at e3
          rw [e2, List.length_append, List.length_singleton] at hw s3
          rw [e3, List.length_append, List.length_singleton] at ho' s2
          rw [fu_last, ← jnS_dg] at hw ho'
          rw [si_snoc] at s3 s2
          have q := hS _ _ (s3 _ (List.mem_append_right _ (List.mem_singleton.2 rfl))) m2 hw
          have p := hS _ _ (s2 _ (List.mem_append_right _ (List.mem_singleton.2 rfl))) m1 ho'
          obtain ⟨_, q1⟩ := jnS_hi q (by rw [fu_length (lf_length Y), fu_length hd])
          obtain ⟨_, p1⟩ := jnS_hi p (by rw [fu_length (lf_length X), fo_length hd])
          exact leaf_down hS hd hX hY him f (b + hf n) (n - hf n) (by omega) (by omega) (by omega) (by omega) (fun j hj => hx j (by omega)) p1 q1 (fun s hs' => s1 s (List.mem_append_left _ hs')) (fun s hs' => s2 s (List.mem_append_left _ hs')) (fun s hs' => s3 s (List.mem_append_left _ hs'))

end Go.Proofs.YtconeobaohmbnaaDoor

/-
  cutLast; what the closures of extract look at.
-/
namespace Go.Proofs.YtconeobaohmbnaaDoor
open Go.RowKit
set_option linter.unusedVariables false

theorem results_tw {fn : Func} {p u : Tmp} {T : TypeId} (h : fn.results = #[.tmp u, .cell p T]) {n : Nat} (hT : Wide T n) (tmps : Array Value) (w : World)
    {g : Nat} {t : TypeId} {cs : List Value} (hp : tmps.getD p undef = .pointer (some ⟨g, 0, none⟩)) (hg : Blk w g t cs) (hl : cs.length = n) :
    (results fn tmps).run Tryd.prog w = .ok (.tuple #[tmps.getD u undef, .agg cs.toArray]) w := by
  have hp' : tmps[p]?.getD undef = .pointer (some ⟨g, 0, none⟩) := by simpa using hp
  obtain ⟨d, hu, hd⟩ := hT.und
  simp [results, h, hp', asAddr, run_loadVar_mid w g 0 T cs d (hg.range 0 cs (by simp)) hu hd (by rw [hT.size, hl])]
section
variable {dst : Option Tmp} {ty : TypeId} {pos : String} {aft : Array Edge} {gd : Option (Nat × Bool)} {a : Act} {w : World} {K : Act → World → Prop} {Q : Exit → Act → World → Prop}
theorem wp_storeG9 {T : TypeId} {n : Nat} (hT : Wide T n) {x y : Operand} {g : Nat} {t : TypeId} {cs vs : List Value} (hx : a.eval x = .pointer (some ⟨g, 0, none⟩)) (hy : a.eval y = .agg vs.toArray) (hg : Blk w g t cs) (hn : vs.length = n) (h1 : One vs) (hl : cs.length = n)
    (h : ∀ w1, Blk w1 g t vs → But g w w1 → K (a.put dst undef) w1) : Oper.wp Tryd.prog ⟨dst, .store T x y, ty, pos, aft, gd⟩ a w K Q :=
  wp_storeW hT rfl hx hy hg hn h1 (by omega) fun w1 hb hbut => h w1 (by
    have e : spl cs vs 0 = vs := by
      unfold spl
      rw [List.drop_of_length_le (by omega)]
      simp
    rwa [e] at hb) hbut
end

set_option maxRecDepth 100000 in
set_option maxHeartbeats 1000000 in
theorem cutLast_any (b o q cap : Nat) (xs : List Int) (w : World) (hs : Ds w (some ⟨b, o, none⟩) (q + 1) cap xs) :
    Calls Tryd.prog 55 #[.slice (some ⟨b, o, none⟩) (q + 1) cap] w fun r w' => r = .returned (.tuple #[.slice (some ⟨b, o, none⟩) q cap, .agg (u8s (dat xs q)).toArray]) ∧ Below w.heap.size w w' := by
  have HS := hide hs
  have HDL := hide (dat_length hs.hlen (show q < q + 1 by omega))
  have hre := hs.hreach
  have hcap := hs.hcap
  clear hs
  go_enter Tryd.func55, Tryd.ntmps55
  go_wp2_with (refine step_alloc zD rfl ?_)
  intro z g3 hr3 hl3 hb3
  have G3 := hide hr3
  have B3 := hide hb3
  clear hr3 hb3
  have hw1 : wrap64 (((q + 1 : Nat) : Int) - 1) = (q : Int) := by rw [show (((q + 1 : Nat) : Int) - 1) = (q : Int) by omega]; unfold wrap64; omega
  have hw2 : wrap64 ((q : Int) + 1 - 1) = (q : Int) := by rw [show ((q : Int) + 1 - 1) = (q : Int) by omega]; unfold wrap64; omega
  go_wp2_with fail
  refine wp_region_noPanic ?_
  have Z0 := hide ((Below.refl z.heap.size z).drew)
  have hu := aD.und
  have HI1 : Hid ((Tryd.prog.info? 23).map (·.size) = some (u8s (dat xs q)).length) := hide (by rw [wD.size, u8s_length, HDL.out])
  refine wp_region_held_drew (S := fun v : World => v.rangeAt b (o + 32 * q) (u8s (dat xs q))) (by kernel_rfl) (((HS.out.below B3.out).below Z0.out).range q (by omega)) (fun hHeld => ?_)
  refine takeH 0 8 (.slice (some ⟨b, o, none⟩) (q + 1) cap) hHeld rfl rfl (by kernel_rfl) (by kernel_rfl) (by kernel_rfl) (fun _ _ _ h => h) (Or.inl ⟨by rfl, fun w _ => by go_simp⟩) ?_
  simp only [Act.put, List.setIfInBounds_toArray, List.set_cons_zero, List.set_cons_succ]
  refine takeH 1 9 (.int .i64 (q : Int)) hHeld rfl rfl (by kernel_rfl) (by kernel_rfl) (by kernel_rfl) (fun _ _ _ h => h) (Or.inl ⟨by rfl, fun w _ => by go_simp⟩) ?_
  simp only [Act.put, List.setIfInBounds_toArray, List.set_cons_zero, List.set_cons_succ]
  refine takeH 2 10 (.slice (some ⟨b, o, none⟩) q cap) hHeld rfl rfl (by kernel_rfl) (by kernel_rfl) (by kernel_rfl) (fun _ _ _ h => h) (Or.inl ⟨by rfl, fun w _ => run_op rfl (d_to b o (q + 1) cap q (q : Int) rfl (by omega) w)⟩) ?_
  simp only [Act.put, List.setIfInBounds_toArray, List.set_cons_zero, List.set_cons_succ]
  refine takeH 3 11 (.slice (some ⟨b, o, none⟩) (q + 1) cap) hHeld rfl rfl (by kernel_rfl) (by kernel_rfl) (by kernel_rfl) (fun _ _ _ h => h) (Or.inl ⟨by rfl, fun w _ => by go_simp⟩) ?_
  simp only [Act.put, List.setIfInBounds_toArray, List.set_cons_zero, List.set_cons_succ]
  refine takeH 4 12 (.int .i64 (q : Int)) hHeld rfl rfl (by kernel_rfl) (by kernel_rfl) (by kernel_rfl) (fun _ _ _ h => h) (Or.inl ⟨by rfl, fun w _ => by go_simp⟩) ?_
  simp only [Act.put, List.setIfInBounds_toArray, List.set_cons_zero, List.set_cons_succ]
  refine takeH 5 13 (.pointer (some ⟨b, o + 32 * q, none⟩)) hHeld rfl rfl (by kernel_rfl) (by kernel_rfl) (by kernel_rfl) (fun _ _ _ h => h) (Or.inl ⟨by rfl, fun w _ => run_op rfl (d_at b o (q + 1) cap q (q : Int) rfl (by omega) w)⟩) ?_
  simp only [Act.put, List.setIfInBounds_toArray, List.set_cons_zero, List.set_cons_succ]
  refine takeH 6 14 (.agg (u8s (dat xs q)).toArray) hHeld rfl rfl (by kernel_rfl) (by kernel_rfl) (by kernel_rfl) (fun _ _ _ h => h) (yieldsIf_load_mid (by rfl) _ _ rfl b (o + 32 * q) rfl _ _ (fun v hv => hv) hu rfl HI1.out) ?_
  simp only [Act.put, List.setIfInBounds_toArray, List.set_cons_zero, List.set_cons_succ]
  refine takeH 7 2 (.slice (some ⟨b, o, none⟩) q cap) hHeld rfl rfl (by kernel_rfl) (by kernel_rfl) (by kernel_rfl) (fun _ _ _ h => h) (Or.inl ⟨by rfl, fun w _ => by go_simp⟩) ?_
  simp only [Act.put, List.setIfInBounds_toArray, List.set_cons_zero, List.set_cons_succ]
  refine wpAnyH_ready (rs := [8]) (by kernel_rfl) (by simp) (AllReadyH.cons rfl (fun K hK => ?_) AllReadyH.nil)
  rw [if_pos (by rfl)]
  refine wp_storeG9 wD rfl rfl (G3.out.on Z0.out) (by rw [u8s_length, HDL.out]) (One.u8 _) (by rw [u8s_length, zer_length]) ?_
  intro y hy hbt
  have hby : Below w.heap.size w y := (B3.out.trans (Z0.out.mono B3.out.size)).trans (hbt.below hl3)
  refine hK.out _ _ ((HS.out.below hby).range q (by omega)) (fun hHeld => ?_)
  clear hK K
  simp only [Act.put]
  refine wpAnyH_done (by kernel_rfl) ?_ _
  refine NoPanic.normal ?_
  clear hHeld hu
  go_wp2
  refine bodyPost_ret (results_tw rfl wD _ _ rfl hy (by rw [u8s_length, HDL.out])) rfl ⟨rfl, hby⟩

/-- The method that is handed to the closures. -/
def fsum (g : Nat) : Value := .func (.func 53) #[.pointer (some ⟨g, 0, none⟩)] #[]
theorem si_take (hs xs d : List Int) (m : Nat) : ∀ k, k ≤ m → si hs (xs.take (32 * m)) d k = si hs xs d k
  | 0, _ => rfl
  | k + 1, h => by rw [si, si, si_take hs xs d m k (by omega), fu_take hs xs d m k (by omega), dat_take xs m k (by omega)]
theorem so_take (hs xs d : List Int) (m : Nat) : ∀ k, k ≤ m → so hs (xs.take (32 * m)) d k = so hs xs d k
  | 0, _ => rfl
  | k + 1, h => by rw [so, so, so_take hs xs d m k (by omega), fu_take hs xs d m k (by omega), fo_take hs xs d m k (by omega), dat_take xs m k (by omega)]
theorem si_snoc' (A xs d : List Int) (h : Int) : si (A ++ [h]) xs d (A.length + 1) = si A (xs.take (32 * A.length)) d A.length ++ [jnS h (fu A (xs.take (32 * A.length)) d A.length) (dat xs A.length)] := by
  rw [si_snoc, si_take A xs d A.length _ (Nat.le_refl _), fu_take A xs d A.length _ (Nat.le_refl _)]
/-- What the closure of rehashInclusion looks at. -/
structure EI (w : World) (g3 g4 g5 g : Nat) (ad : Option Addr) (ld cd : Nat) (data : List Int) : Prop where
  sum : Blk w g3 59 [fsum g]
  dat : Blk w g4 25 [.slice ad ld cd]
  self : Blk w g5 102 [.func (.func 57) #[] #[.pointer (some ⟨g3, 0, none⟩), .pointer (some ⟨g4, 0, none⟩), .pointer (some ⟨g5, 0, none⟩)]]
  sl : Sl w ad ld cd data
  kt : KT w
theorem EI.below {w w' : World} {g3 g4 g5 g : Nat} {ad : Option Addr} {ld cd : Nat} {data : List Int} (h : EI w g3 g4 g5 g ad ld cd data) (hb : Below w.heap.size w w') : EI w' g3 g4 g5 g ad ld cd data :=
  ⟨h.sum.on hb, h.dat.on hb, h.self.on hb, h.sl.below hb, h.kt.below hb h.kt.lt⟩
theorem EI.bel {w w' : World} {g3 g4 g5 g mb : Nat} {L : List (List Int)} {ad : Option Addr} {ld cd : Nat} {data : List Int} (h : EI w g3 g4 g5 g ad ld cd data) (hB : Bk w g mb L) (hb : Bel g mb w w') : EI w' g3 g4 g5 g ad ld cd data :=
  ⟨hB.blk hb h.sum (by decide), hB.blk hb h.dat (by decide), hB.blk hb h.self (by decide), hB.sl hb h.sl, hB.kt hb h.kt⟩

end Go.Proofs.YtconeobaohmbnaaDoor

/-
  rehashInclusion: what checking an inclusion hashes is hashed once more, by the book.
-/
namespace Go.Proofs.YtconeobaohmbnaaDoor
open Go.RowKit
set_option linter.unusedVariables false

/-- A new slice, and the block that it lies in. -/
theorem New.slu {w w' : World} {v : Value} {xs : List Int} (h : New w w' v xs) (hb : isB xs) (hl : xs.length ≤ 140737488355328) : ∃ g cap, v = .slice (some ⟨g, 0, none⟩) xs.length cap ∧ w.heap.size ≤ g ∧ Sl w' (some ⟨g, 0, none⟩) xs.length cap xs ∧ Blu w' (some ⟨g, 0, none⟩) xs.length := by
  obtain ⟨g, cap, rfl, hg, hs⟩ := h.sl hb hl
  obtain ⟨g', cap', e, _, ho⟩ := h
  cases e
  refine ⟨g, cap, rfl, hg, hs, fun _ => ?_⟩
  rcases ho.2 with ⟨e, _⟩ | ⟨g2, c2, cur, e, _, hh, _⟩
  · cases e
  · cases e
    exact ⟨g, 0, cur.toList, rfl, by unfold Blk; simpa using hh⟩
theorem isB_zero {xs : List Int} (h : isB xs) : isB (0 :: xs) := by
  intro y hy
  rcases List.mem_cons.1 hy with rfl | hy
  · omega
  · exact h y hy
theorem isB_one {l r : List Int} (hl : isB l) (hr : isB r) : isB (1 :: (l ++ r)) := by
  intro y hy
  rcases List.mem_cons.1 hy with rfl | hy
  · omega
  · rcases List.mem_append.1 hy with hy | hy
    · exact hl y hy
    · exact hr y hy
theorem Bel.but' {g mb k n : Nat} {w v v' : World} (h : Bel g mb w v) (hb : But k v v') (hk : w.heap.size ≤ k) : Bel g mb w v' :=
  ⟨hb.os.trans h.os, hb.tape.trans h.tape, hb.output.trans h.output, Nat.le_trans h.size (Nat.le_of_eq hb.size.symm), fun i hi hg hm => (hb.block i (by omega)).trans (h.block i hi hg hm)⟩

set_option maxRecDepth 100000 in
set_option maxHeartbeats 2000000 in
theorem rin_one (g3 g4 g5 g mb : Nat) (ad : Option Addr) (ld cd : Nat) (data : List Int) (L : List (List Int)) (I : Int) (av : Value) (w : World) (hE : EI w g3 g4 g5 g ad ld cd data) (hB : Bk w g mb L) (hld : ld ≤ 140737488354304) :
    Calls Tryd.prog 57 #[.int .i64 I, .int .i64 1, av, .pointer (some ⟨g3, 0, none⟩), .pointer (some ⟨g4, 0, none⟩), .pointer (some ⟨g5, 0, none⟩)] w
      fun r w' => r = .returned (.agg (u8s (lf data)).toArray) ∧ Bk w' g mb (L ++ [0 :: data]) ∧ Bel g mb w w' := by
  have HE := hide hE
  have HB := hide hB
  have HDL := hide (show (u8s (lf data)).length = 32 by rw [u8s_length, lf_length])
  have HLZ : Hid ((0 :: data).length = ld + 1) := hide (by rw [List.length_cons, hE.sl.hlen])
  have HBZ : Hid (isB (0 :: data)) := hide (isB_zero hE.sl.hbyte)
  clear hE hB
  go_enter Tryd.func57, Tryd.ntmps57
  go_wp2_with (refine step_alloc zD rfl ?_)
  intro z g9 hr9 hl9 hb9
  have G9 := hide hr9
  have B9 := hide hb9
  have EZ := hide (HE.out.below hb9)
  have BZ := hide (HB.out.on hb9)
  clear hr9 hb9
  go_wp2_with fail
  refine wp_region_noPanic ?_
  have Z0 := hide ((Below.refl z.heap.size z).drew)
  have HSS : Hid (∀ v, EI v g3 g4 g5 g ad ld cd data → v.cell? ⟨g3, 0, none⟩ = some (fsum g) ∧ v.cell? ⟨g4, 0, none⟩ = some (.slice ad ld cd)) := hide (fun v hv => ⟨by rw [hv.sum.cell]; rfl, by rw [hv.dat.cell]; rfl⟩)
  refine wp_region_held_drew (S := fun v : World => v.cell? ⟨g3, 0, none⟩ = some (fsum g) ∧ v.cell? ⟨g4, 0, none⟩ = some (.slice ad ld cd)) (by kernel_rfl) (HSS.out _ (EZ.out.below Z0.out)) (fun hHeld => ?_)
  refine takeH 0 16 (fsum g) hHeld rfl rfl (by kernel_rfl) (by kernel_rfl) (by kernel_rfl) (fun _ _ _ h => h) (Or.inl ⟨by rfl, fun w hw => by have hw' : w.cell? ⟨g3, 0, none⟩ = some (fsum g) := (fun hw => hw.1) hw; go_simp⟩) ?_
  simp only [Act.put, List.setIfInBounds_toArray, List.set_cons_zero, List.set_cons_succ]
  refine takeH 1 17 (.slice ad ld cd) hHeld rfl rfl (by kernel_rfl) (by kernel_rfl) (by kernel_rfl) (fun _ _ _ h => h) (Or.inl ⟨by rfl, fun w hw => by have hw' : w.cell? ⟨g4, 0, none⟩ = some (.slice ad ld cd) := (fun hw => hw.2) hw; go_simp⟩) ?_
  simp only [Act.put, List.setIfInBounds_toArray, List.set_cons_zero, List.set_cons_succ]
  refine wpAnyH_ready (rs := [2]) (by kernel_rfl) (by simp) (AllReadyH.cons rfl (fun K hK => ?_) AllReadyH.nil)
  rw [if_pos (by rfl)]
  go_simp
  refine (leafPre_any ad ld cd data _ (EZ.out.below Z0.out).sl (by omega)).mono ?_
  rintro r v1 ⟨vx, rfl, hn1, hv1⟩
  obtain ⟨gx, cx, rfl, _, hsx, hux⟩ := hn1.slu HBZ.out (by rw [HLZ.out]; omega)
  have Z1 := hide (Z0.out.trans (hv1.mono Z0.out.size))
  have SX := hide hsx
  have UX := hide hux
  rw [HLZ.out] at SX UX ⊢
  clear hn1 hv1 hsx hux
  refine hK.out _ _ (HSS.out _ (EZ.out.below Z1.out)) (fun hHeld => ?_)
  clear hK K
  refine wpAnyH_ready (rs := [3]) (by kernel_rfl) (by simp) (AllReadyH.cons rfl (fun K hK => ?_) AllReadyH.nil)
  rw [if_pos (by rfl)]
  simp only [fsum]
  go_simp
  refine (bsum_any g mb L (0 :: data) _ _ _ _ (BZ.out.on Z1.out) SX.out UX.out (EZ.out.below Z1.out).kt).mono ?_
  rintro r v2 ⟨rfl, hB2, hbel2⟩
  rw [show dg bL 0 (0 :: data) = lf data from rfl]
  have E2 := hide ((EZ.out.below Z1.out).bel (BZ.out.on Z1.out) hbel2)
  have G92 := hide ((BZ.out.on Z1.out).blk hbel2 (G9.out.on Z1.out) (by decide))
  have BL2 := hide (((Bel.of_below (g := g) (mb := mb) B9.out).trans (Bel.of_below Z1.out)).trans hbel2)
  have HB2 := hide hB2
  clear hB2 hbel2
  refine hK.out _ _ (HSS.out _ E2.out) (fun hHeld => ?_)
  clear hK K
  refine wpAnyH_ready (rs := [4]) (by kernel_rfl) (by simp) (AllReadyH.cons rfl (fun K hK => ?_) AllReadyH.nil)
  rw [if_pos (by rfl)]
  refine wp_storeG9 wD rfl rfl G92.out HDL.out (One.u8 _) (by rw [u8s_length, zer_length]) ?_
  intro v3 hr3 hbt3
  have hB3 := HB2.out.but G92.out (by decide) (by decide) hbt3
  have hE3 : v3.cell? ⟨g3, 0, none⟩ = some (fsum g) ∧ v3.cell? ⟨g4, 0, none⟩ = some (.slice ad ld cd) := by
    have n3 : g3 ≠ g9 := by have := HE.out.sum.lt; omega
    have n4 : g4 ≠ g9 := by have := HE.out.dat.lt; omega
    exact ⟨by rw [(E2.out.sum.but hbt3 n3).cell]; rfl, by rw [(E2.out.dat.but hbt3 n4).cell]; rfl⟩
  refine hK.out _ _ hE3 (fun hHeld => ?_)
  clear hK K
  simp only [Act.put]
  refine wpAnyH_done (by kernel_rfl) ?_ _
  refine NoPanic.normal ?_
  clear hHeld hE3
  have HB3 := hide hB3
  clear hB3
  go_wp2
  refine bodyPost_ret (results_wide rfl wD _ _ rfl hr3 HDL.out) rfl ⟨rfl, HB3.out, BL2.out.but' (n := 0) hbt3 hl9⟩

set_option maxRecDepth 100000 in
set_option maxHeartbeats 2000000 in
theorem rin_any (g3 g4 g5 g mb i : Nat) (ad : Option Addr) (ld cd : Nat) (data : List Int) (hld : ld ≤ 140737488354304) : ∀ (f b n : Nat) (I : Int) (a : Option Addr) (l cap : Nat) (xs : List Int) (L : List (List Int)) (w : World), n ≤ f → b ≤ i → i < b + n → n ≤ 281474976710656 → I = ((i - b : Nat) : Int) → l = (hvL i b n).length → Ds w a l cap xs →
    EI w g3 g4 g5 g ad ld cd data → Bk w g mb L →
    Calls Tryd.prog 57 #[.int .i64 I, .int .i64 (n : Int), .slice a l cap, .pointer (some ⟨g3, 0, none⟩), .pointer (some ⟨g4, 0, none⟩), .pointer (some ⟨g5, 0, none⟩)] w
      fun r w' => r = .returned (.agg (u8s (fu (hvL i b n) xs (lf data) l)).toArray) ∧ Bk w' g mb (L ++ (0 :: data) :: si (hvL i b n) xs (lf data) l) ∧ Bel g mb w w' := by
  intro f
  induction f with
  | zero => intro b n I a l cap xs L w h1 h2 h3; omega
  | succ f ih =>
    intro b n I a l cap xs L w hfu hb hi hn hI hl hs hE hB
    by_cases h1 : n = 1
    · subst h1
      rw [hvL_one] at hl ⊢
      subst hl
      exact rin_one g3 g4 g5 g mb ad ld cd data L I _ w hE hB hld
    · have h2 : 2 ≤ n := by omega
      have hh := hf_bd n h2 (by omega)
      have HIH := hide ih
      have HE := hide hE
      have HB := hide hB
      have HS := hide hs
      clear ih hE hB hs
      have hn1 : ¬ ((n : Int) = 1) := by omega
      by_cases hc : i < b + hf n
      · have e := hvL_lo h2 hn hb hc
        obtain ⟨A, hA⟩ : ∃ A, A = hvL i b (hf n) := ⟨_, rfl⟩
        rw [← hA] at e
        rw [e] at hl ⊢
        obtain ⟨q, hq⟩ : ∃ q, q = A.length := ⟨_, rfl⟩
        have hlq : l = q + 1 := by rw [hl, hq]; simp
        subst hlq
        obtain ⟨bb, oo, rfl⟩ := HS.out.place (by omega)
        obtain ⟨D, hD⟩ : ∃ D, D = fu A (xs.take (32 * q)) (lf data) q := ⟨_, rfl⟩
        have HDL : Hid (D.length = 32) := hide (by rw [hD]; exact fu_length (lf_length _) _)
        have HDB : Hid (isB D) := hide (by rw [hD]; exact fu_isB (lf_isB _) _)
        have HXL0 := dat_length HS.out.hlen (show q < q + 1 by omega)
        have HXD := hide HXL0
        have HXL : Hid ((u8s (dat xs q)).length = 32) := hide (by rw [u8s_length, HXL0])
        have HXB := hide (dat_isB HS.out.hbyte q)
        have H65 : Hid ((1 :: (D ++ dat xs q)).length = 65) := hide (by rw [List.length_cons, List.length_append, HDL.out, HXL0])
        have HML : Hid ((u8s (nd D (dat xs q))).length = 32) := hide (by rw [u8s_length, nd_length])
        have HF : Hid (fu (A ++ [0]) xs (lf data) (q + 1) = nd D (dat xs q)) := hide (by rw [hD, hq]; exact fu_snoc A xs (lf data) 0)
        have HSI : Hid (si (A ++ [0]) xs (lf data) (q + 1) = si A (xs.take (32 * q)) (lf data) q ++ [1 :: (D ++ dat xs q)]) := hide (by rw [hD, hq]; exact si_snoc' A xs (lf data) 0)
        clear HXL0 hl e
        have HQ := hide hq
        have HAA := hide hA
        have HDD := hide hD
        have HII := hide hI
        have hlt : I < (hf n : Int) := by omega
        clear hq hA hD hI
        go_enter Tryd.func57, Tryd.ntmps57
        go_wp2_with (refine step_alloc zD rfl ?_)
        intro w1 g9 hr9 hl9 hb9
        have G9 := hide hr9
        have B9 := hide hb9
        have E1 := hide (HE.out.below hb9)
        clear hr9 hb9
        go_wp2_with (first | (go_at_call 37; refine (split_any n _ h2 (by omega)).mono ?_; rintro r w' ⟨rfl, rfl⟩) | (go_at_call 55; refine (cutLast_any bb oo q cap xs _ (HS.out.below B9.out)).mono ?_))
        rintro r w2 ⟨rfl, hb2⟩
        have B2 := hide (B9.out.trans (hb2.mono B9.out.size))
        have G92 := hide (G9.out.on hb2)
        clear hb2
        go_wp2_with (refine step_alloc zD rfl ?_)
        intro w3 g13 hr3 hl3 hb3
        have G93 := hide (G92.out.on hb3)
        have B3 := hide (B2.out.trans (hb3.mono B2.out.size))
        have h913 : g9 ≠ g13 := by have := G92.out.lt; omega
        have H139 := hide (Ne.symm h913)
        have h13 : w.heap.size ≤ g13 := Nat.le_trans B2.out.size hl3
        go_wp2_with (refine step_storeA wD rfl rfl rfl hr3 HXL.out (One.u8 _) (by rw [u8s_length, zer_length]) ?_)
        intro z hrz hbtz
        have GX := hide hrz
        have G9z := hide (G93.out.but hbtz h913)
        have BZ := hide (B3.out.trans (hbtz.below h13))
        have EZ := hide (HE.out.below BZ.out)
        have KZ := hide (HB.out.on BZ.out)
        have HLZ := hide hl9
        clear hr3 hl3 hb3 hrz hbtz hl9 h913 h13 G9 B9 E1 B2 G92 G93 B3
        go_wp2_with fail
        refine wp_region_noPanic ?_
        have Z0 := hide ((Below.refl z.heap.size z).drew)
        have hu := aD.und
        have HI1 : Hid ((Tryd.prog.info? 23).map (·.size) = some (u8s (dat xs q)).length) := hide (by rw [wD.size, HXL.out])
        have HSS : Hid (∀ v, EI v g3 g4 g5 g ad ld cd data → Blk v g13 23 (u8s (dat xs q)) → v.cell? ⟨g3, 0, none⟩ = some (fsum g) ∧ v.cell? ⟨g5, 0, none⟩ = some (.func (.func 57) #[] #[.pointer (some ⟨g3, 0, none⟩), .pointer (some ⟨g4, 0, none⟩), .pointer (some ⟨g5, 0, none⟩)]) ∧ v.rangeAt g13 0 (u8s (dat xs q))) := hide (fun v hv hx => ⟨by rw [hv.sum.cell]; rfl, by rw [hv.self.cell]; rfl, hx.range 0 _ (by simp)⟩)
        refine wp_region_held_drew (S := fun v : World => v.cell? ⟨g3, 0, none⟩ = some (fsum g) ∧ v.cell? ⟨g5, 0, none⟩ = some (.func (.func 57) #[] #[.pointer (some ⟨g3, 0, none⟩), .pointer (some ⟨g4, 0, none⟩), .pointer (some ⟨g5, 0, none⟩)]) ∧ v.rangeAt g13 0 (u8s (dat xs q))) (by kernel_rfl) (HSS.out _ (EZ.out.below Z0.out) (GX.out.on Z0.out)) (fun hHeld => ?_)
        refine takeH 0 33 (fsum g) hHeld rfl rfl (by kernel_rfl) (by kernel_rfl) (by kernel_rfl) (fun _ _ _ h => h) (Or.inl ⟨by rfl, fun w hw => by have hw' : w.cell? ⟨g3, 0, none⟩ = some (fsum g) := (fun hw => hw.1) hw; go_simp⟩) ?_
        simp only [Act.put, List.setIfInBounds_toArray, List.set_cons_zero, List.set_cons_succ]
        refine takeH 1 34 (.func (.func 57) #[] #[.pointer (some ⟨g3, 0, none⟩), .pointer (some ⟨g4, 0, none⟩), .pointer (some ⟨g5, 0, none⟩)]) hHeld rfl rfl (by kernel_rfl) (by kernel_rfl) (by kernel_rfl) (fun _ _ _ h => h) (Or.inl ⟨by rfl, fun w hw => by have hw' : w.cell? ⟨g5, 0, none⟩ = some (.func (.func 57) #[] #[.pointer (some ⟨g3, 0, none⟩), .pointer (some ⟨g4, 0, none⟩), .pointer (some ⟨g5, 0, none⟩)]) := (fun hw => hw.2.1) hw; go_simp⟩) ?_
        simp only [Act.put, List.setIfInBounds_toArray, List.set_cons_zero, List.set_cons_succ]
        refine takeH 2 35 (.int .i64 I) hHeld rfl rfl (by kernel_rfl) (by kernel_rfl) (by kernel_rfl) (fun _ _ _ h => h) (Or.inl ⟨by rfl, fun w _ => by go_simp⟩) ?_
        simp only [Act.put, List.setIfInBounds_toArray, List.set_cons_zero, List.set_cons_succ]
        refine takeH 3 36 (.int .i64 (hf n : Int)) hHeld rfl rfl (by kernel_rfl) (by kernel_rfl) (by kernel_rfl) (fun _ _ _ h => h) (Or.inl ⟨by rfl, fun w _ => by go_simp⟩) ?_
        simp only [Act.put, List.setIfInBounds_toArray, List.set_cons_zero, List.set_cons_succ]
        refine takeH 4 37 (.slice (some ⟨bb, oo, none⟩) q cap) hHeld rfl rfl (by kernel_rfl) (by kernel_rfl) (by kernel_rfl) (fun _ _ _ h => h) (Or.inl ⟨by rfl, fun w _ => by go_simp⟩) ?_
        simp only [Act.put, List.setIfInBounds_toArray, List.set_cons_zero, List.set_cons_succ]
        refine takeH 6 39 (.agg (u8s (dat xs q)).toArray) hHeld rfl rfl (by kernel_rfl) (by kernel_rfl) (by kernel_rfl) (fun _ _ _ h => h) (yieldsIf_load_mid (by rfl) _ _ rfl g13 0 rfl _ _ (fun v hv => hv.2.2) hu rfl HI1.out) ?_
        simp only [Act.put, List.setIfInBounds_toArray, List.set_cons_zero, List.set_cons_succ]
        refine wpAnyH_ready (rs := [5]) (by kernel_rfl) (by simp) (AllReadyH.cons rfl (fun K hK => ?_) AllReadyH.nil)
        rw [if_pos (by rfl)]
        go_simp
        refine (HIH.out b (hf n) I _ q cap (xs.take (32 * q)) L _ (by omega) hb hc (by omega) HII.out (by rw [HQ.out, HAA.out]) (((HS.out.take q (by omega)).below BZ.out).below Z0.out) (EZ.out.below Z0.out) (KZ.out.on Z0.out)).mono ?_
        rintro r v1 ⟨rfl, hB1, hbel1⟩
        rw [← HAA.out] at hB1 ⊢
        have E1 := hide ((EZ.out.below Z0.out).bel (KZ.out.on Z0.out) hbel1)
        have X1 := hide ((KZ.out.on Z0.out).blk hbel1 (GX.out.on Z0.out) (by decide))
        have N1 := hide ((KZ.out.on Z0.out).blk hbel1 (G9z.out.on Z0.out) (by decide))
        have BL1 := hide (((Bel.of_below (g := g) (mb := mb) BZ.out).trans (Bel.of_below Z0.out)).trans hbel1)
        have K1 := hide hB1
        clear hB1 hbel1
        refine hK.out _ _ (HSS.out _ E1.out X1.out) (fun hHeld => ?_)
        clear hK K
        rw [← HDD.out]
        refine wpAnyH_ready (rs := [7]) (by kernel_rfl) (by simp) (AllReadyH.cons rfl (fun K hK => ?_) AllReadyH.nil)
        rw [if_pos (by rfl)]
        go_simp
        refine (pre_any D (dat xs q) _ HDL.out HXD.out HDB.out HXB.out).mono ?_
        rintro r v2 ⟨vx, rfl, hn2, hv2⟩
        obtain ⟨gx, cx, rfl, _, hsx, hux⟩ := hn2.slu (isB_one HDB.out HXB.out) (by rw [H65.out]; omega)
        have SX := hide hsx
        have UX := hide hux
        rw [H65.out] at SX UX ⊢
        have E2 := hide (E1.out.below hv2)
        have X2 := hide (X1.out.on hv2)
        have N2 := hide (N1.out.on hv2)
        have K2 := hide (K1.out.on hv2)
        have BL2 := hide (BL1.out.trans (Bel.of_below hv2))
        clear hn2 hv2 hsx hux
        refine hK.out _ _ (HSS.out _ E2.out X2.out) (fun hHeld => ?_)
        clear hK K
        refine wpAnyH_ready (rs := [8]) (by kernel_rfl) (by simp) (AllReadyH.cons rfl (fun K hK => ?_) AllReadyH.nil)
        rw [if_pos (by rfl)]
        simp only [fsum]
        go_simp
        refine (bsum_any g mb _ _ _ _ _ _ K2.out SX.out UX.out E2.out.kt).mono ?_
        rintro r v3 ⟨rfl, hB3, hbel3⟩
        rw [show dg bL 0 (1 :: (D ++ (dat xs q))) = nd D (dat xs q) from rfl]
        have E3 := hide (E2.out.bel K2.out hbel3)
        have X3 := hide (K2.out.blk hbel3 X2.out (by decide))
        have N3 := hide (K2.out.blk hbel3 N2.out (by decide))
        have BL3 := hide (BL2.out.trans hbel3)
        have K3 := hide hB3
        clear hB3 hbel3
        refine hK.out _ _ (HSS.out _ E3.out X3.out) (fun hHeld => ?_)
        clear hK K
        refine wpAnyH_ready (rs := [9]) (by kernel_rfl) (by simp) (AllReadyH.cons rfl (fun K hK => ?_) AllReadyH.nil)
        rw [if_pos (by rfl)]
        refine wp_storeG9 wD rfl rfl N3.out HML.out (One.u8 _) (by rw [u8s_length, zer_length]) ?_
        intro v4 hr4 hbt4
        have hB4 := K3.out.but N3.out (by decide) (by decide) hbt4
        have hS4 : v4.cell? ⟨g3, 0, none⟩ = some (fsum g) ∧ v4.cell? ⟨g5, 0, none⟩ = some (.func (.func 57) #[] #[.pointer (some ⟨g3, 0, none⟩), .pointer (some ⟨g4, 0, none⟩), .pointer (some ⟨g5, 0, none⟩)]) ∧ v4.rangeAt g13 0 (u8s (dat xs q)) := by
          have n3 : g3 ≠ g9 := by have := HE.out.sum.lt; have := HLZ.out; omega
          have n5 : g5 ≠ g9 := by have := HE.out.self.lt; have := HLZ.out; omega
          exact ⟨by rw [(E3.out.sum.but hbt4 n3).cell]; rfl, by rw [(E3.out.self.but hbt4 n5).cell]; rfl, (X3.out.but hbt4 H139.out).range 0 _ (by simp)⟩
        refine hK.out _ _ hS4 (fun hHeld => ?_)
        clear hK K
        simp only [Act.put]
        refine wpAnyH_done (by kernel_rfl) ?_ _
        refine NoPanic.normal ?_
        clear hHeld hS4 hu
        have K4 := hide hB4
        clear hB4
        go_wp2
        refine bodyPost_ret (results_wide rfl wD _ _ rfl hr4 HML.out) rfl ⟨by rw [HF.out], ?_, BL3.out.but' (n := 0) hbt4 HLZ.out⟩
        have hfin := K4.out
        rw [HSI.out]
        simpa using hfin
      · have e := hvL_hi h2 hn hi hc
        obtain ⟨A, hA⟩ : ∃ A, A = hvL i (b + hf n) (n - hf n) := ⟨_, rfl⟩
        rw [← hA] at e
        rw [e] at hl ⊢
        obtain ⟨q, hq⟩ : ∃ q, q = A.length := ⟨_, rfl⟩
        have hlq : l = q + 1 := by rw [hl, hq]; simp
        subst hlq
        obtain ⟨bb, oo, rfl⟩ := HS.out.place (by omega)
        obtain ⟨D, hD⟩ : ∃ D, D = fu A (xs.take (32 * q)) (lf data) q := ⟨_, rfl⟩
        have HDL : Hid (D.length = 32) := hide (by rw [hD]; exact fu_length (lf_length _) _)
        have HDB : Hid (isB D) := hide (by rw [hD]; exact fu_isB (lf_isB _) _)
        have HXL0 := dat_length HS.out.hlen (show q < q + 1 by omega)
        have HXD := hide HXL0
        have HXL : Hid ((u8s (dat xs q)).length = 32) := hide (by rw [u8s_length, HXL0])
        have HXB := hide (dat_isB HS.out.hbyte q)
        have H65 : Hid ((1 :: (dat xs q ++ D)).length = 65) := hide (by rw [List.length_cons, List.length_append, HDL.out, HXL0])
        have HML : Hid ((u8s (nd (dat xs q) D)).length = 32) := hide (by rw [u8s_length, nd_length])
        have HF : Hid (fu (A ++ [1]) xs (lf data) (q + 1) = nd (dat xs q) D) := hide (by rw [hD, hq]; exact fu_snoc A xs (lf data) 1)
        have HSI : Hid (si (A ++ [1]) xs (lf data) (q + 1) = si A (xs.take (32 * q)) (lf data) q ++ [1 :: (dat xs q ++ D)]) := hide (by rw [hD, hq]; exact si_snoc' A xs (lf data) 1)
        clear HXL0 hl e
        have HQ := hide hq
        have HAA := hide hA
        have HDD := hide hD
        have HII := hide hI
        have hlt : ¬ (I < (hf n : Int)) := by omega
        clear hq hA hD hI
        go_enter Tryd.func57, Tryd.ntmps57
        go_wp2_with (refine step_alloc zD rfl ?_)
        intro w1 g9 hr9 hl9 hb9
        have G9 := hide hr9
        have B9 := hide hb9
        have E1 := hide (HE.out.below hb9)
        clear hr9 hb9
        go_wp2_with (first | (go_at_call 37; refine (split_any n _ h2 (by omega)).mono ?_; rintro r w' ⟨rfl, rfl⟩) | (go_at_call 55; refine (cutLast_any bb oo q cap xs _ (HS.out.below B9.out)).mono ?_))
        rintro r w2 ⟨rfl, hb2⟩
        have B2 := hide (B9.out.trans (hb2.mono B9.out.size))
        have G92 := hide (G9.out.on hb2)
        clear hb2
        go_wp2_with (refine step_alloc zD rfl ?_)
        intro w3 g13 hr3 hl3 hb3
        have G93 := hide (G92.out.on hb3)
        have B3 := hide (B2.out.trans (hb3.mono B2.out.size))
        have h913 : g9 ≠ g13 := by have := G92.out.lt; omega
        have H139 := hide (Ne.symm h913)
        have h13 : w.heap.size ≤ g13 := Nat.le_trans B2.out.size hl3
        go_wp2_with (refine step_storeA wD rfl rfl rfl hr3 HXL.out (One.u8 _) (by rw [u8s_length, zer_length]) ?_)
        intro z hrz hbtz
        have GX := hide hrz
        have G9z := hide (G93.out.but hbtz h913)
        have BZ := hide (B3.out.trans (hbtz.below h13))
        have EZ := hide (HE.out.below BZ.out)
        have KZ := hide (HB.out.on BZ.out)
        have HLZ := hide hl9
        clear hr3 hl3 hb3 hrz hbtz hl9 h913 h13 G9 B9 E1 B2 G92 G93 B3
        go_wp2_with fail
        refine wp_region_noPanic ?_
        have Z0 := hide ((Below.refl z.heap.size z).drew)
        have hu := aD.und
        have HI1 : Hid ((Tryd.prog.info? 23).map (·.size) = some (u8s (dat xs q)).length) := hide (by rw [wD.size, HXL.out])
        have HSS : Hid (∀ v, EI v g3 g4 g5 g ad ld cd data → Blk v g13 23 (u8s (dat xs q)) → v.cell? ⟨g3, 0, none⟩ = some (fsum g) ∧ v.cell? ⟨g5, 0, none⟩ = some (.func (.func 57) #[] #[.pointer (some ⟨g3, 0, none⟩), .pointer (some ⟨g4, 0, none⟩), .pointer (some ⟨g5, 0, none⟩)]) ∧ v.rangeAt g13 0 (u8s (dat xs q))) := hide (fun v hv hx => ⟨by rw [hv.sum.cell]; rfl, by rw [hv.self.cell]; rfl, hx.range 0 _ (by simp)⟩)
        refine wp_region_held_drew (S := fun v : World => v.cell? ⟨g3, 0, none⟩ = some (fsum g) ∧ v.cell? ⟨g5, 0, none⟩ = some (.func (.func 57) #[] #[.pointer (some ⟨g3, 0, none⟩), .pointer (some ⟨g4, 0, none⟩), .pointer (some ⟨g5, 0, none⟩)]) ∧ v.rangeAt g13 0 (u8s (dat xs q))) (by kernel_rfl) (HSS.out _ (EZ.out.below Z0.out) (GX.out.on Z0.out)) (fun hHeld => ?_)
        refine takeH 0 42 (fsum g) hHeld rfl rfl (by kernel_rfl) (by kernel_rfl) (by kernel_rfl) (fun _ _ _ h => h) (Or.inl ⟨by rfl, fun w hw => by have hw' : w.cell? ⟨g3, 0, none⟩ = some (fsum g) := (fun hw => hw.1) hw; go_simp⟩) ?_
        simp only [Act.put, List.setIfInBounds_toArray, List.set_cons_zero, List.set_cons_succ]
        refine takeH 1 43 (.agg (u8s (dat xs q)).toArray) hHeld rfl rfl (by kernel_rfl) (by kernel_rfl) (by kernel_rfl) (fun _ _ _ h => h) (yieldsIf_load_mid (by rfl) _ _ rfl g13 0 rfl _ _ (fun v hv => hv.2.2) hu rfl HI1.out) ?_
        simp only [Act.put, List.setIfInBounds_toArray, List.set_cons_zero, List.set_cons_succ]
        refine takeH 2 44 (.func (.func 57) #[] #[.pointer (some ⟨g3, 0, none⟩), .pointer (some ⟨g4, 0, none⟩), .pointer (some ⟨g5, 0, none⟩)]) hHeld rfl rfl (by kernel_rfl) (by kernel_rfl) (by kernel_rfl) (fun _ _ _ h => h) (Or.inl ⟨by rfl, fun w hw => by have hw' : w.cell? ⟨g5, 0, none⟩ = some (.func (.func 57) #[] #[.pointer (some ⟨g3, 0, none⟩), .pointer (some ⟨g4, 0, none⟩), .pointer (some ⟨g5, 0, none⟩)]) := (fun hw => hw.2.1) hw; go_simp⟩) ?_
        simp only [Act.put, List.setIfInBounds_toArray, List.set_cons_zero, List.set_cons_succ]
        refine takeH 3 45 (.int .i64 I) hHeld rfl rfl (by kernel_rfl) (by kernel_rfl) (by kernel_rfl) (fun _ _ _ h => h) (Or.inl ⟨by rfl, fun w _ => by go_simp⟩) ?_
        simp only [Act.put, List.setIfInBounds_toArray, List.set_cons_zero, List.set_cons_succ]
        refine takeH 4 46 (.int .i64 (hf n : Int)) hHeld rfl rfl (by kernel_rfl) (by kernel_rfl) (by kernel_rfl) (fun _ _ _ h => h) (Or.inl ⟨by rfl, fun w _ => by go_simp⟩) ?_
        simp only [Act.put, List.setIfInBounds_toArray, List.set_cons_zero, List.set_cons_succ]
        have hwA : IntKind.i64.wrap (I - (hf n : Int)) = I - (hf n : Int) := by rw [IntKind.wrap_i64]; have := HII.out; omega
        have hwB : IntKind.i64.wrap ((n : Int) - (hf n : Int)) = ((n - hf n : Nat) : Int) := by rw [IntKind.wrap_i64]; omega
        refine takeH 5 47 (.int .i64 (I - (hf n : Int))) hHeld rfl rfl (by kernel_rfl) (by kernel_rfl) (by kernel_rfl) (fun _ _ _ h => h) (Or.inl ⟨by rfl, fun w _ => by go_simp⟩) ?_
        simp only [Act.put, List.setIfInBounds_toArray, List.set_cons_zero, List.set_cons_succ]
        refine takeH 6 48 (.int .i64 (n : Int)) hHeld rfl rfl (by kernel_rfl) (by kernel_rfl) (by kernel_rfl) (fun _ _ _ h => h) (Or.inl ⟨by rfl, fun w _ => by go_simp⟩) ?_
        simp only [Act.put, List.setIfInBounds_toArray, List.set_cons_zero, List.set_cons_succ]
        refine takeH 7 49 (.int .i64 (hf n : Int)) hHeld rfl rfl (by kernel_rfl) (by kernel_rfl) (by kernel_rfl) (fun _ _ _ h => h) (Or.inl ⟨by rfl, fun w _ => by go_simp⟩) ?_
        simp only [Act.put, List.setIfInBounds_toArray, List.set_cons_zero, List.set_cons_succ]
        refine takeH 8 50 (.int .i64 ((n - hf n : Nat) : Int)) hHeld rfl rfl (by kernel_rfl) (by kernel_rfl) (by kernel_rfl) (fun _ _ _ h => h) (Or.inl ⟨by rfl, fun w _ => by go_simp⟩) ?_
        simp only [Act.put, List.setIfInBounds_toArray, List.set_cons_zero, List.set_cons_succ]
        refine takeH 9 51 (.slice (some ⟨bb, oo, none⟩) q cap) hHeld rfl rfl (by kernel_rfl) (by kernel_rfl) (by kernel_rfl) (fun _ _ _ h => h) (Or.inl ⟨by rfl, fun w _ => by go_simp⟩) ?_
        simp only [Act.put, List.setIfInBounds_toArray, List.set_cons_zero, List.set_cons_succ]
        clear hwA hwB
        refine wpAnyH_ready (rs := [10]) (by kernel_rfl) (by simp) (AllReadyH.cons rfl (fun K hK => ?_) AllReadyH.nil)
        rw [if_pos (by rfl)]
        go_simp
        refine (HIH.out (b + hf n) (n - hf n) (I - (hf n : Int)) _ q cap (xs.take (32 * q)) L _ (by omega) (by omega) (by omega) (by omega) (by have := HII.out; omega) (by rw [HQ.out, HAA.out]) (((HS.out.take q (by omega)).below BZ.out).below Z0.out) (EZ.out.below Z0.out) (KZ.out.on Z0.out)).mono ?_
        rintro r v1 ⟨rfl, hB1, hbel1⟩
        rw [← HAA.out] at hB1 ⊢
        have E1 := hide ((EZ.out.below Z0.out).bel (KZ.out.on Z0.out) hbel1)
        have X1 := hide ((KZ.out.on Z0.out).blk hbel1 (GX.out.on Z0.out) (by decide))
        have N1 := hide ((KZ.out.on Z0.out).blk hbel1 (G9z.out.on Z0.out) (by decide))
        have BL1 := hide (((Bel.of_below (g := g) (mb := mb) BZ.out).trans (Bel.of_below Z0.out)).trans hbel1)
        have K1 := hide hB1
        clear hB1 hbel1
        refine hK.out _ _ (HSS.out _ E1.out X1.out) (fun hHeld => ?_)
        clear hK K
        rw [← HDD.out]
        refine wpAnyH_ready (rs := [11]) (by kernel_rfl) (by simp) (AllReadyH.cons rfl (fun K hK => ?_) AllReadyH.nil)
        rw [if_pos (by rfl)]
        go_simp
        refine (pre_any (dat xs q) D _ HXD.out HDL.out HXB.out HDB.out).mono ?_
        rintro r v2 ⟨vx, rfl, hn2, hv2⟩
        obtain ⟨gx, cx, rfl, _, hsx, hux⟩ := hn2.slu (isB_one HXB.out HDB.out) (by rw [H65.out]; omega)
        have SX := hide hsx
        have UX := hide hux
        rw [H65.out] at SX UX ⊢
        have E2 := hide (E1.out.below hv2)
        have X2 := hide (X1.out.on hv2)
        have N2 := hide (N1.out.on hv2)
        have K2 := hide (K1.out.on hv2)
        have BL2 := hide (BL1.out.trans (Bel.of_below hv2))
        clear hn2 hv2 hsx hux
        refine hK.out _ _ (HSS.out _ E2.out X2.out) (fun hHeld => ?_)
        clear hK K
        refine wpAnyH_ready (rs := [12]) (by kernel_rfl) (by simp) (AllReadyH.cons rfl (fun K hK => ?_) AllReadyH.nil)
        rw [if_pos (by rfl)]
        simp only [fsum]
        go_simp
        refine (bsum_any g mb _ _ _ _ _ _ K2.out SX.out UX.out E2.out.kt).mono ?_
        rintro r v3 ⟨rfl, hB3, hbel3⟩
        rw [show dg bL 0 (1 :: ((dat xs q) ++ D)) = nd (dat xs q) D from rfl]
        have E3 := hide (E2.out.bel K2.out hbel3)
        have X3 := hide (K2.out.blk hbel3 X2.out (by decide))
        have N3 := hide (K2.out.blk hbel3 N2.out (by decide))
        have BL3 := hide (BL2.out.trans hbel3)
        have K3 := hide hB3
        clear hB3 hbel3
        refine hK.out _ _ (HSS.out _ E3.out X3.out) (fun hHeld => ?_)
        clear hK K
        refine wpAnyH_ready (rs := [13]) (by kernel_rfl) (by simp) (AllReadyH.cons rfl (fun K hK => ?_) AllReadyH.nil)
        rw [if_pos (by rfl)]
        refine wp_storeG9 wD rfl rfl N3.out HML.out (One.u8 _) (by rw [u8s_length, zer_length]) ?_
        intro v4 hr4 hbt4
        have hB4 := K3.out.but N3.out (by decide) (by decide) hbt4
        have hS4 : v4.cell? ⟨g3, 0, none⟩ = some (fsum g) ∧ v4.cell? ⟨g5, 0, none⟩ = some (.func (.func 57) #[] #[.pointer (some ⟨g3, 0, none⟩), .pointer (some ⟨g4, 0, none⟩), .pointer (some ⟨g5, 0, none⟩)]) ∧ v4.rangeAt g13 0 (u8s (dat xs q)) := by
          have n3 : g3 ≠ g9 := by have := HE.out.sum.lt; have := HLZ.out; omega
          have n5 : g5 ≠ g9 := by have := HE.out.self.lt; have := HLZ.out; omega
          exact ⟨by rw [(E3.out.sum.but hbt4 n3).cell]; rfl, by rw [(E3.out.self.but hbt4 n5).cell]; rfl, (X3.out.but hbt4 H139.out).range 0 _ (by simp)⟩
        refine hK.out _ _ hS4 (fun hHeld => ?_)
        clear hK K
        simp only [Act.put]
        refine wpAnyH_done (by kernel_rfl) ?_ _
        refine NoPanic.normal ?_
        clear hHeld hS4 hu
        have K4 := hide hB4
        clear hB4
        go_wp2
        refine bodyPost_ret (results_wide rfl wD _ _ rfl hr4 HML.out) rfl ⟨by rw [HF.out], ?_, BL3.out.but' (n := 0) hbt4 HLZ.out⟩
        have hfin := K4.out
        rw [HSI.out]
        simpa using hfin

end Go.Proofs.YtconeobaohmbnaaDoor

/-
  rehashInclusion itself.
-/
namespace Go.Proofs.YtconeobaohmbnaaDoor
open Go.RowKit
set_option linter.unusedVariables false

theorem zF102 : Zeroed 102 [.nilFunc] := fun _ _ _ _ _ _ _ => by kernel_rfl
section
variable {dst : Option Tmp} {ty : TypeId} {pos : String} {aft : Array Edge} {gd : Option (Nat × Bool)} {ops : Array Oper} {rest : List Oper} {a : Act} {w : World} {Q : Exit → Act → World → Prop}
set_option maxRecDepth 100000 in
theorem step_boxF {T : TypeId} {x : Operand} {f : Fn} {p q : Array Value} (hw : Region.wanted ⟨dst, .box T x, ty, pos, aft, gd⟩ (yielded ops a.tmps) = true) (hx : a.eval x = .func f p q)
    (h : ∀ w1 g, Blk w1 g T [.func f p q] → w.heap.size ≤ g → Below w.heap.size w w1 → wpList Tryd.prog ops Q rest (a.put dst (.pointer (some ⟨g, 0, none⟩))) w1) :
    wpList Tryd.prog ops Q (⟨dst, .box T x, ty, pos, aft, gd⟩ :: rest) a w :=
  step_run hw (.pointer (some ⟨w.heap.size, 0, none⟩)) (w.alloc (.cells #[.func f p q] T)) (by simp [execOp, hx, Instr.box, newVar, newRow, Result.andThen, Value.cells]) (h _ _ (Blk.made w T [.func f p q]) (Nat.le_refl _) ((Below.refl _ _).alloc (Nat.le_refl _) _))
set_option maxRecDepth 100000 in
theorem step_boxS {T : TypeId} {x : Operand} {s : Option Addr} {l c : Nat} (hw : Region.wanted ⟨dst, .box T x, ty, pos, aft, gd⟩ (yielded ops a.tmps) = true) (hx : a.eval x = .slice s l c)
    (h : ∀ w1 g, Blk w1 g T [.slice s l c] → w.heap.size ≤ g → Below w.heap.size w w1 → wpList Tryd.prog ops Q rest (a.put dst (.pointer (some ⟨g, 0, none⟩))) w1) :
    wpList Tryd.prog ops Q (⟨dst, .box T x, ty, pos, aft, gd⟩ :: rest) a w :=
  step_run hw (.pointer (some ⟨w.heap.size, 0, none⟩)) (w.alloc (.cells #[.slice s l c] T)) (by simp [execOp, hx, Instr.box, newVar, newRow, Result.andThen, Value.cells]) (h _ _ (Blk.made w T [.slice s l c]) (Nat.le_refl _) ((Below.refl _ _).alloc (Nat.le_refl _) _))
set_option maxRecDepth 100000 in
theorem step_boxI {T : TypeId} {x : Operand} {k : IntKind} {n : Int} (hw : Region.wanted ⟨dst, .box T x, ty, pos, aft, gd⟩ (yielded ops a.tmps) = true) (hx : a.eval x = .int k n)
    (h : ∀ w1 g, Blk w1 g T [.int k n] → w.heap.size ≤ g → Below w.heap.size w w1 → wpList Tryd.prog ops Q rest (a.put dst (.pointer (some ⟨g, 0, none⟩))) w1) :
    wpList Tryd.prog ops Q (⟨dst, .box T x, ty, pos, aft, gd⟩ :: rest) a w :=
  step_run hw (.pointer (some ⟨w.heap.size, 0, none⟩)) (w.alloc (.cells #[.int k n] T)) (by simp [execOp, hx, Instr.box, newVar, newRow, Result.andThen, Value.cells]) (h _ _ (Blk.made w T [.int k n]) (Nat.le_refl _) ((Below.refl _ _).alloc (Nat.le_refl _) _))
end
set_option maxRecDepth 100000 in
set_option maxHeartbeats 1000000 in
theorem rinc_any (g mb : Nat) (ad : Option Addr) (ld cd : Nat) (data : List Int) (i n : Nat) (a : Option Addr) (l cap : Nat) (xs : List Int) (L : List (List Int)) (w : World) (hld : ld ≤ 140737488354304) (hi : i < n) (hn : n ≤ 281474976710656) (hl : l = (hvL i 0 n).length) (hd : Sl w ad ld cd data) (hs : Ds w a l cap xs) (hB : Bk w g mb L) (hk : KT w) :
    Calls Tryd.prog 33 #[fsum g, .slice ad ld cd, .int .i64 (i : Int), .int .i64 (n : Int), .slice a l cap] w
      fun r w' => (∃ v, r = .returned v) ∧ Bk w' g mb (L ++ (0 :: data) :: si (hvL i 0 n) xs (lf data) l) ∧ Bel g mb w w' := by
  have HD := hide hd
  have HS := hide hs
  have HB := hide hB
  have HK := hide hk
  have HL := hide hl
  have HDL := hide (show (u8s (fu (hvL i 0 n) xs (lf data) l)).length = 32 by rw [u8s_length]; exact fu_length (lf_length _) _)
  clear hd hs hB hk hl
  simp only [fsum]
  go_enter Tryd.func33, Tryd.ntmps33
  go_wp2_with (refine step_boxF rfl rfl ?_)
  intro w1 g3 hr1 hl1 hb1
  have G3 := hide hr1
  have B1 := hide hb1
  go_wp2_with (refine step_boxS rfl rfl ?_)
  intro w2 g4 hr2 hl2 hb2
  have G4 := hide hr2
  have G32 := hide (G3.out.on hb2)
  have B2 := hide (B1.out.trans (hb2.mono B1.out.size))
  go_wp2_with (refine step_alloc zD rfl ?_)
  intro w3 g10 hr3 hl3 hb3
  have G10 := hide hr3
  have G43 := hide (G4.out.on hb3)
  have G33 := hide (G32.out.on hb3)
  have B3 := hide (B2.out.trans (hb3.mono B2.out.size))
  have h10 : w.heap.size ≤ g10 := Nat.le_trans B2.out.size hl3
  clear hr1 hb1 hr2 hb2 hr3 hb3
  go_wp2_with (refine step_alloc zF102 rfl ?_)
  intro w4 g5 hr4 hl4 hb4
  have G5 := hide hr4
  have G104 := hide (G10.out.on hb4)
  have G44 := hide (G43.out.on hb4)
  have G34 := hide (G33.out.on hb4)
  have B4 := hide (B3.out.trans (hb4.mono B3.out.size))
  have n3 : g3 ≠ g5 := by have := G33.out.lt; omega
  have n4 : g4 ≠ g5 := by have := G43.out.lt; omega
  have n10 : g10 ≠ g5 := by have := G10.out.lt; omega
  have h5 : w.heap.size ≤ g5 := Nat.le_trans B3.out.size hl4
  have hc5 : w4.cell? ⟨g5, 0, none⟩ = some .nilFunc := by rw [G5.out.cell]; rfl
  have hf5 := G5.out.free 0
  have hg6 := G5.out.set 0 (.func (.func 57) #[] #[.pointer (some ⟨g3, 0, none⟩), .pointer (some ⟨g4, 0, none⟩), .pointer (some ⟨g5, 0, none⟩)])
  have hbut6 := But.setCell w4 g5 0 (.func (.func 57) #[] #[.pointer (some ⟨g3, 0, none⟩), .pointer (some ⟨g4, 0, none⟩), .pointer (some ⟨g5, 0, none⟩)])
  clear hr4 hb4 hl4 hl3 hl2 hl1
  go_wp2_with fail
  clear hc5 hf5
  generalize w4.setCell ⟨g5, 0, none⟩ (.func (.func 57) #[] #[.pointer (some ⟨g3, 0, none⟩), .pointer (some ⟨g4, 0, none⟩), .pointer (some ⟨g5, 0, none⟩)]) = z at hg6 hbut6 ⊢
  have BZ := hide (B4.out.trans (hbut6.below h5))
  have EZ : Hid (EI z g3 g4 g5 g ad ld cd data) := hide ⟨G34.out.but hbut6 n3, G44.out.but hbut6 n4, hg6, HD.out.below BZ.out, HK.out.below BZ.out HK.out.lt⟩
  have KZ := hide (HB.out.on BZ.out)
  have G10z := hide (G104.out.but hbut6 n10)
  clear hg6 hbut6 n3 n4 n10
  refine (rin_any g3 g4 g5 g mb i ad ld cd data hld n 0 n (i : Int) a l cap xs L _ (Nat.le_refl _) (Nat.zero_le _) (by omega) hn (by omega) HL.out (HS.out.below BZ.out) EZ.out KZ.out).mono ?_
  rintro r v1 ⟨rfl, hB1, hbel1⟩
  have G1 := hide (KZ.out.blk hbel1 G10z.out (by decide))
  have BL := hide ((Bel.of_below (g := g) (mb := mb) BZ.out).trans hbel1)
  have K1 := hide hB1
  clear hB1 hbel1
  go_wp2_with (refine step_storeA wD rfl rfl rfl G1.out HDL.out (One.u8 _) (by rw [u8s_length, zer_length]) ?_)
  intro v2 hr2 hbt2
  have K2 := hide (K1.out.but G1.out (by decide) (by decide) hbt2)
  go_wp2
  refine bodyPost_ret (results_wide rfl wD _ _ rfl hr2 HDL.out) rfl ⟨⟨_, rfl⟩, K2.out, BL.out.but' (n := 0) hbt2 h10⟩

end Go.Proofs.YtconeobaohmbnaaDoor

/-
  A region that draws: two things are held, each till the operation that turns it comes.
-/
namespace Go.Proofs.YtconeobaohmbnaaDoor
open Go.RowKit
set_option linter.unusedVariables false

section
variable {P : Program} {ops : Array Oper} {Q : Exit → Act → World → Prop} {md : Region.Mode} {S1 S2 : World → Prop} {q1 q2 : Nat}
/-- What is held. -/
def held2 (S1 S2 : World → Prop) (q1 q2 : Nat) (listed : Array Bool) (w : World) : Prop := (listed.getD q1 true = false → S1 w) ∧ (listed.getD q2 true = false → S2 w)
def wpAny2 (P : Program) (md : Region.Mode) (ops : Array Oper) (Q : Exit → Act → World → Prop) (S1 S2 : World → Prop) (q1 q2 : Nat) : Nat → Array Bool → Act → World → Prop
  | 0, listed, a, w => Region.ready md ops listed = [] ∧ Q .normal a w
  | fuel + 1, listed, a, w =>
    (Region.ready md ops listed = [] → Q .normal a w) ∧
    ∀ i ∈ Region.ready md ops listed, wpOp P ops Q i (fun a' w' => held2 S1 S2 q1 q2 (listed.setIfInBounds i true) w' ∧ wpAny2 P md ops Q S1 S2 q1 q2 fuel (listed.setIfInBounds i true) a' w') a w
theorem wpAny_of_2 : ∀ (fuel : Nat) (listed : Array Bool) (a : Act) (w : World), wpAny2 P md ops Q S1 S2 q1 q2 fuel listed a w → wpAny P md ops Q fuel listed a w
  | 0, _, _, _, h => h
  | fuel + 1, _, _, _, h => ⟨h.1, fun i hi => wpOp_mono (fun a' w' h' => wpAny_of_2 fuel _ a' w' h'.2) (h.2 i hi)⟩
theorem held2_set {i : Nat} (h1 : q1 ≠ i) (h2 : q2 ≠ i) (listed : Array Bool) (w : World) : held2 S1 S2 q1 q2 (listed.setIfInBounds i true) w ↔ held2 S1 S2 q1 q2 listed w := by
  unfold held2
  rw [getD_set_ne true (Ne.symm h1), getD_set_ne true (Ne.symm h2)]
theorem wpAny2_first {i q : Nat} {S : World → Prop} {oi : Oper} {v : Value} (hi : ops[i]? = some oi) (hqi : waits md ops q i = true) (h1 : q1 ≠ i) (h2 : q2 ≠ i) (hS : ∀ listed w, listed.getD q true = false → held2 S1 S2 q1 q2 listed w → S w)
    (hsel : ∀ (j : Nat) (o : Oper) cs b, ops[j]? = some o → o.op ≠ .select cs b) (hQ : ∀ c a w, Q (.panic c) (a.put oi.dst v) w → Q (.panic c) a w) :
    ∀ (fuel : Nat) (listed : Array Bool) (a : Act) (w : World),
      (∀ j oj, ops[j]? = some oj → j ≠ i → listed.getD j true = false → (∀ e ∈ oj.after, Region.binds md e = true → e.on ≠ i) → oi.apart ops oj = true) →
      i ∈ Region.ready md ops listed → listed.getD q true = false → YieldsIf P ops S oi v a → held2 S1 S2 q1 q2 listed w →
      wpAny2 P md ops Q S1 S2 q1 q2 fuel (listed.setIfInBounds i true) (a.put oi.dst v) w → wpAny2 P md ops Q S1 S2 q1 q2 (fuel + 1) listed a w := by
  intro fuel
  induction fuel with
  | zero =>
    intro listed a w _ hr hq hy hT H
    refine ⟨fun h => (by rw [h] at hr; cases hr), fun j hj => ?_⟩
    by_cases hji : j = i
    · subst hji; exact hy.wpOp hi (hS _ _ hq hT) ⟨(held2_set h1 h2 _ _).2 hT, H⟩
    · have := ready_mono hj hji
      rw [H.1] at this
      cases this
  | succ fuel ih =>
    intro listed a w hfree hr hq hy hT H
    refine ⟨fun h => (by rw [h] at hr; cases hr), fun j hj => ?_⟩
    by_cases hji : j = i
    · subst hji; exact hy.wpOp hi (hS _ _ hq hT) ⟨(held2_set h1 h2 _ _).2 hT, H⟩
    · have hh := H.2 j (ready_mono hj hji)
      obtain ⟨hjun, oj, hoj, hall⟩ := mem_ready.1 hj
      have hnot : ∀ e ∈ oj.after, Region.binds md e = true → e.on ≠ i := fun e he hb heq => by
        have h1 := hall e he hb
        have h0 := (mem_ready.1 hr).1
        rw [heq] at h1
        rcases Nat.lt_or_ge i listed.size with h' | h'
        · simp [h'] at h0 h1; rw [h0] at h1; cases h1
        · simp [Array.getElem?_eq_none h'] at h1
      have hjq : j ≠ q := by
        rintro rfl
        unfold waits at hqi
        rw [hoj] at hqi
        simp only [Array.any_eq_true', Bool.and_eq_true, beq_iff_eq] at hqi
        obtain ⟨e, he, hb, hon⟩ := hqi
        exact hnot e he hb hon
      have hp := wpOp_putIf hoj (hfree j oj hoj hji hjun hnot) (fun cs b => hsel i oi cs b hi) (fun cs b => hsel j oj cs b hoj) hQ hy hh
      have hfree' : ∀ k ok, ops[k]? = some ok → k ≠ i → (listed.setIfInBounds j true).getD k true = false →
          (∀ e ∈ ok.after, Region.binds md e = true → e.on ≠ i) → oi.apart ops ok = true := fun k ok hk hki hun hno => by
        refine hfree k ok hk hki ?_ hno
        by_cases hjk : j = k
        · subst hjk; exact hjun
        · rw [getD_set_ne true hjk] at hun; exact hun
      have hq' : (listed.setIfInBounds j true).getD q true = false := by rw [getD_set_ne true hjq]; exact hq
      refine wpOp_mono (fun a' w' h3 => ?_) hp
      have hT' : held2 S1 S2 q1 q2 (listed.setIfInBounds j true) w' := by
        have := h3.2.1
        rw [← Array.setIfInBounds_comm _ _ hji] at this
        exact (held2_set h1 h2 _ _).1 this
      refine ⟨hT', ih (listed.setIfInBounds j true) a' w' hfree' (ready_mono hr (Ne.symm hji)) hq' h3.1 hT' ?_⟩
      rw [Array.setIfInBounds_comm _ _ hji]
      exact h3.2.2
theorem take21 (i : Nat) (t : Tmp) (v : Value) {oi : Oper} {fuel : Nat} {listed : Array Bool} {a : Act} {w : World} (hS : S1 w ∧ S2 w) (hi : ops[i]? = some oi) (hd : oi.dst = some t) (hqi : waits md ops q1 i = true) (hq1 : (q1 != i) = true) (hq2 : (q2 != i) = true) (hq : listed.getD q1 true = false)
    (hs : Region.noSelect ops = true) (hf : Region.free md ops listed i = true) (hr : (Region.ready md ops listed).contains i = true)
    (hQ : ∀ c a w, Q (.panic c) (a.put oi.dst v) w → Q (.panic c) a w) (hy : YieldsIf P ops S1 oi v a)
    (h : wpAny2 P md ops Q S1 S2 q1 q2 fuel (listed.setIfInBounds i true) (a.put (some t) v) w) : wpAny2 P md ops Q S1 S2 q1 q2 (fuel + 1) listed a w :=
  wpAny2_first hi hqi (by simpa using hq1) (by simpa using hq2) (fun _ _ hl ht => ht.1 hl) (Region.noSelect_spec hs) hQ fuel listed a w (Region.free_spec hi hf) (by simpa using hr) hq hy ⟨fun _ => hS.1, fun _ => hS.2⟩ (by rw [hd]; exact h)
theorem take22 (i : Nat) (t : Tmp) (v : Value) {oi : Oper} {fuel : Nat} {listed : Array Bool} {a : Act} {w : World} (hS : S1 w ∧ S2 w) (hi : ops[i]? = some oi) (hd : oi.dst = some t) (hqi : waits md ops q2 i = true) (hq1 : (q1 != i) = true) (hq2 : (q2 != i) = true) (hq : listed.getD q2 true = false)
    (hs : Region.noSelect ops = true) (hf : Region.free md ops listed i = true) (hr : (Region.ready md ops listed).contains i = true)
    (hQ : ∀ c a w, Q (.panic c) (a.put oi.dst v) w → Q (.panic c) a w) (hy : YieldsIf P ops S2 oi v a)
    (h : wpAny2 P md ops Q S1 S2 q1 q2 fuel (listed.setIfInBounds i true) (a.put (some t) v) w) : wpAny2 P md ops Q S1 S2 q1 q2 (fuel + 1) listed a w :=
  wpAny2_first hi hqi (by simpa using hq1) (by simpa using hq2) (fun _ _ hl ht => ht.2 hl) (Region.noSelect_spec hs) hQ fuel listed a w (Region.free_spec hi hf) (by simpa using hr) hq hy ⟨fun _ => hS.1, fun _ => hS.2⟩ (by rw [hd]; exact h)
def AllReady2 (P : Program) (md : Region.Mode) (ops : Array Oper) (Q : Exit → Act → World → Prop) (S1 S2 : World → Prop) (q1 q2 : Nat) (fuel : Nat) (listed : Array Bool) (a : Act) (w : World) (rs : List Nat) : Prop :=
  ∀ i ∈ rs, wpOp P ops Q i (fun a' w' => held2 S1 S2 q1 q2 (listed.setIfInBounds i true) w' ∧ wpAny2 P md ops Q S1 S2 q1 q2 fuel (listed.setIfInBounds i true) a' w') a w
theorem AllReady2.nil {fuel : Nat} {listed : Array Bool} {a : Act} {w : World} : AllReady2 P md ops Q S1 S2 q1 q2 fuel listed a w [] := fun _ h => by cases h
theorem AllReady2.cons {fuel : Nat} {listed : Array Bool} {a : Act} {w : World} {i : Nat} {o : Oper} {rs : List Nat} (ho : ops[i]? = some o)
    (h : ∀ K' : Act → World → Prop, Shut (∀ a w, held2 S1 S2 q1 q2 (listed.setIfInBounds i true) w → wpAny2 P md ops Q S1 S2 q1 q2 fuel (listed.setIfInBounds i true) a w → K' a w) → if Region.wanted o (yielded ops a.tmps) = true then Oper.wp P o a w K' Q else K' (a.put o.dst undef) w)
    (hs : AllReady2 P md ops Q S1 S2 q1 q2 fuel listed a w rs) : AllReady2 P md ops Q S1 S2 q1 q2 fuel listed a w (i :: rs) := fun j hj => by
  rcases List.mem_cons.1 hj with rfl | hj
  · exact wpOp_step ho (fun K' hK => h K' (fun a w hS hW => hK a w ⟨hS, hW⟩))
  · exact hs j hj
theorem wpAny2_ready {rs : List Nat} {fuel : Nat} {listed : Array Bool} {a : Act} {w : World} (hr : Region.ready md ops listed = rs) (hne : rs ≠ [])
    (h : AllReady2 P md ops Q S1 S2 q1 q2 fuel listed a w rs) : wpAny2 P md ops Q S1 S2 q1 q2 (fuel + 1) listed a w := ⟨fun h0 => absurd (hr ▸ h0) hne, hr ▸ h⟩
theorem wpAny2_done {listed : Array Bool} {a : Act} {w : World} (hr : Region.ready md ops listed = []) (h : Q .normal a w) :
    ∀ fuel, wpAny2 P md ops Q S1 S2 q1 q2 fuel listed a w
  | 0 => ⟨hr, h⟩
  | _ + 1 => ⟨fun _ => h, by rw [hr]; simp⟩
theorem wp_region_2 {id : Nat} {a : Act} {w : World} (hm : P.follows .mixedOrders = true)
    (h : wpAny2 P .any ops Q S1 S2 q1 q2 ops.size (Array.replicate ops.size false) a w.drew) : (Code.region id ops true).wp P Q a w :=
  wp_region_any hm (wpAny_of_2 _ _ _ _ h)
end

end Go.Proofs.YtconeobaohmbnaaDoor

/-
  A slice of one digest made; slices of digests of the call's own, once more; the document's path.
-/
namespace Go.Proofs.YtconeobaohmbnaaDoor
open Go.RowKit
set_option linter.unusedVariables false

theorem DOwn.base {w : World} {B B' : Nat} {v : Value} {n : Nat} {xs : List Int} (h : DOwn w B v n xs) (hB : B' ≤ B) : DOwn w B' v n xs := by
  obtain ⟨h1, h2⟩ := h
  refine ⟨h1, ?_⟩
  rcases h2 with h2 | ⟨g, cap, cur, e, hg, r⟩
  · exact .inl h2
  · exact .inr ⟨g, cap, cur, e, Nat.le_trans hB hg, r⟩
theorem splD_all (xs : List Int) (h : xs.length = 32) : spl (u8s (zer 32)) (u8s xs) 0 = u8s xs := by
  unfold spl
  rw [List.drop_of_length_le (by rw [u8s_length, u8s_length, zer_length]; omega)]
  simp
theorem build_D (ds : List Int) (hd : ds.length = 32) (w : World) :
    (Instr.buildSlice 24 1 #[(0, .agg (u8s ds).toArray)]).run Tryd.prog w = .ok (.slice (some ⟨w.heap.size, 0, none⟩) 1 1) (w.alloc (.cells (u8s ds).toArray 23)) := by
  obtain ⟨i0, hi, hz0, hz1, hz2⟩ := info_parts infoD
  refine run_buildSlice w 24 23 1 _ _ i0 _ undDl hi hz0 (by rw [hz1]; decide) (by rw [hz1]; decide) ?_
  rw [hz1]
  have e0 : ((Array.range (1 * 32)).map ((Value.agg (u8s (zer 32)).toArray).cells[· % (Value.agg (u8s (zer 32)).toArray).cells.size]!)) = (u8s (zer 32)).toArray := by kernel_rfl
  rw [e0]
  show Instr.fill _ _ [(0, Value.agg (u8s ds).toArray)] = _
  rw [fill_cons (place := fun i => some (i * 32, 32)) (off := 0) (size := 32) (vs := u8s ds) rfl rfl (by rw [u8s_length, hd]) (by rw [u8s_length, zer_length]; omega), fill_nil, splD_all ds hd]
section
variable {dst : Option Tmp} {ty : TypeId} {pos : String} {aft : Array Edge} {gd : Option (Nat × Bool)} {a : Act} {w : World} {K : Act → World → Prop} {Q : Exit → Act → World → Prop}
set_option maxRecDepth 100000 in
theorem wp_oneD {x : Operand} {ds : List Int} (hx : a.eval x = .agg (u8s ds).toArray) (hd : ds.length = 32) (hb : isB ds) (h : ∀ w1 g, Ds w1 (some ⟨g, 0, none⟩) 1 1 ds → Below w.heap.size w w1 → K (a.put dst (.slice (some ⟨g, 0, none⟩) 1 1)) w1) :
    Oper.wp Tryd.prog ⟨dst, .buildSlice 24 1 #[(0, x)], ty, pos, aft, gd⟩ a w K Q := by
  have hs := (Blk.made w 23 (u8s ds)).sl0 hb (by omega)
  rw [hd] at hs
  refine wp_runV (.slice (some ⟨w.heap.size, 0, none⟩) 1 1) (w.alloc (.cells (u8s ds).toArray 23)) ?_ (h _ _ ⟨Nat.le_refl _, by omega, (fun e => by cases e), hs⟩ ((Below.refl _ _).alloc (Nat.le_refl _) _))
  unfold execOp
  simp only [List.map_toArray, List.map_cons, List.map_nil, hx]
  simp only [Sem.run_bind, build_D ds hd, Result.andThen_ok, Sem.run_pure]
end

theorem wp_appendDG {dst : Option Tmp} {s x : Operand} {ty : TypeId} {pos : String} {aft : Array Edge} {gd : Option (Nat × Bool)} {K : Act → World → Prop} {a : Act} {w : World} {Q : Exit → Act → World → Prop}
    {B : Nat} {v : Value} {n : Nat} {xs : List Int} {sa : Option Addr} {m c : Nat} {ys : List Int}
    (hs : a.eval s = v) (hx : a.eval x = .slice sa m c) (hown : DOwn w B v n xs) (hy : Ds w sa m c ys) (hlen : n + m ≤ 4398046511104) (hB : B ≤ w.heap.size)
    (h : ∀ v' w', DOwn w' B v' (n + m) (xs ++ ys) → w.grownBy w' v.ownBlock → K (a.put dst v') w') :
    Oper.wp Tryd.prog ⟨dst, .call { callee := .builtin .append, args := #[s, x], argTypes := #[24, 24] }, ty, pos, aft, gd⟩ a w K Q :=
  wp_appendD rfl hs hx hown hy hlen hB h


end Go.Proofs.YtconeobaohmbnaaDoor

/-
  The program's halves of a span.
-/
namespace Go.Proofs.YtconeobaohmbnaaDoor
open Go.RowKit
set_option linter.unusedVariables false

/-- The cells of a span. -/
def spn (b e : Nat) : List Value := [.int .i64 (b : Int), .int .i64 (e : Int)]
theorem spn_one (b e : Nat) : One (spn b e) := by intro v hv; simp [spn] at hv; rcases hv with rfl | rfl <;> rfl
theorem two_one (x y : Int) : One [.int .i64 x, .int .i64 y] := by intro v hv; simp at hv; rcases hv with rfl | rfl <;> rfl
theorem zSp : Zeroed 69 (spn 0 0) := fun _ _ _ _ _ _ _ => by kernel_rfl

theorem split_int (N : Int) (n : Nat) (w : World) (hN : N = (n : Int)) (h2 : 2 ≤ n) (hn : n ≤ 9223372036854775807) : Calls Tryd.prog 37 #[.int .i64 N] w fun e w' => e = .returned (.tuple #[.int .i64 (hf n), .int .i64 0]) ∧ w' = w := by
  subst hN
  exact split_any n w h2 hn

theorem results_twoW {fn : Func} {p q : Tmp} {T U : TypeId} (h : fn.results = #[.cell p T, .cell q U]) {n m : Nat} (hT : Wide T n) (hU : Wide U m) (tmps : Array Value) (w : World)
    {g g' : Nat} {t t' : TypeId} {cs cs' : List Value} (hp : tmps.getD p undef = .pointer (some ⟨g, 0, none⟩)) (hq : tmps.getD q undef = .pointer (some ⟨g', 0, none⟩)) (hg : Blk w g t cs) (hg' : Blk w g' t' cs') (hl : cs.length = n) (hl' : cs'.length = m) :
    (results fn tmps).run Tryd.prog w = .ok (.tuple #[.agg cs.toArray, .agg cs'.toArray]) w := by
  have hp' : tmps[p]?.getD undef = .pointer (some ⟨g, 0, none⟩) := by simpa using hp
  have hq' : tmps[q]?.getD undef = .pointer (some ⟨g', 0, none⟩) := by simpa using hq
  obtain ⟨d, hu, hd⟩ := hT.und
  obtain ⟨d', hu', hd'⟩ := hU.und
  simp [results, h, hp', hq', asAddr, run_loadVar_mid w g 0 T cs d (hg.range 0 cs (by simp)) hu hd (by rw [hT.size, hl]), run_loadVar_mid w g' 0 U cs' d' (hg'.range 0 cs' (by simp)) hu' hd' (by rw [hU.size, hl'])]

set_option maxRecDepth 100000 in
set_option maxHeartbeats 2000000 in
theorem halves_any (b e i k : Nat) (I : Int) (w : World) (hI : I = (i : Int)) (h2 : 2 ≤ e - b) (hbe : b ≤ e) (he : e ≤ 4398046511104) (hk : hf (e - b) = k) (b1 e1 b2 e2 : Nat) (hr : (i < b + k ∧ b1 = b ∧ e1 = b + k ∧ b2 = b + k ∧ e2 = e) ∨ (b + k ≤ i ∧ b1 = b + k ∧ e1 = e ∧ b2 = b ∧ e2 = b + k)) :
    Calls Tryd.prog 40 #[.agg (spn b e).toArray, .int .i64 I] w fun r w' => r = .returned (.tuple #[.agg (spn b1 e1).toArray, .agg (spn b2 e2).toArray]) ∧ Below w.heap.size w w' := by
  subst hI
  have hbd := hf_bd (e - b) h2 (by omega)
  rw [hk] at hbd
  have HKE := hide hk
  clear hk
  have hsub : (e : Int) - (b : Int) = ((e - b : Nat) : Int) := by omega
  have HSUB := hide hsub
  clear hsub
  go_enter Tryd.func40, Tryd.ntmps40
  go_wp2_with (refine step_box (cs := spn b e) rfl rfl ?_)
  intro w1 g2 hr1 hl1 hb1
  have G2 := hide hr1
  clear hr1
  go_wp2_with (refine step_alloc zSp rfl ?_)
  intro w2 g4 hr2 hl2 hb2
  have G4 := hide hr2
  have G22 := hide (G2.out.below hb2 G2.out.lt)
  have B2 := hide (hb1.trans (hb2.mono hb1.size))
  have hw4 : w.heap.size ≤ g4 := Nat.le_trans hb1.size hl2
  clear hr2 G2 hb1 hb2 hl1
  go_wp2_with (refine step_alloc zSp rfl ?_)
  intro w3 g5 hr3 hl3 hb3
  have G5 := hide hr3
  have G43 := hide (G4.out.below hb3 G4.out.lt)
  have G23 := hide (G22.out.below hb3 G22.out.lt)
  have B3 := hide (B2.out.trans (hb3.mono B2.out.size))
  have hw5 : w.heap.size ≤ g5 := Nat.le_trans B2.out.size hl3
  have n45 : g4 ≠ g5 := by have := G4.out.lt; omega
  have hc0 : w3.cell? ⟨g2, 0, none⟩ = some (.int .i64 b) := by rw [G23.out.cell]; rfl
  have hc1 : w3.cell? ⟨g2, 1, none⟩ = some (.int .i64 e) := by rw [G23.out.cell]; rfl
  clear hr3 G4 G22 hb3 hl2 hl3 B2
  go_wp2_with fail
  refine (split_int _ (e - b) _ HSUB.out h2 (by omega)).mono ?_
  rintro r w4 ⟨rfl, rfl⟩
  rw [HKE.out]
  go_wp2_with (refine step_alloc zSp rfl ?_)
  intro w5 g8 hr5 hl5 hb5
  have G8 := hide hr5
  clear hr5
  go_wp2_with (refine step_storeA (vs := [.int .i64 (b : Int), .int .i64 ((b : Int) + (k : Int))]) wSp rfl rfl rfl G8.out rfl (two_one _ _) rfl ?_)
  intro w6 hg6 hbut6
  have n58 : g5 ≠ g8 := by have := G5.out.lt; omega
  have n48 : g4 ≠ g8 := by have := G43.out.lt; omega
  have B46 := hide (hb5.trans (hbut6.below hl5))
  have G86 := hide hg6
  have G56 := hide (G5.out.below B46.out G5.out.lt)
  have G46 := hide (G43.out.below B46.out G43.out.lt)
  have G26 := hide (G23.out.below B46.out G23.out.lt)
  have B6 := hide (B3.out.trans (B46.out.mono B3.out.size))
  have hc0 : w6.cell? ⟨g2, 0, none⟩ = some (.int .i64 b) := by rw [G26.out.cell]; rfl
  have hc1 : w6.cell? ⟨g2, 1, none⟩ = some (.int .i64 e) := by rw [G26.out.cell]; rfl
  clear hb5 hbut6 hg6 G8 G5 G43 G23 hl5 B3
  go_wp2_with (refine step_alloc zSp rfl ?_)
  intro w7 g9 hr7 hl7 hb7
  have G9 := hide hr7
  clear hr7
  go_wp2_with (refine step_storeA (vs := [.int .i64 ((b : Int) + (k : Int)), .int .i64 (e : Int)]) wSp rfl rfl rfl G9.out rfl (two_one _ _) rfl ?_)
  intro w8 hg8 hbut8
  have B68 := hide (hb7.trans (hbut8.below hl7))
  have G98 := hide hg8
  have G88 := hide (G86.out.below B68.out G86.out.lt)
  have G58 := hide (G56.out.below B68.out G56.out.lt)
  have G48 := hide (G46.out.below B68.out G46.out.lt)
  have B8 := hide (B6.out.trans (B68.out.mono B6.out.size))
  have hc9 : w8.cell? ⟨g9, 0, none⟩ = some (.int .i64 ((b : Int) + (k : Int))) := by rw [G98.out.cell]; rfl
  have n59 : g5 ≠ g9 := by have := G56.out.lt; omega
  have n49 : g4 ≠ g9 := by have := G46.out.lt; omega
  clear hb7 hbut8 hg8 G9 G86 G56 G46 G26 hl7 B6
  have hu := Tryd.underlying69
  have hSS : ∀ v : World, v.heap[g8]? = w8.heap[g8]? → v.heap[g9]? = w8.heap[g9]? → v.rangeAt g8 0 [.int .i64 (b : Int), .int .i64 ((b : Int) + (k : Int))] ∧ v.rangeAt g9 0 [.int .i64 ((b : Int) + (k : Int)), .int .i64 (e : Int)] := fun v h1 h2 =>
    ⟨(show Blk v g8 _ _ from h1.trans G88.out).range 0 _ (by simp), (show Blk v g9 _ _ from h2.trans G98.out).range 0 _ (by simp)⟩
  rcases hr with ⟨hlt, q1, q2, q3, q4⟩ | ⟨hle, q1, q2, q3, q4⟩
  · have hlt' : (i : Int) < (b : Int) + (k : Int) := by omega
    have EN : Hid (spn b1 e1 = [.int .i64 (b : Int), .int .i64 ((b : Int) + (k : Int))]) := hide (by subst q1 q2; rfl)
    have EF : Hid (spn b2 e2 = [.int .i64 ((b : Int) + (k : Int)), .int .i64 (e : Int)]) := hide (by subst q3 q4; rfl)
    clear q1 q2 q3 q4
    go_wp2_with fail
    refine wp_region_noPanic ?_
    refine wp_region_held_drew (S := fun v : World => v.rangeAt g8 0 [.int .i64 (b : Int), .int .i64 ((b : Int) + (k : Int))] ∧ v.rangeAt g9 0 [.int .i64 ((b : Int) + (k : Int)), .int .i64 (e : Int)]) (by kernel_rfl) (hSS _ rfl rfl) (fun hHeld => ?_)
    refine takeH 0 37 (.agg #[.int .i64 (b : Int), .int .i64 ((b : Int) + (k : Int))]) hHeld rfl rfl (by kernel_rfl) (by kernel_rfl) (by kernel_rfl) (fun _ _ _ h => h) (yieldsIf_load_mid (by rfl) _ _ rfl g8 0 rfl _ _ (fun w h => h.1) hu rfl wSp.size) ?_
    simp only [Act.put, List.setIfInBounds_toArray, List.set_cons_zero, List.set_cons_succ]
    refine takeH 1 38 (.agg #[.int .i64 ((b : Int) + (k : Int)), .int .i64 (e : Int)]) hHeld rfl rfl (by kernel_rfl) (by kernel_rfl) (by kernel_rfl) (fun _ _ _ h => h) (yieldsIf_load_mid (by rfl) _ _ rfl g9 0 rfl _ _ (fun w h => h.2) hu rfl wSp.size) ?_
    simp only [Act.put, List.setIfInBounds_toArray, List.set_cons_zero, List.set_cons_succ]
    refine wpAnyH_ready (rs := [2]) (by kernel_rfl) (by simp) (AllReadyH.cons rfl (fun K hK => ?_) AllReadyH.nil)
    rw [if_pos (by rfl)]
    refine wp_storeW wSp rfl rfl rfl (G48.out.below ((Below.refl _ _).drew) G48.out.lt) rfl (two_one _ _) (by simp [spn]) ?_
    intro v5 hgs hbuts
    have hs8 : v5.heap[g8]? = w8.heap[g8]? := hbuts.block g8 n48.symm
    have hs9 : v5.heap[g9]? = w8.heap[g9]? := hbuts.block g9 n49.symm
    refine hK.out _ _ (hSS _ hs8 hs9) (fun hHeld => ?_)
    clear hK K
    simp only [Act.put]
    refine wpAnyH_ready (rs := [3]) (by kernel_rfl) (by simp) (AllReadyH.cons rfl (fun K hK => ?_) AllReadyH.nil)
    rw [if_pos (by rfl)]
    refine wp_storeW wSp rfl rfl rfl ((G58.out.below ((Below.refl _ _).drew) G58.out.lt).but hbuts n45.symm) rfl (two_one _ _) (by simp [spn]) ?_
    intro v6 hgt hbutt
    refine hK.out _ _ (hSS _ ((hbutt.block g8 n58.symm).trans hs8) ((hbutt.block g9 n59.symm).trans hs9)) (fun hHeld => ?_)
    clear hK K
    simp only [Act.put]
    refine wpAnyH_done (by kernel_rfl) ?_ _
    refine NoPanic.normal ?_
    clear hHeld
    have hgs' := hgs.but hbutt n45
    go_wp2
    refine bodyPost_ret (results_twoW rfl wSp wSp _ _ rfl rfl hgs' hgt rfl rfl) rfl ⟨by rw [EN.out, EF.out]; rfl, ?_⟩
    exact (((B8.out.drew).trans (hbuts.below hw4)).trans (hbutt.below hw5))
  · have hlt' : ¬ ((i : Int) < (b : Int) + (k : Int)) := by omega
    have EN : Hid (spn b1 e1 = [.int .i64 ((b : Int) + (k : Int)), .int .i64 (e : Int)]) := hide (by subst q1 q2; rfl)
    have EF : Hid (spn b2 e2 = [.int .i64 (b : Int), .int .i64 ((b : Int) + (k : Int))]) := hide (by subst q3 q4; rfl)
    clear q1 q2 q3 q4
    go_wp2_with fail
    refine wp_region_noPanic ?_
    refine wp_region_held_drew (S := fun v : World => v.rangeAt g8 0 [.int .i64 (b : Int), .int .i64 ((b : Int) + (k : Int))] ∧ v.rangeAt g9 0 [.int .i64 ((b : Int) + (k : Int)), .int .i64 (e : Int)]) (by kernel_rfl) (hSS _ rfl rfl) (fun hHeld => ?_)
    refine takeH 0 39 (.agg #[.int .i64 ((b : Int) + (k : Int)), .int .i64 (e : Int)]) hHeld rfl rfl (by kernel_rfl) (by kernel_rfl) (by kernel_rfl) (fun _ _ _ h => h) (yieldsIf_load_mid (by rfl) _ _ rfl g9 0 rfl _ _ (fun w h => h.2) hu rfl wSp.size) ?_
    simp only [Act.put, List.setIfInBounds_toArray, List.set_cons_zero, List.set_cons_succ]
    refine takeH 1 40 (.agg #[.int .i64 (b : Int), .int .i64 ((b : Int) + (k : Int))]) hHeld rfl rfl (by kernel_rfl) (by kernel_rfl) (by kernel_rfl) (fun _ _ _ h => h) (yieldsIf_load_mid (by rfl) _ _ rfl g8 0 rfl _ _ (fun w h => h.1) hu rfl wSp.size) ?_
    simp only [Act.put, List.setIfInBounds_toArray, List.set_cons_zero, List.set_cons_succ]
    refine wpAnyH_ready (rs := [2]) (by kernel_rfl) (by simp) (AllReadyH.cons rfl (fun K hK => ?_) AllReadyH.nil)
    rw [if_pos (by rfl)]
    refine wp_storeW wSp rfl rfl rfl (G48.out.below ((Below.refl _ _).drew) G48.out.lt) rfl (two_one _ _) (by simp [spn]) ?_
    intro v5 hgs hbuts
    have hs8 : v5.heap[g8]? = w8.heap[g8]? := hbuts.block g8 n48.symm
    have hs9 : v5.heap[g9]? = w8.heap[g9]? := hbuts.block g9 n49.symm
    refine hK.out _ _ (hSS _ hs8 hs9) (fun hHeld => ?_)
    clear hK K
    simp only [Act.put]
    refine wpAnyH_ready (rs := [3]) (by kernel_rfl) (by simp) (AllReadyH.cons rfl (fun K hK => ?_) AllReadyH.nil)
    rw [if_pos (by rfl)]
    refine wp_storeW wSp rfl rfl rfl ((G58.out.below ((Below.refl _ _).drew) G58.out.lt).but hbuts n45.symm) rfl (two_one _ _) (by simp [spn]) ?_
    intro v6 hgt hbutt
    refine hK.out _ _ (hSS _ ((hbutt.block g8 n58.symm).trans hs8) ((hbutt.block g9 n59.symm).trans hs9)) (fun hHeld => ?_)
    clear hK K
    simp only [Act.put]
    refine wpAnyH_done (by kernel_rfl) ?_ _
    refine NoPanic.normal ?_
    clear hHeld
    have hgs' := hgs.but hbutt n45
    go_wp2
    refine bodyPost_ret (results_twoW rfl wSp wSp _ _ rfl rfl hgs' hgt rfl rfl) rfl ⟨by rw [EN.out, EF.out]; rfl, ?_⟩
    exact (((B8.out.drew).trans (hbuts.below hw4)).trans (hbutt.below hw5))

end Go.Proofs.YtconeobaohmbnaaDoor

/-
  rehashConsistency: what checking a consistency hashes is hashed once more, by the book.
-/
namespace Go.Proofs.YtconeobaohmbnaaDoor
open Go.RowKit
set_option linter.unusedVariables false

/-- What the closure of rehashConsistency looks at. -/
structure EO (w : World) (gm gf gr gs g m : Nat) (first : List Int) : Prop where
  m : Blk w gm 3 [.int .i64 (m : Int)]
  first : Blk w gf 23 (u8s first)
  self : Blk w gr 98 [.func (.func 54) #[] #[.pointer (some ⟨gm, 0, none⟩), .pointer (some ⟨gf, 0, none⟩), .pointer (some ⟨gr, 0, none⟩), .pointer (some ⟨gs, 0, none⟩)]]
  sum : Blk w gs 59 [fsum g]
  kt : KT w
theorem EO.below {w w' : World} {gm gf gr gs g m : Nat} {first : List Int} (h : EO w gm gf gr gs g m first) (hb : Below w.heap.size w w') : EO w' gm gf gr gs g m first :=
  ⟨h.m.on hb, h.first.on hb, h.self.on hb, h.sum.on hb, h.kt.below hb h.kt.lt⟩
theorem EO.bel {w w' : World} {gm gf gr gs g m mb : Nat} {first : List Int} {L : List (List Int)} (h : EO w gm gf gr gs g m first) (hB : Bk w g mb L) (hb : Bel g mb w w') : EO w' gm gf gr gs g m first :=
  ⟨hB.blk hb h.m (by decide), hB.blk hb h.first (by decide), hB.blk hb h.self (by decide), hB.blk hb h.sum (by decide), hB.kt hb h.kt⟩
theorem results_dd {fn : Func} {p q : Tmp} {T U : TypeId} (h : fn.results = #[.cell p T, .cell q U]) {n m : Nat} (hT : Wide T n) (hU : Wide U m) (tmps : Array Value) (w : World)
    {g g' : Nat} {t t' : TypeId} {cs cs' : List Value} (hp : tmps.getD p undef = .pointer (some ⟨g, 0, none⟩)) (hq : tmps.getD q undef = .pointer (some ⟨g', 0, none⟩)) (hg : Blk w g t cs) (hg' : Blk w g' t' cs') (hl : cs.length = n) (hl' : cs'.length = m) :
    (results fn tmps).run Tryd.prog w = .ok (.tuple #[.agg cs.toArray, .agg cs'.toArray]) w := by
  have hp' : tmps[p]?.getD undef = .pointer (some ⟨g, 0, none⟩) := by simpa using hp
  have hq' : tmps[q]?.getD undef = .pointer (some ⟨g', 0, none⟩) := by simpa using hq
  obtain ⟨d, hu, hd⟩ := hT.und
  obtain ⟨d', hu', hd'⟩ := hU.und
  simp [results, h, hp', hq', asAddr, run_loadVar_mid w g 0 T cs d (hg.range 0 cs (by simp)) hu hd (by rw [hT.size, hl]), run_loadVar_mid w g' 0 U cs' d' (hg'.range 0 cs' (by simp)) hu' hd' (by rw [hU.size, hl'])]
theorem so_lo (A xs d : List Int) (t : Nat) : so (A ++ [0]) (xs.drop (32 * t)) d (A.length + 1) = so A ((xs.take (32 * (A.length + t))).drop (32 * t)) d A.length ++ [1 :: (fu A ((xs.take (32 * (A.length + t))).drop (32 * t)) d A.length ++ dat xs (A.length + t))] := by
  rw [rest_eq, so_snoc, if_neg (by decide), so_take A _ d A.length _ (Nat.le_refl _), fu_take A _ d A.length _ (Nat.le_refl _), dat_drop]
  rfl
theorem so_hi (A xs d : List Int) (t : Nat) : so (A ++ [1]) (xs.drop (32 * t)) d (A.length + 1) = so A ((xs.take (32 * (A.length + t))).drop (32 * t)) d A.length ++ [1 :: (dat xs (A.length + t) ++ fo A ((xs.take (32 * (A.length + t))).drop (32 * t)) d A.length), 1 :: (dat xs (A.length + t) ++ fu A ((xs.take (32 * (A.length + t))).drop (32 * t)) d A.length)] := by
  rw [rest_eq, so_snoc, if_pos rfl, so_take A _ d A.length _ (Nat.le_refl _), fu_take A _ d A.length _ (Nat.le_refl _), fo_take A _ d A.length _ (Nat.le_refl _), dat_drop]
  rfl

set_option maxRecDepth 100000 in
set_option maxHeartbeats 1000000 in
theorem ron_zero (gm gf gr gs g mb m b e : Nat) (hb0 : b = 0) (he0 : e = m) (first : List Int) (hfl : first.length = 32) (pv : Value) (L : List (List Int)) (w : World) (hE : EO w gm gf gr gs g m first) (hB : Bk w g mb L) :
    Calls Tryd.prog 54 #[.agg (spn b e).toArray, pv, .pointer (some ⟨gm, 0, none⟩), .pointer (some ⟨gf, 0, none⟩), .pointer (some ⟨gr, 0, none⟩), .pointer (some ⟨gs, 0, none⟩)] w
      fun r w' => r = .returned (.tuple #[.agg (u8s first).toArray, .agg (u8s first).toArray]) ∧ Bk w' g mb L ∧ Bel g mb w w' := by
  have HE := hide hE
  have HB := hide hB
  have HFL := hide (show (u8s first).length = 32 by rw [u8s_length, hfl])
  have HB0 := hide hb0
  have HE0 := hide he0
  clear hE hB hb0 he0
  go_enter Tryd.func54, Tryd.ntmps54
  go_wp2_with (refine step_box (cs := spn b e) rfl rfl ?_)
  intro w1 g6 hr1 hl1 hb1
  have B1 := hide hb1
  have G61 := hide hr1
  go_wp2_with (refine step_alloc zD rfl ?_)
  intro w2 g8 hr2 hl2 hb2
  have B2 := hide (B1.out.trans (hb2.mono B1.out.size))
  have G82 := hide hr2
  have G62 := hide (G61.out.on hb2)
  have h8 : w.heap.size ≤ g8 := Nat.le_trans B1.out.size hl2
  go_wp2_with (refine step_alloc zD rfl ?_)
  intro y g9 hr3 hl3 hb3
  have BY := hide (B2.out.trans (hb3.mono B2.out.size))
  have G9 := hide hr3
  have G8 := hide (G82.out.on hb3)
  have G6 := hide (G62.out.on hb3)
  have h9 : w.heap.size ≤ g9 := Nat.le_trans B2.out.size hl3
  have h89 : g8 ≠ g9 := by have := G82.out.lt; omega
  have EY := hide (HE.out.below BY.out)
  have KY := hide (HB.out.on BY.out)
  have HH8 := hide h8
  have HH9 := hide h9
  have H89 := hide h89
  clear hr1 hl1 hb1 hr2 hl2 hb2 hr3 hl3 hb3 B1 G61 B2 G82 G62 h8 h9 h89
  have cb : y.cell? ⟨g6, 0, none⟩ = some (.int .i64 (b : Int)) := by rw [G6.out.cell]; rfl
  have ce : y.cell? ⟨g6, 1, none⟩ = some (.int .i64 (e : Int)) := by rw [G6.out.cell]; rfl
  have cm : y.cell? ⟨gm, 0, none⟩ = some (.int .i64 (m : Int)) := by rw [EY.out.m.cell]; rfl
  have hbz : (b : Int) = 0 := by rw [HB0.out]; rfl
  have hem : (e : Int) = (m : Int) := by rw [HE0.out]
  go_wp2_with fail
  refine wp_region_noPanic ?_
  have Z0 := hide ((Below.refl y.heap.size y).drew)
  have hu := aD.und
  have HI1 : Hid ((Tryd.prog.info? 23).map (·.size) = some (u8s first).length) := hide (by rw [wD.size, HFL.out])
  have hlf : gf < w.heap.size := HE.out.first.lt
  refine wp_region_held_drew (S := fun v : World => v.rangeAt gf 0 (u8s first)) (by kernel_rfl) ((EY.out.below Z0.out).first.range 0 _ (by simp)) (fun hHeld => ?_)
  refine takeH 0 22 (.agg (u8s first).toArray) hHeld rfl rfl (by kernel_rfl) (by kernel_rfl) (by kernel_rfl) (fun _ _ _ h => h) (yieldsIf_load_mid (by rfl) _ _ rfl gf 0 rfl _ _ (fun v hv => hv) hu rfl HI1.out) ?_
  simp only [Act.put, List.setIfInBounds_toArray, List.set_cons_zero, List.set_cons_succ]
  refine takeH 1 23 (.agg (u8s first).toArray) hHeld rfl rfl (by kernel_rfl) (by kernel_rfl) (by kernel_rfl) (fun _ _ _ h => h) (yieldsIf_load_mid (by rfl) _ _ rfl gf 0 rfl _ _ (fun v hv => hv) hu rfl HI1.out) ?_
  simp only [Act.put, List.setIfInBounds_toArray, List.set_cons_zero, List.set_cons_succ]
  refine wpAnyH_ready (rs := [2]) (by kernel_rfl) (by simp) (AllReadyH.cons rfl (fun K hK => ?_) AllReadyH.nil)
  rw [if_pos (by rfl)]
  refine wp_storeG9 wD rfl rfl (G8.out.on Z0.out) HFL.out (One.u8 _) (by rw [u8s_length, zer_length]) ?_
  intro v1 hr1 hbt1
  have F1 := (EY.out.below Z0.out).first.but hbt1 (by have := HH8.out; omega)
  have K1 := hide ((KY.out.on Z0.out).but (G8.out.on Z0.out) (by decide) (by decide) hbt1)
  have N9 := (G9.out.on Z0.out).but hbt1 (Ne.symm H89.out)
  refine hK.out _ _ (F1.range 0 _ (by simp)) (fun hHeld => ?_)
  clear hK K
  simp only [Act.put]
  refine wpAnyH_ready (rs := [3]) (by kernel_rfl) (by simp) (AllReadyH.cons rfl (fun K hK => ?_) AllReadyH.nil)
  rw [if_pos (by rfl)]
  refine wp_storeG9 wD rfl rfl N9 HFL.out (One.u8 _) (by rw [u8s_length, zer_length]) ?_
  intro v2 hr2 hbt2
  have F2 := F1.but hbt2 (by have := HH9.out; omega)
  have K2 := hide (K1.out.but N9 (by decide) (by decide) hbt2)
  have R1 := hr1.but hbt2 H89.out
  have BL := hide (((((Bel.of_below (g := g) (mb := mb) BY.out).trans (Bel.of_below Z0.out))).but' (n := 0) hbt1 HH8.out).but' (n := 0) hbt2 HH9.out)
  refine hK.out _ _ (F2.range 0 _ (by simp)) (fun hHeld => ?_)
  clear hK K
  simp only [Act.put]
  refine wpAnyH_done (by kernel_rfl) ?_ _
  refine NoPanic.normal ?_
  clear hHeld hu
  go_wp2
  refine bodyPost_ret (results_dd rfl wD wD _ _ rfl rfl R1 hr2 HFL.out HFL.out) rfl ⟨rfl, K2.out, BL.out⟩
set_option maxRecDepth 100000 in
set_option maxHeartbeats 1000000 in
theorem ron_part (gm gf gr gs g mb m b e : Nat) (hb0 : 0 < b) (he0 : e = m) (first : List Int) (bb oo cap : Nat) (xs : List Int) (L : List (List Int)) (w : World) (hs : Ds w (some ⟨bb, oo, none⟩) 1 cap xs) (hE : EO w gm gf gr gs g m first) (hB : Bk w g mb L) :
    Calls Tryd.prog 54 #[.agg (spn b e).toArray, .slice (some ⟨bb, oo, none⟩) 1 cap, .pointer (some ⟨gm, 0, none⟩), .pointer (some ⟨gf, 0, none⟩), .pointer (some ⟨gr, 0, none⟩), .pointer (some ⟨gs, 0, none⟩)] w
      fun r w' => r = .returned (.tuple #[.agg (u8s (dat xs 0)).toArray, .agg (u8s (dat xs 0)).toArray]) ∧ Bk w' g mb L ∧ Bel g mb w w' := by
  have HE := hide hE
  have HB := hide hB
  have HS := hide hs
  have HFL := hide (show (u8s (dat xs 0)).length = 32 by rw [u8s_length]; exact dat_length hs.hlen (by omega))
  have HE0 := hide he0
  clear hE hB hs he0
  go_enter Tryd.func54, Tryd.ntmps54
  go_wp2_with (refine step_box (cs := spn b e) rfl rfl ?_)
  intro w1 g6 hr1 hl1 hb1
  have B1 := hide hb1
  have G61 := hide hr1
  go_wp2_with (refine step_alloc zD rfl ?_)
  intro w2 g8 hr2 hl2 hb2
  have B2 := hide (B1.out.trans (hb2.mono B1.out.size))
  have G82 := hide hr2
  have G62 := hide (G61.out.on hb2)
  have h8 : w.heap.size ≤ g8 := Nat.le_trans B1.out.size hl2
  go_wp2_with (refine step_alloc zD rfl ?_)
  intro y g9 hr3 hl3 hb3
  have BY := hide (B2.out.trans (hb3.mono B2.out.size))
  have G9 := hide hr3
  have G8 := hide (G82.out.on hb3)
  have G6 := hide (G62.out.on hb3)
  have h9 : w.heap.size ≤ g9 := Nat.le_trans B2.out.size hl3
  have h89 : g8 ≠ g9 := by have := G82.out.lt; omega
  have EY := hide (HE.out.below BY.out)
  have KY := hide (HB.out.on BY.out)
  have HH8 := hide h8
  have HH9 := hide h9
  have H89 := hide h89
  clear hr1 hl1 hb1 hr2 hl2 hb2 hr3 hl3 hb3 B1 G61 B2 G82 G62 h8 h9 h89
  have cb : y.cell? ⟨g6, 0, none⟩ = some (.int .i64 (b : Int)) := by rw [G6.out.cell]; rfl
  have ce : y.cell? ⟨g6, 1, none⟩ = some (.int .i64 (e : Int)) := by rw [G6.out.cell]; rfl
  have cm : y.cell? ⟨gm, 0, none⟩ = some (.int .i64 (m : Int)) := by rw [EY.out.m.cell]; rfl
  have hbz : ¬ ((b : Int) = 0) := by omega
  have hem : (e : Int) = (m : Int) := by rw [HE0.out]
  go_wp2_with fail
  refine wp_region_noPanic ?_
  have Z0 := hide ((Below.refl y.heap.size y).drew)
  have hu := aD.und
  have HI1 : Hid ((Tryd.prog.info? 23).map (·.size) = some (u8s (dat xs 0)).length) := hide (by rw [wD.size, HFL.out])
  have HR : Hid (∀ v, Below w.heap.size w v → v.rangeAt bb (oo + 32 * 0) (u8s (dat xs 0))) := hide (fun v hv => (HS.out.below hv).range 0 (by omega))
  refine wp_region_held_drew (S := fun v : World => v.rangeAt bb (oo + 32 * 0) (u8s (dat xs 0))) (by kernel_rfl) (HR.out _ (BY.out.trans (Z0.out.mono BY.out.size))) (fun hHeld => ?_)
  refine takeH 0 24 (.slice (some ⟨bb, oo, none⟩) 1 cap) hHeld rfl rfl (by kernel_rfl) (by kernel_rfl) (by kernel_rfl) (fun _ _ _ h => h) (Or.inl ⟨by rfl, fun w _ => by go_simp⟩) ?_
  simp only [Act.put, List.setIfInBounds_toArray, List.set_cons_zero, List.set_cons_succ]
  refine takeH 1 25 (.pointer (some ⟨bb, oo + 32 * 0, none⟩)) hHeld rfl rfl (by kernel_rfl) (by kernel_rfl) (by kernel_rfl) (fun _ _ _ h => h) (Or.inl ⟨by rfl, fun w _ => run_op rfl (d_at bb oo 1 cap 0 0 rfl (by omega) w)⟩) ?_
  simp only [Act.put, List.setIfInBounds_toArray, List.set_cons_zero, List.set_cons_succ]
  refine takeH 2 26 (.agg (u8s (dat xs 0)).toArray) hHeld rfl rfl (by kernel_rfl) (by kernel_rfl) (by kernel_rfl) (fun _ _ _ h => h) (yieldsIf_load_mid (by rfl) _ _ rfl bb (oo + 32 * 0) rfl _ _ (fun v hv => hv) hu rfl HI1.out) ?_
  simp only [Act.put, List.setIfInBounds_toArray, List.set_cons_zero, List.set_cons_succ]
  refine takeH 3 27 (.slice (some ⟨bb, oo, none⟩) 1 cap) hHeld rfl rfl (by kernel_rfl) (by kernel_rfl) (by kernel_rfl) (fun _ _ _ h => h) (Or.inl ⟨by rfl, fun w _ => by go_simp⟩) ?_
  simp only [Act.put, List.setIfInBounds_toArray, List.set_cons_zero, List.set_cons_succ]
  refine takeH 4 28 (.pointer (some ⟨bb, oo + 32 * 0, none⟩)) hHeld rfl rfl (by kernel_rfl) (by kernel_rfl) (by kernel_rfl) (fun _ _ _ h => h) (Or.inl ⟨by rfl, fun w _ => run_op rfl (d_at bb oo 1 cap 0 0 rfl (by omega) w)⟩) ?_
  simp only [Act.put, List.setIfInBounds_toArray, List.set_cons_zero, List.set_cons_succ]
  refine takeH 5 29 (.agg (u8s (dat xs 0)).toArray) hHeld rfl rfl (by kernel_rfl) (by kernel_rfl) (by kernel_rfl) (fun _ _ _ h => h) (yieldsIf_load_mid (by rfl) _ _ rfl bb (oo + 32 * 0) rfl _ _ (fun v hv => hv) hu rfl HI1.out) ?_
  simp only [Act.put, List.setIfInBounds_toArray, List.set_cons_zero, List.set_cons_succ]
  refine wpAnyH_ready (rs := [6]) (by kernel_rfl) (by simp) (AllReadyH.cons rfl (fun K hK => ?_) AllReadyH.nil)
  rw [if_pos (by rfl)]
  refine wp_storeG9 wD rfl rfl (G8.out.on Z0.out) HFL.out (One.u8 _) (by rw [u8s_length, zer_length]) ?_
  intro v1 hr1 hbt1
  have BW1 := (BY.out.trans (Z0.out.mono BY.out.size)).trans (hbt1.below HH8.out)
  have K1 := hide ((KY.out.on Z0.out).but (G8.out.on Z0.out) (by decide) (by decide) hbt1)
  have N9 := (G9.out.on Z0.out).but hbt1 (Ne.symm H89.out)
  refine hK.out _ _ (HR.out _ BW1) (fun hHeld => ?_)
  clear hK K
  simp only [Act.put]
  refine wpAnyH_ready (rs := [7]) (by kernel_rfl) (by simp) (AllReadyH.cons rfl (fun K hK => ?_) AllReadyH.nil)
  rw [if_pos (by rfl)]
  refine wp_storeG9 wD rfl rfl N9 HFL.out (One.u8 _) (by rw [u8s_length, zer_length]) ?_
  intro v2 hr2 hbt2
  have BW2 := BW1.trans (hbt2.below HH9.out)
  have K2 := hide (K1.out.but N9 (by decide) (by decide) hbt2)
  have R1 := hr1.but hbt2 H89.out
  have BL := hide (((((Bel.of_below (g := g) (mb := mb) BY.out).trans (Bel.of_below Z0.out))).but' (n := 0) hbt1 HH8.out).but' (n := 0) hbt2 HH9.out)
  refine hK.out _ _ (HR.out _ BW2) (fun hHeld => ?_)
  clear hK K
  simp only [Act.put]
  refine wpAnyH_done (by kernel_rfl) ?_ _
  refine NoPanic.normal ?_
  clear hHeld hu
  go_wp2
  refine bodyPost_ret (results_dd rfl wD wD _ _ rfl rfl R1 hr2 HFL.out HFL.out) rfl ⟨rfl, K2.out, BL.out⟩

end Go.Proofs.YtconeobaohmbnaaDoor
