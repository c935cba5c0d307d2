/-
  Texts one behind the other: Qg Qp Ou Qn FrC EaLaw.
-/
import Derived.Test.YtconeobaohmbnaaDoorNw
import Derived.Test.YtconeobaohmbnaaDoorMe
import Derived.Lib.AppendZeros
import Derived.Test.YtconeobaohmbnaaDoorMc
import Derived.Test.YtconeobaohmbnaaDoorPkA
import Derived.Test.YtconeobaohmbnaaDoorFrD
import Derived.Deep.Strs

/-
  slices.Grow and slices.Concat over bytes; the bytes of leaves' and nodes' digests.
-/
namespace Go.Proofs.YtconeobaohmbnaaDoor
open Go.RowKit
set_option linter.unusedVariables false

theorem undIq : Tryd.prog.underlying 3 = some (.int .i64) := by kernel_rfl
theorem sizeBq (w : World) : (sizeOf 5).run Tryd.prog w = .ok 1 w := by kernel_rfl
theorem und22q : Tryd.prog.underlying 25 = some (.slice (Tryd.prog.elem 25)) := by kernel_rfl
theorem elem22q : Tryd.prog.elem 25 = 5 := by kernel_rfl
theorem und38q : Tryd.prog.underlying 38 = some (.slice (Tryd.prog.elem 38)) := by kernel_rfl
theorem elem38q : Tryd.prog.elem 38 = 25 := by kernel_rfl
theorem size25q (w : World) : (sizeOf 25).run Tryd.prog w = .ok 1 w := by kernel_rfl
theorem sl_toQ (g n cap k : Nat) (K : Int) (hK : K = (k : Int)) (hk : k ≤ cap) (v : World) :
    (Instr.slice 25 (.slice (some ⟨g, 0, none⟩) n cap) none (some (.int .i64 K)) none).run Tryd.prog v = .ok (.slice (some ⟨g, 0, none⟩) k cap) v := by
  subst hK
  rw [run_slice_h v _ _ _ _ und22q .i64 k (by omega) (by omega), elem22q, sizeBq]
  simp [sliced, Addr.add_lit]
theorem sl_nilQ (v : World) : (Instr.slice 25 (.slice none 0 0) none (some (.int .i64 0)) none).run Tryd.prog v = .ok (.slice none 0 0) v := by kernel_rfl
theorem idx38 (g n cap i : Nat) (I : Int) (hI : I = (i : Int)) (hi : i < n) (v : World) : (Instr.indexAt 38 (.slice (some ⟨g, 0, none⟩) n cap) (.int .i64 I)).run Tryd.prog v = .ok (.pointer (some ⟨g, i, none⟩)) v := by
  subst hI
  rw [run_indexAt_slice v _ _ _ _ .i64 i und38q, if_pos ⟨by omega, by omega⟩, elem38q, size25q]
  simp only [Result.andThen_ok, Int.toNat_natCast, Nat.mul_one]
  rw [Addr.add_lit, Nat.zero_add]

theorem Own.baseQ {w : World} {B B' : Nat} {v : Value} {xs : List Int} (h : Own w B v xs) (hB : B' ≤ B) : Own w B' v xs := by
  obtain ⟨h1, h2⟩ := h
  refine ⟨h1, ?_⟩
  rcases h2 with h2 | ⟨g, cap, cur, e, hg, r⟩
  · exact .inl h2
  · exact .inr ⟨g, cap, cur, e, Nat.le_trans hB hg, r⟩
/-- append(nil, make([]byte, n)...) -/
theorem zeros_own (n : Nat) (ty : TypeId) (w : World) (h0 : 0 < n) (hl : n ≤ 140737488355328) :
    ∃ cap w', (Builtin.append_ #[25, 3] ty #[.slice none 0 0, .int .i64 (n : Int)]).run Tryd.prog w = .ok (.slice (some ⟨w.heap.size, 0, none⟩) n cap) w' ∧ Own w' w.heap.size (.slice (some ⟨w.heap.size, 0, none⟩) 0 cap) [] ∧ Below w.heap.size w w' := by
  obtain ⟨i0, hi, hz0, hz1, hz2⟩ := info_parts infoB
  have hr := Lib.run_append_nil_zeros (P := Tryd.prog) w 25 3 ty 5 i0 (.int .u8 0) .i64 .i64 undBs undIq hi hz0 n h0 (by omega) (by omega) (by rw [hz2]; omega)
  have hge := grownCap_ge w n 0 5
  have hcm := grownCap_le_maxLen w n 0 5 (by unfold maxLen; omega)
  refine ⟨_, _, hr, ⟨by simp [u8s], .inr ⟨w.heap.size, _, _, rfl, Nat.le_refl _, heap_alloc_new w.drew _, Nat.zero_le _, hcm, ?_, by simp [u8s]⟩⟩, ?_⟩
  · simp only [Array.size_append, size_zeroCells]
    have e : (Value.int IntKind.u8 0).cells.size = 1 := rfl
    rw [e]
    omega
  · exact (below_drew (Below.refl _ _)).alloc (Nat.le_refl _) _

section
variable {dst : Option Tmp} {ty : TypeId} {pos : String} {aft : Array Edge} {gd : Option (Nat × Bool)} {ops : Array Oper} {rest : List Oper} {a : Act} {w : World} {Q : Exit → Act → World → Prop}
theorem step_zeros {s x : Operand} (n : Nat) (h0 : 0 < n) (hl : n ≤ 140737488355328)
    (hw : Region.wanted ⟨dst, .call { callee := .builtin .append, args := #[s, x], argTypes := #[25, 3] }, ty, pos, aft, gd⟩ (yielded ops a.tmps) = true)
    (hs : a.eval s = .slice none 0 0) (hx : a.eval x = .int .i64 (n : Int))
    (h : ∀ g cap w', Own w' w.heap.size (.slice (some ⟨g, 0, none⟩) 0 cap) [] → Below w.heap.size w w' → wpList Tryd.prog ops Q rest (a.put dst (.slice (some ⟨g, 0, none⟩) n cap)) w') :
    wpList Tryd.prog ops Q (⟨dst, .call { callee := .builtin .append, args := #[s, x], argTypes := #[25, 3] }, ty, pos, aft, gd⟩ :: rest) a w := by
  obtain ⟨cap, w', hr, h1, h2⟩ := zeros_own n ty w h0 hl
  exact BigFrame.wpList_want hw fun K hK => Lib.wp_append_run w s x _ _ rfl _ _ hs hx _ _ hr (hK _ _ (h _ _ _ h1 h2))
end

set_option maxRecDepth 100000 in
set_option maxHeartbeats 1000000 in
theorem grow_any (n : Nat) (w : World) (hn : n ≤ 140737488355328) : Calls Tryd.prog 105 #[.slice none 0 0, .int .i64 (n : Int)] w fun r w' => ∃ v, r = .returned v ∧ Own w' w.heap.size v [] ∧ Below w.heap.size w w' := by
  have h1 : ¬ ((n : Int) < 0) := by omega
  go_enter Tryd.func105, Tryd.ntmps105
  by_cases h0 : 0 < n
  · have h2 : 0 < (n : Int) := by omega
    have hnil := sl_nilQ
    go_wp2_with (refine step_zeros n h0 hn rfl rfl rfl ?_)
    intro g cap w1 ho hb
    have hto := sl_toQ g n cap 0 0 rfl (Nat.zero_le _)
    go_wp2
    go_ret
    exact ⟨_, rfl, ho, hb⟩
  · obtain rfl : n = 0 := by omega
    go_wp2
    go_ret
    exact ⟨_, rfl, Own.nil _ _, Below.refl _ _⟩

/-- The first k of them, one behind the other. -/
def fl (ps : List (List Int)) (k : Nat) : List Int := (ps.take k).flatten
theorem fl_succ (ps : List (List Int)) (k : Nat) (h : k < ps.length) : fl ps (k + 1) = fl ps k ++ ps.getD k [] := by
  unfold fl
  have e : ps.take (k + 1) = ps.take k ++ [ps.getD k []] := by
    rw [List.take_add_one, List.getElem?_eq_getElem h]
    simp [List.getD, List.getElem?_eq_getElem h]
  rw [e, List.flatten_append]
  simp only [List.flatten_cons, List.flatten_nil, List.append_nil]
theorem fl_le (ps : List (List Int)) : ∀ (n k : Nat), k ≤ n → (fl ps k).length ≤ (fl ps n).length := by
  intro n k h
  unfold fl
  have e : ps.take n = ps.take k ++ (ps.take n).drop k := by
    have e1 := List.take_append_drop k (ps.take n)
    rw [List.take_take, Nat.min_eq_left h] at e1
    exact e1.symm
  rw [e, List.flatten_append, List.length_append]
  omega
/-- Slices of bytes, one behind the other in memory. -/
structure SS (w : World) (g : Nat) (ss : List (Option Addr × Nat × Nat)) (ps : List (List Int)) : Prop where
  blk : Blk w g 25 (ss.map fun s => Value.slice s.1 s.2.1 s.2.2)
  len : ss.length = ps.length
  sl : ∀ i, i < ps.length → Sl w (ss.getD i (none, 0, 0)).1 (ss.getD i (none, 0, 0)).2.1 (ss.getD i (none, 0, 0)).2.2 (ps.getD i [])
theorem SS.below {w w' : World} {g : Nat} {ss : List (Option Addr × Nat × Nat)} {ps : List (List Int)} (h : SS w g ss ps) (hb : Below w.heap.size w w') : SS w' g ss ps := ⟨h.blk.on hb, h.len, fun i hi => (h.sl i hi).below hb⟩
theorem SS.at {w : World} {g : Nat} {ss : List (Option Addr × Nat × Nat)} {ps : List (List Int)} (h : SS w g ss ps) (i : Nat) (hi : i < ps.length) :
    ∃ a l c, w.cell? ⟨g, i, none⟩ = some (.slice a l c) ∧ Sl w a l c (ps.getD i []) := by
  refine ⟨_, _, _, ?_, h.sl i hi⟩
  rw [h.blk.cell, List.getElem?_map, List.getElem?_eq_getElem (by rw [h.len]; exact hi)]
  simp [List.getD, List.getElem?_eq_getElem (show i < ss.length by rw [h.len]; exact hi)]

set_option maxRecDepth 100000 in
set_option maxHeartbeats 1000000 in
theorem concat_any (g n : Nat) (ss : List (Option Addr × Nat × Nat)) (ps : List (List Int)) (w : World) (hs : SS w g ss ps) (hn : ps.length = n) (hn' : n ≤ 16) (htot : (fl ps n).length ≤ 140737488355328) :
    Calls Tryd.prog 82 #[.slice (some ⟨g, 0, none⟩) n n] w fun r w' => ∃ v, r = .returned v ∧ Own w' w.heap.size v (fl ps n) ∧ Below w.heap.size w w' := by
  have HS := hide hs
  have HN := hide hn
  have HT := hide htot
  clear hs hn htot
  go_enter Tryd.func82, Tryd.ntmps82
  go_wp2
  go_loopw [3, 11] (fun z i wr => ∃ k s : Nat, k ≤ n ∧ i = .int .i64 k ∧ z = .int .i64 (s : Int) ∧ Hid (s = (fl ps k).length) ∧ Below w.heap.size w wr) (fun _ i _ => n - (intOf i).toNat)
  case atStart => exact ⟨0, 0, by omega, rfl, rfl, hide rfl, Below.refl _ _⟩
  case round =>
    obtain ⟨k, s, hk, rfl, rfl, HK, hb⟩ := hrel
    have HB := hide hb
    clear hb
    by_cases hlt : k < n
    · have hlt' : (k : Int) < (n : Int) := by omega
      obtain ⟨a, l, c, hc, hsl⟩ := (HS.out.below HB.out).at k (by rw [HN.out]; exact hlt)
      have HSL := hide hsl
      have HE : Hid ((fl ps (k + 1)).length = s + l) := hide (by rw [fl_succ ps k (by rw [HN.out]; exact hlt), List.length_append, HSL.out.hlen, HK.out])
      have hle : s + l ≤ 140737488355328 := by
        have := fl_le ps n (k + 1) (by omega)
        have := HT.out
        have := HE.out
        omega
      have hix := idx38 g n n k (k : Int) rfl hlt
      have hneg : ¬ ((s : Int) + (l : Int) < 0) := by omega
      clear hsl
      go_wp2
      exact ⟨⟨k + 1, s + l, by omega, by go_num, by go_num, hide HE.out.symm, HB.out⟩, by simp [intOf]; omega⟩
    · obtain rfl : k = n := by omega
      have hlt' : ¬ ((k : Int) < (k : Int)) := by omega
      have hsz : s ≤ 140737488355328 := by have := HT.out; have := HK.out; omega
      go_wp2_with fail
      refine (grow_any s _ hsz).mono ?_
      rintro r w1 ⟨v0, rfl, ho, hb1⟩
      have B1 := hide (HB.out.trans (hb1.mono HB.out.size))
      have HO := hide (ho.baseQ HB.out.size)
      clear ho hb1
      go_wp2
      go_loopw [6, 27] (fun v i wr => ∃ j : Nat, j ≤ k ∧ i = .int .i64 j ∧ Own wr w.heap.size v (fl ps j) ∧ Below w.heap.size w wr) (fun _ i _ => k - (intOf i).toNat)
      case atStart => exact ⟨0, by omega, rfl, HO.out, B1.out⟩
      case round =>
        obtain ⟨j, hj, rfl, hov, hb⟩ := hrel
        have HB2 := hide hb
        have HOV := hide hov
        clear hb hov
        by_cases hlt2 : j < k
        · have hlt2' : (j : Int) < (k : Int) := by omega
          obtain ⟨a, l, c, hc, hsl⟩ := (HS.out.below HB2.out).at j (by rw [HN.out]; exact hlt2)
          have HSL := hide hsl
          have hix := idx38 g k k j (j : Int) rfl hlt2
          have HE : Hid (fl ps (j + 1) = fl ps j ++ ps.getD j []) := hide (fl_succ ps j (by rw [HN.out]; exact hlt2))
          have HL : Hid ((fl ps j).length + l ≤ 140737488355328) := hide (by
            have h1 := fl_le ps k (j + 1) (by omega)
            rw [HE.out, List.length_append, HSL.out.hlen] at h1
            have := HT.out
            omega)
          clear hsl
          go_wp2_with (refine step_append rfl rfl rfl HOV.out HSL.out HL.out HB2.out.size ?_)
          intro v2 w2 ho2 hg2 _
          have B2 := hide (HB2.out.grown hg2 HB2.out.size HOV.out.lt)
          have HO2 := hide ho2
          clear ho2 hg2
          go_wp2
          refine ⟨⟨j + 1, by omega, by go_num, ?_, B2.out⟩, by simp [intOf]; omega⟩
          rw [HE.out]
          exact HO2.out
        · obtain rfl : j = k := by omega
          have hlt2' : ¬ ((j : Int) < (j : Int)) := by omega
          go_wp2
          go_ret
          exact ⟨_, rfl, HOV.out, HB2.out⟩

end Go.Proofs.YtconeobaohmbnaaDoor

/-
  The bytes of leaves' and nodes' digests: LeafPreimage, Preimage.
-/
namespace Go.Proofs.YtconeobaohmbnaaDoor
open Go.RowKit
set_option linter.unusedVariables false

theorem build_1q (q : Int) (w : World) : (Instr.buildSlice 25 1 #[(0, .int .u8 q)]).run Tryd.prog w = .ok (.slice (some ⟨w.heap.size, 0, none⟩) 1 1) (w.alloc (.cells #[.int .u8 q] 5)) := by kernel_rfl
theorem build_2q (a b : Option Addr) (l c m d : Nat) (w : World) : (Instr.buildSlice 38 2 #[(0, .slice a l c), (1, .slice b m d)]).run Tryd.prog w = .ok (.slice (some ⟨w.heap.size, 0, none⟩) 2 2) (w.alloc (.cells #[.slice a l c, .slice b m d] 25)) := by kernel_rfl
theorem build_3q (a b e : Option Addr) (l c m d n f : Nat) (w : World) : (Instr.buildSlice 38 3 #[(0, .slice a l c), (1, .slice b m d), (2, .slice e n f)]).run Tryd.prog w = .ok (.slice (some ⟨w.heap.size, 0, none⟩) 3 3) (w.alloc (.cells #[.slice a l c, .slice b m d, .slice e n f] 25)) := by kernel_rfl
theorem slice_Dq (g : Nat) (v : World) : (Instr.sliceAt 23 (.pointer (some ⟨g, 0, none⟩)) none none none).run Tryd.prog v = .ok (.slice (some ⟨g, 0, none⟩) 32 32) v := by kernel_rfl
theorem Blk.slQ {w : World} {g : Nat} {t : TypeId} {xs : List Int} (h : Blk w g t (u8s xs)) (hb : isB xs) (hl : xs.length ≤ 140737488355328) : Sl w (some ⟨g, 0, none⟩) xs.length xs.length xs := by
  refine ⟨rfl, Nat.le_refl _, by omega, hl, hb, (fun e => by cases e), fun _ => ⟨g, 0, rfl, fun i hi => ?_⟩⟩
  rw [Nat.zero_add, h.cell]
  exact u8s_get xs i hi
theorem one_slQ (w : World) (x : Int) (hx : 0 ≤ x ∧ x ≤ 255) : Sl (w.alloc (.cells #[.int .u8 x] 5)) (some ⟨w.heap.size, 0, none⟩) 1 1 [x] := by
  have := (Blk.made w 5 (u8s [x])).slQ (by intro y hy; simp at hy; omega) (by simp)
  exact this
section
variable {dst : Option Tmp} {ty : TypeId} {pos : String} {aft : Array Edge} {gd : Option (Nat × Bool)} {ops : Array Oper} {rest : List Oper} {a : Act} {w : World} {K : Act → World → Prop} {Q : Exit → Act → World → Prop}
set_option maxRecDepth 100000 in
theorem wp_1q {x : Operand} {q : Int} (hq : 0 ≤ q ∧ q ≤ 255) (hx : a.eval x = .int .u8 q) (h : ∀ w1 g, Sl w1 (some ⟨g, 0, none⟩) 1 1 [q] → Below w.heap.size w w1 → K (a.put dst (.slice (some ⟨g, 0, none⟩) 1 1)) w1) :
    Oper.wp Tryd.prog ⟨dst, .buildSlice 25 1 #[(0, x)], ty, pos, aft, gd⟩ a w K Q := by
  refine wp_runV (.slice (some ⟨w.heap.size, 0, none⟩) 1 1) (w.alloc (.cells #[.int .u8 q] 5)) ?_ (h _ _ (one_slQ w q hq) ((Below.refl _ _).alloc (Nat.le_refl _) _))
  unfold execOp
  simp only [List.map_toArray, List.map_cons, List.map_nil, hx]
  simp only [Sem.run_bind, build_1q, Result.andThen_ok, Sem.run_pure]
set_option maxRecDepth 100000 in
theorem wp_2q {x y : Operand} {p q : Option Addr} {l c m d : Nat} (hx : a.eval x = .slice p l c) (hy : a.eval y = .slice q m d) (h : ∀ w1 g, Blk w1 g 25 [.slice p l c, .slice q m d] → Below w.heap.size w w1 → K (a.put dst (.slice (some ⟨g, 0, none⟩) 2 2)) w1) :
    Oper.wp Tryd.prog ⟨dst, .buildSlice 38 2 #[(0, x), (1, y)], ty, pos, aft, gd⟩ a w K Q := by
  refine wp_runV (.slice (some ⟨w.heap.size, 0, none⟩) 2 2) (w.alloc (.cells #[.slice p l c, .slice q m d] 25)) ?_ (h _ _ (Blk.made w _ [.slice p l c, .slice q m d]) ((Below.refl _ _).alloc (Nat.le_refl _) _))
  unfold execOp
  simp only [List.map_toArray, List.map_cons, List.map_nil, hx, hy]
  simp only [Sem.run_bind, build_2q, Result.andThen_ok, Sem.run_pure]
set_option maxRecDepth 100000 in
theorem wp_3q {x y z : Operand} {p q r : Option Addr} {l c m d n f : Nat} (hx : a.eval x = .slice p l c) (hy : a.eval y = .slice q m d) (hz : a.eval z = .slice r n f) (h : ∀ w1 g, Blk w1 g 25 [.slice p l c, .slice q m d, .slice r n f] → Below w.heap.size w w1 → K (a.put dst (.slice (some ⟨g, 0, none⟩) 3 3)) w1) :
    Oper.wp Tryd.prog ⟨dst, .buildSlice 38 3 #[(0, x), (1, y), (2, z)], ty, pos, aft, gd⟩ a w K Q := by
  refine wp_runV (.slice (some ⟨w.heap.size, 0, none⟩) 3 3) (w.alloc (.cells #[.slice p l c, .slice q m d, .slice r n f] 25)) ?_ (h _ _ (Blk.made w _ [.slice p l c, .slice q m d, .slice r n f]) ((Below.refl _ _).alloc (Nat.le_refl _) _))
  unfold execOp
  simp only [List.map_toArray, List.map_cons, List.map_nil, hx, hy, hz]
  simp only [Sem.run_bind, build_3q, Result.andThen_ok, Sem.run_pure]
set_option maxRecDepth 100000 in
theorem step_1q {x : Operand} {q : Int} (hq : 0 ≤ q ∧ q ≤ 255) (hw : Region.wanted ⟨dst, .buildSlice 25 1 #[(0, x)], ty, pos, aft, gd⟩ (yielded ops a.tmps) = true) (hx : a.eval x = .int .u8 q)
    (h : ∀ w1 g, Sl w1 (some ⟨g, 0, none⟩) 1 1 [q] → Below w.heap.size w w1 → wpList Tryd.prog ops Q rest (a.put dst (.slice (some ⟨g, 0, none⟩) 1 1)) w1) :
    wpList Tryd.prog ops Q (⟨dst, .buildSlice 25 1 #[(0, x)], ty, pos, aft, gd⟩ :: rest) a w :=
  BigFrame.wpList_want hw fun K hK => wp_1q hq hx fun w1 g h1 h2 => hK _ _ (h w1 g h1 h2)
set_option maxRecDepth 100000 in
theorem step_2q {x y : Operand} {p q : Option Addr} {l c m d : Nat} (hw : Region.wanted ⟨dst, .buildSlice 38 2 #[(0, x), (1, y)], ty, pos, aft, gd⟩ (yielded ops a.tmps) = true) (hx : a.eval x = .slice p l c) (hy : a.eval y = .slice q m d)
    (h : ∀ w1 g, Blk w1 g 25 [.slice p l c, .slice q m d] → Below w.heap.size w w1 → wpList Tryd.prog ops Q rest (a.put dst (.slice (some ⟨g, 0, none⟩) 2 2)) w1) :
    wpList Tryd.prog ops Q (⟨dst, .buildSlice 38 2 #[(0, x), (1, y)], ty, pos, aft, gd⟩ :: rest) a w :=
  BigFrame.wpList_want hw fun K hK => wp_2q hx hy fun w1 g h1 h2 => hK _ _ (h w1 g h1 h2)
end
theorem Own.placeQ {w : World} {B : Nat} {v : Value} {xs : List Int} (h : Own w B v xs) (h0 : 0 < xs.length) : ∃ g cap, v = .slice (some ⟨g, 0, none⟩) xs.length cap ∧ B ≤ g := by
  rcases h.2 with ⟨rfl, e⟩ | ⟨g, cap, cur, rfl, hB, _⟩
  · omega
  · exact ⟨g, cap, rfl, hB⟩
/-- A new slice that holds these bytes. -/
def New (w w' : World) (v : Value) (xs : List Int) : Prop := ∃ g cap, v = .slice (some ⟨g, 0, none⟩) xs.length cap ∧ w.heap.size ≤ g ∧ Own w' w.heap.size v xs
theorem New.sl {w w' : World} {v : Value} {xs : List Int} (h : New w w' v xs) (hb : isB xs) (hl : xs.length ≤ 140737488355328) : ∃ g cap, v = .slice (some ⟨g, 0, none⟩) xs.length cap ∧ w.heap.size ≤ g ∧ Sl w' (some ⟨g, 0, none⟩) xs.length cap xs := by
  obtain ⟨g, cap, rfl, hg, ho⟩ := h
  obtain ⟨a, c, e, hs⟩ := ho.sl' hb hl
  cases e
  exact ⟨g, cap, rfl, hg, hs⟩

set_option maxRecDepth 100000 in
set_option maxHeartbeats 1000000 in
theorem leafPre_any (a : Option Addr) (l c : Nat) (xs : List Int) (w : World) (hs : Sl w a l c xs) (hl : l ≤ 140737488355327) :
    Calls Tryd.prog 58 #[.slice a l c] w fun r w' => ∃ v, r = .returned v ∧ New w w' v (0 :: xs) ∧ Below w.heap.size w w' := by
  have HS := hide hs
  clear hs
  go_enter Tryd.func58, Tryd.ntmps58
  go_wp2_with (refine step_1q (q := 0) (by omega) rfl rfl ?_)
  intro w1 g1 h1 hb1
  go_wp2_with (refine step_2q rfl rfl rfl ?_)
  intro w2 g2 h2 hb2
  have HSS : Hid (SS w2 g2 [(some ⟨g1, 0, none⟩, 1, 1), (a, l, c)] [[0], xs]) := hide ⟨h2, rfl, fun i hi => by
    match i, hi with
    | 0, _ => exact h1.below hb2
    | 1, _ => exact (HS.out.below hb1).below hb2
    | i + 2, hi => exact absurd hi (by simp)⟩
  have HFL : Hid (fl [[0], xs] 2 = 0 :: xs) := hide (by simp [fl])
  have HB := hide (hb1.trans (hb2.mono hb1.size))
  clear h1 hb1 h2 hb2
  go_wp2_with fail
  refine (concat_any g2 2 _ _ _ HSS.out rfl (by omega) (by rw [HFL.out, List.length_cons, HS.out.hlen]; omega)).mono ?_
  rintro r w3 ⟨v, rfl, ho, hb3⟩
  rw [HFL.out] at ho
  have HO := hide (ho.baseQ HB.out.size)
  have HB3 := hide (HB.out.trans (hb3.mono HB.out.size))
  clear ho hb3
  go_wp2
  go_ret
  obtain ⟨g, cap, e, hg⟩ := HO.out.placeQ (by simp)
  exact ⟨v, rfl, ⟨g, cap, e, hg, HO.out⟩, HB3.out⟩

set_option maxRecDepth 100000 in
set_option maxHeartbeats 1000000 in
theorem pre_any (l r : List Int) (w : World) (hl : l.length = 32) (hr : r.length = 32) (hlb : isB l) (hrb : isB r) :
    Calls Tryd.prog 56 #[.agg (u8s l).toArray, .agg (u8s r).toArray] w fun e w' => ∃ v, e = .returned v ∧ New w w' v (1 :: (l ++ r)) ∧ Below w.heap.size w w' := by
  have HL := hide hl
  have HR := hide hr
  have HLB := hide hlb
  have HRB := hide hrb
  have HFL : Hid (fl [[1], l, r] 3 = 1 :: (l ++ r)) := hide (by simp [fl])
  have H65 : Hid ((1 :: (l ++ r)).length = 65) := hide (by simp [hl, hr])
  clear hl hr hlb hrb
  go_enter Tryd.func56, Tryd.ntmps56
  go_wp2_with (refine step_box rfl rfl ?_)
  intro w1 g2 hr1 hl1 hb1
  have G2 := hide hr1
  clear hr1
  go_wp2_with (refine step_box rfl rfl ?_)
  intro w2 g3 hr2 hl2 hb2
  have SR := hide (hr2.slQ HRB.out (by rw [HR.out]; omega))
  have SL := hide ((G2.out.below hb2 G2.out.lt).slQ HLB.out (by rw [HL.out]; omega))
  rw [HL.out] at SL
  rw [HR.out] at SR
  have B2 := hide (hb1.trans (hb2.mono hb1.size))
  clear hr2 hb1 hb2 G2 hl1 hl2
  go_wp2_with fail
  refine wp_region_noPanic ?_
  have B0 := hide ((Below.refl w2.heap.size w2).drew)
  refine wp_region_held_drew (S := fun v : World => True) (by kernel_rfl) trivial (fun hHeld => ?_)
  refine takeH 1 6 (.slice (some ⟨g2, 0, none⟩) 32 32) hHeld rfl rfl (by kernel_rfl) (by kernel_rfl) (by kernel_rfl) (fun _ _ _ h => h) (Or.inl ⟨by rfl, fun w _ => run_op rfl (slice_Dq g2 w)⟩) ?_
  simp only [Act.put, List.setIfInBounds_toArray, List.set_cons_zero, List.set_cons_succ]
  refine takeH 2 7 (.slice (some ⟨g3, 0, none⟩) 32 32) hHeld rfl rfl (by kernel_rfl) (by kernel_rfl) (by kernel_rfl) (fun _ _ _ h => h) (Or.inl ⟨by rfl, fun w _ => run_op rfl (slice_Dq g3 w)⟩) ?_
  simp only [Act.put, List.setIfInBounds_toArray, List.set_cons_zero, List.set_cons_succ]
  refine wpAnyH_ready (rs := [0]) (by kernel_rfl) (by simp) (AllReadyH.cons rfl (fun K hK => ?_) AllReadyH.nil)
  rw [if_pos (by rfl)]
  refine wp_1q (q := 1) (by omega) rfl ?_
  intro v1 g5 h1 hb1
  have B1 := hide (B0.out.trans (hb1.mono B0.out.size))
  refine hK.out _ _ (trivial) (fun hHeld => ?_)
  clear hK K
  simp only [Act.put]
  refine wpAnyH_ready (rs := [3]) (by kernel_rfl) (by simp) (AllReadyH.cons rfl (fun K hK => ?_) AllReadyH.nil)
  rw [if_pos (by rfl)]
  refine wp_3q rfl rfl rfl ?_
  intro v2 g8 h2 hb2
  have B3 := hide (B1.out.trans (hb2.mono B1.out.size))
  have HSS : Hid (SS v2 g8 [(some ⟨g5, 0, none⟩, 1, 1), (some ⟨g2, 0, none⟩, 32, 32), (some ⟨g3, 0, none⟩, 32, 32)] [[1], l, r]) := hide ⟨h2, rfl, fun i hi => by
    match i, hi with
    | 0, _ => exact h1.below hb2
    | 1, _ => exact SL.out.below B3.out
    | 2, _ => exact SR.out.below B3.out
    | i + 3, hi => exact absurd hi (by simp)⟩
  clear h1 hb1 h2 hb2
  refine hK.out _ _ (trivial) (fun hHeld => ?_)
  clear hK K
  simp only [Act.put]
  refine wpAnyH_ready (rs := [4]) (by kernel_rfl) (by simp) (AllReadyH.cons rfl (fun K hK => ?_) AllReadyH.nil)
  rw [if_pos (by rfl)]
  go_simp
  refine (concat_any g8 3 _ _ _ HSS.out rfl (by omega) (by rw [HFL.out, H65.out]; omega)).mono ?_
  rintro e v3 ⟨v, rfl, ho, hb3⟩
  rw [HFL.out] at ho
  have HO := hide (ho.baseQ (Nat.le_trans B2.out.size B3.out.size))
  have HB3 := hide ((B2.out.trans (B3.out.mono B2.out.size)).trans (hb3.mono (Nat.le_trans B2.out.size B3.out.size)))
  clear ho hb3
  refine hK.out _ _ (trivial) (fun hHeld => ?_)
  clear hK K
  refine takeH 5 4 v hHeld rfl rfl (by kernel_rfl) (by kernel_rfl) (by kernel_rfl) (fun _ _ _ h => h) (Or.inl ⟨by rfl, fun w _ => by go_simp⟩) ?_
  simp only [Act.put, List.setIfInBounds_toArray, List.set_cons_zero, List.set_cons_succ]
  refine wpAnyH_done (by kernel_rfl) ?_ _
  refine NoPanic.normal ?_
  clear hHeld
  go_wp2
  go_ret
  obtain ⟨g, cap, e, hg⟩ := HO.out.placeQ (by simp)
  exact ⟨v, rfl, ⟨g, cap, e, hg, HO.out⟩, HB3.out⟩

end Go.Proofs.YtconeobaohmbnaaDoor

/-
  A region that draws: what is held only till a given operation comes (a store behind the loads that it turns).
-/
namespace Go.Proofs.YtconeobaohmbnaaDoor
open Go.RowKit
set_option linter.unusedVariables false

section
variable {P : Program} {ops : Array Oper} {Q : Exit → Act → World → Prop} {md : Region.Mode} {S : World → Prop}
/-- Whatever order is picked from here on; S holds behind each operation that comes ahead of q. -/
def wpAnyU (P : Program) (md : Region.Mode) (ops : Array Oper) (Q : Exit → Act → World → Prop) (S : World → Prop) (q : Nat) : Nat → Array Bool → Act → World → Prop
  | 0, listed, a, w => Region.ready md ops listed = [] ∧ Q .normal a w
  | fuel + 1, listed, a, w =>
    (Region.ready md ops listed = [] → Q .normal a w) ∧
    ∀ i ∈ Region.ready md ops listed, wpOp P ops Q i (fun a' w' => ((listed.setIfInBounds i true).getD q true = false → S w') ∧ wpAnyU P md ops Q S q fuel (listed.setIfInBounds i true) a' w') a w
theorem wpAny_of_U {q : Nat} : ∀ (fuel : Nat) (listed : Array Bool) (a : Act) (w : World), wpAnyU P md ops Q S q fuel listed a w → wpAny P md ops Q fuel listed a w
  | 0, _, _, _, h => h
  | fuel + 1, _, _, _, h => ⟨h.1, fun i hi => wpOp_mono (fun a' w' h' => wpAny_of_U fuel _ a' w' h'.2) (h.2 i hi)⟩
/-- q waits for i. -/
def waits (md : Region.Mode) (ops : Array Oper) (q i : Nat) : Bool := match ops[q]? with | some o => o.after.any fun e => Region.binds md e && e.on == i | none => false
theorem wpAnyU_first {i q : Nat} {oi : Oper} {v : Value} (hi : ops[i]? = some oi) (hqi : waits md ops q i = true) (hne : q ≠ i) (hsel : ∀ (j : Nat) (o : Oper) cs b, ops[j]? = some o → o.op ≠ .select cs b)
    (hQ : ∀ c a w, Q (.panic c) (a.put oi.dst v) w → Q (.panic c) a w) :
    ∀ (fuel : Nat) (listed : Array Bool) (a : Act) (w : World),
      (∀ j oj, ops[j]? = some oj → j ≠ i → listed.getD j true = false → (∀ e ∈ oj.after, Region.binds md e = true → e.on ≠ i) → oi.apart ops oj = true) →
      i ∈ Region.ready md ops listed → listed.getD q true = false → YieldsIf P ops S oi v a → S w →
      wpAnyU P md ops Q S q fuel (listed.setIfInBounds i true) (a.put oi.dst v) w → wpAnyU P md ops Q S q (fuel + 1) listed a w := by
  intro fuel
  induction fuel with
  | zero =>
    intro listed a w _ hr hq hy hS H
    refine ⟨fun h => (by rw [h] at hr; cases hr), fun j hj => ?_⟩
    by_cases hji : j = i
    · subst hji; exact hy.wpOp hi hS ⟨fun _ => hS, H⟩
    · have := ready_mono hj hji
      rw [H.1] at this
      cases this
  | succ fuel ih =>
    intro listed a w hfree hr hq hy hS H
    refine ⟨fun h => (by rw [h] at hr; cases hr), fun j hj => ?_⟩
    by_cases hji : j = i
    · subst hji; exact hy.wpOp hi hS ⟨fun _ => hS, H⟩
    · have h1 := H.2 j (ready_mono hj hji)
      obtain ⟨hjun, oj, hoj, hall⟩ := mem_ready.1 hj
      have hnot : ∀ e ∈ oj.after, Region.binds md e = true → e.on ≠ i := fun e he hb heq => by
        have h1 := hall e he hb
        have h0 := (mem_ready.1 hr).1
        rw [heq] at h1
        rcases Nat.lt_or_ge i listed.size with h' | h'
        · simp [h'] at h0 h1; rw [h0] at h1; cases h1
        · simp [Array.getElem?_eq_none h'] at h1
      have hjq : j ≠ q := by
        rintro rfl
        unfold waits at hqi
        rw [hoj] at hqi
        simp only [Array.any_eq_true', Bool.and_eq_true, beq_iff_eq] at hqi
        obtain ⟨e, he, hb, hon⟩ := hqi
        exact hnot e he hb hon
      have h2 := wpOp_putIf hoj (hfree j oj hoj hji hjun hnot) (fun cs b => hsel i oi cs b hi) (fun cs b => hsel j oj cs b hoj) hQ hy h1
      have hfree' : ∀ k ok, ops[k]? = some ok → k ≠ i → (listed.setIfInBounds j true).getD k true = false →
          (∀ e ∈ ok.after, Region.binds md e = true → e.on ≠ i) → oi.apart ops ok = true := fun k ok hk hki hun hno => by
        refine hfree k ok hk hki ?_ hno
        by_cases hjk : j = k
        · subst hjk; exact hjun
        · rw [getD_set_ne true hjk] at hun; exact hun
      have hq' : (listed.setIfInBounds j true).getD q true = false := by rw [getD_set_ne true hjq]; exact hq
      have hq2 : ((listed.setIfInBounds i true).setIfInBounds j true).getD q true = false := by rw [getD_set_ne true hjq, getD_set_ne true (Ne.symm hne)]; exact hq
      refine wpOp_mono (fun a' w' h3 => ⟨fun _ => h3.2.1 hq2, ih (listed.setIfInBounds j true) a' w' hfree' (ready_mono hr (Ne.symm hji)) hq' h3.1 (h3.2.1 hq2) ?_⟩) h2
      rw [Array.setIfInBounds_comm _ _ hji]
      exact h3.2.2
theorem takeU (q : Nat) (i : Nat) (t : Tmp) (v : Value) {oi : Oper} {fuel : Nat} {listed : Array Bool} {a : Act} {w : World} (hS : S w) (hi : ops[i]? = some oi) (hd : oi.dst = some t) (hqi : waits md ops q i = true) (hqe : (q != i) = true) (hq : listed.getD q true = false)
    (hs : Region.noSelect ops = true) (hf : Region.free md ops listed i = true) (hr : (Region.ready md ops listed).contains i = true)
    (hQ : ∀ c a w, Q (.panic c) (a.put oi.dst v) w → Q (.panic c) a w) (hy : YieldsIf P ops S oi v a)
    (h : wpAnyU P md ops Q S q fuel (listed.setIfInBounds i true) (a.put (some t) v) w) : wpAnyU P md ops Q S q (fuel + 1) listed a w :=
  wpAnyU_first hi hqi (by simpa using hqe) (Region.noSelect_spec hs) hQ fuel listed a w (Region.free_spec hi hf) (by simpa using hr) hq hy hS (by rw [hd]; exact h)
def AllReadyU (P : Program) (md : Region.Mode) (ops : Array Oper) (Q : Exit → Act → World → Prop) (S : World → Prop) (q : Nat) (fuel : Nat) (listed : Array Bool) (a : Act) (w : World) (rs : List Nat) : Prop :=
  ∀ i ∈ rs, wpOp P ops Q i (fun a' w' => ((listed.setIfInBounds i true).getD q true = false → S w') ∧ wpAnyU P md ops Q S q fuel (listed.setIfInBounds i true) a' w') a w
theorem AllReadyU.nil {q : Nat} {fuel : Nat} {listed : Array Bool} {a : Act} {w : World} : AllReadyU P md ops Q S q fuel listed a w [] := fun _ h => by cases h
theorem AllReadyU.cons {q : Nat} {fuel : Nat} {listed : Array Bool} {a : Act} {w : World} {i : Nat} {o : Oper} {rs : List Nat} (ho : ops[i]? = some o)
    (h : ∀ K' : Act → World → Prop, Shut (∀ a w, ((listed.setIfInBounds i true).getD q true = false → S w) → wpAnyU P md ops Q S q fuel (listed.setIfInBounds i true) a w → K' a w) → if Region.wanted o (yielded ops a.tmps) = true then Oper.wp P o a w K' Q else K' (a.put o.dst undef) w)
    (hs : AllReadyU P md ops Q S q fuel listed a w rs) : AllReadyU P md ops Q S q fuel listed a w (i :: rs) := fun j hj => by
  rcases List.mem_cons.1 hj with rfl | hj
  · exact wpOp_step ho (fun K' hK => h K' (fun a w hS hW => hK a w ⟨hS, hW⟩))
  · exact hs j hj
theorem wpAnyU_ready {q : Nat} {rs : List Nat} {fuel : Nat} {listed : Array Bool} {a : Act} {w : World} (hr : Region.ready md ops listed = rs) (hne : rs ≠ [])
    (h : AllReadyU P md ops Q S q fuel listed a w rs) : wpAnyU P md ops Q S q (fuel + 1) listed a w := ⟨fun h0 => absurd (hr ▸ h0) hne, hr ▸ h⟩
theorem wpAnyU_done {q : Nat} {listed : Array Bool} {a : Act} {w : World} (hr : Region.ready md ops listed = []) (h : Q .normal a w) :
    ∀ fuel, wpAnyU P md ops Q S q fuel listed a w
  | 0 => ⟨hr, h⟩
  | _ + 1 => ⟨fun _ => h, by rw [hr]; simp⟩
theorem wp_region_U {q : Nat} {id : Nat} {a : Act} {w : World} (hm : P.follows .mixedOrders = true)
    (h : wpAnyU P .any ops Q S q ops.size (Array.replicate ops.size false) a w.drew) : (Code.region id ops true).wp P Q a w :=
  wp_region_any hm (wpAny_of_U _ _ _ _ h)
end

end Go.Proofs.YtconeobaohmbnaaDoor

/-
  The law's lent: a claim in memory of its own.
-/
namespace Go.Proofs.YtconeobaohmbnaaDoor
open Go.RowKit
set_option linter.unusedVariables false

/-- append of something to an empty slice: all that is turned is new. -/
theorem run_appendE (w : World) (t ty e : TypeId) (i : TypeInfo) (z : Value) (size bytes : Nat) (ht : Tryd.prog.underlying t = some (.slice e)) (hi : Tryd.prog.info? e = some i) (hz : i.zero = some z)
    (hsize : i.size = size) (hby : i.bytes = bytes) (hzs : z.cells.size = size) (g : Nat) (ad : Addr) (m c : Nat) (news : List Value) (hl : news.length = m * size) (hnews : ∀ j u, news[j]? = some u → w.cell? (ad.add j) = some u)
    (h0 : 0 < m) (hb : m * bytes ≤ 140737488355328) (hm : m ≤ 140737488355328) :
    ∃ cap w', (Builtin.append_ #[t, t] ty #[.slice (some ⟨g, 0, none⟩) 0 0, .slice (some ad) m c]).run Tryd.prog w = .ok (.slice (some ⟨w.heap.size, 0, none⟩) m cap) w' ∧ w'.ownsRow w.heap.size e size (.slice (some ⟨w.heap.size, 0, none⟩) m cap) m news ∧ Below w.heap.size w w' := by
  subst hsize hby
  have hr := run_append_grow (P := Tryd.prog) w t ty e i z ht hi hz ⟨g, 0, none⟩ 0 0 [] (by simp) (by simp) ad m c news hl hnews (by omega) (by omega) (growslice_fits (by omega) (by simpa using hb))
  have hge := grownCap_ge w (0 + m) 0 e
  have hcm := grownCap_le_maxLen w (0 + m) 0 e (by unfold maxLen; omega)
  rw [Nat.zero_add] at hr hge hcm
  refine ⟨_, _, hr, ⟨hl, .inr ⟨w.heap.size, _, _, rfl, Nat.le_refl _, heap_alloc_new w.drew _, hge, hcm, ?_, ?_⟩⟩, (below_drew (Below.refl _ _)).alloc (Nat.le_refl _) _⟩
  · simp only [Array.size_append, size_zeroCells, hzs, List.size_toArray, hl, List.length_nil, Nat.zero_add, ← Nat.add_mul]
    rw [Nat.add_sub_of_le hge]
  · simp only [Array.toList_append, List.nil_append]
    rw [← hl]
    exact List.take_left
section
variable {dst : Option Tmp} {ty : TypeId} {pos : String} {aft : Array Edge} {gd : Option (Nat × Bool)} {ops : Array Oper} {rest : List Oper} {a : Act} {w : World} {K : Act → World → Prop} {Q : Exit → Act → World → Prop}
theorem wp_appendE {s x : Operand} {g : Nat} {sa : Option Addr} {m c : Nat} {ys : List Int} (hs : a.eval s = .slice (some ⟨g, 0, none⟩) 0 0) (hx : a.eval x = .slice sa m c) (hy : Sl w sa m c ys)
    (h : ∀ a' c' w', Sl w' a' m c' ys → (0 < m → ∃ b, a' = some ⟨b, 0, none⟩ ∧ w.heap.size ≤ b) → Below w.heap.size w w' → K (a.put dst (.slice a' m c')) w') :
    Oper.wp Tryd.prog ⟨dst, .call { callee := .builtin .append, args := #[s, x], argTypes := #[25, 25] }, ty, pos, aft, gd⟩ a w K Q := by
  obtain ⟨i0, hi, hz0, hz1, hz2⟩ := info_parts infoB
  have hre := hy.hreach
  by_cases h0 : 0 < m
  · obtain ⟨b, off, e, hc⟩ := hy.hcell h0
    subst e
    obtain ⟨cap, w', hr, ho, hb⟩ := run_appendE w 25 ty 5 i0 (.int .u8 0) 1 1 undBs hi hz0 hz1 hz2 rfl g ⟨b, off, none⟩ m c (u8s ys) (by simp [u8s_length, hy.hlen]) (fun j u hu => by
      have hj : j < m := by
        have := (List.getElem?_eq_some_iff.1 hu).1
        simpa [u8s_length, hy.hlen] using this
      rw [Addr.add_lit, hc j hj]
      rw [u8s_get ys j (by rw [hy.hlen]; exact hj)] at hu
      exact hu) h0 (by omega) hre
    have hO : Own w' w.heap.size (.slice (some ⟨w.heap.size, 0, none⟩) m cap) ys := by unfold Own; rw [hy.hlen]; exact ho
    obtain ⟨a2, c2, e2, hs2⟩ := hO.sl' hy.hbyte (by rw [hy.hlen]; exact hre)
    rw [hy.hlen] at e2 hs2
    cases e2
    exact Lib.wp_append_run w s x _ _ rfl _ _ hs hx _ _ hr (h _ _ _ hs2 (fun _ => ⟨_, rfl, Nat.le_refl _⟩) hb)
  · obtain rfl : m = 0 := by omega
    obtain rfl : ys = [] := List.eq_nil_of_length_eq_zero hy.hlen
    have hr : (Builtin.append_ #[25, 25] ty #[.slice (some ⟨g, 0, none⟩) 0 0, .slice sa 0 c]).run Tryd.prog w = .ok (.slice (some ⟨g, 0, none⟩) 0 0) w := by
      cases sa <;> simp [Builtin.append_, run_underlying undBs, sizeOf, typeInfo, hi, Builtin.lenOf, Builtin.firstCells, loadCells, loadCellsFrom, storeCells]
    exact Lib.wp_append_run w s x _ _ rfl _ _ hs hx _ _ hr (h _ _ _ ⟨rfl, Nat.le_refl _, by omega, by omega, by intro y hy; simp at hy, (fun e => by cases e), fun h => absurd h (by omega)⟩ (fun h => absurd h (by omega)) (Below.refl _ _))
theorem wp_appendED {s x : Operand} {g : Nat} {sa : Option Addr} {m c : Nat} {ys : List Int} (hs : a.eval s = .slice (some ⟨g, 0, none⟩) 0 0) (hx : a.eval x = .slice sa m c) (hy : Ds w sa m c ys)
    (h : ∀ a' c' w', Ds w' a' m c' ys → (0 < m → ∃ b, a' = some ⟨b, 0, none⟩ ∧ w.heap.size ≤ b) → Below w.heap.size w w' → K (a.put dst (.slice a' m c')) w') :
    Oper.wp Tryd.prog ⟨dst, .call { callee := .builtin .append, args := #[s, x], argTypes := #[24, 24] }, ty, pos, aft, gd⟩ a w K Q := by
  obtain ⟨i0, hi, hz0, hz1, hz2⟩ := info_parts infoD
  have hre := hy.hreach
  by_cases h0 : 0 < m
  · obtain ⟨b, off, e⟩ := hy.place h0
    subst e
    have hl := hy.hlen
    obtain ⟨b', off', e', hc⟩ := hy.sl.hcell (by omega)
    cases e'
    obtain ⟨cap, w', hr, ho, hb⟩ := run_appendE w 24 ty 23 i0 (.agg (u8s (zer 32)).toArray) 32 32 undDl hi hz0 hz1 hz2 rfl g ⟨b, off, none⟩ m c (u8s ys) (by rw [u8s_length, hl]; omega) (fun j u hu => by
      have hj : j < 32 * m := by
        have := (List.getElem?_eq_some_iff.1 hu).1
        rw [u8s_length, hl] at this
        exact this
      rw [Addr.add_lit, hc j hj]
      rw [u8s_get ys j (by rw [hl]; exact hj)] at hu
      exact hu) h0 (by omega) (by omega)
    have hO : DOwn w' w.heap.size (.slice (some ⟨w.heap.size, 0, none⟩) m cap) m ys := ho
    obtain ⟨a2, c2, e2, hs2, _⟩ := hO.ds hy.hbyte hre
    cases e2
    exact Lib.wp_append_run w s x _ _ rfl _ _ hs hx _ _ hr (h _ _ _ hs2 (fun _ => ⟨_, rfl, Nat.le_refl _⟩) hb)
  · obtain rfl : m = 0 := by omega
    obtain rfl : ys = [] := List.eq_nil_of_length_eq_zero (by rw [hy.hlen])
    have hr : (Builtin.append_ #[24, 24] ty #[.slice (some ⟨g, 0, none⟩) 0 0, .slice sa 0 c]).run Tryd.prog w = .ok (.slice (some ⟨g, 0, none⟩) 0 0) w := by
      cases sa <;> simp [Builtin.append_, run_underlying undDl, sizeOf, typeInfo, hi, Builtin.lenOf, Builtin.firstCells, loadCells, loadCellsFrom, storeCells]
    refine Lib.wp_append_run w s x _ _ rfl _ _ hs hx _ _ hr (h _ _ _ ⟨Nat.le_refl _, by omega, (fun e => by cases e), ?_⟩ (fun h => absurd h (by omega)) (Below.refl _ _))
    exact ⟨rfl, Nat.le_refl _, by omega, by omega, by intro y hy; simp at hy, (fun e => by cases e), fun h => absurd h (by omega)⟩
set_option maxRecDepth 100000 in
theorem wp_0b (h : ∀ w1 g, Below w.heap.size w w1 → K (a.put dst (.slice (some ⟨g, 0, none⟩) 0 0)) w1) :
    Oper.wp Tryd.prog ⟨dst, .buildSlice 25 0 #[], ty, pos, aft, gd⟩ a w K Q :=
  wp_runV (.slice (some ⟨w.heap.size, 0, none⟩) 0 0) (w.alloc (.cells #[] 5)) (by kernel_rfl) (h _ _ ((Below.refl _ _).alloc (Nat.le_refl _) _))
set_option maxRecDepth 100000 in
theorem wp_0d (h : ∀ w1 g, Below w.heap.size w w1 → K (a.put dst (.slice (some ⟨g, 0, none⟩) 0 0)) w1) :
    Oper.wp Tryd.prog ⟨dst, .buildSlice 24 0 #[], ty, pos, aft, gd⟩ a w K Q :=
  wp_runV (.slice (some ⟨w.heap.size, 0, none⟩) 0 0) (w.alloc (.cells #[] 23)) (by kernel_rfl) (h _ _ ((Below.refl _ _).alloc (Nat.le_refl _) _))
set_option maxRecDepth 100000 in
theorem wp_stB {x y : Operand} {g i : Nat} {t : TypeId} {cs : List Value} {sa : Option Addr} {l c : Nat} (hx : a.eval x = .pointer (some ⟨g, i, none⟩)) (hy : a.eval y = .slice sa l c) (hg : Blk w g t cs) (hi : i < cs.length)
    (h : ∀ w1, Blk w1 g t (cs.set i (.slice sa l c)) → But g w w1 → K (a.put dst undef) w1) : Oper.wp Tryd.prog ⟨dst, .store 25 x y, ty, pos, aft, gd⟩ a w K Q := by
  have hc : w.cell? ⟨g, i, none⟩ = some cs[i] := by rw [hg.cell, List.getElem?_eq_getElem hi]
  have hf : w.frozen? ⟨g, i, none⟩ = false := hg.free i
  have hh := h _ (hg.set i (.slice sa l c)) (But.setCell _ _ _ _)
  unfold Oper.wp execOp
  simp only [hx, hy]
  go_simp
  exact hh
set_option maxRecDepth 100000 in
theorem wp_stD {x y : Operand} {g i : Nat} {t : TypeId} {cs : List Value} {sa : Option Addr} {l c : Nat} (hx : a.eval x = .pointer (some ⟨g, i, none⟩)) (hy : a.eval y = .slice sa l c) (hg : Blk w g t cs) (hi : i < cs.length)
    (h : ∀ w1, Blk w1 g t (cs.set i (.slice sa l c)) → But g w w1 → K (a.put dst undef) w1) : Oper.wp Tryd.prog ⟨dst, .store 24 x y, ty, pos, aft, gd⟩ a w K Q := by
  have hc : w.cell? ⟨g, i, none⟩ = some cs[i] := by rw [hg.cell, List.getElem?_eq_getElem hi]
  have hf : w.frozen? ⟨g, i, none⟩ = false := hg.free i
  have hh := h _ (hg.set i (.slice sa l c)) (But.setCell _ _ _ _)
  unfold Oper.wp execOp
  simp only [hx, hy]
  go_simp
  exact hh
theorem step_appendED {s x : Operand} {g : Nat} {sa : Option Addr} {m c : Nat} {ys : List Int} (hw : Region.wanted ⟨dst, .call { callee := .builtin .append, args := #[s, x], argTypes := #[24, 24] }, ty, pos, aft, gd⟩ (yielded ops a.tmps) = true) (hs : a.eval s = .slice (some ⟨g, 0, none⟩) 0 0) (hx : a.eval x = .slice sa m c) (hy : Ds w sa m c ys)
    (h : ∀ a' c' w', Ds w' a' m c' ys → (0 < m → ∃ b, a' = some ⟨b, 0, none⟩ ∧ w.heap.size ≤ b) → Below w.heap.size w w' → wpList Tryd.prog ops Q rest (a.put dst (.slice a' m c')) w') :
    wpList Tryd.prog ops Q (⟨dst, .call { callee := .builtin .append, args := #[s, x], argTypes := #[24, 24] }, ty, pos, aft, gd⟩ :: rest) a w :=
  BigFrame.wpList_want hw fun K hK => wp_appendED hs hx hy fun a' c' w' h1 h2 h3 => hK _ _ (h a' c' w' h1 h2 h3)
set_option maxRecDepth 100000 in
theorem step_0d (hw : Region.wanted ⟨dst, .buildSlice 24 0 #[], ty, pos, aft, gd⟩ (yielded ops a.tmps) = true)
    (h : ∀ w1 g, Below w.heap.size w w1 → wpList Tryd.prog ops Q rest (a.put dst (.slice (some ⟨g, 0, none⟩) 0 0)) w1) :
    wpList Tryd.prog ops Q (⟨dst, .buildSlice 24 0 #[], ty, pos, aft, gd⟩ :: rest) a w :=
  BigFrame.wpList_want hw fun K hK => wp_0d fun w1 g h1 => hK _ _ (h w1 g h1)
theorem step_stD {x y : Operand} {g i : Nat} {t : TypeId} {cs : List Value} {sa : Option Addr} {l c : Nat} (hw : Region.wanted ⟨dst, .store 24 x y, ty, pos, aft, gd⟩ (yielded ops a.tmps) = true) (hx : a.eval x = .pointer (some ⟨g, i, none⟩)) (hy : a.eval y = .slice sa l c) (hg : Blk w g t cs) (hi : i < cs.length)
    (h : ∀ w1, Blk w1 g t (cs.set i (.slice sa l c)) → But g w w1 → wpList Tryd.prog ops Q rest (a.put dst undef) w1) : wpList Tryd.prog ops Q (⟨dst, .store 24 x y, ty, pos, aft, gd⟩ :: rest) a w :=
  BigFrame.wpList_want hw fun K hK => wp_stD hx hy hg hi fun w1 h1 h2 => hK _ _ (h w1 h1 h2)
end

/-- Another claim of the same things, that lie elsewhere. -/
def Cv.moved (c : Cv) (aq : Option Addr) (cs : Nat) (ax : Option Addr) (cx : Nat) (ay : Option Addr) (cy : Nat) (ao : Option Addr) (co : Nat) (an : Option Addr) (cn : Nat) : Cv :=
  ⟨c.m, c.n, c.o, c.nw, c.i, aq, c.ls, cs, c.S, ax, c.lx, cx, c.X, ay, c.ly, cy, c.Y, ao, c.lo, co, c.O, an, c.ln, cn, c.N⟩
def c0v : Cv := ⟨0, 0, zer 32, zer 32, 0, none, 0, 0, [], none, 0, 0, [], none, 0, 0, [], none, 0, 0, [], none, 0, 0, []⟩
theorem zCl : Zeroed 27 c0v.cells := fun _ _ _ _ _ _ _ => by kernel_rfl
theorem wCl : Wide 27 72 := ⟨by kernel_rfl, by kernel_rfl⟩
theorem Cv.setTail (c : Cv) (h1 : c.o.length = 32) (h2 : c.nw.length = 32) (k : Nat) (v : Value) : c.cells.set (66 + k) v = [.int .i64 c.m, .int .i64 c.n] ++ (u8s c.o ++ (u8s c.nw ++ [Value.slice c.aq c.ls c.cs, .int .i64 c.i, .slice c.ax c.lx c.cx, .slice c.ay c.ly c.cy, .slice c.ao c.lo c.co, .slice c.an c.ln c.cn].set k v)) := by
  unfold Cv.cells
  rw [List.set_append_right _ _ (by simp; omega), List.set_append_right _ _ (by simp [u8s_length, h1]; omega), List.set_append_right _ _ (by simp [u8s_length, h1, h2]; omega)]
  simp only [u8s_length, h1, h2, List.length_cons, List.length_nil]
  rw [show 66 + k - (0 + 1 + 1) - 32 - 32 = k by omega]
theorem Cv.set68 (c : Cv) (h1 : c.o.length = 32) (h2 : c.nw.length = 32) (a : Option Addr) (m : Nat) : c.cells.set 68 (.slice a c.lx m) = (c.moved c.aq c.cs a m c.ay c.cy c.ao c.co c.an c.cn).cells := Cv.setTail c h1 h2 2 _
theorem Cv.set69 (c : Cv) (h1 : c.o.length = 32) (h2 : c.nw.length = 32) (a : Option Addr) (m : Nat) : c.cells.set 69 (.slice a c.ly m) = (c.moved c.aq c.cs c.ax c.cx a m c.ao c.co c.an c.cn).cells := Cv.setTail c h1 h2 3 _
theorem Cv.set70 (c : Cv) (h1 : c.o.length = 32) (h2 : c.nw.length = 32) (a : Option Addr) (m : Nat) : c.cells.set 70 (.slice a c.lo m) = (c.moved c.aq c.cs c.ax c.cx c.ay c.cy a m c.an c.cn).cells := Cv.setTail c h1 h2 4 _
theorem Cv.set71 (c : Cv) (h1 : c.o.length = 32) (h2 : c.nw.length = 32) (a : Option Addr) (m : Nat) : c.cells.set 71 (.slice a c.ln m) = (c.moved c.aq c.cs c.ax c.cx c.ay c.cy c.ao c.co a m).cells := Cv.setTail c h1 h2 5 _
theorem Cv.mv2 (c : Cv) (h1 : c.o.length = 32) (h2 : c.nw.length = 32) (aq : Option Addr) (cs : Nat) (ax : Option Addr) (cx : Nat) (ay : Option Addr) (cy : Nat) (ao : Option Addr) (co : Nat) (an : Option Addr) (cn : Nat) (a b : Option Addr) (m n : Nat) :
    ((c.moved aq cs ax cx ay cy ao co an cn).cells.set 68 (.slice a c.lx m)).set 69 (.slice b c.ly n) = (c.moved aq cs a m b n ao co an cn).cells :=
  (congrArg (fun l => List.set l 69 (Value.slice b c.ly n)) (Cv.set68 (c.moved aq cs ax cx ay cy ao co an cn) h1 h2 a m)).trans (Cv.set69 (c.moved aq cs a m ay cy ao co an cn) h1 h2 b n)
theorem Cv.mv3 (c : Cv) (h1 : c.o.length = 32) (h2 : c.nw.length = 32) (aq : Option Addr) (cs : Nat) (ax : Option Addr) (cx : Nat) (ay : Option Addr) (cy : Nat) (ao : Option Addr) (co : Nat) (an : Option Addr) (cn : Nat) (a b : Option Addr) (m n : Nat) :
    ((c.moved aq cs ax cx ay cy ao co an cn).cells.set 70 (.slice a c.lo m)).set 71 (.slice b c.ln n) = (c.moved aq cs ax cx ay cy a m b n).cells :=
  (congrArg (fun l => List.set l 71 (Value.slice b c.ln n)) (Cv.set70 (c.moved aq cs ax cx ay cy ao co an cn) h1 h2 a m)).trans (Cv.set71 (c.moved aq cs ax cx ay cy a m an cn) h1 h2 b n)
theorem Cv.one (c : Cv) : One c.cells := by
  intro v hv
  unfold Cv.cells at hv
  rcases List.mem_append.1 hv with hv | hv
  · simp at hv; rcases hv with rfl | rfl <;> rfl
  · rcases List.mem_append.1 hv with hv | hv
    · exact One.u8 _ v hv
    · rcases List.mem_append.1 hv with hv | hv
      · exact One.u8 _ v hv
      · simp at hv; rcases hv with rfl | rfl | rfl | rfl | rfl | rfl <;> rfl

theorem Ds.butQ {g : Nat} {w w' : World} {a : Option Addr} {len cap : Nat} {xs : List Int} (h : Ds w a len cap xs) (hb : But g w w') (hk : 0 < len → Apart g a) : Ds w' a len cap xs := ⟨h.hcap, h.hmax, h.hnil, h.sl.but hb (fun h0 => hk (by omega))⟩
theorem apartQ {g B m : Nat} {a : Option Addr} (h : 0 < m → ∃ b, a = some ⟨b, 0, none⟩ ∧ B ≤ b) (hg : g < B) : 0 < m → Apart g a := fun h0 x hx => by
  obtain ⟨b, e, hb⟩ := h h0
  rw [e] at hx
  cases hx
  show b ≠ g
  omega

theorem newM {B C m : Nat} {a : Option Addr} (h : 0 < m → ∃ b, a = some ⟨b, 0, none⟩ ∧ B ≤ b) (hC : C ≤ B) : 0 < m → ∃ b, a = some ⟨b, 0, none⟩ ∧ C ≤ b := fun h0 => by
  obtain ⟨b, e, hb⟩ := h h0
  exact ⟨b, e, Nat.le_trans hC hb⟩
theorem Ds.chgQ {g : Nat} {w w' : World} {a : Option Addr} {len cap : Nat} {xs : List Int} (h : Ds w a len cap xs) (hb : Chg g w w') (hk : 0 < len → Apart g a) : Ds w' a len cap xs := ⟨h.hcap, h.hmax, h.hnil, h.sl.chg hb (fun h0 => hk (by omega))⟩
theorem join6 {T : Program} {c : Code} {a : Act} {w : World} {Q : Exit → Act → World → Prop} {K : Act → World → Prop} (P : Nat → Option Addr → Nat → Nat → Option Addr → Nat → World → Prop) (act : Nat → Option Addr → Nat → Nat → Option Addr → Nat → Act) (h1 : ∀ g x m h y n W, P g x m h y n W → K (act g x m h y n) W)
    (h2 : (∀ g x m h y n W, P g x m h y n W → K (act g x m h y n) W) → Code.wp T c (Exit.then K Q) a w) : Code.wp T c (Exit.then K Q) a w := h2 h1
set_option maxRecDepth 100000 in
set_option maxHeartbeats 4000000 in
theorem lent9_any (c : Cv) (w : World) (hi : c.In w) :
    Calls Tryd.prog 9 #[.agg c.cells.toArray] w fun r w' => ∃ aq cs ax cx ay cy ao co an cn, r = .returned (.agg (c.moved aq cs ax cx ay cy ao co an cn).cells.toArray) ∧ (c.moved aq cs ax cx ay cy ao co an cn).In w' ∧ Below w.heap.size w w' := by
  have HI := hide hi
  have HO := hide hi.lo
  have HN := hide hi.ln
  have HL0 := hide (Cv.length hi.lo hi.ln)
  clear hi
  go_enter Tryd.func9, Tryd.ntmps9
  go_wp2_with (refine step_box rfl rfl ?_)
  intro w1 g1 hr1 hl1 hb1
  have hg1 := hl1
  go_wp2_with (refine step_alloc zCl rfl ?_)
  intro w2 g2 hr2 hl2 hb2
  have G0 := hide (hr1.on hb2)
  have G2 := hide hr2
  have h12 : g2 ≠ g1 := by have := hr1.lt; omega
  have hg2 : w.heap.size ≤ g2 := Nat.le_trans hb1.size hl2
  have B2 := hide (hb1.trans (hb2.mono hb1.size))
  clear hr1 hr2 hb1 hb2 hl1 hl2
  obtain ⟨_, _, k3, _, _, _, _, _⟩ := Cv.at G0.out HO.out HN.out
  have hb3 : Below w2.heap.size w2 (w2.alloc (.cells #[] 23)) := (Below.refl _ _).alloc (Nat.le_refl _) _
  have B3 := hide (B2.out.trans (hb3.mono B2.out.size))
  have k3' := cell_kept k3 hb3
  go_wp2_with (refine step_appendED rfl rfl rfl (HI.out.ds.below B3.out) ?_)
  intro a6 c6 w4 hs4 hn4 hb4
  have B4 := hide (B3.out.trans (hb4.mono B3.out.size))
  have G04 := hide ((G0.out.on hb3).on hb4)
  have G24 := hide ((G2.out.on hb3).on hb4)
  have hap : 0 < c.ls → Apart g1 a6 := apartQ hn4 (G0.out.on hb3).lt
  have HAP2 := hide (apartQ hn4 (G2.out.on hb3).lt)
  have hz := G04.out.set 66 (.slice a6 c.ls c6)
  have hbz := But.setCell w4 g1 66 (.slice a6 c.ls c6)
  have hc4 := (Cv.at G04.out HO.out HN.out).s
  have hf4 := G04.out.free 66
  go_wp2_with fail
  clear hc4 hf4
  generalize w4.setCell ⟨g1, 66, none⟩ (.slice a6 c.ls c6) = z at hz hbz ⊢
  have DS := hide (hs4.butQ hbz hap)
  have HAP := hide hap
  have G2z := hide (G24.out.but hbz h12)
  have BZ := hide (B4.out.trans (hbz.below hg1))
  have G1 : Hid (Blk z g1 27 (Cv.cells (c.moved a6 c6 c.ax c.cx c.ay c.cy c.ao c.co c.an c.cn))) := hide (by
    have e := Cv.setTail c HO.out HN.out 0 (.slice a6 c.ls c6)
    rw [Nat.add_zero] at e
    rw [e] at hz
    exact hz)
  have HL : Hid ((Cv.cells (c.moved a6 c6 c.ax c.cx c.ay c.cy c.ao c.co c.an c.cn)).length = 72) := hide (Cv.length (c := (c.moved a6 c6 c.ax c.cx c.ay c.cy c.ao c.co c.an c.cn)) HO.out HN.out)
  have SX := hide (HI.out.sx.below BZ.out)
  have SY := hide (HI.out.sy.below BZ.out)
  clear hz hs4 hn4 hb4 hb3 G04 G24 hap k3 k3' hbz
  refine join6 (fun g8 x m g12 y n W => Blk W g1 27 ((List.set (Cv.cells (c.moved a6 c6 c.ax c.cx c.ay c.cy c.ao c.co c.an c.cn)) 68 (.slice x c.lx m)).set 69 (.slice y c.ly n)) ∧ Sl W x c.lx m c.X ∧ Sl W y c.ly n c.Y ∧ (0 < c.lx → ∃ b, x = some ⟨b, 0, none⟩ ∧ z.heap.size ≤ b) ∧ (0 < c.ly → ∃ b, y = some ⟨b, 0, none⟩ ∧ z.heap.size ≤ b) ∧ Chg g1 z W) ?act1 ?tail1 (fun hjoin => ?_)
  rotate_left
  rotate_left
  · refine wp_region_noPanic ?_
    refine wp_region_U (q := 9) (S := fun v : World => Below z.heap.size z v) (by kernel_rfl) ?_
    have Z0 := hide ((Below.refl z.heap.size z).drew)
    have hHeld := Z0.out
    have hlt1 : g1 < z.heap.size := G1.out.lt
    have HA : Hid (∀ v : World, Below z.heap.size z v → Cv.At (c.moved a6 c6 c.ax c.cx c.ay c.cy c.ao c.co c.an c.cn) v g1) := hide (fun v hv => Cv.at (c := (c.moved a6 c6 c.ax c.cx c.ay c.cy c.ao c.co c.an c.cn)) (G1.out.on hv) HO.out HN.out)
    refine takeU 9 1 9 (.pointer (some ⟨g1, 68, none⟩)) hHeld rfl rfl (by kernel_rfl) (by kernel_rfl) (by kernel_rfl) (by kernel_rfl) (by kernel_rfl) (by kernel_rfl) (fun _ _ _ h => h) (Or.inl ⟨by rfl, fun w _ => by go_simp⟩) ?_
    simp only [Act.put, List.setIfInBounds_toArray, List.set_cons_zero, List.set_cons_succ]
    refine takeU 9 2 10 (.slice c.ax c.lx c.cx) hHeld rfl rfl (by kernel_rfl) (by kernel_rfl) (by kernel_rfl) (by kernel_rfl) (by kernel_rfl) (by kernel_rfl) (fun _ _ _ h => h) (Or.inl ⟨by rfl, fun w hw => by have hw' : w.cell? ⟨g1, 68, none⟩ = some (.slice c.ax c.lx c.cx) := (fun hw => (HA.out _ hw).x) hw; go_simp⟩) ?_
    simp only [Act.put, List.setIfInBounds_toArray, List.set_cons_zero, List.set_cons_succ]
    refine takeU 9 5 13 (.pointer (some ⟨g1, 69, none⟩)) hHeld rfl rfl (by kernel_rfl) (by kernel_rfl) (by kernel_rfl) (by kernel_rfl) (by kernel_rfl) (by kernel_rfl) (fun _ _ _ h => h) (Or.inl ⟨by rfl, fun w _ => by go_simp⟩) ?_
    simp only [Act.put, List.setIfInBounds_toArray, List.set_cons_zero, List.set_cons_succ]
    refine takeU 9 6 14 (.slice c.ay c.ly c.cy) hHeld rfl rfl (by kernel_rfl) (by kernel_rfl) (by kernel_rfl) (by kernel_rfl) (by kernel_rfl) (by kernel_rfl) (fun _ _ _ h => h) (Or.inl ⟨by rfl, fun w hw => by have hw' : w.cell? ⟨g1, 69, none⟩ = some (.slice c.ay c.ly c.cy) := (fun hw => (HA.out _ hw).y) hw; go_simp⟩) ?_
    simp only [Act.put, List.setIfInBounds_toArray, List.set_cons_zero, List.set_cons_succ]
    refine wpAnyU_ready (rs := [0, 4]) (by kernel_rfl) (by simp) (AllReadyU.cons rfl (fun K hK => ?_) (AllReadyU.cons rfl (fun K hK => ?_) AllReadyU.nil))
    · skip
      rw [if_pos (by rfl)]
      refine wp_0b ?_
      intro v1 g8 hb
      have Z1 := hide (Z0.out.trans (hb.mono Z0.out.size))
      clear hb
      refine hK.out _ _ (fun _ => Z1.out) ?_
      have hHeld := Z1.out
      clear hK K
      simp only [Act.put]
      refine wpAnyU_ready (rs := [3, 4]) (by kernel_rfl) (by simp) (AllReadyU.cons rfl (fun K hK => ?_) (AllReadyU.cons rfl (fun K hK => ?_) AllReadyU.nil))
      · skip
        rw [if_pos (by rfl)]
        refine wp_appendE rfl rfl (SX.out.below Z1.out) ?_
        intro a11 c11 v2 hs hnew hb
        have Z2 := hide (Z1.out.trans (hb.mono Z1.out.size))
        have N1 := hide hs
        have W1 := hide hnew
        clear hs hnew
        clear hb
        refine hK.out _ _ (fun _ => Z2.out) ?_
        have hHeld := Z2.out
        clear hK K
        simp only [Act.put]
        refine takeU 9 8 16 (.pointer (some ⟨g1, 68, none⟩)) hHeld rfl rfl (by kernel_rfl) (by kernel_rfl) (by kernel_rfl) (by kernel_rfl) (by kernel_rfl) (by kernel_rfl) (fun _ _ _ h => h) (Or.inl ⟨by rfl, fun w _ => by go_simp⟩) ?_
        simp only [Act.put, List.setIfInBounds_toArray, List.set_cons_zero, List.set_cons_succ]
        refine wpAnyU_ready (rs := [4]) (by kernel_rfl) (by simp) (AllReadyU.cons rfl (fun K hK => ?_) AllReadyU.nil)
        rw [if_pos (by rfl)]
        refine wp_0b ?_
        intro v3 g12 hb
        have Z3 := hide (Z2.out.trans (hb.mono Z2.out.size))
        have N2 := hide (N1.out.below hb)
        clear hb
        refine hK.out _ _ (fun _ => Z3.out) ?_
        have hHeld := Z3.out
        clear hK K
        simp only [Act.put]
        refine wpAnyU_ready (rs := [7]) (by kernel_rfl) (by simp) (AllReadyU.cons rfl (fun K hK => ?_) AllReadyU.nil)
        rw [if_pos (by rfl)]
        refine wp_appendE rfl rfl (SY.out.below Z3.out) ?_
        intro a15 c15 v4 hs hnew hb
        have Z4 := hide (Z3.out.trans (hb.mono Z3.out.size))
        have N3 := hide hs
        have W3 := hide hnew
        clear hs hnew
        have N4 := hide (N2.out.below hb)
        clear hb
        refine hK.out _ _ (fun _ => Z4.out) ?_
        have hHeld := Z4.out
        clear hK K
        simp only [Act.put]
        refine wpAnyU_ready (rs := [9]) (by kernel_rfl) (by simp) (AllReadyU.cons rfl (fun K hK => ?_) AllReadyU.nil)
        rw [if_pos (by rfl)]
        refine wp_stB rfl rfl (G1.out.on Z4.out) (by rw [HL.out]; omega) ?_
        intro x1 hx1 hbx1
        refine hK.out _ _ (fun h => absurd h (by decide)) ?_
        clear hK K
        simp only [Act.put]
        refine wpAnyU_ready (rs := [10]) (by kernel_rfl) (by simp) (AllReadyU.cons rfl (fun K hK => ?_) AllReadyU.nil)
        rw [if_pos (by rfl)]
        go_simp
        refine hK.out _ _ (fun h => absurd h (by decide)) ?_
        clear hK K
        refine wpAnyU_ready (rs := [11]) (by kernel_rfl) (by simp) (AllReadyU.cons rfl (fun K hK => ?_) AllReadyU.nil)
        rw [if_pos (by rfl)]
        refine wp_stB rfl rfl hx1 (by rw [List.length_set, HL.out]; omega) ?_
        intro x2 hx2 hbx2
        refine hK.out _ _ (fun h => absurd h (by decide)) ?_
        clear hK K
        simp only [Act.put]
        refine wpAnyU_done (by kernel_rfl) ?_ _
        refine NoPanic.normal ?_
        exact hjoin g8 a11 c11 g12 a15 c15 x2 ⟨hx2, (N4.out.but hbx1 (apartQ W1.out (Nat.lt_of_lt_of_le hlt1 Z1.out.size))).but hbx2 (apartQ W1.out (Nat.lt_of_lt_of_le hlt1 Z1.out.size)), (N3.out.but hbx1 (apartQ W3.out (Nat.lt_of_lt_of_le hlt1 Z3.out.size))).but hbx2 (apartQ W3.out (Nat.lt_of_lt_of_le hlt1 Z3.out.size)), newM W1.out Z1.out.size, newM W3.out Z3.out.size, ((Chg.of_below Z4.out).trans (Chg.of_but hbx1)).trans (Chg.of_but hbx2)⟩
      · skip
        rw [if_pos (by rfl)]
        refine wp_0b ?_
        intro v2 g12 hb
        have Z2 := hide (Z1.out.trans (hb.mono Z1.out.size))
        clear hb
        refine hK.out _ _ (fun _ => Z2.out) ?_
        have hHeld := Z2.out
        clear hK K
        simp only [Act.put]
        refine wpAnyU_ready (rs := [3]) (by kernel_rfl) (by simp) (AllReadyU.cons rfl (fun K hK => ?_) AllReadyU.nil)
        rw [if_pos (by rfl)]
        refine wp_appendE rfl rfl (SX.out.below Z2.out) ?_
        intro a11 c11 v3 hs hnew hb
        have Z3 := hide (Z2.out.trans (hb.mono Z2.out.size))
        have N1 := hide hs
        have W1 := hide hnew
        clear hs hnew
        clear hb
        refine hK.out _ _ (fun _ => Z3.out) ?_
        have hHeld := Z3.out
        clear hK K
        simp only [Act.put]
        refine takeU 9 8 16 (.pointer (some ⟨g1, 68, none⟩)) hHeld rfl rfl (by kernel_rfl) (by kernel_rfl) (by kernel_rfl) (by kernel_rfl) (by kernel_rfl) (by kernel_rfl) (fun _ _ _ h => h) (Or.inl ⟨by rfl, fun w _ => by go_simp⟩) ?_
        simp only [Act.put, List.setIfInBounds_toArray, List.set_cons_zero, List.set_cons_succ]
        refine wpAnyU_ready (rs := [7]) (by kernel_rfl) (by simp) (AllReadyU.cons rfl (fun K hK => ?_) AllReadyU.nil)
        rw [if_pos (by rfl)]
        refine wp_appendE rfl rfl (SY.out.below Z3.out) ?_
        intro a15 c15 v4 hs hnew hb
        have Z4 := hide (Z3.out.trans (hb.mono Z3.out.size))
        have N3 := hide hs
        have W3 := hide hnew
        clear hs hnew
        have N4 := hide (N1.out.below hb)
        clear hb
        refine hK.out _ _ (fun _ => Z4.out) ?_
        have hHeld := Z4.out
        clear hK K
        simp only [Act.put]
        refine wpAnyU_ready (rs := [9]) (by kernel_rfl) (by simp) (AllReadyU.cons rfl (fun K hK => ?_) AllReadyU.nil)
        rw [if_pos (by rfl)]
        refine wp_stB rfl rfl (G1.out.on Z4.out) (by rw [HL.out]; omega) ?_
        intro x1 hx1 hbx1
        refine hK.out _ _ (fun h => absurd h (by decide)) ?_
        clear hK K
        simp only [Act.put]
        refine wpAnyU_ready (rs := [10]) (by kernel_rfl) (by simp) (AllReadyU.cons rfl (fun K hK => ?_) AllReadyU.nil)
        rw [if_pos (by rfl)]
        go_simp
        refine hK.out _ _ (fun h => absurd h (by decide)) ?_
        clear hK K
        refine wpAnyU_ready (rs := [11]) (by kernel_rfl) (by simp) (AllReadyU.cons rfl (fun K hK => ?_) AllReadyU.nil)
        rw [if_pos (by rfl)]
        refine wp_stB rfl rfl hx1 (by rw [List.length_set, HL.out]; omega) ?_
        intro x2 hx2 hbx2
        refine hK.out _ _ (fun h => absurd h (by decide)) ?_
        clear hK K
        simp only [Act.put]
        refine wpAnyU_done (by kernel_rfl) ?_ _
        refine NoPanic.normal ?_
        exact hjoin g8 a11 c11 g12 a15 c15 x2 ⟨hx2, (N4.out.but hbx1 (apartQ W1.out (Nat.lt_of_lt_of_le hlt1 Z2.out.size))).but hbx2 (apartQ W1.out (Nat.lt_of_lt_of_le hlt1 Z2.out.size)), (N3.out.but hbx1 (apartQ W3.out (Nat.lt_of_lt_of_le hlt1 Z3.out.size))).but hbx2 (apartQ W3.out (Nat.lt_of_lt_of_le hlt1 Z3.out.size)), newM W1.out Z2.out.size, newM W3.out Z3.out.size, ((Chg.of_below Z4.out).trans (Chg.of_but hbx1)).trans (Chg.of_but hbx2)⟩
    · skip
      rw [if_pos (by rfl)]
      refine wp_0b ?_
      intro v1 g12 hb
      have Z1 := hide (Z0.out.trans (hb.mono Z0.out.size))
      clear hb
      refine hK.out _ _ (fun _ => Z1.out) ?_
      have hHeld := Z1.out
      clear hK K
      simp only [Act.put]
      refine wpAnyU_ready (rs := [0]) (by kernel_rfl) (by simp) (AllReadyU.cons rfl (fun K hK => ?_) AllReadyU.nil)
      rw [if_pos (by rfl)]
      refine wp_0b ?_
      intro v2 g8 hb
      have Z2 := hide (Z1.out.trans (hb.mono Z1.out.size))
      clear hb
      refine hK.out _ _ (fun _ => Z2.out) ?_
      have hHeld := Z2.out
      clear hK K
      simp only [Act.put]
      refine wpAnyU_ready (rs := [3]) (by kernel_rfl) (by simp) (AllReadyU.cons rfl (fun K hK => ?_) AllReadyU.nil)
      rw [if_pos (by rfl)]
      refine wp_appendE rfl rfl (SX.out.below Z2.out) ?_
      intro a11 c11 v3 hs hnew hb
      have Z3 := hide (Z2.out.trans (hb.mono Z2.out.size))
      have N1 := hide hs
      have W1 := hide hnew
      clear hs hnew
      clear hb
      refine hK.out _ _ (fun _ => Z3.out) ?_
      have hHeld := Z3.out
      clear hK K
      simp only [Act.put]
      refine takeU 9 8 16 (.pointer (some ⟨g1, 68, none⟩)) hHeld rfl rfl (by kernel_rfl) (by kernel_rfl) (by kernel_rfl) (by kernel_rfl) (by kernel_rfl) (by kernel_rfl) (fun _ _ _ h => h) (Or.inl ⟨by rfl, fun w _ => by go_simp⟩) ?_
      simp only [Act.put, List.setIfInBounds_toArray, List.set_cons_zero, List.set_cons_succ]
      refine wpAnyU_ready (rs := [7]) (by kernel_rfl) (by simp) (AllReadyU.cons rfl (fun K hK => ?_) AllReadyU.nil)
      rw [if_pos (by rfl)]
      refine wp_appendE rfl rfl (SY.out.below Z3.out) ?_
      intro a15 c15 v4 hs hnew hb
      have Z4 := hide (Z3.out.trans (hb.mono Z3.out.size))
      have N3 := hide hs
      have W3 := hide hnew
      clear hs hnew
      have N4 := hide (N1.out.below hb)
      clear hb
      refine hK.out _ _ (fun _ => Z4.out) ?_
      have hHeld := Z4.out
      clear hK K
      simp only [Act.put]
      refine wpAnyU_ready (rs := [9]) (by kernel_rfl) (by simp) (AllReadyU.cons rfl (fun K hK => ?_) AllReadyU.nil)
      rw [if_pos (by rfl)]
      refine wp_stB rfl rfl (G1.out.on Z4.out) (by rw [HL.out]; omega) ?_
      intro x1 hx1 hbx1
      refine hK.out _ _ (fun h => absurd h (by decide)) ?_
      clear hK K
      simp only [Act.put]
      refine wpAnyU_ready (rs := [10]) (by kernel_rfl) (by simp) (AllReadyU.cons rfl (fun K hK => ?_) AllReadyU.nil)
      rw [if_pos (by rfl)]
      go_simp
      refine hK.out _ _ (fun h => absurd h (by decide)) ?_
      clear hK K
      refine wpAnyU_ready (rs := [11]) (by kernel_rfl) (by simp) (AllReadyU.cons rfl (fun K hK => ?_) AllReadyU.nil)
      rw [if_pos (by rfl)]
      refine wp_stB rfl rfl hx1 (by rw [List.length_set, HL.out]; omega) ?_
      intro x2 hx2 hbx2
      refine hK.out _ _ (fun h => absurd h (by decide)) ?_
      clear hK K
      simp only [Act.put]
      refine wpAnyU_done (by kernel_rfl) ?_ _
      refine NoPanic.normal ?_
      exact hjoin g8 a11 c11 g12 a15 c15 x2 ⟨hx2, (N4.out.but hbx1 (apartQ W1.out (Nat.lt_of_lt_of_le hlt1 Z2.out.size))).but hbx2 (apartQ W1.out (Nat.lt_of_lt_of_le hlt1 Z2.out.size)), (N3.out.but hbx1 (apartQ W3.out (Nat.lt_of_lt_of_le hlt1 Z3.out.size))).but hbx2 (apartQ W3.out (Nat.lt_of_lt_of_le hlt1 Z3.out.size)), newM W1.out Z2.out.size, newM W3.out Z3.out.size, ((Chg.of_below Z4.out).trans (Chg.of_but hbx1)).trans (Chg.of_but hbx2)⟩
  case tail1 =>
    intro g8 a11 c11 g12 a15 c15 Z hP
    obtain ⟨h1, hX, hY, aX, aY, hC⟩ := hP
    rw [Cv.mv2 c HO.out HN.out] at h1
    have h1' := h1
    have DS2 := hide (DS.out.chgQ hC HAP.out)
    have BZ2 := hide (BZ.out.trans (hC.below hg1 BZ.out.size))
    have G2Z := hide (G2z.out.chg hC h12)
    have NX2 := hide hX
    have NY2 := hide hY
    have hl1z : g1 < z.heap.size := G1.out.lt
    have hl2z : g2 < z.heap.size := G2z.out.lt
    have AX2 := hide (apartQ aX hl1z)
    have AY2 := hide (apartQ aY hl1z)
    have AX3 := hide (apartQ aX hl2z)
    have AY3 := hide (apartQ aY hl2z)
    clear h1 hC hX hY aX aY DS G2z BZ G1 HL SX SY
    have G1 := hide h1'
    have HL : Hid ((Cv.cells (c.moved a6 c6 a11 c11 a15 c15 c.ao c.co c.an c.cn)).length = 72) := hide (Cv.length (c := (c.moved a6 c6 a11 c11 a15 c15 c.ao c.co c.an c.cn)) HO.out HN.out)
    have SX := hide (HI.out.dO.below BZ2.out)
    have SY := hide (HI.out.dN.below BZ2.out)
    clear h1'
    clear hl1z hl2z
    clear z
    generalize hzz : Z = z at *
    clear hzz
    go_wp2_with fail
    refine join6 (fun g8 x m g12 y n W => Blk W g1 27 ((List.set (Cv.cells (c.moved a6 c6 a11 c11 a15 c15 c.ao c.co c.an c.cn)) 70 (.slice x c.lo m)).set 71 (.slice y c.ln n)) ∧ Ds W x c.lo m c.O ∧ Ds W y c.ln n c.N ∧ (0 < c.lo → ∃ b, x = some ⟨b, 0, none⟩ ∧ z.heap.size ≤ b) ∧ (0 < c.ln → ∃ b, y = some ⟨b, 0, none⟩ ∧ z.heap.size ≤ b) ∧ Chg g1 z W) ?act2 ?tail2 (fun hjoin => ?_)
    rotate_left
    rotate_left
    · refine wp_region_noPanic ?_
      refine wp_region_U (q := 9) (S := fun v : World => Below z.heap.size z v) (by kernel_rfl) ?_
      have Z0 := hide ((Below.refl z.heap.size z).drew)
      have hHeld := Z0.out
      have hlt1 : g1 < z.heap.size := G1.out.lt
      have HA : Hid (∀ v : World, Below z.heap.size z v → Cv.At (c.moved a6 c6 a11 c11 a15 c15 c.ao c.co c.an c.cn) v g1) := hide (fun v hv => Cv.at (c := (c.moved a6 c6 a11 c11 a15 c15 c.ao c.co c.an c.cn)) (G1.out.on hv) HO.out HN.out)
      refine takeU 9 1 19 (.pointer (some ⟨g1, 70, none⟩)) hHeld rfl rfl (by kernel_rfl) (by kernel_rfl) (by kernel_rfl) (by kernel_rfl) (by kernel_rfl) (by kernel_rfl) (fun _ _ _ h => h) (Or.inl ⟨by rfl, fun w _ => by go_simp⟩) ?_
      simp only [Act.put, List.setIfInBounds_toArray, List.set_cons_zero, List.set_cons_succ]
      refine takeU 9 2 20 (.slice c.ao c.lo c.co) hHeld rfl rfl (by kernel_rfl) (by kernel_rfl) (by kernel_rfl) (by kernel_rfl) (by kernel_rfl) (by kernel_rfl) (fun _ _ _ h => h) (Or.inl ⟨by rfl, fun w hw => by have hw' : w.cell? ⟨g1, 70, none⟩ = some (.slice c.ao c.lo c.co) := (fun hw => (HA.out _ hw).o) hw; go_simp⟩) ?_
      simp only [Act.put, List.setIfInBounds_toArray, List.set_cons_zero, List.set_cons_succ]
      refine takeU 9 5 23 (.pointer (some ⟨g1, 71, none⟩)) hHeld rfl rfl (by kernel_rfl) (by kernel_rfl) (by kernel_rfl) (by kernel_rfl) (by kernel_rfl) (by kernel_rfl) (fun _ _ _ h => h) (Or.inl ⟨by rfl, fun w _ => by go_simp⟩) ?_
      simp only [Act.put, List.setIfInBounds_toArray, List.set_cons_zero, List.set_cons_succ]
      refine takeU 9 6 24 (.slice c.an c.ln c.cn) hHeld rfl rfl (by kernel_rfl) (by kernel_rfl) (by kernel_rfl) (by kernel_rfl) (by kernel_rfl) (by kernel_rfl) (fun _ _ _ h => h) (Or.inl ⟨by rfl, fun w hw => by have hw' : w.cell? ⟨g1, 71, none⟩ = some (.slice c.an c.ln c.cn) := (fun hw => (HA.out _ hw).nn) hw; go_simp⟩) ?_
      simp only [Act.put, List.setIfInBounds_toArray, List.set_cons_zero, List.set_cons_succ]
      refine wpAnyU_ready (rs := [0, 4]) (by kernel_rfl) (by simp) (AllReadyU.cons rfl (fun K hK => ?_) (AllReadyU.cons rfl (fun K hK => ?_) AllReadyU.nil))
      · skip
        rw [if_pos (by rfl)]
        refine wp_0d ?_
        intro v1 g18 hb
        have Z1 := hide (Z0.out.trans (hb.mono Z0.out.size))
        clear hb
        refine hK.out _ _ (fun _ => Z1.out) ?_
        have hHeld := Z1.out
        clear hK K
        simp only [Act.put]
        refine wpAnyU_ready (rs := [3, 4]) (by kernel_rfl) (by simp) (AllReadyU.cons rfl (fun K hK => ?_) (AllReadyU.cons rfl (fun K hK => ?_) AllReadyU.nil))
        · skip
          rw [if_pos (by rfl)]
          refine wp_appendED rfl rfl (SX.out.below Z1.out) ?_
          intro a21 c21 v2 hs hnew hb
          have Z2 := hide (Z1.out.trans (hb.mono Z1.out.size))
          have N1 := hide hs
          have W1 := hide hnew
          clear hs hnew
          clear hb
          refine hK.out _ _ (fun _ => Z2.out) ?_
          have hHeld := Z2.out
          clear hK K
          simp only [Act.put]
          refine takeU 9 8 26 (.pointer (some ⟨g1, 70, none⟩)) hHeld rfl rfl (by kernel_rfl) (by kernel_rfl) (by kernel_rfl) (by kernel_rfl) (by kernel_rfl) (by kernel_rfl) (fun _ _ _ h => h) (Or.inl ⟨by rfl, fun w _ => by go_simp⟩) ?_
          simp only [Act.put, List.setIfInBounds_toArray, List.set_cons_zero, List.set_cons_succ]
          refine wpAnyU_ready (rs := [4]) (by kernel_rfl) (by simp) (AllReadyU.cons rfl (fun K hK => ?_) AllReadyU.nil)
          rw [if_pos (by rfl)]
          refine wp_0d ?_
          intro v3 g22 hb
          have Z3 := hide (Z2.out.trans (hb.mono Z2.out.size))
          have N2 := hide (N1.out.below hb)
          clear hb
          refine hK.out _ _ (fun _ => Z3.out) ?_
          have hHeld := Z3.out
          clear hK K
          simp only [Act.put]
          refine wpAnyU_ready (rs := [7]) (by kernel_rfl) (by simp) (AllReadyU.cons rfl (fun K hK => ?_) AllReadyU.nil)
          rw [if_pos (by rfl)]
          refine wp_appendED rfl rfl (SY.out.below Z3.out) ?_
          intro a25 c25 v4 hs hnew hb
          have Z4 := hide (Z3.out.trans (hb.mono Z3.out.size))
          have N3 := hide hs
          have W3 := hide hnew
          clear hs hnew
          have N4 := hide (N2.out.below hb)
          clear hb
          refine hK.out _ _ (fun _ => Z4.out) ?_
          have hHeld := Z4.out
          clear hK K
          simp only [Act.put]
          refine wpAnyU_ready (rs := [9]) (by kernel_rfl) (by simp) (AllReadyU.cons rfl (fun K hK => ?_) AllReadyU.nil)
          rw [if_pos (by rfl)]
          refine wp_stD rfl rfl (G1.out.on Z4.out) (by rw [HL.out]; omega) ?_
          intro x1 hx1 hbx1
          refine hK.out _ _ (fun h => absurd h (by decide)) ?_
          clear hK K
          simp only [Act.put]
          refine wpAnyU_ready (rs := [10]) (by kernel_rfl) (by simp) (AllReadyU.cons rfl (fun K hK => ?_) AllReadyU.nil)
          rw [if_pos (by rfl)]
          go_simp
          refine hK.out _ _ (fun h => absurd h (by decide)) ?_
          clear hK K
          refine wpAnyU_ready (rs := [11]) (by kernel_rfl) (by simp) (AllReadyU.cons rfl (fun K hK => ?_) AllReadyU.nil)
          rw [if_pos (by rfl)]
          refine wp_stD rfl rfl hx1 (by rw [List.length_set, HL.out]; omega) ?_
          intro x2 hx2 hbx2
          refine hK.out _ _ (fun h => absurd h (by decide)) ?_
          clear hK K
          simp only [Act.put]
          refine wpAnyU_done (by kernel_rfl) ?_ _
          refine NoPanic.normal ?_
          exact hjoin g18 a21 c21 g22 a25 c25 x2 ⟨hx2, (N4.out.butQ hbx1 (apartQ W1.out (Nat.lt_of_lt_of_le hlt1 Z1.out.size))).butQ hbx2 (apartQ W1.out (Nat.lt_of_lt_of_le hlt1 Z1.out.size)), (N3.out.butQ hbx1 (apartQ W3.out (Nat.lt_of_lt_of_le hlt1 Z3.out.size))).butQ hbx2 (apartQ W3.out (Nat.lt_of_lt_of_le hlt1 Z3.out.size)), newM W1.out Z1.out.size, newM W3.out Z3.out.size, ((Chg.of_below Z4.out).trans (Chg.of_but hbx1)).trans (Chg.of_but hbx2)⟩
        · skip
          rw [if_pos (by rfl)]
          refine wp_0d ?_
          intro v2 g22 hb
          have Z2 := hide (Z1.out.trans (hb.mono Z1.out.size))
          clear hb
          refine hK.out _ _ (fun _ => Z2.out) ?_
          have hHeld := Z2.out
          clear hK K
          simp only [Act.put]
          refine wpAnyU_ready (rs := [3]) (by kernel_rfl) (by simp) (AllReadyU.cons rfl (fun K hK => ?_) AllReadyU.nil)
          rw [if_pos (by rfl)]
          refine wp_appendED rfl rfl (SX.out.below Z2.out) ?_
          intro a21 c21 v3 hs hnew hb
          have Z3 := hide (Z2.out.trans (hb.mono Z2.out.size))
          have N1 := hide hs
          have W1 := hide hnew
          clear hs hnew
          clear hb
          refine hK.out _ _ (fun _ => Z3.out) ?_
          have hHeld := Z3.out
          clear hK K
          simp only [Act.put]
          refine takeU 9 8 26 (.pointer (some ⟨g1, 70, none⟩)) hHeld rfl rfl (by kernel_rfl) (by kernel_rfl) (by kernel_rfl) (by kernel_rfl) (by kernel_rfl) (by kernel_rfl) (fun _ _ _ h => h) (Or.inl ⟨by rfl, fun w _ => by go_simp⟩) ?_
          simp only [Act.put, List.setIfInBounds_toArray, List.set_cons_zero, List.set_cons_succ]
          refine wpAnyU_ready (rs := [7]) (by kernel_rfl) (by simp) (AllReadyU.cons rfl (fun K hK => ?_) AllReadyU.nil)
          rw [if_pos (by rfl)]
          refine wp_appendED rfl rfl (SY.out.below Z3.out) ?_
          intro a25 c25 v4 hs hnew hb
          have Z4 := hide (Z3.out.trans (hb.mono Z3.out.size))
          have N3 := hide hs
          have W3 := hide hnew
          clear hs hnew
          have N4 := hide (N1.out.below hb)
          clear hb
          refine hK.out _ _ (fun _ => Z4.out) ?_
          have hHeld := Z4.out
          clear hK K
          simp only [Act.put]
          refine wpAnyU_ready (rs := [9]) (by kernel_rfl) (by simp) (AllReadyU.cons rfl (fun K hK => ?_) AllReadyU.nil)
          rw [if_pos (by rfl)]
          refine wp_stD rfl rfl (G1.out.on Z4.out) (by rw [HL.out]; omega) ?_
          intro x1 hx1 hbx1
          refine hK.out _ _ (fun h => absurd h (by decide)) ?_
          clear hK K
          simp only [Act.put]
          refine wpAnyU_ready (rs := [10]) (by kernel_rfl) (by simp) (AllReadyU.cons rfl (fun K hK => ?_) AllReadyU.nil)
          rw [if_pos (by rfl)]
          go_simp
          refine hK.out _ _ (fun h => absurd h (by decide)) ?_
          clear hK K
          refine wpAnyU_ready (rs := [11]) (by kernel_rfl) (by simp) (AllReadyU.cons rfl (fun K hK => ?_) AllReadyU.nil)
          rw [if_pos (by rfl)]
          refine wp_stD rfl rfl hx1 (by rw [List.length_set, HL.out]; omega) ?_
          intro x2 hx2 hbx2
          refine hK.out _ _ (fun h => absurd h (by decide)) ?_
          clear hK K
          simp only [Act.put]
          refine wpAnyU_done (by kernel_rfl) ?_ _
          refine NoPanic.normal ?_
          exact hjoin g18 a21 c21 g22 a25 c25 x2 ⟨hx2, (N4.out.butQ hbx1 (apartQ W1.out (Nat.lt_of_lt_of_le hlt1 Z2.out.size))).butQ hbx2 (apartQ W1.out (Nat.lt_of_lt_of_le hlt1 Z2.out.size)), (N3.out.butQ hbx1 (apartQ W3.out (Nat.lt_of_lt_of_le hlt1 Z3.out.size))).butQ hbx2 (apartQ W3.out (Nat.lt_of_lt_of_le hlt1 Z3.out.size)), newM W1.out Z2.out.size, newM W3.out Z3.out.size, ((Chg.of_below Z4.out).trans (Chg.of_but hbx1)).trans (Chg.of_but hbx2)⟩
      · skip
        rw [if_pos (by rfl)]
        refine wp_0d ?_
        intro v1 g22 hb
        have Z1 := hide (Z0.out.trans (hb.mono Z0.out.size))
        clear hb
        refine hK.out _ _ (fun _ => Z1.out) ?_
        have hHeld := Z1.out
        clear hK K
        simp only [Act.put]
        refine wpAnyU_ready (rs := [0]) (by kernel_rfl) (by simp) (AllReadyU.cons rfl (fun K hK => ?_) AllReadyU.nil)
        rw [if_pos (by rfl)]
        refine wp_0d ?_
        intro v2 g18 hb
        have Z2 := hide (Z1.out.trans (hb.mono Z1.out.size))
        clear hb
        refine hK.out _ _ (fun _ => Z2.out) ?_
        have hHeld := Z2.out
        clear hK K
        simp only [Act.put]
        refine wpAnyU_ready (rs := [3]) (by kernel_rfl) (by simp) (AllReadyU.cons rfl (fun K hK => ?_) AllReadyU.nil)
        rw [if_pos (by rfl)]
        refine wp_appendED rfl rfl (SX.out.below Z2.out) ?_
        intro a21 c21 v3 hs hnew hb
        have Z3 := hide (Z2.out.trans (hb.mono Z2.out.size))
        have N1 := hide hs
        have W1 := hide hnew
        clear hs hnew
        clear hb
        refine hK.out _ _ (fun _ => Z3.out) ?_
        have hHeld := Z3.out
        clear hK K
        simp only [Act.put]
        refine takeU 9 8 26 (.pointer (some ⟨g1, 70, none⟩)) hHeld rfl rfl (by kernel_rfl) (by kernel_rfl) (by kernel_rfl) (by kernel_rfl) (by kernel_rfl) (by kernel_rfl) (fun _ _ _ h => h) (Or.inl ⟨by rfl, fun w _ => by go_simp⟩) ?_
        simp only [Act.put, List.setIfInBounds_toArray, List.set_cons_zero, List.set_cons_succ]
        refine wpAnyU_ready (rs := [7]) (by kernel_rfl) (by simp) (AllReadyU.cons rfl (fun K hK => ?_) AllReadyU.nil)
        rw [if_pos (by rfl)]
        refine wp_appendED rfl rfl (SY.out.below Z3.out) ?_
        intro a25 c25 v4 hs hnew hb
        have Z4 := hide (Z3.out.trans (hb.mono Z3.out.size))
        have N3 := hide hs
        have W3 := hide hnew
        clear hs hnew
        have N4 := hide (N1.out.below hb)
        clear hb
        refine hK.out _ _ (fun _ => Z4.out) ?_
        have hHeld := Z4.out
        clear hK K
        simp only [Act.put]
        refine wpAnyU_ready (rs := [9]) (by kernel_rfl) (by simp) (AllReadyU.cons rfl (fun K hK => ?_) AllReadyU.nil)
        rw [if_pos (by rfl)]
        refine wp_stD rfl rfl (G1.out.on Z4.out) (by rw [HL.out]; omega) ?_
        intro x1 hx1 hbx1
        refine hK.out _ _ (fun h => absurd h (by decide)) ?_
        clear hK K
        simp only [Act.put]
        refine wpAnyU_ready (rs := [10]) (by kernel_rfl) (by simp) (AllReadyU.cons rfl (fun K hK => ?_) AllReadyU.nil)
        rw [if_pos (by rfl)]
        go_simp
        refine hK.out _ _ (fun h => absurd h (by decide)) ?_
        clear hK K
        refine wpAnyU_ready (rs := [11]) (by kernel_rfl) (by simp) (AllReadyU.cons rfl (fun K hK => ?_) AllReadyU.nil)
        rw [if_pos (by rfl)]
        refine wp_stD rfl rfl hx1 (by rw [List.length_set, HL.out]; omega) ?_
        intro x2 hx2 hbx2
        refine hK.out _ _ (fun h => absurd h (by decide)) ?_
        clear hK K
        simp only [Act.put]
        refine wpAnyU_done (by kernel_rfl) ?_ _
        refine NoPanic.normal ?_
        exact hjoin g18 a21 c21 g22 a25 c25 x2 ⟨hx2, (N4.out.butQ hbx1 (apartQ W1.out (Nat.lt_of_lt_of_le hlt1 Z2.out.size))).butQ hbx2 (apartQ W1.out (Nat.lt_of_lt_of_le hlt1 Z2.out.size)), (N3.out.butQ hbx1 (apartQ W3.out (Nat.lt_of_lt_of_le hlt1 Z3.out.size))).butQ hbx2 (apartQ W3.out (Nat.lt_of_lt_of_le hlt1 Z3.out.size)), newM W1.out Z2.out.size, newM W3.out Z3.out.size, ((Chg.of_below Z4.out).trans (Chg.of_but hbx1)).trans (Chg.of_but hbx2)⟩
    case tail2 =>
      intro g18 a21 c21 g22 a25 c25 Y hP
      obtain ⟨h1, hX, hY, aX, aY, hC⟩ := hP
      rw [Cv.mv3 c HO.out HN.out] at h1
      have GY := hide h1
      have HLY : Hid ((Cv.cells (c.moved a6 c6 a11 c11 a15 c15 a21 c21 a25 c25)).length = 72) := hide (Cv.length (c := (c.moved a6 c6 a11 c11 a15 c15 a21 c21 a25 c25)) HO.out HN.out)
      have HZ0 : Hid (c0v.cells.length = 72) := hide (by kernel_rfl)
      have G2Y := hide (G2Z.out.chg hC h12)
      have DY := hide (DS2.out.chgQ hC HAP.out)
      have XY := hide (NX2.out.chg hC AX2.out)
      have YY := hide (NY2.out.chg hC AY2.out)
      have BY := hide (BZ2.out.trans (hC.below hg1 BZ2.out.size))
      have OY := hide hX
      have NY := hide hY
      have hl2z : g2 < z.heap.size := G2Z.out.lt
      have AO3 := hide (apartQ aX hl2z)
      have AN3 := hide (apartQ aY hl2z)
      clear h1 hX hY aX aY hC hl2z
      go_wp2_with (first | (refine step_load wCl rfl rfl GY.out _ HLY.out (by rw [List.drop_zero, List.take_of_length_le (by rw [HLY.out]; omega)]) ?_) | (refine step_storeA wCl rfl rfl rfl G2Y.out HLY.out (Cv.one _) HZ0.out ?_))
      intro U hU hbU
      go_wp2
      refine bodyPost_ret (results_wide rfl wCl _ _ rfl hU HLY.out) rfl ⟨a6, c6, a11, c11, a15, c15, a21, c21, a25, c25, rfl, ?_, BY.out.trans (hbU.below hg2)⟩
      exact ⟨HO.out, HI.out.bo, HN.out, HI.out.bn, DY.out.butQ hbU HAP2.out, XY.out.but hbU AX3.out, HI.out.hx, YY.out.but hbU AY3.out, HI.out.hy, OY.out.butQ hbU AO3.out, NY.out.butQ hbU AN3.out⟩

end Go.Proofs.YtconeobaohmbnaaDoor

/-
  From how an argument is read as data to what the walks are told of it: a claim.
-/
namespace Go.Proofs.YtconeobaohmbnaaDoor
open Go.ChangeShapes Go.WideShapes Go.ChangeAt Go.RowKit
set_option linter.unusedVariables false

set_option maxRecDepth 100000 in
theorem dsC_trod {H : Type} {enc : TypeId × Value → H} {W : World} {fuel : Nat} {cs : List Value} {x : DataW H × List MemPlace}
    (hf : DataW.trod enc Tryd.prog W 0 (fun _ => true) true fuel 24 cs = some x) :
    ∃ a len cap xs, cs = [.slice a len cap] ∧ (cap ≤ 4398046511104 → Ds W a len cap xs) ∧ ((x.1 = .nil ∧ cap = 0) ∨ ∃ es rs, x.1 = .slice es rs ∧ es.length + rs.length = cap) := by
  rcases Deep.open_slice undDl hf with ⟨hcs, hx⟩ | ⟨x', len, cap, m, n, D, Pl, hcs, _, hl, hm, hmm, hx, hel⟩
  · refine ⟨none, 0, 0, [], hcs, fun _ => ⟨Nat.le_refl _, by omega, fun _ => rfl, Sl.none0 _⟩, .inl ⟨?_, rfl⟩⟩
    rw [hx]
  · have hmc : m = cap := by simpa using hmm
    subst hmc
    have cell : ∀ j, j < 32 * m → ∃ z : Int, W.cell? (x'.add j) = some (.int .u8 z) ∧ 0 ≤ z ∧ z ≤ 255 := by
      intro j hj
      obtain ⟨cs', h1, h2⟩ := hel (j / 32) (by omega)
      rw [cellsD] at h1
      obtain ⟨_, hlen, hcell⟩ := World.cells?_some h1
      obtain ⟨ys, q, _, _, _, hyl, hy⟩ := DataW.trod_array aD.und h2
      rw [aD.cells] at hy
      have e := hy (j % 32) (by omega)
      have hys : ys[j % 32]? = some ys[j % 32] := List.getElem?_eq_getElem (by omega)
      rw [hys, Nat.mul_one, List.drop_eq_getElem_cons (by omega)] at e
      simp only [List.take_succ_cons, List.take_zero] at e
      obtain ⟨z, hz, _, hwf⟩ := DataW.trod_int aD.elem e
      simp only [List.cons.injEq, and_true] at hz
      refine ⟨z, ?_, bounds_u8 hwf⟩
      have hc := hcell (j % 32) (by omega)
      rw [List.getElem?_eq_getElem (by omega), hz] at hc
      have ea : (x'.add (j / 32 * 32)).add (j % 32) = x'.add j := by
        rw [Deep.add_add, Nat.div_add_mod']
      rwa [ea] at hc
    refine ⟨some x', len, m, (List.range (32 * len)).map (fun j => intOf ((W.cell? (x'.add j)).getD undef)), hcs, fun hc => ⟨hl, by omega, (fun e => by cases e), by simp, Nat.le_refl _, by omega, by omega, ?_, (fun e => by cases e), fun h0 => ?_⟩, .inr ⟨_, _, by rw [hx], by simp; omega⟩⟩
    · intro y hy
      simp only [List.mem_map, List.mem_range] at hy
      obtain ⟨j, hj, rfl⟩ := hy
      obtain ⟨z, hz, hb⟩ := cell j (by omega)
      simp only [hz, Option.getD_some, intOf]
      exact hb
    · obtain ⟨b, off, spot⟩ := x'
      have hs : spot = none := by
        obtain ⟨z, hz, _⟩ := cell 0 (by omega)
        simpa [Addr.add] using World.cell?_spot hz
      subst hs
      refine ⟨b, off, rfl, fun i hi => ?_⟩
      obtain ⟨z, hz, _⟩ := cell i (by omega)
      rw [Addr.add_lit] at hz
      rw [hz]
      simp [List.getD, hi, Addr.add_lit, hz, intOf]
set_option maxRecDepth 100000 in
theorem slC_trod {H : Type} {enc : TypeId × Value → H} {W : World} {fuel : Nat} {cs : List Value} {x : DataW H × List MemPlace}
    (hf : DataW.trod enc Tryd.prog W 0 (fun _ => true) true fuel 25 cs = some x) :
    ∃ a len cap xs, cs = [.slice a len cap] ∧ (cap ≤ 140737488351232 → Sl W a len cap xs) ∧ ((x.1 = .nil ∧ cap = 0) ∨ ∃ es rs, x.1 = .slice es rs ∧ es.length + rs.length = cap) := by
  rcases open_ints undBs undB (by kernel_rfl) hf with ⟨hcs, hx⟩ | ⟨x', l, c, zs, hcs, _, hl, hm, hz, hx, hcell, hwz⟩
  · refine ⟨none, 0, 0, [], hcs, fun _ => Sl.none0 _, .inl ⟨?_, rfl⟩⟩
    rw [hx]
  · simp only [if_true] at hz
    refine ⟨some x', l, c, zs.take l, hcs, fun hc => ⟨by simp; omega, hl, by omega, by omega, fun y hy => bounds_u8 (hwz y (List.mem_of_mem_take hy)), (fun e => by cases e), fun h0 => ?_⟩, .inr ⟨_, _, by rw [hx], by simp [lits]; omega⟩⟩
    obtain ⟨b, off, spot⟩ := x'
    have hs : spot = none := by simpa [Addr.add] using World.cell?_spot (hcell 0 (by omega))
    subst hs
    refine ⟨b, off, rfl, fun i hi => ?_⟩
    have e := hcell i (by omega)
    rw [Addr.add_lit] at e
    rw [e]
    simp [List.getD, hi]
set_option maxRecDepth 100000 in
theorem digC_trod {H : Type} {enc : TypeId × Value → H} {W : World} {fuel : Nat} {cs : List Value} {x : DataW H × List MemPlace}
    (hf : DataW.trod enc Tryd.prog W 0 (fun _ => true) true fuel 23 cs = some x) (hl : cs.length = 32) :
    ∃ xs : List Int, cs = u8s xs ∧ xs.length = 32 ∧ isB xs := by
  obtain ⟨ys, m, _, _, _, hyl, hy⟩ := DataW.trod_array aD.und hf
  rw [aD.cells] at hy
  have key : ∀ i, i < 32 → ∃ z : Int, cs[i]? = some (.int .u8 z) ∧ 0 ≤ z ∧ z ≤ 255 := by
    intro i hi
    have e := hy i hi
    have hys : ys[i]? = some ys[i] := List.getElem?_eq_getElem (by omega)
    rw [hys, Nat.mul_one, List.drop_eq_getElem_cons (by omega)] at e
    simp only [List.take_succ_cons, List.take_zero] at e
    obtain ⟨z, hz, _, hwf⟩ := DataW.trod_int aD.elem e
    simp only [List.cons.injEq, and_true] at hz
    exact ⟨z, by rw [List.getElem?_eq_getElem (by omega), hz], bounds_u8 hwf⟩
  refine ⟨(List.range 32).map (fun i => intOf (cs[i]?.getD undef)), ?_, by simp, ?_⟩
  · apply List.ext_getElem?
    intro i
    by_cases hi : i < 32
    · obtain ⟨z, hz, _⟩ := key i hi
      rw [hz, u8s_get _ _ (by simp; exact hi)]
      simp [List.getD, hi, hz, intOf]
    · rw [List.getElem?_eq_none (by omega), List.getElem?_eq_none (by rw [u8s_length]; simp; omega)]
  · intro y hy'
    simp only [List.mem_map, List.mem_range] at hy'
    obtain ⟨j, hj, rfl⟩ := hy'
    obtain ⟨z, hz, hb⟩ := key j hj
    simp only [hz, Option.getD_some, intOf]
    exact hb
theorem cutC {L x : List Value} {k n : Nat} (h : (L.drop k).take n = x) (hx : x.length = n) : L.drop k = x ++ L.drop (k + n) := by
  rw [← h, ← List.drop_drop, List.take_append_drop]
theorem fldC {T : TypeId} {fs : Array Field} (hu : Tryd.prog.underlying T = some (.struct fs)) {H : Type} {ys : List (DataW H × List MemPlace)} {j : Nat} {f : Field} (hf : fs[j]? = some f) {y : DataW H × List MemPlace} (hy : ys[j]? = some y)
    (hall : ∀ n ∈ (DataW.agg (ys.map (·.1))).weights Tryd.prog T, n ≤ 140737488351232) : ∀ n ∈ y.1.weights Tryd.prog f.type, n ≤ 140737488351232 := by
  intro n hn
  apply hall
  simp only [DataW.weights, hu]
  exact DataW.weights_mem_each (j := j) (t := f.type) (d := y.1) (by simp [hf]) (by simp [hy]) n hn
theorem capB {H : Type} {y : DataW H × List MemPlace} {cap : Nat} (hall : ∀ n ∈ y.1.weights Tryd.prog 25, n ≤ 140737488351232) (h : (y.1 = .nil ∧ cap = 0) ∨ ∃ es rs, y.1 = .slice es rs ∧ es.length + rs.length = cap) : cap ≤ 140737488351232 := by
  rcases h with ⟨_, rfl⟩ | ⟨es, rs, e4, hl⟩
  · omega
  · have hm : (es.length + rs.length) * Tryd.prog.bytesOf 5 ∈ y.1.weights Tryd.prog 25 := by
      rw [e4]
      simp [DataW.weights]
    have := hall _ hm
    rw [bytes5, hl] at this
    omega
theorem capD {H : Type} {y : DataW H × List MemPlace} {cap : Nat} (hall : ∀ n ∈ y.1.weights Tryd.prog 24, n ≤ 140737488351232) (h : (y.1 = .nil ∧ cap = 0) ∨ ∃ es rs, y.1 = .slice es rs ∧ es.length + rs.length = cap) : cap ≤ 4398046510976 := by
  rcases h with ⟨_, rfl⟩ | ⟨es, rs, e4, hl⟩
  · omega
  · have hm : (es.length + rs.length) * Tryd.prog.bytesOf 23 ∈ y.1.weights Tryd.prog 24 := by
      rw [e4]
      simp [DataW.weights]
    have := hall _ hm
    rw [bytesD, hl] at this
    omega
theorem allC {T : TypeId} {H : Type} {d : DataW H} {ts : List TypeId} {ds : List (DataW H)} {j : Nat} (hsz : (DataW.weightsEach Tryd.prog ts ds).all (· ≤ reachBytes) = true) (ht : ts[j]? = some T) (hd : ds[j]? = some d) : ∀ n ∈ d.weights Tryd.prog T, n ≤ 140737488351232 := fun n hn => by
  have := List.all_eq_true.1 hsz _ (DataW.weights_mem_each ht hd _ hn)
  exact of_decide_eq_true this
theorem ciC : Tryd.prog.cellsOf 3 = 1 := by kernel_rfl
theorem csC : Tryd.prog.cellsOf 24 = 1 := by kernel_rfl
theorem cbC : Tryd.prog.cellsOf 25 = 1 := by kernel_rfl
theorem cdC : Tryd.prog.cellsOf 23 = 32 := by kernel_rfl
theorem uiC : Tryd.prog.underlying 3 = some (.int .i64) := by kernel_rfl

set_option maxRecDepth 100000 in
set_option maxHeartbeats 1000000 in
theorem clm_of {H : Type} {enc : TypeId × Value → H} {W : World} {base : Nat} {v : Value} {d : DataW H} {p : List MemPlace} {ts : List TypeId} {ds : List (DataW H)} (j : Nat)
    (hv : Value.okWide Tryd.prog W .any base 27 v) (h : DataW.Trod enc Tryd.prog W 0 (fun _ => true) true 27 v d p)
    (hsz : (DataW.weightsEach Tryd.prog ts ds).all (· ≤ reachBytes) = true) (ht : ts[j]? = some 27) (hd : ds[j]? = some d) :
    ∃ c : Cv, v = .agg c.cells.toArray ∧ c.In W := by
  have hu := Tryd.underlying27
  have hall := allC hsz ht hd
  obtain ⟨cs, rfl, hsz2⟩ := okWide_struct hu hv
  obtain ⟨L⟩ := cs
  have hL : L.length = 72 := by
    have e : Tryd.prog.cellsOf 27 = 72 := by kernel_rfl
    rw [e] at hsz2
    simpa using hsz2
  obtain ⟨fuel, hf⟩ := h
  obtain ⟨xs, n, _, hx, _, hxl, hfs⟩ := DataW.trod_struct hu hf
  simp only [Prod.mk.injEq] at hx
  rw [hx.1] at hall
  simp only [Value.cells] at hfs
  match xs, hxl with
  | [y0, y1, y2, y3, y4, y5, y6, y7, y8, y9], _ =>
    have h0 : DataW.trod enc Tryd.prog W 0 (fun _ => true) true n 3 ((L.drop 0).take (Tryd.prog.cellsOf 3)) = some y0 := hfs 0 _ rfl
    have h1 : DataW.trod enc Tryd.prog W 0 (fun _ => true) true n 3 ((L.drop 1).take (Tryd.prog.cellsOf 3)) = some y1 := hfs 1 _ rfl
    have h2 : DataW.trod enc Tryd.prog W 0 (fun _ => true) true n 23 ((L.drop 2).take (Tryd.prog.cellsOf 23)) = some y2 := hfs 2 _ rfl
    have h3 : DataW.trod enc Tryd.prog W 0 (fun _ => true) true n 23 ((L.drop 34).take (Tryd.prog.cellsOf 23)) = some y3 := hfs 3 _ rfl
    have h4 : DataW.trod enc Tryd.prog W 0 (fun _ => true) true n 24 ((L.drop 66).take (Tryd.prog.cellsOf 24)) = some y4 := hfs 4 _ rfl
    have h5 : DataW.trod enc Tryd.prog W 0 (fun _ => true) true n 3 ((L.drop 67).take (Tryd.prog.cellsOf 3)) = some y5 := hfs 5 _ rfl
    have h6 : DataW.trod enc Tryd.prog W 0 (fun _ => true) true n 25 ((L.drop 68).take (Tryd.prog.cellsOf 25)) = some y6 := hfs 6 _ rfl
    have h7 : DataW.trod enc Tryd.prog W 0 (fun _ => true) true n 25 ((L.drop 69).take (Tryd.prog.cellsOf 25)) = some y7 := hfs 7 _ rfl
    have h8 : DataW.trod enc Tryd.prog W 0 (fun _ => true) true n 24 ((L.drop 70).take (Tryd.prog.cellsOf 24)) = some y8 := hfs 8 _ rfl
    have h9 : DataW.trod enc Tryd.prog W 0 (fun _ => true) true n 24 ((L.drop 71).take (Tryd.prog.cellsOf 24)) = some y9 := hfs 9 _ rfl
    have q4 : ∀ n ∈ y4.1.weights Tryd.prog 24, n ≤ 140737488351232 := fldC hu (j := 4) rfl (y := y4) rfl hall
    have q6 : ∀ n ∈ y6.1.weights Tryd.prog 25, n ≤ 140737488351232 := fldC hu (j := 6) rfl (y := y6) rfl hall
    have q7 : ∀ n ∈ y7.1.weights Tryd.prog 25, n ≤ 140737488351232 := fldC hu (j := 7) rfl (y := y7) rfl hall
    have q8 : ∀ n ∈ y8.1.weights Tryd.prog 24, n ≤ 140737488351232 := fldC hu (j := 8) rfl (y := y8) rfl hall
    have q9 : ∀ n ∈ y9.1.weights Tryd.prog 24, n ≤ 140737488351232 := fldC hu (j := 9) rfl (y := y9) rfl hall
    rw [ciC] at h0 h1 h5
    rw [cdC] at h2 h3
    rw [csC] at h4 h8 h9
    rw [cbC] at h6 h7
    obtain ⟨m, e0, _, _⟩ := DataW.trod_int uiC h0
    obtain ⟨n', e1, _, _⟩ := DataW.trod_int uiC h1
    obtain ⟨o, e2, lo, bo⟩ := digC_trod h2 (by simp [hL])
    obtain ⟨nw, e3, ln, bn⟩ := digC_trod h3 (by simp [hL])
    obtain ⟨a4, l4, c4, x4, e4, s4, w4⟩ := dsC_trod h4
    obtain ⟨i, e5, _, _⟩ := DataW.trod_int uiC h5
    obtain ⟨a6, l6, c6, x6, e6, s6, w6⟩ := slC_trod h6
    obtain ⟨a7, l7, c7, x7, e7, s7, w7⟩ := slC_trod h7
    obtain ⟨a8, l8, c8, x8, e8, s8, w8⟩ := dsC_trod h8
    obtain ⟨a9, l9, c9, x9, e9, s9, w9⟩ := dsC_trod h9
    have k4 := capD q4 w4
    have k6 := capB q6 w6
    have k7 := capB q7 w7
    have k8 := capD q8 w8
    have k9 := capD q9 w9
    have t6 := s6 k6
    have t7 := s7 k7
    have z6 : l6 ≤ 140737488354304 := by have := t6.hcap; omega
    have z7 : l7 ≤ 140737488354304 := by have := t7.hcap; omega
    refine ⟨⟨m, n', o, nw, i, a4, l4, c4, x4, a6, l6, c6, x6, a7, l7, c7, x7, a8, l8, c8, x8, a9, l9, c9, x9⟩, ?_, lo, bo, ln, bn, s4 (by omega), t6, z6, t7, z7, s8 (by omega), s9 (by omega)⟩
    have d0 := cutC e0 rfl
    have d1 := cutC e1 rfl
    have d2 := cutC e2 (by rw [u8s_length, lo])
    have d3 := cutC e3 (by rw [u8s_length, ln])
    have d4 := cutC e4 rfl
    have d5 := cutC e5 rfl
    have d6 := cutC e6 rfl
    have d7 := cutC e7 rfl
    have d8 := cutC e8 rfl
    have d9 := cutC e9 rfl
    have dd : L.drop 72 = [] := List.drop_of_length_le (by omega)
    simp only [Nat.reduceAdd] at d0 d1 d2 d3 d4 d5 d6 d7 d8 d9
    have e : L = Cv.cells ⟨m, n', o, nw, i, a4, l4, c4, x4, a6, l6, c6, x6, a7, l7, c7, x7, a8, l8, c8, x8, a9, l9, c9, x9⟩ := by
      rw [← List.drop_zero (l := L), d0, d1, d2, d3, d4, d5, d6, d7, d8, d9, dd]
      rfl
    rw [e]

end Go.Proofs.YtconeobaohmbnaaDoor

/-
  The walk of ExtractAccepts.
-/
namespace Go.Proofs.YtconeobaohmbnaaDoor
open Go.RowKit
set_option linter.unusedVariables false

theorem uCl : ∃ fs, Tryd.prog.underlying 27 = some (.struct fs) := ⟨_, Tryd.underlying27⟩
theorem Cv.range {c : Cv} {w : World} {g : Nat} {t : TypeId} (h : Blk w g t c.cells) : w.rangeAt g 0 c.cells := h.range 0 c.cells (by simp)
set_option maxRecDepth 100000 in
set_option maxHeartbeats 2000000 in
theorem accepts_walk (c : Cv) (w : World) (hi : c.In w) (hk : KT w) :
    Calls Tryd.prog 3 #[.agg c.cells.toArray] w fun r w' => r = .returned (.bool true) ∧ Below w.heap.size w w' := by
  have HI := hide hi
  have HK := hide hk
  have HL := hide (Cv.length hi.lo hi.ln)
  clear hi hk
  obtain ⟨fs, hu⟩ := uCl
  go_enter Tryd.func3, Tryd.ntmps3
  go_wp2_with (refine step_box rfl rfl ?_)
  intro z g1 hr1 hl1 hb1
  have G1 := hide hr1
  have B1 := hide hb1
  clear hr1 hl1 hb1
  go_wp2_with fail
  refine wp_region_noPanic ?_
  have Z0 := hide ((Below.refl z.heap.size z).drew)
  have HS : Hid ((Tryd.prog.info? 27).map (·.size) = some c.cells.length) := hide (by rw [wCl.size, HL.out])
  refine wp_region_held_drew (S := fun v : World => Below z.heap.size z v) (by kernel_rfl) Z0.out (fun hHeld => ?_)
  refine takeH 0 3 (.agg c.cells.toArray) hHeld rfl rfl (by kernel_rfl) (by kernel_rfl) (by kernel_rfl) (fun _ _ _ h => h) (yieldsIf_load_mid (by rfl) _ _ rfl g1 0 rfl _ _ (fun v hv => Cv.range (G1.out.on hv)) hu rfl HS.out) ?_
  simp only [Act.put, List.setIfInBounds_toArray, List.set_cons_zero, List.set_cons_succ]
  refine takeH 3 6 (.agg c.cells.toArray) hHeld rfl rfl (by kernel_rfl) (by kernel_rfl) (by kernel_rfl) (fun _ _ _ h => h) (yieldsIf_load_mid (by rfl) _ _ rfl g1 0 rfl _ _ (fun v hv => Cv.range (G1.out.on hv)) hu rfl HS.out) ?_
  simp only [Act.put, List.setIfInBounds_toArray, List.set_cons_zero, List.set_cons_succ]
  refine wpAnyH_ready (rs := [1]) (by kernel_rfl) (by simp) (AllReadyH.cons rfl (fun K hK => ?_) AllReadyH.nil)
  rw [if_pos (by rfl)]
  go_simp
  refine (lent9_any c _ ((HI.out.below B1.out).below Z0.out)).mono ?_
  rintro e v1 ⟨aq, cs, ax, cx, ay, cy, ao, co, an, cn, rfl, hin, hv1⟩
  have Z1 := hide (Z0.out.trans (hv1.mono Z0.out.size))
  have HIN := hide hin
  clear hin
  refine hK.out _ _ Z1.out (fun hHeld => ?_)
  clear hK K
  refine wpAnyH_ready (rs := [2]) (by kernel_rfl) (by simp) (AllReadyH.cons rfl (fun K hK => ?_) AllReadyH.nil)
  rw [if_pos (by rfl)]
  go_simp
  refine (accepted_any _ _ HIN.out ((HK.out.below B1.out HK.out.lt).below Z1.out (HK.out.below B1.out HK.out.lt).lt)).mono ?_
  rintro e v2 ⟨rfl, hv2⟩
  have Z2 := hide (Z1.out.trans (hv2.mono Z1.out.size))
  rw [show (c.moved aq cs ax cx ay cy ao co an cn).acc = c.acc from rfl]
  refine hK.out _ _ Z2.out (fun hHeld => ?_)
  clear hK K
  refine wpAnyH_ready (rs := [4]) (by kernel_rfl) (by simp) (AllReadyH.cons rfl (fun K hK => ?_) AllReadyH.nil)
  rw [if_pos (by rfl)]
  go_simp
  refine (acceptedD_any c _ ((HI.out.below B1.out).below Z2.out)).mono ?_
  rintro e v3 ⟨rfl, hv3⟩
  have Z3 := hide (Z2.out.trans (hv3.mono Z2.out.size))
  refine hK.out _ _ Z3.out (fun hHeld => ?_)
  clear hK K
  refine takeH 5 8 (.bool true) hHeld rfl rfl (by kernel_rfl) (by kernel_rfl) (by kernel_rfl) (fun _ _ _ h => h) (Or.inl ⟨by rfl, fun w _ => by go_simp⟩) ?_
  simp only [Act.put, List.setIfInBounds_toArray, List.set_cons_zero, List.set_cons_succ]
  refine takeH 6 2 (.bool true) hHeld rfl rfl (by kernel_rfl) (by kernel_rfl) (by kernel_rfl) (fun _ _ _ h => h) (Or.inl ⟨by rfl, fun w _ => by go_simp⟩) ?_
  simp only [Act.put, List.setIfInBounds_toArray, List.set_cons_zero, List.set_cons_succ]
  refine wpAnyH_done (by kernel_rfl) ?_ _
  refine NoPanic.normal ?_
  clear hHeld hu
  go_wp2
  go_ret
  exact ⟨rfl, B1.out.trans (Z3.out.mono B1.out.size)⟩

end Go.Proofs.YtconeobaohmbnaaDoor
