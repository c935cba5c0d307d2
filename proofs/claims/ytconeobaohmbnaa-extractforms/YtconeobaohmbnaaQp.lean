/-
  The bytes of leaves' and nodes' digests: LeafPreimage, Preimage.
-/
import Derived.Test.YtconeobaohmbnaaQg
namespace Go.Proofs.Ytconeobaohmbnaa
open Go.RowKit
set_option linter.unusedVariables false

theorem build_1q (q : Int) (w : World) : (Instr.buildSlice 22 1 #[(0, .int .u8 q)]).run Try.prog w = .ok (.slice (some ⟨w.heap.size, 0, none⟩) 1 1) (w.alloc (.cells #[.int .u8 q] 5)) := by kernel_rfl
theorem build_2q (a b : Option Addr) (l c m d : Nat) (w : World) : (Instr.buildSlice 29 2 #[(0, .slice a l c), (1, .slice b m d)]).run Try.prog w = .ok (.slice (some ⟨w.heap.size, 0, none⟩) 2 2) (w.alloc (.cells #[.slice a l c, .slice b m d] 22)) := by kernel_rfl
theorem build_3q (a b e : Option Addr) (l c m d n f : Nat) (w : World) : (Instr.buildSlice 29 3 #[(0, .slice a l c), (1, .slice b m d), (2, .slice e n f)]).run Try.prog w = .ok (.slice (some ⟨w.heap.size, 0, none⟩) 3 3) (w.alloc (.cells #[.slice a l c, .slice b m d, .slice e n f] 22)) := by kernel_rfl
theorem slice_Dq (g : Nat) (v : World) : (Instr.sliceAt 24 (.pointer (some ⟨g, 0, none⟩)) none none none).run Try.prog v = .ok (.slice (some ⟨g, 0, none⟩) 32 32) v := by kernel_rfl
theorem Blk.slQ {w : World} {g : Nat} {t : TypeId} {xs : List Int} (h : Blk w g t (u8s xs)) (hb : isB xs) (hl : xs.length ≤ 140737488355328) : Sl w (some ⟨g, 0, none⟩) xs.length xs.length xs := by
  refine ⟨rfl, Nat.le_refl _, by omega, hl, hb, (fun e => by cases e), fun _ => ⟨g, 0, rfl, fun i hi => ?_⟩⟩
  rw [Nat.zero_add, h.cell]
  exact u8s_get xs i hi
theorem one_slQ (w : World) (x : Int) (hx : 0 ≤ x ∧ x ≤ 255) : Sl (w.alloc (.cells #[.int .u8 x] 5)) (some ⟨w.heap.size, 0, none⟩) 1 1 [x] := by
  have := (Blk.made w 5 (u8s [x])).slQ (by intro y hy; simp at hy; omega) (by simp)
  exact this
section
variable {dst : Option Tmp} {ty : TypeId} {pos : String} {aft : Array Edge} {gd : Option (Nat × Bool)} {ops : Array Oper} {rest : List Oper} {a : Act} {w : World} {K : Act → World → Prop} {Q : Exit → Act → World → Prop}
set_option maxRecDepth 100000 in
theorem wp_1q {x : Operand} {q : Int} (hq : 0 ≤ q ∧ q ≤ 255) (hx : a.eval x = .int .u8 q) (h : ∀ w1 g, Sl w1 (some ⟨g, 0, none⟩) 1 1 [q] → Below w.heap.size w w1 → K (a.put dst (.slice (some ⟨g, 0, none⟩) 1 1)) w1) :
    Oper.wp Try.prog ⟨dst, .buildSlice 22 1 #[(0, x)], ty, pos, aft, gd⟩ a w K Q := by
  refine wp_runV (.slice (some ⟨w.heap.size, 0, none⟩) 1 1) (w.alloc (.cells #[.int .u8 q] 5)) ?_ (h _ _ (one_slQ w q hq) ((Below.refl _ _).alloc (Nat.le_refl _) _))
  unfold execOp
  simp only [List.map_toArray, List.map_cons, List.map_nil, hx]
  simp only [Sem.run_bind, build_1q, Result.andThen_ok, Sem.run_pure]
set_option maxRecDepth 100000 in
theorem wp_2q {x y : Operand} {p q : Option Addr} {l c m d : Nat} (hx : a.eval x = .slice p l c) (hy : a.eval y = .slice q m d) (h : ∀ w1 g, Blk w1 g 22 [.slice p l c, .slice q m d] → Below w.heap.size w w1 → K (a.put dst (.slice (some ⟨g, 0, none⟩) 2 2)) w1) :
    Oper.wp Try.prog ⟨dst, .buildSlice 29 2 #[(0, x), (1, y)], ty, pos, aft, gd⟩ a w K Q := by
  refine wp_runV (.slice (some ⟨w.heap.size, 0, none⟩) 2 2) (w.alloc (.cells #[.slice p l c, .slice q m d] 22)) ?_ (h _ _ (Blk.made w _ [.slice p l c, .slice q m d]) ((Below.refl _ _).alloc (Nat.le_refl _) _))
  unfold execOp
  simp only [List.map_toArray, List.map_cons, List.map_nil, hx, hy]
  simp only [Sem.run_bind, build_2q, Result.andThen_ok, Sem.run_pure]
set_option maxRecDepth 100000 in
theorem wp_3q {x y z : Operand} {p q r : Option Addr} {l c m d n f : Nat} (hx : a.eval x = .slice p l c) (hy : a.eval y = .slice q m d) (hz : a.eval z = .slice r n f) (h : ∀ w1 g, Blk w1 g 22 [.slice p l c, .slice q m d, .slice r n f] → Below w.heap.size w w1 → K (a.put dst (.slice (some ⟨g, 0, none⟩) 3 3)) w1) :
    Oper.wp Try.prog ⟨dst, .buildSlice 29 3 #[(0, x), (1, y), (2, z)], ty, pos, aft, gd⟩ a w K Q := by
  refine wp_runV (.slice (some ⟨w.heap.size, 0, none⟩) 3 3) (w.alloc (.cells #[.slice p l c, .slice q m d, .slice r n f] 22)) ?_ (h _ _ (Blk.made w _ [.slice p l c, .slice q m d, .slice r n f]) ((Below.refl _ _).alloc (Nat.le_refl _) _))
  unfold execOp
  simp only [List.map_toArray, List.map_cons, List.map_nil, hx, hy, hz]
  simp only [Sem.run_bind, build_3q, Result.andThen_ok, Sem.run_pure]
set_option maxRecDepth 100000 in
theorem step_1q {x : Operand} {q : Int} (hq : 0 ≤ q ∧ q ≤ 255) (hw : Region.wanted ⟨dst, .buildSlice 22 1 #[(0, x)], ty, pos, aft, gd⟩ (yielded ops a.tmps) = true) (hx : a.eval x = .int .u8 q)
    (h : ∀ w1 g, Sl w1 (some ⟨g, 0, none⟩) 1 1 [q] → Below w.heap.size w w1 → wpList Try.prog ops Q rest (a.put dst (.slice (some ⟨g, 0, none⟩) 1 1)) w1) :
    wpList Try.prog ops Q (⟨dst, .buildSlice 22 1 #[(0, x)], ty, pos, aft, gd⟩ :: rest) a w :=
  BigFrame.wpList_want hw fun K hK => wp_1q hq hx fun w1 g h1 h2 => hK _ _ (h w1 g h1 h2)
set_option maxRecDepth 100000 in
theorem step_2q {x y : Operand} {p q : Option Addr} {l c m d : Nat} (hw : Region.wanted ⟨dst, .buildSlice 29 2 #[(0, x), (1, y)], ty, pos, aft, gd⟩ (yielded ops a.tmps) = true) (hx : a.eval x = .slice p l c) (hy : a.eval y = .slice q m d)
    (h : ∀ w1 g, Blk w1 g 22 [.slice p l c, .slice q m d] → Below w.heap.size w w1 → wpList Try.prog ops Q rest (a.put dst (.slice (some ⟨g, 0, none⟩) 2 2)) w1) :
    wpList Try.prog ops Q (⟨dst, .buildSlice 29 2 #[(0, x), (1, y)], ty, pos, aft, gd⟩ :: rest) a w :=
  BigFrame.wpList_want hw fun K hK => wp_2q hx hy fun w1 g h1 h2 => hK _ _ (h w1 g h1 h2)
end
theorem Own.placeQ {w : World} {B : Nat} {v : Value} {xs : List Int} (h : Own w B v xs) (h0 : 0 < xs.length) : ∃ g cap, v = .slice (some ⟨g, 0, none⟩) xs.length cap ∧ B ≤ g := by
  rcases h.2 with ⟨rfl, e⟩ | ⟨g, cap, cur, rfl, hB, _⟩
  · omega
  · exact ⟨g, cap, rfl, hB⟩
/-- A new slice that holds these bytes. -/
def New (w w' : World) (v : Value) (xs : List Int) : Prop := ∃ g cap, v = .slice (some ⟨g, 0, none⟩) xs.length cap ∧ w.heap.size ≤ g ∧ Own w' w.heap.size v xs
theorem New.sl {w w' : World} {v : Value} {xs : List Int} (h : New w w' v xs) (hb : isB xs) (hl : xs.length ≤ 140737488355328) : ∃ g cap, v = .slice (some ⟨g, 0, none⟩) xs.length cap ∧ w.heap.size ≤ g ∧ Sl w' (some ⟨g, 0, none⟩) xs.length cap xs := by
  obtain ⟨g, cap, rfl, hg, ho⟩ := h
  obtain ⟨a, c, e, hs⟩ := ho.sl' hb hl
  cases e
  exact ⟨g, cap, rfl, hg, hs⟩

set_option maxRecDepth 100000 in
set_option maxHeartbeats 1000000 in
theorem leafPre_any (a : Option Addr) (l c : Nat) (xs : List Int) (w : World) (hs : Sl w a l c xs) (hl : l ≤ 140737488355327) :
    Calls Try.prog 4 #[.slice a l c] w fun r w' => ∃ v, r = .returned v ∧ New w w' v (0 :: xs) ∧ Below w.heap.size w w' := by
  have HS := hide hs
  clear hs
  go_enter Try.func4, Try.ntmps4
  go_wp2_with (refine step_1q (q := 0) (by omega) rfl rfl ?_)
  intro w1 g1 h1 hb1
  go_wp2_with (refine step_2q rfl rfl rfl ?_)
  intro w2 g2 h2 hb2
  have HSS : Hid (SS w2 g2 [(some ⟨g1, 0, none⟩, 1, 1), (a, l, c)] [[0], xs]) := hide ⟨h2, rfl, fun i hi => by
    match i, hi with
    | 0, _ => exact h1.below hb2
    | 1, _ => exact (HS.out.below hb1).below hb2
    | i + 2, hi => exact absurd hi (by simp)⟩
  have HFL : Hid (fl [[0], xs] 2 = 0 :: xs) := hide (by simp [fl])
  have HB := hide (hb1.trans (hb2.mono hb1.size))
  clear h1 hb1 h2 hb2
  go_wp2_with fail
  refine (concat_any g2 2 _ _ _ HSS.out rfl (by omega) (by rw [HFL.out, List.length_cons, HS.out.hlen]; omega)).mono ?_
  rintro r w3 ⟨v, rfl, ho, hb3⟩
  rw [HFL.out] at ho
  have HO := hide (ho.baseQ HB.out.size)
  have HB3 := hide (HB.out.trans (hb3.mono HB.out.size))
  clear ho hb3
  go_wp2
  go_ret
  obtain ⟨g, cap, e, hg⟩ := HO.out.placeQ (by simp)
  exact ⟨v, rfl, ⟨g, cap, e, hg, HO.out⟩, HB3.out⟩

set_option maxRecDepth 100000 in
set_option maxHeartbeats 1000000 in
theorem pre_any (l r : List Int) (w : World) (hl : l.length = 32) (hr : r.length = 32) (hlb : isB l) (hrb : isB r) :
    Calls Try.prog 5 #[.agg (u8s l).toArray, .agg (u8s r).toArray] w fun e w' => ∃ v, e = .returned v ∧ New w w' v (1 :: (l ++ r)) ∧ Below w.heap.size w w' := by
  have HL := hide hl
  have HR := hide hr
  have HLB := hide hlb
  have HRB := hide hrb
  have HFL : Hid (fl [[1], l, r] 3 = 1 :: (l ++ r)) := hide (by simp [fl])
  have H65 : Hid ((1 :: (l ++ r)).length = 65) := hide (by simp [hl, hr])
  clear hl hr hlb hrb
  go_enter Try.func5, Try.ntmps5
  go_wp2_with (refine step_box rfl rfl ?_)
  intro w1 g2 hr1 hl1 hb1
  have G2 := hide hr1
  clear hr1
  go_wp2_with (refine step_box rfl rfl ?_)
  intro w2 g3 hr2 hl2 hb2
  have SR := hide (hr2.slQ HRB.out (by rw [HR.out]; omega))
  have SL := hide ((G2.out.below hb2 G2.out.lt).slQ HLB.out (by rw [HL.out]; omega))
  rw [HL.out] at SL
  rw [HR.out] at SR
  have B2 := hide (hb1.trans (hb2.mono hb1.size))
  clear hr2 hb1 hb2 G2 hl1 hl2
  go_wp2_with fail
  refine wp_region_noPanic ?_
  have B0 := hide ((Below.refl w2.heap.size w2).drew)
  refine wp_region_held_drew (S := fun v : World => True) (by kernel_rfl) trivial (fun hHeld => ?_)
  refine takeH 1 6 (.slice (some ⟨g2, 0, none⟩) 32 32) hHeld rfl rfl (by kernel_rfl) (by kernel_rfl) (by kernel_rfl) (fun _ _ _ h => h) (Or.inl ⟨by rfl, fun w _ => run_op rfl (slice_Dq g2 w)⟩) ?_
  simp only [Act.put, List.setIfInBounds_toArray, List.set_cons_zero, List.set_cons_succ]
  refine takeH 2 7 (.slice (some ⟨g3, 0, none⟩) 32 32) hHeld rfl rfl (by kernel_rfl) (by kernel_rfl) (by kernel_rfl) (fun _ _ _ h => h) (Or.inl ⟨by rfl, fun w _ => run_op rfl (slice_Dq g3 w)⟩) ?_
  simp only [Act.put, List.setIfInBounds_toArray, List.set_cons_zero, List.set_cons_succ]
  refine wpAnyH_ready (rs := [0]) (by kernel_rfl) (by simp) (AllReadyH.cons rfl (fun K hK => ?_) AllReadyH.nil)
  rw [if_pos (by rfl)]
  refine wp_1q (q := 1) (by omega) rfl ?_
  intro v1 g5 h1 hb1
  have B1 := hide (B0.out.trans (hb1.mono B0.out.size))
  refine hK.out _ _ (trivial) (fun hHeld => ?_)
  clear hK K
  simp only [Act.put]
  refine wpAnyH_ready (rs := [3]) (by kernel_rfl) (by simp) (AllReadyH.cons rfl (fun K hK => ?_) AllReadyH.nil)
  rw [if_pos (by rfl)]
  refine wp_3q rfl rfl rfl ?_
  intro v2 g8 h2 hb2
  have B3 := hide (B1.out.trans (hb2.mono B1.out.size))
  have HSS : Hid (SS v2 g8 [(some ⟨g5, 0, none⟩, 1, 1), (some ⟨g2, 0, none⟩, 32, 32), (some ⟨g3, 0, none⟩, 32, 32)] [[1], l, r]) := hide ⟨h2, rfl, fun i hi => by
    match i, hi with
    | 0, _ => exact h1.below hb2
    | 1, _ => exact SL.out.below B3.out
    | 2, _ => exact SR.out.below B3.out
    | i + 3, hi => exact absurd hi (by simp)⟩
  clear h1 hb1 h2 hb2
  refine hK.out _ _ (trivial) (fun hHeld => ?_)
  clear hK K
  simp only [Act.put]
  refine wpAnyH_ready (rs := [4]) (by kernel_rfl) (by simp) (AllReadyH.cons rfl (fun K hK => ?_) AllReadyH.nil)
  rw [if_pos (by rfl)]
  go_simp
  refine (concat_any g8 3 _ _ _ HSS.out rfl (by omega) (by rw [HFL.out, H65.out]; omega)).mono ?_
  rintro e v3 ⟨v, rfl, ho, hb3⟩
  rw [HFL.out] at ho
  have HO := hide (ho.baseQ (Nat.le_trans B2.out.size B3.out.size))
  have HB3 := hide ((B2.out.trans (B3.out.mono B2.out.size)).trans (hb3.mono (Nat.le_trans B2.out.size B3.out.size)))
  clear ho hb3
  refine hK.out _ _ (trivial) (fun hHeld => ?_)
  clear hK K
  refine takeH 5 4 v hHeld rfl rfl (by kernel_rfl) (by kernel_rfl) (by kernel_rfl) (fun _ _ _ h => h) (Or.inl ⟨by rfl, fun w _ => by go_simp⟩) ?_
  simp only [Act.put, List.setIfInBounds_toArray, List.set_cons_zero, List.set_cons_succ]
  refine wpAnyH_done (by kernel_rfl) ?_ _
  refine NoPanic.normal ?_
  clear hHeld
  go_wp2
  go_ret
  obtain ⟨g, cap, e, hg⟩ := HO.out.placeQ (by simp)
  exact ⟨v, rfl, ⟨g, cap, e, hg, HO.out⟩, HB3.out⟩

end Go.Proofs.Ytconeobaohmbnaa
