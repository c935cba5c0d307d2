/-
  The walk of ExtractForms.
-/
import Derived.Test.YtconeobaohmbnaaQp
import Derived.OpenShut
namespace Go.Proofs.Ytconeobaohmbnaa
open Go.RowKit
set_option linter.unusedVariables false

theorem run_addQ {dst : Option Tmp} {ty : TypeId} {pos : String} {aft : Array Edge} {gd : Option (Nat × Bool)} {a : Act} {w : World} {x y : Operand} {xs ys : List Int} {p q : ByteArray} (hx : a.eval x = .string p) (hy : a.eval y = .string q) (hp : p = str xs) (hq : q = str ys) (hs : xs.length + ys.length ≤ 9223372036854775807) :
    (execOp a.eval ⟨dst, .binOp .add 9 x y 9, ty, pos, aft, gd⟩).run Try.prog w = .ok (.value (.string (str (xs ++ ys)))) w := by
  subst hp hq
  have h : ¬ 9223372036854775807 < (str xs).size + (str ys).size := by rw [str_size, str_size]; omega
  unfold execOp
  simp only [hx, hy]
  simp [go_sem, h]
  rw [str_append]
theorem run_eqQ {dst : Option Tmp} {ty : TypeId} {pos : String} {aft : Array Edge} {gd : Option (Nat × Bool)} {a : Act} {w : World} {x y : Operand} {p : ByteArray} (hx : a.eval x = .string p) (hy : a.eval y = .string p) :
    (execOp a.eval ⟨dst, .binOp .eql 9 x y 9, ty, pos, aft, gd⟩).run Try.prog w = .ok (.value (.bool true)) w := by
  unfold execOp
  simp only [hx, hy]
  simp [go_sem]
theorem run_neQs {dst : Option Tmp} {ty : TypeId} {pos : String} {aft : Array Edge} {gd : Option (Nat × Bool)} {a : Act} {w : World} {x y : Operand} {p : ByteArray} (hx : a.eval x = .string p) (hy : a.eval y = .string p) :
    (execOp a.eval ⟨dst, .binOp .neq 9 x y 9, ty, pos, aft, gd⟩).run Try.prog w = .ok (.value (.bool false)) w := by
  unfold execOp
  simp only [hx, hy]
  simp [go_sem]
theorem wD : Wide 24 32 := ⟨by kernel_rfl, by kernel_rfl⟩
theorem aD : Arr 24 5 .u8 32 := ⟨by kernel_rfl, by kernel_rfl, by kernel_rfl, by kernel_rfl, by kernel_rfl, by kernel_rfl⟩
theorem str_0 : ({ data := #[0] } : ByteArray) = str [0] := rfl
theorem str_1 : ({ data := #[1] } : ByteArray) = str [1] := rfl
theorem str_z : ({ data := #[90] } : ByteArray) = str [90] := rfl
theorem build_0q (w : World) : (Instr.buildSlice 22 0 #[]).run Try.prog w = .ok (.slice (some ⟨w.heap.size, 0, none⟩) 0 0) (w.alloc (.cells #[] 5)) := by kernel_rfl
section
variable {dst : Option Tmp} {ty : TypeId} {pos : String} {aft : Array Edge} {gd : Option (Nat × Bool)} {ops : Array Oper} {rest : List Oper} {a : Act} {w : World} {K : Act → World → Prop} {Q : Exit → Act → World → Prop}
theorem wp_0q (h : ∀ w1 g, Own w1 w.heap.size (.slice (some ⟨g, 0, none⟩) 0 0) [] → Below w.heap.size w w1 → K (a.put dst (.slice (some ⟨g, 0, none⟩) 0 0)) w1) :
    Oper.wp Try.prog ⟨dst, .buildSlice 22 0 #[], ty, pos, aft, gd⟩ a w K Q := by
  refine wp_runV (.slice (some ⟨w.heap.size, 0, none⟩) 0 0) (w.alloc (.cells #[] 5)) ?_ (h _ _ ⟨by simp [u8s], .inr ⟨w.heap.size, 0, #[], rfl, Nat.le_refl _, heap_alloc_new w _, Nat.le_refl _, by unfold maxLen; omega, by simp, by simp [u8s]⟩⟩ ((Below.refl _ _).alloc (Nat.le_refl _) _))
  unfold execOp
  simp only [List.map_toArray, List.map_nil]
  simp only [Sem.run_bind, build_0q, Result.andThen_ok, Sem.run_pure]
theorem wp_toStrQ {x : Operand} {sa : Option Addr} {m c : Nat} {ys : List Int} (hx : a.eval x = .slice sa m c) (hy : Sl w sa m c ys) (h : K (a.put dst (.string (str ys))) w) :
    Oper.wp Try.prog ⟨dst, .convert 22 9 x, ty, pos, aft, gd⟩ a w K Q :=
  wp_runV (.string (str ys)) w (by simp [execOp, hx, toStr hy, Result.andThen]) h
theorem step_0q (hw : Region.wanted ⟨dst, .buildSlice 22 0 #[], ty, pos, aft, gd⟩ (yielded ops a.tmps) = true)
    (h : ∀ w1 g, Own w1 w.heap.size (.slice (some ⟨g, 0, none⟩) 0 0) [] → Below w.heap.size w w1 → wpList Try.prog ops Q rest (a.put dst (.slice (some ⟨g, 0, none⟩) 0 0)) w1) :
    wpList Try.prog ops Q (⟨dst, .buildSlice 22 0 #[], ty, pos, aft, gd⟩ :: rest) a w :=
  BigFrame.wpList_want hw fun K hK => wp_0q fun w1 g h1 h2 => hK _ _ (h w1 g h1 h2)
theorem step_addQ {x y : Operand} {xs ys : List Int} {p q : ByteArray} (hw : Region.wanted ⟨dst, .binOp .add 9 x y 9, ty, pos, aft, gd⟩ (yielded ops a.tmps) = true) (hx : a.eval x = .string p) (hy : a.eval y = .string q) (hp : p = str xs) (hq : q = str ys) (hs : xs.length + ys.length ≤ 9223372036854775807)
    (h : wpList Try.prog ops Q rest (a.put dst (.string (str (xs ++ ys)))) w) : wpList Try.prog ops Q (⟨dst, .binOp .add 9 x y 9, ty, pos, aft, gd⟩ :: rest) a w :=
  step_run hw _ w (run_addQ hx hy hp hq hs) h
theorem step_neQs {x y : Operand} {p : ByteArray} (hw : Region.wanted ⟨dst, .binOp .neq 9 x y 9, ty, pos, aft, gd⟩ (yielded ops a.tmps) = true) (hx : a.eval x = .string p) (hy : a.eval y = .string p)
    (h : wpList Try.prog ops Q rest (a.put dst (.bool false)) w) : wpList Try.prog ops Q (⟨dst, .binOp .neq 9 x y 9, ty, pos, aft, gd⟩ :: rest) a w :=
  step_run hw _ w (run_neQs hx hy) h
end

set_option maxRecDepth 100000 in
set_option maxHeartbeats 2000000 in
theorem forms_walk (a : Option Addr) (len cap : Nat) (xs l r : List Int) (w : World) (hs : Sl w a len cap xs) (hcap : cap ≤ 140737488351232) (hl : l.length = 32) (hlw : ∀ x ∈ l, (Lit.int .u8 x).wf = true) (hr : r.length = 32) (hrw : ∀ x ∈ r, (Lit.int .u8 x).wf = true) :
    Calls Try.prog 3 #[.slice a len cap, .agg (u8s l).toArray, .agg (u8s r).toArray] w fun e w' => e = .returned (.bool true) ∧ Below w.heap.size w w' := by
  have hlen : len ≤ 140737488354304 := by have := hs.hcap; omega
  have hlb : isB l := fun x hx => bounds_u8 (hlw x hx)
  have hrb : isB r := fun x hx => bounds_u8 (hrw x hx)
  clear hlw hrw
  have HS := hide hs
  have HL := hide hl
  have HR := hide hr
  have HLB := hide hlb
  have HRB := hide hrb
  have HX := hide hs.hlen
  have H1 : Hid ((xs ++ [90]).length = len + 1) := hide (by simp [hs.hlen])
  have H0 : Hid ((0 :: xs).length = len + 1) := hide (by simp [hs.hlen])
  have HB90 : Hid (isB (xs ++ [90])) := hide (hs.hbyte.append (by intro y hy; simp at hy; omega))
  have HB0 : Hid (isB (0 :: xs)) := hide (by
    intro y hy
    rcases List.mem_cons.1 hy with rfl | hy
    · omega
    · exact hs.hbyte y hy)
  clear hs hl hr hlb hrb
  go_enter Try.func3, Try.ntmps3
  go_wp2_with (refine step_box rfl rfl ?_)
  intro w1 g4 hr1 hl1 hb1
  have G4 := hide hr1
  clear hr1
  go_wp2_with (refine step_box rfl rfl ?_)
  intro w2 g5 hr2 hl2 hb2
  have G5 := hide hr2
  have G42 := hide (G4.out.on hb2)
  have B2 := hide (hb1.trans (hb2.mono hb1.size))
  clear hr2 G4 hb1 hb2
  go_wp2_with (refine step_0q rfl ?_)
  intro w3 g12 ho3 hb3
  have B3 := hide (B2.out.trans (hb3.mono B2.out.size))
  go_wp2_with (refine step_append rfl rfl rfl ho3 (HS.out.below B3.out) (by simp; omega) hb3.size ?_)
  intro v14 w4 ho4 hg4 _
  rw [List.nil_append] at ho4
  have hb4 := Below.of_grown hg4 hb3.size ho3.lt
  have HO4 := hide ho4
  have B24 := hide (hb3.trans hb4)
  clear ho4 ho3 hg4 hb4 hb3
  go_wp2_with (refine step_1q (q := 90) (by omega) rfl rfl ?_)
  intro w5 g15 h5 hb5
  have B25 := hide (B24.out.trans (hb5.mono B24.out.size))
  have HO5 := hide (HO4.out.below hb5)
  go_wp2_with (refine step_append rfl rfl rfl HO5.out h5 (by rw [HX.out]; omega) B25.out.size ?_)
  intro v16 w6 ho6 hg6 _
  obtain ⟨g7, c7, e7, hg7⟩ := ho6.placeQ (by rw [H1.out]; omega)
  subst e7
  have hb6 := Below.of_grown hg6 B25.out.size HO5.out.lt
  have B26 := hide (B25.out.trans hb6)
  obtain ⟨a7, c7', e7, hs7⟩ := ho6.sl' HB90.out (by rw [H1.out]; omega)
  cases e7
  rw [H1.out] at hs7 ho6 ⊢
  have hle7 : len + 1 ≤ c7 := hs7.hcap
  have S7 := hide hs7
  have SD : Hid (Sl w6 (some ⟨g7, 0, none⟩) len c7 xs) := hide (by
    have h := S7.out
    refine ⟨HX.out, by omega, h.hmax, by omega, HS.out.hbyte, (fun e => by cases e), fun h0 => ?_⟩
    obtain ⟨b, o, e, hc⟩ := h.hcell (by omega)
    refine ⟨b, o, e, fun i hi => ?_⟩
    rw [hc i (by omega)]
    simp [List.getD, List.getElem?_append_left (show i < xs.length by rw [HX.out]; exact hi)])
  clear hs7 ho6 hg6 h5 hb5 hb6 B24 HO4 HO5 B25 hg7
  -- the two preimages
  go_wp2_with fail
  refine wp_region_noPanic ?_
  have Z0 := hide ((Below.refl w6.heap.size w6).drew)
  refine wp_region_held_drew (S := fun v : World => True) (by kernel_rfl) trivial (fun hHeld => ?_)
  refine takeH 0 17 (.slice (some ⟨g7, 0, none⟩) (len + 1) c7) hHeld rfl rfl (by kernel_rfl) (by kernel_rfl) (by kernel_rfl) (fun _ _ _ h => h) (Or.inl ⟨by rfl, fun w _ => by go_simp⟩) ?_
  simp only [Act.put, List.setIfInBounds_toArray, List.set_cons_zero, List.set_cons_succ]
  refine takeH 1 18 (.slice a len cap) hHeld rfl rfl (by kernel_rfl) (by kernel_rfl) (by kernel_rfl) (fun _ _ _ h => h) (Or.inl ⟨by rfl, fun w _ => by go_simp⟩) ?_
  simp only [Act.put, List.setIfInBounds_toArray, List.set_cons_zero, List.set_cons_succ]
  refine takeH 2 19 (.int .i64 (len : Int)) hHeld rfl rfl (by kernel_rfl) (by kernel_rfl) (by kernel_rfl) (fun _ _ _ h => h) (Or.inl ⟨by rfl, fun w _ => by go_simp⟩) ?_
  simp only [Act.put, List.setIfInBounds_toArray, List.set_cons_zero, List.set_cons_succ]
  refine takeH 3 20 (.slice (some ⟨g7, 0, none⟩) len c7) hHeld rfl rfl (by kernel_rfl) (by kernel_rfl) (by kernel_rfl) (fun _ _ _ h => h) (Or.inl ⟨by rfl, fun w _ => run_op rfl (sl_toQ g7 (len + 1) c7 len (len : Int) rfl (by omega) w)⟩) ?_
  simp only [Act.put, List.setIfInBounds_toArray, List.set_cons_zero, List.set_cons_succ]
  refine takeH 5 22 (.slice (some ⟨g7, 0, none⟩) (len + 1) c7) hHeld rfl rfl (by kernel_rfl) (by kernel_rfl) (by kernel_rfl) (fun _ _ _ h => h) (Or.inl ⟨by rfl, fun w _ => by go_simp⟩) ?_
  simp only [Act.put, List.setIfInBounds_toArray, List.set_cons_zero, List.set_cons_succ]
  refine takeH 6 23 (.slice a len cap) hHeld rfl rfl (by kernel_rfl) (by kernel_rfl) (by kernel_rfl) (fun _ _ _ h => h) (Or.inl ⟨by rfl, fun w _ => by go_simp⟩) ?_
  simp only [Act.put, List.setIfInBounds_toArray, List.set_cons_zero, List.set_cons_succ]
  refine takeH 7 24 (.int .i64 (len : Int)) hHeld rfl rfl (by kernel_rfl) (by kernel_rfl) (by kernel_rfl) (fun _ _ _ h => h) (Or.inl ⟨by rfl, fun w _ => by go_simp⟩) ?_
  simp only [Act.put, List.setIfInBounds_toArray, List.set_cons_zero, List.set_cons_succ]
  refine takeH 8 25 (.slice (some ⟨g7, 0, none⟩) len c7) hHeld rfl rfl (by kernel_rfl) (by kernel_rfl) (by kernel_rfl) (fun _ _ _ h => h) (Or.inl ⟨by rfl, fun w _ => run_op rfl (sl_toQ g7 (len + 1) c7 len (len : Int) rfl (by omega) w)⟩) ?_
  simp only [Act.put, List.setIfInBounds_toArray, List.set_cons_zero, List.set_cons_succ]
  refine wpAnyH_ready (rs := [4]) (by kernel_rfl) (by simp) (AllReadyH.cons rfl (fun K hK => ?_) AllReadyH.nil)
  rw [if_pos (by rfl)]
  go_simp
  refine (leafPre_any _ _ _ _ _ (SD.out.below Z0.out) (by omega)).mono ?_
  rintro e v1 ⟨vx, rfl, hn1, hv1⟩
  have Z1 := hide (Z0.out.trans (hv1.mono Z0.out.size))
  have N1 := hide hn1
  clear hn1
  refine hK.out _ _ (trivial) (fun hHeld => ?_)
  clear hK K
  refine wpAnyH_ready (rs := [9]) (by kernel_rfl) (by simp) (AllReadyH.cons rfl (fun K hK => ?_) AllReadyH.nil)
  rw [if_pos (by rfl)]
  go_simp
  refine (leafPre_any _ _ _ _ _ (SD.out.below Z1.out) (by omega)).mono ?_
  rintro e v2 ⟨vy, rfl, hn2, hv2⟩
  have Z2 := hide (Z1.out.trans (hv2.mono Z1.out.size))
  have hn2' := hn2.sl HB0.out (by rw [H0.out]; omega)
  refine hK.out _ _ (trivial) (fun hHeld => ?_)
  clear hK K
  refine takeH 10 8 vx hHeld rfl rfl (by kernel_rfl) (by kernel_rfl) (by kernel_rfl) (fun _ _ _ h => h) (Or.inl ⟨by rfl, fun w _ => by go_simp⟩) ?_
  simp only [Act.put, List.setIfInBounds_toArray, List.set_cons_zero, List.set_cons_succ]
  refine takeH 11 9 vy hHeld rfl rfl (by kernel_rfl) (by kernel_rfl) (by kernel_rfl) (fun _ _ _ h => h) (Or.inl ⟨by rfl, fun w _ => by go_simp⟩) ?_
  simp only [Act.put, List.setIfInBounds_toArray, List.set_cons_zero, List.set_cons_succ]
  refine wpAnyH_done (by kernel_rfl) ?_ _
  refine NoPanic.normal ?_
  clear hHeld
  obtain ⟨g8, c8, e8, hl8, ho8⟩ := N1.out
  obtain ⟨g9, c9, rfl, hl9, hs9⟩ := hn2'
  subst e8
  rw [H0.out] at ho8 hs9 ⊢
  have S9 := hide hs9
  have O8 := hide (ho8.below hv2)
  have S8 : Hid (Sl v2 (some ⟨g8, 0, none⟩) (len + 1) c8 (0 :: xs)) := hide (by
    obtain ⟨a8, c8', e8, hs8⟩ := O8.out.sl' HB0.out (by rw [H0.out]; omega)
    rw [H0.out] at e8 hs8
    cases e8
    exact hs8)
  have hlt8 : g8 < v1.heap.size := by
    rcases ho8.2 with ⟨e, _⟩ | ⟨g', c', cur, e, _, hh, _⟩
    · cases e
    · cases e
      exact (Array.getElem?_eq_some_iff.1 hh).1
  have h89 : g9 ≠ g8 := by omega
  have S7a := hide (S7.out.below Z2.out)
  have SA := hide (HS.out.below (B2.out.trans ((B26.out.trans (Z2.out.mono B26.out.size)).mono B2.out.size)))
  clear hn2 hs9 ho8
  have HA0 : Hid ([0].length + xs.length ≤ 9223372036854775807) := hide (by rw [HX.out]; simp; omega)
  have HA9 : Hid (xs.length + [90].length ≤ 9223372036854775807) := hide (by rw [HX.out]; simp; omega)
  go_wp2_with (first | (refine step_toStr rfl rfl SA.out ?_) | (refine step_toStr rfl rfl S8.out ?_) | (refine step_toStr rfl rfl S7a.out ?_) | (refine step_addQ (xs := [0]) (ys := xs) rfl rfl rfl str_0 rfl HA0.out ?_) | (refine step_addQ (xs := xs) (ys := [90]) rfl rfl rfl rfl str_z HA9.out ?_) | (refine step_neQs (p := str (0 :: xs)) rfl rfl rfl ?_) | (refine step_neQs (p := str (xs ++ [90])) rfl rfl rfl ?_))
  obtain ⟨t8, cs8, hg8, hcs8⟩ : ∃ t cs, Blk v2 g8 t cs ∧ cs.take (len + 1) = u8s (0 :: xs) := by
    rcases O8.out.2 with ⟨e, _⟩ | ⟨g', c', cur, e, _, hh, h3, h4, h5, h6⟩
    · cases e
    · cases e
      refine ⟨5, cur.toList, ?_, ?_⟩
      · unfold Blk; simpa using hh
      · rw [H0.out] at h6
        simpa using h6
  have HG8 := hide hg8
  have HC8 := hide hcs8
  clear hg8 hcs8 HA0 HA9 S7a SA S8 O8
  go_loopw [11] (fun i wr => ∃ k : Nat, k ≤ len + 1 ∧ i = .int .i64 k ∧ (∃ ys cs', Blk wr g8 t8 cs' ∧ cs'.take (len + 1) = u8s ys ∧ ys.length = len + 1) ∧ But g8 v2 wr) (fun i _ => len + 1 - (intOf i).toNat)
  case atStart => exact ⟨0, by omega, rfl, ⟨0 :: xs, cs8, HG8.out, HC8.out, H0.out⟩, But.refl _ _⟩
  case round =>
    obtain ⟨k, hk, rfl, ⟨ys, cs', hr1, hc1, hy⟩, hb1⟩ := hrel
    have HY := hide hy
    have HR1 := hide hr1
    have HC := hide hc1
    have HBT := hide hb1
    clear hy hr1 hc1 hb1
    by_cases hlt : k < len + 1
    · have hlt' : (k : Int) < (len : Int) + 1 := by omega
      have hlt2 : (k : Int) < ((len + 1 : Nat) : Int) := by omega
      have hcell : wr.cell? ⟨g8, k, none⟩ = some (.int .u8 (ys.getD k 0)) := by
        have e : (cs'.take (len + 1))[k]? = some (.int .u8 (ys.getD k 0)) := by rw [HC.out]; exact u8s_get _ _ (by rw [HY.out]; exact hlt)
        rw [HR1.out.cell]
        rw [List.getElem?_take, if_pos hlt] at e
        exact e
      have hfree : wr.frozen? ⟨g8, k, none⟩ = false := HR1.out.free k
      go_wp2
      go_roundw
      case rel =>
        have h := HR1.out.set k (.int .u8 9)
        refine ⟨k + 1, by omega, by go_num, ⟨ys.set k 9, _, h, ?_, by rw [List.length_set]; exact HY.out⟩, HBT.out.trans (But.setCell _ _ _ _)⟩
        rw [List.take_set, HC.out, u8s_set]
      case measure => simp [intOf]; omega
    · have hlt' : ¬ ((k : Int) < (len : Int) + 1) := by omega
      have hlt2 : ¬ ((k : Int) < ((len + 1 : Nat) : Int)) := by omega
      have h8w6 : w6.heap.size ≤ g8 := hl8
      have S9r := hide (S9.out.but HBT.out (fun _ x hx => by cases hx; exact h89))
      have G4r := hide (((G42.out.on (B26.out)).on (Z2.out)).but HBT.out (by have h1 := (G42.out.on B26.out).lt; omega))
      have G5r := hide (((G5.out.on (B26.out)).on (Z2.out)).but HBT.out (by have h1 := (G5.out.on B26.out).lt; omega))
      have BW := hide ((B2.out.trans ((B26.out.trans (Z2.out.mono B26.out.size)).mono B2.out.size)).trans (HBT.out.below (Nat.le_trans B2.out.size (Nat.le_trans B26.out.size h8w6))))
      clear hl8 hl9 h89 hlt8
      go_wp2_with fail
      refine wp_region_noPanic ?_
      have Y0 := hide ((Below.refl wr.heap.size wr).drew)
      have hu := aD.und
      have HI1 : Hid ((Try.prog.info? 24).map (·.size) = some (u8s l).length) := hide (by rw [wD.size, u8s_length, HL.out])
      have HI2 : Hid ((Try.prog.info? 24).map (·.size) = some (u8s r).length) := hide (by rw [wD.size, u8s_length, HR.out])
      have SLr := hide (G4r.out.slQ HLB.out (by rw [HL.out]; omega))
      have SRr := hide (G5r.out.slQ HRB.out (by rw [HR.out]; omega))
      rw [HL.out] at SLr
      rw [HR.out] at SRr
      have HBP : Hid (isB (1 :: (l ++ r))) := hide (by
        intro y hy
        rcases List.mem_cons.1 hy with rfl | hy
        · omega
        · rcases List.mem_append.1 hy with hy | hy
          · exact HLB.out y hy
          · exact HRB.out y hy)
      refine wp_region_held_drew (S := fun v : World => Below wr.heap.size wr v) (by kernel_rfl) Y0.out (fun hHeld => ?_)
      refine takeH 0 51 (.slice (some ⟨g9, 0, none⟩) (len + 1) c9) hHeld rfl rfl (by kernel_rfl) (by kernel_rfl) (by kernel_rfl) (fun _ _ _ h => h) (Or.inl ⟨by rfl, fun w _ => by go_simp⟩) ?_
      simp only [Act.put, List.setIfInBounds_toArray, List.set_cons_zero, List.set_cons_succ]
      refine takeH 1 52 (.string (str (0::xs))) hHeld rfl rfl (by kernel_rfl) (by kernel_rfl) (by kernel_rfl) (fun _ _ _ h => h) (Or.inl ⟨by rfl, fun v hv => run_op rfl (toStr (S9r.out.below hv))⟩) ?_
      simp only [Act.put, List.setIfInBounds_toArray, List.set_cons_zero, List.set_cons_succ]
      refine takeH 2 53 (.string (str (0 :: xs))) hHeld rfl rfl (by kernel_rfl) (by kernel_rfl) (by kernel_rfl) (fun _ _ _ h => h) (Or.inl ⟨by rfl, fun w _ => by go_simp⟩) ?_
      simp only [Act.put, List.setIfInBounds_toArray, List.set_cons_zero, List.set_cons_succ]
      refine takeH 3 54 (.bool true) hHeld rfl rfl (by kernel_rfl) (by kernel_rfl) (by kernel_rfl) (fun _ _ _ h => h) (Or.inl ⟨by rfl, fun v _ => run_eqQ rfl rfl⟩) ?_
      simp only [Act.put, List.setIfInBounds_toArray, List.set_cons_zero, List.set_cons_succ]
      refine takeH 4 55 (.bool true) hHeld rfl rfl (by kernel_rfl) (by kernel_rfl) (by kernel_rfl) (fun _ _ _ h => h) (Or.inl ⟨by rfl, fun w _ => by go_simp⟩) ?_
      simp only [Act.put, List.setIfInBounds_toArray, List.set_cons_zero, List.set_cons_succ]
      refine takeH 5 56 (.agg (u8s l).toArray) hHeld rfl rfl (by kernel_rfl) (by kernel_rfl) (by kernel_rfl) (fun _ _ _ h => h) (yieldsIf_load_mid (by rfl) _ _ rfl g4 0 rfl _ _ (fun v hv => (G4r.out.on hv).range 0 (u8s l) (by simp)) hu rfl HI1.out) ?_
      simp only [Act.put, List.setIfInBounds_toArray, List.set_cons_zero, List.set_cons_succ]
      refine takeH 6 57 (.agg (u8s r).toArray) hHeld rfl rfl (by kernel_rfl) (by kernel_rfl) (by kernel_rfl) (fun _ _ _ h => h) (yieldsIf_load_mid (by rfl) _ _ rfl g5 0 rfl _ _ (fun v hv => (G5r.out.on hv).range 0 (u8s r) (by simp)) hu rfl HI2.out) ?_
      simp only [Act.put, List.setIfInBounds_toArray, List.set_cons_zero, List.set_cons_succ]
      refine takeH 9 60 (.slice (some ⟨g4, 0, none⟩) 32 32) hHeld rfl rfl (by kernel_rfl) (by kernel_rfl) (by kernel_rfl) (fun _ _ _ h => h) (Or.inl ⟨by rfl, fun w _ => run_op rfl (slice_Dq g4 w)⟩) ?_
      simp only [Act.put, List.setIfInBounds_toArray, List.set_cons_zero, List.set_cons_succ]
      refine takeH 10 61 (.string (str l)) hHeld rfl rfl (by kernel_rfl) (by kernel_rfl) (by kernel_rfl) (fun _ _ _ h => h) (Or.inl ⟨by rfl, fun v hv => run_op rfl (toStr (SLr.out.below hv))⟩) ?_
      simp only [Act.put, List.setIfInBounds_toArray, List.set_cons_zero, List.set_cons_succ]
      refine takeH 11 62 (.string (str ([1] ++ l))) hHeld rfl rfl (by kernel_rfl) (by kernel_rfl) (by kernel_rfl) (fun _ _ _ h => h) (Or.inl ⟨by rfl, fun v _ => run_addQ rfl rfl str_1 rfl (by rw [HL.out]; simp)⟩) ?_
      simp only [Act.put, List.setIfInBounds_toArray, List.set_cons_zero, List.set_cons_succ]
      refine takeH 12 63 (.slice (some ⟨g5, 0, none⟩) 32 32) hHeld rfl rfl (by kernel_rfl) (by kernel_rfl) (by kernel_rfl) (fun _ _ _ h => h) (Or.inl ⟨by rfl, fun w _ => run_op rfl (slice_Dq g5 w)⟩) ?_
      simp only [Act.put, List.setIfInBounds_toArray, List.set_cons_zero, List.set_cons_succ]
      refine takeH 13 64 (.string (str r)) hHeld rfl rfl (by kernel_rfl) (by kernel_rfl) (by kernel_rfl) (fun _ _ _ h => h) (Or.inl ⟨by rfl, fun v hv => run_op rfl (toStr (SRr.out.below hv))⟩) ?_
      simp only [Act.put, List.setIfInBounds_toArray, List.set_cons_zero, List.set_cons_succ]
      refine takeH 14 65 (.string (str (([1] ++ l) ++ r))) hHeld rfl rfl (by kernel_rfl) (by kernel_rfl) (by kernel_rfl) (fun _ _ _ h => h) (Or.inl ⟨by rfl, fun v _ => run_addQ rfl rfl rfl rfl (by rw [List.length_append, HL.out, HR.out]; simp)⟩) ?_
      simp only [Act.put, List.setIfInBounds_toArray, List.set_cons_zero, List.set_cons_succ]
      refine wpAnyH_ready (rs := [7]) (by kernel_rfl) (by simp) (AllReadyH.cons rfl (fun K hK => ?_) AllReadyH.nil)
      rw [if_pos (by rfl)]
      go_simp
      refine (pre_any l r _ HL.out HR.out HLB.out HRB.out).mono ?_
      rintro e y1 ⟨vp, rfl, hn, hv⟩
      have Y1 := hide (Y0.out.trans (hv.mono Y0.out.size))
      obtain ⟨gp, cp, ep, _, hsp⟩ := hn.sl HBP.out (by simp [HL.out, HR.out])
      subst ep
      have SP := hide hsp
      clear hsp hn
      refine hK.out _ _ (Y1.out) (fun hHeld => ?_)
      clear hK K
      refine wpAnyH_ready (rs := [8]) (by kernel_rfl) (by simp) (AllReadyH.cons rfl (fun K hK => ?_) AllReadyH.nil)
      rw [if_pos (by rfl)]
      refine wp_toStrQ rfl SP.out ?_
      refine hK.out _ _ (Y1.out) (fun hHeld => ?_)
      clear hK K
      simp only [Act.put]
      refine takeH 15 66 (.bool true) hHeld rfl rfl (by kernel_rfl) (by kernel_rfl) (by kernel_rfl) (fun _ _ _ h => h) (Or.inl ⟨by rfl, fun v _ => run_eqQ (p := str (1::(l ++ r))) rfl rfl⟩) ?_
      simp only [Act.put, List.setIfInBounds_toArray, List.set_cons_zero, List.set_cons_succ]
      refine takeH 16 67 (.bool true) hHeld rfl rfl (by kernel_rfl) (by kernel_rfl) (by kernel_rfl) (fun _ _ _ h => h) (Or.inl ⟨by rfl, fun w _ => by go_simp⟩) ?_
      simp only [Act.put, List.setIfInBounds_toArray, List.set_cons_zero, List.set_cons_succ]
      refine takeH 17 6 (.bool true) hHeld rfl rfl (by kernel_rfl) (by kernel_rfl) (by kernel_rfl) (fun _ _ _ h => h) (Or.inl ⟨by rfl, fun w _ => by go_simp⟩) ?_
      simp only [Act.put, List.setIfInBounds_toArray, List.set_cons_zero, List.set_cons_succ]
      refine wpAnyH_done (by kernel_rfl) ?_ _
      refine NoPanic.normal ?_
      clear hHeld hu
      go_wp2
      go_ret
      exact ⟨rfl, BW.out.trans (Y1.out.mono BW.out.size)⟩

end Go.Proofs.Ytconeobaohmbnaa
