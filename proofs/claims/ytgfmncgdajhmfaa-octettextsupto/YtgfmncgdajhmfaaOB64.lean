/-
  octet, ported from round 1 (B64).
-/
import Derived.Test.YtgfmncgdajhmfaaOGrp
namespace Go.Proofs.Ytgfmncgdajhmfaa
open Go.RowKit
set_option linter.unusedVariables false

/-- The four digits of the group number i. -/
def grpAt (xs : List Int) (i : Nat) : List Int := four (num ((xs.drop (3 * i)).take 3)) (min 3 (xs.length - 3 * i))
/-- The digits of the first k groups. -/
def b64To (xs : List Int) (k : Nat) : List Int := (List.range k).flatMap (grpAt xs)
def b64B (xs : List Int) : List Int := b64To xs ((xs.length + 2) / 3)

theorem Own.below {w w' : World} {B : Nat} {v : Value} {xs : List Int} (h : Own w B v xs) (hb : Below w.heap.size w w') : Own w' B v xs := by
  obtain ⟨h1, h2⟩ := h
  refine ⟨h1, ?_⟩
  rcases h2 with h2 | ⟨g, cap, cur, e, hg, hh, r⟩
  · exact .inl h2
  · refine .inr ⟨g, cap, cur, e, hg, ?_, r⟩
    rw [hb.block g (Array.getElem?_eq_some_iff.1 hh).1]
    exact hh

theorem four_isB (V : Int) (n : Nat) : isB (four V n) := by
  intro x hx
  simp only [four, List.mem_cons, List.not_mem_nil, or_false] at hx
  rcases hx with rfl | rfl | rfl | rfl
  · exact sx_bd _
  · exact sx_bd _
  · split
    · exact sx_bd _
    · omega
  · split
    · exact sx_bd _
    · omega
theorem four_length (V : Int) (n : Nat) : (four V n).length = 4 := rfl
theorem b64To_succ (xs : List Int) (k : Nat) : b64To xs (k + 1) = b64To xs k ++ grpAt xs k := by simp [b64To, List.range_succ]
theorem b64To_isB (xs : List Int) (k : Nat) : isB (b64To xs k) := by
  intro x hx
  simp only [b64To, List.mem_flatMap] at hx
  obtain ⟨i, _, hx⟩ := hx
  exact four_isB _ _ x hx
theorem b64To_length (xs : List Int) (k : Nat) : (b64To xs k).length = 4 * k := by
  induction k with
  | zero => rfl
  | succ k ih => rw [b64To_succ, List.length_append, ih]; show _ + 4 = _; omega

theorem und76 : Try.prog.underlying 47 = some (.array 4 5) := by kernel_rfl
theorem info76 : (Try.prog.info? 47).map (·.size) = some 4 := by kernel_rfl

section
variable {dst : Option Tmp} {ty : TypeId} {pos : String} {aft : Array Edge} {gd : Option (Nat × Bool)} {ops : Array Oper} {rest : List Oper} {a : Act} {w : World} {Q : Exit → Act → World → Prop}
theorem step_alloc76 (hw : Region.wanted ⟨dst, .alloc 47, ty, pos, aft, gd⟩ (yielded ops a.tmps) = true)
    (h : ∀ w1 g, Row w1 g 47 (zer 4) → w.heap.size ≤ g → Below w.heap.size w w1 → wpList Try.prog ops Q rest (a.put dst (.pointer (some ⟨g, 0, none⟩))) w1) :
    wpList Try.prog ops Q (⟨dst, .alloc 47, ty, pos, aft, gd⟩ :: rest) a w :=
  step_run hw (.pointer (some ⟨w.heap.size, 0, none⟩)) (w.alloc (.cells (bs (zer 4)) 47)) (by kernel_rfl) (h _ _ (Row.made _ _ _) (Nat.le_refl _) ((Below.refl _ _).alloc (Nat.le_refl _) _))
theorem step_store76 {x y : Operand} {g : Nat} {t : TypeId} {xs ys : List Int} (hw : Region.wanted ⟨dst, .store 47 x y, ty, pos, aft, gd⟩ (yielded ops a.tmps) = true) (hx : a.eval x = .pointer (some ⟨g, 0, none⟩)) (hy : a.eval y = .agg (bs ys)) (hg : Row w g t xs) (hl : xs.length = 4) (hl' : ys.length = 4)
    (h : ∀ w1, Row w1 g t ys → But g w w1 → wpList Try.prog ops Q rest (a.put dst undef) w1) :
    wpList Try.prog ops Q (⟨dst, .store 47 x y, ty, pos, aft, gd⟩ :: rest) a w :=
  BigFrame.wpList_want hw fun _ hK => wp_store_row 47 x y rfl g (bs ys) hx hy t (bs xs) hg (by rw [info76, bs_size, hl']) (by rw [bs_size, bs_size, hl, hl']) (bs_all ys)
    (hK _ _ (h _ (hg.setRow ys) (But.setRow _ _ _)))
end

theorem group_any (b off cap n : Nat) (c : List Int) (w : World) (hn : n = 1 ∨ n = 2 ∨ n = 3) (hl : c.length = n) (hc : ∀ i, i < n → w.cell? ⟨b, off + i, none⟩ = some (.int .u8 (c.getD i 0))) (hb : isB c) :
    Calls Try.prog 23 #[.slice (some ⟨b, off, none⟩) n cap] w fun e w' => e = .returned (.agg (bs (four (num c) n))) ∧ Below w.heap.size w w' := by
  rcases hn with rfl | rfl | rfl
  · obtain ⟨c0, rfl⟩ : ∃ c0, c = [c0] := List.length_eq_one_iff.1 hl
    have e : num [c0] = c0 * 65536 := by simp [num]
    rw [e]
    exact group1 b off cap c0 w (hc 0 (by omega)) (hb.get 0)
  · match c, hl with
    | [c0, c1], _ =>
      have e : num [c0, c1] = c0 * 65536 + c1 * 256 := by simp [num]
      rw [e]
      exact group2 b off cap c0 c1 w (hc 0 (by omega)) (hb.get 0) (hc 1 (by omega)) (hb.get 1)
  · match c, hl with
    | [c0, c1, c2], _ =>
      have e : num [c0, c1, c2] = c0 * 65536 + c1 * 256 + c2 := by simp [num]
      rw [e]
      exact group3 b off cap c0 c1 c2 w (hc 0 (by omega)) (hb.get 0) (hc 1 (by omega)) (hb.get 1) (hc 2 (by omega)) (hb.get 2)

set_option maxRecDepth 100000 in
set_option maxHeartbeats 1000000 in
theorem b64_any (a : Option Addr) (len cap : Nat) (xs : List Int) (w : World) (hs : Sl w a len cap xs) (hl : len ≤ 8388608) :
    Calls Try.prog 10 #[.slice a len cap] w fun e w' => e = .returned (.string (str (b64B xs))) ∧ Below w.heap.size w w' := by
  have HS := hide hs
  have hcap := hs.hcap
  clear hs
  obtain ⟨i0, hi, hz0, hz1, hz2⟩ := info_parts info5b
  obtain ⟨m, hm⟩ : ∃ m, m = (len + 2) / 3 := ⟨_, rfl⟩
  have hm1 : 3 * m ≤ len + 2 := by omega
  have hm2 : len ≤ 3 * m := by omega
  have HM := hide hm
  clear hm
  go_enter Try.func10, Try.ntmps10
  go_wp2_with (at_make; refine wpList_make_own _ rfl _ _ 22 rfl w.heap.size 5 i0 (.int .u8 0) 1 Try.underlying22 hi hz0 hz1 _ _ _ (4 * m) rfl rfl (by omega) (by rw [hz2]; omega) (by unfold maxLen; omega) (Nat.le_refl _) ?_)
  intro w1 ho1 hg1
  have hb1 : Below w.heap.size w w1 := (Below.refl _ _).grown hg1 (Nat.le_refl _) (fun k e => by cases e)
  have HO : Hid (Own w1 w.heap.size (.slice (some ⟨w.heap.size, 0, none⟩) 0 (4 * m)) []) := ho1
  clear ho1 hg1
  go_wp2
  go_loopw [4, 15] (fun v i wr => ∃ k : Nat, k ≤ m ∧ i = .int .i64 k ∧ Own wr w.heap.size v (b64To xs k) ∧ Below w.heap.size w wr) (fun _ i _ => m - (intOf i).toNat)
  case atStart => exact ⟨0, by omega, rfl, HO.out, hb1⟩
  case round =>
    obtain ⟨k, hk, rfl, ho, hb⟩ := hrel
    have HOO := hide ho
    clear ho
    by_cases hlt : k < m
    · obtain ⟨b, off, e, hc⟩ := HS.out.hcell (by omega)
      subst e
      have hce : ∀ i, i < len → wr.cell? ⟨b, off + i, none⟩ = some (.int .u8 (xs.getD i 0)) := by
        intro i hi
        have := hc i hi
        rw [hb.cell (World.block_lt_of_cell? w _ this)]; exact this
      have HCE := hide hce
      have hnc : ¬ cap = 3 * k := by omega
      have hB := hb.size
      clear hc hce
      by_cases h3 : 3 * k + 3 ≤ len
      · have hmn : (3 * (k : Int) + 3) ≤ len := by omega
        have HCL := hide (show ((xs.drop (3 * k)).take 3).length = 3 by rw [List.length_take, List.length_drop, HS.out.hlen]; omega)
        have HCC : Hid (∀ i, i < 3 → wr.cell? ⟨b, off + 3 * k + i, none⟩ = some (.int .u8 (((xs.drop (3 * k)).take 3).getD i 0))) := by
          intro i hi
          rw [Nat.add_assoc, HCE.out (3 * k + i) (by omega)]
          have e3 : i < 3 := by omega
          simp [List.getD, e3]
        have HGA := hide (show grpAt xs k = four (num ((xs.drop (3 * k)).take 3)) (3) by rw [grpAt, HS.out.hlen]; congr 1; omega)
        go_wp2_with fail
        refine (group_any b (off + 3 * k) (cap - 3 * k) (3) ((xs.drop (3 * k)).take 3) wr (by omega) HCL.out HCC.out ((HS.out.hbyte.drop _).take _)).mono ?_
        rintro e w2 ⟨rfl, hb2⟩
        rw [← HGA.out]
        go_wp2_with (refine step_alloc76 rfl ?_)
        intro w3 g3 hr3 hg3 hb3
        go_wp2_with (refine step_store76 rfl rfl rfl hr3 rfl rfl ?_)
        intro w4 hr4 hbut4
        have b24 : Below wr.heap.size wr w4 := (hb2.trans (hb3.mono hb2.size)).trans (hbut4.below (Nat.le_trans hb2.size hg3))
        have hb4 : Below w.heap.size w w4 := hb.trans (b24.mono hb.size)
        have HO4 := hide (HOO.out.below b24)
        have SL4 : Hid (Sl w4 (some ⟨g3, 0, none⟩) 4 4 (grpAt xs k)) := hr4.sl (four_isB _ _) (by show 4 ≤ _; omega)
        have HN := hide (show (b64To xs k).length + 4 ≤ 140737488355328 by rw [b64To_length]; omega)
        have hB4 := hb4.size
        clear hr3 hr4 hbut4 hb2 hb3 b24 HOO HCC HCE
        go_wp2_with (refine step_append rfl rfl rfl HO4.out SL4.out HN.out hB4 ?_)
        intro v5 w5 ho5 hg5 hn5
        have hb5 : Below w.heap.size w w5 := hb4.grown hg5 hB4 (fun j hj => (World.ownsRow.lt HO4.out j hj).1)
        have HO5 := hide ho5
        clear ho5 hg5 hn5 HO4 SL4
        go_wp2
        go_roundw
        case rel => exact ⟨k + 1, by omega, by go_num, by rw [b64To_succ]; exact HO5.out, hb5⟩
        case measure => simp [intOf]; omega
      · have hmn : ¬ ((3 * (k : Int) + 3) ≤ len) := by omega
        have HCL := hide (show ((xs.drop (3 * k)).take 3).length = len - 3 * k by rw [List.length_take, List.length_drop, HS.out.hlen]; omega)
        have HCC : Hid (∀ i, i < len - 3 * k → wr.cell? ⟨b, off + 3 * k + i, none⟩ = some (.int .u8 (((xs.drop (3 * k)).take 3).getD i 0))) := by
          intro i hi
          rw [Nat.add_assoc, HCE.out (3 * k + i) (by omega)]
          have e3 : i < 3 := by omega
          simp [List.getD, e3]
        have HGA := hide (show grpAt xs k = four (num ((xs.drop (3 * k)).take 3)) (len - 3 * k) by rw [grpAt, HS.out.hlen]; congr 1; omega)
        go_wp2_with fail
        refine (group_any b (off + 3 * k) (cap - 3 * k) (len - 3 * k) ((xs.drop (3 * k)).take 3) wr (by omega) HCL.out HCC.out ((HS.out.hbyte.drop _).take _)).mono ?_
        rintro e w2 ⟨rfl, hb2⟩
        rw [← HGA.out]
        go_wp2_with (refine step_alloc76 rfl ?_)
        intro w3 g3 hr3 hg3 hb3
        go_wp2_with (refine step_store76 rfl rfl rfl hr3 rfl rfl ?_)
        intro w4 hr4 hbut4
        have b24 : Below wr.heap.size wr w4 := (hb2.trans (hb3.mono hb2.size)).trans (hbut4.below (Nat.le_trans hb2.size hg3))
        have hb4 : Below w.heap.size w w4 := hb.trans (b24.mono hb.size)
        have HO4 := hide (HOO.out.below b24)
        have SL4 : Hid (Sl w4 (some ⟨g3, 0, none⟩) 4 4 (grpAt xs k)) := hr4.sl (four_isB _ _) (by show 4 ≤ _; omega)
        have HN := hide (show (b64To xs k).length + 4 ≤ 140737488355328 by rw [b64To_length]; omega)
        have hB4 := hb4.size
        clear hr3 hr4 hbut4 hb2 hb3 b24 HOO HCC HCE
        go_wp2_with (refine step_append rfl rfl rfl HO4.out SL4.out HN.out hB4 ?_)
        intro v5 w5 ho5 hg5 hn5
        have hb5 : Below w.heap.size w w5 := hb4.grown hg5 hB4 (fun j hj => (World.ownsRow.lt HO4.out j hj).1)
        have HO5 := hide ho5
        clear ho5 hg5 hn5 HO4 SL4
        go_wp2
        go_roundw
        case rel => exact ⟨k + 1, by omega, by go_num, by rw [b64To_succ]; exact HO5.out, hb5⟩
        case measure => simp [intOf]; omega
    · have hkm : k = m := by omega
      subst hkm
      have e1 : b64To xs k = b64B xs := by rw [b64B, HS.out.hlen, ← HM.out]
      have ho := HOO.out
      rw [e1] at ho
      obtain ⟨sa, sc, rfl, sl⟩ := ho.sl' (by rw [← e1]; exact b64To_isB _ _) (by rw [← e1, b64To_length]; omega)
      have SL := hide sl
      clear sl ho e1
      go_wp2_with (refine step_toStr rfl rfl SL.out ?_)
      go_ret
      exact ⟨rfl, hb⟩

end Go.Proofs.Ytgfmncgdajhmfaa
