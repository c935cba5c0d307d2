/-
  The document's states: what they hold, and their Sum.
-/
import Derived.Test.YtefaabmkcgdkiaaDoorEn
import Derived.Test.YtefaabmkcgdkiaaDoorSv
namespace Go.Proofs.YtefaabmkcgdkiaaDoor
open Go.RowKit
set_option linter.unusedVariables false

/-- Behind whole blocks all goes on from their words. -/
theorem ov_split (h P z : List Int) (q : Nat) (hP : P.length = 64 * q) : ∀ k, ov h (P ++ z) (q + k) = ov (ov h P q) z k
  | 0 => by rw [Nat.add_zero]; exact ov_pre h P z q (by omega)
  | k + 1 => by
    show comp (ov h (P ++ z) (q + k)) _ = comp (ov (ov h P q) z k) _
    rw [ov_split h P z q hP k]
    congr 2
    show List.drop (64 * (q + k)) (P ++ z) = _
    rw [show 64 * (q + k) = P.length + 64 * k by omega, ← List.drop_drop, List.drop_left]
theorem bk_split (P z : List Int) (q : Nat) (hP : P.length = 64 * q) : bk (P ++ z) = q + bk z := by
  simp [bk, hP]; omega
theorem head_tl (m : List Int) : m.take (64 * bk m) ++ tl m = m := List.take_append_drop _ _
theorem head_length (m : List Int) : (m.take (64 * bk m)).length = 64 * bk m := by rw [List.length_take]; simp [bk]; omega
theorem ov_head (h m : List Int) : ov h (m.take (64 * bk m)) (bk m) = ov h m (bk m) := by
  have e := ov_pre h (m.take (64 * bk m)) (tl m) (bk m) (by rw [head_length]; omega)
  rw [head_tl] at e
  exact e.symm
/-- What comes behind m, seen from what is left behind its whole blocks. -/
theorem ov_tl (h m z : List Int) : ov h (m ++ z) (bk (m ++ z)) = ov (ov h m (bk m)) (tl m ++ z) (bk (tl m ++ z)) := by
  have e : m ++ z = m.take (64 * bk m) ++ (tl m ++ z) := by rw [← List.append_assoc, head_tl]
  rw [e, bk_split _ _ (bk m) (head_length m), ov_split h _ _ (bk m) (head_length m), ov_head]
theorem dg_tl (h : List Int) (n0 : Nat) (m : List Int) : dg h n0 m = wb (ov (ov h m (bk m)) (tl m ++ pad (n0 + m.length)) (bk (tl m ++ pad (n0 + m.length)))) := by
  rw [dg, ov_tl]

/-- The cells of a document's state. -/
def rfC (ws : List Int) (n : Int) (v : Value) : List Value := u32s ws ++ [.int .i64 n, v]
theorem rfC_length (ws : List Int) (n : Int) (v : Value) (hw : ws.length = 8) : (rfC ws n v).length = 10 := by simp [rfC, u32s_length, hw]
theorem rfC_words (ws : List Int) (n : Int) (v : Value) (hw : ws.length = 8) : ((rfC ws n v).drop 0).take 8 = u32s ws := by
  rw [List.drop_zero, rfC, List.take_append_of_le_length (by rw [u32s_length, hw]; exact Nat.le_refl _), List.take_of_length_le (by rw [u32s_length, hw]; exact Nat.le_refl _)]
theorem rfC_n (ws : List Int) (n : Int) (v : Value) (hw : ws.length = 8) : (rfC ws n v)[8]? = some (.int .i64 n) := by
  rw [rfC, List.getElem?_append_right (by rw [u32s_length, hw]; exact Nat.le_refl _), u32s_length, hw]; rfl
theorem rfC_v (ws : List Int) (n : Int) (v : Value) (hw : ws.length = 8) : (rfC ws n v)[9]? = some v := by
  rw [rfC, List.getElem?_append_right (by rw [u32s_length, hw]; omega), u32s_length, hw]; rfl
theorem wRS : Wide 29 10 := ⟨by kernel_rfl, by kernel_rfl⟩

set_option maxRecDepth 100000 in
set_option maxHeartbeats 1000000 in
theorem rsum_any (h : List Int) (n0 : Nat) (m : List Int) (a : Option Addr) (cap : Nat) (w : World) (hh : h.length = 8) (hw : isW h) (hs : Sl w a (m.length % 64) cap (tl m)) (hbd : n0 + m.length ≤ 2305843009213693951) :
    Calls Tryd.prog 35 #[.agg (rfC (ov h m (bk m)) ((n0 + m.length : Nat) : Int) (.slice a (m.length % 64) cap)).toArray] w fun e w' => e = .returned (.agg (u8s (dg h n0 m)).toArray) ∧ Below w.heap.size w w' := by
  have HOL := hide (ov_length h m hh (bk m))
  have HOW := hide (ov_isW h m hw (bk m))
  have HS := hide hs
  have HD := hide (dg_length h n0 m hh)
  have EDG := hide (dg_tl h n0 m)
  clear hs hh hw
  generalize hN : n0 + m.length = N at *
  generalize hr : m.length % 64 = r at *
  have hr64 : r < 64 := by omega
  clear hN hr
  go_enter Tryd.func35, Tryd.ntmps35
  go_wp2_with (refine step_box rfl rfl ?_)
  intro w1 g1 hg1 hle1 hb1
  go_wp2_with (refine step_alloc zD0 rfl ?_)
  intro w2 g2 hg2 hle2 hb2
  have hb12 : Below w.heap.size w w2 := hb1.trans (hb2.mono hb1.size)
  have G1 := hide (hg1.below hb2 hg1.lt)
  have G2 := hide hg2
  have l2 : w.heap.size ≤ g2 := by have := hb1.size; omega
  have S2 := hide (HS.out.below hb12)
  have c8 : w2.cell? ⟨g1, 8, none⟩ = some (.int .i64 (N : Int)) := by rw [G1.out.cell]; exact rfC_n _ _ _ HOL.out
  have c9 : w2.cell? ⟨g1, 9, none⟩ = some (.slice a r cap) := by rw [G1.out.cell]; exact rfC_v _ _ _ HOL.out
  clear hg1 hg2 hb1 hb2 hle2
  go_wp2_with (first | (refine step_load wW rfl (g := g1) (off := 0) rfl G1.out (u32s (ov h m (bk m))) (by rw [u32s_length]; exact HOL.out) (rfC_words _ _ _ HOL.out) ?_) | (go_at_call 57; refine (endR_any _ N _ _ _ _ _ HOL.out HOW.out hbd S2.out (by omega)).mono ?_; rintro e w3 ⟨rfl, hb3⟩; rw [← EDG.out]; have G3 := hide (G2.out.below hb3 G2.out.lt)) | (refine step_storeA wD0 rfl rfl rfl G3.out (by rw [u8s_length]; exact HD.out) (One.u8 _) rfl ?_; intro w4 hg4 hbut4))
  refine bodyPost_ret (results_wide rfl wD0 _ _ rfl hg4 (by rw [u8s_length]; exact HD.out)) rfl ⟨rfl, ?_⟩
  exact hb12.trans ((hb3.mono hb12.size).trans (hbut4.below l2))

end Go.Proofs.YtefaabmkcgdkiaaDoor
