/-
  Texts one behind the other: Vi Vo Vq Vv Vc Vy Wc Wf Wy Hv Ic Vg Sx Cy Ve In Cz.
-/
import Derived.Test.YtojepbapdjkknaaDoorPkA
import Derived.Laws.EntriesVeiled

/-
  The document's Root; what both tell; Inclusion of both.
-/
namespace Go.Proofs.YtojepbapdjkknaaDoor
open Go.RowKit
set_option linter.unusedVariables false

section
variable {dst : Option Tmp} {ty : TypeId} {pos : String} {aft : Array Edge} {gd : Option (Nat × Bool)} {ops : Array Oper} {rest : List Oper} {a : Act} {w : World} {Q : Exit → Act → World → Prop}
theorem step_neQ {T E : TypeId} {k : IntKind} {n : Nat} (hA : Arr T E k n) {t' : TypeId} {x y : Operand} {xs ys : List Int} (q : Bool) (hq : (!decide (xs = ys)) = q) (hw : Region.wanted ⟨dst, .binOp .neq T x y t', ty, pos, aft, gd⟩ (yielded ops a.tmps) = true)
    (hx : a.eval x = .agg (xs.map (Value.int k)).toArray) (hy : a.eval y = .agg (ys.map (Value.int k)).toArray) (hl : xs.length = n) (hl' : ys.length = n) (h : wpList Tryd.prog ops Q rest (a.put dst (.bool q)) w) :
    wpList Tryd.prog ops Q (⟨dst, .binOp .neq T x y t', ty, pos, aft, gd⟩ :: rest) a w := by
  subst hq
  exact step_neA hA hw hx hy hl hl' h
end
set_option maxRecDepth 100000 in
set_option maxHeartbeats 1000000 in
theorem rootR7_bad (leaf : List Int) (i n : Int) (a : Value) (w : World) (h : i < 0 ∨ n ≤ i ∨ 281474976710656 < n) :
    Calls Tryd.prog 76 #[.agg (u8s leaf).toArray, .int .i64 i, .int .i64 n, a] w fun r w' => r = .returned (.tuple #[.agg (u8s (zer 32)).toArray, .int .i64 40]) ∧ Below w.heap.size w w' := by
  have H := hide (fun v => lengthR_bad i n v h)
  clear h
  go_enter Tryd.func76, Tryd.ntmps76
  go_wp2_with (refine step_box rfl rfl ?_)
  intro w1 g4 hr1 hl1 hb1
  have G4 := hide hr1
  clear hr1
  go_wp2_with (refine step_alloc zD rfl ?_)
  intro w2 g8 hr2 hl2 hb2
  have G8 := hide hr2
  have G42 := hide (G4.out.below hb2 G4.out.lt)
  have B2 := hide (hb1.trans (hb2.mono hb1.size))
  have hw8 : w.heap.size ≤ g8 := Nat.le_trans hb1.size hl2
  clear hr2 hb1 hb2 G4
  go_wp2_with fail
  refine (H.out _).mono ?_
  rintro r w3 ⟨rfl, rfl⟩
  go_wp2_with (first | (refine step_buildD rfl ?_) | (refine step_storeA wD rfl rfl rfl G8.out (by rw [u8s_length, zer_length]) (One.u8 _) rfl ?_; intro w4 hg4 hbut4))
  refine bodyPost_ret (results_wide2 rfl wD _ _ rfl hg4 (by rw [u8s_length, zer_length])) rfl ⟨rfl, ?_⟩
  exact B2.out.trans (hbut4.below hw8)
set_option maxRecDepth 100000 in
set_option maxHeartbeats 1000000 in
theorem rootR7_len (leaf : List Int) (i n : Nat) (a : Option Addr) (l cap : Nat) (w : World) (h1 : i < n) (h2 : n ≤ 281474976710656) (hl : l ≠ (hvL i 0 n).length) :
    Calls Tryd.prog 76 #[.agg (u8s leaf).toArray, .int .i64 (i : Int), .int .i64 (n : Int), .slice a l cap] w fun r w' => r = .returned (.tuple #[.agg (u8s (zer 32)).toArray, .int .i64 70]) ∧ Below w.heap.size w w' := by
  have H := hide (fun v => lengthR_ok i n v h1 h2)
  have hl' : ((l : Int) != ((hvL i 0 n).length : Int)) = true := by simp; omega
  generalize hvL i 0 n = L at *
  go_enter Tryd.func76, Tryd.ntmps76
  go_wp2_with (refine step_box rfl rfl ?_)
  intro w1 g4 hr1 hl1 hb1
  have G4 := hide hr1
  clear hr1
  go_wp2_with (refine step_alloc zD rfl ?_)
  intro w2 g8 hr2 hl2 hb2
  have G8 := hide hr2
  have G42 := hide (G4.out.below hb2 G4.out.lt)
  have B2 := hide (hb1.trans (hb2.mono hb1.size))
  have hw8 : w.heap.size ≤ g8 := Nat.le_trans hb1.size hl2
  clear hr2 hb1 hb2 G4
  go_wp2_with fail
  refine (H.out _).mono ?_
  rintro r w3 ⟨rfl, rfl⟩
  go_wp2_with (first | (refine step_buildD rfl ?_) | (refine step_storeA wD rfl rfl rfl G8.out (by rw [u8s_length, zer_length]) (One.u8 _) rfl ?_; intro w4 hg4 hbut4))
  refine bodyPost_ret (results_wide2 rfl wD _ _ rfl hg4 (by rw [u8s_length, zer_length])) rfl ⟨rfl, ?_⟩
  exact B2.out.trans (hbut4.below hw8)
set_option maxRecDepth 100000 in
set_option maxHeartbeats 1000000 in
theorem rootR7_ok (leaf : List Int) (i n : Nat) (a : Option Addr) (l cap : Nat) (xs : List Int) (w : World) (h1 : i < n) (h2 : n ≤ 281474976710656) (hl : l = (hvL i 0 n).length) (hlf : leaf.length = 32) (hlb : isB leaf) (hs : Ds w a l cap xs) :
    Calls Tryd.prog 76 #[.agg (u8s leaf).toArray, .int .i64 (i : Int), .int .i64 (n : Int), .slice a l cap] w fun r w' => r = .returned (.tuple #[.agg (u8s (fu (hvL i 0 n) xs leaf l)).toArray, .int .i64 0]) ∧ Below w.heap.size w w' := by
  have H := hide (fun v => lengthR_ok i n v h1 h2)
  have HU : Hid (∀ v : World, Ds v a l cap xs → Calls Tryd.prog 96 #[.agg (u8s leaf).toArray, .int .i64 (i : Int), .int .i64 (n : Int), .slice a l cap] v fun r w' => r = .returned (.agg (u8s (fu (hvL i 0 n) xs leaf l)).toArray) ∧ Below v.heap.size v w') := hide fun v hv => by
    have := upR_any leaf i hlf hlb n 0 n l a cap xs v (Nat.le_refl _) (Nat.zero_le _) (by omega) (by omega) hl hv
    rwa [show (i : Int) - ((0 : Nat) : Int) = (i : Int) by omega] at this
  have HS := hide hs
  have HLL := hide (show (u8s leaf).length = 32 by rw [u8s_length, hlf])
  have HRL := hide (show (u8s (fu (hvL i 0 n) xs leaf l)).length = 32 by rw [u8s_length, fu_length hlf])
  generalize fu (hvL i 0 n) xs leaf l = R at *
  rw [← hl] at H
  clear hs hl
  go_enter Tryd.func76, Tryd.ntmps76
  go_wp2_with (refine step_box rfl rfl ?_)
  intro w1 g4 hr1 hl1 hb1
  have G4 := hide hr1
  clear hr1
  go_wp2_with (refine step_alloc zD rfl ?_)
  intro w2 g8 hr2 hl2 hb2
  have G8 := hide hr2
  have G42 := hide (G4.out.below hb2 G4.out.lt)
  have B2 := hide (hb1.trans (hb2.mono hb1.size))
  have hw8 : w.heap.size ≤ g8 := Nat.le_trans hb1.size hl2
  clear hr2 hb1 hb2 G4
  go_wp2_with fail
  refine (H.out _).mono ?_
  rintro r w3 ⟨rfl, rfl⟩
  go_wp2_with (refine step_loadA wD rfl rfl G42.out HLL.out ?_)
  refine (HU.out _ (HS.out.below B2.out)).mono ?_
  rintro r w4 ⟨rfl, hb4⟩
  have G84 := hide (G8.out.on hb4)
  go_wp2_with (refine step_storeA wD rfl rfl rfl G84.out HRL.out (One.u8 _) rfl ?_; intro w5 hg5 hbut5)
  refine bodyPost_ret (results_wide2 rfl wD _ _ rfl hg5 HRL.out) rfl ⟨rfl, ?_⟩
  exact (on_below B2.out hb4).trans (hbut5.below hw8)

/-- What Root tells, program and document. -/
structure RB (leaf : List Int) (i n : Int) (l : Nat) (xs D : List Int) (E : Int) : Prop where
  len : D.length = 32
  byte : isB D
  prog : ∀ (a : Option Addr) (cap : Nat) (w : World), Ds w a l cap xs → KT w → Calls Tryd.prog 74 #[.agg (u8s leaf).toArray, .int .i64 i, .int .i64 n, .slice a l cap] w fun r w' => r = .returned (.tuple #[.agg (u8s D).toArray, .int .i64 E]) ∧ Below w.heap.size w w'
  doc : ∀ (a : Option Addr) (cap : Nat) (w : World), Ds w a l cap xs → Calls Tryd.prog 76 #[.agg (u8s leaf).toArray, .int .i64 i, .int .i64 n, .slice a l cap] w fun r w' => r = .returned (.tuple #[.agg (u8s D).toArray, .int .i64 E]) ∧ Below w.heap.size w w'
theorem zer_isB32 : isB (zer 32) := by unfold isB; decide
theorem root_both (leaf : List Int) (i n : Int) (l : Nat) (xs : List Int) (hlf : leaf.length = 32) (hlb : isB leaf) : ∃ D E, RB leaf i n l xs D E := by
  by_cases h : i < 0 ∨ n ≤ i ∨ 281474976710656 < n
  · exact ⟨zer 32, 40, zer_length 32, zer_isB32, fun a cap w _ _ => root7_bad leaf i n _ w h, fun a cap w _ => rootR7_bad leaf i n _ w h⟩
  · obtain ⟨i', rfl⟩ : ∃ i' : Nat, i = (i' : Int) := ⟨i.toNat, by omega⟩
    obtain ⟨n', rfl⟩ : ∃ n' : Nat, n = (n' : Int) := ⟨n.toNat, by omega⟩
    by_cases hl : l = (hvL i' 0 n').length
    · exact ⟨_, 0, fu_length hlf l, fu_isB hlb l, fun a cap w hs hk => root7_ok leaf i' n' a l cap xs w (by omega) (by omega) hl hlf hlb hs hk, fun a cap w hs => rootR7_ok leaf i' n' a l cap xs w (by omega) (by omega) hl hlf hlb hs⟩
    · exact ⟨zer 32, 70, zer_length 32, zer_isB32, fun a cap w _ _ => root7_len leaf i' n' a l cap w (by omega) (by omega) hl, fun a cap w _ => rootR7_len leaf i' n' a l cap w (by omega) (by omega) hl⟩

/-- What Inclusion tells. -/
def inR (D root : List Int) (E : Int) : Int := if E = 0 then (if D = root then 0 else 71) else E
theorem inR_self (D : List Int) (E : Int) : inR D D E = E := by
  unfold inR
  by_cases h : E = 0
  · rw [if_pos h, if_pos rfl, h]
  · rw [if_neg h]
set_option maxRecDepth 100000 in
set_option maxHeartbeats 1000000 in
theorem inc7_any (leaf root : List Int) (i n : Int) (a : Option Addr) (l cap : Nat) (xs D : List Int) (E : Int) (w : World) (hB : RB leaf i n l xs D E) (hlf : leaf.length = 32) (hrl : root.length = 32) (hs : Ds w a l cap xs) (hk : KT w) :
    Calls Tryd.prog 46 #[.agg (u8s leaf).toArray, .int .i64 i, .int .i64 n, .slice a l cap, .agg (u8s root).toArray] w fun r w' => r = .returned (.int .i64 (inR D root E)) ∧ Below w.heap.size w w' := by
  have HK := hide hk
  have HB := hide hB
  have HS := hide hs
  have HDL := hide hB.len
  have HRL := hide hrl
  have HDU := hide (show (u8s D).length = 32 by rw [u8s_length, hB.len])
  have HRU := hide (show (u8s root).length = 32 by rw [u8s_length, hrl])
  have HLL := hide (show (u8s leaf).length = 32 by rw [u8s_length, hlf])
  clear hk hs hrl hlf hB
  by_cases hE : E = 0
  · subst hE
    by_cases hD : D = root
    · rw [show inR D root 0 = 0 by unfold inR; rw [if_pos rfl, if_pos hD]]
      have hd : (!decide (D = root)) = false := by simp [hD]
      have HDD := hide hd
      clear hD hd
      go_enter Tryd.func46, Tryd.ntmps46
      go_wp2_with (refine step_box rfl rfl ?_)
      intro w1 g5 hr1 hl1 hb1
      have G5 := hide hr1
      clear hr1
      go_wp2_with (refine step_box rfl rfl ?_)
      intro w2 g9 hr2 hl2 hb2
      have G9 := hide hr2
      have G52 := hide (G5.out.on hb2)
      have B2 := hide (on_below hb1 hb2)
      clear hr2 hb1 hb2 G5
      go_wp2_with (refine step_loadA wD rfl rfl G52.out HLL.out ?_)
      refine (HB.out.prog a cap _ (HS.out.below B2.out) (HK.out.below B2.out HK.out.lt)).mono ?_
      rintro r w3 ⟨rfl, hb3⟩
      have G93 := hide (G9.out.on hb3)
      have B3 := hide (on_below B2.out hb3)
      clear hb3 G52 G9 B2
      go_wp2_with (refine step_alloc zD rfl ?_)
      intro w4 g11 hr4 hl4 hb4
      have G11 := hide hr4
      have h911 : g9 ≠ g11 := by have := G93.out.lt; omega
      clear hr4
      go_wp2_with (refine step_storeA wD rfl rfl rfl G11.out HDU.out (One.u8 _) rfl ?_)
      intro w5 hg5 hbut5
      have B5 := hide (new_below B3.out hb4 hl4 hbut5)
      have G95 := hide ((G93.out.on hb4).but hbut5 h911)
      have GD := hide hg5
      clear hg5 hbut5 hb4 G11 B3 G93
      go_wp2_with (first | (refine step_loadA wD rfl rfl GD.out HDU.out ?_) | (refine step_loadA wD rfl rfl G95.out HRU.out ?_) | (refine step_neQ aD _ HDD.out rfl rfl rfl HDL.out HRL.out ?_))
      go_ret
      exact ⟨rfl, B5.out⟩
    · rw [show inR D root 0 = 71 by unfold inR; rw [if_pos rfl, if_neg hD]]
      have hd : (!decide (D = root)) = true := by simp [hD]
      have HDD := hide hd
      clear hD hd
      go_enter Tryd.func46, Tryd.ntmps46
      go_wp2_with (refine step_box rfl rfl ?_)
      intro w1 g5 hr1 hl1 hb1
      have G5 := hide hr1
      clear hr1
      go_wp2_with (refine step_box rfl rfl ?_)
      intro w2 g9 hr2 hl2 hb2
      have G9 := hide hr2
      have G52 := hide (G5.out.on hb2)
      have B2 := hide (on_below hb1 hb2)
      clear hr2 hb1 hb2 G5
      go_wp2_with (refine step_loadA wD rfl rfl G52.out HLL.out ?_)
      refine (HB.out.prog a cap _ (HS.out.below B2.out) (HK.out.below B2.out HK.out.lt)).mono ?_
      rintro r w3 ⟨rfl, hb3⟩
      have G93 := hide (G9.out.on hb3)
      have B3 := hide (on_below B2.out hb3)
      clear hb3 G52 G9 B2
      go_wp2_with (refine step_alloc zD rfl ?_)
      intro w4 g11 hr4 hl4 hb4
      have G11 := hide hr4
      have h911 : g9 ≠ g11 := by have := G93.out.lt; omega
      clear hr4
      go_wp2_with (refine step_storeA wD rfl rfl rfl G11.out HDU.out (One.u8 _) rfl ?_)
      intro w5 hg5 hbut5
      have B5 := hide (new_below B3.out hb4 hl4 hbut5)
      have G95 := hide ((G93.out.on hb4).but hbut5 h911)
      have GD := hide hg5
      clear hg5 hbut5 hb4 G11 B3 G93
      go_wp2_with (first | (refine step_loadA wD rfl rfl GD.out HDU.out ?_) | (refine step_loadA wD rfl rfl G95.out HRU.out ?_) | (refine step_neQ aD _ HDD.out rfl rfl rfl HDL.out HRL.out ?_))
      go_ret
      exact ⟨rfl, B5.out⟩
  · rw [show inR D root E = E by unfold inR; rw [if_neg hE]]
    have hE1 : (E != 0) = true := by simp [hE]
    have hE2 : (E == 0) = false := by simp [hE]
    have HDD : Hid ((!decide (D = root)) = !decide (D = root)) := hide rfl
    go_enter Tryd.func46, Tryd.ntmps46
    go_wp2_with (refine step_box rfl rfl ?_)
    intro w1 g5 hr1 hl1 hb1
    have G5 := hide hr1
    clear hr1
    go_wp2_with (refine step_box rfl rfl ?_)
    intro w2 g9 hr2 hl2 hb2
    have G9 := hide hr2
    have G52 := hide (G5.out.on hb2)
    have B2 := hide (on_below hb1 hb2)
    clear hr2 hb1 hb2 G5
    go_wp2_with (refine step_loadA wD rfl rfl G52.out HLL.out ?_)
    refine (HB.out.prog a cap _ (HS.out.below B2.out) (HK.out.below B2.out HK.out.lt)).mono ?_
    rintro r w3 ⟨rfl, hb3⟩
    have G93 := hide (G9.out.on hb3)
    have B3 := hide (on_below B2.out hb3)
    clear hb3 G52 G9 B2
    go_wp2_with (refine step_alloc zD rfl ?_)
    intro w4 g11 hr4 hl4 hb4
    have G11 := hide hr4
    have h911 : g9 ≠ g11 := by have := G93.out.lt; omega
    clear hr4
    go_wp2_with (refine step_storeA wD rfl rfl rfl G11.out HDU.out (One.u8 _) rfl ?_)
    intro w5 hg5 hbut5
    have B5 := hide (new_below B3.out hb4 hl4 hbut5)
    have G95 := hide ((G93.out.on hb4).but hbut5 h911)
    have GD := hide hg5
    clear hg5 hbut5 hb4 G11 B3 G93
    go_wp2_with (first | (refine step_loadA wD rfl rfl GD.out HDU.out ?_) | (refine step_loadA wD rfl rfl G95.out HRU.out ?_) | (refine step_neQ aD _ HDD.out rfl rfl rfl HDL.out HRL.out ?_))
    go_ret
    exact ⟨rfl, B5.out⟩
set_option maxRecDepth 100000 in
set_option maxHeartbeats 1000000 in
theorem incR7_any (leaf root : List Int) (i n : Int) (a : Option Addr) (l cap : Nat) (xs D : List Int) (E : Int) (w : World) (hB : RB leaf i n l xs D E) (hlf : leaf.length = 32) (hrl : root.length = 32) (hs : Ds w a l cap xs) :
    Calls Tryd.prog 48 #[.agg (u8s leaf).toArray, .int .i64 i, .int .i64 n, .slice a l cap, .agg (u8s root).toArray] w fun r w' => r = .returned (.int .i64 (inR D root E)) ∧ Below w.heap.size w w' := by
  have HB := hide hB
  have HS := hide hs
  have HDL := hide hB.len
  have HRL := hide hrl
  have HDU := hide (show (u8s D).length = 32 by rw [u8s_length, hB.len])
  have HRU := hide (show (u8s root).length = 32 by rw [u8s_length, hrl])
  have HLL := hide (show (u8s leaf).length = 32 by rw [u8s_length, hlf])
  clear hs hrl hlf hB
  by_cases hE : E = 0
  · subst hE
    by_cases hD : D = root
    · rw [show inR D root 0 = 0 by unfold inR; rw [if_pos rfl, if_pos hD]]
      have hd : (!decide (D = root)) = false := by simp [hD]
      have HDD := hide hd
      clear hD hd
      go_enter Tryd.func48, Tryd.ntmps48
      go_wp2_with (refine step_box rfl rfl ?_)
      intro w1 g5 hr1 hl1 hb1
      have G5 := hide hr1
      clear hr1
      go_wp2_with (refine step_box rfl rfl ?_)
      intro w2 g9 hr2 hl2 hb2
      have G9 := hide hr2
      have G52 := hide (G5.out.on hb2)
      have B2 := hide (on_below hb1 hb2)
      clear hr2 hb1 hb2 G5
      go_wp2_with (refine step_loadA wD rfl rfl G52.out HLL.out ?_)
      refine (HB.out.doc a cap _ (HS.out.below B2.out)).mono ?_
      rintro r w3 ⟨rfl, hb3⟩
      have G93 := hide (G9.out.on hb3)
      have B3 := hide (on_below B2.out hb3)
      clear hb3 G52 G9 B2
      go_wp2_with (refine step_alloc zD rfl ?_)
      intro w4 g11 hr4 hl4 hb4
      have G11 := hide hr4
      have h911 : g9 ≠ g11 := by have := G93.out.lt; omega
      clear hr4
      go_wp2_with (refine step_storeA wD rfl rfl rfl G11.out HDU.out (One.u8 _) rfl ?_)
      intro w5 hg5 hbut5
      have B5 := hide (new_below B3.out hb4 hl4 hbut5)
      have G95 := hide ((G93.out.on hb4).but hbut5 h911)
      have GD := hide hg5
      clear hg5 hbut5 hb4 G11 B3 G93
      go_wp2_with (first | (refine step_loadA wD rfl rfl GD.out HDU.out ?_) | (refine step_loadA wD rfl rfl G95.out HRU.out ?_) | (refine step_neQ aD _ HDD.out rfl rfl rfl HDL.out HRL.out ?_))
      go_ret
      exact ⟨rfl, B5.out⟩
    · rw [show inR D root 0 = 71 by unfold inR; rw [if_pos rfl, if_neg hD]]
      have hd : (!decide (D = root)) = true := by simp [hD]
      have HDD := hide hd
      clear hD hd
      go_enter Tryd.func48, Tryd.ntmps48
      go_wp2_with (refine step_box rfl rfl ?_)
      intro w1 g5 hr1 hl1 hb1
      have G5 := hide hr1
      clear hr1
      go_wp2_with (refine step_box rfl rfl ?_)
      intro w2 g9 hr2 hl2 hb2
      have G9 := hide hr2
      have G52 := hide (G5.out.on hb2)
      have B2 := hide (on_below hb1 hb2)
      clear hr2 hb1 hb2 G5
      go_wp2_with (refine step_loadA wD rfl rfl G52.out HLL.out ?_)
      refine (HB.out.doc a cap _ (HS.out.below B2.out)).mono ?_
      rintro r w3 ⟨rfl, hb3⟩
      have G93 := hide (G9.out.on hb3)
      have B3 := hide (on_below B2.out hb3)
      clear hb3 G52 G9 B2
      go_wp2_with (refine step_alloc zD rfl ?_)
      intro w4 g11 hr4 hl4 hb4
      have G11 := hide hr4
      have h911 : g9 ≠ g11 := by have := G93.out.lt; omega
      clear hr4
      go_wp2_with (refine step_storeA wD rfl rfl rfl G11.out HDU.out (One.u8 _) rfl ?_)
      intro w5 hg5 hbut5
      have B5 := hide (new_below B3.out hb4 hl4 hbut5)
      have G95 := hide ((G93.out.on hb4).but hbut5 h911)
      have GD := hide hg5
      clear hg5 hbut5 hb4 G11 B3 G93
      go_wp2_with (first | (refine step_loadA wD rfl rfl GD.out HDU.out ?_) | (refine step_loadA wD rfl rfl G95.out HRU.out ?_) | (refine step_neQ aD _ HDD.out rfl rfl rfl HDL.out HRL.out ?_))
      go_ret
      exact ⟨rfl, B5.out⟩
  · rw [show inR D root E = E by unfold inR; rw [if_neg hE]]
    have hE1 : (E != 0) = true := by simp [hE]
    have hE2 : (E == 0) = false := by simp [hE]
    have HDD : Hid ((!decide (D = root)) = !decide (D = root)) := hide rfl
    go_enter Tryd.func48, Tryd.ntmps48
    go_wp2_with (refine step_box rfl rfl ?_)
    intro w1 g5 hr1 hl1 hb1
    have G5 := hide hr1
    clear hr1
    go_wp2_with (refine step_box rfl rfl ?_)
    intro w2 g9 hr2 hl2 hb2
    have G9 := hide hr2
    have G52 := hide (G5.out.on hb2)
    have B2 := hide (on_below hb1 hb2)
    clear hr2 hb1 hb2 G5
    go_wp2_with (refine step_loadA wD rfl rfl G52.out HLL.out ?_)
    refine (HB.out.doc a cap _ (HS.out.below B2.out)).mono ?_
    rintro r w3 ⟨rfl, hb3⟩
    have G93 := hide (G9.out.on hb3)
    have B3 := hide (on_below B2.out hb3)
    clear hb3 G52 G9 B2
    go_wp2_with (refine step_alloc zD rfl ?_)
    intro w4 g11 hr4 hl4 hb4
    have G11 := hide hr4
    have h911 : g9 ≠ g11 := by have := G93.out.lt; omega
    clear hr4
    go_wp2_with (refine step_storeA wD rfl rfl rfl G11.out HDU.out (One.u8 _) rfl ?_)
    intro w5 hg5 hbut5
    have B5 := hide (new_below B3.out hb4 hl4 hbut5)
    have G95 := hide ((G93.out.on hb4).but hbut5 h911)
    have GD := hide hg5
    clear hg5 hbut5 hb4 G11 B3 G93
    go_wp2_with (first | (refine step_loadA wD rfl rfl GD.out HDU.out ?_) | (refine step_loadA wD rfl rfl G95.out HRU.out ?_) | (refine step_neQ aD _ HDD.out rfl rfl rfl HDL.out HRL.out ?_))
    go_ret
    exact ⟨rfl, B5.out⟩

end Go.Proofs.YtojepbapdjkknaaDoor

/-
  The two roots that a consistency proof leads to: the program's.
-/
namespace Go.Proofs.YtojepbapdjkknaaDoor
open Go.RowKit
set_option linter.unusedVariables false

/-- The older root out of the first k digests. -/
def fo (hs xs d : List Int) : Nat → List Int
  | 0 => d
  | k + 1 => if hs.getD k 0 = 1 then nd (dat xs k) (fo hs xs d k) else fo hs xs d k
theorem fo_length {hs xs d : List Int} (h : d.length = 32) : ∀ k, (fo hs xs d k).length = 32
  | 0 => h
  | k + 1 => by unfold fo; split
                · exact nd_length _ _
                · exact fo_length h k
theorem fo_isB {hs xs d : List Int} (h : isB d) : ∀ k, isB (fo hs xs d k)
  | 0 => h
  | k + 1 => by unfold fo; split
                · exact nd_isB _ _
                · exact fo_isB h k
/-- The digest at which both begin. -/
def st0 (t : Nat) (d xs : List Int) : List Int := if t = 0 then d else dat xs 0
theorem st0_length {t n : Nat} {d xs : List Int} (hd : d.length = 32) (hx : xs.length = 32 * n) (h : t ≤ n) : (st0 t d xs).length = 32 := by
  unfold st0
  split
  · exact hd
  · exact dat_length hx (by omega)
theorem st0_isB {t : Nat} {d xs : List Int} (hd : isB d) (hx : isB xs) : isB (st0 t d xs) := by
  unfold st0
  split
  · exact hd
  · exact dat_isB hx 0
/-- What lies behind the first t. -/
theorem from_any {a : Option Addr} {l cap : Nat} {xs : List Int} {w0 : World} (t : Nat) (ht : t ≤ l) (hs : Ds w0 a l cap xs) :
    ∃ a' cap', (∀ v : World, (Instr.slice 22 (.slice a l cap) (some (.int .i64 (t : Int))) none none).run Tryd.prog v = .ok (.slice a' (l - t) cap') v) ∧ (∀ w : World, Ds w a l cap xs → Ds w a' (l - t) cap' (xs.drop (32 * t))) := by
  have hcl := hs.hcap
  refine ⟨if cap = t then a else a.map (·.add (t * 32)), cap - t, fun v => ?_, fun w hw => ?_⟩
  · rw [run_slice_l v _ _ _ _ undDs .i64 t (by omega) (by omega), elemDs, sizeDs]
    simp [sliced]
  · have hcap := hw.hcap
    have hmax := hw.hmax
    by_cases hc : cap = t
    · rw [if_pos hc]
      obtain rfl : t = l := by omega
      rw [show t - t = 0 by omega, List.drop_of_length_le (by rw [hw.hlen]; exact Nat.le_refl _)]
      exact ⟨by omega, by omega, fun h => by omega, rfl, Nat.le_refl _, by omega, by omega, (fun y hy => by cases hy), fun _ => by omega, fun h => by omega⟩
    · rw [if_neg hc]
      cases a with
      | none => exact absurd (hw.hnil rfl) (by omega)
      | some x =>
        by_cases h0 : l = 0
        · subst h0
          obtain rfl : t = 0 := by omega
          have hx := hw.hlen
          obtain rfl : xs = [] := List.eq_nil_of_length_eq_zero hx
          exact ⟨by omega, by omega, (fun e => by cases e), rfl, Nat.le_refl _, by omega, by omega, (fun y hy => by cases hy), (fun e => by cases e), fun h => by omega⟩
        · obtain ⟨b, o, e⟩ := hw.place (by omega)
          cases e
          have := hw.drop t ht
          simpa [Addr.add_lit, Nat.mul_comm] using this
theorem results_wwt {fn : Func} {p q u : Tmp} {T U : TypeId} (h : fn.results = #[.cell p T, .cell q U, .tmp u]) {n m : Nat} (hT : Wide T n) (hU : Wide U m) (tmps : Array Value) (w : World)
    {g g' : Nat} {t t' : TypeId} {cs cs' : List Value} (hp : tmps.getD p undef = .pointer (some ⟨g, 0, none⟩)) (hq : tmps.getD q undef = .pointer (some ⟨g', 0, none⟩)) (hg : Blk w g t cs) (hg' : Blk w g' t' cs') (hl : cs.length = n) (hl' : cs'.length = m) :
    (results fn tmps).run Tryd.prog w = .ok (.tuple #[.agg cs.toArray, .agg cs'.toArray, tmps.getD u undef]) w := by
  have hp' : tmps[p]?.getD undef = .pointer (some ⟨g, 0, none⟩) := by simpa using hp
  have hq' : tmps[q]?.getD undef = .pointer (some ⟨g', 0, none⟩) := by simpa using hq
  obtain ⟨d, hu, hd⟩ := hT.und
  obtain ⟨d', hu', hd'⟩ := hU.und
  simp [results, h, hp', hq', asAddr, run_loadVar_mid w g 0 T cs d (hg.range 0 cs (by simp)) hu hd (by rw [hT.size, hl]), run_loadVar_mid w g' 0 U cs' d' (hg'.range 0 cs' (by simp)) hu' hd' (by rw [hU.size, hl'])]

/-- What the loop keeps. -/
structure RS (w wr : World) (g8 g9 : Nat) (v : Value) (hs X Y : List Int) : Prop where
  own : OwnH wr w.heap.size v hs
  n8 : v.ownBlock ≠ some g8
  n9 : v.ownBlock ≠ some g9
  x : Blk wr g8 45 (u8s X)
  y : Blk wr g9 45 (u8s Y)
  bel : Below w.heap.size w wr
theorem RS.below {w wr w' : World} {g8 g9 : Nat} {v : Value} {hs X Y : List Int} (h : RS w wr g8 g9 v hs X Y) (hb : Below wr.heap.size wr w') : RS w w' g8 g9 v hs X Y :=
  ⟨h.own.below hb, h.n8, h.n9, h.x.on hb, h.y.on hb, on_below h.bel hb⟩
theorem RS.set8 {w wr w' : World} {g8 g9 : Nat} {v : Value} {hs X X' Y : List Int} (h : RS w wr g8 g9 v hs X Y) (hb : But g8 wr w') (hd : Blk w' g8 45 (u8s X')) (hg : w.heap.size ≤ g8) (h89 : g8 ≠ g9) : RS w w' g8 g9 v hs X' Y :=
  ⟨h.own.but hb h.n8, h.n8, h.n9, hd, h.y.but hb (Ne.symm h89), h.bel.trans (hb.below hg)⟩
theorem RS.set9 {w wr w' : World} {g8 g9 : Nat} {v : Value} {hs X Y Y' : List Int} (h : RS w wr g8 g9 v hs X Y) (hb : But g9 wr w') (hd : Blk w' g9 45 (u8s Y')) (hg : w.heap.size ≤ g9) (h89 : g8 ≠ g9) : RS w w' g8 g9 v hs X Y' :=
  ⟨h.own.but hb h.n9, h.n8, h.n9, h.x.but hb h89, hd, h.bel.trans (hb.below hg)⟩

set_option maxRecDepth 100000 in
set_option maxHeartbeats 1000000 in
theorem roots7_bad (d : List Int) (m n : Int) (a : Value) (w : World) (h : m < 1 ∨ n < m ∨ 281474976710656 < n) :
    Calls Tryd.prog 77 #[.agg (u8s d).toArray, .int .i64 m, .int .i64 n, a] w fun r w' => r = .returned (.tuple #[.agg (u8s (zer 32)).toArray, .agg (u8s (zer 32)).toArray, .int .i64 40]) ∧ Below w.heap.size w w' := by
  have H := hide (fun v => toPart_bad m n v h)
  clear h
  go_enter Tryd.func77, Tryd.ntmps77
  go_wp2_with (refine step_box rfl rfl ?_)
  intro w1 g4 hr1 hl1 hb1
  have G4 := hide hr1
  clear hr1
  go_wp2_with (refine step_alloc zD rfl ?_)
  intro w2 g8 hr2 hl2 hb2
  have G8 := hide hr2
  have G42 := hide (G4.out.on hb2)
  have B2 := hide (hb1.trans (hb2.mono hb1.size))
  have hw8 : w.heap.size ≤ g8 := Nat.le_trans hb1.size hl2
  clear hr2 hb1 hb2 G4
  go_wp2_with (refine step_alloc zD rfl ?_)
  intro w3 g9 hr3 hl3 hb3
  have G9 := hide hr3
  have G83 := hide (G8.out.on hb3)
  have G43 := hide (G42.out.on hb3)
  have h89 : g8 ≠ g9 := by have := G8.out.lt; omega
  have hw9 : w.heap.size ≤ g9 := Nat.le_trans B2.out.size hl3
  have B3 := hide (on_below B2.out hb3)
  clear hr3 hb3 G8 G42 B2
  go_wp2_with fail
  refine (H.out _).mono ?_
  rintro r w4 ⟨rfl, hb4⟩
  have G84 := hide (G83.out.on hb4)
  have G94 := hide (G9.out.on hb4)
  have B4 := hide (on_below B3.out hb4)
  clear hb4 G83 G9 B3
  go_wp2_with (first | (refine step_buildD rfl ?_) | (refine step_storeA wD rfl rfl rfl G84.out (by rw [u8s_length, zer_length]) (One.u8 _) rfl ?_))
  intro w5 hg5 hbut5
  have E8 := hide hg5
  have E9 := hide (G94.out.but hbut5 (Ne.symm h89))
  have EB := hide (B4.out.trans (hbut5.below hw8))
  clear hg5 hbut5
  go_wp2_with (refine step_storeA wD rfl rfl rfl E9.out (by rw [u8s_length, zer_length]) (One.u8 _) rfl ?_; intro w6 hg6 hbut6)
  refine bodyPost_ret (results_wwt rfl wD wD _ _ rfl rfl (E8.out.but hbut6 h89) hg6 (by rw [u8s_length, zer_length]) (by rw [u8s_length, zer_length])) rfl ⟨rfl, ?_⟩
  exact EB.out.trans (hbut6.below hw9)
set_option maxRecDepth 100000 in
set_option maxHeartbeats 1000000 in
theorem roots7_len (d : List Int) (m n : Nat) (a : Option Addr) (l cap : Nat) (w : World) (h0 : 1 ≤ m) (h1 : m ≤ n) (h2 : n ≤ 281474976710656) (hl : l ≠ (hvM m 0 n).length + ptM m 0 n) :
    Calls Tryd.prog 77 #[.agg (u8s d).toArray, .int .i64 (m : Int), .int .i64 (n : Int), .slice a l cap] w fun r w' => r = .returned (.tuple #[.agg (u8s (zer 32)).toArray, .agg (u8s (zer 32)).toArray, .int .i64 70]) ∧ Below w.heap.size w w' := by
  have H := hide (fun v => toPart_ok m n v h0 h1 h2)
  have hlen := hvM_few h0 (show 0 < m by omega) (show m ≤ 0 + n by omega) h2
  have hpt := ptM_le m 0 n
  have hl' : ((l : Int) != ((hvM m 0 n).length : Int) + (ptM m 0 n : Int)) = true := by simp; omega
  generalize hvM m 0 n = L at *
  generalize ptM m 0 n = T at *
  clear hl
  go_enter Tryd.func77, Tryd.ntmps77
  go_wp2_with (refine step_box rfl rfl ?_)
  intro w1 g4 hr1 hl1 hb1
  have G4 := hide hr1
  clear hr1
  go_wp2_with (refine step_alloc zD rfl ?_)
  intro w2 g8 hr2 hl2 hb2
  have G8 := hide hr2
  have G42 := hide (G4.out.on hb2)
  have B2 := hide (hb1.trans (hb2.mono hb1.size))
  have hw8 : w.heap.size ≤ g8 := Nat.le_trans hb1.size hl2
  clear hr2 hb1 hb2 G4
  go_wp2_with (refine step_alloc zD rfl ?_)
  intro w3 g9 hr3 hl3 hb3
  have G9 := hide hr3
  have G83 := hide (G8.out.on hb3)
  have G43 := hide (G42.out.on hb3)
  have h89 : g8 ≠ g9 := by have := G8.out.lt; omega
  have hw9 : w.heap.size ≤ g9 := Nat.le_trans B2.out.size hl3
  have B3 := hide (on_below B2.out hb3)
  clear hr3 hb3 G8 G42 B2
  go_wp2_with fail
  refine (H.out _).mono ?_
  rintro r w4 ⟨v4, rfl, ho4, hb4⟩
  obtain ⟨a4, c4, rfl⟩ := ho4.slice
  have G84 := hide (G83.out.on hb4)
  have G94 := hide (G9.out.on hb4)
  have B4 := hide (on_below B3.out hb4)
  clear hb4 G83 G9 B3 ho4
  go_wp2_with (first | (refine step_buildD rfl ?_) | (refine step_storeA wD rfl rfl rfl G84.out (by rw [u8s_length, zer_length]) (One.u8 _) rfl ?_))
  intro w5 hg5 hbut5
  have E8 := hide hg5
  have E9 := hide (G94.out.but hbut5 (Ne.symm h89))
  have EB := hide (B4.out.trans (hbut5.below hw8))
  clear hg5 hbut5
  go_wp2_with (refine step_storeA wD rfl rfl rfl E9.out (by rw [u8s_length, zer_length]) (One.u8 _) rfl ?_; intro w6 hg6 hbut6)
  refine bodyPost_ret (results_wwt rfl wD wD _ _ rfl rfl (E8.out.but hbut6 h89) hg6 (by rw [u8s_length, zer_length]) (by rw [u8s_length, zer_length])) rfl ⟨rfl, ?_⟩
  exact EB.out.trans (hbut6.below hw9)

end Go.Proofs.YtojepbapdjkknaaDoor

/-
  The two roots that a consistency proof leads to: the program's, where the proof is as long as it must be.
-/
namespace Go.Proofs.YtojepbapdjkknaaDoor
open Go.RowKit
set_option linter.unusedVariables false

set_option maxRecDepth 100000 in
set_option maxHeartbeats 4000000 in
theorem roots7_ok (d : List Int) (m n : Nat) (a : Option Addr) (l cap : Nat) (xs : List Int) (w : World) (h0 : 1 ≤ m) (h1 : m ≤ n) (h2 : n ≤ 281474976710656) (hl : l = (hvM m 0 n).length + ptM m 0 n) (hd : d.length = 32) (hdb : isB d) (hs : Ds w a l cap xs) (hk : KT w) :
    Calls Tryd.prog 77 #[.agg (u8s d).toArray, .int .i64 (m : Int), .int .i64 (n : Int), .slice a l cap] w fun r w' => r = .returned (.tuple #[.agg (u8s (fo (hvM m 0 n) (xs.drop (32 * ptM m 0 n)) (st0 (ptM m 0 n) d xs) (hvM m 0 n).length)).toArray, .agg (u8s (fu (hvM m 0 n) (xs.drop (32 * ptM m 0 n)) (st0 (ptM m 0 n) d xs) (hvM m 0 n).length)).toArray, .int .i64 0]) ∧ Below w.heap.size w w' := by
  have H := hide (fun v => toPart_ok m n v h0 h1 h2)
  have hlen := hvM_few h0 (show 0 < m by omega) (show m ≤ 0 + n by omega) h2
  have hpt := ptM_le m 0 n
  generalize hvM m 0 n = L at *
  generalize ptM m 0 n = T at *
  have HS := hide hs
  have HK := hide hk
  have HLL := hide (show (u8s d).length = 32 by rw [u8s_length, hd])
  obtain ⟨q, hq⟩ : ∃ q, L.length = q := ⟨_, rfl⟩
  have HQ := hide hq
  rw [hq] at hl hlen ⊢
  obtain ⟨pa, pc, hfr, hdr⟩ := from_any T (by omega) hs
  have hTl : T ≤ l := by omega
  have hSL := st0_length (t := T) hd hs.hlen hTl
  have hSB := st0_isB (t := T) hdb hs.hbyte
  rw [show l - T = q by omega] at hfr hdr
  have HDR := hide hdr
  have HSU := hide (show (u8s (st0 T d xs)).length = 32 by rw [u8s_length, hSL])
  have HZ := hide (show st0 T d xs = if T = 0 then d else dat xs 0 from rfl)
  have hll : (l : Int) = (q : Int) + (T : Int) := by omega
  generalize hys : xs.drop (32 * T) = ys at *
  generalize st0 T d xs = D0 at *
  have HFL := hide (fun k => fu_length (hs := L) (xs := ys) hSL k)
  have HFB := hide (fun k => fu_isB (hs := L) (xs := ys) hSB k)
  have HOL := hide (fun k => fo_length (hs := L) (xs := ys) hSL k)
  have HOB := hide (fun k => fo_isB (hs := L) (xs := ys) hSB k)
  have HLT := hide hl
  have hne : ((l : Int) != (q : Int) + (T : Int)) = false := by simp; omega
  have hl9 : l ≤ 49 := by omega
  clear hs hk hd hdb hq hdr hl hll hys
  go_enter Tryd.func77, Tryd.ntmps77
  go_wp2_with (refine step_box rfl rfl ?_)
  intro w1 g4 hr1 hl1 hb1
  have G4 := hide hr1
  clear hr1
  go_wp2_with (refine step_alloc zD rfl ?_)
  intro w2 g8 hr2 hl2 hb2
  have G8 := hide hr2
  have G42 := hide (G4.out.on hb2)
  have B2 := hide (hb1.trans (hb2.mono hb1.size))
  have hw8 : w.heap.size ≤ g8 := Nat.le_trans hb1.size hl2
  clear hr2 hb1 hb2 G4
  go_wp2_with (refine step_alloc zD rfl ?_)
  intro w3 g9 hr3 hl3 hb3
  have G9 := hide hr3
  have G83 := hide (G8.out.on hb3)
  have G43 := hide (G42.out.on hb3)
  have h89 : g8 ≠ g9 := by have := G8.out.lt; omega
  have hw9 : w.heap.size ≤ g9 := Nat.le_trans B2.out.size hl3
  have B3 := hide (on_below B2.out hb3)
  clear hr3 hb3 G8 G42 B2
  go_wp2_with fail
  refine (H.out _).mono ?_
  rintro r w4 ⟨v4, rfl, ho4, hb4⟩
  obtain ⟨a3, c3, rfl⟩ := ho4.slice
  rw [HQ.out] at ho4 ⊢
  have G84 := hide (G83.out.on hb4)
  have G94 := hide (G9.out.on hb4)
  have G44 := hide (G43.out.on hb4)
  have O4 := hide (ho4.lower B3.out.size)
  have B4 := hide (on_below B3.out hb4)
  have h38 := G83.out.lt
  have h39 := G9.out.lt
  have N8 : Hid ((Value.slice a3 q c3).ownBlock ≠ some g8) := hide fun hk => by have := (ho4.lt _ hk).1; omega
  have N9 : Hid ((Value.slice a3 q c3).ownBlock ≠ some g9) := hide fun hk => by have := (ho4.lt _ hk).1; omega
  clear hb4 ho4 G83 G9 G43 B3 h38 h39
  go_wp2_with (first | (refine step_loadA wD rfl rfl G44.out HLL.out ?_) | (refine step_storeA wD rfl rfl rfl G84.out HLL.out (One.u8 _) rfl ?_))
  intro w5 hg5 hbut5
  have G85 := hide hg5
  have G95 := hide (G94.out.but hbut5 h89.symm)
  have O5 := hide (O4.out.but hbut5 N8.out)
  have B5 := hide (B4.out.trans (hbut5.below hw8))
  clear hg5 hbut5 G84 G94 G44 O4 B4
  by_cases hT : T = 0
  · have hT' : ¬ ((T : Int) > 0) := by omega
    have HD0 : Hid (d = D0) := hide (by rw [HZ.out, if_pos hT])
    have HT := hide hT
    clear hT HZ
    go_wp2_with (first | (refine step_loadA wD rfl rfl G85.out HLL.out ?_) | (refine step_storeA wD rfl rfl rfl G95.out HLL.out (One.u8 _) rfl ?_))
    intro w6 hg6 hbut6
    have R7 : Hid (RS w w6 g8 g9 (.slice a3 q c3) L D0 D0) := hide ⟨O5.out.but hbut6 N9.out, N8.out, N9.out, by rw [← HD0.out]; exact G85.out.but hbut6 h89, by rw [← HD0.out]; exact hg6, B5.out.trans (hbut6.below hw9)⟩
    clear hg6 hbut6 G85 G95 O5 B5
    go_wp2
    go_loopw [47] (fun s wr => ∃ k : Nat, k ≤ q ∧ s = .int .i64 (k : Int) ∧ RS w wr g8 g9 (.slice a3 q c3) L (fo L ys D0 k) (fu L ys D0 k)) (fun s _ => q - (intOf s).toNat)
    case atStart => exact ⟨0, by omega, rfl, R7.out⟩
    case round =>
      obtain ⟨k, hkl, rfl, hR⟩ := hrel
      have R := hide hR
      clear hR R7
      by_cases hlt : k < q
      · have hlt' : (k : Int) < (q : Int) := by omega
        have HY := hide (HDR.out _ (HS.out.below R.out.bel))
        obtain ⟨b, o, rfl⟩ := HY.out.place (by omega)
        have hat := d_at b o q pc k (k : Int) rfl hlt
        have HDL := hide (dat_length HY.out.hlen hlt)
        have HDB := hide (dat_isB HY.out.hbyte k)
        have HUL := hide (show (u8s (dat ys k)).length = 32 by rw [u8s_length, HDL.out])
        have HRG := hide (HY.out.range k hlt)
        obtain ⟨h, hh⟩ : ∃ h, L[k]? = some h := ⟨_, List.getElem?_eq_getElem (show k < L.length by rw [HQ.out]; exact hlt)⟩
        have hg : L.getD k 0 = h := by rw [List.getD, hh]; rfl
        have HNX : Hid (fu L ys D0 (k + 1) = jn h (fu L ys D0 k) (dat ys k)) := hide (by show jn (L.getD k 0) _ _ = _; rw [hg])
        have HNF : Hid (fo L ys D0 (k + 1) = if h = 1 then nd (dat ys k) (fo L ys D0 k) else fo L ys D0 k) := hide (by show (if L.getD k 0 = 1 then _ else _) = _; rw [hg])
        obtain ⟨gH, rfl⟩ : ∃ gH, a3 = some ⟨gH, 0, none⟩ := by
          rcases R.out.own.lies with ⟨e, h0⟩ | ⟨g, c, cs, e, _⟩
          · rw [h0] at hh; cases hh
          · injection e with e1 _ _; exact ⟨g, e1⟩
        have HHH := hide hh
        have HFL2 := hide (HFL.out k)
        have HFB2 := hide (HFB.out k)
        have HOL2 := hide (HOL.out k)
        have HOB2 := hide (HOB.out k)
        have HOU2 := hide (show (u8s (fo L ys D0 k)).length = 32 by rw [u8s_length, HOL.out k])
        generalize fu L ys D0 k = Dk at *
        generalize fo L ys D0 k = Ok at *
        have hix := atH gH q c3 k (k : Int) rfl hlt
        clear hh hg HY
        go_wp2_with (first | (refine step_loadR wD rfl rfl _ HRG.out HUL.out ?_) | (refine step_alloc zD rfl ?_))
        intro w8 g14 hr8 hl8 hb8
        have G14 := hide hr8
        clear hr8
        go_wp2_with (refine step_storeA wD rfl rfl rfl G14.out HUL.out (One.u8 _) rfl ?_)
        intro w9 hg9 hbut9
        have hn14 : g9 ≠ g14 := by have := R.out.y.lt; omega
        have hm14 : g8 ≠ g14 := by have := R.out.x.lt; omega
        have B89 := hide (hb8.trans (hbut9.below hl8))
        have R9 := hide (R.out.below B89.out)
        have G99 := hide hg9
        clear hg9 hbut9 hb8 G14 R HRG hat B89
        have hcell := R9.out.own.cell k h HHH.out
        by_cases hh1 : h = 1
        · subst hh1
          have HNO : Hid (fo L ys D0 (k + 1) = nd (dat ys k) Ok) := hide (by rw [HNF.out, if_pos rfl])
          clear HNF
          go_wp2_with (first | (refine step_loadA wD rfl rfl R9.out.x HOU2.out ?_) | (refine step_loadA wD rfl rfl G99.out HUL.out ?_) | fail)
          refine (join_any 1 Ok (dat ys k) _ HOL2.out HOB2.out HDL.out HDB.out (HK.out.below R9.out.bel HK.out.lt)).mono ?_
          rintro r wa ⟨rfl, hba⟩
          have RA := hide (R9.out.below hba)
          have GA := hide (G99.out.on hba)
          have HJU := hide (show (u8s (jn 1 Ok (dat ys k))).length = 32 by rw [u8s_length, jn_length])
          clear hba R9 G99 hcell hix
          go_wp2_with (refine step_storeA wD rfl rfl rfl RA.out.x HJU.out (One.u8 _) HOU2.out ?_)
          intro wb hgb hbutb
          have RB := hide (RA.out.set8 hbutb (X' := nd (dat ys k) Ok) hgb hw8 h89)
          have GB := hide (GA.out.but hbutb hm14.symm)
          clear hgb hbutb RA GA
          go_wp2_with fail
          refine wp_region_noPanic ?_
          have R0 := hide (RB.out.below ((Below.refl _ _).drew))
          have G0 := hide (GB.out.on ((Below.refl _ _).drew))
          have hu := aD.und
          have HI1 : Hid ((Tryd.prog.info? 45).map (·.size) = some (u8s (dat ys k)).length) := hide (by rw [wD.size, HUL.out])
          have hS : ∀ v : World, OwnH v w.heap.size (.slice (some ⟨gH, 0, none⟩) q c3) L → Blk v g14 45 (u8s (dat ys k)) → v.cell? ⟨gH, k, none⟩ = some (.int .i64 1) ∧ v.rangeAt g14 0 (u8s (dat ys k)) := fun v h1 h2 => ⟨h1.cell k 1 HHH.out, h2.range 0 _ (by simp)⟩
          refine wp_region_held_drew (S := fun v : World => v.cell? ⟨gH, k, none⟩ = some (.int .i64 1) ∧ v.rangeAt g14 0 (u8s (dat ys k))) (by kernel_rfl) (hS _ R0.out.own G0.out) (fun hHeld => ?_)
          refine takeH 0 60 (.slice (some ⟨gH, 0, none⟩) q c3) hHeld rfl rfl (by kernel_rfl) (by kernel_rfl) (by kernel_rfl) (fun _ _ _ h => h) (Or.inl ⟨by rfl, fun w _ => by go_simp⟩) ?_
          simp only [Act.put, List.setIfInBounds_toArray, List.set_cons_zero, List.set_cons_succ]
          refine takeH 1 61 (.int .i64 (k : Int)) hHeld rfl rfl (by kernel_rfl) (by kernel_rfl) (by kernel_rfl) (fun _ _ _ h => h) (Or.inl ⟨by rfl, fun w _ => by go_simp⟩) ?_
          simp only [Act.put, List.setIfInBounds_toArray, List.set_cons_zero, List.set_cons_succ]
          refine takeH 2 62 (.pointer (some ⟨gH, k, none⟩)) hHeld rfl rfl (by kernel_rfl) (by kernel_rfl) (by kernel_rfl) (fun _ _ _ h => h) (Or.inl ⟨by rfl, fun w _ => run_op rfl ((atH gH q c3 k _ rfl hlt) w)⟩) ?_
          simp only [Act.put, List.setIfInBounds_toArray, List.set_cons_zero, List.set_cons_succ]
          refine takeH 3 63 (.int .i64 1) hHeld rfl rfl (by kernel_rfl) (by kernel_rfl) (by kernel_rfl) (fun _ _ _ h => h) (Or.inl ⟨by rfl, fun w hw => by have hw' : w.cell? ⟨gH, k, none⟩ = some (.int .i64 1) := (fun h => h.1) hw; go_simp⟩) ?_
          simp only [Act.put, List.setIfInBounds_toArray, List.set_cons_zero, List.set_cons_succ]
          refine takeH 5 65 (.agg (u8s (dat ys k)).toArray) hHeld rfl rfl (by kernel_rfl) (by kernel_rfl) (by kernel_rfl) (fun _ _ _ h => h) (yieldsIf_load_mid (by rfl) _ _ rfl g14 0 rfl _ _ (fun w h => h.2) hu rfl HI1.out) ?_
          simp only [Act.put, List.setIfInBounds_toArray, List.set_cons_zero, List.set_cons_succ]
          refine wpAnyH_ready (rs := [4]) (by kernel_rfl) (by simp) (AllReadyH.cons rfl (fun K hK => ?_) AllReadyH.nil)
          rw [if_pos (by rfl)]
          refine wp_loadWG wD rfl R0.out.y (by rw [u8s_length]; exact HFL2.out) ?_
          refine hK.out _ _ (hS _ R0.out.own G0.out) (fun hHeld => ?_)
          clear hK K
          simp only [Act.put]
          refine wpAnyH_ready (rs := [6]) (by kernel_rfl) (by simp) (AllReadyH.cons rfl (fun K hK => ?_) AllReadyH.nil)
          rw [if_pos (by rfl)]
          go_simp
          refine (join_any 1 Dk (dat ys k) _ HFL2.out HFB2.out HDL.out HDB.out (HK.out.below R0.out.bel HK.out.lt)).mono ?_
          rintro r v1 ⟨rfl, hv1⟩
          have R1 := hide (R0.out.below hv1)
          have G1 := hide (G0.out.on hv1)
          refine hK.out _ _ (hS _ R1.out.own G1.out) (fun hHeld => ?_)
          clear hK K
          refine wpAnyH_ready (rs := [7]) (by kernel_rfl) (by simp) (AllReadyH.cons rfl (fun K hK => ?_) AllReadyH.nil)
          rw [if_pos (by rfl)]
          refine wp_storeW wD rfl rfl rfl R1.out.y (by rw [u8s_length]; exact jn_length _ _ _) (One.u8 _) (by rw [u8s_length, HFL2.out]; omega) ?_
          intro v2 hgs hbuts
          rw [spl_same _ _ HFL2.out (jn_length _ _ _)] at hgs
          have R2 := hide (R1.out.set9 hbuts hgs hw9 h89)
          have G2 := hide (G1.out.but hbuts hn14.symm)
          refine hK.out _ _ (hS _ R2.out.own G2.out) (fun hHeld => ?_)
          clear hK K
          simp only [Act.put]
          refine wpAnyH_done (by kernel_rfl) ?_ _
          refine NoPanic.normal ?_
          clear hHeld hS hu
          go_wp2
          go_roundw
          case rel => exact ⟨k + 1, by omega, by simp, by rw [HNO.out, HNX.out]; exact R2.out⟩
          case measure => simp only [intOf]; omega
        · have hh2 : (h == 1) = false := by simp [hh1]
          have HNO : Hid (fo L ys D0 (k + 1) = Ok) := hide (by rw [HNF.out, if_neg hh1])
          clear HNF
          go_wp2_with fail
          clear hcell hix
          go_wp2_with fail
          refine wp_region_noPanic ?_
          have R0 := hide (R9.out.below ((Below.refl _ _).drew))
          have G0 := hide (G99.out.on ((Below.refl _ _).drew))
          have hu := aD.und
          have HI1 : Hid ((Tryd.prog.info? 45).map (·.size) = some (u8s (dat ys k)).length) := hide (by rw [wD.size, HUL.out])
          have hS : ∀ v : World, OwnH v w.heap.size (.slice (some ⟨gH, 0, none⟩) q c3) L → Blk v g14 45 (u8s (dat ys k)) → v.cell? ⟨gH, k, none⟩ = some (.int .i64 h) ∧ v.rangeAt g14 0 (u8s (dat ys k)) := fun v h1 h2 => ⟨h1.cell k h HHH.out, h2.range 0 _ (by simp)⟩
          refine wp_region_held_drew (S := fun v : World => v.cell? ⟨gH, k, none⟩ = some (.int .i64 h) ∧ v.rangeAt g14 0 (u8s (dat ys k))) (by kernel_rfl) (hS _ R0.out.own G0.out) (fun hHeld => ?_)
          refine takeH 0 60 (.slice (some ⟨gH, 0, none⟩) q c3) hHeld rfl rfl (by kernel_rfl) (by kernel_rfl) (by kernel_rfl) (fun _ _ _ h => h) (Or.inl ⟨by rfl, fun w _ => by go_simp⟩) ?_
          simp only [Act.put, List.setIfInBounds_toArray, List.set_cons_zero, List.set_cons_succ]
          refine takeH 1 61 (.int .i64 (k : Int)) hHeld rfl rfl (by kernel_rfl) (by kernel_rfl) (by kernel_rfl) (fun _ _ _ h => h) (Or.inl ⟨by rfl, fun w _ => by go_simp⟩) ?_
          simp only [Act.put, List.setIfInBounds_toArray, List.set_cons_zero, List.set_cons_succ]
          refine takeH 2 62 (.pointer (some ⟨gH, k, none⟩)) hHeld rfl rfl (by kernel_rfl) (by kernel_rfl) (by kernel_rfl) (fun _ _ _ h => h) (Or.inl ⟨by rfl, fun w _ => run_op rfl ((atH gH q c3 k _ rfl hlt) w)⟩) ?_
          simp only [Act.put, List.setIfInBounds_toArray, List.set_cons_zero, List.set_cons_succ]
          refine takeH 3 63 (.int .i64 h) hHeld rfl rfl (by kernel_rfl) (by kernel_rfl) (by kernel_rfl) (fun _ _ _ h => h) (Or.inl ⟨by rfl, fun w hw => by have hw' : w.cell? ⟨gH, k, none⟩ = some (.int .i64 h) := (fun h => h.1) hw; go_simp⟩) ?_
          simp only [Act.put, List.setIfInBounds_toArray, List.set_cons_zero, List.set_cons_succ]
          refine takeH 5 65 (.agg (u8s (dat ys k)).toArray) hHeld rfl rfl (by kernel_rfl) (by kernel_rfl) (by kernel_rfl) (fun _ _ _ h => h) (yieldsIf_load_mid (by rfl) _ _ rfl g14 0 rfl _ _ (fun w h => h.2) hu rfl HI1.out) ?_
          simp only [Act.put, List.setIfInBounds_toArray, List.set_cons_zero, List.set_cons_succ]
          refine wpAnyH_ready (rs := [4]) (by kernel_rfl) (by simp) (AllReadyH.cons rfl (fun K hK => ?_) AllReadyH.nil)
          rw [if_pos (by rfl)]
          refine wp_loadWG wD rfl R0.out.y (by rw [u8s_length]; exact HFL2.out) ?_
          refine hK.out _ _ (hS _ R0.out.own G0.out) (fun hHeld => ?_)
          clear hK K
          simp only [Act.put]
          refine wpAnyH_ready (rs := [6]) (by kernel_rfl) (by simp) (AllReadyH.cons rfl (fun K hK => ?_) AllReadyH.nil)
          rw [if_pos (by rfl)]
          go_simp
          refine (join_any h Dk (dat ys k) _ HFL2.out HFB2.out HDL.out HDB.out (HK.out.below R0.out.bel HK.out.lt)).mono ?_
          rintro r v1 ⟨rfl, hv1⟩
          have R1 := hide (R0.out.below hv1)
          have G1 := hide (G0.out.on hv1)
          refine hK.out _ _ (hS _ R1.out.own G1.out) (fun hHeld => ?_)
          clear hK K
          refine wpAnyH_ready (rs := [7]) (by kernel_rfl) (by simp) (AllReadyH.cons rfl (fun K hK => ?_) AllReadyH.nil)
          rw [if_pos (by rfl)]
          refine wp_storeW wD rfl rfl rfl R1.out.y (by rw [u8s_length]; exact jn_length _ _ _) (One.u8 _) (by rw [u8s_length, HFL2.out]; omega) ?_
          intro v2 hgs hbuts
          rw [spl_same _ _ HFL2.out (jn_length _ _ _)] at hgs
          have R2 := hide (R1.out.set9 hbuts hgs hw9 h89)
          have G2 := hide (G1.out.but hbuts hn14.symm)
          refine hK.out _ _ (hS _ R2.out.own G2.out) (fun hHeld => ?_)
          clear hK K
          simp only [Act.put]
          refine wpAnyH_done (by kernel_rfl) ?_ _
          refine NoPanic.normal ?_
          clear hHeld hS hu
          go_wp2
          go_roundw
          case rel => exact ⟨k + 1, by omega, by simp, by rw [HNO.out, HNX.out]; exact R2.out⟩
          case measure => simp only [intOf]; omega
      · obtain rfl : k = q := by omega
        have hlt' : ¬ ((k : Int) < (k : Int)) := by omega
        have HXU := hide (show (u8s (fo L ys D0 k)).length = 32 by rw [u8s_length, HOL.out k])
        have HYU := hide (show (u8s (fu L ys D0 k)).length = 32 by rw [u8s_length, HFL.out k])
        have HXL := hide (HOL.out k)
        have HYL := hide (HFL.out k)
        generalize hX : fo L ys D0 k = X at *
        generalize hY : fu L ys D0 k = Y at *
        have HXE := hide hX
        have HYE := hide hY
        clear hX hY
        go_wp2_with fail
        refine wp_region_noPanic ?_
        have R0 := hide (R.out.below ((Below.refl _ _).drew))
        have hu := aD.und
        have HI1 : Hid ((Tryd.prog.info? 45).map (·.size) = some (u8s X).length) := hide (by rw [wD.size, HXU.out])
        have HI2 : Hid ((Tryd.prog.info? 45).map (·.size) = some (u8s Y).length) := hide (by rw [wD.size, HYU.out])
        have hS : ∀ v : World, Blk v g8 45 (u8s X) → Blk v g9 45 (u8s Y) → v.rangeAt g8 0 (u8s X) ∧ v.rangeAt g9 0 (u8s Y) := fun v h1 h2 => ⟨h1.range 0 _ (by simp), h2.range 0 _ (by simp)⟩
        refine wp_region_held_drew (S := fun v : World => v.rangeAt g8 0 (u8s X) ∧ v.rangeAt g9 0 (u8s Y)) (by kernel_rfl) (hS _ R0.out.x R0.out.y) (fun hHeld => ?_)
        refine takeH 0 68 (.agg (u8s X).toArray) hHeld rfl rfl (by kernel_rfl) (by kernel_rfl) (by kernel_rfl) (fun _ _ _ h => h) (yieldsIf_load_mid (by rfl) _ _ rfl g8 0 rfl _ _ (fun w h => h.1) hu rfl HI1.out) ?_
        simp only [Act.put, List.setIfInBounds_toArray, List.set_cons_zero, List.set_cons_succ]
        refine takeH 1 69 (.agg (u8s Y).toArray) hHeld rfl rfl (by kernel_rfl) (by kernel_rfl) (by kernel_rfl) (fun _ _ _ h => h) (yieldsIf_load_mid (by rfl) _ _ rfl g9 0 rfl _ _ (fun w h => h.2) hu rfl HI2.out) ?_
        simp only [Act.put, List.setIfInBounds_toArray, List.set_cons_zero, List.set_cons_succ]
        refine wpAnyH_ready (rs := [2]) (by kernel_rfl) (by simp) (AllReadyH.cons rfl (fun K hK => ?_) AllReadyH.nil)
        rw [if_pos (by rfl)]
        refine wp_storeW wD rfl rfl rfl R0.out.x HXU.out (One.u8 _) (by rw [HXU.out]; omega) ?_
        intro v1 hg1 hbut1
        rw [spl_same _ _ HXL.out HXL.out] at hg1
        have R1 := hide (R0.out.set8 hbut1 hg1 hw8 h89)
        refine hK.out _ _ (hS _ R1.out.x R1.out.y) (fun hHeld => ?_)
        clear hK K
        simp only [Act.put]
        refine wpAnyH_ready (rs := [3]) (by kernel_rfl) (by simp) (AllReadyH.cons rfl (fun K hK => ?_) AllReadyH.nil)
        rw [if_pos (by rfl)]
        refine wp_storeW wD rfl rfl rfl R1.out.y HYU.out (One.u8 _) (by rw [HYU.out]; omega) ?_
        intro v2 hg2 hbut2
        rw [spl_same _ _ HYL.out HYL.out] at hg2
        have R2 := hide (R1.out.set9 hbut2 hg2 hw9 h89)
        refine hK.out _ _ (hS _ R2.out.x R2.out.y) (fun hHeld => ?_)
        clear hK K
        simp only [Act.put]
        refine takeH 4 10 (.int .i64 0) hHeld rfl rfl (by kernel_rfl) (by kernel_rfl) (by kernel_rfl) (fun _ _ _ h => h) (Or.inl ⟨by rfl, fun w _ => by go_simp⟩) ?_
        simp only [Act.put, List.setIfInBounds_toArray]
        refine wpAnyH_done (by kernel_rfl) ?_ _
        refine NoPanic.normal ?_
        clear hHeld hS hu
        go_wp2
        refine bodyPost_ret (results_wwt rfl wD wD _ _ rfl rfl R2.out.x R2.out.y HXU.out HYU.out) rfl ⟨by rw [HXE.out, HYE.out]; rfl, R2.out.bel⟩
  · have hT' : (T : Int) > 0 := by omega
    have hD0 : D0 = dat xs 0 := by rw [HZ.out, if_neg hT]
    have hl0 : 0 < l := by omega
    obtain ⟨pb, po, rfl⟩ := HS.out.place hl0
    have hat0 := d_at pb po l cap 0 0 rfl hl0
    have HRG0 := hide ((HS.out.below B5.out).range 0 hl0)
    rw [← hD0] at HRG0
    have HT := hide hT
    clear hT HZ hD0
    go_wp2_with (first | (refine step_loadR wD rfl rfl _ HRG0.out HSU.out ?_) | (refine step_storeA wD rfl rfl rfl G85.out HSU.out (One.u8 _) HLL.out ?_))
    intro w6 hg6 hbut6
    have G86 := hide hg6
    have G96 := hide (G95.out.but hbut6 h89.symm)
    have O6 := hide (O5.out.but hbut6 N8.out)
    have B6 := hide (B5.out.trans (hbut6.below hw8))
    clear hg6 hbut6 G85 G95 O5 B5 HRG0 hat0
    go_wp2_with (first | (refine step_loadA wD rfl rfl G86.out HSU.out ?_) | (refine step_storeA wD rfl rfl rfl G96.out HSU.out (One.u8 _) rfl ?_))
    intro w7 hg7 hbut7
    have R7 : Hid (RS w w7 g8 g9 (.slice a3 q c3) L D0 D0) := hide ⟨O6.out.but hbut7 N9.out, N8.out, N9.out, G86.out.but hbut7 h89, hg7, B6.out.trans (hbut7.below hw9)⟩
    clear hg7 hbut7 G86 G96 O6 B6
    go_wp2
    go_loopw [47] (fun s wr => ∃ k : Nat, k ≤ q ∧ s = .int .i64 (k : Int) ∧ RS w wr g8 g9 (.slice a3 q c3) L (fo L ys D0 k) (fu L ys D0 k)) (fun s _ => q - (intOf s).toNat)
    case atStart => exact ⟨0, by omega, rfl, R7.out⟩
    case round =>
      obtain ⟨k, hkl, rfl, hR⟩ := hrel
      have R := hide hR
      clear hR R7
      by_cases hlt : k < q
      · have hlt' : (k : Int) < (q : Int) := by omega
        have HY := hide (HDR.out _ (HS.out.below R.out.bel))
        obtain ⟨b, o, rfl⟩ := HY.out.place (by omega)
        have hat := d_at b o q pc k (k : Int) rfl hlt
        have HDL := hide (dat_length HY.out.hlen hlt)
        have HDB := hide (dat_isB HY.out.hbyte k)
        have HUL := hide (show (u8s (dat ys k)).length = 32 by rw [u8s_length, HDL.out])
        have HRG := hide (HY.out.range k hlt)
        obtain ⟨h, hh⟩ : ∃ h, L[k]? = some h := ⟨_, List.getElem?_eq_getElem (show k < L.length by rw [HQ.out]; exact hlt)⟩
        have hg : L.getD k 0 = h := by rw [List.getD, hh]; rfl
        have HNX : Hid (fu L ys D0 (k + 1) = jn h (fu L ys D0 k) (dat ys k)) := hide (by show jn (L.getD k 0) _ _ = _; rw [hg])
        have HNF : Hid (fo L ys D0 (k + 1) = if h = 1 then nd (dat ys k) (fo L ys D0 k) else fo L ys D0 k) := hide (by show (if L.getD k 0 = 1 then _ else _) = _; rw [hg])
        obtain ⟨gH, rfl⟩ : ∃ gH, a3 = some ⟨gH, 0, none⟩ := by
          rcases R.out.own.lies with ⟨e, h0⟩ | ⟨g, c, cs, e, _⟩
          · rw [h0] at hh; cases hh
          · injection e with e1 _ _; exact ⟨g, e1⟩
        have HHH := hide hh
        have HFL2 := hide (HFL.out k)
        have HFB2 := hide (HFB.out k)
        have HOL2 := hide (HOL.out k)
        have HOB2 := hide (HOB.out k)
        have HOU2 := hide (show (u8s (fo L ys D0 k)).length = 32 by rw [u8s_length, HOL.out k])
        generalize fu L ys D0 k = Dk at *
        generalize fo L ys D0 k = Ok at *
        have hix := atH gH q c3 k (k : Int) rfl hlt
        clear hh hg HY
        go_wp2_with (first | (refine step_loadR wD rfl rfl _ HRG.out HUL.out ?_) | (refine step_alloc zD rfl ?_))
        intro w8 g14 hr8 hl8 hb8
        have G14 := hide hr8
        clear hr8
        go_wp2_with (refine step_storeA wD rfl rfl rfl G14.out HUL.out (One.u8 _) rfl ?_)
        intro w9 hg9 hbut9
        have hn14 : g9 ≠ g14 := by have := R.out.y.lt; omega
        have hm14 : g8 ≠ g14 := by have := R.out.x.lt; omega
        have B89 := hide (hb8.trans (hbut9.below hl8))
        have R9 := hide (R.out.below B89.out)
        have G99 := hide hg9
        clear hg9 hbut9 hb8 G14 R HRG hat B89
        have hcell := R9.out.own.cell k h HHH.out
        by_cases hh1 : h = 1
        · subst hh1
          have HNO : Hid (fo L ys D0 (k + 1) = nd (dat ys k) Ok) := hide (by rw [HNF.out, if_pos rfl])
          clear HNF
          go_wp2_with (first | (refine step_loadA wD rfl rfl R9.out.x HOU2.out ?_) | (refine step_loadA wD rfl rfl G99.out HUL.out ?_) | fail)
          refine (join_any 1 Ok (dat ys k) _ HOL2.out HOB2.out HDL.out HDB.out (HK.out.below R9.out.bel HK.out.lt)).mono ?_
          rintro r wa ⟨rfl, hba⟩
          have RA := hide (R9.out.below hba)
          have GA := hide (G99.out.on hba)
          have HJU := hide (show (u8s (jn 1 Ok (dat ys k))).length = 32 by rw [u8s_length, jn_length])
          clear hba R9 G99 hcell hix
          go_wp2_with (refine step_storeA wD rfl rfl rfl RA.out.x HJU.out (One.u8 _) HOU2.out ?_)
          intro wb hgb hbutb
          have RB := hide (RA.out.set8 hbutb (X' := nd (dat ys k) Ok) hgb hw8 h89)
          have GB := hide (GA.out.but hbutb hm14.symm)
          clear hgb hbutb RA GA
          go_wp2_with fail
          refine wp_region_noPanic ?_
          have R0 := hide (RB.out.below ((Below.refl _ _).drew))
          have G0 := hide (GB.out.on ((Below.refl _ _).drew))
          have hu := aD.und
          have HI1 : Hid ((Tryd.prog.info? 45).map (·.size) = some (u8s (dat ys k)).length) := hide (by rw [wD.size, HUL.out])
          have hS : ∀ v : World, OwnH v w.heap.size (.slice (some ⟨gH, 0, none⟩) q c3) L → Blk v g14 45 (u8s (dat ys k)) → v.cell? ⟨gH, k, none⟩ = some (.int .i64 1) ∧ v.rangeAt g14 0 (u8s (dat ys k)) := fun v h1 h2 => ⟨h1.cell k 1 HHH.out, h2.range 0 _ (by simp)⟩
          refine wp_region_held_drew (S := fun v : World => v.cell? ⟨gH, k, none⟩ = some (.int .i64 1) ∧ v.rangeAt g14 0 (u8s (dat ys k))) (by kernel_rfl) (hS _ R0.out.own G0.out) (fun hHeld => ?_)
          refine takeH 0 60 (.slice (some ⟨gH, 0, none⟩) q c3) hHeld rfl rfl (by kernel_rfl) (by kernel_rfl) (by kernel_rfl) (fun _ _ _ h => h) (Or.inl ⟨by rfl, fun w _ => by go_simp⟩) ?_
          simp only [Act.put, List.setIfInBounds_toArray, List.set_cons_zero, List.set_cons_succ]
          refine takeH 1 61 (.int .i64 (k : Int)) hHeld rfl rfl (by kernel_rfl) (by kernel_rfl) (by kernel_rfl) (fun _ _ _ h => h) (Or.inl ⟨by rfl, fun w _ => by go_simp⟩) ?_
          simp only [Act.put, List.setIfInBounds_toArray, List.set_cons_zero, List.set_cons_succ]
          refine takeH 2 62 (.pointer (some ⟨gH, k, none⟩)) hHeld rfl rfl (by kernel_rfl) (by kernel_rfl) (by kernel_rfl) (fun _ _ _ h => h) (Or.inl ⟨by rfl, fun w _ => run_op rfl ((atH gH q c3 k _ rfl hlt) w)⟩) ?_
          simp only [Act.put, List.setIfInBounds_toArray, List.set_cons_zero, List.set_cons_succ]
          refine takeH 3 63 (.int .i64 1) hHeld rfl rfl (by kernel_rfl) (by kernel_rfl) (by kernel_rfl) (fun _ _ _ h => h) (Or.inl ⟨by rfl, fun w hw => by have hw' : w.cell? ⟨gH, k, none⟩ = some (.int .i64 1) := (fun h => h.1) hw; go_simp⟩) ?_
          simp only [Act.put, List.setIfInBounds_toArray, List.set_cons_zero, List.set_cons_succ]
          refine takeH 5 65 (.agg (u8s (dat ys k)).toArray) hHeld rfl rfl (by kernel_rfl) (by kernel_rfl) (by kernel_rfl) (fun _ _ _ h => h) (yieldsIf_load_mid (by rfl) _ _ rfl g14 0 rfl _ _ (fun w h => h.2) hu rfl HI1.out) ?_
          simp only [Act.put, List.setIfInBounds_toArray, List.set_cons_zero, List.set_cons_succ]
          refine wpAnyH_ready (rs := [4]) (by kernel_rfl) (by simp) (AllReadyH.cons rfl (fun K hK => ?_) AllReadyH.nil)
          rw [if_pos (by rfl)]
          refine wp_loadWG wD rfl R0.out.y (by rw [u8s_length]; exact HFL2.out) ?_
          refine hK.out _ _ (hS _ R0.out.own G0.out) (fun hHeld => ?_)
          clear hK K
          simp only [Act.put]
          refine wpAnyH_ready (rs := [6]) (by kernel_rfl) (by simp) (AllReadyH.cons rfl (fun K hK => ?_) AllReadyH.nil)
          rw [if_pos (by rfl)]
          go_simp
          refine (join_any 1 Dk (dat ys k) _ HFL2.out HFB2.out HDL.out HDB.out (HK.out.below R0.out.bel HK.out.lt)).mono ?_
          rintro r v1 ⟨rfl, hv1⟩
          have R1 := hide (R0.out.below hv1)
          have G1 := hide (G0.out.on hv1)
          refine hK.out _ _ (hS _ R1.out.own G1.out) (fun hHeld => ?_)
          clear hK K
          refine wpAnyH_ready (rs := [7]) (by kernel_rfl) (by simp) (AllReadyH.cons rfl (fun K hK => ?_) AllReadyH.nil)
          rw [if_pos (by rfl)]
          refine wp_storeW wD rfl rfl rfl R1.out.y (by rw [u8s_length]; exact jn_length _ _ _) (One.u8 _) (by rw [u8s_length, HFL2.out]; omega) ?_
          intro v2 hgs hbuts
          rw [spl_same _ _ HFL2.out (jn_length _ _ _)] at hgs
          have R2 := hide (R1.out.set9 hbuts hgs hw9 h89)
          have G2 := hide (G1.out.but hbuts hn14.symm)
          refine hK.out _ _ (hS _ R2.out.own G2.out) (fun hHeld => ?_)
          clear hK K
          simp only [Act.put]
          refine wpAnyH_done (by kernel_rfl) ?_ _
          refine NoPanic.normal ?_
          clear hHeld hS hu
          go_wp2
          go_roundw
          case rel => exact ⟨k + 1, by omega, by simp, by rw [HNO.out, HNX.out]; exact R2.out⟩
          case measure => simp only [intOf]; omega
        · have hh2 : (h == 1) = false := by simp [hh1]
          have HNO : Hid (fo L ys D0 (k + 1) = Ok) := hide (by rw [HNF.out, if_neg hh1])
          clear HNF
          go_wp2_with fail
          clear hcell hix
          go_wp2_with fail
          refine wp_region_noPanic ?_
          have R0 := hide (R9.out.below ((Below.refl _ _).drew))
          have G0 := hide (G99.out.on ((Below.refl _ _).drew))
          have hu := aD.und
          have HI1 : Hid ((Tryd.prog.info? 45).map (·.size) = some (u8s (dat ys k)).length) := hide (by rw [wD.size, HUL.out])
          have hS : ∀ v : World, OwnH v w.heap.size (.slice (some ⟨gH, 0, none⟩) q c3) L → Blk v g14 45 (u8s (dat ys k)) → v.cell? ⟨gH, k, none⟩ = some (.int .i64 h) ∧ v.rangeAt g14 0 (u8s (dat ys k)) := fun v h1 h2 => ⟨h1.cell k h HHH.out, h2.range 0 _ (by simp)⟩
          refine wp_region_held_drew (S := fun v : World => v.cell? ⟨gH, k, none⟩ = some (.int .i64 h) ∧ v.rangeAt g14 0 (u8s (dat ys k))) (by kernel_rfl) (hS _ R0.out.own G0.out) (fun hHeld => ?_)
          refine takeH 0 60 (.slice (some ⟨gH, 0, none⟩) q c3) hHeld rfl rfl (by kernel_rfl) (by kernel_rfl) (by kernel_rfl) (fun _ _ _ h => h) (Or.inl ⟨by rfl, fun w _ => by go_simp⟩) ?_
          simp only [Act.put, List.setIfInBounds_toArray, List.set_cons_zero, List.set_cons_succ]
          refine takeH 1 61 (.int .i64 (k : Int)) hHeld rfl rfl (by kernel_rfl) (by kernel_rfl) (by kernel_rfl) (fun _ _ _ h => h) (Or.inl ⟨by rfl, fun w _ => by go_simp⟩) ?_
          simp only [Act.put, List.setIfInBounds_toArray, List.set_cons_zero, List.set_cons_succ]
          refine takeH 2 62 (.pointer (some ⟨gH, k, none⟩)) hHeld rfl rfl (by kernel_rfl) (by kernel_rfl) (by kernel_rfl) (fun _ _ _ h => h) (Or.inl ⟨by rfl, fun w _ => run_op rfl ((atH gH q c3 k _ rfl hlt) w)⟩) ?_
          simp only [Act.put, List.setIfInBounds_toArray, List.set_cons_zero, List.set_cons_succ]
          refine takeH 3 63 (.int .i64 h) hHeld rfl rfl (by kernel_rfl) (by kernel_rfl) (by kernel_rfl) (fun _ _ _ h => h) (Or.inl ⟨by rfl, fun w hw => by have hw' : w.cell? ⟨gH, k, none⟩ = some (.int .i64 h) := (fun h => h.1) hw; go_simp⟩) ?_
          simp only [Act.put, List.setIfInBounds_toArray, List.set_cons_zero, List.set_cons_succ]
          refine takeH 5 65 (.agg (u8s (dat ys k)).toArray) hHeld rfl rfl (by kernel_rfl) (by kernel_rfl) (by kernel_rfl) (fun _ _ _ h => h) (yieldsIf_load_mid (by rfl) _ _ rfl g14 0 rfl _ _ (fun w h => h.2) hu rfl HI1.out) ?_
          simp only [Act.put, List.setIfInBounds_toArray, List.set_cons_zero, List.set_cons_succ]
          refine wpAnyH_ready (rs := [4]) (by kernel_rfl) (by simp) (AllReadyH.cons rfl (fun K hK => ?_) AllReadyH.nil)
          rw [if_pos (by rfl)]
          refine wp_loadWG wD rfl R0.out.y (by rw [u8s_length]; exact HFL2.out) ?_
          refine hK.out _ _ (hS _ R0.out.own G0.out) (fun hHeld => ?_)
          clear hK K
          simp only [Act.put]
          refine wpAnyH_ready (rs := [6]) (by kernel_rfl) (by simp) (AllReadyH.cons rfl (fun K hK => ?_) AllReadyH.nil)
          rw [if_pos (by rfl)]
          go_simp
          refine (join_any h Dk (dat ys k) _ HFL2.out HFB2.out HDL.out HDB.out (HK.out.below R0.out.bel HK.out.lt)).mono ?_
          rintro r v1 ⟨rfl, hv1⟩
          have R1 := hide (R0.out.below hv1)
          have G1 := hide (G0.out.on hv1)
          refine hK.out _ _ (hS _ R1.out.own G1.out) (fun hHeld => ?_)
          clear hK K
          refine wpAnyH_ready (rs := [7]) (by kernel_rfl) (by simp) (AllReadyH.cons rfl (fun K hK => ?_) AllReadyH.nil)
          rw [if_pos (by rfl)]
          refine wp_storeW wD rfl rfl rfl R1.out.y (by rw [u8s_length]; exact jn_length _ _ _) (One.u8 _) (by rw [u8s_length, HFL2.out]; omega) ?_
          intro v2 hgs hbuts
          rw [spl_same _ _ HFL2.out (jn_length _ _ _)] at hgs
          have R2 := hide (R1.out.set9 hbuts hgs hw9 h89)
          have G2 := hide (G1.out.but hbuts hn14.symm)
          refine hK.out _ _ (hS _ R2.out.own G2.out) (fun hHeld => ?_)
          clear hK K
          simp only [Act.put]
          refine wpAnyH_done (by kernel_rfl) ?_ _
          refine NoPanic.normal ?_
          clear hHeld hS hu
          go_wp2
          go_roundw
          case rel => exact ⟨k + 1, by omega, by simp, by rw [HNO.out, HNX.out]; exact R2.out⟩
          case measure => simp only [intOf]; omega
      · obtain rfl : k = q := by omega
        have hlt' : ¬ ((k : Int) < (k : Int)) := by omega
        have HXU := hide (show (u8s (fo L ys D0 k)).length = 32 by rw [u8s_length, HOL.out k])
        have HYU := hide (show (u8s (fu L ys D0 k)).length = 32 by rw [u8s_length, HFL.out k])
        have HXL := hide (HOL.out k)
        have HYL := hide (HFL.out k)
        generalize hX : fo L ys D0 k = X at *
        generalize hY : fu L ys D0 k = Y at *
        have HXE := hide hX
        have HYE := hide hY
        clear hX hY
        go_wp2_with fail
        refine wp_region_noPanic ?_
        have R0 := hide (R.out.below ((Below.refl _ _).drew))
        have hu := aD.und
        have HI1 : Hid ((Tryd.prog.info? 45).map (·.size) = some (u8s X).length) := hide (by rw [wD.size, HXU.out])
        have HI2 : Hid ((Tryd.prog.info? 45).map (·.size) = some (u8s Y).length) := hide (by rw [wD.size, HYU.out])
        have hS : ∀ v : World, Blk v g8 45 (u8s X) → Blk v g9 45 (u8s Y) → v.rangeAt g8 0 (u8s X) ∧ v.rangeAt g9 0 (u8s Y) := fun v h1 h2 => ⟨h1.range 0 _ (by simp), h2.range 0 _ (by simp)⟩
        refine wp_region_held_drew (S := fun v : World => v.rangeAt g8 0 (u8s X) ∧ v.rangeAt g9 0 (u8s Y)) (by kernel_rfl) (hS _ R0.out.x R0.out.y) (fun hHeld => ?_)
        refine takeH 0 68 (.agg (u8s X).toArray) hHeld rfl rfl (by kernel_rfl) (by kernel_rfl) (by kernel_rfl) (fun _ _ _ h => h) (yieldsIf_load_mid (by rfl) _ _ rfl g8 0 rfl _ _ (fun w h => h.1) hu rfl HI1.out) ?_
        simp only [Act.put, List.setIfInBounds_toArray, List.set_cons_zero, List.set_cons_succ]
        refine takeH 1 69 (.agg (u8s Y).toArray) hHeld rfl rfl (by kernel_rfl) (by kernel_rfl) (by kernel_rfl) (fun _ _ _ h => h) (yieldsIf_load_mid (by rfl) _ _ rfl g9 0 rfl _ _ (fun w h => h.2) hu rfl HI2.out) ?_
        simp only [Act.put, List.setIfInBounds_toArray, List.set_cons_zero, List.set_cons_succ]
        refine wpAnyH_ready (rs := [2]) (by kernel_rfl) (by simp) (AllReadyH.cons rfl (fun K hK => ?_) AllReadyH.nil)
        rw [if_pos (by rfl)]
        refine wp_storeW wD rfl rfl rfl R0.out.x HXU.out (One.u8 _) (by rw [HXU.out]; omega) ?_
        intro v1 hg1 hbut1
        rw [spl_same _ _ HXL.out HXL.out] at hg1
        have R1 := hide (R0.out.set8 hbut1 hg1 hw8 h89)
        refine hK.out _ _ (hS _ R1.out.x R1.out.y) (fun hHeld => ?_)
        clear hK K
        simp only [Act.put]
        refine wpAnyH_ready (rs := [3]) (by kernel_rfl) (by simp) (AllReadyH.cons rfl (fun K hK => ?_) AllReadyH.nil)
        rw [if_pos (by rfl)]
        refine wp_storeW wD rfl rfl rfl R1.out.y HYU.out (One.u8 _) (by rw [HYU.out]; omega) ?_
        intro v2 hg2 hbut2
        rw [spl_same _ _ HYL.out HYL.out] at hg2
        have R2 := hide (R1.out.set9 hbut2 hg2 hw9 h89)
        refine hK.out _ _ (hS _ R2.out.x R2.out.y) (fun hHeld => ?_)
        clear hK K
        simp only [Act.put]
        refine takeH 4 10 (.int .i64 0) hHeld rfl rfl (by kernel_rfl) (by kernel_rfl) (by kernel_rfl) (fun _ _ _ h => h) (Or.inl ⟨by rfl, fun w _ => by go_simp⟩) ?_
        simp only [Act.put, List.setIfInBounds_toArray]
        refine wpAnyH_done (by kernel_rfl) ?_ _
        refine NoPanic.normal ?_
        clear hHeld hS hu
        go_wp2
        refine bodyPost_ret (results_wwt rfl wD wD _ _ rfl rfl R2.out.x R2.out.y HXU.out HYU.out) rfl ⟨by rw [HXE.out, HYE.out]; rfl, R2.out.bel⟩

end Go.Proofs.YtojepbapdjkknaaDoor

/-
  The two roots that a consistency proof leads to: the document's way.
-/
namespace Go.Proofs.YtojepbapdjkknaaDoor
open Go.RowKit
set_option linter.unusedVariables false

theorem fo_app (A B xs d : List Int) : ∀ k, k ≤ A.length → fo (A ++ B) xs d k = fo A xs d k
  | 0, _ => rfl
  | k + 1, h => by
    show (if (A ++ B).getD k 0 = 1 then nd (dat xs k) (fo (A ++ B) xs d k) else fo (A ++ B) xs d k) = if A.getD k 0 = 1 then nd (dat xs k) (fo A xs d k) else fo A xs d k
    rw [fo_app A B xs d k (by omega), show (A ++ B).getD k 0 = A.getD k 0 by simp [List.getD, List.getElem?_append_left (show k < A.length by omega)]]
theorem fo_take (hs xs d : List Int) (m : Nat) : ∀ k, k ≤ m → fo hs (xs.take (32 * m)) d k = fo hs xs d k
  | 0, _ => rfl
  | k + 1, h => by
    show (if hs.getD k 0 = 1 then nd (dat (xs.take (32 * m)) k) (fo hs (xs.take (32 * m)) d k) else fo hs (xs.take (32 * m)) d k) = if hs.getD k 0 = 1 then nd (dat xs k) (fo hs xs d k) else fo hs xs d k
    rw [fo_take hs xs d m k (by omega), dat_take xs m k (by omega)]
theorem fo_snoc (A xs d : List Int) (h : Int) : fo (A ++ [h]) xs d (A.length + 1) = if h = 1 then nd (dat xs A.length) (fo A (xs.take (32 * A.length)) d A.length) else fo A (xs.take (32 * A.length)) d A.length := by
  show (if (A ++ [h]).getD A.length 0 = 1 then nd (dat xs A.length) (fo (A ++ [h]) xs d A.length) else fo (A ++ [h]) xs d A.length) = _
  rw [fo_app A [h] xs d _ (Nat.le_refl _), fo_take A xs d A.length _ (Nat.le_refl _), show (A ++ [h]).getD A.length 0 = h by simp [List.getD]]
theorem dat_drop (xs : List Int) (t k : Nat) : dat (xs.drop (32 * t)) k = dat xs (k + t) := by
  unfold dat
  rw [List.drop_drop]
  congr 2
  omega
/-- What is left of the proof, with its last digest struck. -/
theorem rest_eq (xs : List Int) (q t : Nat) : (xs.take (32 * (q + t))).drop (32 * t) = (xs.drop (32 * t)).take (32 * q) := by
  rw [List.drop_take]
  congr 1
  omega
theorem st0_take (t q : Nat) (d xs : List Int) : st0 t d (xs.take (32 * (q + t))) = st0 t d xs := by
  unfold st0
  split
  · rfl
  · exact dat_take xs (q + t) 0 (by omega)
theorem step_lo (A xs d : List Int) (t : Nat) : fo (A ++ [0]) (xs.drop (32 * t)) d (A.length + 1) = fo A ((xs.take (32 * (A.length + t))).drop (32 * t)) d A.length ∧ fu (A ++ [0]) (xs.drop (32 * t)) d (A.length + 1) = nd (fu A ((xs.take (32 * (A.length + t))).drop (32 * t)) d A.length) (dat xs (A.length + t)) := by
  rw [rest_eq, fo_snoc, fu_snoc, dat_drop, if_neg (by decide)]
  exact ⟨rfl, rfl⟩
theorem step_hi (A xs d : List Int) (t : Nat) : fo (A ++ [1]) (xs.drop (32 * t)) d (A.length + 1) = nd (dat xs (A.length + t)) (fo A ((xs.take (32 * (A.length + t))).drop (32 * t)) d A.length) ∧ fu (A ++ [1]) (xs.drop (32 * t)) d (A.length + 1) = nd (dat xs (A.length + t)) (fu A ((xs.take (32 * (A.length + t))).drop (32 * t)) d A.length) := by
  rw [rest_eq, fo_snoc, fu_snoc, dat_drop, if_pos rfl]
  exact ⟨rfl, rfl⟩

theorem results_ww {fn : Func} {p q : Tmp} {T U : TypeId} (h : fn.results = #[.cell p T, .cell q U]) {n m : Nat} (hT : Wide T n) (hU : Wide U m) (tmps : Array Value) (w : World)
    {g g' : Nat} {t t' : TypeId} {cs cs' : List Value} (hp : tmps.getD p undef = .pointer (some ⟨g, 0, none⟩)) (hq : tmps.getD q undef = .pointer (some ⟨g', 0, none⟩)) (hg : Blk w g t cs) (hg' : Blk w g' t' cs') (hl : cs.length = n) (hl' : cs'.length = m) :
    (results fn tmps).run Tryd.prog w = .ok (.tuple #[.agg cs.toArray, .agg cs'.toArray]) w := by
  have hp' : tmps[p]?.getD undef = .pointer (some ⟨g, 0, none⟩) := by simpa using hp
  have hq' : tmps[q]?.getD undef = .pointer (some ⟨g', 0, none⟩) := by simpa using hq
  obtain ⟨d, hu, hd⟩ := hT.und
  obtain ⟨d', hu', hd'⟩ := hU.und
  simp [results, h, hp', hq', asAddr, run_loadVar_mid w g 0 T cs d (hg.range 0 cs (by simp)) hu hd (by rw [hT.size, hl]), run_loadVar_mid w g' 0 U cs' d' (hg'.range 0 cs' (by simp)) hu' hd' (by rw [hU.size, hl'])]

set_option maxRecDepth 100000 in
set_option maxHeartbeats 4000000 in
theorem twoR_any (d : List Int) (m : Nat) (hm : 1 ≤ m) (hd : d.length = 32) (hdb : isB d) : ∀ (f b n l : Nat) (W : Bool) (a : Option Addr) (cap : Nat) (xs : List Int) (w : World), n ≤ f → b < m → m ≤ b + n → b + n ≤ 281474976710656 → W = decide (b = 0) → l = (hvM m b n).length + ptM m b n → Ds w a l cap xs →
    Calls Tryd.prog 97 #[.agg (u8s d).toArray, .int .i64 ((m : Int) - (b : Int)), .int .i64 (n : Int), .slice a l cap, .bool W] w fun r w' => r = .returned (.tuple #[.agg (u8s (fo (hvM m b n) (xs.drop (32 * ptM m b n)) (st0 (ptM m b n) d xs) (hvM m b n).length)).toArray, .agg (u8s (fu (hvM m b n) (xs.drop (32 * ptM m b n)) (st0 (ptM m b n) d xs) (hvM m b n).length)).toArray]) ∧ Below w.heap.size w w'
  | 0, b, n, l, W, a, cap, xs, w, h, _, _, _, _, _, _ => by omega
  | f + 1, b, n, l, W, a, cap, xs, w, h, h1, h2, h3, hW, hl, hs => by
    have ih := hide (fun b n l W a cap xs w => twoR_any d m hm hd hdb f b n l W a cap xs w)
    have HLL := hide (show (u8s d).length = 32 by rw [u8s_length, hd])
    have HS := hide hs
    have hcap := hs.hcap
    have hmax := hs.hmax
    clear hs
    by_cases hn : b + n = m
    · obtain ⟨e1, e2⟩ := hvM_end hn
      have hn' : (m : Int) - (b : Int) = (n : Int) := by omega
      rw [e1, e2] at hl
      rw [hn', e1, e2]
      clear ih
      by_cases hb : b = 0
      · subst hb
        obtain rfl : W = true := by rw [hW]; rfl
        clear hn' hW hn h1 h2 h3 e1 e2 hl
        have HDD := hide hd
        go_enter Tryd.func97, Tryd.ntmps97
        go_wp2_with (refine step_box rfl rfl ?_)
        intro w1 g5 hr1 hl1 hb1
        have G5 := hide hr1
        clear hr1
        go_wp2_with (refine step_alloc zD rfl ?_)
        intro w2 g10 hr2 hl2 hb2
        have G10 := hide hr2
        have G52 := hide (G5.out.on hb2)
        have B2 := hide (hb1.trans (hb2.mono hb1.size))
        have hw10 : w.heap.size ≤ g10 := Nat.le_trans hb1.size hl2
        have h510 : g5 ≠ g10 := by have := G5.out.lt; omega
        clear hr2 hb1 hb2 G5
        go_wp2_with (refine step_alloc zD rfl ?_)
        intro w3 g11 hr3 hl3 hb3
        have G11 := hide hr3
        have G103 := hide (G10.out.on hb3)
        have G53 := hide (G52.out.on hb3)
        have h1011 : g10 ≠ g11 := by have := G10.out.lt; omega
        have h511 : g5 ≠ g11 := by have := G52.out.lt; omega
        have hw11 : w.heap.size ≤ g11 := Nat.le_trans B2.out.size hl3
        have B3 := hide (on_below B2.out hb3)
        clear hr3 hb3 G10 G52 B2
        go_wp2_with fail
        refine wp_region_noPanic ?_
        have hu := aD.und
        have HI1 : Hid ((Tryd.prog.info? 45).map (·.size) = some (u8s d).length) := hide (by rw [wD.size, HLL.out])
        have U5 := hide (G53.out.on ((Below.refl _ _).drew))
        have U10 := hide (G103.out.on ((Below.refl _ _).drew))
        have U11 := hide (G11.out.on ((Below.refl _ _).drew))
        have UB := hide (B3.out.drew)
        refine wp_region_held_drew (S := fun v : World => v.rangeAt g5 0 (u8s d)) (by kernel_rfl) (U5.out.range 0 _ (by simp)) (fun hHeld => ?_)
        refine takeH 0 23 (.agg (u8s d).toArray) hHeld rfl rfl (by kernel_rfl) (by kernel_rfl) (by kernel_rfl) (fun _ _ _ h => h) (yieldsIf_load_mid (by rfl) _ _ rfl g5 0 rfl _ _ (fun w h => h) hu rfl HI1.out) ?_
        simp only [Act.put, List.setIfInBounds_toArray, List.set_cons_zero, List.set_cons_succ]
        refine takeH 1 24 (.agg (u8s d).toArray) hHeld rfl rfl (by kernel_rfl) (by kernel_rfl) (by kernel_rfl) (fun _ _ _ h => h) (yieldsIf_load_mid (by rfl) _ _ rfl g5 0 rfl _ _ (fun w h => h) hu rfl HI1.out) ?_
        simp only [Act.put, List.setIfInBounds_toArray, List.set_cons_zero, List.set_cons_succ]
        refine wpAnyH_ready (rs := [2]) (by kernel_rfl) (by simp) (AllReadyH.cons rfl (fun K hK => ?_) AllReadyH.nil)
        rw [if_pos (by rfl)]
        refine wp_storeW wD rfl rfl rfl U10.out HLL.out (One.u8 _) (by rw [u8s_length, zer_length]; omega) ?_
        intro u1 hg1 hbut1
        rw [spl_same _ _ (zer_length 32) HDD.out] at hg1
        refine hK.out _ _ ((U5.out.but hbut1 h510).range 0 _ (by simp)) (fun hHeld => ?_)
        clear hK K
        simp only [Act.put]
        have GB1 := hide (U11.out.but hbut1 h1011.symm)
        refine wpAnyH_ready (rs := [3]) (by kernel_rfl) (by simp) (AllReadyH.cons rfl (fun K hK => ?_) AllReadyH.nil)
        rw [if_pos (by rfl)]
        refine wp_storeW wD rfl rfl rfl GB1.out HLL.out (One.u8 _) (by rw [u8s_length, zer_length]; omega) ?_
        intro u2 hg2 hbut2
        rw [spl_same _ _ (zer_length 32) HDD.out] at hg2
        refine hK.out _ _ (((U5.out.but hbut1 h510).but hbut2 h511).range 0 _ (by simp)) (fun hHeld => ?_)
        clear hK K
        simp only [Act.put]
        refine wpAnyH_done (by kernel_rfl) ?_ _
        refine NoPanic.normal ?_
        clear hHeld
        go_wp2
        refine bodyPost_ret (results_ww rfl wD wD _ _ rfl rfl (hg1.but hbut2 h1011) hg2 HLL.out HLL.out) rfl ⟨?_, (UB.out.trans (hbut1.below hw10)).trans (hbut2.below hw11)⟩
        rfl
      · obtain rfl : W = false := by rw [hW]; simp [hb]
        rw [if_neg hb] at hl ⊢
        have hl0 : l = 1 := by rw [hl]; rfl
        subst hl0
        obtain ⟨pb, po, rfl⟩ := HS.out.place (by omega)
        have hat := d_at pb po 1 cap 0 0 rfl (by omega)
        have HDD := hide (dat_length HS.out.hlen (show 0 < 1 by omega))
        have HDU := hide (show (u8s (dat xs 0)).length = 32 by rw [u8s_length, HDD.out])
        have hpo : ∀ v : World, Ds v (some ⟨pb, po, none⟩) 1 cap xs → v.rangeAt pb po (u8s (dat xs 0)) := fun v hv => hv.range 0 (by omega)
        clear hn' hW hn h1 h2 h3 e1 e2 hl
        go_enter Tryd.func97, Tryd.ntmps97
        go_wp2_with (refine step_box rfl rfl ?_)
        intro w1 g5 hr1 hl1 hb1
        have G5 := hide hr1
        clear hr1
        go_wp2_with (refine step_alloc zD rfl ?_)
        intro w2 g10 hr2 hl2 hb2
        have G10 := hide hr2
        have G52 := hide (G5.out.on hb2)
        have B2 := hide (hb1.trans (hb2.mono hb1.size))
        have hw10 : w.heap.size ≤ g10 := Nat.le_trans hb1.size hl2
        have h510 : g5 ≠ g10 := by have := G5.out.lt; omega
        clear hr2 hb1 hb2 G5
        go_wp2_with (refine step_alloc zD rfl ?_)
        intro w3 g11 hr3 hl3 hb3
        have G11 := hide hr3
        have G103 := hide (G10.out.on hb3)
        have G53 := hide (G52.out.on hb3)
        have h1011 : g10 ≠ g11 := by have := G10.out.lt; omega
        have h511 : g5 ≠ g11 := by have := G52.out.lt; omega
        have hw11 : w.heap.size ≤ g11 := Nat.le_trans B2.out.size hl3
        have B3 := hide (on_below B2.out hb3)
        clear hr3 hb3 G10 G52 B2
        go_wp2_with fail
        refine wp_region_noPanic ?_
        have hu := aD.und
        have HI1 : Hid ((Tryd.prog.info? 45).map (·.size) = some (u8s (dat xs 0)).length) := hide (by rw [wD.size, HDU.out])
        have U10 := hide (G103.out.on ((Below.refl _ _).drew))
        have U11 := hide (G11.out.on ((Below.refl _ _).drew))
        have UB := hide (B3.out.drew)
        refine wp_region_held_drew (S := fun v : World => v.rangeAt pb po (u8s (dat xs 0))) (by kernel_rfl) (hpo _ (HS.out.below UB.out)) (fun hHeld => ?_)
        refine takeH 0 25 (.slice (some ⟨pb, po, none⟩) 1 cap) hHeld rfl rfl (by kernel_rfl) (by kernel_rfl) (by kernel_rfl) (fun _ _ _ h => h) (Or.inl ⟨by rfl, fun w _ => by go_simp⟩) ?_
        simp only [Act.put, List.setIfInBounds_toArray, List.set_cons_zero, List.set_cons_succ]
        refine takeH 1 26 (.pointer (some ⟨pb, po, none⟩)) hHeld rfl rfl (by kernel_rfl) (by kernel_rfl) (by kernel_rfl) (fun _ _ _ h => h) (Or.inl ⟨by rfl, fun w _ => run_op rfl ((d_at pb po 1 cap 0 0 rfl (by omega)) w)⟩) ?_
        simp only [Act.put, List.setIfInBounds_toArray, List.set_cons_zero, List.set_cons_succ]
        refine takeH 2 27 (.agg (u8s (dat xs 0)).toArray) hHeld rfl rfl (by kernel_rfl) (by kernel_rfl) (by kernel_rfl) (fun _ _ _ h => h) (yieldsIf_load_mid (by rfl) _ _ rfl pb po rfl _ _ (fun w h => h) hu rfl HI1.out) ?_
        simp only [Act.put, List.setIfInBounds_toArray, List.set_cons_zero, List.set_cons_succ]
        refine takeH 3 28 (.slice (some ⟨pb, po, none⟩) 1 cap) hHeld rfl rfl (by kernel_rfl) (by kernel_rfl) (by kernel_rfl) (fun _ _ _ h => h) (Or.inl ⟨by rfl, fun w _ => by go_simp⟩) ?_
        simp only [Act.put, List.setIfInBounds_toArray, List.set_cons_zero, List.set_cons_succ]
        refine takeH 4 29 (.pointer (some ⟨pb, po, none⟩)) hHeld rfl rfl (by kernel_rfl) (by kernel_rfl) (by kernel_rfl) (fun _ _ _ h => h) (Or.inl ⟨by rfl, fun w _ => run_op rfl ((d_at pb po 1 cap 0 0 rfl (by omega)) w)⟩) ?_
        simp only [Act.put, List.setIfInBounds_toArray, List.set_cons_zero, List.set_cons_succ]
        refine takeH 5 30 (.agg (u8s (dat xs 0)).toArray) hHeld rfl rfl (by kernel_rfl) (by kernel_rfl) (by kernel_rfl) (fun _ _ _ h => h) (yieldsIf_load_mid (by rfl) _ _ rfl pb po rfl _ _ (fun w h => h) hu rfl HI1.out) ?_
        simp only [Act.put, List.setIfInBounds_toArray, List.set_cons_zero, List.set_cons_succ]
        refine wpAnyH_ready (rs := [6]) (by kernel_rfl) (by simp) (AllReadyH.cons rfl (fun K hK => ?_) AllReadyH.nil)
        rw [if_pos (by rfl)]
        refine wp_storeW wD rfl rfl rfl U10.out HDU.out (One.u8 _) (by rw [u8s_length, zer_length]; omega) ?_
        intro u1 hg1 hbut1
        rw [spl_same _ _ (zer_length 32) HDD.out] at hg1
        refine hK.out _ _ (hpo _ (HS.out.below (UB.out.trans (hbut1.below hw10)))) (fun hHeld => ?_)
        clear hK K
        simp only [Act.put]
        have GB1 := hide (U11.out.but hbut1 h1011.symm)
        refine wpAnyH_ready (rs := [7]) (by kernel_rfl) (by simp) (AllReadyH.cons rfl (fun K hK => ?_) AllReadyH.nil)
        rw [if_pos (by rfl)]
        refine wp_storeW wD rfl rfl rfl GB1.out HDU.out (One.u8 _) (by rw [u8s_length, zer_length]; omega) ?_
        intro u2 hg2 hbut2
        rw [spl_same _ _ (zer_length 32) HDD.out] at hg2
        refine hK.out _ _ (hpo _ (HS.out.below ((UB.out.trans (hbut1.below hw10)).trans (hbut2.below hw11)))) (fun hHeld => ?_)
        clear hK K
        simp only [Act.put]
        refine wpAnyH_done (by kernel_rfl) ?_ _
        refine NoPanic.normal ?_
        clear hHeld
        go_wp2
        refine bodyPost_ret (results_ww rfl wD wD _ _ rfl rfl (hg1.but hbut2 h1011) hg2 HDU.out HDU.out) rfl ⟨?_, (UB.out.trans (hbut1.below hw10)).trans (hbut2.below hw11)⟩
        rfl
    · have hn2 : 2 ≤ n := by omega
      have hn' : ¬ ((m : Int) - (b : Int) = (n : Int)) := by omega
      have hh := hf_bd n hn2 (by omega)
      have HH := hide (fun v => half7_any n v hn2 (by omega))
      by_cases hc : m - 1 < b + hf n
      · have hlen := hvM_few hm h1 (show m ≤ b + hf n by omega) (by omega)
        have hpt := ptM_le m b (hf n)
        obtain ⟨e1, e2⟩ := hvM_lo hm hn hn2 (by omega) h1 hc
        rw [e1, e2] at hl
        rw [e1, e2]
        have IH := hide (fun (l : Nat) (hl : l = (hvM m b (hf n)).length + ptM m b (hf n)) a cap xs w hd => ih.out b (hf n) l W a cap xs w (by omega) h1 (by omega) (by omega) hW hl hd)
        generalize hvM m b (hf n) = L at *
        generalize ptM m b (hf n) = T at *
        clear ih
        generalize hf n = k at *
        obtain ⟨q, hq⟩ : ∃ q, q = L.length + T := ⟨_, rfl⟩
        have hl1 : l = q + 1 := by rw [hl, List.length_append, hq]; simp; omega
        obtain ⟨pb, po, rfl⟩ := HS.out.place (by omega)
        have hstp := step_lo L xs (st0 T d xs) T
        rw [← hq] at hstp
        have hst0 := st0_take T L.length d xs
        rw [← hq] at hst0
        have hxl := HS.out.hlen
        replace IH := hide (fun w (hd : Ds w (some ⟨pb, po, none⟩) l cap xs) => IH.out q (by rw [hq]) (some ⟨pb, po, none⟩) cap (xs.take (32 * q)) w (Ds.take hd q (by omega)))
        rw [hst0] at IH
        have hat := d_at pb po l cap q ((l : Int) - 1) (by omega) (by omega)
        have hto := d_to pb po l cap q ((l : Int) - 1) (by omega) (by omega)
        have HUL := hide (show (u8s (dat xs q)).length = 32 by rw [u8s_length, dat_length HS.out.hlen (show q < l by omega)])
        have HXD := hide (dat_length HS.out.hlen (show q < l by omega))
        have HXB := hide (dat_isB HS.out.hbyte q)
        have hD0 := st0_length (t := T) hd hxl (show T ≤ l by omega)
        have hD1 := st0_isB (t := T) (xs := xs) hdb HS.out.hbyte
        generalize st0 T d xs = D0 at *
        have HOL := hide (fo_length (hs := L) (xs := (xs.take (32 * q)).drop (32 * T)) hD0 L.length)
        have HOB := hide (fo_isB (hs := L) (xs := (xs.take (32 * q)).drop (32 * T)) hD1 L.length)
        have HNL := hide (fu_length (hs := L) (xs := (xs.take (32 * q)).drop (32 * T)) hD0 L.length)
        have HNB := hide (fu_isB (hs := L) (xs := (xs.take (32 * q)).drop (32 * T)) hD1 L.length)
        have HLA : Hid ((L ++ [0]).length = L.length + 1) := hide (by simp)
        generalize fo L ((xs.take (32 * q)).drop (32 * T)) D0 L.length = Oq at *
        generalize fu L ((xs.take (32 * q)).drop (32 * T)) D0 L.length = Nq at *
        have HOU := hide (show (u8s Oq).length = 32 by rw [u8s_length, HOL.out])
        have HNU := hide (show (u8s Nq).length = 32 by rw [u8s_length, HNL.out])
        have HST := hide hstp
        have HL1 := hide hl1
        have hl2 : 1 ≤ l := by omega
        have hl9 : l ≤ 50 := by omega
        have hc' : (m : Int) - (b : Int) ≤ (k : Int) := by omega
        clear hl hq hl1 hstp hxl hst0 e1 e2 hW
        go_enter Tryd.func97, Tryd.ntmps97
        go_wp2_with (refine step_box rfl rfl ?_)
        intro w1 g5 hr1 hl1 hb1
        have G5 := hide hr1
        clear hr1
        go_wp2_with (refine step_alloc zD rfl ?_)
        intro w2 g10 hr2 hl2 hb2
        have G10 := hide hr2
        have G52 := hide (G5.out.on hb2)
        have B2 := hide (hb1.trans (hb2.mono hb1.size))
        have hw10 : w.heap.size ≤ g10 := Nat.le_trans hb1.size hl2
        have h510 : g5 ≠ g10 := by have := G5.out.lt; omega
        clear hr2 hb1 hb2 G5
        go_wp2_with (refine step_alloc zD rfl ?_)
        intro w3 g11 hr3 hl3 hb3
        have G11 := hide hr3
        have G103 := hide (G10.out.on hb3)
        have G53 := hide (G52.out.on hb3)
        have h1011 : g10 ≠ g11 := by have := G10.out.lt; omega
        have h511 : g5 ≠ g11 := by have := G52.out.lt; omega
        have hw11 : w.heap.size ≤ g11 := Nat.le_trans B2.out.size hl3
        have B3 := hide (on_below B2.out hb3)
        clear hr3 hb3 G10 G52 B2
        go_wp2_with fail
        refine (HH.out _).mono ?_
        rintro r w' ⟨rfl, rfl⟩
        have HRG := hide ((HS.out.below B3.out).range q (by have := HL1.out; omega))
        go_wp2_with (first | (refine step_loadR wD rfl rfl _ HRG.out HUL.out ?_) | (refine step_alloc zD rfl ?_))
        intro w4 g13 hr4 hl4 hb4
        have G13 := hide hr4
        clear hr4
        go_wp2_with (refine step_storeA wD rfl rfl rfl G13.out HUL.out (One.u8 _) rfl ?_)
        intro w5 hg5 hbut5
        have X5 := hide (hb4.trans (hbut5.below hl4))
        have P13 := hide hg5
        have P10 := hide (G103.out.on X5.out)
        have P11 := hide (G11.out.on X5.out)
        have P5 := hide (G53.out.on X5.out)
        have PB := hide (on_below B3.out X5.out)
        have h1310 : g13 ≠ g10 := by have := G103.out.lt; omega
        have h1311 : g13 ≠ g11 := by have := G11.out.lt; omega
        clear hg5 hbut5 hb4 G13 HRG G103 G11 G53 B3 X5 hat
        go_wp2_with (refine step_loadA wD rfl rfl P5.out HLL.out ?_)
        refine (IH.out _ (HS.out.below PB.out)).mono ?_
        rintro r w6 ⟨rfl, hb6⟩
        have Q13 := hide (P13.out.on hb6)
        have Q10 := hide (P10.out.on hb6)
        have Q11 := hide (P11.out.on hb6)
        have QB := hide (on_below PB.out hb6)
        clear hb6 P13 P10 P11 P5 PB
        go_wp2_with (refine step_alloc zD rfl ?_)
        intro w7 g15 hr7 hl7 hb7
        have G15 := hide hr7
        clear hr7
        go_wp2_with (refine step_alloc zD rfl ?_)
        intro w8 g16 hr8 hl8 hb8
        have h1516 : g15 ≠ g16 := by have := G15.out.lt; omega
        have G16 := hide hr8
        have G158 := hide (G15.out.on hb8)
        have X8 := hide (on_below hb7 hb8)
        have hl68 : w6.heap.size ≤ g16 := Nat.le_trans hb7.size hl8
        clear hr8 G15 hb7 hb8
        go_wp2_with (refine step_storeA wD rfl rfl rfl G158.out HOU.out (One.u8 _) rfl ?_)
        intro w9 hg9 hbut9
        have G159 := hide hg9
        have G169 := hide (G16.out.but hbut9 h1516.symm)
        have X9 := hide (X8.out.trans (hbut9.below hl7))
        clear hg9 hbut9 G158 G16 X8
        go_wp2_with (refine step_storeA wD rfl rfl rfl G169.out HNU.out (One.u8 _) rfl ?_)
        intro z0 hg0 hbut0
        have X0 := hide (X9.out.trans (hbut0.below hl68))
        have h10a : g10 ≠ g15 := by have := Q10.out.lt; omega
        have h10b : g10 ≠ g16 := by have := Q10.out.lt; omega
        have h11a : g11 ≠ g15 := by have := Q11.out.lt; omega
        have h11b : g11 ≠ g16 := by have := Q11.out.lt; omega
        have T15 := hide ((G159.out.but hbut0 h1516).on ((Below.refl _ _).drew))
        have T16 := hide ((show Blk z0 g16 45 (u8s Nq) from hg0).on ((Below.refl _ _).drew))
        have T13 := hide ((Q13.out.on X0.out).on ((Below.refl _ _).drew))
        have T10 := hide ((Q10.out.on X0.out).on ((Below.refl _ _).drew))
        have T11 := hide ((Q11.out.on X0.out).on ((Below.refl _ _).drew))
        have TB := hide ((on_below QB.out X0.out).drew)
        clear hg0 hbut0 G159 G169 X9 X0 Q13 Q10 Q11 QB hl7 hl8 hl68
        have hu := aD.und
        have HI1 : Hid ((Tryd.prog.info? 45).map (·.size) = some (u8s Oq).length) := hide (by rw [wD.size, HOU.out])
        have HI2 : Hid ((Tryd.prog.info? 45).map (·.size) = some (u8s Nq).length) := hide (by rw [wD.size, HNU.out])
        have HI3 : Hid ((Tryd.prog.info? 45).map (·.size) = some (u8s (dat xs q)).length) := hide (by rw [wD.size, HUL.out])
        have hS : ∀ v : World, Blk v g15 45 (u8s Oq) → Blk v g16 45 (u8s Nq) → Blk v g13 45 (u8s (dat xs q)) → v.rangeAt g15 0 (u8s Oq) ∧ v.rangeAt g16 0 (u8s Nq) ∧ v.rangeAt g13 0 (u8s (dat xs q)) := fun v h1 h2 h3 => ⟨h1.range 0 _ (by simp), h2.range 0 _ (by simp), h3.range 0 _ (by simp)⟩
        go_wp2_with fail
        refine wp_region_noPanic ?_
        refine wp_region_held_drew (S := fun v : World => v.rangeAt g15 0 (u8s Oq) ∧ v.rangeAt g16 0 (u8s Nq) ∧ v.rangeAt g13 0 (u8s (dat xs q))) (by kernel_rfl) (hS _ T15.out T16.out T13.out) (fun hHeld => ?_)
        refine takeH 0 56 (.agg (u8s Oq).toArray) hHeld rfl rfl (by kernel_rfl) (by kernel_rfl) (by kernel_rfl) (fun _ _ _ h => h) (yieldsIf_load_mid (by rfl) _ _ rfl g15 0 rfl _ _ (fun w h => h.1) hu rfl HI1.out) ?_
        simp only [Act.put, List.setIfInBounds_toArray, List.set_cons_zero, List.set_cons_succ]
        refine takeH 1 57 (.agg (u8s Nq).toArray) hHeld rfl rfl (by kernel_rfl) (by kernel_rfl) (by kernel_rfl) (fun _ _ _ h => h) (yieldsIf_load_mid (by rfl) _ _ rfl g16 0 rfl _ _ (fun w h => h.2.1) hu rfl HI2.out) ?_
        simp only [Act.put, List.setIfInBounds_toArray, List.set_cons_zero, List.set_cons_succ]
        refine takeH 2 58 (.agg (u8s (dat xs q)).toArray) hHeld rfl rfl (by kernel_rfl) (by kernel_rfl) (by kernel_rfl) (fun _ _ _ h => h) (yieldsIf_load_mid (by rfl) _ _ rfl g13 0 rfl _ _ (fun w h => h.2.2) hu rfl HI3.out) ?_
        simp only [Act.put, List.setIfInBounds_toArray, List.set_cons_zero, List.set_cons_succ]
        refine wpAnyH_ready (rs := [3]) (by kernel_rfl) (by simp) (AllReadyH.cons rfl (fun K hK => ?_) AllReadyH.nil)
        rw [if_pos (by rfl)]
        go_simp
        refine (nodeR_any Nq (dat xs q) _ HNL.out HNB.out HXD.out HXB.out).mono ?_
        rintro r v1 ⟨rfl, hv⟩
        have U15 := hide (T15.out.on hv)
        have U16 := hide (T16.out.on hv)
        have U13 := hide (T13.out.on hv)
        have U10 := hide (T10.out.on hv)
        have U11 := hide (T11.out.on hv)
        have UB := hide (on_below TB.out hv)
        clear hv T15 T16 T13 T10 T11 TB
        refine hK.out _ _ (hS _ U15.out U16.out U13.out) (fun hHeld => ?_)
        clear hK K
        have HNDU := hide (show (u8s (nd Nq (dat xs q))).length = 32 by rw [u8s_length, nd_length])
        refine wpAnyH_ready (rs := [4]) (by kernel_rfl) (by simp) (AllReadyH.cons rfl (fun K hK => ?_) AllReadyH.nil)
        rw [if_pos (by rfl)]
        refine wp_storeW wD rfl rfl rfl U10.out HOU.out (One.u8 _) (by rw [u8s_length, zer_length]; omega) ?_
        intro u1 hg1 hbut1
        rw [spl_same _ _ (zer_length 32) HOL.out] at hg1
        refine hK.out _ _ (hS _ (U15.out.but hbut1 h10a.symm) (U16.out.but hbut1 h10b.symm) (U13.out.but hbut1 h1310)) (fun hHeld => ?_)
        clear hK K
        simp only [Act.put]
        have GB1 := hide (U11.out.but hbut1 h1011.symm)
        refine wpAnyH_ready (rs := [5]) (by kernel_rfl) (by simp) (AllReadyH.cons rfl (fun K hK => ?_) AllReadyH.nil)
        rw [if_pos (by rfl)]
        refine wp_storeW wD rfl rfl rfl GB1.out HNDU.out (One.u8 _) (by rw [u8s_length, zer_length]; omega) ?_
        intro u2 hg2 hbut2
        rw [spl_same _ _ (zer_length 32) (nd_length _ _)] at hg2
        refine hK.out _ _ (hS _ ((U15.out.but hbut1 h10a.symm).but hbut2 h11a.symm) ((U16.out.but hbut1 h10b.symm).but hbut2 h11b.symm) ((U13.out.but hbut1 h1310).but hbut2 h1311)) (fun hHeld => ?_)
        clear hK K
        simp only [Act.put]
        refine wpAnyH_done (by kernel_rfl) ?_ _
        refine NoPanic.normal ?_
        clear hHeld
        go_wp2
        refine bodyPost_ret (results_ww rfl wD wD _ _ rfl rfl (hg1.but hbut2 h1011) hg2 HOU.out HNDU.out) rfl ⟨?_, (UB.out.trans (hbut1.below hw10)).trans (hbut2.below hw11)⟩
        rw [HLA.out, HST.out.1, HST.out.2]
      · have hlen := hvM_few hm (show b + hf n < m by omega) (show m ≤ b + hf n + (n - hf n) by omega) (by omega)
        have hpt := ptM_le m (b + hf n) (n - hf n)
        obtain ⟨e1, e2⟩ := hvM_hi hm hn hn2 (by omega) h2 h1 hc
        rw [e1, e2] at hl
        rw [e1, e2]
        have IH := hide (fun (l : Nat) (hl : l = (hvM m (b + hf n) (n - hf n)).length + ptM m (b + hf n) (n - hf n)) a cap xs w hd => ih.out (b + hf n) (n - hf n) l false a cap xs w (by omega) (by omega) (by omega) (by omega) (by simp; omega) hl hd)
        generalize hvM m (b + hf n) (n - hf n) = L at *
        generalize ptM m (b + hf n) (n - hf n) = T at *
        clear ih
        generalize hf n = k at *
        obtain ⟨q, hq⟩ : ∃ q, q = L.length + T := ⟨_, rfl⟩
        have hl1 : l = q + 1 := by rw [hl, List.length_append, hq]; simp; omega
        obtain ⟨pb, po, rfl⟩ := HS.out.place (by omega)
        have hstp := step_hi L xs (st0 T d xs) T
        rw [← hq] at hstp
        have hst0 := st0_take T L.length d xs
        rw [← hq] at hst0
        have hxl := HS.out.hlen
        replace IH := hide (fun w (hd : Ds w (some ⟨pb, po, none⟩) l cap xs) => IH.out q (by rw [hq]) (some ⟨pb, po, none⟩) cap (xs.take (32 * q)) w (Ds.take hd q (by omega)))
        rw [hst0] at IH
        have hat := d_at pb po l cap q ((l : Int) - 1) (by omega) (by omega)
        have hto := d_to pb po l cap q ((l : Int) - 1) (by omega) (by omega)
        have HUL := hide (show (u8s (dat xs q)).length = 32 by rw [u8s_length, dat_length HS.out.hlen (show q < l by omega)])
        have HXD := hide (dat_length HS.out.hlen (show q < l by omega))
        have HXB := hide (dat_isB HS.out.hbyte q)
        have hD0 := st0_length (t := T) hd hxl (show T ≤ l by omega)
        have hD1 := st0_isB (t := T) (xs := xs) hdb HS.out.hbyte
        generalize st0 T d xs = D0 at *
        have HOL := hide (fo_length (hs := L) (xs := (xs.take (32 * q)).drop (32 * T)) hD0 L.length)
        have HOB := hide (fo_isB (hs := L) (xs := (xs.take (32 * q)).drop (32 * T)) hD1 L.length)
        have HNL := hide (fu_length (hs := L) (xs := (xs.take (32 * q)).drop (32 * T)) hD0 L.length)
        have HNB := hide (fu_isB (hs := L) (xs := (xs.take (32 * q)).drop (32 * T)) hD1 L.length)
        have HLA : Hid ((L ++ [1]).length = L.length + 1) := hide (by simp)
        generalize fo L ((xs.take (32 * q)).drop (32 * T)) D0 L.length = Oq at *
        generalize fu L ((xs.take (32 * q)).drop (32 * T)) D0 L.length = Nq at *
        have HOU := hide (show (u8s Oq).length = 32 by rw [u8s_length, HOL.out])
        have HNU := hide (show (u8s Nq).length = 32 by rw [u8s_length, HNL.out])
        have HST := hide hstp
        have HL1 := hide hl1
        have hl2 : 1 ≤ l := by omega
        have hl9 : l ≤ 50 := by omega
        have hc' : ¬ (m : Int) - (b : Int) ≤ (k : Int) := by omega
        have e2 : ((n - k : Nat) : Int) = (n : Int) - (k : Int) := by omega
        have e3 : (m : Int) - ((b + k : Nat) : Int) = (m : Int) - (b : Int) - (k : Int) := by omega
        rw [e3, e2] at IH
        clear hl hq hl1 hstp hxl hst0 e1 e2 e3 hW
        go_enter Tryd.func97, Tryd.ntmps97
        go_wp2_with (refine step_box rfl rfl ?_)
        intro w1 g5 hr1 hl1 hb1
        have G5 := hide hr1
        clear hr1
        go_wp2_with (refine step_alloc zD rfl ?_)
        intro w2 g10 hr2 hl2 hb2
        have G10 := hide hr2
        have G52 := hide (G5.out.on hb2)
        have B2 := hide (hb1.trans (hb2.mono hb1.size))
        have hw10 : w.heap.size ≤ g10 := Nat.le_trans hb1.size hl2
        have h510 : g5 ≠ g10 := by have := G5.out.lt; omega
        clear hr2 hb1 hb2 G5
        go_wp2_with (refine step_alloc zD rfl ?_)
        intro w3 g11 hr3 hl3 hb3
        have G11 := hide hr3
        have G103 := hide (G10.out.on hb3)
        have G53 := hide (G52.out.on hb3)
        have h1011 : g10 ≠ g11 := by have := G10.out.lt; omega
        have h511 : g5 ≠ g11 := by have := G52.out.lt; omega
        have hw11 : w.heap.size ≤ g11 := Nat.le_trans B2.out.size hl3
        have B3 := hide (on_below B2.out hb3)
        clear hr3 hb3 G10 G52 B2
        go_wp2_with fail
        refine (HH.out _).mono ?_
        rintro r w' ⟨rfl, rfl⟩
        have HRG := hide ((HS.out.below B3.out).range q (by have := HL1.out; omega))
        go_wp2_with (first | (refine step_loadR wD rfl rfl _ HRG.out HUL.out ?_) | (refine step_alloc zD rfl ?_))
        intro w4 g13 hr4 hl4 hb4
        have G13 := hide hr4
        clear hr4
        go_wp2_with (refine step_storeA wD rfl rfl rfl G13.out HUL.out (One.u8 _) rfl ?_)
        intro w5 hg5 hbut5
        have X5 := hide (hb4.trans (hbut5.below hl4))
        have P13 := hide hg5
        have P10 := hide (G103.out.on X5.out)
        have P11 := hide (G11.out.on X5.out)
        have P5 := hide (G53.out.on X5.out)
        have PB := hide (on_below B3.out X5.out)
        have h1310 : g13 ≠ g10 := by have := G103.out.lt; omega
        have h1311 : g13 ≠ g11 := by have := G11.out.lt; omega
        clear hg5 hbut5 hb4 G13 HRG G103 G11 G53 B3 X5 hat
        go_wp2_with (refine step_loadA wD rfl rfl P5.out HLL.out ?_)
        refine (IH.out _ (HS.out.below PB.out)).mono ?_
        rintro r w6 ⟨rfl, hb6⟩
        have Q13 := hide (P13.out.on hb6)
        have Q10 := hide (P10.out.on hb6)
        have Q11 := hide (P11.out.on hb6)
        have QB := hide (on_below PB.out hb6)
        clear hb6 P13 P10 P11 P5 PB
        go_wp2_with (refine step_alloc zD rfl ?_)
        intro w7 g15 hr7 hl7 hb7
        have G15 := hide hr7
        clear hr7
        go_wp2_with (refine step_alloc zD rfl ?_)
        intro w8 g16 hr8 hl8 hb8
        have h1516 : g15 ≠ g16 := by have := G15.out.lt; omega
        have G16 := hide hr8
        have G158 := hide (G15.out.on hb8)
        have X8 := hide (on_below hb7 hb8)
        have hl68 : w6.heap.size ≤ g16 := Nat.le_trans hb7.size hl8
        clear hr8 G15 hb7 hb8
        go_wp2_with (refine step_storeA wD rfl rfl rfl G158.out HOU.out (One.u8 _) rfl ?_)
        intro w9 hg9 hbut9
        have G159 := hide hg9
        have G169 := hide (G16.out.but hbut9 h1516.symm)
        have X9 := hide (X8.out.trans (hbut9.below hl7))
        clear hg9 hbut9 G158 G16 X8
        go_wp2_with (refine step_storeA wD rfl rfl rfl G169.out HNU.out (One.u8 _) rfl ?_)
        intro z0 hg0 hbut0
        have X0 := hide (X9.out.trans (hbut0.below hl68))
        have h10a : g10 ≠ g15 := by have := Q10.out.lt; omega
        have h10b : g10 ≠ g16 := by have := Q10.out.lt; omega
        have h11a : g11 ≠ g15 := by have := Q11.out.lt; omega
        have h11b : g11 ≠ g16 := by have := Q11.out.lt; omega
        have T15 := hide ((G159.out.but hbut0 h1516).on ((Below.refl _ _).drew))
        have T16 := hide ((show Blk z0 g16 45 (u8s Nq) from hg0).on ((Below.refl _ _).drew))
        have T13 := hide ((Q13.out.on X0.out).on ((Below.refl _ _).drew))
        have T10 := hide ((Q10.out.on X0.out).on ((Below.refl _ _).drew))
        have T11 := hide ((Q11.out.on X0.out).on ((Below.refl _ _).drew))
        have TB := hide ((on_below QB.out X0.out).drew)
        clear hg0 hbut0 G159 G169 X9 X0 Q13 Q10 Q11 QB hl7 hl8 hl68
        have hu := aD.und
        have HI1 : Hid ((Tryd.prog.info? 45).map (·.size) = some (u8s Oq).length) := hide (by rw [wD.size, HOU.out])
        have HI2 : Hid ((Tryd.prog.info? 45).map (·.size) = some (u8s Nq).length) := hide (by rw [wD.size, HNU.out])
        have HI3 : Hid ((Tryd.prog.info? 45).map (·.size) = some (u8s (dat xs q)).length) := hide (by rw [wD.size, HUL.out])
        have hS : ∀ v : World, Blk v g15 45 (u8s Oq) → Blk v g16 45 (u8s Nq) → Blk v g13 45 (u8s (dat xs q)) → v.rangeAt g15 0 (u8s Oq) ∧ v.rangeAt g16 0 (u8s Nq) ∧ v.rangeAt g13 0 (u8s (dat xs q)) := fun v h1 h2 h3 => ⟨h1.range 0 _ (by simp), h2.range 0 _ (by simp), h3.range 0 _ (by simp)⟩
        go_wp2_with fail
        refine wp_region_noPanic ?_
        refine wp_region_held_drew (S := fun v : World => v.rangeAt g15 0 (u8s Oq) ∧ v.rangeAt g16 0 (u8s Nq) ∧ v.rangeAt g13 0 (u8s (dat xs q))) (by kernel_rfl) (hS _ T15.out T16.out T13.out) (fun hHeld => ?_)
        refine takeH 0 72 (.agg (u8s (dat xs q)).toArray) hHeld rfl rfl (by kernel_rfl) (by kernel_rfl) (by kernel_rfl) (fun _ _ _ h => h) (yieldsIf_load_mid (by rfl) _ _ rfl g13 0 rfl _ _ (fun w h => h.2.2) hu rfl HI3.out) ?_
        simp only [Act.put, List.setIfInBounds_toArray, List.set_cons_zero, List.set_cons_succ]
        refine takeH 1 73 (.agg (u8s Oq).toArray) hHeld rfl rfl (by kernel_rfl) (by kernel_rfl) (by kernel_rfl) (fun _ _ _ h => h) (yieldsIf_load_mid (by rfl) _ _ rfl g15 0 rfl _ _ (fun w h => h.1) hu rfl HI1.out) ?_
        simp only [Act.put, List.setIfInBounds_toArray, List.set_cons_zero, List.set_cons_succ]
        refine takeH 3 75 (.agg (u8s (dat xs q)).toArray) hHeld rfl rfl (by kernel_rfl) (by kernel_rfl) (by kernel_rfl) (fun _ _ _ h => h) (yieldsIf_load_mid (by rfl) _ _ rfl g13 0 rfl _ _ (fun w h => h.2.2) hu rfl HI3.out) ?_
        simp only [Act.put, List.setIfInBounds_toArray, List.set_cons_zero, List.set_cons_succ]
        refine takeH 4 76 (.agg (u8s Nq).toArray) hHeld rfl rfl (by kernel_rfl) (by kernel_rfl) (by kernel_rfl) (fun _ _ _ h => h) (yieldsIf_load_mid (by rfl) _ _ rfl g16 0 rfl _ _ (fun w h => h.2.1) hu rfl HI2.out) ?_
        simp only [Act.put, List.setIfInBounds_toArray, List.set_cons_zero, List.set_cons_succ]
        refine wpAnyH_ready (rs := [2]) (by kernel_rfl) (by simp) (AllReadyH.cons rfl (fun K hK => ?_) AllReadyH.nil)
        rw [if_pos (by rfl)]
        go_simp
        refine (nodeR_any (dat xs q) Oq _ HXD.out HXB.out HOL.out HOB.out).mono ?_
        rintro r v1 ⟨rfl, hv⟩
        have U15 := hide (T15.out.on hv)
        have U16 := hide (T16.out.on hv)
        have U13 := hide (T13.out.on hv)
        have U10 := hide (T10.out.on hv)
        have U11 := hide (T11.out.on hv)
        have UB := hide (on_below TB.out hv)
        clear hv T15 T16 T13 T10 T11 TB
        refine hK.out _ _ (hS _ U15.out U16.out U13.out) (fun hHeld => ?_)
        clear hK K
        refine wpAnyH_ready (rs := [5]) (by kernel_rfl) (by simp) (AllReadyH.cons rfl (fun K hK => ?_) AllReadyH.nil)
        rw [if_pos (by rfl)]
        go_simp
        refine (nodeR_any (dat xs q) Nq _ HXD.out HXB.out HNL.out HNB.out).mono ?_
        rintro r v2 ⟨rfl, hv⟩
        have Z15 := hide (U15.out.on hv)
        have Z16 := hide (U16.out.on hv)
        have Z13 := hide (U13.out.on hv)
        have Z10 := hide (U10.out.on hv)
        have Z11 := hide (U11.out.on hv)
        have ZB := hide (on_below UB.out hv)
        clear hv U15 U16 U13 U10 U11 UB
        refine hK.out _ _ (hS _ Z15.out Z16.out Z13.out) (fun hHeld => ?_)
        clear hK K
        have HND1 := hide (show (u8s (nd (dat xs q) Oq)).length = 32 by rw [u8s_length, nd_length])
        have HND2 := hide (show (u8s (nd (dat xs q) Nq)).length = 32 by rw [u8s_length, nd_length])
        refine wpAnyH_ready (rs := [6]) (by kernel_rfl) (by simp) (AllReadyH.cons rfl (fun K hK => ?_) AllReadyH.nil)
        rw [if_pos (by rfl)]
        refine wp_storeW wD rfl rfl rfl Z10.out HND1.out (One.u8 _) (by rw [u8s_length, zer_length]; omega) ?_
        intro u1 hg1 hbut1
        rw [spl_same _ _ (zer_length 32) (nd_length _ _)] at hg1
        refine hK.out _ _ (hS _ (Z15.out.but hbut1 h10a.symm) (Z16.out.but hbut1 h10b.symm) (Z13.out.but hbut1 h1310)) (fun hHeld => ?_)
        clear hK K
        simp only [Act.put]
        have GB1 := hide (Z11.out.but hbut1 h1011.symm)
        refine wpAnyH_ready (rs := [7]) (by kernel_rfl) (by simp) (AllReadyH.cons rfl (fun K hK => ?_) AllReadyH.nil)
        rw [if_pos (by rfl)]
        refine wp_storeW wD rfl rfl rfl GB1.out HND2.out (One.u8 _) (by rw [u8s_length, zer_length]; omega) ?_
        intro u2 hg2 hbut2
        rw [spl_same _ _ (zer_length 32) (nd_length _ _)] at hg2
        refine hK.out _ _ (hS _ ((Z15.out.but hbut1 h10a.symm).but hbut2 h11a.symm) ((Z16.out.but hbut1 h10b.symm).but hbut2 h11b.symm) ((Z13.out.but hbut1 h1310).but hbut2 h1311)) (fun hHeld => ?_)
        clear hK K
        simp only [Act.put]
        refine wpAnyH_done (by kernel_rfl) ?_ _
        refine NoPanic.normal ?_
        clear hHeld
        go_wp2
        refine bodyPost_ret (results_ww rfl wD wD _ _ rfl rfl (hg1.but hbut2 h1011) hg2 HND1.out HND2.out) rfl ⟨?_, (ZB.out.trans (hbut1.below hw10)).trans (hbut2.below hw11)⟩
        rw [HLA.out, HST.out.1, HST.out.2]

end Go.Proofs.YtojepbapdjkknaaDoor

/-
  The document's Roots; what both tell; Consistency of both.
-/
namespace Go.Proofs.YtojepbapdjkknaaDoor
open Go.RowKit
set_option linter.unusedVariables false

set_option maxRecDepth 100000 in
set_option maxHeartbeats 1000000 in
theorem rootsR7_bad (d : List Int) (m n : Int) (a : Value) (w : World) (h : m < 1 ∨ n < m ∨ 281474976710656 < n) :
    Calls Tryd.prog 78 #[.agg (u8s d).toArray, .int .i64 m, .int .i64 n, a] w fun r w' => r = .returned (.tuple #[.agg (u8s (zer 32)).toArray, .agg (u8s (zer 32)).toArray, .int .i64 40]) ∧ Below w.heap.size w w' := by
  have H := hide (fun v => stepsR_bad m n v h)
  clear h
  go_enter Tryd.func78, Tryd.ntmps78
  go_wp2_with (refine step_box rfl rfl ?_)
  intro w1 g4 hr1 hl1 hb1
  have G4 := hide hr1
  clear hr1
  go_wp2_with (refine step_alloc zD rfl ?_)
  intro w2 g8 hr2 hl2 hb2
  have G8 := hide hr2
  have G42 := hide (G4.out.on hb2)
  have B2 := hide (hb1.trans (hb2.mono hb1.size))
  have hw8 : w.heap.size ≤ g8 := Nat.le_trans hb1.size hl2
  clear hr2 hb1 hb2 G4
  go_wp2_with (refine step_alloc zD rfl ?_)
  intro w3 g9 hr3 hl3 hb3
  have G9 := hide hr3
  have G83 := hide (G8.out.on hb3)
  have G43 := hide (G42.out.on hb3)
  have h89 : g8 ≠ g9 := by have := G8.out.lt; omega
  have hw9 : w.heap.size ≤ g9 := Nat.le_trans B2.out.size hl3
  have B3 := hide (on_below B2.out hb3)
  clear hr3 hb3 G8 G42 B2
  go_wp2_with fail
  refine (H.out _).mono ?_
  rintro r w4 ⟨rfl, rfl⟩
  go_wp2_with (first | (refine step_buildD rfl ?_) | (refine step_storeA wD rfl rfl rfl G83.out (by rw [u8s_length, zer_length]) (One.u8 _) rfl ?_))
  intro w5 hg5 hbut5
  have E8 := hide hg5
  have E9 := hide (G9.out.but hbut5 (Ne.symm h89))
  have EB := hide (B3.out.trans (hbut5.below hw8))
  clear hg5 hbut5
  go_wp2_with (refine step_storeA wD rfl rfl rfl E9.out (by rw [u8s_length, zer_length]) (One.u8 _) rfl ?_; intro w6 hg6 hbut6)
  refine bodyPost_ret (results_wwt rfl wD wD _ _ rfl rfl (E8.out.but hbut6 h89) hg6 (by rw [u8s_length, zer_length]) (by rw [u8s_length, zer_length])) rfl ⟨rfl, ?_⟩
  exact EB.out.trans (hbut6.below hw9)
set_option maxRecDepth 100000 in
set_option maxHeartbeats 1000000 in
theorem rootsR7_len (d : List Int) (m n : Nat) (a : Option Addr) (l cap : Nat) (w : World) (h0 : 1 ≤ m) (h1 : m ≤ n) (h2 : n ≤ 281474976710656) (hl : l ≠ (hvM m 0 n).length + ptM m 0 n) :
    Calls Tryd.prog 78 #[.agg (u8s d).toArray, .int .i64 (m : Int), .int .i64 (n : Int), .slice a l cap] w fun r w' => r = .returned (.tuple #[.agg (u8s (zer 32)).toArray, .agg (u8s (zer 32)).toArray, .int .i64 70]) ∧ Below w.heap.size w w' := by
  have H := hide (fun v => stepsR_ok m n v h0 h1 h2)
  have hl' : ((l : Int) != (((hvM m 0 n).length + ptM m 0 n : Nat) : Int)) = true := by simp; omega
  generalize (hvM m 0 n).length + ptM m 0 n = L at *
  clear hl
  go_enter Tryd.func78, Tryd.ntmps78
  go_wp2_with (refine step_box rfl rfl ?_)
  intro w1 g4 hr1 hl1 hb1
  have G4 := hide hr1
  clear hr1
  go_wp2_with (refine step_alloc zD rfl ?_)
  intro w2 g8 hr2 hl2 hb2
  have G8 := hide hr2
  have G42 := hide (G4.out.on hb2)
  have B2 := hide (hb1.trans (hb2.mono hb1.size))
  have hw8 : w.heap.size ≤ g8 := Nat.le_trans hb1.size hl2
  clear hr2 hb1 hb2 G4
  go_wp2_with (refine step_alloc zD rfl ?_)
  intro w3 g9 hr3 hl3 hb3
  have G9 := hide hr3
  have G83 := hide (G8.out.on hb3)
  have G43 := hide (G42.out.on hb3)
  have h89 : g8 ≠ g9 := by have := G8.out.lt; omega
  have hw9 : w.heap.size ≤ g9 := Nat.le_trans B2.out.size hl3
  have B3 := hide (on_below B2.out hb3)
  clear hr3 hb3 G8 G42 B2
  go_wp2_with fail
  refine (H.out _).mono ?_
  rintro r w4 ⟨rfl, rfl⟩
  go_wp2_with (first | (refine step_buildD rfl ?_) | (refine step_storeA wD rfl rfl rfl G83.out (by rw [u8s_length, zer_length]) (One.u8 _) rfl ?_))
  intro w5 hg5 hbut5
  have E8 := hide hg5
  have E9 := hide (G9.out.but hbut5 (Ne.symm h89))
  have EB := hide (B3.out.trans (hbut5.below hw8))
  clear hg5 hbut5
  go_wp2_with (refine step_storeA wD rfl rfl rfl E9.out (by rw [u8s_length, zer_length]) (One.u8 _) rfl ?_; intro w6 hg6 hbut6)
  refine bodyPost_ret (results_wwt rfl wD wD _ _ rfl rfl (E8.out.but hbut6 h89) hg6 (by rw [u8s_length, zer_length]) (by rw [u8s_length, zer_length])) rfl ⟨rfl, ?_⟩
  exact EB.out.trans (hbut6.below hw9)
set_option maxRecDepth 100000 in
set_option maxHeartbeats 2000000 in
theorem rootsR7_ok (d : List Int) (m n : Nat) (a : Option Addr) (l cap : Nat) (xs : List Int) (w : World) (h0 : 1 ≤ m) (h1 : m ≤ n) (h2 : n ≤ 281474976710656) (hl : l = (hvM m 0 n).length + ptM m 0 n) (hd : d.length = 32) (hdb : isB d) (hs : Ds w a l cap xs) :
    Calls Tryd.prog 78 #[.agg (u8s d).toArray, .int .i64 (m : Int), .int .i64 (n : Int), .slice a l cap] w fun r w' => r = .returned (.tuple #[.agg (u8s (fo (hvM m 0 n) (xs.drop (32 * ptM m 0 n)) (st0 (ptM m 0 n) d xs) (hvM m 0 n).length)).toArray, .agg (u8s (fu (hvM m 0 n) (xs.drop (32 * ptM m 0 n)) (st0 (ptM m 0 n) d xs) (hvM m 0 n).length)).toArray, .int .i64 0]) ∧ Below w.heap.size w w' := by
  have H := hide (fun v => stepsR_ok m n v h0 h1 h2)
  rw [← hl] at H
  have HU : Hid (∀ v : World, Ds v a l cap xs → Calls Tryd.prog 97 #[.agg (u8s d).toArray, .int .i64 (m : Int), .int .i64 (n : Int), .slice a l cap, .bool true] v fun r w' => r = .returned (.tuple #[.agg (u8s (fo (hvM m 0 n) (xs.drop (32 * ptM m 0 n)) (st0 (ptM m 0 n) d xs) (hvM m 0 n).length)).toArray, .agg (u8s (fu (hvM m 0 n) (xs.drop (32 * ptM m 0 n)) (st0 (ptM m 0 n) d xs) (hvM m 0 n).length)).toArray]) ∧ Below v.heap.size v w') := hide fun v hv => by
    have := twoR_any d m h0 hd hdb n 0 n l true a cap xs v (Nat.le_refl _) (by omega) (by omega) (by omega) (by decide) hl hv
    rwa [show (m : Int) - ((0 : Nat) : Int) = (m : Int) by omega] at this
  have HS := hide hs
  have HLL := hide (show (u8s d).length = 32 by rw [u8s_length, hd])
  have hTl : ptM m 0 n ≤ l := by omega
  have HXL := hide (fo_length (hs := hvM m 0 n) (xs := xs.drop (32 * ptM m 0 n)) (st0_length (t := ptM m 0 n) hd hs.hlen hTl) (hvM m 0 n).length)
  have HYL := hide (fu_length (hs := hvM m 0 n) (xs := xs.drop (32 * ptM m 0 n)) (st0_length (t := ptM m 0 n) hd hs.hlen hTl) (hvM m 0 n).length)
  generalize fo (hvM m 0 n) (xs.drop (32 * ptM m 0 n)) (st0 (ptM m 0 n) d xs) (hvM m 0 n).length = X at *
  generalize fu (hvM m 0 n) (xs.drop (32 * ptM m 0 n)) (st0 (ptM m 0 n) d xs) (hvM m 0 n).length = Y at *
  have HXU := hide (show (u8s X).length = 32 by rw [u8s_length, HXL.out])
  have HYU := hide (show (u8s Y).length = 32 by rw [u8s_length, HYL.out])
  clear hl hs hTl
  go_enter Tryd.func78, Tryd.ntmps78
  go_wp2_with (refine step_box rfl rfl ?_)
  intro w1 g4 hr1 hl1 hb1
  have G4 := hide hr1
  clear hr1
  go_wp2_with (refine step_alloc zD rfl ?_)
  intro w2 g8 hr2 hl2 hb2
  have G8 := hide hr2
  have G42 := hide (G4.out.on hb2)
  have B2 := hide (hb1.trans (hb2.mono hb1.size))
  have hw8 : w.heap.size ≤ g8 := Nat.le_trans hb1.size hl2
  clear hr2 hb1 hb2 G4
  go_wp2_with (refine step_alloc zD rfl ?_)
  intro w3 g9 hr3 hl3 hb3
  have G9 := hide hr3
  have G83 := hide (G8.out.on hb3)
  have G43 := hide (G42.out.on hb3)
  have h89 : g8 ≠ g9 := by have := G8.out.lt; omega
  have hw9 : w.heap.size ≤ g9 := Nat.le_trans B2.out.size hl3
  have B3 := hide (on_below B2.out hb3)
  clear hr3 hb3 G8 G42 B2
  go_wp2_with fail
  refine (H.out _).mono ?_
  rintro r w4 ⟨rfl, rfl⟩
  go_wp2_with (refine step_loadA wD rfl rfl G43.out HLL.out ?_)
  refine (HU.out _ (HS.out.below B3.out)).mono ?_
  rintro r w6 ⟨rfl, hb6⟩
  have Q8 := hide (G83.out.on hb6)
  have Q9 := hide (G9.out.on hb6)
  have QB := hide (on_below B3.out hb6)
  clear hb6 G83 G9 G43 B3
  go_wp2_with (refine step_alloc zD rfl ?_)
  intro w7 g13 hr7 hl7 hb7
  have G13 := hide hr7
  clear hr7
  go_wp2_with (refine step_alloc zD rfl ?_)
  intro w8 g14 hr8 hl8 hb8
  have h1314 : g13 ≠ g14 := by have := G13.out.lt; omega
  have G14 := hide hr8
  have G138 := hide (G13.out.on hb8)
  have X8 := hide (on_below hb7 hb8)
  have hl68 : w6.heap.size ≤ g14 := Nat.le_trans hb7.size hl8
  clear hr8 G13 hb7 hb8
  go_wp2_with (refine step_storeA wD rfl rfl rfl G138.out HXU.out (One.u8 _) rfl ?_)
  intro w9 hg9 hbut9
  have G139 := hide hg9
  have G149 := hide (G14.out.but hbut9 h1314.symm)
  have X9 := hide (X8.out.trans (hbut9.below hl7))
  clear hg9 hbut9 G138 G14 X8
  go_wp2_with (refine step_storeA wD rfl rfl rfl G149.out HYU.out (One.u8 _) rfl ?_)
  intro z0 hg0 hbut0
  have X0 := hide (X9.out.trans (hbut0.below hl68))
  have h8a : g8 ≠ g13 := by have := Q8.out.lt; omega
  have h8b : g8 ≠ g14 := by have := Q8.out.lt; omega
  have h9a : g9 ≠ g13 := by have := Q9.out.lt; omega
  have h9b : g9 ≠ g14 := by have := Q9.out.lt; omega
  have T13 := hide ((G139.out.but hbut0 h1314).on ((Below.refl _ _).drew))
  have T14 := hide ((show Blk z0 g14 45 (u8s Y) from hg0).on ((Below.refl _ _).drew))
  have T8 := hide ((Q8.out.on X0.out).on ((Below.refl _ _).drew))
  have T9 := hide ((Q9.out.on X0.out).on ((Below.refl _ _).drew))
  have TB := hide ((on_below QB.out X0.out).drew)
  clear hg0 hbut0 G139 G149 X9 X0 Q8 Q9 QB hl7 hl8 hl68
  have hu := aD.und
  have HI1 : Hid ((Tryd.prog.info? 45).map (·.size) = some (u8s X).length) := hide (by rw [wD.size, HXU.out])
  have HI2 : Hid ((Tryd.prog.info? 45).map (·.size) = some (u8s Y).length) := hide (by rw [wD.size, HYU.out])
  have hS : ∀ v : World, Blk v g13 45 (u8s X) → Blk v g14 45 (u8s Y) → v.rangeAt g13 0 (u8s X) ∧ v.rangeAt g14 0 (u8s Y) := fun v h1 h2 => ⟨h1.range 0 _ (by simp), h2.range 0 _ (by simp)⟩
  go_wp2_with fail
  refine wp_region_noPanic ?_
  refine wp_region_held_drew (S := fun v : World => v.rangeAt g13 0 (u8s X) ∧ v.rangeAt g14 0 (u8s Y)) (by kernel_rfl) (hS _ T13.out T14.out) (fun hHeld => ?_)
  refine takeH 0 40 (.agg (u8s X).toArray) hHeld rfl rfl (by kernel_rfl) (by kernel_rfl) (by kernel_rfl) (fun _ _ _ h => h) (yieldsIf_load_mid (by rfl) _ _ rfl g13 0 rfl _ _ (fun w h => h.1) hu rfl HI1.out) ?_
  simp only [Act.put, List.setIfInBounds_toArray, List.set_cons_zero, List.set_cons_succ]
  refine takeH 1 41 (.agg (u8s Y).toArray) hHeld rfl rfl (by kernel_rfl) (by kernel_rfl) (by kernel_rfl) (fun _ _ _ h => h) (yieldsIf_load_mid (by rfl) _ _ rfl g14 0 rfl _ _ (fun w h => h.2) hu rfl HI2.out) ?_
  simp only [Act.put, List.setIfInBounds_toArray, List.set_cons_zero, List.set_cons_succ]
  refine wpAnyH_ready (rs := [2]) (by kernel_rfl) (by simp) (AllReadyH.cons rfl (fun K hK => ?_) AllReadyH.nil)
  rw [if_pos (by rfl)]
  refine wp_storeW wD rfl rfl rfl T8.out HXU.out (One.u8 _) (by rw [u8s_length, zer_length]; omega) ?_
  intro u1 hg1 hbut1
  rw [spl_same _ _ (zer_length 32) HXL.out] at hg1
  have T131 := hide (T13.out.but hbut1 h8a.symm)
  have T141 := hide (T14.out.but hbut1 h8b.symm)
  have T91 := hide (T9.out.but hbut1 h89.symm)
  refine hK.out _ _ (hS _ T131.out T141.out) (fun hHeld => ?_)
  clear hK K
  simp only [Act.put]
  refine wpAnyH_ready (rs := [3]) (by kernel_rfl) (by simp) (AllReadyH.cons rfl (fun K hK => ?_) AllReadyH.nil)
  rw [if_pos (by rfl)]
  refine wp_storeW wD rfl rfl rfl T91.out HYU.out (One.u8 _) (by rw [u8s_length, zer_length]; omega) ?_
  intro u2 hg2 hbut2
  rw [spl_same _ _ (zer_length 32) HYL.out] at hg2
  refine hK.out _ _ (hS _ (T131.out.but hbut2 h9a.symm) (T141.out.but hbut2 h9b.symm)) (fun hHeld => ?_)
  clear hK K
  simp only [Act.put]
  refine takeH 4 10 (.int .i64 0) hHeld rfl rfl (by kernel_rfl) (by kernel_rfl) (by kernel_rfl) (fun _ _ _ h => h) (Or.inl ⟨by rfl, fun w _ => by go_simp⟩) ?_
  simp only [Act.put, List.setIfInBounds_toArray]
  refine wpAnyH_done (by kernel_rfl) ?_ _
  refine NoPanic.normal ?_
  clear hHeld hS hu
  go_wp2
  refine bodyPost_ret (results_wwt rfl wD wD _ _ rfl rfl (hg1.but hbut2 h89) hg2 HXU.out HYU.out) rfl ⟨rfl, (TB.out.trans (hbut1.below hw8)).trans (hbut2.below hw9)⟩

/-- What Roots tells, program and document. -/
structure RT (d : List Int) (m n : Int) (l : Nat) (xs X Y : List Int) (E : Int) : Prop where
  lx : X.length = 32
  bx : isB X
  ly : Y.length = 32
  by' : isB Y
  prog : ∀ (a : Option Addr) (cap : Nat) (w : World), Ds w a l cap xs → KT w → Calls Tryd.prog 77 #[.agg (u8s d).toArray, .int .i64 m, .int .i64 n, .slice a l cap] w fun r w' => r = .returned (.tuple #[.agg (u8s X).toArray, .agg (u8s Y).toArray, .int .i64 E]) ∧ Below w.heap.size w w'
  doc : ∀ (a : Option Addr) (cap : Nat) (w : World), Ds w a l cap xs → Calls Tryd.prog 78 #[.agg (u8s d).toArray, .int .i64 m, .int .i64 n, .slice a l cap] w fun r w' => r = .returned (.tuple #[.agg (u8s X).toArray, .agg (u8s Y).toArray, .int .i64 E]) ∧ Below w.heap.size w w'
theorem roots_both (d : List Int) (m n : Int) (l : Nat) (xs : List Int) (hd : d.length = 32) (hdb : isB d) (hx : xs.length = 32 * l) (hxb : isB xs) : ∃ X Y E, RT d m n l xs X Y E := by
  by_cases h : m < 1 ∨ n < m ∨ 281474976710656 < n
  · exact ⟨zer 32, zer 32, 40, zer_length 32, zer_isB32, zer_length 32, zer_isB32, fun a cap w _ _ => roots7_bad d m n _ w h, fun a cap w _ => rootsR7_bad d m n _ w h⟩
  · obtain ⟨m', rfl⟩ : ∃ i' : Nat, m = (i' : Int) := ⟨m.toNat, by omega⟩
    obtain ⟨n', rfl⟩ : ∃ n' : Nat, n = (n' : Int) := ⟨n.toNat, by omega⟩
    by_cases hl : l = (hvM m' 0 n').length + ptM m' 0 n'
    · have h1 := st0_length (t := ptM m' 0 n') hd hx (by omega)
      have h2 := st0_isB (t := ptM m' 0 n') hdb hxb
      exact ⟨_, _, 0, fo_length h1 _, fo_isB h2 _, fu_length h1 _, fu_isB h2 _, fun a cap w hs hk => roots7_ok d m' n' a l cap xs w (by omega) (by omega) (by omega) hl hd hdb hs hk, fun a cap w hs => rootsR7_ok d m' n' a l cap xs w (by omega) (by omega) (by omega) hl hd hdb hs⟩
    · exact ⟨zer 32, zer 32, 70, zer_length 32, zer_isB32, zer_length 32, zer_isB32, fun a cap w _ _ => roots7_len d m' n' a l cap w (by omega) (by omega) (by omega) hl, fun a cap w _ => rootsR7_len d m' n' a l cap w (by omega) (by omega) (by omega) hl⟩

end Go.Proofs.YtojepbapdjkknaaDoor

/-
  Consistency of both.
-/
namespace Go.Proofs.YtojepbapdjkknaaDoor
open Go.RowKit
set_option linter.unusedVariables false

/-- What Consistency tells. -/
def csR (X Y o n : List Int) (E : Int) : Int := if E = 0 then (if X = o ∧ Y = n then 0 else 71) else E
set_option maxRecDepth 100000 in
set_option maxHeartbeats 2000000 in
theorem cons7_any (o nw : List Int) (m n : Int) (a : Option Addr) (l cap : Nat) (xs X Y : List Int) (E : Int) (w : World) (hB : RT o m n l xs X Y E) (hol : o.length = 32) (hnl : nw.length = 32) (hs : Ds w a l cap xs) (hk : KT w) :
    Calls Tryd.prog 49 #[.int .i64 m, .int .i64 n, .agg (u8s o).toArray, .agg (u8s nw).toArray, .slice a l cap] w fun r w' => r = .returned (.int .i64 (csR X Y o nw E)) ∧ Below w.heap.size w w' := by
  have HK := hide hk
  have HB := hide hB
  have HS := hide hs
  have HXL := hide hB.lx
  have HYL := hide hB.ly
  have HOL := hide hol
  have HNL := hide hnl
  have HXU := hide (show (u8s X).length = 32 by rw [u8s_length, hB.lx])
  have HYU := hide (show (u8s Y).length = 32 by rw [u8s_length, hB.ly])
  have HOU := hide (show (u8s o).length = 32 by rw [u8s_length, hol])
  have HNU := hide (show (u8s nw).length = 32 by rw [u8s_length, hnl])
  clear hk hs hol hnl hB
  by_cases hE : E = 0
  · subst hE
    by_cases h1 : X = o
    · have HX : Hid ((!decide (X = o)) = false) := hide (by simp [h1])
      by_cases h2 : Y = nw
      · have HY : Hid ((!decide (Y = nw)) = false) := hide (by simp [h2])
        rw [show csR X Y o nw 0 = 0 by unfold csR; rw [if_pos rfl, if_pos ⟨h1, h2⟩]]
        clear h1 h2
        go_enter Tryd.func49, Tryd.ntmps49
        go_wp2_with (refine step_box rfl rfl ?_)
        intro w1 g7 hr1 hl1 hb1
        have G7 := hide hr1
        clear hr1
        go_wp2_with (refine step_box rfl rfl ?_)
        intro w2 g8 hr2 hl2 hb2
        have G8 := hide hr2
        have G72 := hide (G7.out.on hb2)
        have B2 := hide (on_below hb1 hb2)
        clear hr2 hb1 hb2 G7
        go_wp2_with (refine step_loadA wD rfl rfl G72.out HOU.out ?_)
        refine (HB.out.prog a cap _ (HS.out.below B2.out) (HK.out.below B2.out HK.out.lt)).mono ?_
        rintro r w3 ⟨rfl, hb3⟩
        have G83 := hide (G8.out.on hb3)
        have G73 := hide (G72.out.on hb3)
        have B3 := hide (on_below B2.out hb3)
        clear hb3 G72 G8 B2
        go_wp2_with (refine step_alloc zD rfl ?_)
        intro w4 g11 hr4 hl4 hb4
        have G11 := hide hr4
        clear hr4
        go_wp2_with (refine step_alloc zD rfl ?_)
        intro w5 g12 hr5 hl5 hb5
        have h1112 : g11 ≠ g12 := by have := G11.out.lt; omega
        have G12 := hide hr5
        have G115 := hide (G11.out.on hb5)
        have X5 := hide (on_below hb4 hb5)
        have hl35 : w3.heap.size ≤ g12 := Nat.le_trans hb4.size hl5
        clear hr5 hb4 hb5 G11
        go_wp2_with (refine step_storeA wD rfl rfl rfl G115.out HXU.out (One.u8 _) rfl ?_)
        intro w6 hg6 hbut6
        have G116 := hide hg6
        have G126 := hide (G12.out.but hbut6 h1112.symm)
        have X6 := hide (X5.out.trans (hbut6.below hl4))
        clear hg6 hbut6 G115 G12 X5
        go_wp2_with (refine step_storeA wD rfl rfl rfl G126.out HYU.out (One.u8 _) rfl ?_)
        intro w9 hg9 hbut9
        have X9 := hide (X6.out.trans (hbut9.below hl35))
        have GX := hide (G116.out.but hbut9 h1112)
        have GY := hide hg9
        have GO := hide (G73.out.on X9.out)
        have GN := hide (G83.out.on X9.out)
        have B9 := hide (on_below B3.out X9.out)
        clear hg9 hbut9 X9 X6 G116 G126 G73 G83 B3
        go_wp2_with (first | (refine step_loadA wD rfl rfl GX.out HXU.out ?_) | (refine step_loadA wD rfl rfl GO.out HOU.out ?_) | (refine step_loadA wD rfl rfl GY.out HYU.out ?_) | (refine step_loadA wD rfl rfl GN.out HNU.out ?_) | (refine step_neQ aD _ HX.out rfl rfl rfl HXL.out HOL.out ?_) | (refine step_neQ aD _ HY.out rfl rfl rfl HYL.out HNL.out ?_))
        go_ret
        exact ⟨rfl, B9.out⟩
      · have HY : Hid ((!decide (Y = nw)) = true) := hide (by simp [h2])
        rw [show csR X Y o nw 0 = 71 by unfold csR; rw [if_pos rfl, if_neg (fun h => h2 h.2)]]
        clear h1 h2
        go_enter Tryd.func49, Tryd.ntmps49
        go_wp2_with (refine step_box rfl rfl ?_)
        intro w1 g7 hr1 hl1 hb1
        have G7 := hide hr1
        clear hr1
        go_wp2_with (refine step_box rfl rfl ?_)
        intro w2 g8 hr2 hl2 hb2
        have G8 := hide hr2
        have G72 := hide (G7.out.on hb2)
        have B2 := hide (on_below hb1 hb2)
        clear hr2 hb1 hb2 G7
        go_wp2_with (refine step_loadA wD rfl rfl G72.out HOU.out ?_)
        refine (HB.out.prog a cap _ (HS.out.below B2.out) (HK.out.below B2.out HK.out.lt)).mono ?_
        rintro r w3 ⟨rfl, hb3⟩
        have G83 := hide (G8.out.on hb3)
        have G73 := hide (G72.out.on hb3)
        have B3 := hide (on_below B2.out hb3)
        clear hb3 G72 G8 B2
        go_wp2_with (refine step_alloc zD rfl ?_)
        intro w4 g11 hr4 hl4 hb4
        have G11 := hide hr4
        clear hr4
        go_wp2_with (refine step_alloc zD rfl ?_)
        intro w5 g12 hr5 hl5 hb5
        have h1112 : g11 ≠ g12 := by have := G11.out.lt; omega
        have G12 := hide hr5
        have G115 := hide (G11.out.on hb5)
        have X5 := hide (on_below hb4 hb5)
        have hl35 : w3.heap.size ≤ g12 := Nat.le_trans hb4.size hl5
        clear hr5 hb4 hb5 G11
        go_wp2_with (refine step_storeA wD rfl rfl rfl G115.out HXU.out (One.u8 _) rfl ?_)
        intro w6 hg6 hbut6
        have G116 := hide hg6
        have G126 := hide (G12.out.but hbut6 h1112.symm)
        have X6 := hide (X5.out.trans (hbut6.below hl4))
        clear hg6 hbut6 G115 G12 X5
        go_wp2_with (refine step_storeA wD rfl rfl rfl G126.out HYU.out (One.u8 _) rfl ?_)
        intro w9 hg9 hbut9
        have X9 := hide (X6.out.trans (hbut9.below hl35))
        have GX := hide (G116.out.but hbut9 h1112)
        have GY := hide hg9
        have GO := hide (G73.out.on X9.out)
        have GN := hide (G83.out.on X9.out)
        have B9 := hide (on_below B3.out X9.out)
        clear hg9 hbut9 X9 X6 G116 G126 G73 G83 B3
        go_wp2_with (first | (refine step_loadA wD rfl rfl GX.out HXU.out ?_) | (refine step_loadA wD rfl rfl GO.out HOU.out ?_) | (refine step_loadA wD rfl rfl GY.out HYU.out ?_) | (refine step_loadA wD rfl rfl GN.out HNU.out ?_) | (refine step_neQ aD _ HX.out rfl rfl rfl HXL.out HOL.out ?_) | (refine step_neQ aD _ HY.out rfl rfl rfl HYL.out HNL.out ?_))
        go_ret
        exact ⟨rfl, B9.out⟩
    · have HX : Hid ((!decide (X = o)) = true) := hide (by simp [h1])
      have HY : Hid ((!decide (Y = nw)) = !decide (Y = nw)) := hide rfl
      rw [show csR X Y o nw 0 = 71 by unfold csR; rw [if_pos rfl, if_neg (fun h => h1 h.1)]]
      clear h1
      go_enter Tryd.func49, Tryd.ntmps49
      go_wp2_with (refine step_box rfl rfl ?_)
      intro w1 g7 hr1 hl1 hb1
      have G7 := hide hr1
      clear hr1
      go_wp2_with (refine step_box rfl rfl ?_)
      intro w2 g8 hr2 hl2 hb2
      have G8 := hide hr2
      have G72 := hide (G7.out.on hb2)
      have B2 := hide (on_below hb1 hb2)
      clear hr2 hb1 hb2 G7
      go_wp2_with (refine step_loadA wD rfl rfl G72.out HOU.out ?_)
      refine (HB.out.prog a cap _ (HS.out.below B2.out) (HK.out.below B2.out HK.out.lt)).mono ?_
      rintro r w3 ⟨rfl, hb3⟩
      have G83 := hide (G8.out.on hb3)
      have G73 := hide (G72.out.on hb3)
      have B3 := hide (on_below B2.out hb3)
      clear hb3 G72 G8 B2
      go_wp2_with (refine step_alloc zD rfl ?_)
      intro w4 g11 hr4 hl4 hb4
      have G11 := hide hr4
      clear hr4
      go_wp2_with (refine step_alloc zD rfl ?_)
      intro w5 g12 hr5 hl5 hb5
      have h1112 : g11 ≠ g12 := by have := G11.out.lt; omega
      have G12 := hide hr5
      have G115 := hide (G11.out.on hb5)
      have X5 := hide (on_below hb4 hb5)
      have hl35 : w3.heap.size ≤ g12 := Nat.le_trans hb4.size hl5
      clear hr5 hb4 hb5 G11
      go_wp2_with (refine step_storeA wD rfl rfl rfl G115.out HXU.out (One.u8 _) rfl ?_)
      intro w6 hg6 hbut6
      have G116 := hide hg6
      have G126 := hide (G12.out.but hbut6 h1112.symm)
      have X6 := hide (X5.out.trans (hbut6.below hl4))
      clear hg6 hbut6 G115 G12 X5
      go_wp2_with (refine step_storeA wD rfl rfl rfl G126.out HYU.out (One.u8 _) rfl ?_)
      intro w9 hg9 hbut9
      have X9 := hide (X6.out.trans (hbut9.below hl35))
      have GX := hide (G116.out.but hbut9 h1112)
      have GY := hide hg9
      have GO := hide (G73.out.on X9.out)
      have GN := hide (G83.out.on X9.out)
      have B9 := hide (on_below B3.out X9.out)
      clear hg9 hbut9 X9 X6 G116 G126 G73 G83 B3
      go_wp2_with (first | (refine step_loadA wD rfl rfl GX.out HXU.out ?_) | (refine step_loadA wD rfl rfl GO.out HOU.out ?_) | (refine step_loadA wD rfl rfl GY.out HYU.out ?_) | (refine step_loadA wD rfl rfl GN.out HNU.out ?_) | (refine step_neQ aD _ HX.out rfl rfl rfl HXL.out HOL.out ?_) | (refine step_neQ aD _ HY.out rfl rfl rfl HYL.out HNL.out ?_))
      go_ret
      exact ⟨rfl, B9.out⟩
  · rw [show csR X Y o nw E = E by unfold csR; rw [if_neg hE]]
    have hE1 : (E != 0) = true := by simp [hE]
    have hE2 : (E == 0) = false := by simp [hE]
    go_enter Tryd.func49, Tryd.ntmps49
    go_wp2_with (refine step_box rfl rfl ?_)
    intro w1 g7 hr1 hl1 hb1
    have G7 := hide hr1
    clear hr1
    go_wp2_with (refine step_box rfl rfl ?_)
    intro w2 g8 hr2 hl2 hb2
    have G8 := hide hr2
    have G72 := hide (G7.out.on hb2)
    have B2 := hide (on_below hb1 hb2)
    clear hr2 hb1 hb2 G7
    go_wp2_with (refine step_loadA wD rfl rfl G72.out HOU.out ?_)
    refine (HB.out.prog a cap _ (HS.out.below B2.out) (HK.out.below B2.out HK.out.lt)).mono ?_
    rintro r w3 ⟨rfl, hb3⟩
    have G83 := hide (G8.out.on hb3)
    have G73 := hide (G72.out.on hb3)
    have B3 := hide (on_below B2.out hb3)
    clear hb3 G72 G8 B2
    go_wp2_with (refine step_alloc zD rfl ?_)
    intro w4 g11 hr4 hl4 hb4
    have G11 := hide hr4
    clear hr4
    go_wp2_with (refine step_alloc zD rfl ?_)
    intro w5 g12 hr5 hl5 hb5
    have h1112 : g11 ≠ g12 := by have := G11.out.lt; omega
    have G12 := hide hr5
    have G115 := hide (G11.out.on hb5)
    have X5 := hide (on_below hb4 hb5)
    have hl35 : w3.heap.size ≤ g12 := Nat.le_trans hb4.size hl5
    clear hr5 hb4 hb5 G11
    go_wp2_with (refine step_storeA wD rfl rfl rfl G115.out HXU.out (One.u8 _) rfl ?_)
    intro w6 hg6 hbut6
    have G116 := hide hg6
    have G126 := hide (G12.out.but hbut6 h1112.symm)
    have X6 := hide (X5.out.trans (hbut6.below hl4))
    clear hg6 hbut6 G115 G12 X5
    go_wp2_with (refine step_storeA wD rfl rfl rfl G126.out HYU.out (One.u8 _) rfl ?_)
    intro w9 hg9 hbut9
    have X9 := hide (X6.out.trans (hbut9.below hl35))
    have GX := hide (G116.out.but hbut9 h1112)
    have GY := hide hg9
    have GO := hide (G73.out.on X9.out)
    have GN := hide (G83.out.on X9.out)
    have B9 := hide (on_below B3.out X9.out)
    clear hg9 hbut9 X9 X6 G116 G126 G73 G83 B3
    go_wp2
    go_ret
    exact ⟨rfl, B9.out⟩
set_option maxRecDepth 100000 in
set_option maxHeartbeats 2000000 in
theorem consR7_any (o nw : List Int) (m n : Int) (a : Option Addr) (l cap : Nat) (xs X Y : List Int) (E : Int) (w : World) (hB : RT o m n l xs X Y E) (hol : o.length = 32) (hnl : nw.length = 32) (hs : Ds w a l cap xs) :
    Calls Tryd.prog 50 #[.int .i64 m, .int .i64 n, .agg (u8s o).toArray, .agg (u8s nw).toArray, .slice a l cap] w fun r w' => r = .returned (.int .i64 (csR X Y o nw E)) ∧ Below w.heap.size w w' := by
  have HB := hide hB
  have HS := hide hs
  have HXL := hide hB.lx
  have HYL := hide hB.ly
  have HOL := hide hol
  have HNL := hide hnl
  have HXU := hide (show (u8s X).length = 32 by rw [u8s_length, hB.lx])
  have HYU := hide (show (u8s Y).length = 32 by rw [u8s_length, hB.ly])
  have HOU := hide (show (u8s o).length = 32 by rw [u8s_length, hol])
  have HNU := hide (show (u8s nw).length = 32 by rw [u8s_length, hnl])
  clear hs hol hnl hB
  by_cases hE : E = 0
  · subst hE
    by_cases h1 : X = o
    · have HX : Hid ((!decide (X = o)) = false) := hide (by simp [h1])
      by_cases h2 : Y = nw
      · have HY : Hid ((!decide (Y = nw)) = false) := hide (by simp [h2])
        rw [show csR X Y o nw 0 = 0 by unfold csR; rw [if_pos rfl, if_pos ⟨h1, h2⟩]]
        clear h1 h2
        go_enter Tryd.func50, Tryd.ntmps50
        go_wp2_with (refine step_box rfl rfl ?_)
        intro w1 g7 hr1 hl1 hb1
        have G7 := hide hr1
        clear hr1
        go_wp2_with (refine step_box rfl rfl ?_)
        intro w2 g8 hr2 hl2 hb2
        have G8 := hide hr2
        have G72 := hide (G7.out.on hb2)
        have B2 := hide (on_below hb1 hb2)
        clear hr2 hb1 hb2 G7
        go_wp2_with (refine step_loadA wD rfl rfl G72.out HOU.out ?_)
        refine (HB.out.doc a cap _ (HS.out.below B2.out)).mono ?_
        rintro r w3 ⟨rfl, hb3⟩
        have G83 := hide (G8.out.on hb3)
        have G73 := hide (G72.out.on hb3)
        have B3 := hide (on_below B2.out hb3)
        clear hb3 G72 G8 B2
        go_wp2_with (refine step_alloc zD rfl ?_)
        intro w4 g11 hr4 hl4 hb4
        have G11 := hide hr4
        clear hr4
        go_wp2_with (refine step_alloc zD rfl ?_)
        intro w5 g12 hr5 hl5 hb5
        have h1112 : g11 ≠ g12 := by have := G11.out.lt; omega
        have G12 := hide hr5
        have G115 := hide (G11.out.on hb5)
        have X5 := hide (on_below hb4 hb5)
        have hl35 : w3.heap.size ≤ g12 := Nat.le_trans hb4.size hl5
        clear hr5 hb4 hb5 G11
        go_wp2_with (refine step_storeA wD rfl rfl rfl G115.out HXU.out (One.u8 _) rfl ?_)
        intro w6 hg6 hbut6
        have G116 := hide hg6
        have G126 := hide (G12.out.but hbut6 h1112.symm)
        have X6 := hide (X5.out.trans (hbut6.below hl4))
        clear hg6 hbut6 G115 G12 X5
        go_wp2_with (refine step_storeA wD rfl rfl rfl G126.out HYU.out (One.u8 _) rfl ?_)
        intro w9 hg9 hbut9
        have X9 := hide (X6.out.trans (hbut9.below hl35))
        have GX := hide (G116.out.but hbut9 h1112)
        have GY := hide hg9
        have GO := hide (G73.out.on X9.out)
        have GN := hide (G83.out.on X9.out)
        have B9 := hide (on_below B3.out X9.out)
        clear hg9 hbut9 X9 X6 G116 G126 G73 G83 B3
        go_wp2_with (first | (refine step_loadA wD rfl rfl GX.out HXU.out ?_) | (refine step_loadA wD rfl rfl GO.out HOU.out ?_) | (refine step_loadA wD rfl rfl GY.out HYU.out ?_) | (refine step_loadA wD rfl rfl GN.out HNU.out ?_) | (refine step_neQ aD _ HX.out rfl rfl rfl HXL.out HOL.out ?_) | (refine step_neQ aD _ HY.out rfl rfl rfl HYL.out HNL.out ?_))
        go_ret
        exact ⟨rfl, B9.out⟩
      · have HY : Hid ((!decide (Y = nw)) = true) := hide (by simp [h2])
        rw [show csR X Y o nw 0 = 71 by unfold csR; rw [if_pos rfl, if_neg (fun h => h2 h.2)]]
        clear h1 h2
        go_enter Tryd.func50, Tryd.ntmps50
        go_wp2_with (refine step_box rfl rfl ?_)
        intro w1 g7 hr1 hl1 hb1
        have G7 := hide hr1
        clear hr1
        go_wp2_with (refine step_box rfl rfl ?_)
        intro w2 g8 hr2 hl2 hb2
        have G8 := hide hr2
        have G72 := hide (G7.out.on hb2)
        have B2 := hide (on_below hb1 hb2)
        clear hr2 hb1 hb2 G7
        go_wp2_with (refine step_loadA wD rfl rfl G72.out HOU.out ?_)
        refine (HB.out.doc a cap _ (HS.out.below B2.out)).mono ?_
        rintro r w3 ⟨rfl, hb3⟩
        have G83 := hide (G8.out.on hb3)
        have G73 := hide (G72.out.on hb3)
        have B3 := hide (on_below B2.out hb3)
        clear hb3 G72 G8 B2
        go_wp2_with (refine step_alloc zD rfl ?_)
        intro w4 g11 hr4 hl4 hb4
        have G11 := hide hr4
        clear hr4
        go_wp2_with (refine step_alloc zD rfl ?_)
        intro w5 g12 hr5 hl5 hb5
        have h1112 : g11 ≠ g12 := by have := G11.out.lt; omega
        have G12 := hide hr5
        have G115 := hide (G11.out.on hb5)
        have X5 := hide (on_below hb4 hb5)
        have hl35 : w3.heap.size ≤ g12 := Nat.le_trans hb4.size hl5
        clear hr5 hb4 hb5 G11
        go_wp2_with (refine step_storeA wD rfl rfl rfl G115.out HXU.out (One.u8 _) rfl ?_)
        intro w6 hg6 hbut6
        have G116 := hide hg6
        have G126 := hide (G12.out.but hbut6 h1112.symm)
        have X6 := hide (X5.out.trans (hbut6.below hl4))
        clear hg6 hbut6 G115 G12 X5
        go_wp2_with (refine step_storeA wD rfl rfl rfl G126.out HYU.out (One.u8 _) rfl ?_)
        intro w9 hg9 hbut9
        have X9 := hide (X6.out.trans (hbut9.below hl35))
        have GX := hide (G116.out.but hbut9 h1112)
        have GY := hide hg9
        have GO := hide (G73.out.on X9.out)
        have GN := hide (G83.out.on X9.out)
        have B9 := hide (on_below B3.out X9.out)
        clear hg9 hbut9 X9 X6 G116 G126 G73 G83 B3
        go_wp2_with (first | (refine step_loadA wD rfl rfl GX.out HXU.out ?_) | (refine step_loadA wD rfl rfl GO.out HOU.out ?_) | (refine step_loadA wD rfl rfl GY.out HYU.out ?_) | (refine step_loadA wD rfl rfl GN.out HNU.out ?_) | (refine step_neQ aD _ HX.out rfl rfl rfl HXL.out HOL.out ?_) | (refine step_neQ aD _ HY.out rfl rfl rfl HYL.out HNL.out ?_))
        go_ret
        exact ⟨rfl, B9.out⟩
    · have HX : Hid ((!decide (X = o)) = true) := hide (by simp [h1])
      have HY : Hid ((!decide (Y = nw)) = !decide (Y = nw)) := hide rfl
      rw [show csR X Y o nw 0 = 71 by unfold csR; rw [if_pos rfl, if_neg (fun h => h1 h.1)]]
      clear h1
      go_enter Tryd.func50, Tryd.ntmps50
      go_wp2_with (refine step_box rfl rfl ?_)
      intro w1 g7 hr1 hl1 hb1
      have G7 := hide hr1
      clear hr1
      go_wp2_with (refine step_box rfl rfl ?_)
      intro w2 g8 hr2 hl2 hb2
      have G8 := hide hr2
      have G72 := hide (G7.out.on hb2)
      have B2 := hide (on_below hb1 hb2)
      clear hr2 hb1 hb2 G7
      go_wp2_with (refine step_loadA wD rfl rfl G72.out HOU.out ?_)
      refine (HB.out.doc a cap _ (HS.out.below B2.out)).mono ?_
      rintro r w3 ⟨rfl, hb3⟩
      have G83 := hide (G8.out.on hb3)
      have G73 := hide (G72.out.on hb3)
      have B3 := hide (on_below B2.out hb3)
      clear hb3 G72 G8 B2
      go_wp2_with (refine step_alloc zD rfl ?_)
      intro w4 g11 hr4 hl4 hb4
      have G11 := hide hr4
      clear hr4
      go_wp2_with (refine step_alloc zD rfl ?_)
      intro w5 g12 hr5 hl5 hb5
      have h1112 : g11 ≠ g12 := by have := G11.out.lt; omega
      have G12 := hide hr5
      have G115 := hide (G11.out.on hb5)
      have X5 := hide (on_below hb4 hb5)
      have hl35 : w3.heap.size ≤ g12 := Nat.le_trans hb4.size hl5
      clear hr5 hb4 hb5 G11
      go_wp2_with (refine step_storeA wD rfl rfl rfl G115.out HXU.out (One.u8 _) rfl ?_)
      intro w6 hg6 hbut6
      have G116 := hide hg6
      have G126 := hide (G12.out.but hbut6 h1112.symm)
      have X6 := hide (X5.out.trans (hbut6.below hl4))
      clear hg6 hbut6 G115 G12 X5
      go_wp2_with (refine step_storeA wD rfl rfl rfl G126.out HYU.out (One.u8 _) rfl ?_)
      intro w9 hg9 hbut9
      have X9 := hide (X6.out.trans (hbut9.below hl35))
      have GX := hide (G116.out.but hbut9 h1112)
      have GY := hide hg9
      have GO := hide (G73.out.on X9.out)
      have GN := hide (G83.out.on X9.out)
      have B9 := hide (on_below B3.out X9.out)
      clear hg9 hbut9 X9 X6 G116 G126 G73 G83 B3
      go_wp2_with (first | (refine step_loadA wD rfl rfl GX.out HXU.out ?_) | (refine step_loadA wD rfl rfl GO.out HOU.out ?_) | (refine step_loadA wD rfl rfl GY.out HYU.out ?_) | (refine step_loadA wD rfl rfl GN.out HNU.out ?_) | (refine step_neQ aD _ HX.out rfl rfl rfl HXL.out HOL.out ?_) | (refine step_neQ aD _ HY.out rfl rfl rfl HYL.out HNL.out ?_))
      go_ret
      exact ⟨rfl, B9.out⟩
  · rw [show csR X Y o nw E = E by unfold csR; rw [if_neg hE]]
    have hE1 : (E != 0) = true := by simp [hE]
    have hE2 : (E == 0) = false := by simp [hE]
    go_enter Tryd.func50, Tryd.ntmps50
    go_wp2_with (refine step_box rfl rfl ?_)
    intro w1 g7 hr1 hl1 hb1
    have G7 := hide hr1
    clear hr1
    go_wp2_with (refine step_box rfl rfl ?_)
    intro w2 g8 hr2 hl2 hb2
    have G8 := hide hr2
    have G72 := hide (G7.out.on hb2)
    have B2 := hide (on_below hb1 hb2)
    clear hr2 hb1 hb2 G7
    go_wp2_with (refine step_loadA wD rfl rfl G72.out HOU.out ?_)
    refine (HB.out.doc a cap _ (HS.out.below B2.out)).mono ?_
    rintro r w3 ⟨rfl, hb3⟩
    have G83 := hide (G8.out.on hb3)
    have G73 := hide (G72.out.on hb3)
    have B3 := hide (on_below B2.out hb3)
    clear hb3 G72 G8 B2
    go_wp2_with (refine step_alloc zD rfl ?_)
    intro w4 g11 hr4 hl4 hb4
    have G11 := hide hr4
    clear hr4
    go_wp2_with (refine step_alloc zD rfl ?_)
    intro w5 g12 hr5 hl5 hb5
    have h1112 : g11 ≠ g12 := by have := G11.out.lt; omega
    have G12 := hide hr5
    have G115 := hide (G11.out.on hb5)
    have X5 := hide (on_below hb4 hb5)
    have hl35 : w3.heap.size ≤ g12 := Nat.le_trans hb4.size hl5
    clear hr5 hb4 hb5 G11
    go_wp2_with (refine step_storeA wD rfl rfl rfl G115.out HXU.out (One.u8 _) rfl ?_)
    intro w6 hg6 hbut6
    have G116 := hide hg6
    have G126 := hide (G12.out.but hbut6 h1112.symm)
    have X6 := hide (X5.out.trans (hbut6.below hl4))
    clear hg6 hbut6 G115 G12 X5
    go_wp2_with (refine step_storeA wD rfl rfl rfl G126.out HYU.out (One.u8 _) rfl ?_)
    intro w9 hg9 hbut9
    have X9 := hide (X6.out.trans (hbut9.below hl35))
    have GX := hide (G116.out.but hbut9 h1112)
    have GY := hide hg9
    have GO := hide (G73.out.on X9.out)
    have GN := hide (G83.out.on X9.out)
    have B9 := hide (on_below B3.out X9.out)
    clear hg9 hbut9 X9 X6 G116 G126 G73 G83 B3
    go_wp2
    go_ret
    exact ⟨rfl, B9.out⟩

end Go.Proofs.YtojepbapdjkknaaDoor

/-
  Check and CheckTwo, of the program and of the document.
-/
namespace Go.Proofs.YtojepbapdjkknaaDoor
open Go.RowKit
set_option linter.unusedVariables false
set_option linter.unusedSimpArgs false

/-- What a check tells: Decode's error, or that it is of the other kind, or what the verifier tells. -/
def ckR (E k K R : Int) : Int := if E = 0 then (if k = K then R else 2) else E
section
variable {xs : List Int} {k f s : Int} {n : Nat} {ys : List Int} {E : Int}
set_option maxRecDepth 100000 in
set_option maxHeartbeats 1000000 in
theorem check_any (hD : DecB xs k f s n ys E) (x y : List Int) (R : Int) (a : Option Addr) (len cap : Nat) (w : World) (hs : Sl w a len cap xs) (hx : x.length = 32) (hy : y.length = 32)
    (hV : ∀ (va : Option Addr) (vc : Nat) (V : World), Below w.heap.size w V → Ds V va n vc ys → Calls Tryd.prog 46 #[.agg (u8s x).toArray, .int .i64 f, .int .i64 s, .slice va n vc, .agg (u8s y).toArray] V fun r w' => r = .returned (.int .i64 R) ∧ Below V.heap.size V w') :
    Calls Tryd.prog 20 #[.slice a len cap, .agg (u8s x).toArray, .agg (u8s y).toArray] w fun r w' => r = .returned (.int .i64 (ckR E k 1 R)) ∧ Below w.heap.size w w' := by
  have hn49 := hD.few
  have HYB := hide (hD.byte hs.hbyte)
  have HS := hide hs
  have HD := hide hD
  have HXU := hide (show (u8s x).length = 32 by rw [u8s_length, hx])
  have HYU := hide (show (u8s y).length = 32 by rw [u8s_length, hy])
  have HV := hide hV
  clear hs hD hV hx hy
  by_cases hE : E = 0
  · subst hE
    by_cases hk : k = 1
    · subst hk
      rw [show ckR 0 1 1 R = R from rfl]
      go_enter Tryd.func20, Tryd.ntmps20
      go_wp2_with (refine step_box rfl rfl ?_)
      intro w1 g4 hr1 hl1 hb1
      have G4 := hide hr1
      clear hr1
      go_wp2_with (refine step_box rfl rfl ?_)
      intro w2 g5 hr2 hl2 hb2
      have G52 := hide hr2
      have G42 := hide (G4.out.on hb2)
      have B2 := hide (on_below hb1 hb2)
      clear hr2 hb1 hb2 G4
      go_wp2_with fail
      refine (decodeB HD.out _ _ _ _ (HS.out.below B2.out)).mono ?_
      rintro r w3 ⟨hb3, v, rfl, ho⟩
      obtain ⟨va, vc, rfl, hds, _⟩ := ho.ds HYB.out (by omega)
      have B3 := hide (on_below B2.out hb3)
      have G43 := hide (G42.out.on hb3)
      have G53 := hide (G52.out.on hb3)
      have D3 := hide hds
      clear hds ho hb3 G42 G52 B2
      go_wp2_with (refine step_alloc zP rfl ?_)
      intro w4 g7 hr4 hl4 hb4
      have R4 := hide hr4
      clear hr4
      go_wp2_with (refine step_storeA wP rfl rfl rfl R4.out rfl (One.pf _ _ _ _ _ _) rfl ?_)
      intro w5 hg5 hbut5
      have Y5 := hide (hb4.trans (hbut5.below hl4))
      have B5 := hide (on_below B3.out Y5.out)
      have G45 := hide (G43.out.on Y5.out)
      have G55 := hide (G53.out.on Y5.out)
      have D5 := hide (D3.out.below Y5.out)
      obtain ⟨c0, c1, c2', c3⟩ := pf_at hg5
      clear hb4 hbut5 hl4 R4 Y5 B3 G43 G53 D3 hg5
      go_wp2_with (first | (refine step_loadA wD rfl rfl G45.out HXU.out ?_) | (refine step_loadA wD rfl rfl G55.out HYU.out ?_) | fail)
      refine (HV.out va vc _ B5.out D5.out).mono ?_
      rintro r w6 ⟨rfl, hb6⟩
      go_wp2
      go_ret
      exact ⟨rfl, on_below B5.out hb6⟩
    · have hk' : (k != 1) = true := by simpa using hk
      rw [show ckR 0 k 1 R = 2 by unfold ckR; rw [if_pos rfl, if_neg hk]]
      go_enter Tryd.func20, Tryd.ntmps20
      go_wp2_with (refine step_box rfl rfl ?_)
      intro w1 g4 hr1 hl1 hb1
      have G4 := hide hr1
      clear hr1
      go_wp2_with (refine step_box rfl rfl ?_)
      intro w2 g5 hr2 hl2 hb2
      have G52 := hide hr2
      have G42 := hide (G4.out.on hb2)
      have B2 := hide (on_below hb1 hb2)
      clear hr2 hb1 hb2 G4
      go_wp2_with fail
      refine (decodeB HD.out _ _ _ _ (HS.out.below B2.out)).mono ?_
      rintro r w3 ⟨hb3, v, rfl, ho⟩
      obtain ⟨va, vc, rfl, hds, _⟩ := ho.ds HYB.out (by omega)
      have B3 := hide (on_below B2.out hb3)
      have G43 := hide (G42.out.on hb3)
      have G53 := hide (G52.out.on hb3)
      have D3 := hide hds
      clear hds ho hb3 G42 G52 B2
      go_wp2_with (refine step_alloc zP rfl ?_)
      intro w4 g7 hr4 hl4 hb4
      have R4 := hide hr4
      clear hr4
      go_wp2_with (refine step_storeA wP rfl rfl rfl R4.out rfl (One.pf _ _ _ _ _ _) rfl ?_)
      intro w5 hg5 hbut5
      have Y5 := hide (hb4.trans (hbut5.below hl4))
      have B5 := hide (on_below B3.out Y5.out)
      have G45 := hide (G43.out.on Y5.out)
      have G55 := hide (G53.out.on Y5.out)
      have D5 := hide (D3.out.below Y5.out)
      obtain ⟨c0, c1, c2', c3⟩ := pf_at hg5
      clear hb4 hbut5 hl4 R4 Y5 B3 G43 G53 D3 hg5
      go_wp2
      go_ret
      exact ⟨rfl, B5.out⟩
  · have hE' : (E != 0) = true := by simpa using hE
    rw [show ckR E k 1 R = E by unfold ckR; rw [if_neg hE]]
    go_enter Tryd.func20, Tryd.ntmps20
    go_wp2_with (refine step_box rfl rfl ?_)
    intro w1 g4 hr1 hl1 hb1
    have G4 := hide hr1
    clear hr1
    go_wp2_with (refine step_box rfl rfl ?_)
    intro w2 g5 hr2 hl2 hb2
    have G52 := hide hr2
    have G42 := hide (G4.out.on hb2)
    have B2 := hide (on_below hb1 hb2)
    clear hr2 hb1 hb2 G4
    go_wp2_with fail
    refine (decodeB HD.out _ _ _ _ (HS.out.below B2.out)).mono ?_
    rintro r w3 ⟨hb3, v, rfl, ho⟩
    obtain ⟨va, vc, rfl, hds, _⟩ := ho.ds HYB.out (by omega)
    have B3 := hide (on_below B2.out hb3)
    have G43 := hide (G42.out.on hb3)
    have G53 := hide (G52.out.on hb3)
    have D3 := hide hds
    clear hds ho hb3 G42 G52 B2
    go_wp2_with (refine step_alloc zP rfl ?_)
    intro w4 g7 hr4 hl4 hb4
    have R4 := hide hr4
    clear hr4
    go_wp2_with (refine step_storeA wP rfl rfl rfl R4.out rfl (One.pf _ _ _ _ _ _) rfl ?_)
    intro w5 hg5 hbut5
    have Y5 := hide (hb4.trans (hbut5.below hl4))
    have B5 := hide (on_below B3.out Y5.out)
    have G45 := hide (G43.out.on Y5.out)
    have G55 := hide (G53.out.on Y5.out)
    have D5 := hide (D3.out.below Y5.out)
    obtain ⟨c0, c1, c2', c3⟩ := pf_at hg5
    clear hb4 hbut5 hl4 R4 Y5 B3 G43 G53 D3 hg5
    go_wp2
    go_ret
    exact ⟨rfl, B5.out⟩
set_option maxRecDepth 100000 in
set_option maxHeartbeats 1000000 in
theorem check2_any (hD : DecB xs k f s n ys E) (x y : List Int) (R : Int) (a : Option Addr) (len cap : Nat) (w : World) (hs : Sl w a len cap xs) (hx : x.length = 32) (hy : y.length = 32)
    (hV : ∀ (va : Option Addr) (vc : Nat) (V : World), Below w.heap.size w V → Ds V va n vc ys → Calls Tryd.prog 49 #[.int .i64 f, .int .i64 s, .agg (u8s x).toArray, .agg (u8s y).toArray, .slice va n vc] V fun r w' => r = .returned (.int .i64 R) ∧ Below V.heap.size V w') :
    Calls Tryd.prog 22 #[.slice a len cap, .agg (u8s x).toArray, .agg (u8s y).toArray] w fun r w' => r = .returned (.int .i64 (ckR E k 2 R)) ∧ Below w.heap.size w w' := by
  have hn49 := hD.few
  have HYB := hide (hD.byte hs.hbyte)
  have HS := hide hs
  have HD := hide hD
  have HXU := hide (show (u8s x).length = 32 by rw [u8s_length, hx])
  have HYU := hide (show (u8s y).length = 32 by rw [u8s_length, hy])
  have HV := hide hV
  clear hs hD hV hx hy
  by_cases hE : E = 0
  · subst hE
    by_cases hk : k = 2
    · subst hk
      rw [show ckR 0 2 2 R = R from rfl]
      go_enter Tryd.func22, Tryd.ntmps22
      go_wp2_with (refine step_box rfl rfl ?_)
      intro w1 g4 hr1 hl1 hb1
      have G4 := hide hr1
      clear hr1
      go_wp2_with (refine step_box rfl rfl ?_)
      intro w2 g5 hr2 hl2 hb2
      have G52 := hide hr2
      have G42 := hide (G4.out.on hb2)
      have B2 := hide (on_below hb1 hb2)
      clear hr2 hb1 hb2 G4
      go_wp2_with fail
      refine (decodeB HD.out _ _ _ _ (HS.out.below B2.out)).mono ?_
      rintro r w3 ⟨hb3, v, rfl, ho⟩
      obtain ⟨va, vc, rfl, hds, _⟩ := ho.ds HYB.out (by omega)
      have B3 := hide (on_below B2.out hb3)
      have G43 := hide (G42.out.on hb3)
      have G53 := hide (G52.out.on hb3)
      have D3 := hide hds
      clear hds ho hb3 G42 G52 B2
      go_wp2_with (refine step_alloc zP rfl ?_)
      intro w4 g7 hr4 hl4 hb4
      have R4 := hide hr4
      clear hr4
      go_wp2_with (refine step_storeA wP rfl rfl rfl R4.out rfl (One.pf _ _ _ _ _ _) rfl ?_)
      intro w5 hg5 hbut5
      have Y5 := hide (hb4.trans (hbut5.below hl4))
      have B5 := hide (on_below B3.out Y5.out)
      have G45 := hide (G43.out.on Y5.out)
      have G55 := hide (G53.out.on Y5.out)
      have D5 := hide (D3.out.below Y5.out)
      obtain ⟨c0, c1, c2', c3⟩ := pf_at hg5
      clear hb4 hbut5 hl4 R4 Y5 B3 G43 G53 D3 hg5
      go_wp2_with (first | (refine step_loadA wD rfl rfl G45.out HXU.out ?_) | (refine step_loadA wD rfl rfl G55.out HYU.out ?_) | fail)
      refine (HV.out va vc _ B5.out D5.out).mono ?_
      rintro r w6 ⟨rfl, hb6⟩
      go_wp2
      go_ret
      exact ⟨rfl, on_below B5.out hb6⟩
    · have hk' : (k != 2) = true := by simpa using hk
      rw [show ckR 0 k 2 R = 2 by unfold ckR; rw [if_pos rfl, if_neg hk]]
      go_enter Tryd.func22, Tryd.ntmps22
      go_wp2_with (refine step_box rfl rfl ?_)
      intro w1 g4 hr1 hl1 hb1
      have G4 := hide hr1
      clear hr1
      go_wp2_with (refine step_box rfl rfl ?_)
      intro w2 g5 hr2 hl2 hb2
      have G52 := hide hr2
      have G42 := hide (G4.out.on hb2)
      have B2 := hide (on_below hb1 hb2)
      clear hr2 hb1 hb2 G4
      go_wp2_with fail
      refine (decodeB HD.out _ _ _ _ (HS.out.below B2.out)).mono ?_
      rintro r w3 ⟨hb3, v, rfl, ho⟩
      obtain ⟨va, vc, rfl, hds, _⟩ := ho.ds HYB.out (by omega)
      have B3 := hide (on_below B2.out hb3)
      have G43 := hide (G42.out.on hb3)
      have G53 := hide (G52.out.on hb3)
      have D3 := hide hds
      clear hds ho hb3 G42 G52 B2
      go_wp2_with (refine step_alloc zP rfl ?_)
      intro w4 g7 hr4 hl4 hb4
      have R4 := hide hr4
      clear hr4
      go_wp2_with (refine step_storeA wP rfl rfl rfl R4.out rfl (One.pf _ _ _ _ _ _) rfl ?_)
      intro w5 hg5 hbut5
      have Y5 := hide (hb4.trans (hbut5.below hl4))
      have B5 := hide (on_below B3.out Y5.out)
      have G45 := hide (G43.out.on Y5.out)
      have G55 := hide (G53.out.on Y5.out)
      have D5 := hide (D3.out.below Y5.out)
      obtain ⟨c0, c1, c2', c3⟩ := pf_at hg5
      clear hb4 hbut5 hl4 R4 Y5 B3 G43 G53 D3 hg5
      go_wp2
      go_ret
      exact ⟨rfl, B5.out⟩
  · have hE' : (E != 0) = true := by simpa using hE
    rw [show ckR E k 2 R = E by unfold ckR; rw [if_neg hE]]
    go_enter Tryd.func22, Tryd.ntmps22
    go_wp2_with (refine step_box rfl rfl ?_)
    intro w1 g4 hr1 hl1 hb1
    have G4 := hide hr1
    clear hr1
    go_wp2_with (refine step_box rfl rfl ?_)
    intro w2 g5 hr2 hl2 hb2
    have G52 := hide hr2
    have G42 := hide (G4.out.on hb2)
    have B2 := hide (on_below hb1 hb2)
    clear hr2 hb1 hb2 G4
    go_wp2_with fail
    refine (decodeB HD.out _ _ _ _ (HS.out.below B2.out)).mono ?_
    rintro r w3 ⟨hb3, v, rfl, ho⟩
    obtain ⟨va, vc, rfl, hds, _⟩ := ho.ds HYB.out (by omega)
    have B3 := hide (on_below B2.out hb3)
    have G43 := hide (G42.out.on hb3)
    have G53 := hide (G52.out.on hb3)
    have D3 := hide hds
    clear hds ho hb3 G42 G52 B2
    go_wp2_with (refine step_alloc zP rfl ?_)
    intro w4 g7 hr4 hl4 hb4
    have R4 := hide hr4
    clear hr4
    go_wp2_with (refine step_storeA wP rfl rfl rfl R4.out rfl (One.pf _ _ _ _ _ _) rfl ?_)
    intro w5 hg5 hbut5
    have Y5 := hide (hb4.trans (hbut5.below hl4))
    have B5 := hide (on_below B3.out Y5.out)
    have G45 := hide (G43.out.on Y5.out)
    have G55 := hide (G53.out.on Y5.out)
    have D5 := hide (D3.out.below Y5.out)
    obtain ⟨c0, c1, c2', c3⟩ := pf_at hg5
    clear hb4 hbut5 hl4 R4 Y5 B3 G43 G53 D3 hg5
    go_wp2
    go_ret
    exact ⟨rfl, B5.out⟩
set_option maxRecDepth 100000 in
set_option maxHeartbeats 1000000 in
theorem checkR_any (hD : DecB xs k f s n ys E) (x y : List Int) (R : Int) (a : Option Addr) (len cap : Nat) (w : World) (hs : Sl w a len cap xs) (hx : x.length = 32) (hy : y.length = 32)
    (hV : ∀ (va : Option Addr) (vc : Nat) (V : World), Below w.heap.size w V → Ds V va n vc ys → Calls Tryd.prog 48 #[.agg (u8s x).toArray, .int .i64 f, .int .i64 s, .slice va n vc, .agg (u8s y).toArray] V fun r w' => r = .returned (.int .i64 R) ∧ Below V.heap.size V w') :
    Calls Tryd.prog 21 #[.slice a len cap, .agg (u8s x).toArray, .agg (u8s y).toArray] w fun r w' => r = .returned (.int .i64 (ckR E k 1 R)) ∧ Below w.heap.size w w' := by
  have hn49 := hD.few
  have HYB := hide (hD.byte hs.hbyte)
  have HS := hide hs
  have HD := hide hD
  have HXU := hide (show (u8s x).length = 32 by rw [u8s_length, hx])
  have HYU := hide (show (u8s y).length = 32 by rw [u8s_length, hy])
  have HV := hide hV
  clear hs hD hV hx hy
  by_cases hE : E = 0
  · subst hE
    by_cases hk : k = 1
    · subst hk
      rw [show ckR 0 1 1 R = R from rfl]
      go_enter Tryd.func21, Tryd.ntmps21
      go_wp2_with (refine step_box rfl rfl ?_)
      intro w1 g4 hr1 hl1 hb1
      have G4 := hide hr1
      clear hr1
      go_wp2_with (refine step_box rfl rfl ?_)
      intro w2 g5 hr2 hl2 hb2
      have G52 := hide hr2
      have G42 := hide (G4.out.on hb2)
      have B2 := hide (on_below hb1 hb2)
      clear hr2 hb1 hb2 G4
      go_wp2_with fail
      refine (decodeRB HD.out _ _ _ _ (HS.out.below B2.out)).mono ?_
      rintro r w3 ⟨hb3, v, rfl, ho⟩
      obtain ⟨va, vc, rfl, hds, _⟩ := ho.ds HYB.out (by omega)
      have B3 := hide (on_below B2.out hb3)
      have G43 := hide (G42.out.on hb3)
      have G53 := hide (G52.out.on hb3)
      have D3 := hide hds
      clear hds ho hb3 G42 G52 B2
      go_wp2_with (refine step_alloc zP rfl ?_)
      intro w4 g7 hr4 hl4 hb4
      have R4 := hide hr4
      clear hr4
      go_wp2_with (refine step_storeA wP rfl rfl rfl R4.out rfl (One.pf _ _ _ _ _ _) rfl ?_)
      intro w5 hg5 hbut5
      have Y5 := hide (hb4.trans (hbut5.below hl4))
      have B5 := hide (on_below B3.out Y5.out)
      have G45 := hide (G43.out.on Y5.out)
      have G55 := hide (G53.out.on Y5.out)
      have D5 := hide (D3.out.below Y5.out)
      obtain ⟨c0, c1, c2', c3⟩ := pf_at hg5
      clear hb4 hbut5 hl4 R4 Y5 B3 G43 G53 D3 hg5
      go_wp2_with (first | (refine step_loadA wD rfl rfl G45.out HXU.out ?_) | (refine step_loadA wD rfl rfl G55.out HYU.out ?_) | fail)
      refine (HV.out va vc _ B5.out D5.out).mono ?_
      rintro r w6 ⟨rfl, hb6⟩
      go_wp2
      go_ret
      exact ⟨rfl, on_below B5.out hb6⟩
    · have hk' : (k != 1) = true := by simpa using hk
      rw [show ckR 0 k 1 R = 2 by unfold ckR; rw [if_pos rfl, if_neg hk]]
      go_enter Tryd.func21, Tryd.ntmps21
      go_wp2_with (refine step_box rfl rfl ?_)
      intro w1 g4 hr1 hl1 hb1
      have G4 := hide hr1
      clear hr1
      go_wp2_with (refine step_box rfl rfl ?_)
      intro w2 g5 hr2 hl2 hb2
      have G52 := hide hr2
      have G42 := hide (G4.out.on hb2)
      have B2 := hide (on_below hb1 hb2)
      clear hr2 hb1 hb2 G4
      go_wp2_with fail
      refine (decodeRB HD.out _ _ _ _ (HS.out.below B2.out)).mono ?_
      rintro r w3 ⟨hb3, v, rfl, ho⟩
      obtain ⟨va, vc, rfl, hds, _⟩ := ho.ds HYB.out (by omega)
      have B3 := hide (on_below B2.out hb3)
      have G43 := hide (G42.out.on hb3)
      have G53 := hide (G52.out.on hb3)
      have D3 := hide hds
      clear hds ho hb3 G42 G52 B2
      go_wp2_with (refine step_alloc zP rfl ?_)
      intro w4 g7 hr4 hl4 hb4
      have R4 := hide hr4
      clear hr4
      go_wp2_with (refine step_storeA wP rfl rfl rfl R4.out rfl (One.pf _ _ _ _ _ _) rfl ?_)
      intro w5 hg5 hbut5
      have Y5 := hide (hb4.trans (hbut5.below hl4))
      have B5 := hide (on_below B3.out Y5.out)
      have G45 := hide (G43.out.on Y5.out)
      have G55 := hide (G53.out.on Y5.out)
      have D5 := hide (D3.out.below Y5.out)
      obtain ⟨c0, c1, c2', c3⟩ := pf_at hg5
      clear hb4 hbut5 hl4 R4 Y5 B3 G43 G53 D3 hg5
      go_wp2
      go_ret
      exact ⟨rfl, B5.out⟩
  · have hE' : (E != 0) = true := by simpa using hE
    rw [show ckR E k 1 R = E by unfold ckR; rw [if_neg hE]]
    go_enter Tryd.func21, Tryd.ntmps21
    go_wp2_with (refine step_box rfl rfl ?_)
    intro w1 g4 hr1 hl1 hb1
    have G4 := hide hr1
    clear hr1
    go_wp2_with (refine step_box rfl rfl ?_)
    intro w2 g5 hr2 hl2 hb2
    have G52 := hide hr2
    have G42 := hide (G4.out.on hb2)
    have B2 := hide (on_below hb1 hb2)
    clear hr2 hb1 hb2 G4
    go_wp2_with fail
    refine (decodeRB HD.out _ _ _ _ (HS.out.below B2.out)).mono ?_
    rintro r w3 ⟨hb3, v, rfl, ho⟩
    obtain ⟨va, vc, rfl, hds, _⟩ := ho.ds HYB.out (by omega)
    have B3 := hide (on_below B2.out hb3)
    have G43 := hide (G42.out.on hb3)
    have G53 := hide (G52.out.on hb3)
    have D3 := hide hds
    clear hds ho hb3 G42 G52 B2
    go_wp2_with (refine step_alloc zP rfl ?_)
    intro w4 g7 hr4 hl4 hb4
    have R4 := hide hr4
    clear hr4
    go_wp2_with (refine step_storeA wP rfl rfl rfl R4.out rfl (One.pf _ _ _ _ _ _) rfl ?_)
    intro w5 hg5 hbut5
    have Y5 := hide (hb4.trans (hbut5.below hl4))
    have B5 := hide (on_below B3.out Y5.out)
    have G45 := hide (G43.out.on Y5.out)
    have G55 := hide (G53.out.on Y5.out)
    have D5 := hide (D3.out.below Y5.out)
    obtain ⟨c0, c1, c2', c3⟩ := pf_at hg5
    clear hb4 hbut5 hl4 R4 Y5 B3 G43 G53 D3 hg5
    go_wp2
    go_ret
    exact ⟨rfl, B5.out⟩
set_option maxRecDepth 100000 in
set_option maxHeartbeats 1000000 in
theorem checkR2_any (hD : DecB xs k f s n ys E) (x y : List Int) (R : Int) (a : Option Addr) (len cap : Nat) (w : World) (hs : Sl w a len cap xs) (hx : x.length = 32) (hy : y.length = 32)
    (hV : ∀ (va : Option Addr) (vc : Nat) (V : World), Below w.heap.size w V → Ds V va n vc ys → Calls Tryd.prog 50 #[.int .i64 f, .int .i64 s, .agg (u8s x).toArray, .agg (u8s y).toArray, .slice va n vc] V fun r w' => r = .returned (.int .i64 R) ∧ Below V.heap.size V w') :
    Calls Tryd.prog 23 #[.slice a len cap, .agg (u8s x).toArray, .agg (u8s y).toArray] w fun r w' => r = .returned (.int .i64 (ckR E k 2 R)) ∧ Below w.heap.size w w' := by
  have hn49 := hD.few
  have HYB := hide (hD.byte hs.hbyte)
  have HS := hide hs
  have HD := hide hD
  have HXU := hide (show (u8s x).length = 32 by rw [u8s_length, hx])
  have HYU := hide (show (u8s y).length = 32 by rw [u8s_length, hy])
  have HV := hide hV
  clear hs hD hV hx hy
  by_cases hE : E = 0
  · subst hE
    by_cases hk : k = 2
    · subst hk
      rw [show ckR 0 2 2 R = R from rfl]
      go_enter Tryd.func23, Tryd.ntmps23
      go_wp2_with (refine step_box rfl rfl ?_)
      intro w1 g4 hr1 hl1 hb1
      have G4 := hide hr1
      clear hr1
      go_wp2_with (refine step_box rfl rfl ?_)
      intro w2 g5 hr2 hl2 hb2
      have G52 := hide hr2
      have G42 := hide (G4.out.on hb2)
      have B2 := hide (on_below hb1 hb2)
      clear hr2 hb1 hb2 G4
      go_wp2_with fail
      refine (decodeRB HD.out _ _ _ _ (HS.out.below B2.out)).mono ?_
      rintro r w3 ⟨hb3, v, rfl, ho⟩
      obtain ⟨va, vc, rfl, hds, _⟩ := ho.ds HYB.out (by omega)
      have B3 := hide (on_below B2.out hb3)
      have G43 := hide (G42.out.on hb3)
      have G53 := hide (G52.out.on hb3)
      have D3 := hide hds
      clear hds ho hb3 G42 G52 B2
      go_wp2_with (refine step_alloc zP rfl ?_)
      intro w4 g7 hr4 hl4 hb4
      have R4 := hide hr4
      clear hr4
      go_wp2_with (refine step_storeA wP rfl rfl rfl R4.out rfl (One.pf _ _ _ _ _ _) rfl ?_)
      intro w5 hg5 hbut5
      have Y5 := hide (hb4.trans (hbut5.below hl4))
      have B5 := hide (on_below B3.out Y5.out)
      have G45 := hide (G43.out.on Y5.out)
      have G55 := hide (G53.out.on Y5.out)
      have D5 := hide (D3.out.below Y5.out)
      obtain ⟨c0, c1, c2', c3⟩ := pf_at hg5
      clear hb4 hbut5 hl4 R4 Y5 B3 G43 G53 D3 hg5
      go_wp2_with (first | (refine step_loadA wD rfl rfl G45.out HXU.out ?_) | (refine step_loadA wD rfl rfl G55.out HYU.out ?_) | fail)
      refine (HV.out va vc _ B5.out D5.out).mono ?_
      rintro r w6 ⟨rfl, hb6⟩
      go_wp2
      go_ret
      exact ⟨rfl, on_below B5.out hb6⟩
    · have hk' : (k != 2) = true := by simpa using hk
      rw [show ckR 0 k 2 R = 2 by unfold ckR; rw [if_pos rfl, if_neg hk]]
      go_enter Tryd.func23, Tryd.ntmps23
      go_wp2_with (refine step_box rfl rfl ?_)
      intro w1 g4 hr1 hl1 hb1
      have G4 := hide hr1
      clear hr1
      go_wp2_with (refine step_box rfl rfl ?_)
      intro w2 g5 hr2 hl2 hb2
      have G52 := hide hr2
      have G42 := hide (G4.out.on hb2)
      have B2 := hide (on_below hb1 hb2)
      clear hr2 hb1 hb2 G4
      go_wp2_with fail
      refine (decodeRB HD.out _ _ _ _ (HS.out.below B2.out)).mono ?_
      rintro r w3 ⟨hb3, v, rfl, ho⟩
      obtain ⟨va, vc, rfl, hds, _⟩ := ho.ds HYB.out (by omega)
      have B3 := hide (on_below B2.out hb3)
      have G43 := hide (G42.out.on hb3)
      have G53 := hide (G52.out.on hb3)
      have D3 := hide hds
      clear hds ho hb3 G42 G52 B2
      go_wp2_with (refine step_alloc zP rfl ?_)
      intro w4 g7 hr4 hl4 hb4
      have R4 := hide hr4
      clear hr4
      go_wp2_with (refine step_storeA wP rfl rfl rfl R4.out rfl (One.pf _ _ _ _ _ _) rfl ?_)
      intro w5 hg5 hbut5
      have Y5 := hide (hb4.trans (hbut5.below hl4))
      have B5 := hide (on_below B3.out Y5.out)
      have G45 := hide (G43.out.on Y5.out)
      have G55 := hide (G53.out.on Y5.out)
      have D5 := hide (D3.out.below Y5.out)
      obtain ⟨c0, c1, c2', c3⟩ := pf_at hg5
      clear hb4 hbut5 hl4 R4 Y5 B3 G43 G53 D3 hg5
      go_wp2
      go_ret
      exact ⟨rfl, B5.out⟩
  · have hE' : (E != 0) = true := by simpa using hE
    rw [show ckR E k 2 R = E by unfold ckR; rw [if_neg hE]]
    go_enter Tryd.func23, Tryd.ntmps23
    go_wp2_with (refine step_box rfl rfl ?_)
    intro w1 g4 hr1 hl1 hb1
    have G4 := hide hr1
    clear hr1
    go_wp2_with (refine step_box rfl rfl ?_)
    intro w2 g5 hr2 hl2 hb2
    have G52 := hide hr2
    have G42 := hide (G4.out.on hb2)
    have B2 := hide (on_below hb1 hb2)
    clear hr2 hb1 hb2 G4
    go_wp2_with fail
    refine (decodeRB HD.out _ _ _ _ (HS.out.below B2.out)).mono ?_
    rintro r w3 ⟨hb3, v, rfl, ho⟩
    obtain ⟨va, vc, rfl, hds, _⟩ := ho.ds HYB.out (by omega)
    have B3 := hide (on_below B2.out hb3)
    have G43 := hide (G42.out.on hb3)
    have G53 := hide (G52.out.on hb3)
    have D3 := hide hds
    clear hds ho hb3 G42 G52 B2
    go_wp2_with (refine step_alloc zP rfl ?_)
    intro w4 g7 hr4 hl4 hb4
    have R4 := hide hr4
    clear hr4
    go_wp2_with (refine step_storeA wP rfl rfl rfl R4.out rfl (One.pf _ _ _ _ _ _) rfl ?_)
    intro w5 hg5 hbut5
    have Y5 := hide (hb4.trans (hbut5.below hl4))
    have B5 := hide (on_below B3.out Y5.out)
    have G45 := hide (G43.out.on Y5.out)
    have G55 := hide (G53.out.on Y5.out)
    have D5 := hide (D3.out.below Y5.out)
    obtain ⟨c0, c1, c2', c3⟩ := pf_at hg5
    clear hb4 hbut5 hl4 R4 Y5 B3 G43 G53 D3 hg5
    go_wp2
    go_ret
    exact ⟨rfl, B5.out⟩
end

end Go.Proofs.YtojepbapdjkknaaDoor

/-
  wire.Encode.
-/
namespace Go.Proofs.YtojepbapdjkknaaDoor
open Go.RowKit
set_option linter.unusedVariables false
set_option linter.unusedSimpArgs false

/-- A proof's bytes ahead of its digests, and all of them. -/
def encH (k f s : Int) (n : Nat) : List Int := (([k] ++ be f 8) ++ be s 8) ++ [(n : Int)]
def encB (k f s : Int) (n : Nat) (ys : List Int) : List Int := encH k f s n ++ ys
theorem encH_length (k f s : Int) (n : Nat) : (encH k f s n).length = 18 := by simp [encH, be_length]
theorem pcnt_bd {k i n : Int} {m : Nat} (h : pcnt k i n = some m) : (k = 1 ∨ k = 2) ∧ 0 ≤ i ∧ i ≤ n ∧ n ≤ 281474976710656 := by
  unfold pcnt at h
  split at h
  · split at h
    · rename_i h1 h2; exact ⟨.inl h1, by omega, by omega, by omega⟩
    · cases h
  · split at h
    · split at h
      · rename_i h1 h2; exact ⟨.inr (by assumption), by omega, by omega, by omega⟩
      · cases h
    · cases h
theorem isB_app {xs ys : List Int} (h : isB xs) (h' : isB ys) : isB (xs ++ ys) := h.append h'
theorem isB_one {x : Int} (h0 : 0 ≤ x) (h1 : x ≤ 255) : isB [x] := by intro y hy; simp at hy; omega
theorem wrap_u8 (x : Int) (h0 : 0 ≤ x) (h1 : x ≤ 255) : IntKind.u8.wrap x = x := by rw [IntKind.wrap_u8]; omega
theorem wrap_u64 (x : Int) (h0 : 0 ≤ x) (h1 : x < 18446744073709551616) : IntKind.u64.wrap x = x := by rw [IntKind.wrap_u64]; omega
set_option maxRecDepth 100000 in
theorem encode_bad (k f s : Int) (a : Option Addr) (m cap : Nat) (w : World) (hm : m ≤ 9223372036854775807) (hv : pval k f s m = false) :
    Calls Tryd.prog 9 #[.agg (pfC k f s (.slice a m cap)).toArray] w fun r w' => r = .returned (.tuple #[.slice none 0 0, .int .i64 2]) ∧ Below w.heap.size w w' := by
  have HV := hide (fun V => valid_any k f s a m cap V hm)
  rw [hv] at HV
  go_enter Tryd.func9, Tryd.ntmps9
  go_wp2_with (refine step_box (cs := pfC k f s (.slice a m cap)) rfl rfl ?_)
  intro w1 g1 hr1 hl1 hb1
  have R1 := hide hr1
  clear hr1
  go_wp2_with (first | (refine step_loadA wP rfl rfl R1.out rfl ?_) | fail)
  refine (HV.out _).mono ?_
  rintro r w2 ⟨rfl, hb2⟩
  go_wp2
  go_ret2
  exact ⟨rfl, on_below hb1 hb2⟩
set_option maxRecDepth 100000 in
set_option maxHeartbeats 1000000 in
theorem encode_ok (k f s : Int) (a : Option Addr) (n cap : Nat) (ys : List Int) (w : World) (hs : Ds w a n cap ys) (hc : pcnt k f s = some n) :
    Calls Tryd.prog 9 #[.agg (pfC k f s (.slice a n cap)).toArray] w fun r w' => Below w.heap.size w w' ∧ ∃ v, r = .returned (.tuple #[v, .int .i64 0]) ∧ v ≠ .slice none 0 0 ∧ Own w' w.heap.size v (encB k f s n ys) := by
  have hn49 := pcnt_le hc
  obtain ⟨hk, hf0, hfs, hs48⟩ := pcnt_bd hc
  have HV := hide (fun V => valid_any k f s a n cap V (by omega))
  rw [show pval k f s n = true by unfold pval; simp [hc]] at HV
  have HS := hide hs
  have HYB := hide hs.hbyte
  have HYL := hide hs.hlen
  have wk : IntKind.u8.wrap k = k := wrap_u8 k (by omega) (by omega)
  have wf : IntKind.u64.wrap f = f := wrap_u64 f (by omega) (by omega)
  have ws : IntKind.u64.wrap s = s := wrap_u64 s (by omega) (by omega)
  have wn : IntKind.u8.wrap (n : Int) = (n : Int) := wrap_u8 _ (by omega) (by omega)
  have HB1 : Hid (isB [k]) := hide (isB_one (by omega) (by omega))
  have HB2 : Hid (isB ([k] ++ be f 8)) := hide (HB1.out.append (be_isB f 8))
  have HB3 : Hid (isB (([k] ++ be f 8) ++ be s 8)) := hide (HB2.out.append (be_isB s 8))
  have HB4 : Hid (isB (encH k f s n)) := hide (HB3.out.append (isB_one (by omega) (by omega)))
  clear hs hc hk
  go_enter Tryd.func9, Tryd.ntmps9
  go_wp2_with (refine step_box (cs := pfC k f s (.slice a n cap)) rfl rfl ?_)
  intro w1 g1 hr1 hl1 hb1
  have R1 := hide hr1
  have B1 := hide hb1
  clear hr1 hb1
  go_wp2_with (first | (refine step_loadA wP rfl rfl R1.out rfl ?_) | fail)
  refine (HV.out _).mono ?_
  rintro r w2 ⟨rfl, hb2⟩
  have B2 := hide (on_below B1.out hb2)
  have R2 := hide (R1.out.on hb2)
  obtain ⟨c0, c1, c2', c3⟩ := pf_at R2.out
  clear hb2 R1 B1
  have S3 := hide (one_slB w2 k (HB1.out k (by simp)))
  have Y3 := hide ((Below.refl w2.heap.size w2).alloc (Nat.le_refl _) (.cells #[.int .u8 k] 5))
  have d1 := cell_kept c1 Y3.out
  go_wp2_with fail
  refine (putUint64_any _ 1 1 [k] f _ S3.out (by omega) (by omega)).mono ?_
  rintro r w4 ⟨g4, rfl, hl4, hr4, hb4⟩
  have Y4 := hide (on_below Y3.out hb4)
  have S4 := hide (hr4.sl0 HB2.out (by simp [be_length]))
  rw [show ([k] ++ be f 8).length = 9 by simp [be_length]] at S4
  have B4 := hide (on_below B2.out Y4.out)
  have R4 := hide (R2.out.on Y4.out)
  clear hl4 hr4 hb4 S3 Y3 Y4 R2 B2 c0 c1 c2' c3 d1
  obtain ⟨c0, c1, c2', c3⟩ := pf_at R4.out
  go_wp2_with fail
  refine (putUint64_any _ 9 9 _ s _ S4.out (by omega) (by omega)).mono ?_
  rintro r w5 ⟨g5, rfl, hl5, hr5, hb5⟩
  have O5 := hide (Own.of_blk hr5 (Nat.le_trans B4.out.size hl5) (by simp [be_length]))
  rw [show (([k] ++ be f 8) ++ be s 8).length = 17 by simp [be_length]] at O5
  have B5 := hide (on_below B4.out hb5)
  have R5 := hide (R4.out.on hb5)
  clear hl5 hr5 hb5 S4 R4 B4 c0 c1 c2' c3
  obtain ⟨c0, c1, c2', c3⟩ := pf_at R5.out
  go_wp2_with (refine step_append rfl rfl rfl (O5.out.alloc _) (one_slB _ (n : Int) (by omega)) (by simp [be_length]) (by have := B5.out.size; simp; omega) ?_)
  intro v6 w6 ho6 hg6 hn6
  have Y5 := hide ((Below.refl w5.heap.size w5).alloc (Nat.le_refl _) (.cells #[.int .u8 (n : Int)] 5))
  have B6 := hide ((B5.out.alloc B5.out.size (.cells #[.int .u8 (n : Int)] 5)).trans (Below.of_grown hg6 (by have := B5.out.size; simp; omega) O5.out.lt))
  have N6 : Hid (v6 ≠ .slice none 0 0) := hide (fun e => by have e2 := (hn6 e).1; cases e2)
  have R6 := hide ((R5.out.on Y5.out).grown (by decide) (O5.out.alloc _) hg6)
  have O6 : Hid (Own w6 w.heap.size v6 (encH k f s n ++ ys.take (32 * 0))) := hide (by rw [Nat.mul_zero, List.take_zero, List.append_nil]; exact ho6)
  clear ho6 hg6 hn6 O5 R5 Y5 c0 c1 c2' c3
  have c3 := (pf_at R6.out).2.2.2
  go_wp2_with fail
  go_loopw [4, 34] (fun v i W => ∃ q : Nat, q ≤ n ∧ i = .int .i64 (q : Int) ∧ v ≠ .slice none 0 0 ∧ Own W w.heap.size v (encH k f s n ++ ys.take (32 * q)) ∧ Below w.heap.size w W) (fun _ i _ => n - (intOf i).toNat)
  case atStart => exact ⟨0, by omega, rfl, N6.out, O6.out, B6.out⟩
  case round =>
    obtain ⟨q, hqn, rfl, hvn, ho, hbq⟩ := hrel
    have BQ := hide hbq
    have OQ := hide ho
    have NQ := hide hvn
    clear hbq ho hvn O6 N6 B6 R6 c3
    by_cases hlt : q < n
    · have hlt' : (q : Int) < (n : Int) := by omega
      obtain ⟨b, o, rfl⟩ := HS.out.place (by omega)
      have hdl := dat_length HYL.out hlt
      have HDL := hide hdl
      have HDU := hide (show (u8s (dat ys q)).length = 32 by rw [u8s_length, hdl])
      have HDB := hide (dat_isB HYB.out q)
      have HRG := hide ((HS.out.below BQ.out).range q hlt)
      have hat := d_at b o n cap q (q : Int) rfl hlt
      have hql : (encH k f s n ++ ys.take (32 * q)).length = 18 + 32 * q := by rw [List.length_append, encH_length, List.length_take, HYL.out]; omega
      obtain ⟨gq, cq, rfl, _, hsq⟩ := OQ.out.sl (HB4.out.append (HYB.out.take _)) (by omega) NQ.out
      rw [hql] at hsq ⊢
      have SQ := hide hsq
      clear hdl hsq
      go_wp2_with (first | (refine step_loadR wD rfl rfl _ HRG.out HDU.out ?_) | (refine step_alloc zD rfl ?_))
      intro w7 g6 hr7 hl7 hb7
      have G7 := hide hr7
      clear hr7
      go_wp2_with (refine step_storeA wD rfl rfl rfl G7.out HDU.out (One.u8 _) (by rw [u8s_length, zer_length]) ?_)
      intro w8 hg8 hbut8
      have G8 := hide hg8
      have Y8 := hide (hb7.trans (hbut8.below hl7))
      have S8 := hide (SQ.out.below Y8.out)
      have B8 := hide (on_below BQ.out Y8.out)
      clear hg8 hbut8 hb7 hl7 G7 SQ Y8 HRG hat
      go_wp2_with (first | (refine step_loadA wD rfl rfl G8.out HDU.out ?_) | fail)
      refine (putDigest_any _ _ _ _ (dat ys q) _ S8.out HDL.out HDB.out).mono ?_
      rintro r w9 ⟨g9, rfl, hl9, hr9, hb9⟩
      have e9 : (encH k f s n ++ ys.take (32 * q)) ++ dat ys q = encH k f s n ++ ys.take (32 * (q + 1)) := by rw [List.append_assoc, take_more]; rfl
      rw [e9] at hr9
      have hl2 : (encH k f s n ++ ys.take (32 * (q + 1))).length = 18 + 32 * q + 32 := by rw [List.length_append, encH_length, List.length_take, HYL.out]; omega
      have O9 := Own.of_blk hr9 (Nat.le_trans B8.out.size hl9) (by omega)
      rw [hl2] at O9
      have HO9 := hide O9
      have B9 := hide (on_below B8.out hb9)
      clear O9 hr9 hl9 hb9 e9 hl2
      go_wp2
      go_roundw
      case rel => exact ⟨q + 1, by omega, by simp, by simp, HO9.out, B9.out⟩
      case measure => simp only [intOf]; omega
    · obtain rfl : q = n := by omega
      have hlt' : ¬ ((q : Int) < (q : Int)) := by omega
      go_wp2
      go_ret2
      refine ⟨BQ.out, _, rfl, NQ.out, ?_⟩
      have e := OQ.out
      rw [List.take_of_length_le (by rw [HYL.out]; exact Nat.le_refl _)] at e
      exact e

end Go.Proofs.YtojepbapdjkknaaDoor

/-
  A proof's bytes are read as that proof. No program here.
-/
namespace Go.Proofs.YtojepbapdjkknaaDoor
open Go.RowKit
set_option linter.unusedVariables false

theorem be_succW (v : Int) (n : Nat) : be v (n + 1) = be (v / 256) n ++ [v % 256] := by
  unfold be
  rw [List.range_succ, List.map_append]
  congr 1
  · apply List.map_congr_left
    intro i hi
    have hi' : i < n := List.mem_range.1 hi
    rw [show n + 1 - 1 - i = (n - 1 - i) + 1 by omega, Int.pow_succ, Int.mul_comm, Int.ediv_ediv_of_nonneg (by decide)]
  · simp
theorem beVal_beW (n : Nat) : ∀ v : Int, 0 ≤ v → v < 256 ^ n → beVal (be v n) = v := by
  induction n with
  | zero => intro v h0 h1; simp at h1; simp [be, beVal]; omega
  | succ n ih =>
    intro v h0 h1
    have h2 : v / 256 < 256 ^ n := by
      rw [Int.pow_succ] at h1
      exact Int.ediv_lt_of_lt_mul (by decide) h1
    have := ih (v / 256) (Int.ediv_nonneg h0 (by decide)) h2
    rw [be_succW]
    unfold beVal at *
    rw [List.foldl_append, this]
    simp only [List.foldl_cons, List.foldl_nil]
    omega
section
variable {k f s : Int} {n : Nat} {ys : List Int}
theorem encB_eq : encB k f s n ys = k :: (be f 8 ++ (be s 8 ++ ((n : Int) :: ys))) := by simp [encB, encH]
theorem encB_length (hy : ys.length = 32 * n) : (encB k f s n ys).length = 18 + 32 * n := by
  rw [encB, List.length_append, encH_length, hy]
theorem rdV_at {xs : List Int} (p : Nat) (v : Int) (h : (xs.drop p).take 8 = be v 8) (hl : p + 8 ≤ xs.length) (h0 : 0 ≤ v) (h1 : v < 18446744073709551616) : rdV xs (p : Int) 8 = v := by
  unfold rdV
  rw [if_pos (by omega), Int.toNat_natCast, h]
  exact beVal_beW 8 v h0 (by have e : (256 : Int) ^ 8 = 18446744073709551616 := by decide
                             omega)
theorem encB_reads (hc : pcnt k f s = some n) (hy : ys.length = 32 * n) : (encB k f s n ys).getD 0 0 = k ∧ rdV (encB k f s n ys) 1 8 = f ∧ rdV (encB k f s n ys) 9 8 = s ∧ (encB k f s n ys).getD 17 0 = (n : Int) ∧ (encB k f s n ys).drop 18 = ys := by
  obtain ⟨_, hf0, hfs, hs48⟩ := pcnt_bd hc
  have hl := encB_length (k := k) (f := f) (s := s) hy
  have d1 : (encB k f s n ys).drop 1 = be f 8 ++ (be s 8 ++ ((n : Int) :: ys)) := by rw [encB_eq]; rfl
  have d9 : (encB k f s n ys).drop 9 = be s 8 ++ ((n : Int) :: ys) := by
    rw [show 9 = 1 + 8 from rfl, ← List.drop_drop, d1, List.drop_left' (be_length f 8)]
  have d17 : (encB k f s n ys).drop 17 = (n : Int) :: ys := by
    rw [show 17 = 9 + 8 from rfl, ← List.drop_drop, d9, List.drop_left' (be_length s 8)]
  refine ⟨by rw [encB_eq]; rfl, ?_, ?_, ?_, ?_⟩
  · exact rdV_at 1 f (by rw [d1, List.take_left' (be_length f 8)]) (by omega) hf0 (by omega)
  · exact rdV_at 9 s (by rw [d9, List.take_left' (be_length s 8)]) (by omega) (by omega) (by omega)
  · have e : ((encB k f s n ys).drop 17)[0]? = some (n : Int) := by rw [d17]; rfl
    rw [List.getElem?_drop] at e
    simp only [List.getD, Nat.add_zero] at e ⊢
    rw [e]
    rfl
  · rw [show 18 = 17 + 1 from rfl, ← List.drop_drop, d17]; rfl
theorem dec_enc (hc : pcnt k f s = some n) (hy : ys.length = 32 * n) : DecB (encB k f s n ys) k f s n ys 0 := by
  obtain ⟨h1, h2, h3, h4, h5⟩ := encB_reads hc hy
  obtain ⟨_, hf0, hfs, hs48⟩ := pcnt_bd hc
  refine .inr ⟨⟨encB_length hy, by rw [h2]; omega, by rw [h3]; omega, by rw [h1, h2, h3]; exact hc, h4⟩, h1.symm, h2.symm, h3.symm, h5.symm, rfl⟩
theorem encB_isB (hc : pcnt k f s = some n) (hb : isB ys) : isB (encB k f s n ys) := by
  obtain ⟨hk, _⟩ := pcnt_bd hc
  have := pcnt_le hc
  exact ((((isB_one (by omega) (by omega)).append (be_isB f 8)).append (be_isB s 8)).append (isB_one (by omega) (by omega))).append hb
end

end Go.Proofs.YtojepbapdjkknaaDoor

/-
  The program's halves of a span.
-/
namespace Go.Proofs.YtojepbapdjkknaaDoor
open Go.RowKit
set_option linter.unusedVariables false

/-- The cells of a span. -/
def spn (b e : Nat) : List Value := [.int .i64 (b : Int), .int .i64 (e : Int)]
theorem spn_one (b e : Nat) : One (spn b e) := by intro v hv; simp [spn] at hv; rcases hv with rfl | rfl <;> rfl
theorem two_one (x y : Int) : One [.int .i64 x, .int .i64 y] := by intro v hv; simp at hv; rcases hv with rfl | rfl <;> rfl
theorem zSp : Zeroed 92 (spn 0 0) := fun _ _ _ _ _ _ _ => by kernel_rfl

theorem split_int (N : Int) (n : Nat) (w : World) (hN : N = (n : Int)) (h2 : 2 ≤ n) (hn : n ≤ 9223372036854775807) : Calls Tryd.prog 58 #[.int .i64 N] w fun e w' => e = .returned (.tuple #[.int .i64 (hf n), .int .i64 0]) ∧ w' = w := by
  subst hN
  exact split_any n w h2 hn

theorem results_twoW {fn : Func} {p q : Tmp} {T U : TypeId} (h : fn.results = #[.cell p T, .cell q U]) {n m : Nat} (hT : Wide T n) (hU : Wide U m) (tmps : Array Value) (w : World)
    {g g' : Nat} {t t' : TypeId} {cs cs' : List Value} (hp : tmps.getD p undef = .pointer (some ⟨g, 0, none⟩)) (hq : tmps.getD q undef = .pointer (some ⟨g', 0, none⟩)) (hg : Blk w g t cs) (hg' : Blk w g' t' cs') (hl : cs.length = n) (hl' : cs'.length = m) :
    (results fn tmps).run Tryd.prog w = .ok (.tuple #[.agg cs.toArray, .agg cs'.toArray]) w := by
  have hp' : tmps[p]?.getD undef = .pointer (some ⟨g, 0, none⟩) := by simpa using hp
  have hq' : tmps[q]?.getD undef = .pointer (some ⟨g', 0, none⟩) := by simpa using hq
  obtain ⟨d, hu, hd⟩ := hT.und
  obtain ⟨d', hu', hd'⟩ := hU.und
  simp [results, h, hp', hq', asAddr, run_loadVar_mid w g 0 T cs d (hg.range 0 cs (by simp)) hu hd (by rw [hT.size, hl]), run_loadVar_mid w g' 0 U cs' d' (hg'.range 0 cs' (by simp)) hu' hd' (by rw [hU.size, hl'])]

set_option maxRecDepth 100000 in
set_option maxHeartbeats 2000000 in
theorem halves_any (b e i k : Nat) (I : Int) (w : World) (hI : I = (i : Int)) (h2 : 2 ≤ e - b) (hbe : b ≤ e) (he : e ≤ 4398046511104) (hk : hf (e - b) = k) (b1 e1 b2 e2 : Nat) (hr : (i < b + k ∧ b1 = b ∧ e1 = b + k ∧ b2 = b + k ∧ e2 = e) ∨ (b + k ≤ i ∧ b1 = b + k ∧ e1 = e ∧ b2 = b ∧ e2 = b + k)) :
    Calls Tryd.prog 54 #[.agg (spn b e).toArray, .int .i64 I] w fun r w' => r = .returned (.tuple #[.agg (spn b1 e1).toArray, .agg (spn b2 e2).toArray]) ∧ Below w.heap.size w w' := by
  subst hI
  have hbd := hf_bd (e - b) h2 (by omega)
  rw [hk] at hbd
  have HKE := hide hk
  clear hk
  have hsub : (e : Int) - (b : Int) = ((e - b : Nat) : Int) := by omega
  have HSUB := hide hsub
  clear hsub
  go_enter Tryd.func54, Tryd.ntmps54
  go_wp2_with (refine step_box (cs := spn b e) rfl rfl ?_)
  intro w1 g2 hr1 hl1 hb1
  have G2 := hide hr1
  clear hr1
  go_wp2_with (refine step_alloc zSp rfl ?_)
  intro w2 g4 hr2 hl2 hb2
  have G4 := hide hr2
  have G22 := hide (G2.out.below hb2 G2.out.lt)
  have B2 := hide (hb1.trans (hb2.mono hb1.size))
  have hw4 : w.heap.size ≤ g4 := Nat.le_trans hb1.size hl2
  clear hr2 G2 hb1 hb2 hl1
  go_wp2_with (refine step_alloc zSp rfl ?_)
  intro w3 g5 hr3 hl3 hb3
  have G5 := hide hr3
  have G43 := hide (G4.out.below hb3 G4.out.lt)
  have G23 := hide (G22.out.below hb3 G22.out.lt)
  have B3 := hide (B2.out.trans (hb3.mono B2.out.size))
  have hw5 : w.heap.size ≤ g5 := Nat.le_trans B2.out.size hl3
  have n45 : g4 ≠ g5 := by have := G4.out.lt; omega
  have hc0 : w3.cell? ⟨g2, 0, none⟩ = some (.int .i64 b) := by rw [G23.out.cell]; rfl
  have hc1 : w3.cell? ⟨g2, 1, none⟩ = some (.int .i64 e) := by rw [G23.out.cell]; rfl
  clear hr3 G4 G22 hb3 hl2 hl3 B2
  go_wp2_with fail
  refine (split_int _ (e - b) _ HSUB.out h2 (by omega)).mono ?_
  rintro r w4 ⟨rfl, rfl⟩
  rw [HKE.out]
  go_wp2_with (refine step_alloc zSp rfl ?_)
  intro w5 g8 hr5 hl5 hb5
  have G8 := hide hr5
  clear hr5
  go_wp2_with (refine step_storeA (vs := [.int .i64 (b : Int), .int .i64 ((b : Int) + (k : Int))]) wSp rfl rfl rfl G8.out rfl (two_one _ _) rfl ?_)
  intro w6 hg6 hbut6
  have n58 : g5 ≠ g8 := by have := G5.out.lt; omega
  have n48 : g4 ≠ g8 := by have := G43.out.lt; omega
  have B46 := hide (hb5.trans (hbut6.below hl5))
  have G86 := hide hg6
  have G56 := hide (G5.out.below B46.out G5.out.lt)
  have G46 := hide (G43.out.below B46.out G43.out.lt)
  have G26 := hide (G23.out.below B46.out G23.out.lt)
  have B6 := hide (B3.out.trans (B46.out.mono B3.out.size))
  have hc0 : w6.cell? ⟨g2, 0, none⟩ = some (.int .i64 b) := by rw [G26.out.cell]; rfl
  have hc1 : w6.cell? ⟨g2, 1, none⟩ = some (.int .i64 e) := by rw [G26.out.cell]; rfl
  clear hb5 hbut6 hg6 G8 G5 G43 G23 hl5 B3
  go_wp2_with (refine step_alloc zSp rfl ?_)
  intro w7 g9 hr7 hl7 hb7
  have G9 := hide hr7
  clear hr7
  go_wp2_with (refine step_storeA (vs := [.int .i64 ((b : Int) + (k : Int)), .int .i64 (e : Int)]) wSp rfl rfl rfl G9.out rfl (two_one _ _) rfl ?_)
  intro w8 hg8 hbut8
  have B68 := hide (hb7.trans (hbut8.below hl7))
  have G98 := hide hg8
  have G88 := hide (G86.out.below B68.out G86.out.lt)
  have G58 := hide (G56.out.below B68.out G56.out.lt)
  have G48 := hide (G46.out.below B68.out G46.out.lt)
  have B8 := hide (B6.out.trans (B68.out.mono B6.out.size))
  have hc9 : w8.cell? ⟨g9, 0, none⟩ = some (.int .i64 ((b : Int) + (k : Int))) := by rw [G98.out.cell]; rfl
  have n59 : g5 ≠ g9 := by have := G56.out.lt; omega
  have n49 : g4 ≠ g9 := by have := G46.out.lt; omega
  clear hb7 hbut8 hg8 G9 G86 G56 G46 G26 hl7 B6
  have hu := Tryd.underlying92
  have hSS : ∀ v : World, v.heap[g8]? = w8.heap[g8]? → v.heap[g9]? = w8.heap[g9]? → v.rangeAt g8 0 [.int .i64 (b : Int), .int .i64 ((b : Int) + (k : Int))] ∧ v.rangeAt g9 0 [.int .i64 ((b : Int) + (k : Int)), .int .i64 (e : Int)] := fun v h1 h2 =>
    ⟨(show Blk v g8 _ _ from h1.trans G88.out).range 0 _ (by simp), (show Blk v g9 _ _ from h2.trans G98.out).range 0 _ (by simp)⟩
  rcases hr with ⟨hlt, q1, q2, q3, q4⟩ | ⟨hle, q1, q2, q3, q4⟩
  · have hlt' : (i : Int) < (b : Int) + (k : Int) := by omega
    have EN : Hid (spn b1 e1 = [.int .i64 (b : Int), .int .i64 ((b : Int) + (k : Int))]) := hide (by subst q1 q2; rfl)
    have EF : Hid (spn b2 e2 = [.int .i64 ((b : Int) + (k : Int)), .int .i64 (e : Int)]) := hide (by subst q3 q4; rfl)
    clear q1 q2 q3 q4
    go_wp2_with fail
    refine wp_region_noPanic ?_
    refine wp_region_held_drew (S := fun v : World => v.rangeAt g8 0 [.int .i64 (b : Int), .int .i64 ((b : Int) + (k : Int))] ∧ v.rangeAt g9 0 [.int .i64 ((b : Int) + (k : Int)), .int .i64 (e : Int)]) (by kernel_rfl) (hSS _ rfl rfl) (fun hHeld => ?_)
    refine takeH 0 37 (.agg #[.int .i64 (b : Int), .int .i64 ((b : Int) + (k : Int))]) hHeld rfl rfl (by kernel_rfl) (by kernel_rfl) (by kernel_rfl) (fun _ _ _ h => h) (yieldsIf_load_mid (by rfl) _ _ rfl g8 0 rfl _ _ (fun w h => h.1) hu rfl wSp.size) ?_
    simp only [Act.put, List.setIfInBounds_toArray, List.set_cons_zero, List.set_cons_succ]
    refine takeH 1 38 (.agg #[.int .i64 ((b : Int) + (k : Int)), .int .i64 (e : Int)]) hHeld rfl rfl (by kernel_rfl) (by kernel_rfl) (by kernel_rfl) (fun _ _ _ h => h) (yieldsIf_load_mid (by rfl) _ _ rfl g9 0 rfl _ _ (fun w h => h.2) hu rfl wSp.size) ?_
    simp only [Act.put, List.setIfInBounds_toArray, List.set_cons_zero, List.set_cons_succ]
    refine wpAnyH_ready (rs := [2]) (by kernel_rfl) (by simp) (AllReadyH.cons rfl (fun K hK => ?_) AllReadyH.nil)
    rw [if_pos (by rfl)]
    refine wp_storeW wSp rfl rfl rfl (G48.out.below ((Below.refl _ _).drew) G48.out.lt) rfl (two_one _ _) (by simp [spn]) ?_
    intro v5 hgs hbuts
    have hs8 : v5.heap[g8]? = w8.heap[g8]? := hbuts.block g8 n48.symm
    have hs9 : v5.heap[g9]? = w8.heap[g9]? := hbuts.block g9 n49.symm
    refine hK.out _ _ (hSS _ hs8 hs9) (fun hHeld => ?_)
    clear hK K
    simp only [Act.put]
    refine wpAnyH_ready (rs := [3]) (by kernel_rfl) (by simp) (AllReadyH.cons rfl (fun K hK => ?_) AllReadyH.nil)
    rw [if_pos (by rfl)]
    refine wp_storeW wSp rfl rfl rfl ((G58.out.below ((Below.refl _ _).drew) G58.out.lt).but hbuts n45.symm) rfl (two_one _ _) (by simp [spn]) ?_
    intro v6 hgt hbutt
    refine hK.out _ _ (hSS _ ((hbutt.block g8 n58.symm).trans hs8) ((hbutt.block g9 n59.symm).trans hs9)) (fun hHeld => ?_)
    clear hK K
    simp only [Act.put]
    refine wpAnyH_done (by kernel_rfl) ?_ _
    refine NoPanic.normal ?_
    clear hHeld
    have hgs' := hgs.but hbutt n45
    go_wp2
    refine bodyPost_ret (results_twoW rfl wSp wSp _ _ rfl rfl hgs' hgt rfl rfl) rfl ⟨by rw [EN.out, EF.out]; rfl, ?_⟩
    exact (((B8.out.drew).trans (hbuts.below hw4)).trans (hbutt.below hw5))
  · have hlt' : ¬ ((i : Int) < (b : Int) + (k : Int)) := by omega
    have EN : Hid (spn b1 e1 = [.int .i64 ((b : Int) + (k : Int)), .int .i64 (e : Int)]) := hide (by subst q1 q2; rfl)
    have EF : Hid (spn b2 e2 = [.int .i64 (b : Int), .int .i64 ((b : Int) + (k : Int))]) := hide (by subst q3 q4; rfl)
    clear q1 q2 q3 q4
    go_wp2_with fail
    refine wp_region_noPanic ?_
    refine wp_region_held_drew (S := fun v : World => v.rangeAt g8 0 [.int .i64 (b : Int), .int .i64 ((b : Int) + (k : Int))] ∧ v.rangeAt g9 0 [.int .i64 ((b : Int) + (k : Int)), .int .i64 (e : Int)]) (by kernel_rfl) (hSS _ rfl rfl) (fun hHeld => ?_)
    refine takeH 0 39 (.agg #[.int .i64 ((b : Int) + (k : Int)), .int .i64 (e : Int)]) hHeld rfl rfl (by kernel_rfl) (by kernel_rfl) (by kernel_rfl) (fun _ _ _ h => h) (yieldsIf_load_mid (by rfl) _ _ rfl g9 0 rfl _ _ (fun w h => h.2) hu rfl wSp.size) ?_
    simp only [Act.put, List.setIfInBounds_toArray, List.set_cons_zero, List.set_cons_succ]
    refine takeH 1 40 (.agg #[.int .i64 (b : Int), .int .i64 ((b : Int) + (k : Int))]) hHeld rfl rfl (by kernel_rfl) (by kernel_rfl) (by kernel_rfl) (fun _ _ _ h => h) (yieldsIf_load_mid (by rfl) _ _ rfl g8 0 rfl _ _ (fun w h => h.1) hu rfl wSp.size) ?_
    simp only [Act.put, List.setIfInBounds_toArray, List.set_cons_zero, List.set_cons_succ]
    refine wpAnyH_ready (rs := [2]) (by kernel_rfl) (by simp) (AllReadyH.cons rfl (fun K hK => ?_) AllReadyH.nil)
    rw [if_pos (by rfl)]
    refine wp_storeW wSp rfl rfl rfl (G48.out.below ((Below.refl _ _).drew) G48.out.lt) rfl (two_one _ _) (by simp [spn]) ?_
    intro v5 hgs hbuts
    have hs8 : v5.heap[g8]? = w8.heap[g8]? := hbuts.block g8 n48.symm
    have hs9 : v5.heap[g9]? = w8.heap[g9]? := hbuts.block g9 n49.symm
    refine hK.out _ _ (hSS _ hs8 hs9) (fun hHeld => ?_)
    clear hK K
    simp only [Act.put]
    refine wpAnyH_ready (rs := [3]) (by kernel_rfl) (by simp) (AllReadyH.cons rfl (fun K hK => ?_) AllReadyH.nil)
    rw [if_pos (by rfl)]
    refine wp_storeW wSp rfl rfl rfl ((G58.out.below ((Below.refl _ _).drew) G58.out.lt).but hbuts n45.symm) rfl (two_one _ _) (by simp [spn]) ?_
    intro v6 hgt hbutt
    refine hK.out _ _ (hSS _ ((hbutt.block g8 n58.symm).trans hs8) ((hbutt.block g9 n59.symm).trans hs9)) (fun hHeld => ?_)
    clear hK K
    simp only [Act.put]
    refine wpAnyH_done (by kernel_rfl) ?_ _
    refine NoPanic.normal ?_
    clear hHeld
    have hgs' := hgs.but hbutt n45
    go_wp2
    refine bodyPost_ret (results_twoW rfl wSp wSp _ _ rfl rfl hgs' hgt rfl rfl) rfl ⟨by rw [EN.out, EF.out]; rfl, ?_⟩
    exact (((B8.out.drew).trans (hbuts.below hw4)).trans (hbutt.below hw5))

end Go.Proofs.YtojepbapdjkknaaDoor

/-
  The program's Inclusion: the closure that tells the proof of a span.
-/
namespace Go.Proofs.YtojepbapdjkknaaDoor
open Go.RowKit
set_option linter.unusedVariables false

/-- What the closure of Inclusion holds: the leaf's span, the leaf's place, itself, the leaves. -/
structure Env (w : World) (gl gi gp gd i bl o n cap : Nat) (xs : List Int) : Prop where
  leaf : Blk w gl 92 (spn i (i + 1))
  at' : Blk w gi 3 [.int .i64 (i : Int)]
  self : Blk w gp 93 [.func (.func 53) #[] #[.pointer (some ⟨gl, 0, none⟩), .pointer (some ⟨gi, 0, none⟩), .pointer (some ⟨gp, 0, none⟩), .pointer (some ⟨gd, 0, none⟩)]]
  var : Blk w gd 22 [.slice (some ⟨bl, o, none⟩) n cap]
  ds : Ds w (some ⟨bl, o, none⟩) n cap xs
  kt : KT w
theorem Env.below {w w' : World} {gl gi gp gd i bl o n cap : Nat} {xs : List Int} (h : Env w gl gi gp gd i bl o n cap xs) (hb : Below w.heap.size w w') : Env w' gl gi gp gd i bl o n cap xs :=
  ⟨h.leaf.below hb h.leaf.lt, h.at'.below hb h.at'.lt, h.self.below hb h.self.lt, h.var.below hb h.var.lt, h.ds.below hb, h.kt.below hb h.kt.lt⟩

theorem sub_lo {xs : List Int} {n b e : Nat} (h : xs.length = 32 * n) (hb : b ≤ e) (he : e ≤ n) (h2 : 2 ≤ e - b) (hn : e < 2 ^ 64) : lo (sub xs b e) = sub xs b (b + hf (e - b)) := by
  have hl := sub_length h hb he
  have hbd := hf_bd (e - b) h2 (by omega)
  rw [lo_eq hl]
  unfold sub
  rw [List.take_take, show b + hf (e - b) - b = hf (e - b) by omega, Nat.min_eq_left (by omega)]
theorem sub_hi {xs : List Int} {n b e : Nat} (h : xs.length = 32 * n) (hb : b ≤ e) (he : e ≤ n) (h2 : 2 ≤ e - b) (hn : e < 2 ^ 64) : hi (sub xs b e) = sub xs (b + hf (e - b)) e := by
  have hl := sub_length h hb he
  have hbd := hf_bd (e - b) h2 (by omega)
  rw [hi_eq hl]
  unfold sub
  rw [List.drop_take, List.drop_drop]
  congr 1
  · omega
  · congr 1
    omega

theorem eqSp (w : World) (a b c d : Int) : (Op.equalIn 10000 92 (.agg #[.int .i64 a, .int .i64 b]) (.agg #[.int .i64 c, .int .i64 d])).run Tryd.prog w = .ok (a == c && b == d) w := by
  by_cases h1 : a = c <;> by_cases h2 : b = d <;> go_simp
theorem guardSp : Tryd.prog.eqGuardType Tryd.prog.depth 92 = false := by kernel_rfl
section
variable {dst : Option Tmp} {ty : TypeId} {pos : String} {aft : Array Edge} {gd : Option (Nat × Bool)} {ops : Array Oper} {rest : List Oper} {a : Act} {w : World} {Q : Exit → Act → World → Prop}
theorem step_eqSp {t' : TypeId} {x y : Operand} {b e b' e' : Nat} (q : Bool) (hq : q = decide (b = b' ∧ e = e')) (hw : Region.wanted ⟨dst, .binOp .eql 92 x y t', ty, pos, aft, gd⟩ (yielded ops a.tmps) = true)
    (hx : a.eval x = .agg (spn b e).toArray) (hy : a.eval y = .agg (spn b' e').toArray) (h : wpList Tryd.prog ops Q rest (a.put dst (.bool q)) w) :
    wpList Tryd.prog ops Q (⟨dst, .binOp .eql 92 x y t', ty, pos, aft, gd⟩ :: rest) a w := by
  refine step_run hw (.bool q) w ?_ h
  have e0 : (((b : Int) == (b' : Int)) && ((e : Int) == (e' : Int))) = q := by
    subst hq
    by_cases h1 : b = b' <;> by_cases h2 : e = e' <;> simp [h1, h2] <;> omega
  have e1 := eqSp w b e b' e'
  rw [e0] at e1
  have e2 : (Op.equalIn 10000 92 (.agg (spn b e).toArray) (.agg (spn b' e').toArray)).run Tryd.prog w = .ok q w := e1
  simp [execOp, hx, hy, run_eqGuard_agg (P := Tryd.prog) w .eql 92 x y _ _ guardSp, run_eql_struct, e2, Result.andThen]
end

set_option maxRecDepth 100000 in
set_option maxHeartbeats 1000000 in
theorem incl1_one (gl gi gp gd i bl o n cap : Nat) (xs : List Int) (w : World) (hE : Env w gl gi gp gd i bl o n cap xs) (hi' : i < n) :
    Calls Tryd.prog 53 #[.agg (spn i (i + 1)).toArray, .pointer (some ⟨gl, 0, none⟩), .pointer (some ⟨gi, 0, none⟩), .pointer (some ⟨gp, 0, none⟩), .pointer (some ⟨gd, 0, none⟩)] w
      fun r w' => ∃ v, r = .returned v ∧ (∃ q, DOwn w' w.heap.size v q (path (sub xs i (i + 1)) 0)) ∧ Below w.heap.size w w' := by
  have EP := hide (path_one (i := 0) (show (sub xs i (i + 1)).length = 32 by rw [sub_length hE.ds.hlen (by omega) (by omega)]; omega))
  rw [EP.out]
  have HE := hide hE
  clear hE
  go_enter Tryd.func53, Tryd.ntmps53
  go_wp2_with (refine step_box (cs := spn i (i + 1)) rfl rfl ?_)
  intro w1 g5 hr1 hl1 hb1
  have G5 := hide hr1
  have GL := hide (HE.out.leaf.below hb1 HE.out.leaf.lt)
  clear hr1
  go_wp2_with (first | (refine step_loadA wSp rfl rfl G5.out rfl ?_) | (refine step_loadA wSp rfl rfl GL.out rfl ?_) | (refine step_eqSp true (by simp) rfl rfl rfl ?_))
  go_ret
  exact ⟨_, rfl, ⟨0, DOwn.nil _ _⟩, hb1⟩

set_option maxRecDepth 100000 in
set_option maxHeartbeats 4000000 in
theorem incl1_any (gl gi gp gd i bl o n cap : Nat) (xs : List Int) (hi' : i < n) : ∀ (m b e : Nat) (w : World), e - b ≤ m → b ≤ i → i < e → e ≤ n → Env w gl gi gp gd i bl o n cap xs →
    Calls Tryd.prog 53 #[.agg (spn b e).toArray, .pointer (some ⟨gl, 0, none⟩), .pointer (some ⟨gi, 0, none⟩), .pointer (some ⟨gp, 0, none⟩), .pointer (some ⟨gd, 0, none⟩)] w
      fun r w' => ∃ v, r = .returned v ∧ (∃ q, DOwn w' w.heap.size v q (path (sub xs b e) (i - b))) ∧ Below w.heap.size w w' := by
  intro m
  induction m with
  | zero => intro b e w hm hb hie hen hE; omega
  | succ m ih =>
    intro b e w hm hb hie hen hE
    by_cases h1 : e - b = 1
    · obtain rfl : b = i := by omega
      obtain rfl : e = b + 1 := by omega
      rw [Nat.sub_self]
      exact incl1_one gl gi gp gd b bl o n cap xs w hE hi'
    have h2 : 2 ≤ e - b := by omega
    have hre := hE.ds.hreach
    have hx := hE.ds.hlen
    have hxb := hE.ds.hbyte
    have hsl := sub_length hx (show b ≤ e by omega) hen
    have hsb := sub_isB hxb b e
    have hbd := hf_bd (e - b) h2 (by omega)
    have ELO := hide (sub_lo hx (by omega) hen h2 (by omega))
    have EHI := hide (sub_hi hx (by omega) hen h2 (by omega))
    obtain ⟨b1, e1, b2, e2, hr, EP0, hb1i, hi1e, he1n, hlt1, hb2, he2⟩ : ∃ b1 e1 b2 e2, ((i < b + hf (e - b) ∧ b1 = b ∧ e1 = b + hf (e - b) ∧ b2 = b + hf (e - b) ∧ e2 = e) ∨ (b + hf (e - b) ≤ i ∧ b1 = b + hf (e - b) ∧ e1 = e ∧ b2 = b ∧ e2 = b + hf (e - b))) ∧
        path (sub xs b e) (i - b) = path (sub xs b1 e1) (i - b1) ++ root (sub xs b2 e2) ∧ b1 ≤ i ∧ i < e1 ∧ e1 ≤ n ∧ e1 - b1 ≤ m ∧ b2 < e2 ∧ e2 ≤ n := by
      by_cases hlt : i < b + hf (e - b)
      · refine ⟨b, b + hf (e - b), b + hf (e - b), e, .inl ⟨hlt, rfl, rfl, rfl, rfl⟩, ?_, by omega, by omega, by omega, by omega, by omega, by omega⟩
        rw [path_lo hsl h2 (by omega) (by omega), ELO.out, EHI.out]
      · refine ⟨b + hf (e - b), e, b, b + hf (e - b), .inr ⟨by omega, rfl, rfl, rfl, rfl⟩, ?_, by omega, by omega, by omega, by omega, by omega, by omega⟩
        rw [path_hi hsl h2 (by omega) (by omega), ELO.out, EHI.out, show i - b - hf (e - b) = i - (b + hf (e - b)) by omega]
    have EP := hide EP0
    have HL2 := hide (root_length (sub_length hx (show b2 ≤ e2 by omega) he2) (sub_isB hxb b2 e2))
    have HB2 := hide (root_isB (sub_length hx (show b2 ≤ e2 by omega) he2) (sub_isB hxb b2 e2))
    have PB : Hid ((path (sub xs b1 e1) (i - b1)).length ≤ 2048) := hide (by
      obtain ⟨⟨q, hq, hl⟩, _⟩ := path_bd _ (e1 - b1) (i - b1) (sub xs b1 e1) (Nat.le_refl _) (by omega) (sub_length hx (by omega) he1n) (by omega) (sub_isB hxb b1 e1) (by omega)
      have := Lib.bitLen_le (e1 - b1 - 1) 64 (Nat.le_refl _) (by omega)
      omega)
    have HR := hide hr
    have HE := hide hE
    clear hE hr EP0 ELO EHI hx hxb hsl hsb
    go_enter Tryd.func53, Tryd.ntmps53
    go_wp2_with (refine step_box (cs := spn b e) rfl rfl ?_)
    intro w1 g5 hr1 hl1 hbw1
    have G5 := hide hr1
    have E1 := hide (HE.out.below hbw1)
    have B1 := hide hbw1
    have GL := hide E1.out.leaf
    have hci : w1.cell? ⟨gi, 0, none⟩ = some (.int .i64 (i : Int)) := by rw [E1.out.at'.cell]; rfl
    clear hr1 hbw1
    go_wp2_with (first | (refine step_loadA wSp rfl rfl G5.out rfl ?_) | (refine step_loadA wSp rfl rfl GL.out rfl ?_) | (refine step_eqSp false (by symm; rw [decide_eq_false_iff_not]; omega) rfl rfl rfl ?_))
    refine (halves_any b e i (hf (e - b)) _ _ rfl h2 (by omega) (by omega) rfl b1 e1 b2 e2 HR.out).mono ?_
    rintro r w2 ⟨rfl, hb2w⟩
    have E2 := hide (E1.out.below hb2w)
    have B2 := hide (B1.out.trans (hb2w.mono B1.out.size))
    clear hb2w E1 G5 GL hci B1 hl1
    go_wp2_with (refine step_alloc zSp rfl ?_)
    intro w3 g7 hr3 hl3 hb3
    have G7 := hide hr3
    clear hr3
    go_wp2_with (refine step_alloc zSp rfl ?_)
    intro w4 g8 hr4 hl4 hb4
    have G8 := hide hr4
    have G74 := hide (G7.out.below hb4 G7.out.lt)
    have n78 : g7 ≠ g8 := by have := G7.out.lt; omega
    have B24 := hide (hb3.trans (hb4.mono hb3.size))
    have h28 : w2.heap.size ≤ g8 := Nat.le_trans hb3.size hl4
    clear hr4 hb3 hb4 G7
    go_wp2_with (refine step_storeA (vs := spn b1 e1) wSp rfl rfl rfl G74.out rfl (spn_one _ _) rfl ?_)
    intro w5 hg5 hbut5
    have G85 := hide (G8.out.but hbut5 n78.symm)
    have G75 := hide hg5
    have B25 := hide (B24.out.trans (hbut5.below hl3))
    clear hg5 hbut5 G8 G74 B24
    go_wp2_with (refine step_storeA (vs := spn b2 e2) wSp rfl rfl rfl G85.out rfl (spn_one _ _) rfl ?_)
    intro w6 hg6 hbut6
    have G86 := hide hg6
    have G76 := hide (G75.out.but hbut6 n78)
    have B26 := hide (B25.out.trans (hbut6.below h28))
    have E6 := hide (E2.out.below B26.out)
    have B6 := hide (B2.out.trans (B26.out.mono B2.out.size))
    clear hg6 hbut6 G85 G75 B25 E2 B26 B2 hl3 hl4
    have hu := Tryd.underlying92
    have hSS : ∀ v : World, Below w6.heap.size w6 v → v.cell? ⟨gp, 0, none⟩ = some (.func (.func 53) #[] #[.pointer (some ⟨gl, 0, none⟩), .pointer (some ⟨gi, 0, none⟩), .pointer (some ⟨gp, 0, none⟩), .pointer (some ⟨gd, 0, none⟩)]) ∧ v.rangeAt g7 0 (spn b1 e1) ∧ v.cell? ⟨gd, 0, none⟩ = some (.slice (some ⟨bl, o, none⟩) n cap) ∧ v.rangeAt g8 0 (spn b2 e2) := fun v hv =>
      ⟨by rw [(E6.out.below hv).self.cell]; rfl, (G76.out.below hv G76.out.lt).range 0 _ (by simp [spn]), by rw [(E6.out.below hv).var.cell]; rfl, (G86.out.below hv G86.out.lt).range 0 _ (by simp [spn])⟩
    go_wp2_with fail
    refine wp_region_noPanic ?_
    have B0 := hide ((Below.refl w6.heap.size w6).drew)
    refine wp_region_held_drew (S := fun v : World => v.cell? ⟨gp, 0, none⟩ = some (.func (.func 53) #[] #[.pointer (some ⟨gl, 0, none⟩), .pointer (some ⟨gi, 0, none⟩), .pointer (some ⟨gp, 0, none⟩), .pointer (some ⟨gd, 0, none⟩)]) ∧ v.rangeAt g7 0 (spn b1 e1) ∧ v.cell? ⟨gd, 0, none⟩ = some (.slice (some ⟨bl, o, none⟩) n cap) ∧ v.rangeAt g8 0 (spn b2 e2)) (by kernel_rfl) (hSS _ B0.out) (fun hHeld => ?_)
    refine takeH 0 18 (.func (.func 53) #[] #[.pointer (some ⟨gl, 0, none⟩), .pointer (some ⟨gi, 0, none⟩), .pointer (some ⟨gp, 0, none⟩), .pointer (some ⟨gd, 0, none⟩)]) hHeld rfl rfl (by kernel_rfl) (by kernel_rfl) (by kernel_rfl) (fun _ _ _ h => h) (Or.inl ⟨by rfl, fun w hw => by have hw' := hw.1; go_simp⟩) ?_
    simp only [Act.put, List.setIfInBounds_toArray, List.set_cons_zero, List.set_cons_succ]
    refine takeH 1 19 (.agg (spn b1 e1).toArray) hHeld rfl rfl (by kernel_rfl) (by kernel_rfl) (by kernel_rfl) (fun _ _ _ h => h) (yieldsIf_load_mid (by rfl) _ _ rfl g7 0 rfl _ _ (fun w h => h.2.1) hu rfl wSp.size) ?_
    simp only [Act.put, List.setIfInBounds_toArray, List.set_cons_zero, List.set_cons_succ]
    refine takeH 3 21 (.slice (some ⟨bl, o, none⟩) n cap) hHeld rfl rfl (by kernel_rfl) (by kernel_rfl) (by kernel_rfl) (fun _ _ _ h => h) (Or.inl ⟨by rfl, fun w hw => by have hw' := hw.2.2.1; go_simp⟩) ?_
    simp only [Act.put, List.setIfInBounds_toArray, List.set_cons_zero, List.set_cons_succ]
    refine takeH 4 22 (.agg (spn b2 e2).toArray) hHeld rfl rfl (by kernel_rfl) (by kernel_rfl) (by kernel_rfl) (fun _ _ _ h => h) (yieldsIf_load_mid (by rfl) _ _ rfl g8 0 rfl _ _ (fun w h => h.2.2.2) hu rfl wSp.size) ?_
    simp only [Act.put, List.setIfInBounds_toArray, List.set_cons_zero, List.set_cons_succ]
    refine wpAnyH_ready (rs := [2]) (by kernel_rfl) (by simp) (AllReadyH.cons rfl (fun K hK => ?_) AllReadyH.nil)
    rw [if_pos (by rfl)]
    go_simp
    refine (ih b1 e1 _ hlt1 hb1i hi1e he1n (E6.out.below B0.out)).mono ?_
    rintro r v1 ⟨u1, rfl, ⟨q1, ho1⟩, hv1⟩
    have B1 := hide (B0.out.trans (hv1.mono B0.out.size))
    refine hK.out _ _ (hSS _ B1.out) (fun hHeld => ?_)
    clear hK K
    refine wpAnyH_ready (rs := [5]) (by kernel_rfl) (by simp) (AllReadyH.cons rfl (fun K hK => ?_) AllReadyH.nil)
    rw [if_pos (by rfl)]
    go_simp
    refine (rootOf_any bl o n cap b2 e2 _ _ xs _ (E6.out.below B1.out).ds rfl rfl hb2 he2 (E6.out.below B1.out).kt).mono ?_
    rintro r v2 ⟨rfl, hv2⟩
    have B2 := hide (B1.out.trans (hv2.mono B1.out.size))
    have ho2 := ho1.below hv2
    refine hK.out _ _ (hSS _ B2.out) (fun hHeld => ?_)
    clear hK K
    refine wpAnyH_ready (rs := [6]) (by kernel_rfl) (by simp) (AllReadyH.cons rfl (fun K hK => ?_) AllReadyH.nil)
    rw [if_pos (by rfl)]
    refine wp_oneD rfl HL2.out HB2.out ?_
    intro v3 gq hsq hv3
    have B3 := hide (B2.out.trans (hv3.mono B2.out.size))
    have ho3 := ho2.below hv3
    refine hK.out _ _ (hSS _ B3.out) (fun hHeld => ?_)
    clear hK K
    simp only [Act.put]
    refine wpAnyH_ready (rs := [7]) (by kernel_rfl) (by simp) (AllReadyH.cons rfl (fun K hK => ?_) AllReadyH.nil)
    rw [if_pos (by rfl)]
    have hq1 : 32 * q1 = (path (sub xs b1 e1) (i - b1)).length := ho3.len.symm
    refine wp_appendDG rfl rfl ho3 hsq (by have := PB.out; omega) (Nat.le_trans hv1.size (Nat.le_trans hv2.size hv3.size)) ?_
    intro u4 v4 ho4 hg4
    have B4 := hide (B3.out.trans (Below.of_grown hg4 B3.out.size (fun k hk => Nat.le_trans B0.out.size (ho3.lt k hk))))
    rw [← EP.out] at ho4
    refine hK.out _ _ (hSS _ B4.out) (fun hHeld => ?_)
    clear hK K
    simp only [Act.put]
    refine takeH 8 6 (u4) hHeld rfl rfl (by kernel_rfl) (by kernel_rfl) (by kernel_rfl) (fun _ _ _ h => h) (Or.inl ⟨by rfl, fun w _ => by go_simp⟩) ?_
    simp only [Act.put, List.setIfInBounds_toArray, List.set_cons_zero, List.set_cons_succ]
    refine wpAnyH_done (by kernel_rfl) ?_ _
    refine NoPanic.normal ?_
    clear hHeld
    go_wp2
    go_ret
    exact ⟨_, rfl, ⟨_, ho4.base (Nat.le_trans B6.out.size B0.out.size)⟩, B6.out.trans (B4.out.mono B6.out.size)⟩

/-- What Inclusion answers: an error, or the proof. -/
def inE (n : Nat) (i m : Int) : Int := if m < 1 ∨ (n : Int) < m ∨ i < 0 ∨ m ≤ i then 40 else 0
def inP (xs : List Int) (n : Nat) (i m : Int) : List Int := if m < 1 ∨ (n : Int) < m ∨ i < 0 ∨ m ≤ i then [] else path (sub xs 0 m.toNat) i.toNat
theorem inP_bd {xs : List Int} {n : Nat} (i m : Int) (h : xs.length = 32 * n) (hb : isB xs) (hn : n < 2 ^ 63) : (∃ q, (inP xs n i m).length = 32 * q ∧ q ≤ 64) ∧ isB (inP xs n i m) := by
  unfold inP
  split
  · exact ⟨⟨0, rfl, by omega⟩, by intro x hx; simp at hx⟩
  · obtain ⟨⟨q, hq, hl⟩, hB⟩ := path_bd _ (m.toNat - 0) i.toNat (sub xs 0 m.toNat) (Nat.le_refl _) (by omega) (sub_length h (by omega) (by omega)) (by omega) (sub_isB hb _ _) (by omega)
    have := Lib.bitLen_le (m.toNat - 0 - 1) 64 (Nat.le_refl _) (by omega)
    exact ⟨⟨q, hq, by omega⟩, hB⟩
section
variable {dst : Option Tmp} {ty : TypeId} {pos : String} {aft : Array Edge} {gd : Option (Nat × Bool)} {ops : Array Oper} {rest : List Oper} {a : Act} {w : World} {Q : Exit → Act → World → Prop}
/-- A value of one cell gets a place of its own. -/
theorem step_box1 {T : TypeId} {x : Operand} {v : Value} (hw : Region.wanted ⟨dst, .box T x, ty, pos, aft, gd⟩ (yielded ops a.tmps) = true) (hx : a.eval x = v) (hv : v.cells = #[v])
    (h : ∀ w1 g, Blk w1 g T [v] → w.heap.size ≤ g → Below w.heap.size w w1 → wpList Tryd.prog ops Q rest (a.put dst (.pointer (some ⟨g, 0, none⟩))) w1) :
    wpList Tryd.prog ops Q (⟨dst, .box T x, ty, pos, aft, gd⟩ :: rest) a w :=
  step_run hw (.pointer (some ⟨w.heap.size, 0, none⟩)) (w.alloc (.cells [v].toArray T))
    (by simp [execOp, hx, Instr.box, newVar, newRow, Result.andThen, hv]) (h _ _ (Blk.made _ _ _) (Nat.le_refl _) ((Below.refl _ _).alloc (Nat.le_refl _) _))
end
theorem zFn : Zeroed 93 [.nilFunc] := fun _ _ _ _ _ _ _ => by kernel_rfl

end Go.Proofs.YtojepbapdjkknaaDoor

/-
  A tree's own inclusion proof leads to its root. No program here.
-/
namespace Go.Proofs.YtojepbapdjkknaaDoor
open Go.RowKit
set_option linter.unusedVariables false

theorem dat_last (P R : List Int) (q : Nat) (hP : P.length = 32 * q) (hR : R.length = 32) : dat (P ++ R) q = R ∧ (P ++ R).take (32 * q) = P := by
  refine ⟨?_, ?_⟩
  · unfold dat
    rw [← hP, List.drop_left, List.take_of_length_le (by omega)]
  · rw [← hP, List.take_left]
theorem sub_one {xs : List Int} {n : Nat} (h : xs.length = 32 * n) (i : Nat) (hi' : i < n) : sub xs i (i + 1) = dat xs i ∧ (sub xs i (i + 1)).length = 32 := by
  refine ⟨by simp [sub, dat], ?_⟩
  rw [sub_length h (by omega) (by omega)]
  omega
theorem path_leads {xs : List Int} {N i : Nat} (hx : xs.length = 32 * N) (hxb : isB xs) (hN : N ≤ 281474976710656) : ∀ (f b n : Nat), n ≤ f → b ≤ i → i < b + n → b + n ≤ N →
    (path (sub xs b (b + n)) (i - b)).length = 32 * (hvL i b n).length ∧ fu (hvL i b n) (path (sub xs b (b + n)) (i - b)) (dat xs i) (hvL i b n).length = root (sub xs b (b + n))
  | 0, b, n, h, _, _, _ => by omega
  | f + 1, b, n, h, h1, h2, h3 => by
    have hsl := sub_length hx (show b ≤ b + n by omega) h3
    rw [show b + n - b = n by omega] at hsl
    by_cases hn : n = 1
    · subst hn
      obtain rfl : b = i := by omega
      obtain ⟨e1, e2⟩ := sub_one hx b (by omega)
      rw [hvL_one, path_one e2, root_one e2, e1]
      exact ⟨rfl, rfl⟩
    · have hn2 : 2 ≤ n := by omega
      have hh := hf_bd n hn2 (by omega)
      have e : b + n - b = n := by omega
      have hlo := sub_lo hx (show b ≤ b + n by omega) h3 (by omega) (by omega)
      have hhi := sub_hi hx (show b ≤ b + n by omega) h3 (by omega) (by omega)
      rw [e] at hlo hhi
      have hrn := root_node hsl hn2 (by omega)
      rw [hlo, hhi] at hrn
      by_cases hc : i < b + hf n
      · obtain ⟨i1, i2⟩ := path_leads (i := i) hx hxb hN f b (hf n) (by omega) h1 hc (by omega)
        have hR : (root (sub xs (b + hf n) (b + n))).length = 32 := root_length (sub_length hx (by omega) h3) (sub_isB hxb _ _)
        rw [hvL_lo hn2 (by omega) h1 hc, path_lo (i := i - b) hsl hn2 (by omega) (by omega), hlo, hhi, List.length_append, List.length_append, i1, hR, List.length_singleton]
        obtain ⟨d1, d2⟩ := dat_last _ _ _ i1 hR
        refine ⟨by omega, ?_⟩
        rw [fu_snoc, d1, d2, i2, hrn]
        rfl
      · obtain ⟨i1, i2⟩ := path_leads (i := i) hx hxb hN f (b + hf n) (n - hf n) (by omega) (by omega) (by omega) (by omega)
        rw [show b + hf n + (n - hf n) = b + n by omega] at i1 i2
        have hR : (root (sub xs b (b + hf n))).length = 32 := root_length (sub_length hx (show b ≤ b + hf n by omega) (show b + hf n ≤ N by omega)) (sub_isB hxb _ _)
        rw [hvL_hi hn2 (by omega) h2 hc, path_hi (i := i - b) hsl hn2 (by omega) (by omega), hlo, hhi, show i - b - hf n = i - (b + hf n) by omega, List.length_append, List.length_append, i1, hR, List.length_singleton]
        obtain ⟨d1, d2⟩ := dat_last _ _ _ i1 hR
        refine ⟨by omega, ?_⟩
        rw [fu_snoc, d1, d2, i2, hrn]
        rfl
/-- .. of the first n leaves. -/
theorem path_root {xs : List Int} {N i n : Nat} (hx : xs.length = 32 * N) (hxb : isB xs) (hN : N ≤ 281474976710656) (hi' : i < n) (hn : n ≤ N) :
    (path (sub xs 0 n) i).length = 32 * (hvL i 0 n).length ∧ fu (hvL i 0 n) (path (sub xs 0 n) i) (dat xs i) (hvL i 0 n).length = root (sub xs 0 n) := by
  have := path_leads hx hxb hN n 0 n (Nat.le_refl _) (Nat.zero_le i) (by omega) (by omega)
  rwa [Nat.zero_add, Nat.sub_zero] at this

end Go.Proofs.YtojepbapdjkknaaDoor

/-
  The document's steps.
-/
namespace Go.Proofs.YtojepbapdjkknaaDoor
open Go.RowKit
set_option linter.unusedVariables false

section
variable {dst : Option Tmp} {ty : TypeId} {pos : String} {aft : Array Edge} {gd : Option (Nat × Bool)} {ops : Array Oper} {rest : List Oper} {a : Act} {w : World} {Q : Exit → Act → World → Prop}
set_option maxRecDepth 100000 in
theorem step_oneD {x : Operand} {ds : List Int} (hw : Region.wanted ⟨dst, .buildSlice 22 1 #[(0, x)], ty, pos, aft, gd⟩ (yielded ops a.tmps) = true) (hx : a.eval x = .agg (u8s ds).toArray) (hd : ds.length = 32)
    (h : ∀ w1 v, DOwn w1 w.heap.size v 1 ds → Below w.heap.size w w1 → wpList Tryd.prog ops Q rest (a.put dst v) w1) :
    wpList Tryd.prog ops Q (⟨dst, .buildSlice 22 1 #[(0, x)], ty, pos, aft, gd⟩ :: rest) a w := by
  refine step_run hw (.slice (some ⟨w.heap.size, 0, none⟩) 1 1) (w.alloc (.cells (u8s ds).toArray 45)) ?_ (h _ _ ⟨by rw [u8s_length, hd], .inr ⟨w.heap.size, 1, (u8s ds).toArray, rfl, Nat.le_refl _, Blk.made w _ _, Nat.le_refl _, by unfold maxLen; omega, by simp [u8s_length, hd], List.take_of_length_le (by simp [u8s_length, hd])⟩⟩ ((Below.refl _ _).alloc (Nat.le_refl _) _))
  unfold execOp
  simp only [List.map_toArray, List.map_cons, List.map_nil, hx]
  simp only [Sem.run_bind, build_D ds hd, Result.andThen_ok, Sem.run_pure]
end


end Go.Proofs.YtojepbapdjkknaaDoor

/-
  The program's Consistency: the closure that tells the proof of a beginning; the document's Consistency.
-/
namespace Go.Proofs.YtojepbapdjkknaaDoor
open Go.RowKit
set_option linter.unusedVariables false

/-- What the closure of Consistency holds: the span of the beginning, its size, the leaves, itself. -/
structure Enc (w : World) (gl gi gd gp m bl o n cap : Nat) (xs : List Int) : Prop where
  leaf : Blk w gl 92 (spn 0 m)
  at' : Blk w gi 3 [.int .i64 (m : Int)]
  self : Blk w gp 93 [.func (.func 56) #[] #[.pointer (some ⟨gl, 0, none⟩), .pointer (some ⟨gi, 0, none⟩), .pointer (some ⟨gd, 0, none⟩), .pointer (some ⟨gp, 0, none⟩)]]
  var : Blk w gd 22 [.slice (some ⟨bl, o, none⟩) n cap]
  ds : Ds w (some ⟨bl, o, none⟩) n cap xs
  kt : KT w
theorem Enc.below {w w' : World} {gl gi gd gp m bl o n cap : Nat} {xs : List Int} (h : Enc w gl gi gd gp m bl o n cap xs) (hb : Below w.heap.size w w') : Enc w' gl gi gd gp m bl o n cap xs :=
  ⟨h.leaf.below hb h.leaf.lt, h.at'.below hb h.at'.lt, h.self.below hb h.self.lt, h.var.below hb h.var.lt, h.ds.below hb, h.kt.below hb h.kt.lt⟩

/-- Is the span a beginning? -/
def beg (b : Nat) : Bool := b == 0

set_option maxRecDepth 100000 in
set_option maxHeartbeats 4000000 in
theorem cons1_any (gl gi gd gp m bl o n cap : Nat) (xs : List Int) (hm0 : 0 < m) : ∀ (f b e : Nat) (w : World), e - b ≤ f → b < m → m ≤ e → e ≤ n → Enc w gl gi gd gp m bl o n cap xs →
    Calls Tryd.prog 56 #[.agg (spn b e).toArray, .pointer (some ⟨gl, 0, none⟩), .pointer (some ⟨gi, 0, none⟩), .pointer (some ⟨gd, 0, none⟩), .pointer (some ⟨gp, 0, none⟩)] w
      fun r w' => ∃ v, r = .returned v ∧ (∃ q, DOwn w' w.heap.size v q (steps (sub xs b e) (m - b) (beg b))) ∧ Below w.heap.size w w' := by
  intro f
  induction f with
  | zero => intro b e w hfu hb hme hen hE; omega
  | succ f ih =>
    intro b e w hfu hb hme hen hE
    have hre := hE.ds.hreach
    have hx := hE.ds.hlen
    have hxb := hE.ds.hbyte
    have hsl := sub_length hx (show b ≤ e by omega) hen
    have hsb := sub_isB hxb b e
    by_cases h1 : e = m
    · subst h1
      by_cases h0 : b = 0
      · subst h0
        have EP := hide (show steps (sub xs 0 e) (e - 0) (beg 0) = [] from steps_all (wh := true) hsl (by omega))
        rw [EP.out]
        have HE := hide hE
        clear hE hx hxb hsl hsb
        go_enter Tryd.func56, Tryd.ntmps56
        go_wp2_with (refine step_box (cs := spn 0 e) rfl rfl ?_)
        intro w1 g5 hr1 hl1 hb1
        have G5 := hide hr1
        have GL := hide (HE.out.leaf.below hb1 HE.out.leaf.lt)
        clear hr1
        go_wp2_with (first | (refine step_loadA wSp rfl rfl G5.out rfl ?_) | (refine step_loadA wSp rfl rfl GL.out rfl ?_) | (refine step_eqSp true (by simp) rfl rfl rfl ?_))
        go_ret
        exact ⟨_, rfl, ⟨0, DOwn.nil _ _⟩, hb1⟩
      · have hbg : beg b = false := by unfold beg; simp [h0]
        have EP := hide (show steps (sub xs b e) (e - b) (beg b) = root (sub xs b e) by rw [hbg]; exact steps_all (wh := false) hsl (by omega))
        have HRL := hide (root_length hsl hsb)
        rw [EP.out]
        have HE := hide hE
        clear hE hx hxb hsl hsb
        go_enter Tryd.func56, Tryd.ntmps56
        go_wp2_with (refine step_box (cs := spn b e) rfl rfl ?_)
        intro w1 g5 hr1 hl1 hb1
        have G5 := hide hr1
        have E1 := hide (HE.out.below hb1)
        have GL := hide E1.out.leaf
        have B1 := hide hb1
        have hci : w1.cell? ⟨gi, 0, none⟩ = some (.int .i64 (e : Int)) := by rw [E1.out.at'.cell]; rfl
        have hcd : w1.cell? ⟨gd, 0, none⟩ = some (.slice (some ⟨bl, o, none⟩) n cap) := by rw [E1.out.var.cell]; rfl
        have hc5 : w1.cell? ⟨g5, 1, none⟩ = some (.int .i64 (e : Int)) := by rw [G5.out.cell]; rfl
        clear hr1 hb1
        go_wp2_with (first | (refine step_loadA wSp rfl rfl G5.out rfl ?_) | (refine step_loadA wSp rfl rfl GL.out rfl ?_) | (refine step_eqSp false (by symm; rw [decide_eq_false_iff_not]; omega) rfl rfl rfl ?_))
        refine (rootOf_any bl o n cap b e _ _ xs _ E1.out.ds rfl rfl hb hen E1.out.kt).mono ?_
        rintro r w2 ⟨rfl, hb2⟩
        go_wp2_with (refine step_oneD rfl rfl HRL.out ?_; intro w3 v3 ho3 hb3)
        go_ret
        exact ⟨_, rfl, ⟨_, ho3.base (Nat.le_trans B1.out.size hb2.size)⟩, B1.out.trans ((hb2.trans (hb3.mono hb2.size)).mono B1.out.size)⟩
    have h2 : 2 ≤ e - b := by omega
    have hbd := hf_bd (e - b) h2 (by omega)
    have ELO := hide (sub_lo hx (by omega) hen h2 (by omega))
    have EHI := hide (sub_hi hx (by omega) hen h2 (by omega))
    obtain ⟨b1, e1, b2, e2, hr, EP0, hb1i, hi1e, he1n, hlt1, hb2, he2⟩ : ∃ b1 e1 b2 e2, ((m - 1 < b + hf (e - b) ∧ b1 = b ∧ e1 = b + hf (e - b) ∧ b2 = b + hf (e - b) ∧ e2 = e) ∨ (b + hf (e - b) ≤ m - 1 ∧ b1 = b + hf (e - b) ∧ e1 = e ∧ b2 = b ∧ e2 = b + hf (e - b))) ∧
        steps (sub xs b e) (m - b) (beg b) = steps (sub xs b1 e1) (m - b1) (beg b1) ++ root (sub xs b2 e2) ∧ b1 < m ∧ m ≤ e1 ∧ e1 ≤ n ∧ e1 - b1 ≤ f ∧ b2 < e2 ∧ e2 ≤ n := by
      by_cases hlt : m - 1 < b + hf (e - b)
      · refine ⟨b, b + hf (e - b), b + hf (e - b), e, .inl ⟨hlt, rfl, rfl, rfl, rfl⟩, ?_, by omega, by omega, by omega, by omega, by omega, by omega⟩
        rw [steps_lo hsl (by omega) (by omega) (by omega) (by omega), ELO.out, EHI.out]
      · refine ⟨b + hf (e - b), e, b, b + hf (e - b), .inr ⟨by omega, rfl, rfl, rfl, rfl⟩, ?_, by omega, by omega, by omega, by omega, by omega, by omega⟩
        have hbg : beg (b + hf (e - b)) = false := by unfold beg; simp; omega
        rw [steps_hi hsl (by omega) (by omega) (by omega), ELO.out, EHI.out, show m - b - hf (e - b) = m - (b + hf (e - b)) by omega, hbg]
    have EP := hide EP0
    have HL2 := hide (root_length (sub_length hx (show b2 ≤ e2 by omega) he2) (sub_isB hxb b2 e2))
    have HB2 := hide (root_isB (sub_length hx (show b2 ≤ e2 by omega) he2) (sub_isB hxb b2 e2))
    have PB : Hid ((steps (sub xs b1 e1) (m - b1) (beg b1)).length ≤ 2080) := hide (by
      obtain ⟨⟨q, hq, hl⟩, _⟩ := steps_bd _ (e1 - b1) (m - b1) (beg b1) (sub xs b1 e1) (Nat.le_refl _) (by omega) (by omega) (sub_length hx (by omega) he1n) (by omega) (sub_isB hxb b1 e1)
      have := Lib.bitLen_le (e1 - b1 - 1) 64 (Nat.le_refl _) (by omega)
      omega)
    have HR := hide hr
    have HE := hide hE
    have hem : ¬ ((e : Int) = (m : Int)) := by omega
    have hm1 : (m : Int) - 1 = ((m - 1 : Nat) : Int) := by omega
    have HM1 := hide hm1
    clear hE hr EP0 ELO EHI hx hxb hsl hsb hm1
    go_enter Tryd.func56, Tryd.ntmps56
    go_wp2_with (refine step_box (cs := spn b e) rfl rfl ?_)
    intro w1 g5 hr1 hl1 hbw1
    have G5 := hide hr1
    have E1 := hide (HE.out.below hbw1)
    have B1 := hide hbw1
    have GL := hide E1.out.leaf
    have hci : w1.cell? ⟨gi, 0, none⟩ = some (.int .i64 (m : Int)) := by rw [E1.out.at'.cell]; rfl
    have hc5 : w1.cell? ⟨g5, 1, none⟩ = some (.int .i64 (e : Int)) := by rw [G5.out.cell]; rfl
    clear hr1 hbw1
    go_wp2_with (first | (refine step_loadA wSp rfl rfl G5.out rfl ?_) | (refine step_loadA wSp rfl rfl GL.out rfl ?_) | (refine step_eqSp false (by symm; rw [decide_eq_false_iff_not]; omega) rfl rfl rfl ?_))
    refine (halves_any b e (m - 1) (hf (e - b)) _ _ HM1.out h2 (by omega) (by omega) rfl b1 e1 b2 e2 HR.out).mono ?_
    rintro r w2 ⟨rfl, hb2w⟩
    have E2 := hide (E1.out.below hb2w)
    have B2 := hide (B1.out.trans (hb2w.mono B1.out.size))
    clear hb2w E1 G5 GL hci hc5 B1 hl1
    go_wp2_with (refine step_alloc zSp rfl ?_)
    intro w3 g7 hr3 hl3 hb3
    have G7 := hide hr3
    clear hr3
    go_wp2_with (refine step_alloc zSp rfl ?_)
    intro w4 g8 hr4 hl4 hb4
    have G8 := hide hr4
    have G74 := hide (G7.out.below hb4 G7.out.lt)
    have n78 : g7 ≠ g8 := by have := G7.out.lt; omega
    have B24 := hide (hb3.trans (hb4.mono hb3.size))
    have h28 : w2.heap.size ≤ g8 := Nat.le_trans hb3.size hl4
    clear hr4 hb3 hb4 G7
    go_wp2_with (refine step_storeA (vs := spn b1 e1) wSp rfl rfl rfl G74.out rfl (spn_one _ _) rfl ?_)
    intro w5 hg5 hbut5
    have G85 := hide (G8.out.but hbut5 n78.symm)
    have G75 := hide hg5
    have B25 := hide (B24.out.trans (hbut5.below hl3))
    clear hg5 hbut5 G8 G74 B24
    go_wp2_with (refine step_storeA (vs := spn b2 e2) wSp rfl rfl rfl G85.out rfl (spn_one _ _) rfl ?_)
    intro w6 hg6 hbut6
    have G86 := hide hg6
    have G76 := hide (G75.out.but hbut6 n78)
    have B26 := hide (B25.out.trans (hbut6.below h28))
    have E6 := hide (E2.out.below B26.out)
    have B6 := hide (B2.out.trans (B26.out.mono B2.out.size))
    clear hg6 hbut6 G85 G75 B25 E2 B26 B2 hl3 hl4
    have hu := Tryd.underlying92
    have hSS : ∀ v : World, Below w6.heap.size w6 v → v.cell? ⟨gp, 0, none⟩ = some (.func (.func 56) #[] #[.pointer (some ⟨gl, 0, none⟩), .pointer (some ⟨gi, 0, none⟩), .pointer (some ⟨gd, 0, none⟩), .pointer (some ⟨gp, 0, none⟩)]) ∧ v.rangeAt g7 0 (spn b1 e1) ∧ v.cell? ⟨gd, 0, none⟩ = some (.slice (some ⟨bl, o, none⟩) n cap) ∧ v.rangeAt g8 0 (spn b2 e2) := fun v hv =>
      ⟨by rw [(E6.out.below hv).self.cell]; rfl, (G76.out.below hv G76.out.lt).range 0 _ (by simp [spn]), by rw [(E6.out.below hv).var.cell]; rfl, (G86.out.below hv G86.out.lt).range 0 _ (by simp [spn])⟩
    go_wp2_with fail
    refine wp_region_noPanic ?_
    have B0 := hide ((Below.refl w6.heap.size w6).drew)
    refine wp_region_held_drew (S := fun v : World => v.cell? ⟨gp, 0, none⟩ = some (.func (.func 56) #[] #[.pointer (some ⟨gl, 0, none⟩), .pointer (some ⟨gi, 0, none⟩), .pointer (some ⟨gd, 0, none⟩), .pointer (some ⟨gp, 0, none⟩)]) ∧ v.rangeAt g7 0 (spn b1 e1) ∧ v.cell? ⟨gd, 0, none⟩ = some (.slice (some ⟨bl, o, none⟩) n cap) ∧ v.rangeAt g8 0 (spn b2 e2)) (by kernel_rfl) (hSS _ B0.out) (fun hHeld => ?_)
    refine takeH 0 27 (.func (.func 56) #[] #[.pointer (some ⟨gl, 0, none⟩), .pointer (some ⟨gi, 0, none⟩), .pointer (some ⟨gd, 0, none⟩), .pointer (some ⟨gp, 0, none⟩)]) hHeld rfl rfl (by kernel_rfl) (by kernel_rfl) (by kernel_rfl) (fun _ _ _ h => h) (Or.inl ⟨by rfl, fun w hw => by have hw' := hw.1; go_simp⟩) ?_
    simp only [Act.put, List.setIfInBounds_toArray, List.set_cons_zero, List.set_cons_succ]
    refine takeH 1 28 (.agg (spn b1 e1).toArray) hHeld rfl rfl (by kernel_rfl) (by kernel_rfl) (by kernel_rfl) (fun _ _ _ h => h) (yieldsIf_load_mid (by rfl) _ _ rfl g7 0 rfl _ _ (fun w h => h.2.1) hu rfl wSp.size) ?_
    simp only [Act.put, List.setIfInBounds_toArray, List.set_cons_zero, List.set_cons_succ]
    refine takeH 3 30 (.slice (some ⟨bl, o, none⟩) n cap) hHeld rfl rfl (by kernel_rfl) (by kernel_rfl) (by kernel_rfl) (fun _ _ _ h => h) (Or.inl ⟨by rfl, fun w hw => by have hw' := hw.2.2.1; go_simp⟩) ?_
    simp only [Act.put, List.setIfInBounds_toArray, List.set_cons_zero, List.set_cons_succ]
    refine takeH 4 31 (.agg (spn b2 e2).toArray) hHeld rfl rfl (by kernel_rfl) (by kernel_rfl) (by kernel_rfl) (fun _ _ _ h => h) (yieldsIf_load_mid (by rfl) _ _ rfl g8 0 rfl _ _ (fun w h => h.2.2.2) hu rfl wSp.size) ?_
    simp only [Act.put, List.setIfInBounds_toArray, List.set_cons_zero, List.set_cons_succ]
    refine wpAnyH_ready (rs := [2]) (by kernel_rfl) (by simp) (AllReadyH.cons rfl (fun K hK => ?_) AllReadyH.nil)
    rw [if_pos (by rfl)]
    go_simp
    refine (ih b1 e1 _ hlt1 hb1i hi1e he1n (E6.out.below B0.out)).mono ?_
    rintro r v1 ⟨u1, rfl, ⟨q1, ho1⟩, hv1⟩
    have B1 := hide (B0.out.trans (hv1.mono B0.out.size))
    refine hK.out _ _ (hSS _ B1.out) (fun hHeld => ?_)
    clear hK K
    refine wpAnyH_ready (rs := [5]) (by kernel_rfl) (by simp) (AllReadyH.cons rfl (fun K hK => ?_) AllReadyH.nil)
    rw [if_pos (by rfl)]
    go_simp
    refine (rootOf_any bl o n cap b2 e2 _ _ xs _ (E6.out.below B1.out).ds rfl rfl hb2 he2 (E6.out.below B1.out).kt).mono ?_
    rintro r v2 ⟨rfl, hv2⟩
    have B2 := hide (B1.out.trans (hv2.mono B1.out.size))
    have ho2 := ho1.below hv2
    refine hK.out _ _ (hSS _ B2.out) (fun hHeld => ?_)
    clear hK K
    refine wpAnyH_ready (rs := [6]) (by kernel_rfl) (by simp) (AllReadyH.cons rfl (fun K hK => ?_) AllReadyH.nil)
    rw [if_pos (by rfl)]
    refine wp_oneD rfl HL2.out HB2.out ?_
    intro v3 gq hsq hv3
    have B3 := hide (B2.out.trans (hv3.mono B2.out.size))
    have ho3 := ho2.below hv3
    refine hK.out _ _ (hSS _ B3.out) (fun hHeld => ?_)
    clear hK K
    simp only [Act.put]
    refine wpAnyH_ready (rs := [7]) (by kernel_rfl) (by simp) (AllReadyH.cons rfl (fun K hK => ?_) AllReadyH.nil)
    rw [if_pos (by rfl)]
    have hq1 : 32 * q1 = (steps (sub xs b1 e1) (m - b1) (beg b1)).length := ho3.len.symm
    refine wp_appendDG rfl rfl ho3 hsq (by have := PB.out; omega) (Nat.le_trans hv1.size (Nat.le_trans hv2.size hv3.size)) ?_
    intro u4 v4 ho4 hg4
    have B4 := hide (B3.out.trans (Below.of_grown hg4 B3.out.size (fun k hk => Nat.le_trans B0.out.size (ho3.lt k hk))))
    rw [← EP.out] at ho4
    refine hK.out _ _ (hSS _ B4.out) (fun hHeld => ?_)
    clear hK K
    simp only [Act.put]
    refine takeH 8 6 (u4) hHeld rfl rfl (by kernel_rfl) (by kernel_rfl) (by kernel_rfl) (fun _ _ _ h => h) (Or.inl ⟨by rfl, fun w _ => by go_simp⟩) ?_
    simp only [Act.put, List.setIfInBounds_toArray, List.set_cons_zero, List.set_cons_succ]
    refine wpAnyH_done (by kernel_rfl) ?_ _
    refine NoPanic.normal ?_
    clear hHeld
    go_wp2
    go_ret
    exact ⟨_, rfl, ⟨_, ho4.base (Nat.le_trans B6.out.size B0.out.size)⟩, B6.out.trans (B4.out.mono B6.out.size)⟩

/-- What Consistency answers. -/
def coE (n : Nat) (m l : Int) : Int := if m < 1 ∨ l < m ∨ (n : Int) < l then 40 else 0
def coP (xs : List Int) (n : Nat) (m l : Int) : List Int := if m < 1 ∨ l < m ∨ (n : Int) < l then [] else steps (sub xs 0 l.toNat) m.toNat true
theorem coP_bd {xs : List Int} {n : Nat} (m l : Int) (h : xs.length = 32 * n) (hb : isB xs) (hn : n < 2 ^ 63) : (∃ q, (coP xs n m l).length = 32 * q ∧ q ≤ 65) ∧ isB (coP xs n m l) := by
  unfold coP
  split
  · exact ⟨⟨0, rfl, by omega⟩, by intro x hx; simp at hx⟩
  · obtain ⟨⟨q, hq, hl⟩, hB⟩ := steps_bd _ (l.toNat - 0) m.toNat true (sub xs 0 l.toNat) (Nat.le_refl _) (by omega) (by omega) (sub_length h (by omega) (by omega)) (by omega) (sub_isB hb _ _)
    have := Lib.bitLen_le (l.toNat - 0 - 1) 64 (Nat.le_refl _) (by omega)
    exact ⟨⟨q, hq, by omega⟩, hB⟩


end Go.Proofs.YtojepbapdjkknaaDoor

/-
  A tree's own consistency proof leads to both roots. No program here.
-/
namespace Go.Proofs.YtojepbapdjkknaaDoor
open Go.RowKit
set_option linter.unusedVariables false

theorem st0_app (T q : Nat) (d S R : List Int) (hS : S.length = 32 * (q + T)) : st0 T d (S ++ R) = st0 T d S := by
  have := st0_take T q d (S ++ R)
  rw [← this]
  congr 1
  rw [← hS, List.take_left]
theorem beg_pos {b : Nat} (h : 0 < b) : beg b = false := by unfold beg; simp; omega
theorem steps_lead {xs : List Int} {N m : Nat} (hx : xs.length = 32 * N) (hxb : isB xs) (hN : N ≤ 281474976710656) (hm : 1 ≤ m) (hmN : m ≤ N) : ∀ (f b n : Nat), n ≤ f → b < m → m ≤ b + n → b + n ≤ N →
    (steps (sub xs b (b + n)) (m - b) (beg b)).length = 32 * ((hvM m b n).length + ptM m b n) ∧
    fo (hvM m b n) ((steps (sub xs b (b + n)) (m - b) (beg b)).drop (32 * ptM m b n)) (st0 (ptM m b n) (root (sub xs 0 m)) (steps (sub xs b (b + n)) (m - b) (beg b))) (hvM m b n).length = root (sub xs b m) ∧
    fu (hvM m b n) ((steps (sub xs b (b + n)) (m - b) (beg b)).drop (32 * ptM m b n)) (st0 (ptM m b n) (root (sub xs 0 m)) (steps (sub xs b (b + n)) (m - b) (beg b))) (hvM m b n).length = root (sub xs b (b + n))
  | 0, b, n, h, _, _, _ => by omega
  | f + 1, b, n, h, h1, h2, h3 => by
    have hsl := sub_length hx (show b ≤ b + n by omega) h3
    rw [show b + n - b = n by omega] at hsl
    by_cases hn : b + n = m
    · obtain ⟨e1, e2⟩ := hvM_end hn
      have e3 : m - b = n := by omega
      rw [e1, e2, e3, steps_all hsl (by omega)]
      by_cases hb : b = 0
      · subst hb
        rw [if_pos rfl, show beg 0 = true from rfl, if_pos rfl]
        refine ⟨rfl, ?_, ?_⟩
        · rfl
        · show root (sub xs 0 m) = _
          rw [hn]
      · have hR : (root (sub xs b (b + n))).length = 32 := root_length hsl (sub_isB hxb _ _)
        rw [if_neg hb, beg_pos (by omega), if_neg (by decide)]
        have hd : st0 1 (root (sub xs 0 m)) (root (sub xs b (b + n))) = root (sub xs b (b + n)) := by
          show dat _ 0 = _
          unfold dat
          rw [Nat.mul_zero, List.drop_zero, List.take_of_length_le (by omega)]
        rw [hd]
        refine ⟨hR, ?_, rfl⟩
        show root (sub xs b (b + n)) = _
        rw [hn]
    · have hn2 : 2 ≤ n := by omega
      have hh := hf_bd n hn2 (by omega)
      have e : b + n - b = n := by omega
      have hlo := sub_lo hx (show b ≤ b + n by omega) h3 (by omega) (by omega)
      have hhi := sub_hi hx (show b ≤ b + n by omega) h3 (by omega) (by omega)
      rw [e] at hlo hhi
      have hrn := root_node hsl hn2 (by omega)
      rw [hlo, hhi] at hrn
      by_cases hc : m - 1 < b + hf n
      · obtain ⟨i1, i2, i3⟩ := steps_lead hx hxb hN hm hmN f b (hf n) (by omega) h1 (by omega) (by omega)
        have hR : (root (sub xs (b + hf n) (b + n))).length = 32 := root_length (sub_length hx (by omega) h3) (sub_isB hxb _ _)
        obtain ⟨e1, e2⟩ := hvM_lo hm hn hn2 (by omega) h1 hc
        rw [e1, e2, steps_lo (m := m - b) hsl (by omega) (by omega) (by omega) (by omega), hlo, hhi, st0_app _ _ _ _ _ i1, show (hvM m b (hf n) ++ [(0 : Int)]).length = (hvM m b (hf n)).length + 1 by simp, List.length_append, i1, hR]
        obtain ⟨d1, d2⟩ := dat_last _ _ _ i1 hR
        obtain ⟨s1, s2⟩ := step_lo (hvM m b (hf n)) (steps (sub xs b (b + hf n)) (m - b) (beg b) ++ root (sub xs (b + hf n) (b + n))) (st0 (ptM m b (hf n)) (root (sub xs 0 m)) (steps (sub xs b (b + hf n)) (m - b) (beg b))) (ptM m b (hf n))
        rw [d2] at s1 s2
        rw [d1] at s2
        refine ⟨by omega, ?_, ?_⟩
        · rw [s1, i2]
        · rw [s2, i3, hrn]
      · obtain ⟨i1, i2, i3⟩ := steps_lead hx hxb hN hm hmN f (b + hf n) (n - hf n) (by omega) (by omega) (by omega) (by omega)
        rw [show b + hf n + (n - hf n) = b + n by omega, beg_pos (show 0 < b + hf n by omega)] at i1 i2 i3
        have hR : (root (sub xs b (b + hf n))).length = 32 := root_length (sub_length hx (show b ≤ b + hf n by omega) (show b + hf n ≤ N by omega)) (sub_isB hxb _ _)
        obtain ⟨e1, e2⟩ := hvM_hi hm hn hn2 (by omega) h2 h1 hc
        rw [e1, e2, steps_hi (m := m - b) hsl (by omega) (by omega) (by omega), hlo, hhi, show m - b - hf n = m - (b + hf n) by omega, st0_app _ _ _ _ _ i1, show (hvM m (b + hf n) (n - hf n) ++ [(1 : Int)]).length = (hvM m (b + hf n) (n - hf n)).length + 1 by simp, List.length_append, i1, hR]
        obtain ⟨d1, d2⟩ := dat_last _ _ _ i1 hR
        obtain ⟨s1, s2⟩ := step_hi (hvM m (b + hf n) (n - hf n)) (steps (sub xs (b + hf n) (b + n)) (m - (b + hf n)) false ++ root (sub xs b (b + hf n))) (st0 (ptM m (b + hf n) (n - hf n)) (root (sub xs 0 m)) (steps (sub xs (b + hf n) (b + n)) (m - (b + hf n)) false)) (ptM m (b + hf n) (n - hf n))
        rw [d2] at s1 s2
        rw [d1] at s1 s2
        have hm2 : 2 ≤ m - b := by omega
        have hfm : hf (m - b) = hf n := hf_uniq (m - b) (Lib.bitLen (n - 1) - 1) hm2 (by omega) (by show hf n < m - b; omega) (by show m - b ≤ 2 * hf n; omega)
        have hml := sub_length hx (show b ≤ m by omega) hmN
        have hrm := root_node hml hm2 (by omega)
        rw [sub_lo hx (by omega) hmN hm2 (by omega), sub_hi hx (by omega) hmN hm2 (by omega), hfm] at hrm
        refine ⟨by omega, ?_, ?_⟩
        · rw [s1, i2, hrm]
        · rw [s2, i3, hrn]
/-- .. of the first m and the first n leaves. -/
theorem steps_roots {xs : List Int} {N m n : Nat} (hx : xs.length = 32 * N) (hxb : isB xs) (hN : N ≤ 281474976710656) (hm : 1 ≤ m) (hmn : m ≤ n) (hn : n ≤ N) :
    (steps (sub xs 0 n) m true).length = 32 * ((hvM m 0 n).length + ptM m 0 n) ∧
    fo (hvM m 0 n) ((steps (sub xs 0 n) m true).drop (32 * ptM m 0 n)) (st0 (ptM m 0 n) (root (sub xs 0 m)) (steps (sub xs 0 n) m true)) (hvM m 0 n).length = root (sub xs 0 m) ∧
    fu (hvM m 0 n) ((steps (sub xs 0 n) m true).drop (32 * ptM m 0 n)) (st0 (ptM m 0 n) (root (sub xs 0 m)) (steps (sub xs 0 n) m true)) (hvM m 0 n).length = root (sub xs 0 n) := by
  have := steps_lead hx hxb hN hm (by omega) n 0 n (Nat.le_refl _) (by omega) (by omega) (by omega)
  rwa [Nat.zero_add, Nat.sub_zero, show beg 0 = true from rfl] at this

end Go.Proofs.YtojepbapdjkknaaDoor

/-
  The program's and the document's Inclusion.
-/
namespace Go.Proofs.YtojepbapdjkknaaDoor
open Go.RowKit
set_option linter.unusedVariables false


set_option maxRecDepth 100000 in
set_option maxHeartbeats 2000000 in
theorem incl_any (a : Option Addr) (n cap : Nat) (xs : List Int) (i m : Int) (w : World) (hs : Ds w a n cap xs) (hk : KT w) :
    Calls Tryd.prog 25 #[.slice a n cap, .int .i64 i, .int .i64 m] w fun r w' => ∃ v, r = .returned (.tuple #[v, .int .i64 (inE n i m)]) ∧ (∃ q, DOwn w' w.heap.size v q (inP xs n i m)) ∧ Below w.heap.size w w' := by
  have HS := hide hs
  have HK := hide hk
  have hcap := hs.hcap
  have hre := hs.hreach
  clear hs hk
  by_cases h1 : m < 1
  · skip
    have EE := hide (show inE n i m = 40 by unfold inE; rw [if_pos (by omega)])
    have EP := hide (show inP xs n i m = [] by unfold inP; rw [if_pos (by omega)])
    rw [EE.out, EP.out]
    go_enter Tryd.func25, Tryd.ntmps25
    go_wp2_with (refine step_box1 rfl rfl rfl ?_)
    intro w1 gd hr1 hl1 hb1
    have GD := hide hr1
    clear hr1
    go_wp2_with (refine step_box1 rfl rfl rfl ?_)
    intro w2 gi hr2 hl2 hb2
    have GI := hide hr2
    have GD2 := hide (GD.out.below hb2 GD.out.lt)
    have B2 := hide (hb1.trans (hb2.mono hb1.size))
    have hcd : w2.cell? ⟨gd, 0, none⟩ = some (.slice a n cap) := by rw [GD2.out.cell]; rfl
    have hci : w2.cell? ⟨gi, 0, none⟩ = some (.int .i64 i) := by rw [GI.out.cell]; rfl
    clear hr2 GD hb1 hb2
    go_wp2
    go_ret2
    exact ⟨_, rfl, ⟨0, DOwn.nil _ _⟩, B2.out⟩
  by_cases h2 : (n : Int) < m
  · skip
    have EE := hide (show inE n i m = 40 by unfold inE; rw [if_pos (by omega)])
    have EP := hide (show inP xs n i m = [] by unfold inP; rw [if_pos (by omega)])
    rw [EE.out, EP.out]
    go_enter Tryd.func25, Tryd.ntmps25
    go_wp2_with (refine step_box1 rfl rfl rfl ?_)
    intro w1 gd hr1 hl1 hb1
    have GD := hide hr1
    clear hr1
    go_wp2_with (refine step_box1 rfl rfl rfl ?_)
    intro w2 gi hr2 hl2 hb2
    have GI := hide hr2
    have GD2 := hide (GD.out.below hb2 GD.out.lt)
    have B2 := hide (hb1.trans (hb2.mono hb1.size))
    have hcd : w2.cell? ⟨gd, 0, none⟩ = some (.slice a n cap) := by rw [GD2.out.cell]; rfl
    have hci : w2.cell? ⟨gi, 0, none⟩ = some (.int .i64 i) := by rw [GI.out.cell]; rfl
    clear hr2 GD hb1 hb2
    go_wp2
    go_ret2
    exact ⟨_, rfl, ⟨0, DOwn.nil _ _⟩, B2.out⟩
  by_cases h3 : i < 0
  · skip
    have EE := hide (show inE n i m = 40 by unfold inE; rw [if_pos (by omega)])
    have EP := hide (show inP xs n i m = [] by unfold inP; rw [if_pos (by omega)])
    rw [EE.out, EP.out]
    go_enter Tryd.func25, Tryd.ntmps25
    go_wp2_with (refine step_box1 rfl rfl rfl ?_)
    intro w1 gd hr1 hl1 hb1
    have GD := hide hr1
    clear hr1
    go_wp2_with (refine step_box1 rfl rfl rfl ?_)
    intro w2 gi hr2 hl2 hb2
    have GI := hide hr2
    have GD2 := hide (GD.out.below hb2 GD.out.lt)
    have B2 := hide (hb1.trans (hb2.mono hb1.size))
    have hcd : w2.cell? ⟨gd, 0, none⟩ = some (.slice a n cap) := by rw [GD2.out.cell]; rfl
    have hci : w2.cell? ⟨gi, 0, none⟩ = some (.int .i64 i) := by rw [GI.out.cell]; rfl
    clear hr2 GD hb1 hb2
    go_wp2
    go_ret2
    exact ⟨_, rfl, ⟨0, DOwn.nil _ _⟩, B2.out⟩
  by_cases h4 : m ≤ i
  · skip
    have EE := hide (show inE n i m = 40 by unfold inE; rw [if_pos (by omega)])
    have EP := hide (show inP xs n i m = [] by unfold inP; rw [if_pos (by omega)])
    rw [EE.out, EP.out]
    go_enter Tryd.func25, Tryd.ntmps25
    go_wp2_with (refine step_box1 rfl rfl rfl ?_)
    intro w1 gd hr1 hl1 hb1
    have GD := hide hr1
    clear hr1
    go_wp2_with (refine step_box1 rfl rfl rfl ?_)
    intro w2 gi hr2 hl2 hb2
    have GI := hide hr2
    have GD2 := hide (GD.out.below hb2 GD.out.lt)
    have B2 := hide (hb1.trans (hb2.mono hb1.size))
    have hcd : w2.cell? ⟨gd, 0, none⟩ = some (.slice a n cap) := by rw [GD2.out.cell]; rfl
    have hci : w2.cell? ⟨gi, 0, none⟩ = some (.int .i64 i) := by rw [GI.out.cell]; rfl
    clear hr2 GD hb1 hb2
    go_wp2
    go_ret2
    exact ⟨_, rfl, ⟨0, DOwn.nil _ _⟩, B2.out⟩
  obtain ⟨i, rfl⟩ : ∃ k : Nat, i = (k : Int) := ⟨i.toNat, by omega⟩
  obtain ⟨m, rfl⟩ : ∃ k : Nat, m = (k : Int) := ⟨m.toNat, by omega⟩
  have EE := hide (show inE n i m = 0 by unfold inE; rw [if_neg (by omega)])
  have EP := hide (show inP xs n i m = path (sub xs 0 m) (i - 0) by unfold inP; rw [if_neg (by omega)]; simp)
  rw [EE.out, EP.out]
  obtain ⟨bl, o, ea⟩ := HS.out.place (by omega)
  subst ea
  go_enter Tryd.func25, Tryd.ntmps25
  go_wp2_with (refine step_box1 rfl rfl rfl ?_)
  intro w1 gd hr1 hl1 hb1
  have GD := hide hr1
  clear hr1
  go_wp2_with (refine step_box1 rfl rfl rfl ?_)
  intro w2 gi hr2 hl2 hb2
  have GI : Hid (Blk w2 gi 3 [.int .i64 (i : Int)]) := hide hr2
  have GD2 := hide (GD.out.below hb2 GD.out.lt)
  have B2 := hide (hb1.trans (hb2.mono hb1.size))
  have hcd : w2.cell? ⟨gd, 0, none⟩ = some (.slice (some ⟨bl, o, none⟩) n cap) := by rw [GD2.out.cell]; rfl
  have hci : w2.cell? ⟨gi, 0, none⟩ = some (.int .i64 (i : Int)) := by rw [GI.out.cell]; rfl
  clear hr2 GD hb1 hb2
  go_wp2_with (refine step_alloc zSp rfl ?_)
  intro w3 gl hr3 hl3 hb3
  have GL := hide hr3
  clear hr3
  go_wp2_with (refine step_storeA (vs := spn i (i + 1)) wSp rfl rfl rfl GL.out rfl (spn_one _ _) rfl ?_)
  intro w4 hg4 hbut4
  have B24 := hide (hb3.trans (hbut4.below hl3))
  have GL4 := hide hg4
  have GI4 := hide (GI.out.below B24.out GI.out.lt)
  have GD4 := hide (GD2.out.below B24.out GD2.out.lt)
  have B4 := hide (B2.out.trans (B24.out.mono B2.out.size))
  clear hb3 hbut4 hg4 GL GI GD2 B2 B24 hcd hci
  go_wp2_with (refine step_alloc zFn rfl ?_)
  intro w5 gp hr5 hl5 hb5
  have GP := hide hr5
  have GL5 := hide (GL4.out.below hb5 GL4.out.lt)
  have GI5 := hide (GI4.out.below hb5 GI4.out.lt)
  have GD5 := hide (GD4.out.below hb5 GD4.out.lt)
  have nl : gl ≠ gp := by have := GL4.out.lt; omega
  have ni : gi ≠ gp := by have := GI4.out.lt; omega
  have nd' : gd ≠ gp := by have := GD4.out.lt; omega
  have B5 := hide (B4.out.trans (hb5.mono B4.out.size))
  have hwp : w.heap.size ≤ gp := Nat.le_trans B4.out.size hl5
  have hcp : w5.cell? ⟨gp, 0, none⟩ = some .nilFunc := by rw [GP.out.cell]; rfl
  have hfp := GP.out.free 0
  clear hr5 hb5 GL4 GI4 GD4 B4 hl5 hl3 hl2 hl1
  go_wp2_with fail
  have hg6 := GP.out.set 0 (.func (.func 53) #[] #[.pointer (some ⟨gl, 0, none⟩), .pointer (some ⟨gi, 0, none⟩), .pointer (some ⟨gp, 0, none⟩), .pointer (some ⟨gd, 0, none⟩)])
  have hbut6 := But.setCell w5 gp 0 (.func (.func 53) #[] #[.pointer (some ⟨gl, 0, none⟩), .pointer (some ⟨gi, 0, none⟩), .pointer (some ⟨gp, 0, none⟩), .pointer (some ⟨gd, 0, none⟩)])
  have B6 := hide (B5.out.trans (hbut6.below hwp))
  have E6 := hide (show Env _ gl gi gp gd i bl o n cap xs from ⟨GL5.out.but hbut6 nl, GI5.out.but hbut6 ni, hg6, GD5.out.but hbut6 nd', HS.out.below B6.out, HK.out.below B6.out HK.out.lt⟩)
  refine (incl1_any gl gi gp gd i bl o n cap xs (by omega) m 0 m _ (by omega) (by omega) (by omega) (by omega) E6.out).mono ?_
  rintro r w7 ⟨v, rfl, ⟨q, ho⟩, hb7⟩
  go_wp2
  go_ret2
  exact ⟨_, rfl, ⟨_, ho.base B6.out.size⟩, B6.out.trans (hb7.mono B6.out.size)⟩

end Go.Proofs.YtojepbapdjkknaaDoor

/-
  The program's and the document's Consistency.
-/
namespace Go.Proofs.YtojepbapdjkknaaDoor
open Go.RowKit
set_option linter.unusedVariables false

set_option maxRecDepth 100000 in
set_option maxHeartbeats 2000000 in
theorem cons_any (a : Option Addr) (n cap : Nat) (xs : List Int) (i m : Int) (w : World) (hs : Ds w a n cap xs) (hk : KT w) :
    Calls Tryd.prog 26 #[.slice a n cap, .int .i64 i, .int .i64 m] w fun r w' => ∃ v, r = .returned (.tuple #[v, .int .i64 (coE n i m)]) ∧ (∃ q, DOwn w' w.heap.size v q (coP xs n i m)) ∧ Below w.heap.size w w' := by
  have HS := hide hs
  have HK := hide hk
  have hcap := hs.hcap
  have hre := hs.hreach
  clear hs hk
  by_cases h1 : i < 1
  · skip
    have EE := hide (show coE n i m = 40 by unfold coE; rw [if_pos (by omega)])
    have EP := hide (show coP xs n i m = [] by unfold coP; rw [if_pos (by omega)])
    rw [EE.out, EP.out]
    go_enter Tryd.func26, Tryd.ntmps26
    go_wp2_with (refine step_box1 rfl rfl rfl ?_)
    intro w1 gd hr1 hl1 hb1
    have GD := hide hr1
    clear hr1
    go_wp2_with (refine step_box1 rfl rfl rfl ?_)
    intro w2 gi hr2 hl2 hb2
    have GI : Hid (Blk w2 gi 3 [.int .i64 i]) := hide hr2
    have GD2 := hide (GD.out.below hb2 GD.out.lt)
    have B2 := hide (hb1.trans (hb2.mono hb1.size))
    have hcd : w2.cell? ⟨gd, 0, none⟩ = some (.slice a n cap) := by rw [GD2.out.cell]; rfl
    have hci : w2.cell? ⟨gi, 0, none⟩ = some (.int .i64 i) := by rw [GI.out.cell]; rfl
    clear hr2 GD hb1 hb2
    go_wp2
    go_ret2
    exact ⟨_, rfl, ⟨0, DOwn.nil _ _⟩, B2.out⟩
  by_cases h2 : m < i
  · skip
    have EE := hide (show coE n i m = 40 by unfold coE; rw [if_pos (by omega)])
    have EP := hide (show coP xs n i m = [] by unfold coP; rw [if_pos (by omega)])
    rw [EE.out, EP.out]
    go_enter Tryd.func26, Tryd.ntmps26
    go_wp2_with (refine step_box1 rfl rfl rfl ?_)
    intro w1 gd hr1 hl1 hb1
    have GD := hide hr1
    clear hr1
    go_wp2_with (refine step_box1 rfl rfl rfl ?_)
    intro w2 gi hr2 hl2 hb2
    have GI : Hid (Blk w2 gi 3 [.int .i64 i]) := hide hr2
    have GD2 := hide (GD.out.below hb2 GD.out.lt)
    have B2 := hide (hb1.trans (hb2.mono hb1.size))
    have hcd : w2.cell? ⟨gd, 0, none⟩ = some (.slice a n cap) := by rw [GD2.out.cell]; rfl
    have hci : w2.cell? ⟨gi, 0, none⟩ = some (.int .i64 i) := by rw [GI.out.cell]; rfl
    clear hr2 GD hb1 hb2
    go_wp2
    go_ret2
    exact ⟨_, rfl, ⟨0, DOwn.nil _ _⟩, B2.out⟩
  by_cases h3 : (n : Int) < m
  · skip
    have EE := hide (show coE n i m = 40 by unfold coE; rw [if_pos (by omega)])
    have EP := hide (show coP xs n i m = [] by unfold coP; rw [if_pos (by omega)])
    rw [EE.out, EP.out]
    go_enter Tryd.func26, Tryd.ntmps26
    go_wp2_with (refine step_box1 rfl rfl rfl ?_)
    intro w1 gd hr1 hl1 hb1
    have GD := hide hr1
    clear hr1
    go_wp2_with (refine step_box1 rfl rfl rfl ?_)
    intro w2 gi hr2 hl2 hb2
    have GI : Hid (Blk w2 gi 3 [.int .i64 i]) := hide hr2
    have GD2 := hide (GD.out.below hb2 GD.out.lt)
    have B2 := hide (hb1.trans (hb2.mono hb1.size))
    have hcd : w2.cell? ⟨gd, 0, none⟩ = some (.slice a n cap) := by rw [GD2.out.cell]; rfl
    have hci : w2.cell? ⟨gi, 0, none⟩ = some (.int .i64 i) := by rw [GI.out.cell]; rfl
    clear hr2 GD hb1 hb2
    go_wp2
    go_ret2
    exact ⟨_, rfl, ⟨0, DOwn.nil _ _⟩, B2.out⟩
  obtain ⟨i, rfl⟩ : ∃ k : Nat, i = (k : Int) := ⟨i.toNat, by omega⟩
  obtain ⟨m, rfl⟩ : ∃ k : Nat, m = (k : Int) := ⟨m.toNat, by omega⟩
  have EE := hide (show coE n i m = 0 by unfold coE; rw [if_neg (by omega)])
  have EP := hide (show coP xs n i m = steps (sub xs 0 m) (i - 0) (beg 0) by unfold coP; rw [if_neg (by omega)]; simp [beg])
  rw [EE.out, EP.out]
  obtain ⟨bl, o, ea⟩ := HS.out.place (by omega)
  subst ea
  go_enter Tryd.func26, Tryd.ntmps26
  go_wp2_with (refine step_box1 rfl rfl rfl ?_)
  intro w1 gd hr1 hl1 hb1
  have GD := hide hr1
  clear hr1
  go_wp2_with (refine step_box1 rfl rfl rfl ?_)
  intro w2 gi hr2 hl2 hb2
  have GI : Hid (Blk w2 gi 3 [.int .i64 (i : Int)]) := hide hr2
  have GD2 := hide (GD.out.below hb2 GD.out.lt)
  have B2 := hide (hb1.trans (hb2.mono hb1.size))
  have hcd : w2.cell? ⟨gd, 0, none⟩ = some (.slice (some ⟨bl, o, none⟩) n cap) := by rw [GD2.out.cell]; rfl
  have hci : w2.cell? ⟨gi, 0, none⟩ = some (.int .i64 (i : Int)) := by rw [GI.out.cell]; rfl
  clear hr2 GD hb1 hb2
  go_wp2_with (refine step_alloc zSp rfl ?_)
  intro w3 gl hr3 hl3 hb3
  have GL := hide hr3
  clear hr3
  go_wp2_with (refine step_storeA (vs := spn 0 i) wSp rfl rfl rfl GL.out rfl (spn_one _ _) rfl ?_)
  intro w4 hg4 hbut4
  have B24 := hide (hb3.trans (hbut4.below hl3))
  have GL4 := hide hg4
  have GI4 := hide (GI.out.below B24.out GI.out.lt)
  have GD4 := hide (GD2.out.below B24.out GD2.out.lt)
  have B4 := hide (B2.out.trans (B24.out.mono B2.out.size))
  clear hb3 hbut4 hg4 GL GI GD2 B2 B24 hcd hci
  go_wp2_with (refine step_alloc zFn rfl ?_)
  intro w5 gp hr5 hl5 hb5
  have GP := hide hr5
  have GL5 := hide (GL4.out.below hb5 GL4.out.lt)
  have GI5 := hide (GI4.out.below hb5 GI4.out.lt)
  have GD5 := hide (GD4.out.below hb5 GD4.out.lt)
  have nl : gl ≠ gp := by have := GL4.out.lt; omega
  have ni : gi ≠ gp := by have := GI4.out.lt; omega
  have nd' : gd ≠ gp := by have := GD4.out.lt; omega
  have B5 := hide (B4.out.trans (hb5.mono B4.out.size))
  have hwp : w.heap.size ≤ gp := Nat.le_trans B4.out.size hl5
  have hcp : w5.cell? ⟨gp, 0, none⟩ = some .nilFunc := by rw [GP.out.cell]; rfl
  have hfp := GP.out.free 0
  clear hr5 hb5 GL4 GI4 GD4 B4 hl5 hl3 hl2 hl1
  go_wp2_with fail
  have hg6 := GP.out.set 0 (.func (.func 56) #[] #[.pointer (some ⟨gl, 0, none⟩), .pointer (some ⟨gi, 0, none⟩), .pointer (some ⟨gd, 0, none⟩), .pointer (some ⟨gp, 0, none⟩)])
  have hbut6 := But.setCell w5 gp 0 (.func (.func 56) #[] #[.pointer (some ⟨gl, 0, none⟩), .pointer (some ⟨gi, 0, none⟩), .pointer (some ⟨gd, 0, none⟩), .pointer (some ⟨gp, 0, none⟩)])
  have B6 := hide (B5.out.trans (hbut6.below hwp))
  have E6 := hide (show Enc _ gl gi gd gp i bl o n cap xs from ⟨GL5.out.but hbut6 nl, GI5.out.but hbut6 ni, hg6, GD5.out.but hbut6 nd', HS.out.below B6.out, HK.out.below B6.out HK.out.lt⟩)
  refine (cons1_any gl gi gd gp i bl o n cap xs (by omega) m 0 m _ (by omega) (by omega) (by omega) (by omega) E6.out).mono ?_
  rintro r w7 ⟨v, rfl, ⟨q, ho⟩, hb7⟩
  go_wp2
  go_ret2
  exact ⟨_, rfl, ⟨_, ho.base B6.out.size⟩, B6.out.trans (hb7.mono B6.out.size)⟩

end Go.Proofs.YtojepbapdjkknaaDoor
