/-
  The document's Root; what both tell; Inclusion of both.
-/
import Derived.Test.YtojepbapdjkknaaDoorVu
namespace Go.Proofs.YtojepbapdjkknaaDoor
open Go.RowKit
set_option linter.unusedVariables false

section
variable {dst : Option Tmp} {ty : TypeId} {pos : String} {aft : Array Edge} {gd : Option (Nat × Bool)} {ops : Array Oper} {rest : List Oper} {a : Act} {w : World} {Q : Exit → Act → World → Prop}
theorem step_neQ {T E : TypeId} {k : IntKind} {n : Nat} (hA : Arr T E k n) {t' : TypeId} {x y : Operand} {xs ys : List Int} (q : Bool) (hq : (!decide (xs = ys)) = q) (hw : Region.wanted ⟨dst, .binOp .neq T x y t', ty, pos, aft, gd⟩ (yielded ops a.tmps) = true)
    (hx : a.eval x = .agg (xs.map (Value.int k)).toArray) (hy : a.eval y = .agg (ys.map (Value.int k)).toArray) (hl : xs.length = n) (hl' : ys.length = n) (h : wpList Tryd.prog ops Q rest (a.put dst (.bool q)) w) :
    wpList Tryd.prog ops Q (⟨dst, .binOp .neq T x y t', ty, pos, aft, gd⟩ :: rest) a w := by
  subst hq
  exact step_neA hA hw hx hy hl hl' h
end
set_option maxRecDepth 100000 in
set_option maxHeartbeats 1000000 in
theorem rootR7_bad (leaf : List Int) (i n : Int) (a : Value) (w : World) (h : i < 0 ∨ n ≤ i ∨ 281474976710656 < n) :
    Calls Tryd.prog 76 #[.agg (u8s leaf).toArray, .int .i64 i, .int .i64 n, a] w fun r w' => r = .returned (.tuple #[.agg (u8s (zer 32)).toArray, .int .i64 40]) ∧ Below w.heap.size w w' := by
  have H := hide (fun v => lengthR_bad i n v h)
  clear h
  go_enter Tryd.func76, Tryd.ntmps76
  go_wp2_with (refine step_box rfl rfl ?_)
  intro w1 g4 hr1 hl1 hb1
  have G4 := hide hr1
  clear hr1
  go_wp2_with (refine step_alloc zD rfl ?_)
  intro w2 g8 hr2 hl2 hb2
  have G8 := hide hr2
  have G42 := hide (G4.out.below hb2 G4.out.lt)
  have B2 := hide (hb1.trans (hb2.mono hb1.size))
  have hw8 : w.heap.size ≤ g8 := Nat.le_trans hb1.size hl2
  clear hr2 hb1 hb2 G4
  go_wp2_with fail
  refine (H.out _).mono ?_
  rintro r w3 ⟨rfl, rfl⟩
  go_wp2_with (first | (refine step_buildD rfl ?_) | (refine step_storeA wD rfl rfl rfl G8.out (by rw [u8s_length, zer_length]) (One.u8 _) rfl ?_; intro w4 hg4 hbut4))
  refine bodyPost_ret (results_wide2 rfl wD _ _ rfl hg4 (by rw [u8s_length, zer_length])) rfl ⟨rfl, ?_⟩
  exact B2.out.trans (hbut4.below hw8)
set_option maxRecDepth 100000 in
set_option maxHeartbeats 1000000 in
theorem rootR7_len (leaf : List Int) (i n : Nat) (a : Option Addr) (l cap : Nat) (w : World) (h1 : i < n) (h2 : n ≤ 281474976710656) (hl : l ≠ (hvL i 0 n).length) :
    Calls Tryd.prog 76 #[.agg (u8s leaf).toArray, .int .i64 (i : Int), .int .i64 (n : Int), .slice a l cap] w fun r w' => r = .returned (.tuple #[.agg (u8s (zer 32)).toArray, .int .i64 70]) ∧ Below w.heap.size w w' := by
  have H := hide (fun v => lengthR_ok i n v h1 h2)
  have hl' : ((l : Int) != ((hvL i 0 n).length : Int)) = true := by simp; omega
  generalize hvL i 0 n = L at *
  go_enter Tryd.func76, Tryd.ntmps76
  go_wp2_with (refine step_box rfl rfl ?_)
  intro w1 g4 hr1 hl1 hb1
  have G4 := hide hr1
  clear hr1
  go_wp2_with (refine step_alloc zD rfl ?_)
  intro w2 g8 hr2 hl2 hb2
  have G8 := hide hr2
  have G42 := hide (G4.out.below hb2 G4.out.lt)
  have B2 := hide (hb1.trans (hb2.mono hb1.size))
  have hw8 : w.heap.size ≤ g8 := Nat.le_trans hb1.size hl2
  clear hr2 hb1 hb2 G4
  go_wp2_with fail
  refine (H.out _).mono ?_
  rintro r w3 ⟨rfl, rfl⟩
  go_wp2_with (first | (refine step_buildD rfl ?_) | (refine step_storeA wD rfl rfl rfl G8.out (by rw [u8s_length, zer_length]) (One.u8 _) rfl ?_; intro w4 hg4 hbut4))
  refine bodyPost_ret (results_wide2 rfl wD _ _ rfl hg4 (by rw [u8s_length, zer_length])) rfl ⟨rfl, ?_⟩
  exact B2.out.trans (hbut4.below hw8)
set_option maxRecDepth 100000 in
set_option maxHeartbeats 1000000 in
theorem rootR7_ok (leaf : List Int) (i n : Nat) (a : Option Addr) (l cap : Nat) (xs : List Int) (w : World) (h1 : i < n) (h2 : n ≤ 281474976710656) (hl : l = (hvL i 0 n).length) (hlf : leaf.length = 32) (hlb : isB leaf) (hs : Ds w a l cap xs) :
    Calls Tryd.prog 76 #[.agg (u8s leaf).toArray, .int .i64 (i : Int), .int .i64 (n : Int), .slice a l cap] w fun r w' => r = .returned (.tuple #[.agg (u8s (fu (hvL i 0 n) xs leaf l)).toArray, .int .i64 0]) ∧ Below w.heap.size w w' := by
  have H := hide (fun v => lengthR_ok i n v h1 h2)
  have HU : Hid (∀ v : World, Ds v a l cap xs → Calls Tryd.prog 96 #[.agg (u8s leaf).toArray, .int .i64 (i : Int), .int .i64 (n : Int), .slice a l cap] v fun r w' => r = .returned (.agg (u8s (fu (hvL i 0 n) xs leaf l)).toArray) ∧ Below v.heap.size v w') := hide fun v hv => by
    have := upR_any leaf i hlf hlb n 0 n l a cap xs v (Nat.le_refl _) (Nat.zero_le _) (by omega) (by omega) hl hv
    rwa [show (i : Int) - ((0 : Nat) : Int) = (i : Int) by omega] at this
  have HS := hide hs
  have HLL := hide (show (u8s leaf).length = 32 by rw [u8s_length, hlf])
  have HRL := hide (show (u8s (fu (hvL i 0 n) xs leaf l)).length = 32 by rw [u8s_length, fu_length hlf])
  generalize fu (hvL i 0 n) xs leaf l = R at *
  rw [← hl] at H
  clear hs hl
  go_enter Tryd.func76, Tryd.ntmps76
  go_wp2_with (refine step_box rfl rfl ?_)
  intro w1 g4 hr1 hl1 hb1
  have G4 := hide hr1
  clear hr1
  go_wp2_with (refine step_alloc zD rfl ?_)
  intro w2 g8 hr2 hl2 hb2
  have G8 := hide hr2
  have G42 := hide (G4.out.below hb2 G4.out.lt)
  have B2 := hide (hb1.trans (hb2.mono hb1.size))
  have hw8 : w.heap.size ≤ g8 := Nat.le_trans hb1.size hl2
  clear hr2 hb1 hb2 G4
  go_wp2_with fail
  refine (H.out _).mono ?_
  rintro r w3 ⟨rfl, rfl⟩
  go_wp2_with (refine step_loadA wD rfl rfl G42.out HLL.out ?_)
  refine (HU.out _ (HS.out.below B2.out)).mono ?_
  rintro r w4 ⟨rfl, hb4⟩
  have G84 := hide (G8.out.on hb4)
  go_wp2_with (refine step_storeA wD rfl rfl rfl G84.out HRL.out (One.u8 _) rfl ?_; intro w5 hg5 hbut5)
  refine bodyPost_ret (results_wide2 rfl wD _ _ rfl hg5 HRL.out) rfl ⟨rfl, ?_⟩
  exact (on_below B2.out hb4).trans (hbut5.below hw8)

/-- What Root tells, program and document. -/
structure RB (leaf : List Int) (i n : Int) (l : Nat) (xs D : List Int) (E : Int) : Prop where
  len : D.length = 32
  byte : isB D
  prog : ∀ (a : Option Addr) (cap : Nat) (w : World), Ds w a l cap xs → KT w → Calls Tryd.prog 74 #[.agg (u8s leaf).toArray, .int .i64 i, .int .i64 n, .slice a l cap] w fun r w' => r = .returned (.tuple #[.agg (u8s D).toArray, .int .i64 E]) ∧ Below w.heap.size w w'
  doc : ∀ (a : Option Addr) (cap : Nat) (w : World), Ds w a l cap xs → Calls Tryd.prog 76 #[.agg (u8s leaf).toArray, .int .i64 i, .int .i64 n, .slice a l cap] w fun r w' => r = .returned (.tuple #[.agg (u8s D).toArray, .int .i64 E]) ∧ Below w.heap.size w w'
theorem zer_isB32 : isB (zer 32) := by unfold isB; decide
theorem root_both (leaf : List Int) (i n : Int) (l : Nat) (xs : List Int) (hlf : leaf.length = 32) (hlb : isB leaf) : ∃ D E, RB leaf i n l xs D E := by
  by_cases h : i < 0 ∨ n ≤ i ∨ 281474976710656 < n
  · exact ⟨zer 32, 40, zer_length 32, zer_isB32, fun a cap w _ _ => root7_bad leaf i n _ w h, fun a cap w _ => rootR7_bad leaf i n _ w h⟩
  · obtain ⟨i', rfl⟩ : ∃ i' : Nat, i = (i' : Int) := ⟨i.toNat, by omega⟩
    obtain ⟨n', rfl⟩ : ∃ n' : Nat, n = (n' : Int) := ⟨n.toNat, by omega⟩
    by_cases hl : l = (hvL i' 0 n').length
    · exact ⟨_, 0, fu_length hlf l, fu_isB hlb l, fun a cap w hs hk => root7_ok leaf i' n' a l cap xs w (by omega) (by omega) hl hlf hlb hs hk, fun a cap w hs => rootR7_ok leaf i' n' a l cap xs w (by omega) (by omega) hl hlf hlb hs⟩
    · exact ⟨zer 32, 70, zer_length 32, zer_isB32, fun a cap w _ _ => root7_len leaf i' n' a l cap w (by omega) (by omega) hl, fun a cap w _ => rootR7_len leaf i' n' a l cap w (by omega) (by omega) hl⟩

/-- What Inclusion tells. -/
def inR (D root : List Int) (E : Int) : Int := if E = 0 then (if D = root then 0 else 71) else E
theorem inR_self (D : List Int) (E : Int) : inR D D E = E := by
  unfold inR
  by_cases h : E = 0
  · rw [if_pos h, if_pos rfl, h]
  · rw [if_neg h]
set_option maxRecDepth 100000 in
set_option maxHeartbeats 1000000 in
theorem inc7_any (leaf root : List Int) (i n : Int) (a : Option Addr) (l cap : Nat) (xs D : List Int) (E : Int) (w : World) (hB : RB leaf i n l xs D E) (hlf : leaf.length = 32) (hrl : root.length = 32) (hs : Ds w a l cap xs) (hk : KT w) :
    Calls Tryd.prog 46 #[.agg (u8s leaf).toArray, .int .i64 i, .int .i64 n, .slice a l cap, .agg (u8s root).toArray] w fun r w' => r = .returned (.int .i64 (inR D root E)) ∧ Below w.heap.size w w' := by
  have HK := hide hk
  have HB := hide hB
  have HS := hide hs
  have HDL := hide hB.len
  have HRL := hide hrl
  have HDU := hide (show (u8s D).length = 32 by rw [u8s_length, hB.len])
  have HRU := hide (show (u8s root).length = 32 by rw [u8s_length, hrl])
  have HLL := hide (show (u8s leaf).length = 32 by rw [u8s_length, hlf])
  clear hk hs hrl hlf hB
  by_cases hE : E = 0
  · subst hE
    by_cases hD : D = root
    · rw [show inR D root 0 = 0 by unfold inR; rw [if_pos rfl, if_pos hD]]
      have hd : (!decide (D = root)) = false := by simp [hD]
      have HDD := hide hd
      clear hD hd
      go_enter Tryd.func46, Tryd.ntmps46
      go_wp2_with (refine step_box rfl rfl ?_)
      intro w1 g5 hr1 hl1 hb1
      have G5 := hide hr1
      clear hr1
      go_wp2_with (refine step_box rfl rfl ?_)
      intro w2 g9 hr2 hl2 hb2
      have G9 := hide hr2
      have G52 := hide (G5.out.on hb2)
      have B2 := hide (on_below hb1 hb2)
      clear hr2 hb1 hb2 G5
      go_wp2_with (refine step_loadA wD rfl rfl G52.out HLL.out ?_)
      refine (HB.out.prog a cap _ (HS.out.below B2.out) (HK.out.below B2.out HK.out.lt)).mono ?_
      rintro r w3 ⟨rfl, hb3⟩
      have G93 := hide (G9.out.on hb3)
      have B3 := hide (on_below B2.out hb3)
      clear hb3 G52 G9 B2
      go_wp2_with (refine step_alloc zD rfl ?_)
      intro w4 g11 hr4 hl4 hb4
      have G11 := hide hr4
      have h911 : g9 ≠ g11 := by have := G93.out.lt; omega
      clear hr4
      go_wp2_with (refine step_storeA wD rfl rfl rfl G11.out HDU.out (One.u8 _) rfl ?_)
      intro w5 hg5 hbut5
      have B5 := hide (new_below B3.out hb4 hl4 hbut5)
      have G95 := hide ((G93.out.on hb4).but hbut5 h911)
      have GD := hide hg5
      clear hg5 hbut5 hb4 G11 B3 G93
      go_wp2_with (first | (refine step_loadA wD rfl rfl GD.out HDU.out ?_) | (refine step_loadA wD rfl rfl G95.out HRU.out ?_) | (refine step_neQ aD _ HDD.out rfl rfl rfl HDL.out HRL.out ?_))
      go_ret
      exact ⟨rfl, B5.out⟩
    · rw [show inR D root 0 = 71 by unfold inR; rw [if_pos rfl, if_neg hD]]
      have hd : (!decide (D = root)) = true := by simp [hD]
      have HDD := hide hd
      clear hD hd
      go_enter Tryd.func46, Tryd.ntmps46
      go_wp2_with (refine step_box rfl rfl ?_)
      intro w1 g5 hr1 hl1 hb1
      have G5 := hide hr1
      clear hr1
      go_wp2_with (refine step_box rfl rfl ?_)
      intro w2 g9 hr2 hl2 hb2
      have G9 := hide hr2
      have G52 := hide (G5.out.on hb2)
      have B2 := hide (on_below hb1 hb2)
      clear hr2 hb1 hb2 G5
      go_wp2_with (refine step_loadA wD rfl rfl G52.out HLL.out ?_)
      refine (HB.out.prog a cap _ (HS.out.below B2.out) (HK.out.below B2.out HK.out.lt)).mono ?_
      rintro r w3 ⟨rfl, hb3⟩
      have G93 := hide (G9.out.on hb3)
      have B3 := hide (on_below B2.out hb3)
      clear hb3 G52 G9 B2
      go_wp2_with (refine step_alloc zD rfl ?_)
      intro w4 g11 hr4 hl4 hb4
      have G11 := hide hr4
      have h911 : g9 ≠ g11 := by have := G93.out.lt; omega
      clear hr4
      go_wp2_with (refine step_storeA wD rfl rfl rfl G11.out HDU.out (One.u8 _) rfl ?_)
      intro w5 hg5 hbut5
      have B5 := hide (new_below B3.out hb4 hl4 hbut5)
      have G95 := hide ((G93.out.on hb4).but hbut5 h911)
      have GD := hide hg5
      clear hg5 hbut5 hb4 G11 B3 G93
      go_wp2_with (first | (refine step_loadA wD rfl rfl GD.out HDU.out ?_) | (refine step_loadA wD rfl rfl G95.out HRU.out ?_) | (refine step_neQ aD _ HDD.out rfl rfl rfl HDL.out HRL.out ?_))
      go_ret
      exact ⟨rfl, B5.out⟩
  · rw [show inR D root E = E by unfold inR; rw [if_neg hE]]
    have hE1 : (E != 0) = true := by simp [hE]
    have hE2 : (E == 0) = false := by simp [hE]
    have HDD : Hid ((!decide (D = root)) = !decide (D = root)) := hide rfl
    go_enter Tryd.func46, Tryd.ntmps46
    go_wp2_with (refine step_box rfl rfl ?_)
    intro w1 g5 hr1 hl1 hb1
    have G5 := hide hr1
    clear hr1
    go_wp2_with (refine step_box rfl rfl ?_)
    intro w2 g9 hr2 hl2 hb2
    have G9 := hide hr2
    have G52 := hide (G5.out.on hb2)
    have B2 := hide (on_below hb1 hb2)
    clear hr2 hb1 hb2 G5
    go_wp2_with (refine step_loadA wD rfl rfl G52.out HLL.out ?_)
    refine (HB.out.prog a cap _ (HS.out.below B2.out) (HK.out.below B2.out HK.out.lt)).mono ?_
    rintro r w3 ⟨rfl, hb3⟩
    have G93 := hide (G9.out.on hb3)
    have B3 := hide (on_below B2.out hb3)
    clear hb3 G52 G9 B2
    go_wp2_with (refine step_alloc zD rfl ?_)
    intro w4 g11 hr4 hl4 hb4
    have G11 := hide hr4
    have h911 : g9 ≠ g11 := by have := G93.out.lt; omega
    clear hr4
    go_wp2_with (refine step_storeA wD rfl rfl rfl G11.out HDU.out (One.u8 _) rfl ?_)
    intro w5 hg5 hbut5
    have B5 := hide (new_below B3.out hb4 hl4 hbut5)
    have G95 := hide ((G93.out.on hb4).but hbut5 h911)
    have GD := hide hg5
    clear hg5 hbut5 hb4 G11 B3 G93
    go_wp2_with (first | (refine step_loadA wD rfl rfl GD.out HDU.out ?_) | (refine step_loadA wD rfl rfl G95.out HRU.out ?_) | (refine step_neQ aD _ HDD.out rfl rfl rfl HDL.out HRL.out ?_))
    go_ret
    exact ⟨rfl, B5.out⟩
set_option maxRecDepth 100000 in
set_option maxHeartbeats 1000000 in
theorem incR7_any (leaf root : List Int) (i n : Int) (a : Option Addr) (l cap : Nat) (xs D : List Int) (E : Int) (w : World) (hB : RB leaf i n l xs D E) (hlf : leaf.length = 32) (hrl : root.length = 32) (hs : Ds w a l cap xs) :
    Calls Tryd.prog 48 #[.agg (u8s leaf).toArray, .int .i64 i, .int .i64 n, .slice a l cap, .agg (u8s root).toArray] w fun r w' => r = .returned (.int .i64 (inR D root E)) ∧ Below w.heap.size w w' := by
  have HB := hide hB
  have HS := hide hs
  have HDL := hide hB.len
  have HRL := hide hrl
  have HDU := hide (show (u8s D).length = 32 by rw [u8s_length, hB.len])
  have HRU := hide (show (u8s root).length = 32 by rw [u8s_length, hrl])
  have HLL := hide (show (u8s leaf).length = 32 by rw [u8s_length, hlf])
  clear hs hrl hlf hB
  by_cases hE : E = 0
  · subst hE
    by_cases hD : D = root
    · rw [show inR D root 0 = 0 by unfold inR; rw [if_pos rfl, if_pos hD]]
      have hd : (!decide (D = root)) = false := by simp [hD]
      have HDD := hide hd
      clear hD hd
      go_enter Tryd.func48, Tryd.ntmps48
      go_wp2_with (refine step_box rfl rfl ?_)
      intro w1 g5 hr1 hl1 hb1
      have G5 := hide hr1
      clear hr1
      go_wp2_with (refine step_box rfl rfl ?_)
      intro w2 g9 hr2 hl2 hb2
      have G9 := hide hr2
      have G52 := hide (G5.out.on hb2)
      have B2 := hide (on_below hb1 hb2)
      clear hr2 hb1 hb2 G5
      go_wp2_with (refine step_loadA wD rfl rfl G52.out HLL.out ?_)
      refine (HB.out.doc a cap _ (HS.out.below B2.out)).mono ?_
      rintro r w3 ⟨rfl, hb3⟩
      have G93 := hide (G9.out.on hb3)
      have B3 := hide (on_below B2.out hb3)
      clear hb3 G52 G9 B2
      go_wp2_with (refine step_alloc zD rfl ?_)
      intro w4 g11 hr4 hl4 hb4
      have G11 := hide hr4
      have h911 : g9 ≠ g11 := by have := G93.out.lt; omega
      clear hr4
      go_wp2_with (refine step_storeA wD rfl rfl rfl G11.out HDU.out (One.u8 _) rfl ?_)
      intro w5 hg5 hbut5
      have B5 := hide (new_below B3.out hb4 hl4 hbut5)
      have G95 := hide ((G93.out.on hb4).but hbut5 h911)
      have GD := hide hg5
      clear hg5 hbut5 hb4 G11 B3 G93
      go_wp2_with (first | (refine step_loadA wD rfl rfl GD.out HDU.out ?_) | (refine step_loadA wD rfl rfl G95.out HRU.out ?_) | (refine step_neQ aD _ HDD.out rfl rfl rfl HDL.out HRL.out ?_))
      go_ret
      exact ⟨rfl, B5.out⟩
    · rw [show inR D root 0 = 71 by unfold inR; rw [if_pos rfl, if_neg hD]]
      have hd : (!decide (D = root)) = true := by simp [hD]
      have HDD := hide hd
      clear hD hd
      go_enter Tryd.func48, Tryd.ntmps48
      go_wp2_with (refine step_box rfl rfl ?_)
      intro w1 g5 hr1 hl1 hb1
      have G5 := hide hr1
      clear hr1
      go_wp2_with (refine step_box rfl rfl ?_)
      intro w2 g9 hr2 hl2 hb2
      have G9 := hide hr2
      have G52 := hide (G5.out.on hb2)
      have B2 := hide (on_below hb1 hb2)
      clear hr2 hb1 hb2 G5
      go_wp2_with (refine step_loadA wD rfl rfl G52.out HLL.out ?_)
      refine (HB.out.doc a cap _ (HS.out.below B2.out)).mono ?_
      rintro r w3 ⟨rfl, hb3⟩
      have G93 := hide (G9.out.on hb3)
      have B3 := hide (on_below B2.out hb3)
      clear hb3 G52 G9 B2
      go_wp2_with (refine step_alloc zD rfl ?_)
      intro w4 g11 hr4 hl4 hb4
      have G11 := hide hr4
      have h911 : g9 ≠ g11 := by have := G93.out.lt; omega
      clear hr4
      go_wp2_with (refine step_storeA wD rfl rfl rfl G11.out HDU.out (One.u8 _) rfl ?_)
      intro w5 hg5 hbut5
      have B5 := hide (new_below B3.out hb4 hl4 hbut5)
      have G95 := hide ((G93.out.on hb4).but hbut5 h911)
      have GD := hide hg5
      clear hg5 hbut5 hb4 G11 B3 G93
      go_wp2_with (first | (refine step_loadA wD rfl rfl GD.out HDU.out ?_) | (refine step_loadA wD rfl rfl G95.out HRU.out ?_) | (refine step_neQ aD _ HDD.out rfl rfl rfl HDL.out HRL.out ?_))
      go_ret
      exact ⟨rfl, B5.out⟩
  · rw [show inR D root E = E by unfold inR; rw [if_neg hE]]
    have hE1 : (E != 0) = true := by simp [hE]
    have hE2 : (E == 0) = false := by simp [hE]
    have HDD : Hid ((!decide (D = root)) = !decide (D = root)) := hide rfl
    go_enter Tryd.func48, Tryd.ntmps48
    go_wp2_with (refine step_box rfl rfl ?_)
    intro w1 g5 hr1 hl1 hb1
    have G5 := hide hr1
    clear hr1
    go_wp2_with (refine step_box rfl rfl ?_)
    intro w2 g9 hr2 hl2 hb2
    have G9 := hide hr2
    have G52 := hide (G5.out.on hb2)
    have B2 := hide (on_below hb1 hb2)
    clear hr2 hb1 hb2 G5
    go_wp2_with (refine step_loadA wD rfl rfl G52.out HLL.out ?_)
    refine (HB.out.doc a cap _ (HS.out.below B2.out)).mono ?_
    rintro r w3 ⟨rfl, hb3⟩
    have G93 := hide (G9.out.on hb3)
    have B3 := hide (on_below B2.out hb3)
    clear hb3 G52 G9 B2
    go_wp2_with (refine step_alloc zD rfl ?_)
    intro w4 g11 hr4 hl4 hb4
    have G11 := hide hr4
    have h911 : g9 ≠ g11 := by have := G93.out.lt; omega
    clear hr4
    go_wp2_with (refine step_storeA wD rfl rfl rfl G11.out HDU.out (One.u8 _) rfl ?_)
    intro w5 hg5 hbut5
    have B5 := hide (new_below B3.out hb4 hl4 hbut5)
    have G95 := hide ((G93.out.on hb4).but hbut5 h911)
    have GD := hide hg5
    clear hg5 hbut5 hb4 G11 B3 G93
    go_wp2_with (first | (refine step_loadA wD rfl rfl GD.out HDU.out ?_) | (refine step_loadA wD rfl rfl G95.out HRU.out ?_) | (refine step_neQ aD _ HDD.out rfl rfl rfl HDL.out HRL.out ?_))
    go_ret
    exact ⟨rfl, B5.out⟩

end Go.Proofs.YtojepbapdjkknaaDoor
