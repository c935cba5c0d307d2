/-
  Texts one behind the other: Vj Vu Vi Vo Vq Vv Vc Vy Qa Ql.
-/
import Derived.Test.YtconeobaohmbnaaDoorVf
import Derived.Test.YtconeobaohmbnaaDoorDa

/-
  The program's join, and the root that a proof leads to.
-/
namespace Go.Proofs.YtconeobaohmbnaaDoor
open Go.RowKit
set_option linter.unusedVariables false

/-- The digest of the part of which d has that half, and x the other one. -/
def jn (h : Int) (d x : List Int) : List Int := if h = 1 then nd x d else nd d x
theorem jn_length (h : Int) (d x : List Int) : (jn h d x).length = 32 := by unfold jn; split <;> exact nd_length _ _
theorem jn_isB (h : Int) (d x : List Int) : isB (jn h d x) := by unfold jn; split <;> exact nd_isB _ _
/-- What the first k digests of a proof lead to. -/
def fu (hs xs d : List Int) : Nat → List Int
  | 0 => d
  | k + 1 => jn (hs.getD k 0) (fu hs xs d k) (dat xs k)
theorem fu_length {hs xs d : List Int} (h : d.length = 32) : ∀ k, (fu hs xs d k).length = 32
  | 0 => h
  | k + 1 => jn_length _ _ _
theorem fu_isB {hs xs d : List Int} (h : isB d) : ∀ k, isB (fu hs xs d k)
  | 0 => h
  | k + 1 => jn_isB _ _ _
theorem wp_loadWG {dst : Option Tmp} {ty : TypeId} {pos : String} {aft : Array Edge} {gd : Option (Nat × Bool)} {a : Act} {w : World} {K : Act → World → Prop} {Q : Exit → Act → World → Prop} {T : TypeId} {n : Nat} (hT : Wide T n) {x : Operand} {g : Nat} {t : TypeId} {cs : List Value} (hx : a.eval x = .pointer (some ⟨g, 0, none⟩)) (hg : Blk w g t cs) (hn : cs.length = n)
    (h : K (a.put dst (.agg cs.toArray)) w) : Oper.wp Tryd.prog ⟨dst, .load T x, ty, pos, aft, gd⟩ a w K Q :=
  wp_loadW hT rfl hx hg cs hn (by rw [List.drop_zero, List.take_of_length_le (by omega)]) h
theorem spl_same (xs ys : List Int) (hx : xs.length = 32) (hy : ys.length = 32) : spl (u8s xs) (u8s ys) 0 = u8s ys := by
  unfold spl
  rw [List.drop_of_length_le (by rw [u8s_length, u8s_length]; omega)]
  simp

set_option maxRecDepth 100000 in
set_option maxHeartbeats 1000000 in
theorem join_any (h : Int) (d x : List Int) (w : World) (hd : d.length = 32) (hdb : isB d) (hx : x.length = 32) (hxb : isB x) (hk : KT w) :
    Calls Tryd.prog 74 #[.int .i64 h, .agg (u8s d).toArray, .agg (u8s x).toArray] w fun e w' => e = .returned (.agg (u8s (jn h d x)).toArray) ∧ Below w.heap.size w w' := by
  have HD := hide hd
  have HX := hide hx
  have HDB := hide hdb
  have HXB := hide hxb
  have HK := hide hk
  have HDU := hide (show (u8s d).length = 32 by rw [u8s_length, hd])
  have HXU := hide (show (u8s x).length = 32 by rw [u8s_length, hx])
  clear hd hx hdb hxb hk
  by_cases h1 : h = 1
  · subst h1
    rw [show jn 1 d x = nd x d from rfl]
    go_enter Tryd.func74, Tryd.ntmps74
    go_wp2_with (refine step_box rfl rfl ?_)
    intro w1 g4 hr1 hl1 hb1
    have G4 := hide hr1
    clear hr1
    go_wp2_with (refine step_box rfl rfl ?_)
    intro w2 g5 hr2 hl2 hb2
    have G5 := hide hr2
    have G42 := hide (G4.out.below hb2 G4.out.lt)
    clear hr2
    go_wp2_with (refine step_alloc zD rfl ?_)
    intro w3 g6 hr3 hl3 hb3
    have G6 := hide hr3
    have G53 := hide (G5.out.below hb3 G5.out.lt)
    have G43 := hide (G42.out.below hb3 G42.out.lt)
    have B3 := hide ((hb1.trans (hb2.mono hb1.size)).trans (hb3.mono (Nat.le_trans hb1.size hb2.size)))
    have hw6 : w.heap.size ≤ g6 := Nat.le_trans (Nat.le_trans hb1.size hb2.size) hl3
    clear hr3 hb1 hb2 hb3 G4 G42 G5
    go_wp2_with (first | (refine step_loadA wD rfl rfl G53.out HXU.out ?_) | (refine step_loadA wD rfl rfl G43.out HDU.out ?_) | fail)
    refine (node_any x d _ HX.out HXB.out HD.out HDB.out (HK.out.below B3.out HK.out.lt)).mono ?_
    rintro e w4 ⟨rfl, hb4⟩
    have G64 := hide (G6.out.below hb4 G6.out.lt)
    have HML := hide (show (u8s (nd x d)).length = 32 by rw [u8s_length, nd_length])
    go_wp2_with (refine step_storeA wD rfl rfl rfl G64.out HML.out (One.u8 _) rfl ?_; intro w5 hg5 hbut5)
    refine bodyPost_ret (results_wide rfl wD _ _ rfl hg5 HML.out) rfl ⟨rfl, ?_⟩
    exact (B3.out.trans (hb4.mono B3.out.size)).trans (hbut5.below hw6)
  · rw [show jn h d x = nd d x from if_neg h1]
    go_enter Tryd.func74, Tryd.ntmps74
    go_wp2_with (refine step_box rfl rfl ?_)
    intro w1 g4 hr1 hl1 hb1
    have G4 := hide hr1
    clear hr1
    go_wp2_with (refine step_box rfl rfl ?_)
    intro w2 g5 hr2 hl2 hb2
    have G5 := hide hr2
    have G42 := hide (G4.out.below hb2 G4.out.lt)
    clear hr2
    go_wp2_with (refine step_alloc zD rfl ?_)
    intro w3 g6 hr3 hl3 hb3
    have G6 := hide hr3
    have G53 := hide (G5.out.below hb3 G5.out.lt)
    have G43 := hide (G42.out.below hb3 G42.out.lt)
    have B3 := hide ((hb1.trans (hb2.mono hb1.size)).trans (hb3.mono (Nat.le_trans hb1.size hb2.size)))
    have hw6 : w.heap.size ≤ g6 := Nat.le_trans (Nat.le_trans hb1.size hb2.size) hl3
    clear hr3 hb1 hb2 hb3 G4 G42 G5
    go_wp2_with (first | (refine step_loadA wD rfl rfl G43.out HDU.out ?_) | (refine step_loadA wD rfl rfl G53.out HXU.out ?_) | fail)
    refine (node_any d x _ HD.out HDB.out HX.out HXB.out (HK.out.below B3.out HK.out.lt)).mono ?_
    rintro e w4 ⟨rfl, hb4⟩
    have G64 := hide (G6.out.below hb4 G6.out.lt)
    have HML := hide (show (u8s (nd d x)).length = 32 by rw [u8s_length, nd_length])
    go_wp2_with (refine step_storeA wD rfl rfl rfl G64.out HML.out (One.u8 _) rfl ?_; intro w5 hg5 hbut5)
    refine bodyPost_ret (results_wide rfl wD _ _ rfl hg5 HML.out) rfl ⟨rfl, ?_⟩
    exact (B3.out.trans (hb4.mono B3.out.size)).trans (hbut5.below hw6)

/-- What the loop keeps. -/
structure RM (w wr : World) (g8 g12 : Nat) (v : Value) (hs D : List Int) : Prop where
  own : OwnH wr w.heap.size v hs
  ne : v.ownBlock ≠ some g12
  res : Blk wr g8 23 (u8s (zer 32))
  d : Blk wr g12 23 (u8s D)
  bel : Below w.heap.size w wr
theorem RM.below {w wr w' : World} {g8 g12 : Nat} {v : Value} {hs D : List Int} (h : RM w wr g8 g12 v hs D) (hb : Below wr.heap.size wr w') : RM w w' g8 g12 v hs D :=
  ⟨h.own.below hb, h.ne, h.res.on hb, h.d.on hb, on_below h.bel hb⟩
theorem RM.set {w wr w' : World} {g8 g12 : Nat} {v : Value} {hs D D' : List Int} (h : RM w wr g8 g12 v hs D) (hb : But g12 wr w') (hd : Blk w' g12 23 (u8s D')) (hg : w.heap.size ≤ g12) (h8 : g8 ≠ g12) : RM w w' g8 g12 v hs D' :=
  ⟨h.own.but hb h.ne, h.ne, h.res.but hb h8, hd, h.bel.trans (hb.below hg)⟩

set_option maxRecDepth 100000 in
set_option maxHeartbeats 1000000 in
theorem root7_bad (leaf : List Int) (i n : Int) (a : Value) (w : World) (h : i < 0 ∨ n ≤ i ∨ 281474976710656 < n) :
    Calls Tryd.prog 68 #[.agg (u8s leaf).toArray, .int .i64 i, .int .i64 n, a] w fun r w' => r = .returned (.tuple #[.agg (u8s (zer 32)).toArray, .int .i64 40]) ∧ Below w.heap.size w w' := by
  have H := hide (fun v => toLeaf_bad i n v h)
  clear h
  go_enter Tryd.func68, Tryd.ntmps68
  go_wp2_with (refine step_box rfl rfl ?_)
  intro w1 g4 hr1 hl1 hb1
  have G4 := hide hr1
  clear hr1
  go_wp2_with (refine step_alloc zD rfl ?_)
  intro w2 g8 hr2 hl2 hb2
  have G8 := hide hr2
  have G42 := hide (G4.out.below hb2 G4.out.lt)
  have B2 := hide (hb1.trans (hb2.mono hb1.size))
  have hw8 : w.heap.size ≤ g8 := Nat.le_trans hb1.size hl2
  clear hr2 hb1 hb2 G4
  go_wp2_with fail
  refine (H.out _).mono ?_
  rintro r w3 ⟨rfl, hb3⟩
  have G83 := hide (G8.out.on hb3)
  have B3 := hide (on_below B2.out hb3)
  clear hb3
  go_wp2_with (first | (refine step_buildD rfl ?_) | (refine step_storeA wD rfl rfl rfl G83.out (by rw [u8s_length, zer_length]) (One.u8 _) rfl ?_; intro w4 hg4 hbut4))
  refine bodyPost_ret (results_wide2 rfl wD _ _ rfl hg4 (by rw [u8s_length, zer_length])) rfl ⟨rfl, ?_⟩
  exact B3.out.trans (hbut4.below hw8)
set_option maxRecDepth 100000 in
set_option maxHeartbeats 1000000 in
theorem root7_len (leaf : List Int) (i n : Nat) (a : Option Addr) (l cap : Nat) (w : World) (h1 : i < n) (h2 : n ≤ 281474976710656) (hl : l ≠ (hvL i 0 n).length) :
    Calls Tryd.prog 68 #[.agg (u8s leaf).toArray, .int .i64 (i : Int), .int .i64 (n : Int), .slice a l cap] w fun r w' => r = .returned (.tuple #[.agg (u8s (zer 32)).toArray, .int .i64 70]) ∧ Below w.heap.size w w' := by
  have H := hide (fun v => toLeaf_ok i n v h1 h2)
  have hl' : ((l : Int) != ((hvL i 0 n).length : Int)) = true := by simp; omega
  generalize hvL i 0 n = L at *
  go_enter Tryd.func68, Tryd.ntmps68
  go_wp2_with (refine step_box rfl rfl ?_)
  intro w1 g4 hr1 hl1 hb1
  have G4 := hide hr1
  clear hr1
  go_wp2_with (refine step_alloc zD rfl ?_)
  intro w2 g8 hr2 hl2 hb2
  have G8 := hide hr2
  have G42 := hide (G4.out.below hb2 G4.out.lt)
  have B2 := hide (hb1.trans (hb2.mono hb1.size))
  have hw8 : w.heap.size ≤ g8 := Nat.le_trans hb1.size hl2
  clear hr2 hb1 hb2 G4
  go_wp2_with fail
  refine (H.out _).mono ?_
  rintro r w3 ⟨v3, rfl, ho3, hb3⟩
  obtain ⟨a3, c3, rfl⟩ := ho3.slice
  have G83 := hide (G8.out.on hb3)
  have B3 := hide (on_below B2.out hb3)
  clear hb3 ho3
  go_wp2_with (first | (refine step_buildD rfl ?_) | (refine step_storeA wD rfl rfl rfl G83.out (by rw [u8s_length, zer_length]) (One.u8 _) rfl ?_; intro w4 hg4 hbut4))
  refine bodyPost_ret (results_wide2 rfl wD _ _ rfl hg4 (by rw [u8s_length, zer_length])) rfl ⟨rfl, ?_⟩
  exact B3.out.trans (hbut4.below hw8)
set_option maxRecDepth 100000 in
set_option maxHeartbeats 2000000 in
theorem root7_ok (leaf : List Int) (i n : Nat) (a : Option Addr) (l cap : Nat) (xs : List Int) (w : World) (h1 : i < n) (h2 : n ≤ 281474976710656) (hl : l = (hvL i 0 n).length) (hlf : leaf.length = 32) (hlb : isB leaf) (hs : Ds w a l cap xs) (hk : KT w) :
    Calls Tryd.prog 68 #[.agg (u8s leaf).toArray, .int .i64 (i : Int), .int .i64 (n : Int), .slice a l cap] w fun r w' => r = .returned (.tuple #[.agg (u8s (fu (hvL i 0 n) xs leaf l)).toArray, .int .i64 0]) ∧ Below w.heap.size w w' := by
  have H := hide (fun v => toLeaf_ok i n v h1 h2)
  have hlen := hvL_few (Nat.zero_le i) (show i < 0 + n by omega) h2
  have HS := hide hs
  have HK := hide hk
  have HLL := hide (show (u8s leaf).length = 32 by rw [u8s_length, hlf])
  have HFL := hide (fun k => fu_length (hs := hvL i 0 n) (xs := xs) hlf k)
  have HFB := hide (fun k => fu_isB (hs := hvL i 0 n) (xs := xs) hlb k)
  generalize hvL i 0 n = L at *
  have HLN : Hid (L.length = l) := hide hl.symm
  rw [← hl] at hlen
  clear hs hk hlf hlb hl
  go_enter Tryd.func68, Tryd.ntmps68
  go_wp2_with (refine step_box rfl rfl ?_)
  intro w1 g4 hr1 hl1 hb1
  have G4 := hide hr1
  clear hr1
  go_wp2_with (refine step_alloc zD rfl ?_)
  intro w2 g8 hr2 hl2 hb2
  have G8 := hide hr2
  have G42 := hide (G4.out.below hb2 G4.out.lt)
  have B2 := hide (hb1.trans (hb2.mono hb1.size))
  have hw8 : w.heap.size ≤ g8 := Nat.le_trans hb1.size hl2
  clear hr2 hb1 hb2 G4
  go_wp2_with fail
  refine (H.out _).mono ?_
  rintro r w3 ⟨v3, rfl, ho3, hb3⟩
  obtain ⟨a3, c3, rfl⟩ := ho3.slice
  rw [HLN.out] at ho3 ⊢
  have G83 := hide (G8.out.on hb3)
  have G43 := hide (G42.out.on hb3)
  have O3 := hide (ho3.lower B2.out.size)
  have B3 := hide (on_below B2.out hb3)
  have hs23 := hb3.size
  clear hb3 ho3 G8 G42
  go_wp2_with (first | (refine step_loadA wD rfl rfl G43.out HLL.out ?_) | (refine step_alloc zD rfl ?_))
  intro w4 g12 hr4 hl4 hb4
  have G12 := hide hr4
  have h812 : g8 ≠ g12 := by have := G83.out.lt; omega
  clear hr4
  go_wp2_with (refine step_storeA wD rfl rfl rfl G12.out HLL.out (One.u8 _) rfl ?_)
  intro w5 hg5 hbut5
  have hw12 : w.heap.size ≤ g12 := Nat.le_trans B3.out.size hl4
  have R5 : Hid (RM w w5 g8 g12 (.slice a3 l c3) L leaf) := hide ⟨(O3.out.below hb4).but hbut5 (fun hk => by have := (O3.out.lt _ hk).2; omega), fun hk => by have := (O3.out.lt _ hk).2; omega, (G83.out.on hb4).but hbut5 h812, hg5, new_below B3.out hb4 hl4 hbut5⟩
  clear hg5 hbut5 hb4 G12 O3 B3 G83 G43
  go_wp2
  go_loopw [34] (fun s wr => ∃ k : Nat, k ≤ l ∧ s = .int .i64 (k : Int) ∧ RM w wr g8 g12 (.slice a3 l c3) L (fu L xs leaf k)) (fun s _ => l - (intOf s).toNat)
  case atStart => exact ⟨0, by omega, rfl, R5.out⟩
  case round =>
    obtain ⟨k, hkl, rfl, hR⟩ := hrel
    have R := hide hR
    clear hR R5
    by_cases hlt : k < l
    · have hlt' : (k : Int) < (l : Int) := by omega
      obtain ⟨b, o, rfl⟩ := HS.out.place (by omega)
      have hat := d_at b o l cap k (k : Int) rfl hlt
      have HDL := hide (dat_length HS.out.hlen hlt)
      have HDB := hide (dat_isB HS.out.hbyte k)
      have HUL := hide (show (u8s (dat xs k)).length = 32 by rw [u8s_length, HDL.out])
      have HRG := hide ((HS.out.below R.out.bel).range k hlt)
      obtain ⟨h, hh⟩ : ∃ h, L[k]? = some h := ⟨_, List.getElem?_eq_getElem (show k < L.length by rw [HLN.out]; exact hlt)⟩
      have HNX : Hid (fu L xs leaf (k + 1) = jn h (fu L xs leaf k) (dat xs k)) := hide (by show jn (L.getD k 0) _ _ = _; rw [List.getD, hh]; rfl)
      obtain ⟨gH, rfl⟩ : ∃ gH, a3 = some ⟨gH, 0, none⟩ := by
        rcases R.out.own.lies with ⟨e, h0⟩ | ⟨g, c, cs, e, _⟩
        · rw [h0] at hh; cases hh
        · injection e with e1 _ _; exact ⟨g, e1⟩
      have HFL2 := hide (HFL.out k)
      have HFB2 := hide (HFB.out k)
      generalize fu L xs leaf k = Dk at *
      go_wp2_with (first | (refine step_loadR wD rfl rfl _ HRG.out HUL.out ?_) | (refine step_alloc zD rfl ?_))
      intro w6 g14 hr6 hl6 hb6
      have G14 := hide hr6
      clear hr6
      go_wp2_with (refine step_storeA wD rfl rfl rfl G14.out HUL.out (One.u8 _) rfl ?_)
      intro w7 hg7 hbut7
      have hn14 : g12 ≠ g14 := by have := R.out.d.lt; omega
      have B67 := hide (hb6.trans (hbut7.below hl6))
      have R7 := hide (R.out.below B67.out)
      have G7 := hide hg7
      clear hg7 hbut7 hb6 G14 R HRG hat B67
      go_wp2_with fail
      refine wp_region_noPanic ?_
      have R0 := hide (R7.out.below ((Below.refl _ _).drew))
      have G0 := hide (G7.out.on ((Below.refl _ _).drew))
      have hu := aD.und
      have HI1 : Hid ((Tryd.prog.info? 23).map (·.size) = some (u8s (dat xs k)).length) := hide (by rw [wD.size, HUL.out])
      have hS : ∀ v : World, OwnH v w.heap.size (.slice (some ⟨gH, 0, none⟩) l c3) L → Blk v g14 23 (u8s (dat xs k)) → v.cell? ⟨gH, k, none⟩ = some (.int .i64 h) ∧ v.rangeAt g14 0 (u8s (dat xs k)) := fun v h1 h2 => ⟨h1.cell k h hh, h2.range 0 _ (by simp)⟩
      refine wp_region_held_drew (S := fun v : World => v.cell? ⟨gH, k, none⟩ = some (.int .i64 h) ∧ v.rangeAt g14 0 (u8s (dat xs k))) (by kernel_rfl) (hS _ R0.out.own G0.out) (fun hHeld => ?_)
      refine takeH 0 39 (.slice (some ⟨gH, 0, none⟩) l c3) hHeld rfl rfl (by kernel_rfl) (by kernel_rfl) (by kernel_rfl) (fun _ _ _ h => h) (Or.inl ⟨by rfl, fun w _ => by go_simp⟩) ?_
      simp only [Act.put, List.setIfInBounds_toArray, List.set_cons_zero, List.set_cons_succ]
      refine takeH 1 40 (.int .i64 (k : Int)) hHeld rfl rfl (by kernel_rfl) (by kernel_rfl) (by kernel_rfl) (fun _ _ _ h => h) (Or.inl ⟨by rfl, fun w _ => by go_simp⟩) ?_
      simp only [Act.put, List.setIfInBounds_toArray, List.set_cons_zero, List.set_cons_succ]
      refine takeH 2 41 (.pointer (some ⟨gH, k, none⟩)) hHeld rfl rfl (by kernel_rfl) (by kernel_rfl) (by kernel_rfl) (fun _ _ _ h => h) (Or.inl ⟨by rfl, fun w _ => run_op rfl ((atH gH l c3 k _ rfl hlt) w)⟩) ?_
      simp only [Act.put, List.setIfInBounds_toArray, List.set_cons_zero, List.set_cons_succ]
      refine takeH 3 42 (.int .i64 h) hHeld rfl rfl (by kernel_rfl) (by kernel_rfl) (by kernel_rfl) (fun _ _ _ h => h) (Or.inl ⟨by rfl, fun w hw => by have hw' : w.cell? ⟨gH, k, none⟩ = some (.int .i64 h) := (fun h => h.1) hw; go_simp⟩) ?_
      simp only [Act.put, List.setIfInBounds_toArray, List.set_cons_zero, List.set_cons_succ]
      refine takeH 5 44 (.agg (u8s (dat xs k)).toArray) hHeld rfl rfl (by kernel_rfl) (by kernel_rfl) (by kernel_rfl) (fun _ _ _ h => h) (yieldsIf_load_mid (by rfl) _ _ rfl g14 0 rfl _ _ (fun w h => h.2) hu rfl HI1.out) ?_
      simp only [Act.put, List.setIfInBounds_toArray, List.set_cons_zero, List.set_cons_succ]
      refine wpAnyH_ready (rs := [4]) (by kernel_rfl) (by simp) (AllReadyH.cons rfl (fun K hK => ?_) AllReadyH.nil)
      rw [if_pos (by rfl)]
      refine wp_loadWG wD rfl R0.out.d (by rw [u8s_length]; exact HFL2.out) ?_
      refine hK.out _ _ (hS _ R0.out.own G0.out) (fun hHeld => ?_)
      clear hK K
      simp only [Act.put]
      refine wpAnyH_ready (rs := [6]) (by kernel_rfl) (by simp) (AllReadyH.cons rfl (fun K hK => ?_) AllReadyH.nil)
      rw [if_pos (by rfl)]
      go_simp
      refine (join_any h Dk (dat xs k) _ HFL2.out HFB2.out HDL.out HDB.out (HK.out.below R0.out.bel HK.out.lt)).mono ?_
      rintro r v1 ⟨rfl, hv1⟩
      have R1 := hide (R0.out.below hv1)
      have G1 := hide (G0.out.on hv1)
      refine hK.out _ _ (hS _ R1.out.own G1.out) (fun hHeld => ?_)
      clear hK K
      refine wpAnyH_ready (rs := [7]) (by kernel_rfl) (by simp) (AllReadyH.cons rfl (fun K hK => ?_) AllReadyH.nil)
      rw [if_pos (by rfl)]
      refine wp_storeW wD rfl rfl rfl R1.out.d (by rw [u8s_length]; exact jn_length _ _ _) (One.u8 _) (by rw [u8s_length, HFL2.out]; omega) ?_
      intro v2 hgs hbuts
      rw [spl_same _ _ HFL2.out (jn_length _ _ _)] at hgs
      have R2 := hide (R1.out.set hbuts hgs hw12 h812)
      have G2 := hide (G1.out.but hbuts (Ne.symm hn14))
      refine hK.out _ _ (hS _ R2.out.own G2.out) (fun hHeld => ?_)
      clear hK K
      simp only [Act.put]
      refine wpAnyH_done (by kernel_rfl) ?_ _
      refine NoPanic.normal ?_
      clear hHeld hS hu
      go_wp2
      go_roundw
      case rel => exact ⟨k + 1, by omega, by simp, by rw [HNX.out]; exact R2.out⟩
      case measure => simp only [intOf]; omega
    · obtain rfl : k = l := by omega
      have hlt' : ¬ ((k : Int) < (k : Int)) := by omega
      have HRL := hide (show (u8s (fu L xs leaf k)).length = 32 by rw [u8s_length, HFL.out k])
      go_wp2_with (first | (refine step_loadA wD rfl rfl R.out.d HRL.out ?_) | (refine step_storeA wD rfl rfl rfl R.out.res HRL.out (One.u8 _) (by rw [u8s_length, zer_length]) ?_; intro w9 hg9 hbut9))
      refine bodyPost_ret (results_wide2 rfl wD _ _ rfl hg9 HRL.out) rfl ⟨rfl, ?_⟩
      exact R.out.bel.trans (hbut9.below hw8)

end Go.Proofs.YtconeobaohmbnaaDoor

/-
  The document's root that a proof leads to.
-/
namespace Go.Proofs.YtconeobaohmbnaaDoor
open Go.RowKit
set_option linter.unusedVariables false

theorem fu_app (A B xs d : List Int) : ∀ k, k ≤ A.length → fu (A ++ B) xs d k = fu A xs d k
  | 0, _ => rfl
  | k + 1, h => by
    show jn ((A ++ B).getD k 0) (fu (A ++ B) xs d k) _ = jn (A.getD k 0) (fu A xs d k) _
    rw [fu_app A B xs d k (by omega)]
    congr 1
    simp [List.getD, List.getElem?_append_left (show k < A.length by omega)]
theorem dat_take (xs : List Int) (m k : Nat) (h : k < m) : dat (xs.take (32 * m)) k = dat xs k := by
  unfold dat
  rw [List.drop_take, List.take_take]
  congr 1
  omega
theorem fu_take (hs xs d : List Int) (m : Nat) : ∀ k, k ≤ m → fu hs (xs.take (32 * m)) d k = fu hs xs d k
  | 0, _ => rfl
  | k + 1, h => by
    show jn _ (fu hs _ d k) _ = jn _ (fu hs xs d k) _
    rw [fu_take hs xs d m k (by omega), dat_take xs m k (by omega)]
theorem fu_snoc (A xs d : List Int) (h : Int) : fu (A ++ [h]) xs d (A.length + 1) = jn h (fu A (xs.take (32 * A.length)) d A.length) (dat xs A.length) := by
  show jn ((A ++ [h]).getD A.length 0) (fu (A ++ [h]) xs d A.length) _ = _
  rw [fu_app A [h] xs d _ (Nat.le_refl _), fu_take A xs d A.length _ (Nat.le_refl _)]
  congr 1
  simp [List.getD]

set_option maxRecDepth 100000 in
set_option maxHeartbeats 2000000 in
theorem upR_any (leaf : List Int) (i : Nat) (hlf : leaf.length = 32) (hlb : isB leaf) : ∀ (f b n l : Nat) (a : Option Addr) (cap : Nat) (xs : List Int) (w : World), n ≤ f → b ≤ i → i < b + n → b + n ≤ 281474976710656 → l = (hvL i b n).length → Ds w a l cap xs →
    Calls Tryd.prog 78 #[.agg (u8s leaf).toArray, .int .i64 ((i : Int) - (b : Int)), .int .i64 (n : Int), .slice a l cap] w fun r w' => r = .returned (.agg (u8s (fu (hvL i b n) xs leaf l)).toArray) ∧ Below w.heap.size w w'
  | 0, b, n, l, a, cap, xs, w, h, _, _, _, _, _ => by omega
  | f + 1, b, n, l, a, cap, xs, w, h, h1, h2, h3, hl, hs => by
    have ih := hide (fun b n l a cap xs w => upR_any leaf i hlf hlb f b n l a cap xs w)
    have HLL := hide (show (u8s leaf).length = 32 by rw [u8s_length, hlf])
    have HS := hide hs
    have hcap := hs.hcap
    have hmax := hs.hmax
    clear hs
    by_cases hn : n = 1
    · subst hn
      rw [hvL_one] at hl ⊢
      subst hl
      rw [show fu [] xs leaf ([] : List Int).length = leaf from rfl]
      clear ih
      go_enter Tryd.func78, Tryd.ntmps78
      go_wp2_with (refine step_box rfl rfl ?_)
      intro w1 g4 hr1 hl1 hb1
      have G4 := hide hr1
      clear hr1
      go_wp2_with (refine step_alloc zD rfl ?_)
      intro w2 g8 hr2 hl2 hb2
      have G8 := hide hr2
      have G42 := hide (G4.out.below hb2 G4.out.lt)
      have B2 := hide (hb1.trans (hb2.mono hb1.size))
      have hw8 : w.heap.size ≤ g8 := Nat.le_trans hb1.size hl2
      have h48 : g4 ≠ g8 := by have := G4.out.lt; omega
      clear hr2 hb1 hb2 G4
      go_wp2_with (first | (refine step_loadA wD rfl rfl G42.out HLL.out ?_) | (refine step_storeA wD rfl rfl rfl G8.out HLL.out (One.u8 _) rfl ?_; intro w3 hg3 hbut3))
      refine bodyPost_ret (results_wide rfl wD _ _ rfl hg3 HLL.out) rfl ⟨rfl, ?_⟩
      exact B2.out.trans (hbut3.below hw8)
    · have hn2 : 2 ≤ n := by omega
      have hn' : ¬ ((n : Int) = 1) := by omega
      have hh := hf_bd n hn2 (by omega)
      have HH := hide (fun v => half7_any n v hn2 (by omega))
      by_cases hc : i < b + hf n
      · have hlen := hvL_few h1 hc (by omega)
        rw [hvL_lo hn2 (by omega) h1 hc] at hl ⊢
        have IH := hide (fun (l : Nat) (hl : l = (hvL i b (hf n)).length) a cap xs w hd => ih.out b (hf n) l a cap xs w (by omega) h1 hc (by omega) hl hd)
        generalize hvL i b (hf n) = L at *
        clear ih
        generalize hf n = k at *
        obtain ⟨q, hq⟩ : ∃ q, q = L.length := ⟨_, rfl⟩
        have hl1 : l = q + 1 := by rw [hl, List.length_append, hq]; rfl
        obtain ⟨pb, po, rfl⟩ := HS.out.place (by omega)
        have HF : Hid (fu (L ++ [0]) xs leaf l = nd (fu L (xs.take (32 * q)) leaf q) (dat xs q)) := hide (by rw [hl1, hq]; exact fu_snoc L xs leaf 0)
        replace IH := hide (fun w (hd : Ds w (some ⟨pb, po, none⟩) l cap xs) => IH.out q hq (some ⟨pb, po, none⟩) cap (xs.take (32 * q)) w (Ds.take hd q (by omega)))
        have hat := d_at pb po l cap q ((l : Int) - 1) (by omega) (by omega)
        have hto := d_to pb po l cap q ((l : Int) - 1) (by omega) (by omega)
        have HUL := hide (show (u8s (dat xs q)).length = 32 by rw [u8s_length, dat_length HS.out.hlen (show q < l by omega)])
        have HXD := hide (dat_length HS.out.hlen (show q < l by omega))
        have HXB := hide (dat_isB HS.out.hbyte q)
        have HDD := hide (fu_length (hs := L) (xs := xs.take (32 * q)) hlf q)
        have HDB := hide (fu_isB (hs := L) (xs := xs.take (32 * q)) hlb q)
        generalize fu L (xs.take (32 * q)) leaf q = Dq at *
        have hc' : (i : Int) - (b : Int) < (k : Int) := by omega
        have HL1 := hide hl1
        have hl2 : 1 ≤ l := by omega
        clear hl hq hl1
        go_enter Tryd.func78, Tryd.ntmps78
        go_wp2_with (refine step_box rfl rfl ?_)
        intro w1 g4 hr1 hl1 hb1
        have G4 := hide hr1
        clear hr1
        go_wp2_with (refine step_alloc zD rfl ?_)
        intro w2 g8 hr2 hl2 hb2
        have G8 := hide hr2
        have G42 := hide (G4.out.below hb2 G4.out.lt)
        have B2 := hide (hb1.trans (hb2.mono hb1.size))
        have hw8 : w.heap.size ≤ g8 := Nat.le_trans hb1.size hl2
        have h48 : g4 ≠ g8 := by have := G4.out.lt; omega
        clear hr2 hb1 hb2 G4
        go_wp2_with fail
        refine (HH.out _).mono ?_
        rintro r w' ⟨rfl, rfl⟩
        have HRG := hide ((HS.out.below B2.out).range q (by have := HL1.out; omega))
        go_wp2_with (first | (refine step_loadR wD rfl rfl _ HRG.out HUL.out ?_) | (refine step_alloc zD rfl ?_))
        intro w3 g10 hr3 hl3 hb3
        have G10 := hide hr3
        clear hr3
        go_wp2_with (refine step_storeA wD rfl rfl rfl G10.out HUL.out (One.u8 _) rfl ?_)
        intro w4 hg4 hbut4
        have B4 := hide (new_below B2.out hb3 hl3 hbut4)
        have X4 := hide (hb3.trans (hbut4.below hl3))
        have L4 := hide (G42.out.on X4.out)
        have R4 := hide (G8.out.on X4.out)
        have X5 := hide hg4
        have h810 : g10 ≠ g8 := by have := G8.out.lt; omega
        clear hg4 hbut4 hb3 G10 HRG G42 G8 X4 hat
        go_wp2_with fail
        refine wp_region_noPanic ?_
        have B0 := hide (B4.out.drew)
        have L0 := hide (L4.out.on ((Below.refl _ _).drew))
        have R0 := hide (R4.out.on ((Below.refl _ _).drew))
        have X0 := hide (X5.out.on ((Below.refl _ _).drew))
        have hu := aD.und
        have HI1 : Hid ((Tryd.prog.info? 23).map (·.size) = some (u8s leaf).length) := hide (by rw [wD.size, HLL.out])
        have HI2 : Hid ((Tryd.prog.info? 23).map (·.size) = some (u8s (dat xs q)).length) := hide (by rw [wD.size, HUL.out])
        have hS : ∀ v : World, Blk v g4 23 (u8s leaf) → Blk v g10 23 (u8s (dat xs q)) → v.rangeAt g4 0 (u8s leaf) ∧ v.rangeAt g10 0 (u8s (dat xs q)) := fun v h1 h2 => ⟨h1.range 0 _ (by simp), h2.range 0 _ (by simp)⟩
        clear L4 R4 X5 B4
        refine wp_region_held_drew (S := fun v : World => v.rangeAt g4 0 (u8s leaf) ∧ v.rangeAt g10 0 (u8s (dat xs q))) (by kernel_rfl) (hS _ L0.out X0.out) (fun hHeld => ?_)
        refine takeH 0 31 (.agg (u8s leaf).toArray) hHeld rfl rfl (by kernel_rfl) (by kernel_rfl) (by kernel_rfl) (fun _ _ _ h => h) (yieldsIf_load_mid (by rfl) _ _ rfl g4 0 rfl _ _ (fun w h => h.1) hu rfl HI1.out) ?_
        simp only [Act.put, List.setIfInBounds_toArray, List.set_cons_zero, List.set_cons_succ]
        refine takeH 1 32 (.int .i64 ((i : Int) - (b : Int))) hHeld rfl rfl (by kernel_rfl) (by kernel_rfl) (by kernel_rfl) (fun _ _ _ h => h) (Or.inl ⟨by rfl, fun w _ => by go_simp⟩) ?_
        simp only [Act.put, List.setIfInBounds_toArray, List.set_cons_zero, List.set_cons_succ]
        refine takeH 2 33 (.int .i64 (k : Int)) hHeld rfl rfl (by kernel_rfl) (by kernel_rfl) (by kernel_rfl) (fun _ _ _ h => h) (Or.inl ⟨by rfl, fun w _ => by go_simp⟩) ?_
        simp only [Act.put, List.setIfInBounds_toArray, List.set_cons_zero, List.set_cons_succ]
        refine takeH 3 34 (.slice (some ⟨pb, po, none⟩) q cap) hHeld rfl rfl (by kernel_rfl) (by kernel_rfl) (by kernel_rfl) (fun _ _ _ h => h) (Or.inl ⟨by rfl, fun w _ => by go_simp⟩) ?_
        simp only [Act.put, List.setIfInBounds_toArray, List.set_cons_zero, List.set_cons_succ]
        refine takeH 5 36 (.agg (u8s (dat xs q)).toArray) hHeld rfl rfl (by kernel_rfl) (by kernel_rfl) (by kernel_rfl) (fun _ _ _ h => h) (yieldsIf_load_mid (by rfl) _ _ rfl g10 0 rfl _ _ (fun w h => h.2) hu rfl HI2.out) ?_
        simp only [Act.put, List.setIfInBounds_toArray, List.set_cons_zero, List.set_cons_succ]
        refine wpAnyH_ready (rs := [4]) (by kernel_rfl) (by simp) (AllReadyH.cons rfl (fun K hK => ?_) AllReadyH.nil)
        rw [if_pos (by rfl)]
        go_simp
        refine (IH.out _ (HS.out.below B0.out)).mono ?_
        rintro r v1 ⟨rfl, hv1⟩
        have B1 := hide (on_below B0.out hv1)
        have L1 := hide (L0.out.on hv1)
        have R1 := hide (R0.out.on hv1)
        have X1 := hide (X0.out.on hv1)
        clear B0 L0 R0 X0 hv1
        refine hK.out _ _ (hS _ L1.out X1.out) (fun hHeld => ?_)
        clear hK K
        refine wpAnyH_ready (rs := [6]) (by kernel_rfl) (by simp) (AllReadyH.cons rfl (fun K hK => ?_) AllReadyH.nil)
        rw [if_pos (by rfl)]
        go_simp
        refine (nodeR_any Dq (dat xs q) _ HDD.out HDB.out HXD.out HXB.out).mono ?_
        rintro r v2 ⟨rfl, hv2⟩
        have B2 := hide (on_below B1.out hv2)
        have L2 := hide (L1.out.on hv2)
        have R2 := hide (R1.out.on hv2)
        have X2 := hide (X1.out.on hv2)
        clear B1 L1 R1 X1 hv2
        refine hK.out _ _ (hS _ L2.out X2.out) (fun hHeld => ?_)
        clear hK K
        refine wpAnyH_ready (rs := [7]) (by kernel_rfl) (by simp) (AllReadyH.cons rfl (fun K hK => ?_) AllReadyH.nil)
        rw [if_pos (by rfl)]
        refine wp_storeW wD rfl rfl rfl R2.out (by rw [u8s_length]; exact nd_length _ _) (One.u8 _) (by rw [u8s_length, zer_length]; omega) ?_
        intro v3 hgs hbuts
        rw [spl_same _ _ (zer_length 32) (nd_length _ _)] at hgs
        refine hK.out _ _ (hS _ (L2.out.but hbuts h48) (X2.out.but hbuts h810)) (fun hHeld => ?_)
        clear hK K
        simp only [Act.put]
        refine wpAnyH_done (by kernel_rfl) ?_ _
        refine NoPanic.normal ?_
        clear hHeld hS hu
        go_wp2
        refine bodyPost_ret (results_wide rfl wD _ _ rfl hgs (by rw [u8s_length, nd_length])) rfl ⟨?_, B2.out.trans (hbuts.below hw8)⟩
        rw [HF.out]
      · have hlen := hvL_few (show b + hf n ≤ i by omega) (show i < b + hf n + (n - hf n) by omega) (by omega)
        rw [hvL_hi hn2 (by omega) h2 hc] at hl ⊢
        have IH := hide (fun (l : Nat) (hl : l = (hvL i (b + hf n) (n - hf n)).length) a cap xs w hd => ih.out (b + hf n) (n - hf n) l a cap xs w (by omega) (by omega) (by omega) (by omega) hl hd)
        generalize hvL i (b + hf n) (n - hf n) = L at *
        clear ih
        generalize hf n = k at *
        obtain ⟨q, hq⟩ : ∃ q, q = L.length := ⟨_, rfl⟩
        have hl1 : l = q + 1 := by rw [hl, List.length_append, hq]; rfl
        obtain ⟨pb, po, rfl⟩ := HS.out.place (by omega)
        have HF : Hid (fu (L ++ [1]) xs leaf l = nd (dat xs q) (fu L (xs.take (32 * q)) leaf q)) := hide (by rw [hl1, hq]; exact fu_snoc L xs leaf 1)
        replace IH := hide (fun w (hd : Ds w (some ⟨pb, po, none⟩) l cap xs) => IH.out q hq (some ⟨pb, po, none⟩) cap (xs.take (32 * q)) w (Ds.take hd q (by omega)))
        have e2 : ((n - k : Nat) : Int) = (n : Int) - (k : Int) := by omega
        have e3 : (i : Int) - ((b + k : Nat) : Int) = (i : Int) - (b : Int) - (k : Int) := by omega
        rw [e3, e2] at IH
        have hat := d_at pb po l cap q ((l : Int) - 1) (by omega) (by omega)
        have hto := d_to pb po l cap q ((l : Int) - 1) (by omega) (by omega)
        have HUL := hide (show (u8s (dat xs q)).length = 32 by rw [u8s_length, dat_length HS.out.hlen (show q < l by omega)])
        have HXD := hide (dat_length HS.out.hlen (show q < l by omega))
        have HXB := hide (dat_isB HS.out.hbyte q)
        have HDD := hide (fu_length (hs := L) (xs := xs.take (32 * q)) hlf q)
        have HDB := hide (fu_isB (hs := L) (xs := xs.take (32 * q)) hlb q)
        generalize fu L (xs.take (32 * q)) leaf q = Dq at *
        have hc' : ¬ (i : Int) - (b : Int) < (k : Int) := by omega
        have hw1 : IntKind.i64.wrap ((i : Int) - (b : Int) - (k : Int)) = (i : Int) - (b : Int) - (k : Int) := by rw [IntKind.wrap_i64]; omega
        have hw2 : IntKind.i64.wrap ((n : Int) - (k : Int)) = (n : Int) - (k : Int) := by rw [IntKind.wrap_i64]; omega
        have HL1 := hide hl1
        have hl2 : 1 ≤ l := by omega
        clear hl hq e2 e3 hl1
        go_enter Tryd.func78, Tryd.ntmps78
        go_wp2_with (refine step_box rfl rfl ?_)
        intro w1 g4 hr1 hl1 hb1
        have G4 := hide hr1
        clear hr1
        go_wp2_with (refine step_alloc zD rfl ?_)
        intro w2 g8 hr2 hl2 hb2
        have G8 := hide hr2
        have G42 := hide (G4.out.below hb2 G4.out.lt)
        have B2 := hide (hb1.trans (hb2.mono hb1.size))
        have hw8 : w.heap.size ≤ g8 := Nat.le_trans hb1.size hl2
        have h48 : g4 ≠ g8 := by have := G4.out.lt; omega
        clear hr2 hb1 hb2 G4
        go_wp2_with fail
        refine (HH.out _).mono ?_
        rintro r w' ⟨rfl, rfl⟩
        have HRG := hide ((HS.out.below B2.out).range q (by have := HL1.out; omega))
        go_wp2_with (first | (refine step_loadR wD rfl rfl _ HRG.out HUL.out ?_) | (refine step_alloc zD rfl ?_))
        intro w3 g10 hr3 hl3 hb3
        have G10 := hide hr3
        clear hr3
        go_wp2_with (refine step_storeA wD rfl rfl rfl G10.out HUL.out (One.u8 _) rfl ?_)
        intro w4 hg4 hbut4
        have B4 := hide (new_below B2.out hb3 hl3 hbut4)
        have X4 := hide (hb3.trans (hbut4.below hl3))
        have L4 := hide (G42.out.on X4.out)
        have R4 := hide (G8.out.on X4.out)
        have X5 := hide hg4
        have h810 : g10 ≠ g8 := by have := G8.out.lt; omega
        clear hg4 hbut4 hb3 G10 HRG G42 G8 X4 hat
        go_wp2_with fail
        refine wp_region_noPanic ?_
        have B0 := hide (B4.out.drew)
        have L0 := hide (L4.out.on ((Below.refl _ _).drew))
        have R0 := hide (R4.out.on ((Below.refl _ _).drew))
        have X0 := hide (X5.out.on ((Below.refl _ _).drew))
        have hu := aD.und
        have HI1 : Hid ((Tryd.prog.info? 23).map (·.size) = some (u8s leaf).length) := hide (by rw [wD.size, HLL.out])
        have HI2 : Hid ((Tryd.prog.info? 23).map (·.size) = some (u8s (dat xs q)).length) := hide (by rw [wD.size, HUL.out])
        have hS : ∀ v : World, Blk v g4 23 (u8s leaf) → Blk v g10 23 (u8s (dat xs q)) → v.rangeAt g4 0 (u8s leaf) ∧ v.rangeAt g10 0 (u8s (dat xs q)) := fun v h1 h2 => ⟨h1.range 0 _ (by simp), h2.range 0 _ (by simp)⟩
        clear L4 R4 X5 B4
        refine wp_region_held_drew (S := fun v : World => v.rangeAt g4 0 (u8s leaf) ∧ v.rangeAt g10 0 (u8s (dat xs q))) (by kernel_rfl) (hS _ L0.out X0.out) (fun hHeld => ?_)
        refine takeH 0 38 (.agg (u8s (dat xs q)).toArray) hHeld rfl rfl (by kernel_rfl) (by kernel_rfl) (by kernel_rfl) (fun _ _ _ h => h) (yieldsIf_load_mid (by rfl) _ _ rfl g10 0 rfl _ _ (fun w h => h.2) hu rfl HI2.out) ?_
        simp only [Act.put, List.setIfInBounds_toArray, List.set_cons_zero, List.set_cons_succ]
        refine takeH 1 39 (.agg (u8s leaf).toArray) hHeld rfl rfl (by kernel_rfl) (by kernel_rfl) (by kernel_rfl) (fun _ _ _ h => h) (yieldsIf_load_mid (by rfl) _ _ rfl g4 0 rfl _ _ (fun w h => h.1) hu rfl HI1.out) ?_
        simp only [Act.put, List.setIfInBounds_toArray, List.set_cons_zero, List.set_cons_succ]
        refine takeH 2 40 (.int .i64 ((i : Int) - (b : Int))) hHeld rfl rfl (by kernel_rfl) (by kernel_rfl) (by kernel_rfl) (fun _ _ _ h => h) (Or.inl ⟨by rfl, fun w _ => by go_simp⟩) ?_
        simp only [Act.put, List.setIfInBounds_toArray, List.set_cons_zero, List.set_cons_succ]
        refine takeH 3 41 (.int .i64 (k : Int)) hHeld rfl rfl (by kernel_rfl) (by kernel_rfl) (by kernel_rfl) (fun _ _ _ h => h) (Or.inl ⟨by rfl, fun w _ => by go_simp⟩) ?_
        simp only [Act.put, List.setIfInBounds_toArray, List.set_cons_zero, List.set_cons_succ]
        refine takeH 4 42 (.int .i64 ((i : Int) - (b : Int) - (k : Int))) hHeld rfl rfl (by kernel_rfl) (by kernel_rfl) (by kernel_rfl) (fun _ _ _ h => h) (Or.inl ⟨by rfl, fun w _ => by go_simp⟩) ?_
        simp only [Act.put, List.setIfInBounds_toArray, List.set_cons_zero, List.set_cons_succ]
        refine takeH 5 43 (.int .i64 (n : Int)) hHeld rfl rfl (by kernel_rfl) (by kernel_rfl) (by kernel_rfl) (fun _ _ _ h => h) (Or.inl ⟨by rfl, fun w _ => by go_simp⟩) ?_
        simp only [Act.put, List.setIfInBounds_toArray, List.set_cons_zero, List.set_cons_succ]
        refine takeH 6 44 (.int .i64 (k : Int)) hHeld rfl rfl (by kernel_rfl) (by kernel_rfl) (by kernel_rfl) (fun _ _ _ h => h) (Or.inl ⟨by rfl, fun w _ => by go_simp⟩) ?_
        simp only [Act.put, List.setIfInBounds_toArray, List.set_cons_zero, List.set_cons_succ]
        refine takeH 7 45 (.int .i64 ((n : Int) - (k : Int))) hHeld rfl rfl (by kernel_rfl) (by kernel_rfl) (by kernel_rfl) (fun _ _ _ h => h) (Or.inl ⟨by rfl, fun w _ => by go_simp⟩) ?_
        simp only [Act.put, List.setIfInBounds_toArray, List.set_cons_zero, List.set_cons_succ]
        refine takeH 8 46 (.slice (some ⟨pb, po, none⟩) q cap) hHeld rfl rfl (by kernel_rfl) (by kernel_rfl) (by kernel_rfl) (fun _ _ _ h => h) (Or.inl ⟨by rfl, fun w _ => by go_simp⟩) ?_
        simp only [Act.put, List.setIfInBounds_toArray, List.set_cons_zero, List.set_cons_succ]
        refine wpAnyH_ready (rs := [9]) (by kernel_rfl) (by simp) (AllReadyH.cons rfl (fun K hK => ?_) AllReadyH.nil)
        rw [if_pos (by rfl)]
        go_simp
        refine (IH.out _ (HS.out.below B0.out)).mono ?_
        rintro r v1 ⟨rfl, hv1⟩
        have B1 := hide (on_below B0.out hv1)
        have L1 := hide (L0.out.on hv1)
        have R1 := hide (R0.out.on hv1)
        have X1 := hide (X0.out.on hv1)
        clear B0 L0 R0 X0 hv1
        refine hK.out _ _ (hS _ L1.out X1.out) (fun hHeld => ?_)
        clear hK K
        refine wpAnyH_ready (rs := [10]) (by kernel_rfl) (by simp) (AllReadyH.cons rfl (fun K hK => ?_) AllReadyH.nil)
        rw [if_pos (by rfl)]
        go_simp
        refine (nodeR_any (dat xs q) Dq _ HXD.out HXB.out HDD.out HDB.out).mono ?_
        rintro r v2 ⟨rfl, hv2⟩
        have B2 := hide (on_below B1.out hv2)
        have L2 := hide (L1.out.on hv2)
        have R2 := hide (R1.out.on hv2)
        have X2 := hide (X1.out.on hv2)
        clear B1 L1 R1 X1 hv2
        refine hK.out _ _ (hS _ L2.out X2.out) (fun hHeld => ?_)
        clear hK K
        refine wpAnyH_ready (rs := [11]) (by kernel_rfl) (by simp) (AllReadyH.cons rfl (fun K hK => ?_) AllReadyH.nil)
        rw [if_pos (by rfl)]
        refine wp_storeW wD rfl rfl rfl R2.out (by rw [u8s_length]; exact nd_length _ _) (One.u8 _) (by rw [u8s_length, zer_length]; omega) ?_
        intro v3 hgs hbuts
        rw [spl_same _ _ (zer_length 32) (nd_length _ _)] at hgs
        refine hK.out _ _ (hS _ (L2.out.but hbuts h48) (X2.out.but hbuts h810)) (fun hHeld => ?_)
        clear hK K
        simp only [Act.put]
        refine wpAnyH_done (by kernel_rfl) ?_ _
        refine NoPanic.normal ?_
        clear hHeld hS hu
        go_wp2
        refine bodyPost_ret (results_wide rfl wD _ _ rfl hgs (by rw [u8s_length, nd_length])) rfl ⟨?_, B2.out.trans (hbuts.below hw8)⟩
        rw [HF.out]

end Go.Proofs.YtconeobaohmbnaaDoor

/-
  The document's Root; what both tell; Inclusion of both.
-/
namespace Go.Proofs.YtconeobaohmbnaaDoor
open Go.RowKit
set_option linter.unusedVariables false

section
variable {dst : Option Tmp} {ty : TypeId} {pos : String} {aft : Array Edge} {gd : Option (Nat × Bool)} {ops : Array Oper} {rest : List Oper} {a : Act} {w : World} {Q : Exit → Act → World → Prop}
theorem step_neQ {T E : TypeId} {k : IntKind} {n : Nat} (hA : Arr T E k n) {t' : TypeId} {x y : Operand} {xs ys : List Int} (q : Bool) (hq : (!decide (xs = ys)) = q) (hw : Region.wanted ⟨dst, .binOp .neq T x y t', ty, pos, aft, gd⟩ (yielded ops a.tmps) = true)
    (hx : a.eval x = .agg (xs.map (Value.int k)).toArray) (hy : a.eval y = .agg (ys.map (Value.int k)).toArray) (hl : xs.length = n) (hl' : ys.length = n) (h : wpList Tryd.prog ops Q rest (a.put dst (.bool q)) w) :
    wpList Tryd.prog ops Q (⟨dst, .binOp .neq T x y t', ty, pos, aft, gd⟩ :: rest) a w := by
  subst hq
  exact step_neA hA hw hx hy hl hl' h
end
set_option maxRecDepth 100000 in
set_option maxHeartbeats 1000000 in
theorem rootR7_bad (leaf : List Int) (i n : Int) (a : Value) (w : World) (h : i < 0 ∨ n ≤ i ∨ 281474976710656 < n) :
    Calls Tryd.prog 51 #[.agg (u8s leaf).toArray, .int .i64 i, .int .i64 n, a] w fun r w' => r = .returned (.tuple #[.agg (u8s (zer 32)).toArray, .int .i64 40]) ∧ Below w.heap.size w w' := by
  have H := hide (fun v => lengthR_bad i n v h)
  clear h
  go_enter Tryd.func51, Tryd.ntmps51
  go_wp2_with (refine step_box rfl rfl ?_)
  intro w1 g4 hr1 hl1 hb1
  have G4 := hide hr1
  clear hr1
  go_wp2_with (refine step_alloc zD rfl ?_)
  intro w2 g8 hr2 hl2 hb2
  have G8 := hide hr2
  have G42 := hide (G4.out.below hb2 G4.out.lt)
  have B2 := hide (hb1.trans (hb2.mono hb1.size))
  have hw8 : w.heap.size ≤ g8 := Nat.le_trans hb1.size hl2
  clear hr2 hb1 hb2 G4
  go_wp2_with fail
  refine (H.out _).mono ?_
  rintro r w3 ⟨rfl, rfl⟩
  go_wp2_with (first | (refine step_buildD rfl ?_) | (refine step_storeA wD rfl rfl rfl G8.out (by rw [u8s_length, zer_length]) (One.u8 _) rfl ?_; intro w4 hg4 hbut4))
  refine bodyPost_ret (results_wide2 rfl wD _ _ rfl hg4 (by rw [u8s_length, zer_length])) rfl ⟨rfl, ?_⟩
  exact B2.out.trans (hbut4.below hw8)
set_option maxRecDepth 100000 in
set_option maxHeartbeats 1000000 in
theorem rootR7_len (leaf : List Int) (i n : Nat) (a : Option Addr) (l cap : Nat) (w : World) (h1 : i < n) (h2 : n ≤ 281474976710656) (hl : l ≠ (hvL i 0 n).length) :
    Calls Tryd.prog 51 #[.agg (u8s leaf).toArray, .int .i64 (i : Int), .int .i64 (n : Int), .slice a l cap] w fun r w' => r = .returned (.tuple #[.agg (u8s (zer 32)).toArray, .int .i64 70]) ∧ Below w.heap.size w w' := by
  have H := hide (fun v => lengthR_ok i n v h1 h2)
  have hl' : ((l : Int) != ((hvL i 0 n).length : Int)) = true := by simp; omega
  generalize hvL i 0 n = L at *
  go_enter Tryd.func51, Tryd.ntmps51
  go_wp2_with (refine step_box rfl rfl ?_)
  intro w1 g4 hr1 hl1 hb1
  have G4 := hide hr1
  clear hr1
  go_wp2_with (refine step_alloc zD rfl ?_)
  intro w2 g8 hr2 hl2 hb2
  have G8 := hide hr2
  have G42 := hide (G4.out.below hb2 G4.out.lt)
  have B2 := hide (hb1.trans (hb2.mono hb1.size))
  have hw8 : w.heap.size ≤ g8 := Nat.le_trans hb1.size hl2
  clear hr2 hb1 hb2 G4
  go_wp2_with fail
  refine (H.out _).mono ?_
  rintro r w3 ⟨rfl, rfl⟩
  go_wp2_with (first | (refine step_buildD rfl ?_) | (refine step_storeA wD rfl rfl rfl G8.out (by rw [u8s_length, zer_length]) (One.u8 _) rfl ?_; intro w4 hg4 hbut4))
  refine bodyPost_ret (results_wide2 rfl wD _ _ rfl hg4 (by rw [u8s_length, zer_length])) rfl ⟨rfl, ?_⟩
  exact B2.out.trans (hbut4.below hw8)
set_option maxRecDepth 100000 in
set_option maxHeartbeats 1000000 in
theorem rootR7_ok (leaf : List Int) (i n : Nat) (a : Option Addr) (l cap : Nat) (xs : List Int) (w : World) (h1 : i < n) (h2 : n ≤ 281474976710656) (hl : l = (hvL i 0 n).length) (hlf : leaf.length = 32) (hlb : isB leaf) (hs : Ds w a l cap xs) :
    Calls Tryd.prog 51 #[.agg (u8s leaf).toArray, .int .i64 (i : Int), .int .i64 (n : Int), .slice a l cap] w fun r w' => r = .returned (.tuple #[.agg (u8s (fu (hvL i 0 n) xs leaf l)).toArray, .int .i64 0]) ∧ Below w.heap.size w w' := by
  have H := hide (fun v => lengthR_ok i n v h1 h2)
  have HU : Hid (∀ v : World, Ds v a l cap xs → Calls Tryd.prog 78 #[.agg (u8s leaf).toArray, .int .i64 (i : Int), .int .i64 (n : Int), .slice a l cap] v fun r w' => r = .returned (.agg (u8s (fu (hvL i 0 n) xs leaf l)).toArray) ∧ Below v.heap.size v w') := hide fun v hv => by
    have := upR_any leaf i hlf hlb n 0 n l a cap xs v (Nat.le_refl _) (Nat.zero_le _) (by omega) (by omega) hl hv
    rwa [show (i : Int) - ((0 : Nat) : Int) = (i : Int) by omega] at this
  have HS := hide hs
  have HLL := hide (show (u8s leaf).length = 32 by rw [u8s_length, hlf])
  have HRL := hide (show (u8s (fu (hvL i 0 n) xs leaf l)).length = 32 by rw [u8s_length, fu_length hlf])
  generalize fu (hvL i 0 n) xs leaf l = R at *
  rw [← hl] at H
  clear hs hl
  go_enter Tryd.func51, Tryd.ntmps51
  go_wp2_with (refine step_box rfl rfl ?_)
  intro w1 g4 hr1 hl1 hb1
  have G4 := hide hr1
  clear hr1
  go_wp2_with (refine step_alloc zD rfl ?_)
  intro w2 g8 hr2 hl2 hb2
  have G8 := hide hr2
  have G42 := hide (G4.out.below hb2 G4.out.lt)
  have B2 := hide (hb1.trans (hb2.mono hb1.size))
  have hw8 : w.heap.size ≤ g8 := Nat.le_trans hb1.size hl2
  clear hr2 hb1 hb2 G4
  go_wp2_with fail
  refine (H.out _).mono ?_
  rintro r w3 ⟨rfl, rfl⟩
  go_wp2_with (refine step_loadA wD rfl rfl G42.out HLL.out ?_)
  refine (HU.out _ (HS.out.below B2.out)).mono ?_
  rintro r w4 ⟨rfl, hb4⟩
  have G84 := hide (G8.out.on hb4)
  go_wp2_with (refine step_storeA wD rfl rfl rfl G84.out HRL.out (One.u8 _) rfl ?_; intro w5 hg5 hbut5)
  refine bodyPost_ret (results_wide2 rfl wD _ _ rfl hg5 HRL.out) rfl ⟨rfl, ?_⟩
  exact (on_below B2.out hb4).trans (hbut5.below hw8)

/-- What Root tells, program and document. -/
structure RB (leaf : List Int) (i n : Int) (l : Nat) (xs D : List Int) (E : Int) : Prop where
  len : D.length = 32
  byte : isB D
  prog : ∀ (a : Option Addr) (cap : Nat) (w : World), Ds w a l cap xs → KT w → Calls Tryd.prog 68 #[.agg (u8s leaf).toArray, .int .i64 i, .int .i64 n, .slice a l cap] w fun r w' => r = .returned (.tuple #[.agg (u8s D).toArray, .int .i64 E]) ∧ Below w.heap.size w w'
  doc : ∀ (a : Option Addr) (cap : Nat) (w : World), Ds w a l cap xs → Calls Tryd.prog 51 #[.agg (u8s leaf).toArray, .int .i64 i, .int .i64 n, .slice a l cap] w fun r w' => r = .returned (.tuple #[.agg (u8s D).toArray, .int .i64 E]) ∧ Below w.heap.size w w'
theorem zer_isB32 : isB (zer 32) := by unfold isB; decide
theorem root_both (leaf : List Int) (i n : Int) (l : Nat) (xs : List Int) (hlf : leaf.length = 32) (hlb : isB leaf) : ∃ D E, RB leaf i n l xs D E := by
  by_cases h : i < 0 ∨ n ≤ i ∨ 281474976710656 < n
  · exact ⟨zer 32, 40, zer_length 32, zer_isB32, fun a cap w _ _ => root7_bad leaf i n _ w h, fun a cap w _ => rootR7_bad leaf i n _ w h⟩
  · obtain ⟨i', rfl⟩ : ∃ i' : Nat, i = (i' : Int) := ⟨i.toNat, by omega⟩
    obtain ⟨n', rfl⟩ : ∃ n' : Nat, n = (n' : Int) := ⟨n.toNat, by omega⟩
    by_cases hl : l = (hvL i' 0 n').length
    · exact ⟨_, 0, fu_length hlf l, fu_isB hlb l, fun a cap w hs hk => root7_ok leaf i' n' a l cap xs w (by omega) (by omega) hl hlf hlb hs hk, fun a cap w hs => rootR7_ok leaf i' n' a l cap xs w (by omega) (by omega) hl hlf hlb hs⟩
    · exact ⟨zer 32, 70, zer_length 32, zer_isB32, fun a cap w _ _ => root7_len leaf i' n' a l cap w (by omega) (by omega) hl, fun a cap w _ => rootR7_len leaf i' n' a l cap w (by omega) (by omega) hl⟩

/-- What Inclusion tells. -/
def inR (D root : List Int) (E : Int) : Int := if E = 0 then (if D = root then 0 else 71) else E
theorem inR_self (D : List Int) (E : Int) : inR D D E = E := by
  unfold inR
  by_cases h : E = 0
  · rw [if_pos h, if_pos rfl, h]
  · rw [if_neg h]
set_option maxRecDepth 100000 in
set_option maxHeartbeats 1000000 in
theorem inc7_any (leaf root : List Int) (i n : Int) (a : Option Addr) (l cap : Nat) (xs D : List Int) (E : Int) (w : World) (hB : RB leaf i n l xs D E) (hlf : leaf.length = 32) (hrl : root.length = 32) (hs : Ds w a l cap xs) (hk : KT w) :
    Calls Tryd.prog 45 #[.agg (u8s leaf).toArray, .int .i64 i, .int .i64 n, .slice a l cap, .agg (u8s root).toArray] w fun r w' => r = .returned (.int .i64 (inR D root E)) ∧ Below w.heap.size w w' := by
  have HK := hide hk
  have HB := hide hB
  have HS := hide hs
  have HDL := hide hB.len
  have HRL := hide hrl
  have HDU := hide (show (u8s D).length = 32 by rw [u8s_length, hB.len])
  have HRU := hide (show (u8s root).length = 32 by rw [u8s_length, hrl])
  have HLL := hide (show (u8s leaf).length = 32 by rw [u8s_length, hlf])
  clear hk hs hrl hlf hB
  by_cases hE : E = 0
  · subst hE
    by_cases hD : D = root
    · rw [show inR D root 0 = 0 by unfold inR; rw [if_pos rfl, if_pos hD]]
      have hd : (!decide (D = root)) = false := by simp [hD]
      have HDD := hide hd
      clear hD hd
      go_enter Tryd.func45, Tryd.ntmps45
      go_wp2_with (refine step_box rfl rfl ?_)
      intro w1 g5 hr1 hl1 hb1
      have G5 := hide hr1
      clear hr1
      go_wp2_with (refine step_box rfl rfl ?_)
      intro w2 g9 hr2 hl2 hb2
      have G9 := hide hr2
      have G52 := hide (G5.out.on hb2)
      have B2 := hide (on_below hb1 hb2)
      clear hr2 hb1 hb2 G5
      go_wp2_with (refine step_loadA wD rfl rfl G52.out HLL.out ?_)
      refine (HB.out.prog a cap _ (HS.out.below B2.out) (HK.out.below B2.out HK.out.lt)).mono ?_
      rintro r w3 ⟨rfl, hb3⟩
      have G93 := hide (G9.out.on hb3)
      have B3 := hide (on_below B2.out hb3)
      clear hb3 G52 G9 B2
      go_wp2_with (refine step_alloc zD rfl ?_)
      intro w4 g11 hr4 hl4 hb4
      have G11 := hide hr4
      have h911 : g9 ≠ g11 := by have := G93.out.lt; omega
      clear hr4
      go_wp2_with (refine step_storeA wD rfl rfl rfl G11.out HDU.out (One.u8 _) rfl ?_)
      intro w5 hg5 hbut5
      have B5 := hide (new_below B3.out hb4 hl4 hbut5)
      have G95 := hide ((G93.out.on hb4).but hbut5 h911)
      have GD := hide hg5
      clear hg5 hbut5 hb4 G11 B3 G93
      go_wp2_with (first | (refine step_loadA wD rfl rfl GD.out HDU.out ?_) | (refine step_loadA wD rfl rfl G95.out HRU.out ?_) | (refine step_neQ aD _ HDD.out rfl rfl rfl HDL.out HRL.out ?_))
      go_ret
      exact ⟨rfl, B5.out⟩
    · rw [show inR D root 0 = 71 by unfold inR; rw [if_pos rfl, if_neg hD]]
      have hd : (!decide (D = root)) = true := by simp [hD]
      have HDD := hide hd
      clear hD hd
      go_enter Tryd.func45, Tryd.ntmps45
      go_wp2_with (refine step_box rfl rfl ?_)
      intro w1 g5 hr1 hl1 hb1
      have G5 := hide hr1
      clear hr1
      go_wp2_with (refine step_box rfl rfl ?_)
      intro w2 g9 hr2 hl2 hb2
      have G9 := hide hr2
      have G52 := hide (G5.out.on hb2)
      have B2 := hide (on_below hb1 hb2)
      clear hr2 hb1 hb2 G5
      go_wp2_with (refine step_loadA wD rfl rfl G52.out HLL.out ?_)
      refine (HB.out.prog a cap _ (HS.out.below B2.out) (HK.out.below B2.out HK.out.lt)).mono ?_
      rintro r w3 ⟨rfl, hb3⟩
      have G93 := hide (G9.out.on hb3)
      have B3 := hide (on_below B2.out hb3)
      clear hb3 G52 G9 B2
      go_wp2_with (refine step_alloc zD rfl ?_)
      intro w4 g11 hr4 hl4 hb4
      have G11 := hide hr4
      have h911 : g9 ≠ g11 := by have := G93.out.lt; omega
      clear hr4
      go_wp2_with (refine step_storeA wD rfl rfl rfl G11.out HDU.out (One.u8 _) rfl ?_)
      intro w5 hg5 hbut5
      have B5 := hide (new_below B3.out hb4 hl4 hbut5)
      have G95 := hide ((G93.out.on hb4).but hbut5 h911)
      have GD := hide hg5
      clear hg5 hbut5 hb4 G11 B3 G93
      go_wp2_with (first | (refine step_loadA wD rfl rfl GD.out HDU.out ?_) | (refine step_loadA wD rfl rfl G95.out HRU.out ?_) | (refine step_neQ aD _ HDD.out rfl rfl rfl HDL.out HRL.out ?_))
      go_ret
      exact ⟨rfl, B5.out⟩
  · rw [show inR D root E = E by unfold inR; rw [if_neg hE]]
    have hE1 : (E != 0) = true := by simp [hE]
    have hE2 : (E == 0) = false := by simp [hE]
    have HDD : Hid ((!decide (D = root)) = !decide (D = root)) := hide rfl
    go_enter Tryd.func45, Tryd.ntmps45
    go_wp2_with (refine step_box rfl rfl ?_)
    intro w1 g5 hr1 hl1 hb1
    have G5 := hide hr1
    clear hr1
    go_wp2_with (refine step_box rfl rfl ?_)
    intro w2 g9 hr2 hl2 hb2
    have G9 := hide hr2
    have G52 := hide (G5.out.on hb2)
    have B2 := hide (on_below hb1 hb2)
    clear hr2 hb1 hb2 G5
    go_wp2_with (refine step_loadA wD rfl rfl G52.out HLL.out ?_)
    refine (HB.out.prog a cap _ (HS.out.below B2.out) (HK.out.below B2.out HK.out.lt)).mono ?_
    rintro r w3 ⟨rfl, hb3⟩
    have G93 := hide (G9.out.on hb3)
    have B3 := hide (on_below B2.out hb3)
    clear hb3 G52 G9 B2
    go_wp2_with (refine step_alloc zD rfl ?_)
    intro w4 g11 hr4 hl4 hb4
    have G11 := hide hr4
    have h911 : g9 ≠ g11 := by have := G93.out.lt; omega
    clear hr4
    go_wp2_with (refine step_storeA wD rfl rfl rfl G11.out HDU.out (One.u8 _) rfl ?_)
    intro w5 hg5 hbut5
    have B5 := hide (new_below B3.out hb4 hl4 hbut5)
    have G95 := hide ((G93.out.on hb4).but hbut5 h911)
    have GD := hide hg5
    clear hg5 hbut5 hb4 G11 B3 G93
    go_wp2_with (first | (refine step_loadA wD rfl rfl GD.out HDU.out ?_) | (refine step_loadA wD rfl rfl G95.out HRU.out ?_) | (refine step_neQ aD _ HDD.out rfl rfl rfl HDL.out HRL.out ?_))
    go_ret
    exact ⟨rfl, B5.out⟩
set_option maxRecDepth 100000 in
set_option maxHeartbeats 1000000 in
theorem incR7_any (leaf root : List Int) (i n : Int) (a : Option Addr) (l cap : Nat) (xs D : List Int) (E : Int) (w : World) (hB : RB leaf i n l xs D E) (hlf : leaf.length = 32) (hrl : root.length = 32) (hs : Ds w a l cap xs) :
    Calls Tryd.prog 27 #[.agg (u8s leaf).toArray, .int .i64 i, .int .i64 n, .slice a l cap, .agg (u8s root).toArray] w fun r w' => r = .returned (.int .i64 (inR D root E)) ∧ Below w.heap.size w w' := by
  have HB := hide hB
  have HS := hide hs
  have HDL := hide hB.len
  have HRL := hide hrl
  have HDU := hide (show (u8s D).length = 32 by rw [u8s_length, hB.len])
  have HRU := hide (show (u8s root).length = 32 by rw [u8s_length, hrl])
  have HLL := hide (show (u8s leaf).length = 32 by rw [u8s_length, hlf])
  clear hs hrl hlf hB
  by_cases hE : E = 0
  · subst hE
    by_cases hD : D = root
    · rw [show inR D root 0 = 0 by unfold inR; rw [if_pos rfl, if_pos hD]]
      have hd : (!decide (D = root)) = false := by simp [hD]
      have HDD := hide hd
      clear hD hd
      go_enter Tryd.func27, Tryd.ntmps27
      go_wp2_with (refine step_box rfl rfl ?_)
      intro w1 g5 hr1 hl1 hb1
      have G5 := hide hr1
      clear hr1
      go_wp2_with (refine step_box rfl rfl ?_)
      intro w2 g9 hr2 hl2 hb2
      have G9 := hide hr2
      have G52 := hide (G5.out.on hb2)
      have B2 := hide (on_below hb1 hb2)
      clear hr2 hb1 hb2 G5
      go_wp2_with (refine step_loadA wD rfl rfl G52.out HLL.out ?_)
      refine (HB.out.doc a cap _ (HS.out.below B2.out)).mono ?_
      rintro r w3 ⟨rfl, hb3⟩
      have G93 := hide (G9.out.on hb3)
      have B3 := hide (on_below B2.out hb3)
      clear hb3 G52 G9 B2
      go_wp2_with (refine step_alloc zD rfl ?_)
      intro w4 g11 hr4 hl4 hb4
      have G11 := hide hr4
      have h911 : g9 ≠ g11 := by have := G93.out.lt; omega
      clear hr4
      go_wp2_with (refine step_storeA wD rfl rfl rfl G11.out HDU.out (One.u8 _) rfl ?_)
      intro w5 hg5 hbut5
      have B5 := hide (new_below B3.out hb4 hl4 hbut5)
      have G95 := hide ((G93.out.on hb4).but hbut5 h911)
      have GD := hide hg5
      clear hg5 hbut5 hb4 G11 B3 G93
      go_wp2_with (first | (refine step_loadA wD rfl rfl GD.out HDU.out ?_) | (refine step_loadA wD rfl rfl G95.out HRU.out ?_) | (refine step_neQ aD _ HDD.out rfl rfl rfl HDL.out HRL.out ?_))
      go_ret
      exact ⟨rfl, B5.out⟩
    · rw [show inR D root 0 = 71 by unfold inR; rw [if_pos rfl, if_neg hD]]
      have hd : (!decide (D = root)) = true := by simp [hD]
      have HDD := hide hd
      clear hD hd
      go_enter Tryd.func27, Tryd.ntmps27
      go_wp2_with (refine step_box rfl rfl ?_)
      intro w1 g5 hr1 hl1 hb1
      have G5 := hide hr1
      clear hr1
      go_wp2_with (refine step_box rfl rfl ?_)
      intro w2 g9 hr2 hl2 hb2
      have G9 := hide hr2
      have G52 := hide (G5.out.on hb2)
      have B2 := hide (on_below hb1 hb2)
      clear hr2 hb1 hb2 G5
      go_wp2_with (refine step_loadA wD rfl rfl G52.out HLL.out ?_)
      refine (HB.out.doc a cap _ (HS.out.below B2.out)).mono ?_
      rintro r w3 ⟨rfl, hb3⟩
      have G93 := hide (G9.out.on hb3)
      have B3 := hide (on_below B2.out hb3)
      clear hb3 G52 G9 B2
      go_wp2_with (refine step_alloc zD rfl ?_)
      intro w4 g11 hr4 hl4 hb4
      have G11 := hide hr4
      have h911 : g9 ≠ g11 := by have := G93.out.lt; omega
      clear hr4
      go_wp2_with (refine step_storeA wD rfl rfl rfl G11.out HDU.out (One.u8 _) rfl ?_)
      intro w5 hg5 hbut5
      have B5 := hide (new_below B3.out hb4 hl4 hbut5)
      have G95 := hide ((G93.out.on hb4).but hbut5 h911)
      have GD := hide hg5
      clear hg5 hbut5 hb4 G11 B3 G93
      go_wp2_with (first | (refine step_loadA wD rfl rfl GD.out HDU.out ?_) | (refine step_loadA wD rfl rfl G95.out HRU.out ?_) | (refine step_neQ aD _ HDD.out rfl rfl rfl HDL.out HRL.out ?_))
      go_ret
      exact ⟨rfl, B5.out⟩
  · rw [show inR D root E = E by unfold inR; rw [if_neg hE]]
    have hE1 : (E != 0) = true := by simp [hE]
    have hE2 : (E == 0) = false := by simp [hE]
    have HDD : Hid ((!decide (D = root)) = !decide (D = root)) := hide rfl
    go_enter Tryd.func27, Tryd.ntmps27
    go_wp2_with (refine step_box rfl rfl ?_)
    intro w1 g5 hr1 hl1 hb1
    have G5 := hide hr1
    clear hr1
    go_wp2_with (refine step_box rfl rfl ?_)
    intro w2 g9 hr2 hl2 hb2
    have G9 := hide hr2
    have G52 := hide (G5.out.on hb2)
    have B2 := hide (on_below hb1 hb2)
    clear hr2 hb1 hb2 G5
    go_wp2_with (refine step_loadA wD rfl rfl G52.out HLL.out ?_)
    refine (HB.out.doc a cap _ (HS.out.below B2.out)).mono ?_
    rintro r w3 ⟨rfl, hb3⟩
    have G93 := hide (G9.out.on hb3)
    have B3 := hide (on_below B2.out hb3)
    clear hb3 G52 G9 B2
    go_wp2_with (refine step_alloc zD rfl ?_)
    intro w4 g11 hr4 hl4 hb4
    have G11 := hide hr4
    have h911 : g9 ≠ g11 := by have := G93.out.lt; omega
    clear hr4
    go_wp2_with (refine step_storeA wD rfl rfl rfl G11.out HDU.out (One.u8 _) rfl ?_)
    intro w5 hg5 hbut5
    have B5 := hide (new_below B3.out hb4 hl4 hbut5)
    have G95 := hide ((G93.out.on hb4).but hbut5 h911)
    have GD := hide hg5
    clear hg5 hbut5 hb4 G11 B3 G93
    go_wp2_with (first | (refine step_loadA wD rfl rfl GD.out HDU.out ?_) | (refine step_loadA wD rfl rfl G95.out HRU.out ?_) | (refine step_neQ aD _ HDD.out rfl rfl rfl HDL.out HRL.out ?_))
    go_ret
    exact ⟨rfl, B5.out⟩

end Go.Proofs.YtconeobaohmbnaaDoor

/-
  The two roots that a consistency proof leads to: the program's.
-/
namespace Go.Proofs.YtconeobaohmbnaaDoor
open Go.RowKit
set_option linter.unusedVariables false

/-- The older root out of the first k digests. -/
def fo (hs xs d : List Int) : Nat → List Int
  | 0 => d
  | k + 1 => if hs.getD k 0 = 1 then nd (dat xs k) (fo hs xs d k) else fo hs xs d k
theorem fo_length {hs xs d : List Int} (h : d.length = 32) : ∀ k, (fo hs xs d k).length = 32
  | 0 => h
  | k + 1 => by unfold fo; split
                · exact nd_length _ _
                · exact fo_length h k
theorem fo_isB {hs xs d : List Int} (h : isB d) : ∀ k, isB (fo hs xs d k)
  | 0 => h
  | k + 1 => by unfold fo; split
                · exact nd_isB _ _
                · exact fo_isB h k
/-- The digest at which both begin. -/
def st0 (t : Nat) (d xs : List Int) : List Int := if t = 0 then d else dat xs 0
theorem st0_length {t n : Nat} {d xs : List Int} (hd : d.length = 32) (hx : xs.length = 32 * n) (h : t ≤ n) : (st0 t d xs).length = 32 := by
  unfold st0
  split
  · exact hd
  · exact dat_length hx (by omega)
theorem st0_isB {t : Nat} {d xs : List Int} (hd : isB d) (hx : isB xs) : isB (st0 t d xs) := by
  unfold st0
  split
  · exact hd
  · exact dat_isB hx 0
/-- What lies behind the first t. -/
theorem from_any {a : Option Addr} {l cap : Nat} {xs : List Int} {w0 : World} (t : Nat) (ht : t ≤ l) (hs : Ds w0 a l cap xs) :
    ∃ a' cap', (∀ v : World, (Instr.slice 24 (.slice a l cap) (some (.int .i64 (t : Int))) none none).run Tryd.prog v = .ok (.slice a' (l - t) cap') v) ∧ (∀ w : World, Ds w a l cap xs → Ds w a' (l - t) cap' (xs.drop (32 * t))) := by
  have hcl := hs.hcap
  refine ⟨if cap = t then a else a.map (·.add (t * 32)), cap - t, fun v => ?_, fun w hw => ?_⟩
  · rw [run_slice_l v _ _ _ _ undDs .i64 t (by omega) (by omega), elemDs, sizeDs]
    simp [sliced]
  · have hcap := hw.hcap
    have hmax := hw.hmax
    by_cases hc : cap = t
    · rw [if_pos hc]
      obtain rfl : t = l := by omega
      rw [show t - t = 0 by omega, List.drop_of_length_le (by rw [hw.hlen]; exact Nat.le_refl _)]
      exact ⟨by omega, by omega, fun h => by omega, rfl, Nat.le_refl _, by omega, by omega, (fun y hy => by cases hy), fun _ => by omega, fun h => by omega⟩
    · rw [if_neg hc]
      cases a with
      | none => exact absurd (hw.hnil rfl) (by omega)
      | some x =>
        by_cases h0 : l = 0
        · subst h0
          obtain rfl : t = 0 := by omega
          have hx := hw.hlen
          obtain rfl : xs = [] := List.eq_nil_of_length_eq_zero hx
          exact ⟨by omega, by omega, (fun e => by cases e), rfl, Nat.le_refl _, by omega, by omega, (fun y hy => by cases hy), (fun e => by cases e), fun h => by omega⟩
        · obtain ⟨b, o, e⟩ := hw.place (by omega)
          cases e
          have := hw.drop t ht
          simpa [Addr.add_lit, Nat.mul_comm] using this
theorem results_wwt {fn : Func} {p q u : Tmp} {T U : TypeId} (h : fn.results = #[.cell p T, .cell q U, .tmp u]) {n m : Nat} (hT : Wide T n) (hU : Wide U m) (tmps : Array Value) (w : World)
    {g g' : Nat} {t t' : TypeId} {cs cs' : List Value} (hp : tmps.getD p undef = .pointer (some ⟨g, 0, none⟩)) (hq : tmps.getD q undef = .pointer (some ⟨g', 0, none⟩)) (hg : Blk w g t cs) (hg' : Blk w g' t' cs') (hl : cs.length = n) (hl' : cs'.length = m) :
    (results fn tmps).run Tryd.prog w = .ok (.tuple #[.agg cs.toArray, .agg cs'.toArray, tmps.getD u undef]) w := by
  have hp' : tmps[p]?.getD undef = .pointer (some ⟨g, 0, none⟩) := by simpa using hp
  have hq' : tmps[q]?.getD undef = .pointer (some ⟨g', 0, none⟩) := by simpa using hq
  obtain ⟨d, hu, hd⟩ := hT.und
  obtain ⟨d', hu', hd'⟩ := hU.und
  simp [results, h, hp', hq', asAddr, run_loadVar_mid w g 0 T cs d (hg.range 0 cs (by simp)) hu hd (by rw [hT.size, hl]), run_loadVar_mid w g' 0 U cs' d' (hg'.range 0 cs' (by simp)) hu' hd' (by rw [hU.size, hl'])]

/-- What the loop keeps. -/
structure RS (w wr : World) (g8 g9 : Nat) (v : Value) (hs X Y : List Int) : Prop where
  own : OwnH wr w.heap.size v hs
  n8 : v.ownBlock ≠ some g8
  n9 : v.ownBlock ≠ some g9
  x : Blk wr g8 23 (u8s X)
  y : Blk wr g9 23 (u8s Y)
  bel : Below w.heap.size w wr
theorem RS.below {w wr w' : World} {g8 g9 : Nat} {v : Value} {hs X Y : List Int} (h : RS w wr g8 g9 v hs X Y) (hb : Below wr.heap.size wr w') : RS w w' g8 g9 v hs X Y :=
  ⟨h.own.below hb, h.n8, h.n9, h.x.on hb, h.y.on hb, on_below h.bel hb⟩
theorem RS.set8 {w wr w' : World} {g8 g9 : Nat} {v : Value} {hs X X' Y : List Int} (h : RS w wr g8 g9 v hs X Y) (hb : But g8 wr w') (hd : Blk w' g8 23 (u8s X')) (hg : w.heap.size ≤ g8) (h89 : g8 ≠ g9) : RS w w' g8 g9 v hs X' Y :=
  ⟨h.own.but hb h.n8, h.n8, h.n9, hd, h.y.but hb (Ne.symm h89), h.bel.trans (hb.below hg)⟩
theorem RS.set9 {w wr w' : World} {g8 g9 : Nat} {v : Value} {hs X Y Y' : List Int} (h : RS w wr g8 g9 v hs X Y) (hb : But g9 wr w') (hd : Blk w' g9 23 (u8s Y')) (hg : w.heap.size ≤ g9) (h89 : g8 ≠ g9) : RS w w' g8 g9 v hs X Y' :=
  ⟨h.own.but hb h.n9, h.n8, h.n9, h.x.but hb h89, hd, h.bel.trans (hb.below hg)⟩

set_option maxRecDepth 100000 in
set_option maxHeartbeats 1000000 in
theorem roots7_bad (d : List Int) (m n : Int) (a : Value) (w : World) (h : m < 1 ∨ n < m ∨ 281474976710656 < n) :
    Calls Tryd.prog 49 #[.agg (u8s d).toArray, .int .i64 m, .int .i64 n, a] w fun r w' => r = .returned (.tuple #[.agg (u8s (zer 32)).toArray, .agg (u8s (zer 32)).toArray, .int .i64 40]) ∧ Below w.heap.size w w' := by
  have H := hide (fun v => toPart_bad m n v h)
  clear h
  go_enter Tryd.func49, Tryd.ntmps49
  go_wp2_with (refine step_box rfl rfl ?_)
  intro w1 g4 hr1 hl1 hb1
  have G4 := hide hr1
  clear hr1
  go_wp2_with (refine step_alloc zD rfl ?_)
  intro w2 g8 hr2 hl2 hb2
  have G8 := hide hr2
  have G42 := hide (G4.out.on hb2)
  have B2 := hide (hb1.trans (hb2.mono hb1.size))
  have hw8 : w.heap.size ≤ g8 := Nat.le_trans hb1.size hl2
  clear hr2 hb1 hb2 G4
  go_wp2_with (refine step_alloc zD rfl ?_)
  intro w3 g9 hr3 hl3 hb3
  have G9 := hide hr3
  have G83 := hide (G8.out.on hb3)
  have G43 := hide (G42.out.on hb3)
  have h89 : g8 ≠ g9 := by have := G8.out.lt; omega
  have hw9 : w.heap.size ≤ g9 := Nat.le_trans B2.out.size hl3
  have B3 := hide (on_below B2.out hb3)
  clear hr3 hb3 G8 G42 B2
  go_wp2_with fail
  refine (H.out _).mono ?_
  rintro r w4 ⟨rfl, hb4⟩
  have G84 := hide (G83.out.on hb4)
  have G94 := hide (G9.out.on hb4)
  have B4 := hide (on_below B3.out hb4)
  clear hb4 G83 G9 B3
  go_wp2_with (first | (refine step_buildD rfl ?_) | (refine step_storeA wD rfl rfl rfl G84.out (by rw [u8s_length, zer_length]) (One.u8 _) rfl ?_))
  intro w5 hg5 hbut5
  have E8 := hide hg5
  have E9 := hide (G94.out.but hbut5 (Ne.symm h89))
  have EB := hide (B4.out.trans (hbut5.below hw8))
  clear hg5 hbut5
  go_wp2_with (refine step_storeA wD rfl rfl rfl E9.out (by rw [u8s_length, zer_length]) (One.u8 _) rfl ?_; intro w6 hg6 hbut6)
  refine bodyPost_ret (results_wwt rfl wD wD _ _ rfl rfl (E8.out.but hbut6 h89) hg6 (by rw [u8s_length, zer_length]) (by rw [u8s_length, zer_length])) rfl ⟨rfl, ?_⟩
  exact EB.out.trans (hbut6.below hw9)
set_option maxRecDepth 100000 in
set_option maxHeartbeats 1000000 in
theorem roots7_len (d : List Int) (m n : Nat) (a : Option Addr) (l cap : Nat) (w : World) (h0 : 1 ≤ m) (h1 : m ≤ n) (h2 : n ≤ 281474976710656) (hl : l ≠ (hvM m 0 n).length + ptM m 0 n) :
    Calls Tryd.prog 49 #[.agg (u8s d).toArray, .int .i64 (m : Int), .int .i64 (n : Int), .slice a l cap] w fun r w' => r = .returned (.tuple #[.agg (u8s (zer 32)).toArray, .agg (u8s (zer 32)).toArray, .int .i64 70]) ∧ Below w.heap.size w w' := by
  have H := hide (fun v => toPart_ok m n v h0 h1 h2)
  have hlen := hvM_few h0 (show 0 < m by omega) (show m ≤ 0 + n by omega) h2
  have hpt := ptM_le m 0 n
  have hl' : ((l : Int) != ((hvM m 0 n).length : Int) + (ptM m 0 n : Int)) = true := by simp; omega
  generalize hvM m 0 n = L at *
  generalize ptM m 0 n = T at *
  clear hl
  go_enter Tryd.func49, Tryd.ntmps49
  go_wp2_with (refine step_box rfl rfl ?_)
  intro w1 g4 hr1 hl1 hb1
  have G4 := hide hr1
  clear hr1
  go_wp2_with (refine step_alloc zD rfl ?_)
  intro w2 g8 hr2 hl2 hb2
  have G8 := hide hr2
  have G42 := hide (G4.out.on hb2)
  have B2 := hide (hb1.trans (hb2.mono hb1.size))
  have hw8 : w.heap.size ≤ g8 := Nat.le_trans hb1.size hl2
  clear hr2 hb1 hb2 G4
  go_wp2_with (refine step_alloc zD rfl ?_)
  intro w3 g9 hr3 hl3 hb3
  have G9 := hide hr3
  have G83 := hide (G8.out.on hb3)
  have G43 := hide (G42.out.on hb3)
  have h89 : g8 ≠ g9 := by have := G8.out.lt; omega
  have hw9 : w.heap.size ≤ g9 := Nat.le_trans B2.out.size hl3
  have B3 := hide (on_below B2.out hb3)
  clear hr3 hb3 G8 G42 B2
  go_wp2_with fail
  refine (H.out _).mono ?_
  rintro r w4 ⟨v4, rfl, ho4, hb4⟩
  obtain ⟨a4, c4, rfl⟩ := ho4.slice
  have G84 := hide (G83.out.on hb4)
  have G94 := hide (G9.out.on hb4)
  have B4 := hide (on_below B3.out hb4)
  clear hb4 G83 G9 B3 ho4
  go_wp2_with (first | (refine step_buildD rfl ?_) | (refine step_storeA wD rfl rfl rfl G84.out (by rw [u8s_length, zer_length]) (One.u8 _) rfl ?_))
  intro w5 hg5 hbut5
  have E8 := hide hg5
  have E9 := hide (G94.out.but hbut5 (Ne.symm h89))
  have EB := hide (B4.out.trans (hbut5.below hw8))
  clear hg5 hbut5
  go_wp2_with (refine step_storeA wD rfl rfl rfl E9.out (by rw [u8s_length, zer_length]) (One.u8 _) rfl ?_; intro w6 hg6 hbut6)
  refine bodyPost_ret (results_wwt rfl wD wD _ _ rfl rfl (E8.out.but hbut6 h89) hg6 (by rw [u8s_length, zer_length]) (by rw [u8s_length, zer_length])) rfl ⟨rfl, ?_⟩
  exact EB.out.trans (hbut6.below hw9)

end Go.Proofs.YtconeobaohmbnaaDoor

/-
  The two roots that a consistency proof leads to: the program's, where the proof is as long as it must be.
-/
namespace Go.Proofs.YtconeobaohmbnaaDoor
open Go.RowKit
set_option linter.unusedVariables false

set_option maxRecDepth 100000 in
set_option maxHeartbeats 4000000 in
theorem roots7_ok (d : List Int) (m n : Nat) (a : Option Addr) (l cap : Nat) (xs : List Int) (w : World) (h0 : 1 ≤ m) (h1 : m ≤ n) (h2 : n ≤ 281474976710656) (hl : l = (hvM m 0 n).length + ptM m 0 n) (hd : d.length = 32) (hdb : isB d) (hs : Ds w a l cap xs) (hk : KT w) :
    Calls Tryd.prog 49 #[.agg (u8s d).toArray, .int .i64 (m : Int), .int .i64 (n : Int), .slice a l cap] w fun r w' => r = .returned (.tuple #[.agg (u8s (fo (hvM m 0 n) (xs.drop (32 * ptM m 0 n)) (st0 (ptM m 0 n) d xs) (hvM m 0 n).length)).toArray, .agg (u8s (fu (hvM m 0 n) (xs.drop (32 * ptM m 0 n)) (st0 (ptM m 0 n) d xs) (hvM m 0 n).length)).toArray, .int .i64 0]) ∧ Below w.heap.size w w' := by
  have H := hide (fun v => toPart_ok m n v h0 h1 h2)
  have hlen := hvM_few h0 (show 0 < m by omega) (show m ≤ 0 + n by omega) h2
  have hpt := ptM_le m 0 n
  generalize hvM m 0 n = L at *
  generalize ptM m 0 n = T at *
  have HS := hide hs
  have HK := hide hk
  have HLL := hide (show (u8s d).length = 32 by rw [u8s_length, hd])
  obtain ⟨q, hq⟩ : ∃ q, L.length = q := ⟨_, rfl⟩
  have HQ := hide hq
  rw [hq] at hl hlen ⊢
  obtain ⟨pa, pc, hfr, hdr⟩ := from_any T (by omega) hs
  have hTl : T ≤ l := by omega
  have hSL := st0_length (t := T) hd hs.hlen hTl
  have hSB := st0_isB (t := T) hdb hs.hbyte
  rw [show l - T = q by omega] at hfr hdr
  have HDR := hide hdr
  have HSU := hide (show (u8s (st0 T d xs)).length = 32 by rw [u8s_length, hSL])
  have HZ := hide (show st0 T d xs = if T = 0 then d else dat xs 0 from rfl)
  have hll : (l : Int) = (q : Int) + (T : Int) := by omega
  generalize hys : xs.drop (32 * T) = ys at *
  generalize st0 T d xs = D0 at *
  have HFL := hide (fun k => fu_length (hs := L) (xs := ys) hSL k)
  have HFB := hide (fun k => fu_isB (hs := L) (xs := ys) hSB k)
  have HOL := hide (fun k => fo_length (hs := L) (xs := ys) hSL k)
  have HOB := hide (fun k => fo_isB (hs := L) (xs := ys) hSB k)
  have HLT := hide hl
  have hne : ((l : Int) != (q : Int) + (T : Int)) = false := by simp; omega
  have hl9 : l ≤ 49 := by omega
  clear hs hk hd hdb hq hdr hl hll hys
  go_enter Tryd.func49, Tryd.ntmps49
  go_wp2_with (refine step_box rfl rfl ?_)
  intro w1 g4 hr1 hl1 hb1
  have G4 := hide hr1
  clear hr1
  go_wp2_with (refine step_alloc zD rfl ?_)
  intro w2 g8 hr2 hl2 hb2
  have G8 := hide hr2
  have G42 := hide (G4.out.on hb2)
  have B2 := hide (hb1.trans (hb2.mono hb1.size))
  have hw8 : w.heap.size ≤ g8 := Nat.le_trans hb1.size hl2
  clear hr2 hb1 hb2 G4
  go_wp2_with (refine step_alloc zD rfl ?_)
  intro w3 g9 hr3 hl3 hb3
  have G9 := hide hr3
  have G83 := hide (G8.out.on hb3)
  have G43 := hide (G42.out.on hb3)
  have h89 : g8 ≠ g9 := by have := G8.out.lt; omega
  have hw9 : w.heap.size ≤ g9 := Nat.le_trans B2.out.size hl3
  have B3 := hide (on_below B2.out hb3)
  clear hr3 hb3 G8 G42 B2
  go_wp2_with fail
  refine (H.out _).mono ?_
  rintro r w4 ⟨v4, rfl, ho4, hb4⟩
  obtain ⟨a3, c3, rfl⟩ := ho4.slice
  rw [HQ.out] at ho4 ⊢
  have G84 := hide (G83.out.on hb4)
  have G94 := hide (G9.out.on hb4)
  have G44 := hide (G43.out.on hb4)
  have O4 := hide (ho4.lower B3.out.size)
  have B4 := hide (on_below B3.out hb4)
  have h38 := G83.out.lt
  have h39 := G9.out.lt
  have N8 : Hid ((Value.slice a3 q c3).ownBlock ≠ some g8) := hide fun hk => by have := (ho4.lt _ hk).1; omega
  have N9 : Hid ((Value.slice a3 q c3).ownBlock ≠ some g9) := hide fun hk => by have := (ho4.lt _ hk).1; omega
  clear hb4 ho4 G83 G9 G43 B3 h38 h39
  go_wp2_with (first | (refine step_loadA wD rfl rfl G44.out HLL.out ?_) | (refine step_storeA wD rfl rfl rfl G84.out HLL.out (One.u8 _) rfl ?_))
  intro w5 hg5 hbut5
  have G85 := hide hg5
  have G95 := hide (G94.out.but hbut5 h89.symm)
  have O5 := hide (O4.out.but hbut5 N8.out)
  have B5 := hide (B4.out.trans (hbut5.below hw8))
  clear hg5 hbut5 G84 G94 G44 O4 B4
  by_cases hT : T = 0
  · have hT' : ¬ ((T : Int) > 0) := by omega
    have HD0 : Hid (d = D0) := hide (by rw [HZ.out, if_pos hT])
    have HT := hide hT
    clear hT HZ
    go_wp2_with (first | (refine step_loadA wD rfl rfl G85.out HLL.out ?_) | (refine step_storeA wD rfl rfl rfl G95.out HLL.out (One.u8 _) rfl ?_))
    intro w6 hg6 hbut6
    have R7 : Hid (RS w w6 g8 g9 (.slice a3 q c3) L D0 D0) := hide ⟨O5.out.but hbut6 N9.out, N8.out, N9.out, by rw [← HD0.out]; exact G85.out.but hbut6 h89, by rw [← HD0.out]; exact hg6, B5.out.trans (hbut6.below hw9)⟩
    clear hg6 hbut6 G85 G95 O5 B5
    go_wp2
    go_loopw [47] (fun s wr => ∃ k : Nat, k ≤ q ∧ s = .int .i64 (k : Int) ∧ RS w wr g8 g9 (.slice a3 q c3) L (fo L ys D0 k) (fu L ys D0 k)) (fun s _ => q - (intOf s).toNat)
    case atStart => exact ⟨0, by omega, rfl, R7.out⟩
    case round =>
      obtain ⟨k, hkl, rfl, hR⟩ := hrel
      have R := hide hR
      clear hR R7
      by_cases hlt : k < q
      · have hlt' : (k : Int) < (q : Int) := by omega
        have HY := hide (HDR.out _ (HS.out.below R.out.bel))
        obtain ⟨b, o, rfl⟩ := HY.out.place (by omega)
        have hat := d_at b o q pc k (k : Int) rfl hlt
        have HDL := hide (dat_length HY.out.hlen hlt)
        have HDB := hide (dat_isB HY.out.hbyte k)
        have HUL := hide (show (u8s (dat ys k)).length = 32 by rw [u8s_length, HDL.out])
        have HRG := hide (HY.out.range k hlt)
        obtain ⟨h, hh⟩ : ∃ h, L[k]? = some h := ⟨_, List.getElem?_eq_getElem (show k < L.length by rw [HQ.out]; exact hlt)⟩
        have hg : L.getD k 0 = h := by rw [List.getD, hh]; rfl
        have HNX : Hid (fu L ys D0 (k + 1) = jn h (fu L ys D0 k) (dat ys k)) := hide (by show jn (L.getD k 0) _ _ = _; rw [hg])
        have HNF : Hid (fo L ys D0 (k + 1) = if h = 1 then nd (dat ys k) (fo L ys D0 k) else fo L ys D0 k) := hide (by show (if L.getD k 0 = 1 then _ else _) = _; rw [hg])
        obtain ⟨gH, rfl⟩ : ∃ gH, a3 = some ⟨gH, 0, none⟩ := by
          rcases R.out.own.lies with ⟨e, h0⟩ | ⟨g, c, cs, e, _⟩
          · rw [h0] at hh; cases hh
          · injection e with e1 _ _; exact ⟨g, e1⟩
        have HHH := hide hh
        have HFL2 := hide (HFL.out k)
        have HFB2 := hide (HFB.out k)
        have HOL2 := hide (HOL.out k)
        have HOB2 := hide (HOB.out k)
        have HOU2 := hide (show (u8s (fo L ys D0 k)).length = 32 by rw [u8s_length, HOL.out k])
        generalize fu L ys D0 k = Dk at *
        generalize fo L ys D0 k = Ok at *
        have hix := atH gH q c3 k (k : Int) rfl hlt
        clear hh hg HY
        go_wp2_with (first | (refine step_loadR wD rfl rfl _ HRG.out HUL.out ?_) | (refine step_alloc zD rfl ?_))
        intro w8 g14 hr8 hl8 hb8
        have G14 := hide hr8
        clear hr8
        go_wp2_with (refine step_storeA wD rfl rfl rfl G14.out HUL.out (One.u8 _) rfl ?_)
        intro w9 hg9 hbut9
        have hn14 : g9 ≠ g14 := by have := R.out.y.lt; omega
        have hm14 : g8 ≠ g14 := by have := R.out.x.lt; omega
        have B89 := hide (hb8.trans (hbut9.below hl8))
        have R9 := hide (R.out.below B89.out)
        have G99 := hide hg9
        clear hg9 hbut9 hb8 G14 R HRG hat B89
        have hcell := R9.out.own.cell k h HHH.out
        by_cases hh1 : h = 1
        · subst hh1
          have HNO : Hid (fo L ys D0 (k + 1) = nd (dat ys k) Ok) := hide (by rw [HNF.out, if_pos rfl])
          clear HNF
          go_wp2_with (first | (refine step_loadA wD rfl rfl R9.out.x HOU2.out ?_) | (refine step_loadA wD rfl rfl G99.out HUL.out ?_) | fail)
          refine (join_any 1 Ok (dat ys k) _ HOL2.out HOB2.out HDL.out HDB.out (HK.out.below R9.out.bel HK.out.lt)).mono ?_
          rintro r wa ⟨rfl, hba⟩
          have RA := hide (R9.out.below hba)
          have GA := hide (G99.out.on hba)
          have HJU := hide (show (u8s (jn 1 Ok (dat ys k))).length = 32 by rw [u8s_length, jn_length])
          clear hba R9 G99 hcell hix
          go_wp2_with (refine step_storeA wD rfl rfl rfl RA.out.x HJU.out (One.u8 _) HOU2.out ?_)
          intro wb hgb hbutb
          have RB := hide (RA.out.set8 hbutb (X' := nd (dat ys k) Ok) hgb hw8 h89)
          have GB := hide (GA.out.but hbutb hm14.symm)
          clear hgb hbutb RA GA
          go_wp2_with fail
          refine wp_region_noPanic ?_
          have R0 := hide (RB.out.below ((Below.refl _ _).drew))
          have G0 := hide (GB.out.on ((Below.refl _ _).drew))
          have hu := aD.und
          have HI1 : Hid ((Tryd.prog.info? 23).map (·.size) = some (u8s (dat ys k)).length) := hide (by rw [wD.size, HUL.out])
          have hS : ∀ v : World, OwnH v w.heap.size (.slice (some ⟨gH, 0, none⟩) q c3) L → Blk v g14 23 (u8s (dat ys k)) → v.cell? ⟨gH, k, none⟩ = some (.int .i64 1) ∧ v.rangeAt g14 0 (u8s (dat ys k)) := fun v h1 h2 => ⟨h1.cell k 1 HHH.out, h2.range 0 _ (by simp)⟩
          refine wp_region_held_drew (S := fun v : World => v.cell? ⟨gH, k, none⟩ = some (.int .i64 1) ∧ v.rangeAt g14 0 (u8s (dat ys k))) (by kernel_rfl) (hS _ R0.out.own G0.out) (fun hHeld => ?_)
          refine takeH 0 60 (.slice (some ⟨gH, 0, none⟩) q c3) hHeld rfl rfl (by kernel_rfl) (by kernel_rfl) (by kernel_rfl) (fun _ _ _ h => h) (Or.inl ⟨by rfl, fun w _ => by go_simp⟩) ?_
          simp only [Act.put, List.setIfInBounds_toArray, List.set_cons_zero, List.set_cons_succ]
          refine takeH 1 61 (.int .i64 (k : Int)) hHeld rfl rfl (by kernel_rfl) (by kernel_rfl) (by kernel_rfl) (fun _ _ _ h => h) (Or.inl ⟨by rfl, fun w _ => by go_simp⟩) ?_
          simp only [Act.put, List.setIfInBounds_toArray, List.set_cons_zero, List.set_cons_succ]
          refine takeH 2 62 (.pointer (some ⟨gH, k, none⟩)) hHeld rfl rfl (by kernel_rfl) (by kernel_rfl) (by kernel_rfl) (fun _ _ _ h => h) (Or.inl ⟨by rfl, fun w _ => run_op rfl ((atH gH q c3 k _ rfl hlt) w)⟩) ?_
          simp only [Act.put, List.setIfInBounds_toArray, List.set_cons_zero, List.set_cons_succ]
          refine takeH 3 63 (.int .i64 1) hHeld rfl rfl (by kernel_rfl) (by kernel_rfl) (by kernel_rfl) (fun _ _ _ h => h) (Or.inl ⟨by rfl, fun w hw => by have hw' : w.cell? ⟨gH, k, none⟩ = some (.int .i64 1) := (fun h => h.1) hw; go_simp⟩) ?_
          simp only [Act.put, List.setIfInBounds_toArray, List.set_cons_zero, List.set_cons_succ]
          refine takeH 5 65 (.agg (u8s (dat ys k)).toArray) hHeld rfl rfl (by kernel_rfl) (by kernel_rfl) (by kernel_rfl) (fun _ _ _ h => h) (yieldsIf_load_mid (by rfl) _ _ rfl g14 0 rfl _ _ (fun w h => h.2) hu rfl HI1.out) ?_
          simp only [Act.put, List.setIfInBounds_toArray, List.set_cons_zero, List.set_cons_succ]
          refine wpAnyH_ready (rs := [4]) (by kernel_rfl) (by simp) (AllReadyH.cons rfl (fun K hK => ?_) AllReadyH.nil)
          rw [if_pos (by rfl)]
          refine wp_loadWG wD rfl R0.out.y (by rw [u8s_length]; exact HFL2.out) ?_
          refine hK.out _ _ (hS _ R0.out.own G0.out) (fun hHeld => ?_)
          clear hK K
          simp only [Act.put]
          refine wpAnyH_ready (rs := [6]) (by kernel_rfl) (by simp) (AllReadyH.cons rfl (fun K hK => ?_) AllReadyH.nil)
          rw [if_pos (by rfl)]
          go_simp
          refine (join_any 1 Dk (dat ys k) _ HFL2.out HFB2.out HDL.out HDB.out (HK.out.below R0.out.bel HK.out.lt)).mono ?_
          rintro r v1 ⟨rfl, hv1⟩
          have R1 := hide (R0.out.below hv1)
          have G1 := hide (G0.out.on hv1)
          refine hK.out _ _ (hS _ R1.out.own G1.out) (fun hHeld => ?_)
          clear hK K
          refine wpAnyH_ready (rs := [7]) (by kernel_rfl) (by simp) (AllReadyH.cons rfl (fun K hK => ?_) AllReadyH.nil)
          rw [if_pos (by rfl)]
          refine wp_storeW wD rfl rfl rfl R1.out.y (by rw [u8s_length]; exact jn_length _ _ _) (One.u8 _) (by rw [u8s_length, HFL2.out]; omega) ?_
          intro v2 hgs hbuts
          rw [spl_same _ _ HFL2.out (jn_length _ _ _)] at hgs
          have R2 := hide (R1.out.set9 hbuts hgs hw9 h89)
          have G2 := hide (G1.out.but hbuts hn14.symm)
          refine hK.out _ _ (hS _ R2.out.own G2.out) (fun hHeld => ?_)
          clear hK K
          simp only [Act.put]
          refine wpAnyH_done (by kernel_rfl) ?_ _
          refine NoPanic.normal ?_
          clear hHeld hS hu
          go_wp2
          go_roundw
          case rel => exact ⟨k + 1, by omega, by simp, by rw [HNO.out, HNX.out]; exact R2.out⟩
          case measure => simp only [intOf]; omega
        · have hh2 : (h == 1) = false := by simp [hh1]
          have HNO : Hid (fo L ys D0 (k + 1) = Ok) := hide (by rw [HNF.out, if_neg hh1])
          clear HNF
          go_wp2_with fail
          clear hcell hix
          go_wp2_with fail
          refine wp_region_noPanic ?_
          have R0 := hide (R9.out.below ((Below.refl _ _).drew))
          have G0 := hide (G99.out.on ((Below.refl _ _).drew))
          have hu := aD.und
          have HI1 : Hid ((Tryd.prog.info? 23).map (·.size) = some (u8s (dat ys k)).length) := hide (by rw [wD.size, HUL.out])
          have hS : ∀ v : World, OwnH v w.heap.size (.slice (some ⟨gH, 0, none⟩) q c3) L → Blk v g14 23 (u8s (dat ys k)) → v.cell? ⟨gH, k, none⟩ = some (.int .i64 h) ∧ v.rangeAt g14 0 (u8s (dat ys k)) := fun v h1 h2 => ⟨h1.cell k h HHH.out, h2.range 0 _ (by simp)⟩
          refine wp_region_held_drew (S := fun v : World => v.cell? ⟨gH, k, none⟩ = some (.int .i64 h) ∧ v.rangeAt g14 0 (u8s (dat ys k))) (by kernel_rfl) (hS _ R0.out.own G0.out) (fun hHeld => ?_)
          refine takeH 0 60 (.slice (some ⟨gH, 0, none⟩) q c3) hHeld rfl rfl (by kernel_rfl) (by kernel_rfl) (by kernel_rfl) (fun _ _ _ h => h) (Or.inl ⟨by rfl, fun w _ => by go_simp⟩) ?_
          simp only [Act.put, List.setIfInBounds_toArray, List.set_cons_zero, List.set_cons_succ]
          refine takeH 1 61 (.int .i64 (k : Int)) hHeld rfl rfl (by kernel_rfl) (by kernel_rfl) (by kernel_rfl) (fun _ _ _ h => h) (Or.inl ⟨by rfl, fun w _ => by go_simp⟩) ?_
          simp only [Act.put, List.setIfInBounds_toArray, List.set_cons_zero, List.set_cons_succ]
          refine takeH 2 62 (.pointer (some ⟨gH, k, none⟩)) hHeld rfl rfl (by kernel_rfl) (by kernel_rfl) (by kernel_rfl) (fun _ _ _ h => h) (Or.inl ⟨by rfl, fun w _ => run_op rfl ((atH gH q c3 k _ rfl hlt) w)⟩) ?_
          simp only [Act.put, List.setIfInBounds_toArray, List.set_cons_zero, List.set_cons_succ]
          refine takeH 3 63 (.int .i64 h) hHeld rfl rfl (by kernel_rfl) (by kernel_rfl) (by kernel_rfl) (fun _ _ _ h => h) (Or.inl ⟨by rfl, fun w hw => by have hw' : w.cell? ⟨gH, k, none⟩ = some (.int .i64 h) := (fun h => h.1) hw; go_simp⟩) ?_
          simp only [Act.put, List.setIfInBounds_toArray, List.set_cons_zero, List.set_cons_succ]
          refine takeH 5 65 (.agg (u8s (dat ys k)).toArray) hHeld rfl rfl (by kernel_rfl) (by kernel_rfl) (by kernel_rfl) (fun _ _ _ h => h) (yieldsIf_load_mid (by rfl) _ _ rfl g14 0 rfl _ _ (fun w h => h.2) hu rfl HI1.out) ?_
          simp only [Act.put, List.setIfInBounds_toArray, List.set_cons_zero, List.set_cons_succ]
          refine wpAnyH_ready (rs := [4]) (by kernel_rfl) (by simp) (AllReadyH.cons rfl (fun K hK => ?_) AllReadyH.nil)
          rw [if_pos (by rfl)]
          refine wp_loadWG wD rfl R0.out.y (by rw [u8s_length]; exact HFL2.out) ?_
          refine hK.out _ _ (hS _ R0.out.own G0.out) (fun hHeld => ?_)
          clear hK K
          simp only [Act.put]
          refine wpAnyH_ready (rs := [6]) (by kernel_rfl) (by simp) (AllReadyH.cons rfl (fun K hK => ?_) AllReadyH.nil)
          rw [if_pos (by rfl)]
          go_simp
          refine (join_any h Dk (dat ys k) _ HFL2.out HFB2.out HDL.out HDB.out (HK.out.below R0.out.bel HK.out.lt)).mono ?_
          rintro r v1 ⟨rfl, hv1⟩
          have R1 := hide (R0.out.below hv1)
          have G1 := hide (G0.out.on hv1)
          refine hK.out _ _ (hS _ R1.out.own G1.out) (fun hHeld => ?_)
          clear hK K
          refine wpAnyH_ready (rs := [7]) (by kernel_rfl) (by simp) (AllReadyH.cons rfl (fun K hK => ?_) AllReadyH.nil)
          rw [if_pos (by rfl)]
          refine wp_storeW wD rfl rfl rfl R1.out.y (by rw [u8s_length]; exact jn_length _ _ _) (One.u8 _) (by rw [u8s_length, HFL2.out]; omega) ?_
          intro v2 hgs hbuts
          rw [spl_same _ _ HFL2.out (jn_length _ _ _)] at hgs
          have R2 := hide (R1.out.set9 hbuts hgs hw9 h89)
          have G2 := hide (G1.out.but hbuts hn14.symm)
          refine hK.out _ _ (hS _ R2.out.own G2.out) (fun hHeld => ?_)
          clear hK K
          simp only [Act.put]
          refine wpAnyH_done (by kernel_rfl) ?_ _
          refine NoPanic.normal ?_
          clear hHeld hS hu
          go_wp2
          go_roundw
          case rel => exact ⟨k + 1, by omega, by simp, by rw [HNO.out, HNX.out]; exact R2.out⟩
          case measure => simp only [intOf]; omega
      · obtain rfl : k = q := by omega
        have hlt' : ¬ ((k : Int) < (k : Int)) := by omega
        have HXU := hide (show (u8s (fo L ys D0 k)).length = 32 by rw [u8s_length, HOL.out k])
        have HYU := hide (show (u8s (fu L ys D0 k)).length = 32 by rw [u8s_length, HFL.out k])
        have HXL := hide (HOL.out k)
        have HYL := hide (HFL.out k)
        generalize hX : fo L ys D0 k = X at *
        generalize hY : fu L ys D0 k = Y at *
        have HXE := hide hX
        have HYE := hide hY
        clear hX hY
        go_wp2_with fail
        refine wp_region_noPanic ?_
        have R0 := hide (R.out.below ((Below.refl _ _).drew))
        have hu := aD.und
        have HI1 : Hid ((Tryd.prog.info? 23).map (·.size) = some (u8s X).length) := hide (by rw [wD.size, HXU.out])
        have HI2 : Hid ((Tryd.prog.info? 23).map (·.size) = some (u8s Y).length) := hide (by rw [wD.size, HYU.out])
        have hS : ∀ v : World, Blk v g8 23 (u8s X) → Blk v g9 23 (u8s Y) → v.rangeAt g8 0 (u8s X) ∧ v.rangeAt g9 0 (u8s Y) := fun v h1 h2 => ⟨h1.range 0 _ (by simp), h2.range 0 _ (by simp)⟩
        refine wp_region_held_drew (S := fun v : World => v.rangeAt g8 0 (u8s X) ∧ v.rangeAt g9 0 (u8s Y)) (by kernel_rfl) (hS _ R0.out.x R0.out.y) (fun hHeld => ?_)
        refine takeH 0 68 (.agg (u8s X).toArray) hHeld rfl rfl (by kernel_rfl) (by kernel_rfl) (by kernel_rfl) (fun _ _ _ h => h) (yieldsIf_load_mid (by rfl) _ _ rfl g8 0 rfl _ _ (fun w h => h.1) hu rfl HI1.out) ?_
        simp only [Act.put, List.setIfInBounds_toArray, List.set_cons_zero, List.set_cons_succ]
        refine takeH 1 69 (.agg (u8s Y).toArray) hHeld rfl rfl (by kernel_rfl) (by kernel_rfl) (by kernel_rfl) (fun _ _ _ h => h) (yieldsIf_load_mid (by rfl) _ _ rfl g9 0 rfl _ _ (fun w h => h.2) hu rfl HI2.out) ?_
        simp only [Act.put, List.setIfInBounds_toArray, List.set_cons_zero, List.set_cons_succ]
        refine wpAnyH_ready (rs := [2]) (by kernel_rfl) (by simp) (AllReadyH.cons rfl (fun K hK => ?_) AllReadyH.nil)
        rw [if_pos (by rfl)]
        refine wp_storeW wD rfl rfl rfl R0.out.x HXU.out (One.u8 _) (by rw [HXU.out]; omega) ?_
        intro v1 hg1 hbut1
        rw [spl_same _ _ HXL.out HXL.out] at hg1
        have R1 := hide (R0.out.set8 hbut1 hg1 hw8 h89)
        refine hK.out _ _ (hS _ R1.out.x R1.out.y) (fun hHeld => ?_)
        clear hK K
        simp only [Act.put]
        refine wpAnyH_ready (rs := [3]) (by kernel_rfl) (by simp) (AllReadyH.cons rfl (fun K hK => ?_) AllReadyH.nil)
        rw [if_pos (by rfl)]
        refine wp_storeW wD rfl rfl rfl R1.out.y HYU.out (One.u8 _) (by rw [HYU.out]; omega) ?_
        intro v2 hg2 hbut2
        rw [spl_same _ _ HYL.out HYL.out] at hg2
        have R2 := hide (R1.out.set9 hbut2 hg2 hw9 h89)
        refine hK.out _ _ (hS _ R2.out.x R2.out.y) (fun hHeld => ?_)
        clear hK K
        simp only [Act.put]
        refine takeH 4 10 (.int .i64 0) hHeld rfl rfl (by kernel_rfl) (by kernel_rfl) (by kernel_rfl) (fun _ _ _ h => h) (Or.inl ⟨by rfl, fun w _ => by go_simp⟩) ?_
        simp only [Act.put, List.setIfInBounds_toArray]
        refine wpAnyH_done (by kernel_rfl) ?_ _
        refine NoPanic.normal ?_
        clear hHeld hS hu
        go_wp2
        refine bodyPost_ret (results_wwt rfl wD wD _ _ rfl rfl R2.out.x R2.out.y HXU.out HYU.out) rfl ⟨by rw [HXE.out, HYE.out]; rfl, R2.out.bel⟩
  · have hT' : (T : Int) > 0 := by omega
    have hD0 : D0 = dat xs 0 := by rw [HZ.out, if_neg hT]
    have hl0 : 0 < l := by omega
    obtain ⟨pb, po, rfl⟩ := HS.out.place hl0
    have hat0 := d_at pb po l cap 0 0 rfl hl0
    have HRG0 := hide ((HS.out.below B5.out).range 0 hl0)
    rw [← hD0] at HRG0
    have HT := hide hT
    clear hT HZ hD0
    go_wp2_with (first | (refine step_loadR wD rfl rfl _ HRG0.out HSU.out ?_) | (refine step_storeA wD rfl rfl rfl G85.out HSU.out (One.u8 _) HLL.out ?_))
    intro w6 hg6 hbut6
    have G86 := hide hg6
    have G96 := hide (G95.out.but hbut6 h89.symm)
    have O6 := hide (O5.out.but hbut6 N8.out)
    have B6 := hide (B5.out.trans (hbut6.below hw8))
    clear hg6 hbut6 G85 G95 O5 B5 HRG0 hat0
    go_wp2_with (first | (refine step_loadA wD rfl rfl G86.out HSU.out ?_) | (refine step_storeA wD rfl rfl rfl G96.out HSU.out (One.u8 _) rfl ?_))
    intro w7 hg7 hbut7
    have R7 : Hid (RS w w7 g8 g9 (.slice a3 q c3) L D0 D0) := hide ⟨O6.out.but hbut7 N9.out, N8.out, N9.out, G86.out.but hbut7 h89, hg7, B6.out.trans (hbut7.below hw9)⟩
    clear hg7 hbut7 G86 G96 O6 B6
    go_wp2
    go_loopw [47] (fun s wr => ∃ k : Nat, k ≤ q ∧ s = .int .i64 (k : Int) ∧ RS w wr g8 g9 (.slice a3 q c3) L (fo L ys D0 k) (fu L ys D0 k)) (fun s _ => q - (intOf s).toNat)
    case atStart => exact ⟨0, by omega, rfl, R7.out⟩
    case round =>
      obtain ⟨k, hkl, rfl, hR⟩ := hrel
      have R := hide hR
      clear hR R7
      by_cases hlt : k < q
      · have hlt' : (k : Int) < (q : Int) := by omega
        have HY := hide (HDR.out _ (HS.out.below R.out.bel))
        obtain ⟨b, o, rfl⟩ := HY.out.place (by omega)
        have hat := d_at b o q pc k (k : Int) rfl hlt
        have HDL := hide (dat_length HY.out.hlen hlt)
        have HDB := hide (dat_isB HY.out.hbyte k)
        have HUL := hide (show (u8s (dat ys k)).length = 32 by rw [u8s_length, HDL.out])
        have HRG := hide (HY.out.range k hlt)
        obtain ⟨h, hh⟩ : ∃ h, L[k]? = some h := ⟨_, List.getElem?_eq_getElem (show k < L.length by rw [HQ.out]; exact hlt)⟩
        have hg : L.getD k 0 = h := by rw [List.getD, hh]; rfl
        have HNX : Hid (fu L ys D0 (k + 1) = jn h (fu L ys D0 k) (dat ys k)) := hide (by show jn (L.getD k 0) _ _ = _; rw [hg])
        have HNF : Hid (fo L ys D0 (k + 1) = if h = 1 then nd (dat ys k) (fo L ys D0 k) else fo L ys D0 k) := hide (by show (if L.getD k 0 = 1 then _ else _) = _; rw [hg])
        obtain ⟨gH, rfl⟩ : ∃ gH, a3 = some ⟨gH, 0, none⟩ := by
          rcases R.out.own.lies with ⟨e, h0⟩ | ⟨g, c, cs, e, _⟩
          · rw [h0] at hh; cases hh
          · injection e with e1 _ _; exact ⟨g, e1⟩
        have HHH := hide hh
        have HFL2 := hide (HFL.out k)
        have HFB2 := hide (HFB.out k)
        have HOL2 := hide (HOL.out k)
        have HOB2 := hide (HOB.out k)
        have HOU2 := hide (show (u8s (fo L ys D0 k)).length = 32 by rw [u8s_length, HOL.out k])
        generalize fu L ys D0 k = Dk at *
        generalize fo L ys D0 k = Ok at *
        have hix := atH gH q c3 k (k : Int) rfl hlt
        clear hh hg HY
        go_wp2_with (first | (refine step_loadR wD rfl rfl _ HRG.out HUL.out ?_) | (refine step_alloc zD rfl ?_))
        intro w8 g14 hr8 hl8 hb8
        have G14 := hide hr8
        clear hr8
        go_wp2_with (refine step_storeA wD rfl rfl rfl G14.out HUL.out (One.u8 _) rfl ?_)
        intro w9 hg9 hbut9
        have hn14 : g9 ≠ g14 := by have := R.out.y.lt; omega
        have hm14 : g8 ≠ g14 := by have := R.out.x.lt; omega
        have B89 := hide (hb8.trans (hbut9.below hl8))
        have R9 := hide (R.out.below B89.out)
        have G99 := hide hg9
        clear hg9 hbut9 hb8 G14 R HRG hat B89
        have hcell := R9.out.own.cell k h HHH.out
        by_cases hh1 : h = 1
        · subst hh1
          have HNO : Hid (fo L ys D0 (k + 1) = nd (dat ys k) Ok) := hide (by rw [HNF.out, if_pos rfl])
          clear HNF
          go_wp2_with (first | (refine step_loadA wD rfl rfl R9.out.x HOU2.out ?_) | (refine step_loadA wD rfl rfl G99.out HUL.out ?_) | fail)
          refine (join_any 1 Ok (dat ys k) _ HOL2.out HOB2.out HDL.out HDB.out (HK.out.below R9.out.bel HK.out.lt)).mono ?_
          rintro r wa ⟨rfl, hba⟩
          have RA := hide (R9.out.below hba)
          have GA := hide (G99.out.on hba)
          have HJU := hide (show (u8s (jn 1 Ok (dat ys k))).length = 32 by rw [u8s_length, jn_length])
          clear hba R9 G99 hcell hix
          go_wp2_with (refine step_storeA wD rfl rfl rfl RA.out.x HJU.out (One.u8 _) HOU2.out ?_)
          intro wb hgb hbutb
          have RB := hide (RA.out.set8 hbutb (X' := nd (dat ys k) Ok) hgb hw8 h89)
          have GB := hide (GA.out.but hbutb hm14.symm)
          clear hgb hbutb RA GA
          go_wp2_with fail
          refine wp_region_noPanic ?_
          have R0 := hide (RB.out.below ((Below.refl _ _).drew))
          have G0 := hide (GB.out.on ((Below.refl _ _).drew))
          have hu := aD.und
          have HI1 : Hid ((Tryd.prog.info? 23).map (·.size) = some (u8s (dat ys k)).length) := hide (by rw [wD.size, HUL.out])
          have hS : ∀ v : World, OwnH v w.heap.size (.slice (some ⟨gH, 0, none⟩) q c3) L → Blk v g14 23 (u8s (dat ys k)) → v.cell? ⟨gH, k, none⟩ = some (.int .i64 1) ∧ v.rangeAt g14 0 (u8s (dat ys k)) := fun v h1 h2 => ⟨h1.cell k 1 HHH.out, h2.range 0 _ (by simp)⟩
          refine wp_region_held_drew (S := fun v : World => v.cell? ⟨gH, k, none⟩ = some (.int .i64 1) ∧ v.rangeAt g14 0 (u8s (dat ys k))) (by kernel_rfl) (hS _ R0.out.own G0.out) (fun hHeld => ?_)
          refine takeH 0 60 (.slice (some ⟨gH, 0, none⟩) q c3) hHeld rfl rfl (by kernel_rfl) (by kernel_rfl) (by kernel_rfl) (fun _ _ _ h => h) (Or.inl ⟨by rfl, fun w _ => by go_simp⟩) ?_
          simp only [Act.put, List.setIfInBounds_toArray, List.set_cons_zero, List.set_cons_succ]
          refine takeH 1 61 (.int .i64 (k : Int)) hHeld rfl rfl (by kernel_rfl) (by kernel_rfl) (by kernel_rfl) (fun _ _ _ h => h) (Or.inl ⟨by rfl, fun w _ => by go_simp⟩) ?_
          simp only [Act.put, List.setIfInBounds_toArray, List.set_cons_zero, List.set_cons_succ]
          refine takeH 2 62 (.pointer (some ⟨gH, k, none⟩)) hHeld rfl rfl (by kernel_rfl) (by kernel_rfl) (by kernel_rfl) (fun _ _ _ h => h) (Or.inl ⟨by rfl, fun w _ => run_op rfl ((atH gH q c3 k _ rfl hlt) w)⟩) ?_
          simp only [Act.put, List.setIfInBounds_toArray, List.set_cons_zero, List.set_cons_succ]
          refine takeH 3 63 (.int .i64 1) hHeld rfl rfl (by kernel_rfl) (by kernel_rfl) (by kernel_rfl) (fun _ _ _ h => h) (Or.inl ⟨by rfl, fun w hw => by have hw' : w.cell? ⟨gH, k, none⟩ = some (.int .i64 1) := (fun h => h.1) hw; go_simp⟩) ?_
          simp only [Act.put, List.setIfInBounds_toArray, List.set_cons_zero, List.set_cons_succ]
          refine takeH 5 65 (.agg (u8s (dat ys k)).toArray) hHeld rfl rfl (by kernel_rfl) (by kernel_rfl) (by kernel_rfl) (fun _ _ _ h => h) (yieldsIf_load_mid (by rfl) _ _ rfl g14 0 rfl _ _ (fun w h => h.2) hu rfl HI1.out) ?_
          simp only [Act.put, List.setIfInBounds_toArray, List.set_cons_zero, List.set_cons_succ]
          refine wpAnyH_ready (rs := [4]) (by kernel_rfl) (by simp) (AllReadyH.cons rfl (fun K hK => ?_) AllReadyH.nil)
          rw [if_pos (by rfl)]
          refine wp_loadWG wD rfl R0.out.y (by rw [u8s_length]; exact HFL2.out) ?_
          refine hK.out _ _ (hS _ R0.out.own G0.out) (fun hHeld => ?_)
          clear hK K
          simp only [Act.put]
          refine wpAnyH_ready (rs := [6]) (by kernel_rfl) (by simp) (AllReadyH.cons rfl (fun K hK => ?_) AllReadyH.nil)
          rw [if_pos (by rfl)]
          go_simp
          refine (join_any 1 Dk (dat ys k) _ HFL2.out HFB2.out HDL.out HDB.out (HK.out.below R0.out.bel HK.out.lt)).mono ?_
          rintro r v1 ⟨rfl, hv1⟩
          have R1 := hide (R0.out.below hv1)
          have G1 := hide (G0.out.on hv1)
          refine hK.out _ _ (hS _ R1.out.own G1.out) (fun hHeld => ?_)
          clear hK K
          refine wpAnyH_ready (rs := [7]) (by kernel_rfl) (by simp) (AllReadyH.cons rfl (fun K hK => ?_) AllReadyH.nil)
          rw [if_pos (by rfl)]
          refine wp_storeW wD rfl rfl rfl R1.out.y (by rw [u8s_length]; exact jn_length _ _ _) (One.u8 _) (by rw [u8s_length, HFL2.out]; omega) ?_
          intro v2 hgs hbuts
          rw [spl_same _ _ HFL2.out (jn_length _ _ _)] at hgs
          have R2 := hide (R1.out.set9 hbuts hgs hw9 h89)
          have G2 := hide (G1.out.but hbuts hn14.symm)
          refine hK.out _ _ (hS _ R2.out.own G2.out) (fun hHeld => ?_)
          clear hK K
          simp only [Act.put]
          refine wpAnyH_done (by kernel_rfl) ?_ _
          refine NoPanic.normal ?_
          clear hHeld hS hu
          go_wp2
          go_roundw
          case rel => exact ⟨k + 1, by omega, by simp, by rw [HNO.out, HNX.out]; exact R2.out⟩
          case measure => simp only [intOf]; omega
        · have hh2 : (h == 1) = false := by simp [hh1]
          have HNO : Hid (fo L ys D0 (k + 1) = Ok) := hide (by rw [HNF.out, if_neg hh1])
          clear HNF
          go_wp2_with fail
          clear hcell hix
          go_wp2_with fail
          refine wp_region_noPanic ?_
          have R0 := hide (R9.out.below ((Below.refl _ _).drew))
          have G0 := hide (G99.out.on ((Below.refl _ _).drew))
          have hu := aD.und
          have HI1 : Hid ((Tryd.prog.info? 23).map (·.size) = some (u8s (dat ys k)).length) := hide (by rw [wD.size, HUL.out])
          have hS : ∀ v : World, OwnH v w.heap.size (.slice (some ⟨gH, 0, none⟩) q c3) L → Blk v g14 23 (u8s (dat ys k)) → v.cell? ⟨gH, k, none⟩ = some (.int .i64 h) ∧ v.rangeAt g14 0 (u8s (dat ys k)) := fun v h1 h2 => ⟨h1.cell k h HHH.out, h2.range 0 _ (by simp)⟩
          refine wp_region_held_drew (S := fun v : World => v.cell? ⟨gH, k, none⟩ = some (.int .i64 h) ∧ v.rangeAt g14 0 (u8s (dat ys k))) (by kernel_rfl) (hS _ R0.out.own G0.out) (fun hHeld => ?_)
          refine takeH 0 60 (.slice (some ⟨gH, 0, none⟩) q c3) hHeld rfl rfl (by kernel_rfl) (by kernel_rfl) (by kernel_rfl) (fun _ _ _ h => h) (Or.inl ⟨by rfl, fun w _ => by go_simp⟩) ?_
          simp only [Act.put, List.setIfInBounds_toArray, List.set_cons_zero, List.set_cons_succ]
          refine takeH 1 61 (.int .i64 (k : Int)) hHeld rfl rfl (by kernel_rfl) (by kernel_rfl) (by kernel_rfl) (fun _ _ _ h => h) (Or.inl ⟨by rfl, fun w _ => by go_simp⟩) ?_
          simp only [Act.put, List.setIfInBounds_toArray, List.set_cons_zero, List.set_cons_succ]
          refine takeH 2 62 (.pointer (some ⟨gH, k, none⟩)) hHeld rfl rfl (by kernel_rfl) (by kernel_rfl) (by kernel_rfl) (fun _ _ _ h => h) (Or.inl ⟨by rfl, fun w _ => run_op rfl ((atH gH q c3 k _ rfl hlt) w)⟩) ?_
          simp only [Act.put, List.setIfInBounds_toArray, List.set_cons_zero, List.set_cons_succ]
          refine takeH 3 63 (.int .i64 h) hHeld rfl rfl (by kernel_rfl) (by kernel_rfl) (by kernel_rfl) (fun _ _ _ h => h) (Or.inl ⟨by rfl, fun w hw => by have hw' : w.cell? ⟨gH, k, none⟩ = some (.int .i64 h) := (fun h => h.1) hw; go_simp⟩) ?_
          simp only [Act.put, List.setIfInBounds_toArray, List.set_cons_zero, List.set_cons_succ]
          refine takeH 5 65 (.agg (u8s (dat ys k)).toArray) hHeld rfl rfl (by kernel_rfl) (by kernel_rfl) (by kernel_rfl) (fun _ _ _ h => h) (yieldsIf_load_mid (by rfl) _ _ rfl g14 0 rfl _ _ (fun w h => h.2) hu rfl HI1.out) ?_
          simp only [Act.put, List.setIfInBounds_toArray, List.set_cons_zero, List.set_cons_succ]
          refine wpAnyH_ready (rs := [4]) (by kernel_rfl) (by simp) (AllReadyH.cons rfl (fun K hK => ?_) AllReadyH.nil)
          rw [if_pos (by rfl)]
          refine wp_loadWG wD rfl R0.out.y (by rw [u8s_length]; exact HFL2.out) ?_
          refine hK.out _ _ (hS _ R0.out.own G0.out) (fun hHeld => ?_)
          clear hK K
          simp only [Act.put]
          refine wpAnyH_ready (rs := [6]) (by kernel_rfl) (by simp) (AllReadyH.cons rfl (fun K hK => ?_) AllReadyH.nil)
          rw [if_pos (by rfl)]
          go_simp
          refine (join_any h Dk (dat ys k) _ HFL2.out HFB2.out HDL.out HDB.out (HK.out.below R0.out.bel HK.out.lt)).mono ?_
          rintro r v1 ⟨rfl, hv1⟩
          have R1 := hide (R0.out.below hv1)
          have G1 := hide (G0.out.on hv1)
          refine hK.out _ _ (hS _ R1.out.own G1.out) (fun hHeld => ?_)
          clear hK K
          refine wpAnyH_ready (rs := [7]) (by kernel_rfl) (by simp) (AllReadyH.cons rfl (fun K hK => ?_) AllReadyH.nil)
          rw [if_pos (by rfl)]
          refine wp_storeW wD rfl rfl rfl R1.out.y (by rw [u8s_length]; exact jn_length _ _ _) (One.u8 _) (by rw [u8s_length, HFL2.out]; omega) ?_
          intro v2 hgs hbuts
          rw [spl_same _ _ HFL2.out (jn_length _ _ _)] at hgs
          have R2 := hide (R1.out.set9 hbuts hgs hw9 h89)
          have G2 := hide (G1.out.but hbuts hn14.symm)
          refine hK.out _ _ (hS _ R2.out.own G2.out) (fun hHeld => ?_)
          clear hK K
          simp only [Act.put]
          refine wpAnyH_done (by kernel_rfl) ?_ _
          refine NoPanic.normal ?_
          clear hHeld hS hu
          go_wp2
          go_roundw
          case rel => exact ⟨k + 1, by omega, by simp, by rw [HNO.out, HNX.out]; exact R2.out⟩
          case measure => simp only [intOf]; omega
      · obtain rfl : k = q := by omega
        have hlt' : ¬ ((k : Int) < (k : Int)) := by omega
        have HXU := hide (show (u8s (fo L ys D0 k)).length = 32 by rw [u8s_length, HOL.out k])
        have HYU := hide (show (u8s (fu L ys D0 k)).length = 32 by rw [u8s_length, HFL.out k])
        have HXL := hide (HOL.out k)
        have HYL := hide (HFL.out k)
        generalize hX : fo L ys D0 k = X at *
        generalize hY : fu L ys D0 k = Y at *
        have HXE := hide hX
        have HYE := hide hY
        clear hX hY
        go_wp2_with fail
        refine wp_region_noPanic ?_
        have R0 := hide (R.out.below ((Below.refl _ _).drew))
        have hu := aD.und
        have HI1 : Hid ((Tryd.prog.info? 23).map (·.size) = some (u8s X).length) := hide (by rw [wD.size, HXU.out])
        have HI2 : Hid ((Tryd.prog.info? 23).map (·.size) = some (u8s Y).length) := hide (by rw [wD.size, HYU.out])
        have hS : ∀ v : World, Blk v g8 23 (u8s X) → Blk v g9 23 (u8s Y) → v.rangeAt g8 0 (u8s X) ∧ v.rangeAt g9 0 (u8s Y) := fun v h1 h2 => ⟨h1.range 0 _ (by simp), h2.range 0 _ (by simp)⟩
        refine wp_region_held_drew (S := fun v : World => v.rangeAt g8 0 (u8s X) ∧ v.rangeAt g9 0 (u8s Y)) (by kernel_rfl) (hS _ R0.out.x R0.out.y) (fun hHeld => ?_)
        refine takeH 0 68 (.agg (u8s X).toArray) hHeld rfl rfl (by kernel_rfl) (by kernel_rfl) (by kernel_rfl) (fun _ _ _ h => h) (yieldsIf_load_mid (by rfl) _ _ rfl g8 0 rfl _ _ (fun w h => h.1) hu rfl HI1.out) ?_
        simp only [Act.put, List.setIfInBounds_toArray, List.set_cons_zero, List.set_cons_succ]
        refine takeH 1 69 (.agg (u8s Y).toArray) hHeld rfl rfl (by kernel_rfl) (by kernel_rfl) (by kernel_rfl) (fun _ _ _ h => h) (yieldsIf_load_mid (by rfl) _ _ rfl g9 0 rfl _ _ (fun w h => h.2) hu rfl HI2.out) ?_
        simp only [Act.put, List.setIfInBounds_toArray, List.set_cons_zero, List.set_cons_succ]
        refine wpAnyH_ready (rs := [2]) (by kernel_rfl) (by simp) (AllReadyH.cons rfl (fun K hK => ?_) AllReadyH.nil)
        rw [if_pos (by rfl)]
        refine wp_storeW wD rfl rfl rfl R0.out.x HXU.out (One.u8 _) (by rw [HXU.out]; omega) ?_
        intro v1 hg1 hbut1
        rw [spl_same _ _ HXL.out HXL.out] at hg1
        have R1 := hide (R0.out.set8 hbut1 hg1 hw8 h89)
        refine hK.out _ _ (hS _ R1.out.x R1.out.y) (fun hHeld => ?_)
        clear hK K
        simp only [Act.put]
        refine wpAnyH_ready (rs := [3]) (by kernel_rfl) (by simp) (AllReadyH.cons rfl (fun K hK => ?_) AllReadyH.nil)
        rw [if_pos (by rfl)]
        refine wp_storeW wD rfl rfl rfl R1.out.y HYU.out (One.u8 _) (by rw [HYU.out]; omega) ?_
        intro v2 hg2 hbut2
        rw [spl_same _ _ HYL.out HYL.out] at hg2
        have R2 := hide (R1.out.set9 hbut2 hg2 hw9 h89)
        refine hK.out _ _ (hS _ R2.out.x R2.out.y) (fun hHeld => ?_)
        clear hK K
        simp only [Act.put]
        refine takeH 4 10 (.int .i64 0) hHeld rfl rfl (by kernel_rfl) (by kernel_rfl) (by kernel_rfl) (fun _ _ _ h => h) (Or.inl ⟨by rfl, fun w _ => by go_simp⟩) ?_
        simp only [Act.put, List.setIfInBounds_toArray]
        refine wpAnyH_done (by kernel_rfl) ?_ _
        refine NoPanic.normal ?_
        clear hHeld hS hu
        go_wp2
        refine bodyPost_ret (results_wwt rfl wD wD _ _ rfl rfl R2.out.x R2.out.y HXU.out HYU.out) rfl ⟨by rw [HXE.out, HYE.out]; rfl, R2.out.bel⟩

end Go.Proofs.YtconeobaohmbnaaDoor

/-
  The two roots that a consistency proof leads to: the document's way.
-/
namespace Go.Proofs.YtconeobaohmbnaaDoor
open Go.RowKit
set_option linter.unusedVariables false

theorem fo_app (A B xs d : List Int) : ∀ k, k ≤ A.length → fo (A ++ B) xs d k = fo A xs d k
  | 0, _ => rfl
  | k + 1, h => by
    show (if (A ++ B).getD k 0 = 1 then nd (dat xs k) (fo (A ++ B) xs d k) else fo (A ++ B) xs d k) = if A.getD k 0 = 1 then nd (dat xs k) (fo A xs d k) else fo A xs d k
    rw [fo_app A B xs d k (by omega), show (A ++ B).getD k 0 = A.getD k 0 by simp [List.getD, List.getElem?_append_left (show k < A.length by omega)]]
theorem fo_take (hs xs d : List Int) (m : Nat) : ∀ k, k ≤ m → fo hs (xs.take (32 * m)) d k = fo hs xs d k
  | 0, _ => rfl
  | k + 1, h => by
    show (if hs.getD k 0 = 1 then nd (dat (xs.take (32 * m)) k) (fo hs (xs.take (32 * m)) d k) else fo hs (xs.take (32 * m)) d k) = if hs.getD k 0 = 1 then nd (dat xs k) (fo hs xs d k) else fo hs xs d k
    rw [fo_take hs xs d m k (by omega), dat_take xs m k (by omega)]
theorem fo_snoc (A xs d : List Int) (h : Int) : fo (A ++ [h]) xs d (A.length + 1) = if h = 1 then nd (dat xs A.length) (fo A (xs.take (32 * A.length)) d A.length) else fo A (xs.take (32 * A.length)) d A.length := by
  show (if (A ++ [h]).getD A.length 0 = 1 then nd (dat xs A.length) (fo (A ++ [h]) xs d A.length) else fo (A ++ [h]) xs d A.length) = _
  rw [fo_app A [h] xs d _ (Nat.le_refl _), fo_take A xs d A.length _ (Nat.le_refl _), show (A ++ [h]).getD A.length 0 = h by simp [List.getD]]
theorem dat_drop (xs : List Int) (t k : Nat) : dat (xs.drop (32 * t)) k = dat xs (k + t) := by
  unfold dat
  rw [List.drop_drop]
  congr 2
  omega
/-- What is left of the proof, with its last digest struck. -/
theorem rest_eq (xs : List Int) (q t : Nat) : (xs.take (32 * (q + t))).drop (32 * t) = (xs.drop (32 * t)).take (32 * q) := by
  rw [List.drop_take]
  congr 1
  omega
theorem st0_take (t q : Nat) (d xs : List Int) : st0 t d (xs.take (32 * (q + t))) = st0 t d xs := by
  unfold st0
  split
  · rfl
  · exact dat_take xs (q + t) 0 (by omega)
theorem step_lo (A xs d : List Int) (t : Nat) : fo (A ++ [0]) (xs.drop (32 * t)) d (A.length + 1) = fo A ((xs.take (32 * (A.length + t))).drop (32 * t)) d A.length ∧ fu (A ++ [0]) (xs.drop (32 * t)) d (A.length + 1) = nd (fu A ((xs.take (32 * (A.length + t))).drop (32 * t)) d A.length) (dat xs (A.length + t)) := by
  rw [rest_eq, fo_snoc, fu_snoc, dat_drop, if_neg (by decide)]
  exact ⟨rfl, rfl⟩
theorem step_hi (A xs d : List Int) (t : Nat) : fo (A ++ [1]) (xs.drop (32 * t)) d (A.length + 1) = nd (dat xs (A.length + t)) (fo A ((xs.take (32 * (A.length + t))).drop (32 * t)) d A.length) ∧ fu (A ++ [1]) (xs.drop (32 * t)) d (A.length + 1) = nd (dat xs (A.length + t)) (fu A ((xs.take (32 * (A.length + t))).drop (32 * t)) d A.length) := by
  rw [rest_eq, fo_snoc, fu_snoc, dat_drop, if_pos rfl]
  exact ⟨rfl, rfl⟩

theorem results_ww {fn : Func} {p q : Tmp} {T U : TypeId} (h : fn.results = #[.cell p T, .cell q U]) {n m : Nat} (hT : Wide T n) (hU : Wide U m) (tmps : Array Value) (w : World)
    {g g' : Nat} {t t' : TypeId} {cs cs' : List Value} (hp : tmps.getD p undef = .pointer (some ⟨g, 0, none⟩)) (hq : tmps.getD q undef = .pointer (some ⟨g', 0, none⟩)) (hg : Blk w g t cs) (hg' : Blk w g' t' cs') (hl : cs.length = n) (hl' : cs'.length = m) :
    (results fn tmps).run Tryd.prog w = .ok (.tuple #[.agg cs.toArray, .agg cs'.toArray]) w := by
  have hp' : tmps[p]?.getD undef = .pointer (some ⟨g, 0, none⟩) := by simpa using hp
  have hq' : tmps[q]?.getD undef = .pointer (some ⟨g', 0, none⟩) := by simpa using hq
  obtain ⟨d, hu, hd⟩ := hT.und
  obtain ⟨d', hu', hd'⟩ := hU.und
  simp [results, h, hp', hq', asAddr, run_loadVar_mid w g 0 T cs d (hg.range 0 cs (by simp)) hu hd (by rw [hT.size, hl]), run_loadVar_mid w g' 0 U cs' d' (hg'.range 0 cs' (by simp)) hu' hd' (by rw [hU.size, hl'])]

set_option maxRecDepth 100000 in
set_option maxHeartbeats 4000000 in
theorem twoR_any (d : List Int) (m : Nat) (hm : 1 ≤ m) (hd : d.length = 32) (hdb : isB d) : ∀ (f b n l : Nat) (W : Bool) (a : Option Addr) (cap : Nat) (xs : List Int) (w : World), n ≤ f → b < m → m ≤ b + n → b + n ≤ 281474976710656 → W = decide (b = 0) → l = (hvM m b n).length + ptM m b n → Ds w a l cap xs →
    Calls Tryd.prog 76 #[.agg (u8s d).toArray, .int .i64 ((m : Int) - (b : Int)), .int .i64 (n : Int), .slice a l cap, .bool W] w fun r w' => r = .returned (.tuple #[.agg (u8s (fo (hvM m b n) (xs.drop (32 * ptM m b n)) (st0 (ptM m b n) d xs) (hvM m b n).length)).toArray, .agg (u8s (fu (hvM m b n) (xs.drop (32 * ptM m b n)) (st0 (ptM m b n) d xs) (hvM m b n).length)).toArray]) ∧ Below w.heap.size w w'
  | 0, b, n, l, W, a, cap, xs, w, h, _, _, _, _, _, _ => by omega
  | f + 1, b, n, l, W, a, cap, xs, w, h, h1, h2, h3, hW, hl, hs => by
    have ih := hide (fun b n l W a cap xs w => twoR_any d m hm hd hdb f b n l W a cap xs w)
    have HLL := hide (show (u8s d).length = 32 by rw [u8s_length, hd])
    have HS := hide hs
    have hcap := hs.hcap
    have hmax := hs.hmax
    clear hs
    by_cases hn : b + n = m
    · obtain ⟨e1, e2⟩ := hvM_end hn
      have hn' : (m : Int) - (b : Int) = (n : Int) := by omega
      rw [e1, e2] at hl
      rw [hn', e1, e2]
      clear ih
      by_cases hb : b = 0
      · subst hb
        obtain rfl : W = true := by rw [hW]; rfl
        clear hn' hW hn h1 h2 h3 e1 e2 hl
        have HDD := hide hd
        go_enter Tryd.func76, Tryd.ntmps76
        go_wp2_with (refine step_box rfl rfl ?_)
        intro w1 g5 hr1 hl1 hb1
        have G5 := hide hr1
        clear hr1
        go_wp2_with (refine step_alloc zD rfl ?_)
        intro w2 g10 hr2 hl2 hb2
        have G10 := hide hr2
        have G52 := hide (G5.out.on hb2)
        have B2 := hide (hb1.trans (hb2.mono hb1.size))
        have hw10 : w.heap.size ≤ g10 := Nat.le_trans hb1.size hl2
        have h510 : g5 ≠ g10 := by have := G5.out.lt; omega
        clear hr2 hb1 hb2 G5
        go_wp2_with (refine step_alloc zD rfl ?_)
        intro w3 g11 hr3 hl3 hb3
        have G11 := hide hr3
        have G103 := hide (G10.out.on hb3)
        have G53 := hide (G52.out.on hb3)
        have h1011 : g10 ≠ g11 := by have := G10.out.lt; omega
        have h511 : g5 ≠ g11 := by have := G52.out.lt; omega
        have hw11 : w.heap.size ≤ g11 := Nat.le_trans B2.out.size hl3
        have B3 := hide (on_below B2.out hb3)
        clear hr3 hb3 G10 G52 B2
        go_wp2_with fail
        refine wp_region_noPanic ?_
        have hu := aD.und
        have HI1 : Hid ((Tryd.prog.info? 23).map (·.size) = some (u8s d).length) := hide (by rw [wD.size, HLL.out])
        have U5 := hide (G53.out.on ((Below.refl _ _).drew))
        have U10 := hide (G103.out.on ((Below.refl _ _).drew))
        have U11 := hide (G11.out.on ((Below.refl _ _).drew))
        have UB := hide (B3.out.drew)
        refine wp_region_held_drew (S := fun v : World => v.rangeAt g5 0 (u8s d)) (by kernel_rfl) (U5.out.range 0 _ (by simp)) (fun hHeld => ?_)
        refine takeH 0 23 (.agg (u8s d).toArray) hHeld rfl rfl (by kernel_rfl) (by kernel_rfl) (by kernel_rfl) (fun _ _ _ h => h) (yieldsIf_load_mid (by rfl) _ _ rfl g5 0 rfl _ _ (fun w h => h) hu rfl HI1.out) ?_
        simp only [Act.put, List.setIfInBounds_toArray, List.set_cons_zero, List.set_cons_succ]
        refine takeH 1 24 (.agg (u8s d).toArray) hHeld rfl rfl (by kernel_rfl) (by kernel_rfl) (by kernel_rfl) (fun _ _ _ h => h) (yieldsIf_load_mid (by rfl) _ _ rfl g5 0 rfl _ _ (fun w h => h) hu rfl HI1.out) ?_
        simp only [Act.put, List.setIfInBounds_toArray, List.set_cons_zero, List.set_cons_succ]
        refine wpAnyH_ready (rs := [2]) (by kernel_rfl) (by simp) (AllReadyH.cons rfl (fun K hK => ?_) AllReadyH.nil)
        rw [if_pos (by rfl)]
        refine wp_storeW wD rfl rfl rfl U10.out HLL.out (One.u8 _) (by rw [u8s_length, zer_length]; omega) ?_
        intro u1 hg1 hbut1
        rw [spl_same _ _ (zer_length 32) HDD.out] at hg1
        refine hK.out _ _ ((U5.out.but hbut1 h510).range 0 _ (by simp)) (fun hHeld => ?_)
        clear hK K
        simp only [Act.put]
        have GB1 := hide (U11.out.but hbut1 h1011.symm)
        refine wpAnyH_ready (rs := [3]) (by kernel_rfl) (by simp) (AllReadyH.cons rfl (fun K hK => ?_) AllReadyH.nil)
        rw [if_pos (by rfl)]
        refine wp_storeW wD rfl rfl rfl GB1.out HLL.out (One.u8 _) (by rw [u8s_length, zer_length]; omega) ?_
        intro u2 hg2 hbut2
        rw [spl_same _ _ (zer_length 32) HDD.out] at hg2
        refine hK.out _ _ (((U5.out.but hbut1 h510).but hbut2 h511).range 0 _ (by simp)) (fun hHeld => ?_)
        clear hK K
        simp only [Act.put]
        refine wpAnyH_done (by kernel_rfl) ?_ _
        refine NoPanic.normal ?_
        clear hHeld
        go_wp2
        refine bodyPost_ret (results_ww rfl wD wD _ _ rfl rfl (hg1.but hbut2 h1011) hg2 HLL.out HLL.out) rfl ⟨?_, (UB.out.trans (hbut1.below hw10)).trans (hbut2.below hw11)⟩
        rfl
      · obtain rfl : W = false := by rw [hW]; simp [hb]
        rw [if_neg hb] at hl ⊢
        have hl0 : l = 1 := by rw [hl]; rfl
        subst hl0
        obtain ⟨pb, po, rfl⟩ := HS.out.place (by omega)
        have hat := d_at pb po 1 cap 0 0 rfl (by omega)
        have HDD := hide (dat_length HS.out.hlen (show 0 < 1 by omega))
        have HDU := hide (show (u8s (dat xs 0)).length = 32 by rw [u8s_length, HDD.out])
        have hpo : ∀ v : World, Ds v (some ⟨pb, po, none⟩) 1 cap xs → v.rangeAt pb po (u8s (dat xs 0)) := fun v hv => hv.range 0 (by omega)
        clear hn' hW hn h1 h2 h3 e1 e2 hl
        go_enter Tryd.func76, Tryd.ntmps76
        go_wp2_with (refine step_box rfl rfl ?_)
        intro w1 g5 hr1 hl1 hb1
        have G5 := hide hr1
        clear hr1
        go_wp2_with (refine step_alloc zD rfl ?_)
        intro w2 g10 hr2 hl2 hb2
        have G10 := hide hr2
        have G52 := hide (G5.out.on hb2)
        have B2 := hide (hb1.trans (hb2.mono hb1.size))
        have hw10 : w.heap.size ≤ g10 := Nat.le_trans hb1.size hl2
        have h510 : g5 ≠ g10 := by have := G5.out.lt; omega
        clear hr2 hb1 hb2 G5
        go_wp2_with (refine step_alloc zD rfl ?_)
        intro w3 g11 hr3 hl3 hb3
        have G11 := hide hr3
        have G103 := hide (G10.out.on hb3)
        have G53 := hide (G52.out.on hb3)
        have h1011 : g10 ≠ g11 := by have := G10.out.lt; omega
        have h511 : g5 ≠ g11 := by have := G52.out.lt; omega
        have hw11 : w.heap.size ≤ g11 := Nat.le_trans B2.out.size hl3
        have B3 := hide (on_below B2.out hb3)
        clear hr3 hb3 G10 G52 B2
        go_wp2_with fail
        refine wp_region_noPanic ?_
        have hu := aD.und
        have HI1 : Hid ((Tryd.prog.info? 23).map (·.size) = some (u8s (dat xs 0)).length) := hide (by rw [wD.size, HDU.out])
        have U10 := hide (G103.out.on ((Below.refl _ _).drew))
        have U11 := hide (G11.out.on ((Below.refl _ _).drew))
        have UB := hide (B3.out.drew)
        refine wp_region_held_drew (S := fun v : World => v.rangeAt pb po (u8s (dat xs 0))) (by kernel_rfl) (hpo _ (HS.out.below UB.out)) (fun hHeld => ?_)
        refine takeH 0 25 (.slice (some ⟨pb, po, none⟩) 1 cap) hHeld rfl rfl (by kernel_rfl) (by kernel_rfl) (by kernel_rfl) (fun _ _ _ h => h) (Or.inl ⟨by rfl, fun w _ => by go_simp⟩) ?_
        simp only [Act.put, List.setIfInBounds_toArray, List.set_cons_zero, List.set_cons_succ]
        refine takeH 1 26 (.pointer (some ⟨pb, po, none⟩)) hHeld rfl rfl (by kernel_rfl) (by kernel_rfl) (by kernel_rfl) (fun _ _ _ h => h) (Or.inl ⟨by rfl, fun w _ => run_op rfl ((d_at pb po 1 cap 0 0 rfl (by omega)) w)⟩) ?_
        simp only [Act.put, List.setIfInBounds_toArray, List.set_cons_zero, List.set_cons_succ]
        refine takeH 2 27 (.agg (u8s (dat xs 0)).toArray) hHeld rfl rfl (by kernel_rfl) (by kernel_rfl) (by kernel_rfl) (fun _ _ _ h => h) (yieldsIf_load_mid (by rfl) _ _ rfl pb po rfl _ _ (fun w h => h) hu rfl HI1.out) ?_
        simp only [Act.put, List.setIfInBounds_toArray, List.set_cons_zero, List.set_cons_succ]
        refine takeH 3 28 (.slice (some ⟨pb, po, none⟩) 1 cap) hHeld rfl rfl (by kernel_rfl) (by kernel_rfl) (by kernel_rfl) (fun _ _ _ h => h) (Or.inl ⟨by rfl, fun w _ => by go_simp⟩) ?_
        simp only [Act.put, List.setIfInBounds_toArray, List.set_cons_zero, List.set_cons_succ]
        refine takeH 4 29 (.pointer (some ⟨pb, po, none⟩)) hHeld rfl rfl (by kernel_rfl) (by kernel_rfl) (by kernel_rfl) (fun _ _ _ h => h) (Or.inl ⟨by rfl, fun w _ => run_op rfl ((d_at pb po 1 cap 0 0 rfl (by omega)) w)⟩) ?_
        simp only [Act.put, List.setIfInBounds_toArray, List.set_cons_zero, List.set_cons_succ]
        refine takeH 5 30 (.agg (u8s (dat xs 0)).toArray) hHeld rfl rfl (by kernel_rfl) (by kernel_rfl) (by kernel_rfl) (fun _ _ _ h => h) (yieldsIf_load_mid (by rfl) _ _ rfl pb po rfl _ _ (fun w h => h) hu rfl HI1.out) ?_
        simp only [Act.put, List.setIfInBounds_toArray, List.set_cons_zero, List.set_cons_succ]
        refine wpAnyH_ready (rs := [6]) (by kernel_rfl) (by simp) (AllReadyH.cons rfl (fun K hK => ?_) AllReadyH.nil)
        rw [if_pos (by rfl)]
        refine wp_storeW wD rfl rfl rfl U10.out HDU.out (One.u8 _) (by rw [u8s_length, zer_length]; omega) ?_
        intro u1 hg1 hbut1
        rw [spl_same _ _ (zer_length 32) HDD.out] at hg1
        refine hK.out _ _ (hpo _ (HS.out.below (UB.out.trans (hbut1.below hw10)))) (fun hHeld => ?_)
        clear hK K
        simp only [Act.put]
        have GB1 := hide (U11.out.but hbut1 h1011.symm)
        refine wpAnyH_ready (rs := [7]) (by kernel_rfl) (by simp) (AllReadyH.cons rfl (fun K hK => ?_) AllReadyH.nil)
        rw [if_pos (by rfl)]
        refine wp_storeW wD rfl rfl rfl GB1.out HDU.out (One.u8 _) (by rw [u8s_length, zer_length]; omega) ?_
        intro u2 hg2 hbut2
        rw [spl_same _ _ (zer_length 32) HDD.out] at hg2
        refine hK.out _ _ (hpo _ (HS.out.below ((UB.out.trans (hbut1.below hw10)).trans (hbut2.below hw11)))) (fun hHeld => ?_)
        clear hK K
        simp only [Act.put]
        refine wpAnyH_done (by kernel_rfl) ?_ _
        refine NoPanic.normal ?_
        clear hHeld
        go_wp2
        refine bodyPost_ret (results_ww rfl wD wD _ _ rfl rfl (hg1.but hbut2 h1011) hg2 HDU.out HDU.out) rfl ⟨?_, (UB.out.trans (hbut1.below hw10)).trans (hbut2.below hw11)⟩
        rfl
    · have hn2 : 2 ≤ n := by omega
      have hn' : ¬ ((m : Int) - (b : Int) = (n : Int)) := by omega
      have hh := hf_bd n hn2 (by omega)
      have HH := hide (fun v => half7_any n v hn2 (by omega))
      by_cases hc : m - 1 < b + hf n
      · have hlen := hvM_few hm h1 (show m ≤ b + hf n by omega) (by omega)
        have hpt := ptM_le m b (hf n)
        obtain ⟨e1, e2⟩ := hvM_lo hm hn hn2 (by omega) h1 hc
        rw [e1, e2] at hl
        rw [e1, e2]
        have IH := hide (fun (l : Nat) (hl : l = (hvM m b (hf n)).length + ptM m b (hf n)) a cap xs w hd => ih.out b (hf n) l W a cap xs w (by omega) h1 (by omega) (by omega) hW hl hd)
        generalize hvM m b (hf n) = L at *
        generalize ptM m b (hf n) = T at *
        clear ih
        generalize hf n = k at *
        obtain ⟨q, hq⟩ : ∃ q, q = L.length + T := ⟨_, rfl⟩
        have hl1 : l = q + 1 := by rw [hl, List.length_append, hq]; simp; omega
        obtain ⟨pb, po, rfl⟩ := HS.out.place (by omega)
        have hstp := step_lo L xs (st0 T d xs) T
        rw [← hq] at hstp
        have hst0 := st0_take T L.length d xs
        rw [← hq] at hst0
        have hxl := HS.out.hlen
        replace IH := hide (fun w (hd : Ds w (some ⟨pb, po, none⟩) l cap xs) => IH.out q (by rw [hq]) (some ⟨pb, po, none⟩) cap (xs.take (32 * q)) w (Ds.take hd q (by omega)))
        rw [hst0] at IH
        have hat := d_at pb po l cap q ((l : Int) - 1) (by omega) (by omega)
        have hto := d_to pb po l cap q ((l : Int) - 1) (by omega) (by omega)
        have HUL := hide (show (u8s (dat xs q)).length = 32 by rw [u8s_length, dat_length HS.out.hlen (show q < l by omega)])
        have HXD := hide (dat_length HS.out.hlen (show q < l by omega))
        have HXB := hide (dat_isB HS.out.hbyte q)
        have hD0 := st0_length (t := T) hd hxl (show T ≤ l by omega)
        have hD1 := st0_isB (t := T) (xs := xs) hdb HS.out.hbyte
        generalize st0 T d xs = D0 at *
        have HOL := hide (fo_length (hs := L) (xs := (xs.take (32 * q)).drop (32 * T)) hD0 L.length)
        have HOB := hide (fo_isB (hs := L) (xs := (xs.take (32 * q)).drop (32 * T)) hD1 L.length)
        have HNL := hide (fu_length (hs := L) (xs := (xs.take (32 * q)).drop (32 * T)) hD0 L.length)
        have HNB := hide (fu_isB (hs := L) (xs := (xs.take (32 * q)).drop (32 * T)) hD1 L.length)
        have HLA : Hid ((L ++ [0]).length = L.length + 1) := hide (by simp)
        generalize fo L ((xs.take (32 * q)).drop (32 * T)) D0 L.length = Oq at *
        generalize fu L ((xs.take (32 * q)).drop (32 * T)) D0 L.length = Nq at *
        have HOU := hide (show (u8s Oq).length = 32 by rw [u8s_length, HOL.out])
        have HNU := hide (show (u8s Nq).length = 32 by rw [u8s_length, HNL.out])
        have HST := hide hstp
        have HL1 := hide hl1
        have hl2 : 1 ≤ l := by omega
        have hl9 : l ≤ 50 := by omega
        have hc' : (m : Int) - (b : Int) ≤ (k : Int) := by omega
        clear hl hq hl1 hstp hxl hst0 e1 e2 hW
        go_enter Tryd.func76, Tryd.ntmps76
        go_wp2_with (refine step_box rfl rfl ?_)
        intro w1 g5 hr1 hl1 hb1
        have G5 := hide hr1
        clear hr1
        go_wp2_with (refine step_alloc zD rfl ?_)
        intro w2 g10 hr2 hl2 hb2
        have G10 := hide hr2
        have G52 := hide (G5.out.on hb2)
        have B2 := hide (hb1.trans (hb2.mono hb1.size))
        have hw10 : w.heap.size ≤ g10 := Nat.le_trans hb1.size hl2
        have h510 : g5 ≠ g10 := by have := G5.out.lt; omega
        clear hr2 hb1 hb2 G5
        go_wp2_with (refine step_alloc zD rfl ?_)
        intro w3 g11 hr3 hl3 hb3
        have G11 := hide hr3
        have G103 := hide (G10.out.on hb3)
        have G53 := hide (G52.out.on hb3)
        have h1011 : g10 ≠ g11 := by have := G10.out.lt; omega
        have h511 : g5 ≠ g11 := by have := G52.out.lt; omega
        have hw11 : w.heap.size ≤ g11 := Nat.le_trans B2.out.size hl3
        have B3 := hide (on_below B2.out hb3)
        clear hr3 hb3 G10 G52 B2
        go_wp2_with fail
        refine (HH.out _).mono ?_
        rintro r w' ⟨rfl, rfl⟩
        have HRG := hide ((HS.out.below B3.out).range q (by have := HL1.out; omega))
        go_wp2_with (first | (refine step_loadR wD rfl rfl _ HRG.out HUL.out ?_) | (refine step_alloc zD rfl ?_))
        intro w4 g13 hr4 hl4 hb4
        have G13 := hide hr4
        clear hr4
        go_wp2_with (refine step_storeA wD rfl rfl rfl G13.out HUL.out (One.u8 _) rfl ?_)
        intro w5 hg5 hbut5
        have X5 := hide (hb4.trans (hbut5.below hl4))
        have P13 := hide hg5
        have P10 := hide (G103.out.on X5.out)
        have P11 := hide (G11.out.on X5.out)
        have P5 := hide (G53.out.on X5.out)
        have PB := hide (on_below B3.out X5.out)
        have h1310 : g13 ≠ g10 := by have := G103.out.lt; omega
        have h1311 : g13 ≠ g11 := by have := G11.out.lt; omega
        clear hg5 hbut5 hb4 G13 HRG G103 G11 G53 B3 X5 hat
        go_wp2_with (refine step_loadA wD rfl rfl P5.out HLL.out ?_)
        refine (IH.out _ (HS.out.below PB.out)).mono ?_
        rintro r w6 ⟨rfl, hb6⟩
        have Q13 := hide (P13.out.on hb6)
        have Q10 := hide (P10.out.on hb6)
        have Q11 := hide (P11.out.on hb6)
        have QB := hide (on_below PB.out hb6)
        clear hb6 P13 P10 P11 P5 PB
        go_wp2_with (refine step_alloc zD rfl ?_)
        intro w7 g15 hr7 hl7 hb7
        have G15 := hide hr7
        clear hr7
        go_wp2_with (refine step_alloc zD rfl ?_)
        intro w8 g16 hr8 hl8 hb8
        have h1516 : g15 ≠ g16 := by have := G15.out.lt; omega
        have G16 := hide hr8
        have G158 := hide (G15.out.on hb8)
        have X8 := hide (on_below hb7 hb8)
        have hl68 : w6.heap.size ≤ g16 := Nat.le_trans hb7.size hl8
        clear hr8 G15 hb7 hb8
        go_wp2_with (refine step_storeA wD rfl rfl rfl G158.out HOU.out (One.u8 _) rfl ?_)
        intro w9 hg9 hbut9
        have G159 := hide hg9
        have G169 := hide (G16.out.but hbut9 h1516.symm)
        have X9 := hide (X8.out.trans (hbut9.below hl7))
        clear hg9 hbut9 G158 G16 X8
        go_wp2_with (refine step_storeA wD rfl rfl rfl G169.out HNU.out (One.u8 _) rfl ?_)
        intro z0 hg0 hbut0
        have X0 := hide (X9.out.trans (hbut0.below hl68))
        have h10a : g10 ≠ g15 := by have := Q10.out.lt; omega
        have h10b : g10 ≠ g16 := by have := Q10.out.lt; omega
        have h11a : g11 ≠ g15 := by have := Q11.out.lt; omega
        have h11b : g11 ≠ g16 := by have := Q11.out.lt; omega
        have T15 := hide ((G159.out.but hbut0 h1516).on ((Below.refl _ _).drew))
        have T16 := hide ((show Blk z0 g16 23 (u8s Nq) from hg0).on ((Below.refl _ _).drew))
        have T13 := hide ((Q13.out.on X0.out).on ((Below.refl _ _).drew))
        have T10 := hide ((Q10.out.on X0.out).on ((Below.refl _ _).drew))
        have T11 := hide ((Q11.out.on X0.out).on ((Below.refl _ _).drew))
        have TB := hide ((on_below QB.out X0.out).drew)
        clear hg0 hbut0 G159 G169 X9 X0 Q13 Q10 Q11 QB hl7 hl8 hl68
        have hu := aD.und
        have HI1 : Hid ((Tryd.prog.info? 23).map (·.size) = some (u8s Oq).length) := hide (by rw [wD.size, HOU.out])
        have HI2 : Hid ((Tryd.prog.info? 23).map (·.size) = some (u8s Nq).length) := hide (by rw [wD.size, HNU.out])
        have HI3 : Hid ((Tryd.prog.info? 23).map (·.size) = some (u8s (dat xs q)).length) := hide (by rw [wD.size, HUL.out])
        have hS : ∀ v : World, Blk v g15 23 (u8s Oq) → Blk v g16 23 (u8s Nq) → Blk v g13 23 (u8s (dat xs q)) → v.rangeAt g15 0 (u8s Oq) ∧ v.rangeAt g16 0 (u8s Nq) ∧ v.rangeAt g13 0 (u8s (dat xs q)) := fun v h1 h2 h3 => ⟨h1.range 0 _ (by simp), h2.range 0 _ (by simp), h3.range 0 _ (by simp)⟩
        go_wp2_with fail
        refine wp_region_noPanic ?_
        refine wp_region_held_drew (S := fun v : World => v.rangeAt g15 0 (u8s Oq) ∧ v.rangeAt g16 0 (u8s Nq) ∧ v.rangeAt g13 0 (u8s (dat xs q))) (by kernel_rfl) (hS _ T15.out T16.out T13.out) (fun hHeld => ?_)
        refine takeH 0 56 (.agg (u8s Oq).toArray) hHeld rfl rfl (by kernel_rfl) (by kernel_rfl) (by kernel_rfl) (fun _ _ _ h => h) (yieldsIf_load_mid (by rfl) _ _ rfl g15 0 rfl _ _ (fun w h => h.1) hu rfl HI1.out) ?_
        simp only [Act.put, List.setIfInBounds_toArray, List.set_cons_zero, List.set_cons_succ]
        refine takeH 1 57 (.agg (u8s Nq).toArray) hHeld rfl rfl (by kernel_rfl) (by kernel_rfl) (by kernel_rfl) (fun _ _ _ h => h) (yieldsIf_load_mid (by rfl) _ _ rfl g16 0 rfl _ _ (fun w h => h.2.1) hu rfl HI2.out) ?_
        simp only [Act.put, List.setIfInBounds_toArray, List.set_cons_zero, List.set_cons_succ]
        refine takeH 2 58 (.agg (u8s (dat xs q)).toArray) hHeld rfl rfl (by kernel_rfl) (by kernel_rfl) (by kernel_rfl) (fun _ _ _ h => h) (yieldsIf_load_mid (by rfl) _ _ rfl g13 0 rfl _ _ (fun w h => h.2.2) hu rfl HI3.out) ?_
        simp only [Act.put, List.setIfInBounds_toArray, List.set_cons_zero, List.set_cons_succ]
        refine wpAnyH_ready (rs := [3]) (by kernel_rfl) (by simp) (AllReadyH.cons rfl (fun K hK => ?_) AllReadyH.nil)
        rw [if_pos (by rfl)]
        go_simp
        refine (nodeR_any Nq (dat xs q) _ HNL.out HNB.out HXD.out HXB.out).mono ?_
        rintro r v1 ⟨rfl, hv⟩
        have U15 := hide (T15.out.on hv)
        have U16 := hide (T16.out.on hv)
        have U13 := hide (T13.out.on hv)
        have U10 := hide (T10.out.on hv)
        have U11 := hide (T11.out.on hv)
        have UB := hide (on_below TB.out hv)
        clear hv T15 T16 T13 T10 T11 TB
        refine hK.out _ _ (hS _ U15.out U16.out U13.out) (fun hHeld => ?_)
        clear hK K
        have HNDU := hide (show (u8s (nd Nq (dat xs q))).length = 32 by rw [u8s_length, nd_length])
        refine wpAnyH_ready (rs := [4]) (by kernel_rfl) (by simp) (AllReadyH.cons rfl (fun K hK => ?_) AllReadyH.nil)
        rw [if_pos (by rfl)]
        refine wp_storeW wD rfl rfl rfl U10.out HOU.out (One.u8 _) (by rw [u8s_length, zer_length]; omega) ?_
        intro u1 hg1 hbut1
        rw [spl_same _ _ (zer_length 32) HOL.out] at hg1
        refine hK.out _ _ (hS _ (U15.out.but hbut1 h10a.symm) (U16.out.but hbut1 h10b.symm) (U13.out.but hbut1 h1310)) (fun hHeld => ?_)
        clear hK K
        simp only [Act.put]
        have GB1 := hide (U11.out.but hbut1 h1011.symm)
        refine wpAnyH_ready (rs := [5]) (by kernel_rfl) (by simp) (AllReadyH.cons rfl (fun K hK => ?_) AllReadyH.nil)
        rw [if_pos (by rfl)]
        refine wp_storeW wD rfl rfl rfl GB1.out HNDU.out (One.u8 _) (by rw [u8s_length, zer_length]; omega) ?_
        intro u2 hg2 hbut2
        rw [spl_same _ _ (zer_length 32) (nd_length _ _)] at hg2
        refine hK.out _ _ (hS _ ((U15.out.but hbut1 h10a.symm).but hbut2 h11a.symm) ((U16.out.but hbut1 h10b.symm).but hbut2 h11b.symm) ((U13.out.but hbut1 h1310).but hbut2 h1311)) (fun hHeld => ?_)
        clear hK K
        simp only [Act.put]
        refine wpAnyH_done (by kernel_rfl) ?_ _
        refine NoPanic.normal ?_
        clear hHeld
        go_wp2
        refine bodyPost_ret (results_ww rfl wD wD _ _ rfl rfl (hg1.but hbut2 h1011) hg2 HOU.out HNDU.out) rfl ⟨?_, (UB.out.trans (hbut1.below hw10)).trans (hbut2.below hw11)⟩
        rw [HLA.out, HST.out.1, HST.out.2]
      · have hlen := hvM_few hm (show b + hf n < m by omega) (show m ≤ b + hf n + (n - hf n) by omega) (by omega)
        have hpt := ptM_le m (b + hf n) (n - hf n)
        obtain ⟨e1, e2⟩ := hvM_hi hm hn hn2 (by omega) h2 h1 hc
        rw [e1, e2] at hl
        rw [e1, e2]
        have IH := hide (fun (l : Nat) (hl : l = (hvM m (b + hf n) (n - hf n)).length + ptM m (b + hf n) (n - hf n)) a cap xs w hd => ih.out (b + hf n) (n - hf n) l false a cap xs w (by omega) (by omega) (by omega) (by omega) (by simp; omega) hl hd)
        generalize hvM m (b + hf n) (n - hf n) = L at *
        generalize ptM m (b + hf n) (n - hf n) = T at *
        clear ih
        generalize hf n = k at *
        obtain ⟨q, hq⟩ : ∃ q, q = L.length + T := ⟨_, rfl⟩
        have hl1 : l = q + 1 := by rw [hl, List.length_append, hq]; simp; omega
        obtain ⟨pb, po, rfl⟩ := HS.out.place (by omega)
        have hstp := step_hi L xs (st0 T d xs) T
        rw [← hq] at hstp
        have hst0 := st0_take T L.length d xs
        rw [← hq] at hst0
        have hxl := HS.out.hlen
        replace IH := hide (fun w (hd : Ds w (some ⟨pb, po, none⟩) l cap xs) => IH.out q (by rw [hq]) (some ⟨pb, po, none⟩) cap (xs.take (32 * q)) w (Ds.take hd q (by omega)))
        rw [hst0] at IH
        have hat := d_at pb po l cap q ((l : Int) - 1) (by omega) (by omega)
        have hto := d_to pb po l cap q ((l : Int) - 1) (by omega) (by omega)
        have HUL := hide (show (u8s (dat xs q)).length = 32 by rw [u8s_length, dat_length HS.out.hlen (show q < l by omega)])
        have HXD := hide (dat_length HS.out.hlen (show q < l by omega))
        have HXB := hide (dat_isB HS.out.hbyte q)
        have hD0 := st0_length (t := T) hd hxl (show T ≤ l by omega)
        have hD1 := st0_isB (t := T) (xs := xs) hdb HS.out.hbyte
        generalize st0 T d xs = D0 at *
        have HOL := hide (fo_length (hs := L) (xs := (xs.take (32 * q)).drop (32 * T)) hD0 L.length)
        have HOB := hide (fo_isB (hs := L) (xs := (xs.take (32 * q)).drop (32 * T)) hD1 L.length)
        have HNL := hide (fu_length (hs := L) (xs := (xs.take (32 * q)).drop (32 * T)) hD0 L.length)
        have HNB := hide (fu_isB (hs := L) (xs := (xs.take (32 * q)).drop (32 * T)) hD1 L.length)
        have HLA : Hid ((L ++ [1]).length = L.length + 1) := hide (by simp)
        generalize fo L ((xs.take (32 * q)).drop (32 * T)) D0 L.length = Oq at *
        generalize fu L ((xs.take (32 * q)).drop (32 * T)) D0 L.length = Nq at *
        have HOU := hide (show (u8s Oq).length = 32 by rw [u8s_length, HOL.out])
        have HNU := hide (show (u8s Nq).length = 32 by rw [u8s_length, HNL.out])
        have HST := hide hstp
        have HL1 := hide hl1
        have hl2 : 1 ≤ l := by omega
        have hl9 : l ≤ 50 := by omega
        have hc' : ¬ (m : Int) - (b : Int) ≤ (k : Int) := by omega
        have e2 : ((n - k : Nat) : Int) = (n : Int) - (k : Int) := by omega
        have e3 : (m : Int) - ((b + k : Nat) : Int) = (m : Int) - (b : Int) - (k : Int) := by omega
        rw [e3, e2] at IH
        clear hl hq hl1 hstp hxl hst0 e1 e2 e3 hW
        go_enter Tryd.func76, Tryd.ntmps76
        go_wp2_with (refine step_box rfl rfl ?_)
        intro w1 g5 hr1 hl1 hb1
        have G5 := hide hr1
        clear hr1
        go_wp2_with (refine step_alloc zD rfl ?_)
        intro w2 g10 hr2 hl2 hb2
        have G10 := hide hr2
        have G52 := hide (G5.out.on hb2)
        have B2 := hide (hb1.trans (hb2.mono hb1.size))
        have hw10 : w.heap.size ≤ g10 := Nat.le_trans hb1.size hl2
        have h510 : g5 ≠ g10 := by have := G5.out.lt; omega
        clear hr2 hb1 hb2 G5
        go_wp2_with (refine step_alloc zD rfl ?_)
        intro w3 g11 hr3 hl3 hb3
        have G11 := hide hr3
        have G103 := hide (G10.out.on hb3)
        have G53 := hide (G52.out.on hb3)
        have h1011 : g10 ≠ g11 := by have := G10.out.lt; omega
        have h511 : g5 ≠ g11 := by have := G52.out.lt; omega
        have hw11 : w.heap.size ≤ g11 := Nat.le_trans B2.out.size hl3
        have B3 := hide (on_below B2.out hb3)
        clear hr3 hb3 G10 G52 B2
        go_wp2_with fail
        refine (HH.out _).mono ?_
        rintro r w' ⟨rfl, rfl⟩
        have HRG := hide ((HS.out.below B3.out).range q (by have := HL1.out; omega))
        go_wp2_with (first | (refine step_loadR wD rfl rfl _ HRG.out HUL.out ?_) | (refine step_alloc zD rfl ?_))
        intro w4 g13 hr4 hl4 hb4
        have G13 := hide hr4
        clear hr4
        go_wp2_with (refine step_storeA wD rfl rfl rfl G13.out HUL.out (One.u8 _) rfl ?_)
        intro w5 hg5 hbut5
        have X5 := hide (hb4.trans (hbut5.below hl4))
        have P13 := hide hg5
        have P10 := hide (G103.out.on X5.out)
        have P11 := hide (G11.out.on X5.out)
        have P5 := hide (G53.out.on X5.out)
        have PB := hide (on_below B3.out X5.out)
        have h1310 : g13 ≠ g10 := by have := G103.out.lt; omega
        have h1311 : g13 ≠ g11 := by have := G11.out.lt; omega
        clear hg5 hbut5 hb4 G13 HRG G103 G11 G53 B3 X5 hat
        go_wp2_with (refine step_loadA wD rfl rfl P5.out HLL.out ?_)
        refine (IH.out _ (HS.out.below PB.out)).mono ?_
        rintro r w6 ⟨rfl, hb6⟩
        have Q13 := hide (P13.out.on hb6)
        have Q10 := hide (P10.out.on hb6)
        have Q11 := hide (P11.out.on hb6)
        have QB := hide (on_below PB.out hb6)
        clear hb6 P13 P10 P11 P5 PB
        go_wp2_with (refine step_alloc zD rfl ?_)
        intro w7 g15 hr7 hl7 hb7
        have G15 := hide hr7
        clear hr7
        go_wp2_with (refine step_alloc zD rfl ?_)
        intro w8 g16 hr8 hl8 hb8
        have h1516 : g15 ≠ g16 := by have := G15.out.lt; omega
        have G16 := hide hr8
        have G158 := hide (G15.out.on hb8)
        have X8 := hide (on_below hb7 hb8)
        have hl68 : w6.heap.size ≤ g16 := Nat.le_trans hb7.size hl8
        clear hr8 G15 hb7 hb8
        go_wp2_with (refine step_storeA wD rfl rfl rfl G158.out HOU.out (One.u8 _) rfl ?_)
        intro w9 hg9 hbut9
        have G159 := hide hg9
        have G169 := hide (G16.out.but hbut9 h1516.symm)
        have X9 := hide (X8.out.trans (hbut9.below hl7))
        clear hg9 hbut9 G158 G16 X8
        go_wp2_with (refine step_storeA wD rfl rfl rfl G169.out HNU.out (One.u8 _) rfl ?_)
        intro z0 hg0 hbut0
        have X0 := hide (X9.out.trans (hbut0.below hl68))
        have h10a : g10 ≠ g15 := by have := Q10.out.lt; omega
        have h10b : g10 ≠ g16 := by have := Q10.out.lt; omega
        have h11a : g11 ≠ g15 := by have := Q11.out.lt; omega
        have h11b : g11 ≠ g16 := by have := Q11.out.lt; omega
        have T15 := hide ((G159.out.but hbut0 h1516).on ((Below.refl _ _).drew))
        have T16 := hide ((show Blk z0 g16 23 (u8s Nq) from hg0).on ((Below.refl _ _).drew))
        have T13 := hide ((Q13.out.on X0.out).on ((Below.refl _ _).drew))
        have T10 := hide ((Q10.out.on X0.out).on ((Below.refl _ _).drew))
        have T11 := hide ((Q11.out.on X0.out).on ((Below.refl _ _).drew))
        have TB := hide ((on_below QB.out X0.out).drew)
        clear hg0 hbut0 G159 G169 X9 X0 Q13 Q10 Q11 QB hl7 hl8 hl68
        have hu := aD.und
        have HI1 : Hid ((Tryd.prog.info? 23).map (·.size) = some (u8s Oq).length) := hide (by rw [wD.size, HOU.out])
        have HI2 : Hid ((Tryd.prog.info? 23).map (·.size) = some (u8s Nq).length) := hide (by rw [wD.size, HNU.out])
        have HI3 : Hid ((Tryd.prog.info? 23).map (·.size) = some (u8s (dat xs q)).length) := hide (by rw [wD.size, HUL.out])
        have hS : ∀ v : World, Blk v g15 23 (u8s Oq) → Blk v g16 23 (u8s Nq) → Blk v g13 23 (u8s (dat xs q)) → v.rangeAt g15 0 (u8s Oq) ∧ v.rangeAt g16 0 (u8s Nq) ∧ v.rangeAt g13 0 (u8s (dat xs q)) := fun v h1 h2 h3 => ⟨h1.range 0 _ (by simp), h2.range 0 _ (by simp), h3.range 0 _ (by simp)⟩
        go_wp2_with fail
        refine wp_region_noPanic ?_
        refine wp_region_held_drew (S := fun v : World => v.rangeAt g15 0 (u8s Oq) ∧ v.rangeAt g16 0 (u8s Nq) ∧ v.rangeAt g13 0 (u8s (dat xs q))) (by kernel_rfl) (hS _ T15.out T16.out T13.out) (fun hHeld => ?_)
        refine takeH 0 72 (.agg (u8s (dat xs q)).toArray) hHeld rfl rfl (by kernel_rfl) (by kernel_rfl) (by kernel_rfl) (fun _ _ _ h => h) (yieldsIf_load_mid (by rfl) _ _ rfl g13 0 rfl _ _ (fun w h => h.2.2) hu rfl HI3.out) ?_
        simp only [Act.put, List.setIfInBounds_toArray, List.set_cons_zero, List.set_cons_succ]
        refine takeH 1 73 (.agg (u8s Oq).toArray) hHeld rfl rfl (by kernel_rfl) (by kernel_rfl) (by kernel_rfl) (fun _ _ _ h => h) (yieldsIf_load_mid (by rfl) _ _ rfl g15 0 rfl _ _ (fun w h => h.1) hu rfl HI1.out) ?_
        simp only [Act.put, List.setIfInBounds_toArray, List.set_cons_zero, List.set_cons_succ]
        refine takeH 3 75 (.agg (u8s (dat xs q)).toArray) hHeld rfl rfl (by kernel_rfl) (by kernel_rfl) (by kernel_rfl) (fun _ _ _ h => h) (yieldsIf_load_mid (by rfl) _ _ rfl g13 0 rfl _ _ (fun w h => h.2.2) hu rfl HI3.out) ?_
        simp only [Act.put, List.setIfInBounds_toArray, List.set_cons_zero, List.set_cons_succ]
        refine takeH 4 76 (.agg (u8s Nq).toArray) hHeld rfl rfl (by kernel_rfl) (by kernel_rfl) (by kernel_rfl) (fun _ _ _ h => h) (yieldsIf_load_mid (by rfl) _ _ rfl g16 0 rfl _ _ (fun w h => h.2.1) hu rfl HI2.out) ?_
        simp only [Act.put, List.setIfInBounds_toArray, List.set_cons_zero, List.set_cons_succ]
        refine wpAnyH_ready (rs := [2]) (by kernel_rfl) (by simp) (AllReadyH.cons rfl (fun K hK => ?_) AllReadyH.nil)
        rw [if_pos (by rfl)]
        go_simp
        refine (nodeR_any (dat xs q) Oq _ HXD.out HXB.out HOL.out HOB.out).mono ?_
        rintro r v1 ⟨rfl, hv⟩
        have U15 := hide (T15.out.on hv)
        have U16 := hide (T16.out.on hv)
        have U13 := hide (T13.out.on hv)
        have U10 := hide (T10.out.on hv)
        have U11 := hide (T11.out.on hv)
        have UB := hide (on_below TB.out hv)
        clear hv T15 T16 T13 T10 T11 TB
        refine hK.out _ _ (hS _ U15.out U16.out U13.out) (fun hHeld => ?_)
        clear hK K
        refine wpAnyH_ready (rs := [5]) (by kernel_rfl) (by simp) (AllReadyH.cons rfl (fun K hK => ?_) AllReadyH.nil)
        rw [if_pos (by rfl)]
        go_simp
        refine (nodeR_any (dat xs q) Nq _ HXD.out HXB.out HNL.out HNB.out).mono ?_
        rintro r v2 ⟨rfl, hv⟩
        have Z15 := hide (U15.out.on hv)
        have Z16 := hide (U16.out.on hv)
        have Z13 := hide (U13.out.on hv)
        have Z10 := hide (U10.out.on hv)
        have Z11 := hide (U11.out.on hv)
        have ZB := hide (on_below UB.out hv)
        clear hv U15 U16 U13 U10 U11 UB
        refine hK.out _ _ (hS _ Z15.out Z16.out Z13.out) (fun hHeld => ?_)
        clear hK K
        have HND1 := hide (show (u8s (nd (dat xs q) Oq)).length = 32 by rw [u8s_length, nd_length])
        have HND2 := hide (show (u8s (nd (dat xs q) Nq)).length = 32 by rw [u8s_length, nd_length])
        refine wpAnyH_ready (rs := [6]) (by kernel_rfl) (by simp) (AllReadyH.cons rfl (fun K hK => ?_) AllReadyH.nil)
        rw [if_pos (by rfl)]
        refine wp_storeW wD rfl rfl rfl Z10.out HND1.out (One.u8 _) (by rw [u8s_length, zer_length]; omega) ?_
        intro u1 hg1 hbut1
        rw [spl_same _ _ (zer_length 32) (nd_length _ _)] at hg1
        refine hK.out _ _ (hS _ (Z15.out.but hbut1 h10a.symm) (Z16.out.but hbut1 h10b.symm) (Z13.out.but hbut1 h1310)) (fun hHeld => ?_)
        clear hK K
        simp only [Act.put]
        have GB1 := hide (Z11.out.but hbut1 h1011.symm)
        refine wpAnyH_ready (rs := [7]) (by kernel_rfl) (by simp) (AllReadyH.cons rfl (fun K hK => ?_) AllReadyH.nil)
        rw [if_pos (by rfl)]
        refine wp_storeW wD rfl rfl rfl GB1.out HND2.out (One.u8 _) (by rw [u8s_length, zer_length]; omega) ?_
        intro u2 hg2 hbut2
        rw [spl_same _ _ (zer_length 32) (nd_length _ _)] at hg2
        refine hK.out _ _ (hS _ ((Z15.out.but hbut1 h10a.symm).but hbut2 h11a.symm) ((Z16.out.but hbut1 h10b.symm).but hbut2 h11b.symm) ((Z13.out.but hbut1 h1310).but hbut2 h1311)) (fun hHeld => ?_)
        clear hK K
        simp only [Act.put]
        refine wpAnyH_done (by kernel_rfl) ?_ _
        refine NoPanic.normal ?_
        clear hHeld
        go_wp2
        refine bodyPost_ret (results_ww rfl wD wD _ _ rfl rfl (hg1.but hbut2 h1011) hg2 HND1.out HND2.out) rfl ⟨?_, (ZB.out.trans (hbut1.below hw10)).trans (hbut2.below hw11)⟩
        rw [HLA.out, HST.out.1, HST.out.2]

end Go.Proofs.YtconeobaohmbnaaDoor

/-
  The document's Roots; what both tell; Consistency of both.
-/
namespace Go.Proofs.YtconeobaohmbnaaDoor
open Go.RowKit
set_option linter.unusedVariables false

set_option maxRecDepth 100000 in
set_option maxHeartbeats 1000000 in
theorem rootsR7_bad (d : List Int) (m n : Int) (a : Value) (w : World) (h : m < 1 ∨ n < m ∨ 281474976710656 < n) :
    Calls Tryd.prog 50 #[.agg (u8s d).toArray, .int .i64 m, .int .i64 n, a] w fun r w' => r = .returned (.tuple #[.agg (u8s (zer 32)).toArray, .agg (u8s (zer 32)).toArray, .int .i64 40]) ∧ Below w.heap.size w w' := by
  have H := hide (fun v => stepsR_bad m n v h)
  clear h
  go_enter Tryd.func50, Tryd.ntmps50
  go_wp2_with (refine step_box rfl rfl ?_)
  intro w1 g4 hr1 hl1 hb1
  have G4 := hide hr1
  clear hr1
  go_wp2_with (refine step_alloc zD rfl ?_)
  intro w2 g8 hr2 hl2 hb2
  have G8 := hide hr2
  have G42 := hide (G4.out.on hb2)
  have B2 := hide (hb1.trans (hb2.mono hb1.size))
  have hw8 : w.heap.size ≤ g8 := Nat.le_trans hb1.size hl2
  clear hr2 hb1 hb2 G4
  go_wp2_with (refine step_alloc zD rfl ?_)
  intro w3 g9 hr3 hl3 hb3
  have G9 := hide hr3
  have G83 := hide (G8.out.on hb3)
  have G43 := hide (G42.out.on hb3)
  have h89 : g8 ≠ g9 := by have := G8.out.lt; omega
  have hw9 : w.heap.size ≤ g9 := Nat.le_trans B2.out.size hl3
  have B3 := hide (on_below B2.out hb3)
  clear hr3 hb3 G8 G42 B2
  go_wp2_with fail
  refine (H.out _).mono ?_
  rintro r w4 ⟨rfl, rfl⟩
  go_wp2_with (first | (refine step_buildD rfl ?_) | (refine step_storeA wD rfl rfl rfl G83.out (by rw [u8s_length, zer_length]) (One.u8 _) rfl ?_))
  intro w5 hg5 hbut5
  have E8 := hide hg5
  have E9 := hide (G9.out.but hbut5 (Ne.symm h89))
  have EB := hide (B3.out.trans (hbut5.below hw8))
  clear hg5 hbut5
  go_wp2_with (refine step_storeA wD rfl rfl rfl E9.out (by rw [u8s_length, zer_length]) (One.u8 _) rfl ?_; intro w6 hg6 hbut6)
  refine bodyPost_ret (results_wwt rfl wD wD _ _ rfl rfl (E8.out.but hbut6 h89) hg6 (by rw [u8s_length, zer_length]) (by rw [u8s_length, zer_length])) rfl ⟨rfl, ?_⟩
  exact EB.out.trans (hbut6.below hw9)
set_option maxRecDepth 100000 in
set_option maxHeartbeats 1000000 in
theorem rootsR7_len (d : List Int) (m n : Nat) (a : Option Addr) (l cap : Nat) (w : World) (h0 : 1 ≤ m) (h1 : m ≤ n) (h2 : n ≤ 281474976710656) (hl : l ≠ (hvM m 0 n).length + ptM m 0 n) :
    Calls Tryd.prog 50 #[.agg (u8s d).toArray, .int .i64 (m : Int), .int .i64 (n : Int), .slice a l cap] w fun r w' => r = .returned (.tuple #[.agg (u8s (zer 32)).toArray, .agg (u8s (zer 32)).toArray, .int .i64 70]) ∧ Below w.heap.size w w' := by
  have H := hide (fun v => stepsR_ok m n v h0 h1 h2)
  have hl' : ((l : Int) != (((hvM m 0 n).length + ptM m 0 n : Nat) : Int)) = true := by simp; omega
  generalize (hvM m 0 n).length + ptM m 0 n = L at *
  clear hl
  go_enter Tryd.func50, Tryd.ntmps50
  go_wp2_with (refine step_box rfl rfl ?_)
  intro w1 g4 hr1 hl1 hb1
  have G4 := hide hr1
  clear hr1
  go_wp2_with (refine step_alloc zD rfl ?_)
  intro w2 g8 hr2 hl2 hb2
  have G8 := hide hr2
  have G42 := hide (G4.out.on hb2)
  have B2 := hide (hb1.trans (hb2.mono hb1.size))
  have hw8 : w.heap.size ≤ g8 := Nat.le_trans hb1.size hl2
  clear hr2 hb1 hb2 G4
  go_wp2_with (refine step_alloc zD rfl ?_)
  intro w3 g9 hr3 hl3 hb3
  have G9 := hide hr3
  have G83 := hide (G8.out.on hb3)
  have G43 := hide (G42.out.on hb3)
  have h89 : g8 ≠ g9 := by have := G8.out.lt; omega
  have hw9 : w.heap.size ≤ g9 := Nat.le_trans B2.out.size hl3
  have B3 := hide (on_below B2.out hb3)
  clear hr3 hb3 G8 G42 B2
  go_wp2_with fail
  refine (H.out _).mono ?_
  rintro r w4 ⟨rfl, rfl⟩
  go_wp2_with (first | (refine step_buildD rfl ?_) | (refine step_storeA wD rfl rfl rfl G83.out (by rw [u8s_length, zer_length]) (One.u8 _) rfl ?_))
  intro w5 hg5 hbut5
  have E8 := hide hg5
  have E9 := hide (G9.out.but hbut5 (Ne.symm h89))
  have EB := hide (B3.out.trans (hbut5.below hw8))
  clear hg5 hbut5
  go_wp2_with (refine step_storeA wD rfl rfl rfl E9.out (by rw [u8s_length, zer_length]) (One.u8 _) rfl ?_; intro w6 hg6 hbut6)
  refine bodyPost_ret (results_wwt rfl wD wD _ _ rfl rfl (E8.out.but hbut6 h89) hg6 (by rw [u8s_length, zer_length]) (by rw [u8s_length, zer_length])) rfl ⟨rfl, ?_⟩
  exact EB.out.trans (hbut6.below hw9)
set_option maxRecDepth 100000 in
set_option maxHeartbeats 2000000 in
theorem rootsR7_ok (d : List Int) (m n : Nat) (a : Option Addr) (l cap : Nat) (xs : List Int) (w : World) (h0 : 1 ≤ m) (h1 : m ≤ n) (h2 : n ≤ 281474976710656) (hl : l = (hvM m 0 n).length + ptM m 0 n) (hd : d.length = 32) (hdb : isB d) (hs : Ds w a l cap xs) :
    Calls Tryd.prog 50 #[.agg (u8s d).toArray, .int .i64 (m : Int), .int .i64 (n : Int), .slice a l cap] w fun r w' => r = .returned (.tuple #[.agg (u8s (fo (hvM m 0 n) (xs.drop (32 * ptM m 0 n)) (st0 (ptM m 0 n) d xs) (hvM m 0 n).length)).toArray, .agg (u8s (fu (hvM m 0 n) (xs.drop (32 * ptM m 0 n)) (st0 (ptM m 0 n) d xs) (hvM m 0 n).length)).toArray, .int .i64 0]) ∧ Below w.heap.size w w' := by
  have H := hide (fun v => stepsR_ok m n v h0 h1 h2)
  rw [← hl] at H
  have HU : Hid (∀ v : World, Ds v a l cap xs → Calls Tryd.prog 76 #[.agg (u8s d).toArray, .int .i64 (m : Int), .int .i64 (n : Int), .slice a l cap, .bool true] v fun r w' => r = .returned (.tuple #[.agg (u8s (fo (hvM m 0 n) (xs.drop (32 * ptM m 0 n)) (st0 (ptM m 0 n) d xs) (hvM m 0 n).length)).toArray, .agg (u8s (fu (hvM m 0 n) (xs.drop (32 * ptM m 0 n)) (st0 (ptM m 0 n) d xs) (hvM m 0 n).length)).toArray]) ∧ Below v.heap.size v w') := hide fun v hv => by
    have := twoR_any d m h0 hd hdb n 0 n l true a cap xs v (Nat.le_refl _) (by omega) (by omega) (by omega) (by decide) hl hv
    rwa [show (m : Int) - ((0 : Nat) : Int) = (m : Int) by omega] at this
  have HS := hide hs
  have HLL := hide (show (u8s d).length = 32 by rw [u8s_length, hd])
  have hTl : ptM m 0 n ≤ l := by omega
  have HXL := hide (fo_length (hs := hvM m 0 n) (xs := xs.drop (32 * ptM m 0 n)) (st0_length (t := ptM m 0 n) hd hs.hlen hTl) (hvM m 0 n).length)
  have HYL := hide (fu_length (hs := hvM m 0 n) (xs := xs.drop (32 * ptM m 0 n)) (st0_length (t := ptM m 0 n) hd hs.hlen hTl) (hvM m 0 n).length)
  generalize fo (hvM m 0 n) (xs.drop (32 * ptM m 0 n)) (st0 (ptM m 0 n) d xs) (hvM m 0 n).length = X at *
  generalize fu (hvM m 0 n) (xs.drop (32 * ptM m 0 n)) (st0 (ptM m 0 n) d xs) (hvM m 0 n).length = Y at *
  have HXU := hide (show (u8s X).length = 32 by rw [u8s_length, HXL.out])
  have HYU := hide (show (u8s Y).length = 32 by rw [u8s_length, HYL.out])
  clear hl hs hTl
  go_enter Tryd.func50, Tryd.ntmps50
  go_wp2_with (refine step_box rfl rfl ?_)
  intro w1 g4 hr1 hl1 hb1
  have G4 := hide hr1
  clear hr1
  go_wp2_with (refine step_alloc zD rfl ?_)
  intro w2 g8 hr2 hl2 hb2
  have G8 := hide hr2
  have G42 := hide (G4.out.on hb2)
  have B2 := hide (hb1.trans (hb2.mono hb1.size))
  have hw8 : w.heap.size ≤ g8 := Nat.le_trans hb1.size hl2
  clear hr2 hb1 hb2 G4
  go_wp2_with (refine step_alloc zD rfl ?_)
  intro w3 g9 hr3 hl3 hb3
  have G9 := hide hr3
  have G83 := hide (G8.out.on hb3)
  have G43 := hide (G42.out.on hb3)
  have h89 : g8 ≠ g9 := by have := G8.out.lt; omega
  have hw9 : w.heap.size ≤ g9 := Nat.le_trans B2.out.size hl3
  have B3 := hide (on_below B2.out hb3)
  clear hr3 hb3 G8 G42 B2
  go_wp2_with fail
  refine (H.out _).mono ?_
  rintro r w4 ⟨rfl, rfl⟩
  go_wp2_with (refine step_loadA wD rfl rfl G43.out HLL.out ?_)
  refine (HU.out _ (HS.out.below B3.out)).mono ?_
  rintro r w6 ⟨rfl, hb6⟩
  have Q8 := hide (G83.out.on hb6)
  have Q9 := hide (G9.out.on hb6)
  have QB := hide (on_below B3.out hb6)
  clear hb6 G83 G9 G43 B3
  go_wp2_with (refine step_alloc zD rfl ?_)
  intro w7 g13 hr7 hl7 hb7
  have G13 := hide hr7
  clear hr7
  go_wp2_with (refine step_alloc zD rfl ?_)
  intro w8 g14 hr8 hl8 hb8
  have h1314 : g13 ≠ g14 := by have := G13.out.lt; omega
  have G14 := hide hr8
  have G138 := hide (G13.out.on hb8)
  have X8 := hide (on_below hb7 hb8)
  have hl68 : w6.heap.size ≤ g14 := Nat.le_trans hb7.size hl8
  clear hr8 G13 hb7 hb8
  go_wp2_with (refine step_storeA wD rfl rfl rfl G138.out HXU.out (One.u8 _) rfl ?_)
  intro w9 hg9 hbut9
  have G139 := hide hg9
  have G149 := hide (G14.out.but hbut9 h1314.symm)
  have X9 := hide (X8.out.trans (hbut9.below hl7))
  clear hg9 hbut9 G138 G14 X8
  go_wp2_with (refine step_storeA wD rfl rfl rfl G149.out HYU.out (One.u8 _) rfl ?_)
  intro z0 hg0 hbut0
  have X0 := hide (X9.out.trans (hbut0.below hl68))
  have h8a : g8 ≠ g13 := by have := Q8.out.lt; omega
  have h8b : g8 ≠ g14 := by have := Q8.out.lt; omega
  have h9a : g9 ≠ g13 := by have := Q9.out.lt; omega
  have h9b : g9 ≠ g14 := by have := Q9.out.lt; omega
  have T13 := hide ((G139.out.but hbut0 h1314).on ((Below.refl _ _).drew))
  have T14 := hide ((show Blk z0 g14 23 (u8s Y) from hg0).on ((Below.refl _ _).drew))
  have T8 := hide ((Q8.out.on X0.out).on ((Below.refl _ _).drew))
  have T9 := hide ((Q9.out.on X0.out).on ((Below.refl _ _).drew))
  have TB := hide ((on_below QB.out X0.out).drew)
  clear hg0 hbut0 G139 G149 X9 X0 Q8 Q9 QB hl7 hl8 hl68
  have hu := aD.und
  have HI1 : Hid ((Tryd.prog.info? 23).map (·.size) = some (u8s X).length) := hide (by rw [wD.size, HXU.out])
  have HI2 : Hid ((Tryd.prog.info? 23).map (·.size) = some (u8s Y).length) := hide (by rw [wD.size, HYU.out])
  have hS : ∀ v : World, Blk v g13 23 (u8s X) → Blk v g14 23 (u8s Y) → v.rangeAt g13 0 (u8s X) ∧ v.rangeAt g14 0 (u8s Y) := fun v h1 h2 => ⟨h1.range 0 _ (by simp), h2.range 0 _ (by simp)⟩
  go_wp2_with fail
  refine wp_region_noPanic ?_
  refine wp_region_held_drew (S := fun v : World => v.rangeAt g13 0 (u8s X) ∧ v.rangeAt g14 0 (u8s Y)) (by kernel_rfl) (hS _ T13.out T14.out) (fun hHeld => ?_)
  refine takeH 0 40 (.agg (u8s X).toArray) hHeld rfl rfl (by kernel_rfl) (by kernel_rfl) (by kernel_rfl) (fun _ _ _ h => h) (yieldsIf_load_mid (by rfl) _ _ rfl g13 0 rfl _ _ (fun w h => h.1) hu rfl HI1.out) ?_
  simp only [Act.put, List.setIfInBounds_toArray, List.set_cons_zero, List.set_cons_succ]
  refine takeH 1 41 (.agg (u8s Y).toArray) hHeld rfl rfl (by kernel_rfl) (by kernel_rfl) (by kernel_rfl) (fun _ _ _ h => h) (yieldsIf_load_mid (by rfl) _ _ rfl g14 0 rfl _ _ (fun w h => h.2) hu rfl HI2.out) ?_
  simp only [Act.put, List.setIfInBounds_toArray, List.set_cons_zero, List.set_cons_succ]
  refine wpAnyH_ready (rs := [2]) (by kernel_rfl) (by simp) (AllReadyH.cons rfl (fun K hK => ?_) AllReadyH.nil)
  rw [if_pos (by rfl)]
  refine wp_storeW wD rfl rfl rfl T8.out HXU.out (One.u8 _) (by rw [u8s_length, zer_length]; omega) ?_
  intro u1 hg1 hbut1
  rw [spl_same _ _ (zer_length 32) HXL.out] at hg1
  have T131 := hide (T13.out.but hbut1 h8a.symm)
  have T141 := hide (T14.out.but hbut1 h8b.symm)
  have T91 := hide (T9.out.but hbut1 h89.symm)
  refine hK.out _ _ (hS _ T131.out T141.out) (fun hHeld => ?_)
  clear hK K
  simp only [Act.put]
  refine wpAnyH_ready (rs := [3]) (by kernel_rfl) (by simp) (AllReadyH.cons rfl (fun K hK => ?_) AllReadyH.nil)
  rw [if_pos (by rfl)]
  refine wp_storeW wD rfl rfl rfl T91.out HYU.out (One.u8 _) (by rw [u8s_length, zer_length]; omega) ?_
  intro u2 hg2 hbut2
  rw [spl_same _ _ (zer_length 32) HYL.out] at hg2
  refine hK.out _ _ (hS _ (T131.out.but hbut2 h9a.symm) (T141.out.but hbut2 h9b.symm)) (fun hHeld => ?_)
  clear hK K
  simp only [Act.put]
  refine takeH 4 10 (.int .i64 0) hHeld rfl rfl (by kernel_rfl) (by kernel_rfl) (by kernel_rfl) (fun _ _ _ h => h) (Or.inl ⟨by rfl, fun w _ => by go_simp⟩) ?_
  simp only [Act.put, List.setIfInBounds_toArray]
  refine wpAnyH_done (by kernel_rfl) ?_ _
  refine NoPanic.normal ?_
  clear hHeld hS hu
  go_wp2
  refine bodyPost_ret (results_wwt rfl wD wD _ _ rfl rfl (hg1.but hbut2 h89) hg2 HXU.out HYU.out) rfl ⟨rfl, (TB.out.trans (hbut1.below hw8)).trans (hbut2.below hw9)⟩

/-- What Roots tells, program and document. -/
structure RT (d : List Int) (m n : Int) (l : Nat) (xs X Y : List Int) (E : Int) : Prop where
  lx : X.length = 32
  bx : isB X
  ly : Y.length = 32
  by' : isB Y
  prog : ∀ (a : Option Addr) (cap : Nat) (w : World), Ds w a l cap xs → KT w → Calls Tryd.prog 49 #[.agg (u8s d).toArray, .int .i64 m, .int .i64 n, .slice a l cap] w fun r w' => r = .returned (.tuple #[.agg (u8s X).toArray, .agg (u8s Y).toArray, .int .i64 E]) ∧ Below w.heap.size w w'
  doc : ∀ (a : Option Addr) (cap : Nat) (w : World), Ds w a l cap xs → Calls Tryd.prog 50 #[.agg (u8s d).toArray, .int .i64 m, .int .i64 n, .slice a l cap] w fun r w' => r = .returned (.tuple #[.agg (u8s X).toArray, .agg (u8s Y).toArray, .int .i64 E]) ∧ Below w.heap.size w w'
theorem roots_both (d : List Int) (m n : Int) (l : Nat) (xs : List Int) (hd : d.length = 32) (hdb : isB d) (hx : xs.length = 32 * l) (hxb : isB xs) : ∃ X Y E, RT d m n l xs X Y E := by
  by_cases h : m < 1 ∨ n < m ∨ 281474976710656 < n
  · exact ⟨zer 32, zer 32, 40, zer_length 32, zer_isB32, zer_length 32, zer_isB32, fun a cap w _ _ => roots7_bad d m n _ w h, fun a cap w _ => rootsR7_bad d m n _ w h⟩
  · obtain ⟨m', rfl⟩ : ∃ i' : Nat, m = (i' : Int) := ⟨m.toNat, by omega⟩
    obtain ⟨n', rfl⟩ : ∃ n' : Nat, n = (n' : Int) := ⟨n.toNat, by omega⟩
    by_cases hl : l = (hvM m' 0 n').length + ptM m' 0 n'
    · have h1 := st0_length (t := ptM m' 0 n') hd hx (by omega)
      have h2 := st0_isB (t := ptM m' 0 n') hdb hxb
      exact ⟨_, _, 0, fo_length h1 _, fo_isB h2 _, fu_length h1 _, fu_isB h2 _, fun a cap w hs hk => roots7_ok d m' n' a l cap xs w (by omega) (by omega) (by omega) hl hd hdb hs hk, fun a cap w hs => rootsR7_ok d m' n' a l cap xs w (by omega) (by omega) (by omega) hl hd hdb hs⟩
    · exact ⟨zer 32, zer 32, 70, zer_length 32, zer_isB32, zer_length 32, zer_isB32, fun a cap w _ _ => roots7_len d m' n' a l cap w (by omega) (by omega) (by omega) hl, fun a cap w _ => rootsR7_len d m' n' a l cap w (by omega) (by omega) (by omega) hl⟩

end Go.Proofs.YtconeobaohmbnaaDoor

/-
  Consistency of both.
-/
namespace Go.Proofs.YtconeobaohmbnaaDoor
open Go.RowKit
set_option linter.unusedVariables false

/-- What Consistency tells. -/
def csR (X Y o n : List Int) (E : Int) : Int := if E = 0 then (if X = o ∧ Y = n then 0 else 71) else E
set_option maxRecDepth 100000 in
set_option maxHeartbeats 2000000 in
theorem cons7_any (o nw : List Int) (m n : Int) (a : Option Addr) (l cap : Nat) (xs X Y : List Int) (E : Int) (w : World) (hB : RT o m n l xs X Y E) (hol : o.length = 32) (hnl : nw.length = 32) (hs : Ds w a l cap xs) (hk : KT w) :
    Calls Tryd.prog 24 #[.int .i64 m, .int .i64 n, .agg (u8s o).toArray, .agg (u8s nw).toArray, .slice a l cap] w fun r w' => r = .returned (.int .i64 (csR X Y o nw E)) ∧ Below w.heap.size w w' := by
  have HK := hide hk
  have HB := hide hB
  have HS := hide hs
  have HXL := hide hB.lx
  have HYL := hide hB.ly
  have HOL := hide hol
  have HNL := hide hnl
  have HXU := hide (show (u8s X).length = 32 by rw [u8s_length, hB.lx])
  have HYU := hide (show (u8s Y).length = 32 by rw [u8s_length, hB.ly])
  have HOU := hide (show (u8s o).length = 32 by rw [u8s_length, hol])
  have HNU := hide (show (u8s nw).length = 32 by rw [u8s_length, hnl])
  clear hk hs hol hnl hB
  by_cases hE : E = 0
  · subst hE
    by_cases h1 : X = o
    · have HX : Hid ((!decide (X = o)) = false) := hide (by simp [h1])
      by_cases h2 : Y = nw
      · have HY : Hid ((!decide (Y = nw)) = false) := hide (by simp [h2])
        rw [show csR X Y o nw 0 = 0 by unfold csR; rw [if_pos rfl, if_pos ⟨h1, h2⟩]]
        clear h1 h2
        go_enter Tryd.func24, Tryd.ntmps24
        go_wp2_with (refine step_box rfl rfl ?_)
        intro w1 g7 hr1 hl1 hb1
        have G7 := hide hr1
        clear hr1
        go_wp2_with (refine step_box rfl rfl ?_)
        intro w2 g8 hr2 hl2 hb2
        have G8 := hide hr2
        have G72 := hide (G7.out.on hb2)
        have B2 := hide (on_below hb1 hb2)
        clear hr2 hb1 hb2 G7
        go_wp2_with (refine step_loadA wD rfl rfl G72.out HOU.out ?_)
        refine (HB.out.prog a cap _ (HS.out.below B2.out) (HK.out.below B2.out HK.out.lt)).mono ?_
        rintro r w3 ⟨rfl, hb3⟩
        have G83 := hide (G8.out.on hb3)
        have G73 := hide (G72.out.on hb3)
        have B3 := hide (on_below B2.out hb3)
        clear hb3 G72 G8 B2
        go_wp2_with (refine step_alloc zD rfl ?_)
        intro w4 g11 hr4 hl4 hb4
        have G11 := hide hr4
        clear hr4
        go_wp2_with (refine step_alloc zD rfl ?_)
        intro w5 g12 hr5 hl5 hb5
        have h1112 : g11 ≠ g12 := by have := G11.out.lt; omega
        have G12 := hide hr5
        have G115 := hide (G11.out.on hb5)
        have X5 := hide (on_below hb4 hb5)
        have hl35 : w3.heap.size ≤ g12 := Nat.le_trans hb4.size hl5
        clear hr5 hb4 hb5 G11
        go_wp2_with (refine step_storeA wD rfl rfl rfl G115.out HXU.out (One.u8 _) rfl ?_)
        intro w6 hg6 hbut6
        have G116 := hide hg6
        have G126 := hide (G12.out.but hbut6 h1112.symm)
        have X6 := hide (X5.out.trans (hbut6.below hl4))
        clear hg6 hbut6 G115 G12 X5
        go_wp2_with (refine step_storeA wD rfl rfl rfl G126.out HYU.out (One.u8 _) rfl ?_)
        intro w9 hg9 hbut9
        have X9 := hide (X6.out.trans (hbut9.below hl35))
        have GX := hide (G116.out.but hbut9 h1112)
        have GY := hide hg9
        have GO := hide (G73.out.on X9.out)
        have GN := hide (G83.out.on X9.out)
        have B9 := hide (on_below B3.out X9.out)
        clear hg9 hbut9 X9 X6 G116 G126 G73 G83 B3
        go_wp2_with (first | (refine step_loadA wD rfl rfl GX.out HXU.out ?_) | (refine step_loadA wD rfl rfl GO.out HOU.out ?_) | (refine step_loadA wD rfl rfl GY.out HYU.out ?_) | (refine step_loadA wD rfl rfl GN.out HNU.out ?_) | (refine step_neQ aD _ HX.out rfl rfl rfl HXL.out HOL.out ?_) | (refine step_neQ aD _ HY.out rfl rfl rfl HYL.out HNL.out ?_))
        go_ret
        exact ⟨rfl, B9.out⟩
      · have HY : Hid ((!decide (Y = nw)) = true) := hide (by simp [h2])
        rw [show csR X Y o nw 0 = 71 by unfold csR; rw [if_pos rfl, if_neg (fun h => h2 h.2)]]
        clear h1 h2
        go_enter Tryd.func24, Tryd.ntmps24
        go_wp2_with (refine step_box rfl rfl ?_)
        intro w1 g7 hr1 hl1 hb1
        have G7 := hide hr1
        clear hr1
        go_wp2_with (refine step_box rfl rfl ?_)
        intro w2 g8 hr2 hl2 hb2
        have G8 := hide hr2
        have G72 := hide (G7.out.on hb2)
        have B2 := hide (on_below hb1 hb2)
        clear hr2 hb1 hb2 G7
        go_wp2_with (refine step_loadA wD rfl rfl G72.out HOU.out ?_)
        refine (HB.out.prog a cap _ (HS.out.below B2.out) (HK.out.below B2.out HK.out.lt)).mono ?_
        rintro r w3 ⟨rfl, hb3⟩
        have G83 := hide (G8.out.on hb3)
        have G73 := hide (G72.out.on hb3)
        have B3 := hide (on_below B2.out hb3)
        clear hb3 G72 G8 B2
        go_wp2_with (refine step_alloc zD rfl ?_)
        intro w4 g11 hr4 hl4 hb4
        have G11 := hide hr4
        clear hr4
        go_wp2_with (refine step_alloc zD rfl ?_)
        intro w5 g12 hr5 hl5 hb5
        have h1112 : g11 ≠ g12 := by have := G11.out.lt; omega
        have G12 := hide hr5
        have G115 := hide (G11.out.on hb5)
        have X5 := hide (on_below hb4 hb5)
        have hl35 : w3.heap.size ≤ g12 := Nat.le_trans hb4.size hl5
        clear hr5 hb4 hb5 G11
        go_wp2_with (refine step_storeA wD rfl rfl rfl G115.out HXU.out (One.u8 _) rfl ?_)
        intro w6 hg6 hbut6
        have G116 := hide hg6
        have G126 := hide (G12.out.but hbut6 h1112.symm)
        have X6 := hide (X5.out.trans (hbut6.below hl4))
        clear hg6 hbut6 G115 G12 X5
        go_wp2_with (refine step_storeA wD rfl rfl rfl G126.out HYU.out (One.u8 _) rfl ?_)
        intro w9 hg9 hbut9
        have X9 := hide (X6.out.trans (hbut9.below hl35))
        have GX := hide (G116.out.but hbut9 h1112)
        have GY := hide hg9
        have GO := hide (G73.out.on X9.out)
        have GN := hide (G83.out.on X9.out)
        have B9 := hide (on_below B3.out X9.out)
        clear hg9 hbut9 X9 X6 G116 G126 G73 G83 B3
        go_wp2_with (first | (refine step_loadA wD rfl rfl GX.out HXU.out ?_) | (refine step_loadA wD rfl rfl GO.out HOU.out ?_) | (refine step_loadA wD rfl rfl GY.out HYU.out ?_) | (refine step_loadA wD rfl rfl GN.out HNU.out ?_) | (refine step_neQ aD _ HX.out rfl rfl rfl HXL.out HOL.out ?_) | (refine step_neQ aD _ HY.out rfl rfl rfl HYL.out HNL.out ?_))
        go_ret
        exact ⟨rfl, B9.out⟩
    · have HX : Hid ((!decide (X = o)) = true) := hide (by simp [h1])
      have HY : Hid ((!decide (Y = nw)) = !decide (Y = nw)) := hide rfl
      rw [show csR X Y o nw 0 = 71 by unfold csR; rw [if_pos rfl, if_neg (fun h => h1 h.1)]]
      clear h1
      go_enter Tryd.func24, Tryd.ntmps24
      go_wp2_with (refine step_box rfl rfl ?_)
      intro w1 g7 hr1 hl1 hb1
      have G7 := hide hr1
      clear hr1
      go_wp2_with (refine step_box rfl rfl ?_)
      intro w2 g8 hr2 hl2 hb2
      have G8 := hide hr2
      have G72 := hide (G7.out.on hb2)
      have B2 := hide (on_below hb1 hb2)
      clear hr2 hb1 hb2 G7
      go_wp2_with (refine step_loadA wD rfl rfl G72.out HOU.out ?_)
      refine (HB.out.prog a cap _ (HS.out.below B2.out) (HK.out.below B2.out HK.out.lt)).mono ?_
      rintro r w3 ⟨rfl, hb3⟩
      have G83 := hide (G8.out.on hb3)
      have G73 := hide (G72.out.on hb3)
      have B3 := hide (on_below B2.out hb3)
      clear hb3 G72 G8 B2
      go_wp2_with (refine step_alloc zD rfl ?_)
      intro w4 g11 hr4 hl4 hb4
      have G11 := hide hr4
      clear hr4
      go_wp2_with (refine step_alloc zD rfl ?_)
      intro w5 g12 hr5 hl5 hb5
      have h1112 : g11 ≠ g12 := by have := G11.out.lt; omega
      have G12 := hide hr5
      have G115 := hide (G11.out.on hb5)
      have X5 := hide (on_below hb4 hb5)
      have hl35 : w3.heap.size ≤ g12 := Nat.le_trans hb4.size hl5
      clear hr5 hb4 hb5 G11
      go_wp2_with (refine step_storeA wD rfl rfl rfl G115.out HXU.out (One.u8 _) rfl ?_)
      intro w6 hg6 hbut6
      have G116 := hide hg6
      have G126 := hide (G12.out.but hbut6 h1112.symm)
      have X6 := hide (X5.out.trans (hbut6.below hl4))
      clear hg6 hbut6 G115 G12 X5
      go_wp2_with (refine step_storeA wD rfl rfl rfl G126.out HYU.out (One.u8 _) rfl ?_)
      intro w9 hg9 hbut9
      have X9 := hide (X6.out.trans (hbut9.below hl35))
      have GX := hide (G116.out.but hbut9 h1112)
      have GY := hide hg9
      have GO := hide (G73.out.on X9.out)
      have GN := hide (G83.out.on X9.out)
      have B9 := hide (on_below B3.out X9.out)
      clear hg9 hbut9 X9 X6 G116 G126 G73 G83 B3
      go_wp2_with (first | (refine step_loadA wD rfl rfl GX.out HXU.out ?_) | (refine step_loadA wD rfl rfl GO.out HOU.out ?_) | (refine step_loadA wD rfl rfl GY.out HYU.out ?_) | (refine step_loadA wD rfl rfl GN.out HNU.out ?_) | (refine step_neQ aD _ HX.out rfl rfl rfl HXL.out HOL.out ?_) | (refine step_neQ aD _ HY.out rfl rfl rfl HYL.out HNL.out ?_))
      go_ret
      exact ⟨rfl, B9.out⟩
  · rw [show csR X Y o nw E = E by unfold csR; rw [if_neg hE]]
    have hE1 : (E != 0) = true := by simp [hE]
    have hE2 : (E == 0) = false := by simp [hE]
    go_enter Tryd.func24, Tryd.ntmps24
    go_wp2_with (refine step_box rfl rfl ?_)
    intro w1 g7 hr1 hl1 hb1
    have G7 := hide hr1
    clear hr1
    go_wp2_with (refine step_box rfl rfl ?_)
    intro w2 g8 hr2 hl2 hb2
    have G8 := hide hr2
    have G72 := hide (G7.out.on hb2)
    have B2 := hide (on_below hb1 hb2)
    clear hr2 hb1 hb2 G7
    go_wp2_with (refine step_loadA wD rfl rfl G72.out HOU.out ?_)
    refine (HB.out.prog a cap _ (HS.out.below B2.out) (HK.out.below B2.out HK.out.lt)).mono ?_
    rintro r w3 ⟨rfl, hb3⟩
    have G83 := hide (G8.out.on hb3)
    have G73 := hide (G72.out.on hb3)
    have B3 := hide (on_below B2.out hb3)
    clear hb3 G72 G8 B2
    go_wp2_with (refine step_alloc zD rfl ?_)
    intro w4 g11 hr4 hl4 hb4
    have G11 := hide hr4
    clear hr4
    go_wp2_with (refine step_alloc zD rfl ?_)
    intro w5 g12 hr5 hl5 hb5
    have h1112 : g11 ≠ g12 := by have := G11.out.lt; omega
    have G12 := hide hr5
    have G115 := hide (G11.out.on hb5)
    have X5 := hide (on_below hb4 hb5)
    have hl35 : w3.heap.size ≤ g12 := Nat.le_trans hb4.size hl5
    clear hr5 hb4 hb5 G11
    go_wp2_with (refine step_storeA wD rfl rfl rfl G115.out HXU.out (One.u8 _) rfl ?_)
    intro w6 hg6 hbut6
    have G116 := hide hg6
    have G126 := hide (G12.out.but hbut6 h1112.symm)
    have X6 := hide (X5.out.trans (hbut6.below hl4))
    clear hg6 hbut6 G115 G12 X5
    go_wp2_with (refine step_storeA wD rfl rfl rfl G126.out HYU.out (One.u8 _) rfl ?_)
    intro w9 hg9 hbut9
    have X9 := hide (X6.out.trans (hbut9.below hl35))
    have GX := hide (G116.out.but hbut9 h1112)
    have GY := hide hg9
    have GO := hide (G73.out.on X9.out)
    have GN := hide (G83.out.on X9.out)
    have B9 := hide (on_below B3.out X9.out)
    clear hg9 hbut9 X9 X6 G116 G126 G73 G83 B3
    go_wp2
    go_ret
    exact ⟨rfl, B9.out⟩
set_option maxRecDepth 100000 in
set_option maxHeartbeats 2000000 in
theorem consR7_any (o nw : List Int) (m n : Int) (a : Option Addr) (l cap : Nat) (xs X Y : List Int) (E : Int) (w : World) (hB : RT o m n l xs X Y E) (hol : o.length = 32) (hnl : nw.length = 32) (hs : Ds w a l cap xs) :
    Calls Tryd.prog 26 #[.int .i64 m, .int .i64 n, .agg (u8s o).toArray, .agg (u8s nw).toArray, .slice a l cap] w fun r w' => r = .returned (.int .i64 (csR X Y o nw E)) ∧ Below w.heap.size w w' := by
  have HB := hide hB
  have HS := hide hs
  have HXL := hide hB.lx
  have HYL := hide hB.ly
  have HOL := hide hol
  have HNL := hide hnl
  have HXU := hide (show (u8s X).length = 32 by rw [u8s_length, hB.lx])
  have HYU := hide (show (u8s Y).length = 32 by rw [u8s_length, hB.ly])
  have HOU := hide (show (u8s o).length = 32 by rw [u8s_length, hol])
  have HNU := hide (show (u8s nw).length = 32 by rw [u8s_length, hnl])
  clear hs hol hnl hB
  by_cases hE : E = 0
  · subst hE
    by_cases h1 : X = o
    · have HX : Hid ((!decide (X = o)) = false) := hide (by simp [h1])
      by_cases h2 : Y = nw
      · have HY : Hid ((!decide (Y = nw)) = false) := hide (by simp [h2])
        rw [show csR X Y o nw 0 = 0 by unfold csR; rw [if_pos rfl, if_pos ⟨h1, h2⟩]]
        clear h1 h2
        go_enter Tryd.func26, Tryd.ntmps26
        go_wp2_with (refine step_box rfl rfl ?_)
        intro w1 g7 hr1 hl1 hb1
        have G7 := hide hr1
        clear hr1
        go_wp2_with (refine step_box rfl rfl ?_)
        intro w2 g8 hr2 hl2 hb2
        have G8 := hide hr2
        have G72 := hide (G7.out.on hb2)
        have B2 := hide (on_below hb1 hb2)
        clear hr2 hb1 hb2 G7
        go_wp2_with (refine step_loadA wD rfl rfl G72.out HOU.out ?_)
        refine (HB.out.doc a cap _ (HS.out.below B2.out)).mono ?_
        rintro r w3 ⟨rfl, hb3⟩
        have G83 := hide (G8.out.on hb3)
        have G73 := hide (G72.out.on hb3)
        have B3 := hide (on_below B2.out hb3)
        clear hb3 G72 G8 B2
        go_wp2_with (refine step_alloc zD rfl ?_)
        intro w4 g11 hr4 hl4 hb4
        have G11 := hide hr4
        clear hr4
        go_wp2_with (refine step_alloc zD rfl ?_)
        intro w5 g12 hr5 hl5 hb5
        have h1112 : g11 ≠ g12 := by have := G11.out.lt; omega
        have G12 := hide hr5
        have G115 := hide (G11.out.on hb5)
        have X5 := hide (on_below hb4 hb5)
        have hl35 : w3.heap.size ≤ g12 := Nat.le_trans hb4.size hl5
        clear hr5 hb4 hb5 G11
        go_wp2_with (refine step_storeA wD rfl rfl rfl G115.out HXU.out (One.u8 _) rfl ?_)
        intro w6 hg6 hbut6
        have G116 := hide hg6
        have G126 := hide (G12.out.but hbut6 h1112.symm)
        have X6 := hide (X5.out.trans (hbut6.below hl4))
        clear hg6 hbut6 G115 G12 X5
        go_wp2_with (refine step_storeA wD rfl rfl rfl G126.out HYU.out (One.u8 _) rfl ?_)
        intro w9 hg9 hbut9
        have X9 := hide (X6.out.trans (hbut9.below hl35))
        have GX := hide (G116.out.but hbut9 h1112)
        have GY := hide hg9
        have GO := hide (G73.out.on X9.out)
        have GN := hide (G83.out.on X9.out)
        have B9 := hide (on_below B3.out X9.out)
        clear hg9 hbut9 X9 X6 G116 G126 G73 G83 B3
        go_wp2_with (first | (refine step_loadA wD rfl rfl GX.out HXU.out ?_) | (refine step_loadA wD rfl rfl GO.out HOU.out ?_) | (refine step_loadA wD rfl rfl GY.out HYU.out ?_) | (refine step_loadA wD rfl rfl GN.out HNU.out ?_) | (refine step_neQ aD _ HX.out rfl rfl rfl HXL.out HOL.out ?_) | (refine step_neQ aD _ HY.out rfl rfl rfl HYL.out HNL.out ?_))
        go_ret
        exact ⟨rfl, B9.out⟩
      · have HY : Hid ((!decide (Y = nw)) = true) := hide (by simp [h2])
        rw [show csR X Y o nw 0 = 71 by unfold csR; rw [if_pos rfl, if_neg (fun h => h2 h.2)]]
        clear h1 h2
        go_enter Tryd.func26, Tryd.ntmps26
        go_wp2_with (refine step_box rfl rfl ?_)
        intro w1 g7 hr1 hl1 hb1
        have G7 := hide hr1
        clear hr1
        go_wp2_with (refine step_box rfl rfl ?_)
        intro w2 g8 hr2 hl2 hb2
        have G8 := hide hr2
        have G72 := hide (G7.out.on hb2)
        have B2 := hide (on_below hb1 hb2)
        clear hr2 hb1 hb2 G7
        go_wp2_with (refine step_loadA wD rfl rfl G72.out HOU.out ?_)
        refine (HB.out.doc a cap _ (HS.out.below B2.out)).mono ?_
        rintro r w3 ⟨rfl, hb3⟩
        have G83 := hide (G8.out.on hb3)
        have G73 := hide (G72.out.on hb3)
        have B3 := hide (on_below B2.out hb3)
        clear hb3 G72 G8 B2
        go_wp2_with (refine step_alloc zD rfl ?_)
        intro w4 g11 hr4 hl4 hb4
        have G11 := hide hr4
        clear hr4
        go_wp2_with (refine step_alloc zD rfl ?_)
        intro w5 g12 hr5 hl5 hb5
        have h1112 : g11 ≠ g12 := by have := G11.out.lt; omega
        have G12 := hide hr5
        have G115 := hide (G11.out.on hb5)
        have X5 := hide (on_below hb4 hb5)
        have hl35 : w3.heap.size ≤ g12 := Nat.le_trans hb4.size hl5
        clear hr5 hb4 hb5 G11
        go_wp2_with (refine step_storeA wD rfl rfl rfl G115.out HXU.out (One.u8 _) rfl ?_)
        intro w6 hg6 hbut6
        have G116 := hide hg6
        have G126 := hide (G12.out.but hbut6 h1112.symm)
        have X6 := hide (X5.out.trans (hbut6.below hl4))
        clear hg6 hbut6 G115 G12 X5
        go_wp2_with (refine step_storeA wD rfl rfl rfl G126.out HYU.out (One.u8 _) rfl ?_)
        intro w9 hg9 hbut9
        have X9 := hide (X6.out.trans (hbut9.below hl35))
        have GX := hide (G116.out.but hbut9 h1112)
        have GY := hide hg9
        have GO := hide (G73.out.on X9.out)
        have GN := hide (G83.out.on X9.out)
        have B9 := hide (on_below B3.out X9.out)
        clear hg9 hbut9 X9 X6 G116 G126 G73 G83 B3
        go_wp2_with (first | (refine step_loadA wD rfl rfl GX.out HXU.out ?_) | (refine step_loadA wD rfl rfl GO.out HOU.out ?_) | (refine step_loadA wD rfl rfl GY.out HYU.out ?_) | (refine step_loadA wD rfl rfl GN.out HNU.out ?_) | (refine step_neQ aD _ HX.out rfl rfl rfl HXL.out HOL.out ?_) | (refine step_neQ aD _ HY.out rfl rfl rfl HYL.out HNL.out ?_))
        go_ret
        exact ⟨rfl, B9.out⟩
    · have HX : Hid ((!decide (X = o)) = true) := hide (by simp [h1])
      have HY : Hid ((!decide (Y = nw)) = !decide (Y = nw)) := hide rfl
      rw [show csR X Y o nw 0 = 71 by unfold csR; rw [if_pos rfl, if_neg (fun h => h1 h.1)]]
      clear h1
      go_enter Tryd.func26, Tryd.ntmps26
      go_wp2_with (refine step_box rfl rfl ?_)
      intro w1 g7 hr1 hl1 hb1
      have G7 := hide hr1
      clear hr1
      go_wp2_with (refine step_box rfl rfl ?_)
      intro w2 g8 hr2 hl2 hb2
      have G8 := hide hr2
      have G72 := hide (G7.out.on hb2)
      have B2 := hide (on_below hb1 hb2)
      clear hr2 hb1 hb2 G7
      go_wp2_with (refine step_loadA wD rfl rfl G72.out HOU.out ?_)
      refine (HB.out.doc a cap _ (HS.out.below B2.out)).mono ?_
      rintro r w3 ⟨rfl, hb3⟩
      have G83 := hide (G8.out.on hb3)
      have G73 := hide (G72.out.on hb3)
      have B3 := hide (on_below B2.out hb3)
      clear hb3 G72 G8 B2
      go_wp2_with (refine step_alloc zD rfl ?_)
      intro w4 g11 hr4 hl4 hb4
      have G11 := hide hr4
      clear hr4
      go_wp2_with (refine step_alloc zD rfl ?_)
      intro w5 g12 hr5 hl5 hb5
      have h1112 : g11 ≠ g12 := by have := G11.out.lt; omega
      have G12 := hide hr5
      have G115 := hide (G11.out.on hb5)
      have X5 := hide (on_below hb4 hb5)
      have hl35 : w3.heap.size ≤ g12 := Nat.le_trans hb4.size hl5
      clear hr5 hb4 hb5 G11
      go_wp2_with (refine step_storeA wD rfl rfl rfl G115.out HXU.out (One.u8 _) rfl ?_)
      intro w6 hg6 hbut6
      have G116 := hide hg6
      have G126 := hide (G12.out.but hbut6 h1112.symm)
      have X6 := hide (X5.out.trans (hbut6.below hl4))
      clear hg6 hbut6 G115 G12 X5
      go_wp2_with (refine step_storeA wD rfl rfl rfl G126.out HYU.out (One.u8 _) rfl ?_)
      intro w9 hg9 hbut9
      have X9 := hide (X6.out.trans (hbut9.below hl35))
      have GX := hide (G116.out.but hbut9 h1112)
      have GY := hide hg9
      have GO := hide (G73.out.on X9.out)
      have GN := hide (G83.out.on X9.out)
      have B9 := hide (on_below B3.out X9.out)
      clear hg9 hbut9 X9 X6 G116 G126 G73 G83 B3
      go_wp2_with (first | (refine step_loadA wD rfl rfl GX.out HXU.out ?_) | (refine step_loadA wD rfl rfl GO.out HOU.out ?_) | (refine step_loadA wD rfl rfl GY.out HYU.out ?_) | (refine step_loadA wD rfl rfl GN.out HNU.out ?_) | (refine step_neQ aD _ HX.out rfl rfl rfl HXL.out HOL.out ?_) | (refine step_neQ aD _ HY.out rfl rfl rfl HYL.out HNL.out ?_))
      go_ret
      exact ⟨rfl, B9.out⟩
  · rw [show csR X Y o nw E = E by unfold csR; rw [if_neg hE]]
    have hE1 : (E != 0) = true := by simp [hE]
    have hE2 : (E == 0) = false := by simp [hE]
    go_enter Tryd.func26, Tryd.ntmps26
    go_wp2_with (refine step_box rfl rfl ?_)
    intro w1 g7 hr1 hl1 hb1
    have G7 := hide hr1
    clear hr1
    go_wp2_with (refine step_box rfl rfl ?_)
    intro w2 g8 hr2 hl2 hb2
    have G8 := hide hr2
    have G72 := hide (G7.out.on hb2)
    have B2 := hide (on_below hb1 hb2)
    clear hr2 hb1 hb2 G7
    go_wp2_with (refine step_loadA wD rfl rfl G72.out HOU.out ?_)
    refine (HB.out.doc a cap _ (HS.out.below B2.out)).mono ?_
    rintro r w3 ⟨rfl, hb3⟩
    have G83 := hide (G8.out.on hb3)
    have G73 := hide (G72.out.on hb3)
    have B3 := hide (on_below B2.out hb3)
    clear hb3 G72 G8 B2
    go_wp2_with (refine step_alloc zD rfl ?_)
    intro w4 g11 hr4 hl4 hb4
    have G11 := hide hr4
    clear hr4
    go_wp2_with (refine step_alloc zD rfl ?_)
    intro w5 g12 hr5 hl5 hb5
    have h1112 : g11 ≠ g12 := by have := G11.out.lt; omega
    have G12 := hide hr5
    have G115 := hide (G11.out.on hb5)
    have X5 := hide (on_below hb4 hb5)
    have hl35 : w3.heap.size ≤ g12 := Nat.le_trans hb4.size hl5
    clear hr5 hb4 hb5 G11
    go_wp2_with (refine step_storeA wD rfl rfl rfl G115.out HXU.out (One.u8 _) rfl ?_)
    intro w6 hg6 hbut6
    have G116 := hide hg6
    have G126 := hide (G12.out.but hbut6 h1112.symm)
    have X6 := hide (X5.out.trans (hbut6.below hl4))
    clear hg6 hbut6 G115 G12 X5
    go_wp2_with (refine step_storeA wD rfl rfl rfl G126.out HYU.out (One.u8 _) rfl ?_)
    intro w9 hg9 hbut9
    have X9 := hide (X6.out.trans (hbut9.below hl35))
    have GX := hide (G116.out.but hbut9 h1112)
    have GY := hide hg9
    have GO := hide (G73.out.on X9.out)
    have GN := hide (G83.out.on X9.out)
    have B9 := hide (on_below B3.out X9.out)
    clear hg9 hbut9 X9 X6 G116 G126 G73 G83 B3
    go_wp2
    go_ret
    exact ⟨rfl, B9.out⟩

end Go.Proofs.YtconeobaohmbnaaDoor

/-
  Claims in memory; what Inclusion and Consistency tell, written out; included, Accepted.
-/
namespace Go.Proofs.YtconeobaohmbnaaDoor
open Go.RowKit
set_option linter.unusedVariables false

/-- What Inclusion tells. -/
def incE (leaf : List Int) (i n : Int) (l : Nat) (xs root : List Int) : Int :=
  if i < 0 ∨ n ≤ i ∨ 281474976710656 < n then 40 else if l = (hvL i.toNat 0 n.toNat).length then (if fu (hvL i.toNat 0 n.toNat) xs leaf l = root then 0 else 71) else 70
/-- What Consistency tells. -/
def conE (o nw : List Int) (m n : Int) (l : Nat) (xs : List Int) : Int :=
  if m < 1 ∨ n < m ∨ 281474976710656 < n then 40 else if l = (hvM m.toNat 0 n.toNat).length + ptM m.toNat 0 n.toNat then
    (if fo (hvM m.toNat 0 n.toNat) (xs.drop (32 * ptM m.toNat 0 n.toNat)) (st0 (ptM m.toNat 0 n.toNat) o xs) (hvM m.toNat 0 n.toNat).length = o ∧ fu (hvM m.toNat 0 n.toNat) (xs.drop (32 * ptM m.toNat 0 n.toNat)) (st0 (ptM m.toNat 0 n.toNat) o xs) (hvM m.toNat 0 n.toNat).length = nw then 0 else 71) else 70
theorem inc_is (leaf : List Int) (i n : Int) (l : Nat) (xs root : List Int) (hlf : leaf.length = 32) (hlb : isB leaf) : ∃ D E, RB leaf i n l xs D E ∧ inR D root E = incE leaf i n l xs root := by
  unfold incE inR
  by_cases h : i < 0 ∨ n ≤ i ∨ 281474976710656 < n
  · exact ⟨zer 32, 40, ⟨zer_length 32, zer_isB32, fun a cap w _ _ => root7_bad leaf i n _ w h, fun a cap w _ => rootR7_bad leaf i n _ w h⟩, by rw [if_pos h]; rfl⟩
  · obtain ⟨i', rfl⟩ : ∃ i' : Nat, i = (i' : Int) := ⟨i.toNat, by omega⟩
    obtain ⟨n', rfl⟩ : ∃ n' : Nat, n = (n' : Int) := ⟨n.toNat, by omega⟩
    rw [if_neg h, Int.toNat_natCast, Int.toNat_natCast]
    by_cases hl : l = (hvL i' 0 n').length
    · exact ⟨_, 0, ⟨fu_length hlf l, fu_isB hlb l, fun a cap w hs hk => root7_ok leaf i' n' a l cap xs w (by omega) (by omega) hl hlf hlb hs hk, fun a cap w hs => rootR7_ok leaf i' n' a l cap xs w (by omega) (by omega) hl hlf hlb hs⟩, by rw [if_pos hl, if_pos rfl]⟩
    · exact ⟨zer 32, 70, ⟨zer_length 32, zer_isB32, fun a cap w _ _ => root7_len leaf i' n' a l cap w (by omega) (by omega) hl, fun a cap w _ => rootR7_len leaf i' n' a l cap w (by omega) (by omega) hl⟩, by rw [if_neg hl]; rfl⟩
theorem con_is (o nw : List Int) (m n : Int) (l : Nat) (xs : List Int) (hd : o.length = 32) (hdb : isB o) (hx : xs.length = 32 * l) (hxb : isB xs) : ∃ X Y E, RT o m n l xs X Y E ∧ csR X Y o nw E = conE o nw m n l xs := by
  unfold conE csR
  by_cases h : m < 1 ∨ n < m ∨ 281474976710656 < n
  · exact ⟨zer 32, zer 32, 40, ⟨zer_length 32, zer_isB32, zer_length 32, zer_isB32, fun a cap w _ _ => roots7_bad o m n _ w h, fun a cap w _ => rootsR7_bad o m n _ w h⟩, by rw [if_pos h]; rfl⟩
  · obtain ⟨m', rfl⟩ : ∃ i' : Nat, m = (i' : Int) := ⟨m.toNat, by omega⟩
    obtain ⟨n', rfl⟩ : ∃ n' : Nat, n = (n' : Int) := ⟨n.toNat, by omega⟩
    rw [if_neg h, Int.toNat_natCast, Int.toNat_natCast]
    by_cases hl : l = (hvM m' 0 n').length + ptM m' 0 n'
    · have h1 := st0_length (t := ptM m' 0 n') hd hx (by omega)
      have h2 := st0_isB (t := ptM m' 0 n') hdb hxb
      exact ⟨_, _, 0, ⟨fo_length h1 _, fo_isB h2 _, fu_length h1 _, fu_isB h2 _, fun a cap w hs hk => roots7_ok o m' n' a l cap xs w (by omega) (by omega) (by omega) hl hd hdb hs hk, fun a cap w hs => rootsR7_ok o m' n' a l cap xs w (by omega) (by omega) (by omega) hl hd hdb hs⟩, by rw [if_pos hl, if_pos rfl]⟩
    · exact ⟨zer 32, zer 32, 70, ⟨zer_length 32, zer_isB32, zer_length 32, zer_isB32, fun a cap w _ _ => roots7_len o m' n' a l cap w (by omega) (by omega) (by omega) hl, fun a cap w _ => rootsR7_len o m' n' a l cap w (by omega) (by omega) (by omega) hl⟩, by rw [if_neg hl]; rfl⟩
theorem incP (leaf root : List Int) (i n : Int) (a : Option Addr) (l cap : Nat) (xs : List Int) (w : World) (hlf : leaf.length = 32) (hlb : isB leaf) (hrl : root.length = 32) (hs : Ds w a l cap xs) (hk : KT w) :
    Calls Tryd.prog 45 #[.agg (u8s leaf).toArray, .int .i64 i, .int .i64 n, .slice a l cap, .agg (u8s root).toArray] w fun r w' => r = .returned (.int .i64 (incE leaf i n l xs root)) ∧ Below w.heap.size w w' := by
  obtain ⟨D, E, hB, e⟩ := inc_is leaf i n l xs root hlf hlb
  rw [← e]
  exact inc7_any leaf root i n a l cap xs D E w hB hlf hrl hs hk
theorem incD (leaf root : List Int) (i n : Int) (a : Option Addr) (l cap : Nat) (xs : List Int) (w : World) (hlf : leaf.length = 32) (hlb : isB leaf) (hrl : root.length = 32) (hs : Ds w a l cap xs) :
    Calls Tryd.prog 27 #[.agg (u8s leaf).toArray, .int .i64 i, .int .i64 n, .slice a l cap, .agg (u8s root).toArray] w fun r w' => r = .returned (.int .i64 (incE leaf i n l xs root)) ∧ Below w.heap.size w w' := by
  obtain ⟨D, E, hB, e⟩ := inc_is leaf i n l xs root hlf hlb
  rw [← e]
  exact incR7_any leaf root i n a l cap xs D E w hB hlf hrl hs
theorem conP (o nw : List Int) (m n : Int) (a : Option Addr) (l cap : Nat) (xs : List Int) (w : World) (hol : o.length = 32) (hob : isB o) (hnl : nw.length = 32) (hs : Ds w a l cap xs) (hk : KT w) :
    Calls Tryd.prog 24 #[.int .i64 m, .int .i64 n, .agg (u8s o).toArray, .agg (u8s nw).toArray, .slice a l cap] w fun r w' => r = .returned (.int .i64 (conE o nw m n l xs)) ∧ Below w.heap.size w w' := by
  obtain ⟨X, Y, E, hB, e⟩ := con_is o nw m n l xs hol hob hs.hlen hs.hbyte
  rw [← e]
  exact cons7_any o nw m n a l cap xs X Y E w hB hol hnl hs hk
theorem conD (o nw : List Int) (m n : Int) (a : Option Addr) (l cap : Nat) (xs : List Int) (w : World) (hol : o.length = 32) (hob : isB o) (hnl : nw.length = 32) (hs : Ds w a l cap xs) :
    Calls Tryd.prog 26 #[.int .i64 m, .int .i64 n, .agg (u8s o).toArray, .agg (u8s nw).toArray, .slice a l cap] w fun r w' => r = .returned (.int .i64 (conE o nw m n l xs)) ∧ Below w.heap.size w w' := by
  obtain ⟨X, Y, E, hB, e⟩ := con_is o nw m n l xs hol hob hs.hlen hs.hbyte
  rw [← e]
  exact consR7_any o nw m n a l cap xs X Y E w hB hol hnl hs

/-- Is a leaf's path accepted? -/
def incB (data : List Int) (i n : Int) (l : Nat) (xs root : List Int) : Bool := (incE (lf data) i n l xs root == 0)
set_option maxRecDepth 100000 in
set_option maxHeartbeats 1000000 in
theorem included_any (ad : Option Addr) (ld cd : Nat) (data : List Int) (i n : Int) (a : Option Addr) (l cap : Nat) (xs root : List Int) (w : World) (hd : Sl w ad ld cd data) (hld : ld ≤ 140737488354304) (hs : Ds w a l cap xs) (hrl : root.length = 32) (hk : KT w) :
    Calls Tryd.prog 25 #[.slice ad ld cd, .int .i64 i, .int .i64 n, .slice a l cap, .agg (u8s root).toArray] w fun r w' => r = .returned (.bool (incB data i n l xs root)) ∧ Below w.heap.size w w' := by
  have HD := hide hd
  have HS := hide hs
  have HR := hide hrl
  have HK := hide hk
  obtain ⟨E, HE⟩ : ∃ E, Hid (E = incE (lf data) i n l xs root) := ⟨_, hide rfl⟩
  have HBB : Hid (incB data i n l xs root = (E == 0)) := hide (by rw [HE.out]; rfl)
  rw [HBB.out]
  clear hd hs hrl hk
  go_enter Tryd.func25, Tryd.ntmps25
  go_wp2_with (refine step_box rfl rfl ?_)
  intro w1 g9 hr1 hl1 hb1
  have G9 := hide hr1
  have B1 := hide hb1
  clear hr1 hl1 hb1
  go_wp2_with fail
  refine wp_region_noPanic ?_
  have Z0 := hide ((Below.refl w1.heap.size w1).drew)
  have hu := aD.und
  have HI1 : Hid ((Tryd.prog.info? 23).map (·.size) = some (u8s root).length) := hide (by rw [wD.size, u8s_length, HR.out])
  refine wp_region_held_drew (S := fun v : World => Below w1.heap.size w1 v) (by kernel_rfl) Z0.out (fun hHeld => ?_)
  refine takeH 0 11 (.slice ad ld cd) hHeld rfl rfl (by kernel_rfl) (by kernel_rfl) (by kernel_rfl) (fun _ _ _ h => h) (Or.inl ⟨by rfl, fun w _ => by go_simp⟩) ?_
  simp only [Act.put, List.setIfInBounds_toArray, List.set_cons_zero, List.set_cons_succ]
  refine takeH 2 13 (.int .i64 i) hHeld rfl rfl (by kernel_rfl) (by kernel_rfl) (by kernel_rfl) (fun _ _ _ h => h) (Or.inl ⟨by rfl, fun w _ => by go_simp⟩) ?_
  simp only [Act.put, List.setIfInBounds_toArray, List.set_cons_zero, List.set_cons_succ]
  refine takeH 3 14 (.int .i64 n) hHeld rfl rfl (by kernel_rfl) (by kernel_rfl) (by kernel_rfl) (fun _ _ _ h => h) (Or.inl ⟨by rfl, fun w _ => by go_simp⟩) ?_
  simp only [Act.put, List.setIfInBounds_toArray, List.set_cons_zero, List.set_cons_succ]
  refine takeH 4 15 (.slice a l cap) hHeld rfl rfl (by kernel_rfl) (by kernel_rfl) (by kernel_rfl) (fun _ _ _ h => h) (Or.inl ⟨by rfl, fun w _ => by go_simp⟩) ?_
  simp only [Act.put, List.setIfInBounds_toArray, List.set_cons_zero, List.set_cons_succ]
  refine takeH 5 16 (.agg (u8s root).toArray) hHeld rfl rfl (by kernel_rfl) (by kernel_rfl) (by kernel_rfl) (fun _ _ _ h => h) (yieldsIf_load_mid (by rfl) _ _ rfl g9 0 rfl _ _ (fun v hv => (G9.out.on hv).range 0 (u8s root) (by simp)) hu rfl HI1.out) ?_
  simp only [Act.put, List.setIfInBounds_toArray, List.set_cons_zero, List.set_cons_succ]
  refine wpAnyH_ready (rs := [1]) (by kernel_rfl) (by simp) (AllReadyH.cons rfl (fun K hK => ?_) AllReadyH.nil)
  rw [if_pos (by rfl)]
  go_simp
  refine (leaf_any ad ld cd data _ ((HD.out.below B1.out).below Z0.out) hld ((HK.out.below B1.out HK.out.lt).below Z0.out (HK.out.below B1.out HK.out.lt).lt)).mono ?_
  rintro e v1 ⟨rfl, hv1⟩
  have Z1 := hide (Z0.out.trans (hv1.mono Z0.out.size))
  refine hK.out _ _ Z1.out (fun hHeld => ?_)
  clear hK K
  refine wpAnyH_ready (rs := [6]) (by kernel_rfl) (by simp) (AllReadyH.cons rfl (fun K hK => ?_) AllReadyH.nil)
  rw [if_pos (by rfl)]
  go_simp
  refine (incP (lf data) root i n a l cap xs _ (lf_length data) (lf_isB data) HR.out ((HS.out.below B1.out).below Z1.out) ((HK.out.below B1.out HK.out.lt).below Z1.out (HK.out.below B1.out HK.out.lt).lt)).mono ?_
  rintro e v2 ⟨rfl, hv2⟩
  rw [← HE.out]
  have Z2 := hide (Z1.out.trans (hv2.mono Z1.out.size))
  refine hK.out _ _ Z2.out (fun hHeld => ?_)
  clear hK K
  refine takeH 7 18 (.bool (E == 0)) hHeld rfl rfl (by kernel_rfl) (by kernel_rfl) (by kernel_rfl) (fun _ _ _ h => h) (Or.inl ⟨by rfl, fun w _ => by go_simp⟩) ?_
  simp only [Act.put, List.setIfInBounds_toArray, List.set_cons_zero, List.set_cons_succ]
  refine takeH 8 10 (.bool (E == 0)) hHeld rfl rfl (by kernel_rfl) (by kernel_rfl) (by kernel_rfl) (fun _ _ _ h => h) (Or.inl ⟨by rfl, fun w _ => by go_simp⟩) ?_
  simp only [Act.put, List.setIfInBounds_toArray, List.set_cons_zero, List.set_cons_succ]
  refine wpAnyH_done (by kernel_rfl) ?_ _
  refine NoPanic.normal ?_
  clear hHeld hu
  go_wp2
  go_ret
  exact ⟨rfl, B1.out.trans (Z2.out.mono B1.out.size)⟩

/-- A claim. -/
structure Cv where
  m : Int
  n : Int
  o : List Int
  nw : List Int
  i : Int
  aq : Option Addr
  ls : Nat
  cs : Nat
  S : List Int
  ax : Option Addr
  lx : Nat
  cx : Nat
  X : List Int
  ay : Option Addr
  ly : Nat
  cy : Nat
  Y : List Int
  ao : Option Addr
  lo : Nat
  co : Nat
  O : List Int
  an : Option Addr
  ln : Nat
  cn : Nat
  N : List Int
/-- Its cells. -/
def Cv.cells (c : Cv) : List Value := [.int .i64 c.m, .int .i64 c.n] ++ (u8s c.o ++ (u8s c.nw ++ [.slice c.aq c.ls c.cs, .int .i64 c.i, .slice c.ax c.lx c.cx, .slice c.ay c.ly c.cy, .slice c.ao c.lo c.co, .slice c.an c.ln c.cn]))
/-- What it points to. -/
structure Cv.In (c : Cv) (w : World) : Prop where
  lo : c.o.length = 32
  bo : isB c.o
  ln : c.nw.length = 32
  bn : isB c.nw
  ds : Ds w c.aq c.ls c.cs c.S
  sx : Sl w c.ax c.lx c.cx c.X
  hx : c.lx ≤ 140737488354304
  sy : Sl w c.ay c.ly c.cy c.Y
  hy : c.ly ≤ 140737488354304
  dO : Ds w c.ao c.lo c.co c.O
  dN : Ds w c.an c.ln c.cn c.N
theorem Cv.In.below {c : Cv} {w w' : World} (h : c.In w) (hb : Below w.heap.size w w') : c.In w' := ⟨h.lo, h.bo, h.ln, h.bn, h.ds.below hb, h.sx.below hb, h.hx, h.sy.below hb, h.hy, h.dO.below hb, h.dN.below hb⟩
theorem Cv.length {c : Cv} (h1 : c.o.length = 32) (h2 : c.nw.length = 32) : c.cells.length = 72 := by simp [Cv.cells, u8s_length, h1, h2]
theorem Cv.fO {c : Cv} (h1 : c.o.length = 32) : (c.cells.drop 2).take 32 = u8s c.o := by
  unfold Cv.cells
  rw [List.drop_left' (by rfl), List.take_left' (by rw [u8s_length, h1])]
theorem Cv.fN {c : Cv} (h1 : c.o.length = 32) (h2 : c.nw.length = 32) : (c.cells.drop 34).take 32 = u8s c.nw := by
  unfold Cv.cells
  rw [← List.append_assoc, List.drop_left' (by rw [List.length_append, u8s_length, h1]; rfl), List.take_left' (by rw [u8s_length, h2])]
theorem Cv.tail {c : Cv} (h1 : c.o.length = 32) (h2 : c.nw.length = 32) (k : Nat) : c.cells[66 + k]? = [Value.slice c.aq c.ls c.cs, .int .i64 c.i, .slice c.ax c.lx c.cx, .slice c.ay c.ly c.cy, .slice c.ao c.lo c.co, .slice c.an c.ln c.cn][k]? := by
  unfold Cv.cells
  rw [← List.append_assoc, ← List.append_assoc, List.getElem?_append_right (by simp [u8s_length, h1, h2])]
  congr 1
  simp [u8s_length, h1, h2]
/-- The cells that are read one by one. -/
structure Cv.At (c : Cv) (w : World) (g : Nat) : Prop where
  m : w.cell? ⟨g, 0, none⟩ = some (.int .i64 c.m)
  n : w.cell? ⟨g, 1, none⟩ = some (.int .i64 c.n)
  s : w.cell? ⟨g, 66, none⟩ = some (.slice c.aq c.ls c.cs)
  i : w.cell? ⟨g, 67, none⟩ = some (.int .i64 c.i)
  x : w.cell? ⟨g, 68, none⟩ = some (.slice c.ax c.lx c.cx)
  y : w.cell? ⟨g, 69, none⟩ = some (.slice c.ay c.ly c.cy)
  o : w.cell? ⟨g, 70, none⟩ = some (.slice c.ao c.lo c.co)
  nn : w.cell? ⟨g, 71, none⟩ = some (.slice c.an c.ln c.cn)
theorem Cv.at {c : Cv} {w : World} {g : Nat} {t : TypeId} (h : Blk w g t c.cells) (h1 : c.o.length = 32) (h2 : c.nw.length = 32) : c.At w g :=
  ⟨by rw [h.cell]; rfl, by rw [h.cell]; rfl, by rw [h.cell]; exact Cv.tail h1 h2 0, by rw [h.cell]; exact Cv.tail h1 h2 1, by rw [h.cell]; exact Cv.tail h1 h2 2, by rw [h.cell]; exact Cv.tail h1 h2 3, by rw [h.cell]; exact Cv.tail h1 h2 4, by rw [h.cell]; exact Cv.tail h1 h2 5⟩

/-- Is it accepted? -/
def Cv.e1 (c : Cv) : Int := conE c.o c.nw c.m c.n c.ls c.S
def Cv.b2 (c : Cv) : Bool := incB c.X c.i c.m c.lo c.O c.o
def Cv.b3 (c : Cv) : Bool := incB c.Y c.i c.n c.ln c.N c.nw
def Cv.acc (c : Cv) : Bool := (c.e1 == 0) && c.b2 && c.b3

set_option maxRecDepth 100000 in
set_option maxHeartbeats 2000000 in
theorem accepted_any (c : Cv) (w : World) (hi : c.In w) (hk : KT w) :
    Calls Tryd.prog 8 #[.agg c.cells.toArray] w fun r w' => r = .returned (.bool c.acc) ∧ Below w.heap.size w w' := by
  have HI := hide hi
  have HK := hide hk
  have HO := hide hi.lo
  have HN := hide hi.ln
  clear hi hk
  go_enter Tryd.func8, Tryd.ntmps8
  go_wp2_with (refine step_box rfl rfl ?_)
  intro w1 g1 hr1 hl1 hb1
  have G1 := hide hr1
  have B1 := hide hb1
  clear hr1 hl1 hb1
  obtain ⟨c1, c2, c3, c4, c5, c6, c7, c8⟩ := Cv.at G1.out HO.out HN.out
  by_cases h1 : c.e1 = 0
  · have HA : Hid (c.acc = (c.b2 && c.b3)) := hide (by unfold Cv.acc; simp [h1])
    go_wp2_with (first | (refine step_load wD rfl rfl G1.out (u8s c.o) (by rw [u8s_length, HO.out]) (Cv.fO HO.out) ?_) | (refine step_load wD rfl rfl G1.out (u8s c.nw) (by rw [u8s_length, HN.out]) (Cv.fN HO.out HN.out) ?_) | (go_at_call 24; refine (conP c.o c.nw c.m c.n c.aq c.ls c.cs c.S _ HO.out HI.out.bo HN.out (HI.out.ds.below B1.out) (HK.out.below B1.out HK.out.lt)).mono ?_))
    rintro e v1 ⟨rfl, hv1⟩
    rw [show conE c.o c.nw c.m c.n c.ls c.S = c.e1 from rfl]
    have B2 := hide (B1.out.trans (hv1.mono B1.out.size))
    have G2 := hide (G1.out.on hv1)
    obtain ⟨k1, k2, k3, k4, k5, k6, k7, k8⟩ := Cv.at G2.out HO.out HN.out
    clear hv1
    go_wp2_with (first | (refine step_load wD rfl rfl G2.out (u8s c.o) (by rw [u8s_length, HO.out]) (Cv.fO HO.out) ?_) | (go_at_call 25; refine (included_any c.ax c.lx c.cx c.X c.i c.m c.ao c.lo c.co c.O c.o _ (HI.out.sx.below B2.out) HI.out.hx (HI.out.dO.below B2.out) HO.out (HK.out.below B2.out HK.out.lt)).mono ?_))
    rintro e v2 ⟨rfl, hv2⟩
    rw [show incB c.X c.i c.m c.lo c.O c.o = c.b2 from rfl]
    have B3 := hide (B2.out.trans (hv2.mono B2.out.size))
    have G3 := hide (G2.out.on hv2)
    clear k1 k2 k3 k4 k5 k6 k7 k8
    obtain ⟨k1, k2, k3, k4, k5, k6, k7, k8⟩ := Cv.at G3.out HO.out HN.out
    clear hv2
    cases hb2 : c.b2 with
    | true =>
      go_wp2_with (first | (refine step_load wD rfl rfl G3.out (u8s c.nw) (by rw [u8s_length, HN.out]) (Cv.fN HO.out HN.out) ?_) | (go_at_call 25; refine (included_any c.ay c.ly c.cy c.Y c.i c.n c.an c.ln c.cn c.N c.nw _ (HI.out.sy.below B3.out) HI.out.hy (HI.out.dN.below B3.out) HN.out (HK.out.below B3.out HK.out.lt)).mono ?_))
      rintro e v3 ⟨rfl, hv3⟩
      rw [show incB c.Y c.i c.n c.ln c.N c.nw = c.b3 from rfl]
      go_wp2
      go_ret
      exact ⟨by rw [HA.out, hb2, Bool.true_and]; rfl, B3.out.trans (hv3.mono B3.out.size)⟩
    | false =>
      go_wp2
      go_ret
      exact ⟨by rw [HA.out, hb2, Bool.false_and]; rfl, B3.out⟩
  · have HF : Hid (c.acc = false) := hide (by unfold Cv.acc; simp [h1])
    go_wp2_with (first | (refine step_load wD rfl rfl G1.out (u8s c.o) (by rw [u8s_length, HO.out]) (Cv.fO HO.out) ?_) | (refine step_load wD rfl rfl G1.out (u8s c.nw) (by rw [u8s_length, HN.out]) (Cv.fN HO.out HN.out) ?_) | (go_at_call 24; refine (conP c.o c.nw c.m c.n c.aq c.ls c.cs c.S _ HO.out HI.out.bo HN.out (HI.out.ds.below B1.out) (HK.out.below B1.out HK.out.lt)).mono ?_))
    rintro e v1 ⟨rfl, hv1⟩
    rw [show conE c.o c.nw c.m c.n c.ls c.S = c.e1 from rfl]
    have B2 := hide (B1.out.trans (hv1.mono B1.out.size))
    have G2 := hide (G1.out.on hv1)
    obtain ⟨k1, k2, k3, k4, k5, k6, k7, k8⟩ := Cv.at G2.out HO.out HN.out
    clear hv1
    go_wp2
    go_ret
    exact ⟨by rw [HF.out]; rfl, B2.out⟩

end Go.Proofs.YtconeobaohmbnaaDoor

/-
  The law's lent and accepted: a claim in memory of its own; the document's answer.
-/
namespace Go.Proofs.YtconeobaohmbnaaDoor
open Go.RowKit
set_option linter.unusedVariables false

set_option maxRecDepth 100000 in
set_option maxHeartbeats 2000000 in
theorem acceptedD_any (c : Cv) (w : World) (hi : c.In w) :
    Calls Tryd.prog 10 #[.agg c.cells.toArray] w fun r w' => r = .returned (.bool c.acc) ∧ Below w.heap.size w w' := by
  have HI := hide hi
  have HO := hide hi.lo
  have HN := hide hi.ln
  clear hi
  by_cases h1 : c.e1 = 0
  · have HA1 : Hid (c.acc = (c.b2 && c.b3)) := hide (by unfold Cv.acc; simp [h1])
    rw [HA1.out]
    cases hb2 : c.b2 with
    | true =>
      have he2 : incE (lf c.X) c.i c.m c.lo c.O c.o = 0 := by simpa [Cv.b2, incB] using hb2
      rw [Bool.true_and]
      go_enter Tryd.func10, Tryd.ntmps10
      go_wp2_with (refine step_box rfl rfl ?_)
      intro w1 g1 hr1 hl1 hb1
      have G1 := hide hr1
      have B1 := hide hb1
      clear hr1 hl1 hb1
      go_wp2_with fail
      refine wp_region_noPanic ?_
      have Z0 := hide ((Below.refl w1.heap.size w1).drew)
      have hu := aD.und
      have HI1 : Hid ((Tryd.prog.info? 23).map (·.size) = some (u8s c.o).length) := hide (by rw [wD.size, u8s_length, HO.out])
      have HI2 : Hid ((Tryd.prog.info? 23).map (·.size) = some (u8s c.nw).length) := hide (by rw [wD.size, u8s_length, HN.out])
      have HA : Hid (∀ v : World, Below w1.heap.size w1 v → c.At v g1) := hide (fun v hv => Cv.at (G1.out.on hv) HO.out HN.out)
      have HRO : Hid (∀ v : World, Below w1.heap.size w1 v → v.rangeAt g1 2 (u8s c.o)) := hide (fun v hv => (G1.out.on hv).range 2 (u8s c.o) (by rw [u8s_length, HO.out]; exact Cv.fO HO.out))
      have HRN : Hid (∀ v : World, Below w1.heap.size w1 v → v.rangeAt g1 34 (u8s c.nw)) := hide (fun v hv => (G1.out.on hv).range 34 (u8s c.nw) (by rw [u8s_length, HN.out]; exact Cv.fN HO.out HN.out))
      refine wp_region_held_drew (S := fun v : World => Below w1.heap.size w1 v) (by kernel_rfl) Z0.out (fun hHeld => ?_)
      refine takeH 0 3 (.pointer (some ⟨g1, 0, none⟩)) hHeld rfl rfl (by kernel_rfl) (by kernel_rfl) (by kernel_rfl) (fun _ _ _ h => h) (Or.inl ⟨by rfl, fun w _ => by go_simp⟩) ?_
      simp only [Act.put, List.setIfInBounds_toArray, List.set_cons_zero, List.set_cons_succ]
      refine takeH 1 4 (.int .i64 c.m) hHeld rfl rfl (by kernel_rfl) (by kernel_rfl) (by kernel_rfl) (fun _ _ _ h => h) (Or.inl ⟨by rfl, fun w hw => by have hw' : w.cell? ⟨g1, 0, none⟩ = some (.int .i64 c.m) := (fun hw => (HA.out _ hw).m) hw; go_simp⟩) ?_
      simp only [Act.put, List.setIfInBounds_toArray, List.set_cons_zero, List.set_cons_succ]
      refine takeH 2 5 (.pointer (some ⟨g1, 1, none⟩)) hHeld rfl rfl (by kernel_rfl) (by kernel_rfl) (by kernel_rfl) (fun _ _ _ h => h) (Or.inl ⟨by rfl, fun w _ => by go_simp⟩) ?_
      simp only [Act.put, List.setIfInBounds_toArray, List.set_cons_zero, List.set_cons_succ]
      refine takeH 3 6 (.int .i64 c.n) hHeld rfl rfl (by kernel_rfl) (by kernel_rfl) (by kernel_rfl) (fun _ _ _ h => h) (Or.inl ⟨by rfl, fun w hw => by have hw' : w.cell? ⟨g1, 1, none⟩ = some (.int .i64 c.n) := (fun hw => (HA.out _ hw).n) hw; go_simp⟩) ?_
      simp only [Act.put, List.setIfInBounds_toArray, List.set_cons_zero, List.set_cons_succ]
      refine takeH 4 7 (.pointer (some ⟨g1, 2, none⟩)) hHeld rfl rfl (by kernel_rfl) (by kernel_rfl) (by kernel_rfl) (fun _ _ _ h => h) (Or.inl ⟨by rfl, fun w _ => by go_simp⟩) ?_
      simp only [Act.put, List.setIfInBounds_toArray, List.set_cons_zero, List.set_cons_succ]
      refine takeH 5 8 (.agg (u8s c.o).toArray) hHeld rfl rfl (by kernel_rfl) (by kernel_rfl) (by kernel_rfl) (fun _ _ _ h => h) (yieldsIf_load_mid (by rfl) _ _ rfl g1 2 rfl _ _ (HRO.out) hu rfl HI1.out) ?_
      simp only [Act.put, List.setIfInBounds_toArray, List.set_cons_zero, List.set_cons_succ]
      refine takeH 6 9 (.pointer (some ⟨g1, 34, none⟩)) hHeld rfl rfl (by kernel_rfl) (by kernel_rfl) (by kernel_rfl) (fun _ _ _ h => h) (Or.inl ⟨by rfl, fun w _ => by go_simp⟩) ?_
      simp only [Act.put, List.setIfInBounds_toArray, List.set_cons_zero, List.set_cons_succ]
      refine takeH 7 10 (.agg (u8s c.nw).toArray) hHeld rfl rfl (by kernel_rfl) (by kernel_rfl) (by kernel_rfl) (fun _ _ _ h => h) (yieldsIf_load_mid (by rfl) _ _ rfl g1 34 rfl _ _ (HRN.out) hu rfl HI2.out) ?_
      simp only [Act.put, List.setIfInBounds_toArray, List.set_cons_zero, List.set_cons_succ]
      refine takeH 8 11 (.pointer (some ⟨g1, 66, none⟩)) hHeld rfl rfl (by kernel_rfl) (by kernel_rfl) (by kernel_rfl) (fun _ _ _ h => h) (Or.inl ⟨by rfl, fun w _ => by go_simp⟩) ?_
      simp only [Act.put, List.setIfInBounds_toArray, List.set_cons_zero, List.set_cons_succ]
      refine takeH 9 12 (.slice c.aq c.ls c.cs) hHeld rfl rfl (by kernel_rfl) (by kernel_rfl) (by kernel_rfl) (fun _ _ _ h => h) (Or.inl ⟨by rfl, fun w hw => by have hw' : w.cell? ⟨g1, 66, none⟩ = some (.slice c.aq c.ls c.cs) := (fun hw => (HA.out _ hw).s) hw; go_simp⟩) ?_
      simp only [Act.put, List.setIfInBounds_toArray, List.set_cons_zero, List.set_cons_succ]
      refine wpAnyH_ready (rs := [10]) (by kernel_rfl) (by simp) (AllReadyH.cons rfl (fun K hK => ?_) AllReadyH.nil)
      rw [if_pos (by rfl)]
      go_simp
      refine (conD c.o c.nw c.m c.n c.aq c.ls c.cs c.S _ HO.out HI.out.bo HN.out ((HI.out.ds.below B1.out).below Z0.out)).mono ?_
      rintro e v1 ⟨rfl, hv1⟩
      rw [show conE c.o c.nw c.m c.n c.ls c.S = c.e1 from rfl]
      have Z1 := hide (Z0.out.trans (hv1.mono Z0.out.size))
      refine hK.out _ _ Z1.out (fun hHeld => ?_)
      clear hK K
      rw [h1]
      refine takeH 11 14 (.bool true) hHeld rfl rfl (by kernel_rfl) (by kernel_rfl) (by kernel_rfl) (fun _ _ _ h => h) (Or.inl ⟨by rfl, fun w _ => by go_simp⟩) ?_
      simp only [Act.put, List.setIfInBounds_toArray, List.set_cons_zero, List.set_cons_succ]
      refine takeH 12 15 (.bool true) hHeld rfl rfl (by kernel_rfl) (by kernel_rfl) (by kernel_rfl) (fun _ _ _ h => h) (Or.inl ⟨by rfl, fun w _ => by go_simp⟩) ?_
      simp only [Act.put, List.setIfInBounds_toArray, List.set_cons_zero, List.set_cons_succ]
      refine takeH 13 16 (.pointer (some ⟨g1, 68, none⟩)) hHeld rfl rfl (by kernel_rfl) (by kernel_rfl) (by kernel_rfl) (fun _ _ _ h => h) (Or.inl ⟨by rfl, fun w _ => by go_simp⟩) ?_
      simp only [Act.put, List.setIfInBounds_toArray, List.set_cons_zero, List.set_cons_succ]
      refine takeH 14 17 (.slice c.ax c.lx c.cx) hHeld rfl rfl (by kernel_rfl) (by kernel_rfl) (by kernel_rfl) (fun _ _ _ h => h) (Or.inl ⟨by rfl, fun w hw => by have hw' : w.cell? ⟨g1, 68, none⟩ = some (.slice c.ax c.lx c.cx) := (fun hw => (HA.out _ hw).x) hw; go_simp⟩) ?_
      simp only [Act.put, List.setIfInBounds_toArray, List.set_cons_zero, List.set_cons_succ]
      refine takeH 16 19 (.pointer (some ⟨g1, 67, none⟩)) hHeld rfl rfl (by kernel_rfl) (by kernel_rfl) (by kernel_rfl) (fun _ _ _ h => h) (Or.inl ⟨by rfl, fun w _ => by go_simp⟩) ?_
      simp only [Act.put, List.setIfInBounds_toArray, List.set_cons_zero, List.set_cons_succ]
      refine takeH 17 20 (.int .i64 c.i) hHeld rfl rfl (by kernel_rfl) (by kernel_rfl) (by kernel_rfl) (fun _ _ _ h => h) (Or.inl ⟨by rfl, fun w hw => by have hw' : w.cell? ⟨g1, 67, none⟩ = some (.int .i64 c.i) := (fun hw => (HA.out _ hw).i) hw; go_simp⟩) ?_
      simp only [Act.put, List.setIfInBounds_toArray, List.set_cons_zero, List.set_cons_succ]
      refine takeH 18 21 (.pointer (some ⟨g1, 0, none⟩)) hHeld rfl rfl (by kernel_rfl) (by kernel_rfl) (by kernel_rfl) (fun _ _ _ h => h) (Or.inl ⟨by rfl, fun w _ => by go_simp⟩) ?_
      simp only [Act.put, List.setIfInBounds_toArray, List.set_cons_zero, List.set_cons_succ]
      refine takeH 19 22 (.int .i64 c.m) hHeld rfl rfl (by kernel_rfl) (by kernel_rfl) (by kernel_rfl) (fun _ _ _ h => h) (Or.inl ⟨by rfl, fun w hw => by have hw' : w.cell? ⟨g1, 0, none⟩ = some (.int .i64 c.m) := (fun hw => (HA.out _ hw).m) hw; go_simp⟩) ?_
      simp only [Act.put, List.setIfInBounds_toArray, List.set_cons_zero, List.set_cons_succ]
      refine takeH 20 23 (.pointer (some ⟨g1, 70, none⟩)) hHeld rfl rfl (by kernel_rfl) (by kernel_rfl) (by kernel_rfl) (fun _ _ _ h => h) (Or.inl ⟨by rfl, fun w _ => by go_simp⟩) ?_
      simp only [Act.put, List.setIfInBounds_toArray, List.set_cons_zero, List.set_cons_succ]
      refine takeH 21 24 (.slice c.ao c.lo c.co) hHeld rfl rfl (by kernel_rfl) (by kernel_rfl) (by kernel_rfl) (fun _ _ _ h => h) (Or.inl ⟨by rfl, fun w hw => by have hw' : w.cell? ⟨g1, 70, none⟩ = some (.slice c.ao c.lo c.co) := (fun hw => (HA.out _ hw).o) hw; go_simp⟩) ?_
      simp only [Act.put, List.setIfInBounds_toArray, List.set_cons_zero, List.set_cons_succ]
      refine takeH 22 25 (.pointer (some ⟨g1, 2, none⟩)) hHeld rfl rfl (by kernel_rfl) (by kernel_rfl) (by kernel_rfl) (fun _ _ _ h => h) (Or.inl ⟨by rfl, fun w _ => by go_simp⟩) ?_
      simp only [Act.put, List.setIfInBounds_toArray, List.set_cons_zero, List.set_cons_succ]
      refine takeH 23 26 (.agg (u8s c.o).toArray) hHeld rfl rfl (by kernel_rfl) (by kernel_rfl) (by kernel_rfl) (fun _ _ _ h => h) (yieldsIf_load_mid (by rfl) _ _ rfl g1 2 rfl _ _ (HRO.out) hu rfl HI1.out) ?_
      simp only [Act.put, List.setIfInBounds_toArray, List.set_cons_zero, List.set_cons_succ]
      refine wpAnyH_ready (rs := [15]) (by kernel_rfl) (by simp) (AllReadyH.cons rfl (fun K hK => ?_) AllReadyH.nil)
      rw [if_pos (by rfl)]
      go_simp
      refine (leafR_any c.ax c.lx c.cx c.X _ ((HI.out.sx.below B1.out).below Z1.out) HI.out.hx).mono ?_
      rintro e v2 ⟨rfl, hv2⟩
      have Z2 := hide (Z1.out.trans (hv2.mono Z1.out.size))
      refine hK.out _ _ Z2.out (fun hHeld => ?_)
      clear hK K
      refine wpAnyH_ready (rs := [24]) (by kernel_rfl) (by simp) (AllReadyH.cons rfl (fun K hK => ?_) AllReadyH.nil)
      rw [if_pos (by rfl)]
      go_simp
      refine (incD (lf c.X) c.o c.i c.m c.ao c.lo c.co c.O _ (lf_length _) (lf_isB _) HO.out ((HI.out.dO.below B1.out).below Z2.out)).mono ?_
      rintro e v3 ⟨rfl, hv3⟩
      have Z3 := hide (Z2.out.trans (hv3.mono Z2.out.size))
      refine hK.out _ _ Z3.out (fun hHeld => ?_)
      clear hK K
      rw [he2]
      refine takeH 25 28 (.bool true) hHeld rfl rfl (by kernel_rfl) (by kernel_rfl) (by kernel_rfl) (fun _ _ _ h => h) (Or.inl ⟨by rfl, fun w _ => by go_simp⟩) ?_
      simp only [Act.put, List.setIfInBounds_toArray, List.set_cons_zero, List.set_cons_succ]
      refine takeH 26 29 (.bool true) hHeld rfl rfl (by kernel_rfl) (by kernel_rfl) (by kernel_rfl) (fun _ _ _ h => h) (Or.inl ⟨by rfl, fun w _ => by go_simp⟩) ?_
      simp only [Act.put, List.setIfInBounds_toArray, List.set_cons_zero, List.set_cons_succ]
      refine takeH 27 30 (.bool true) hHeld rfl rfl (by kernel_rfl) (by kernel_rfl) (by kernel_rfl) (fun _ _ _ h => h) (Or.inl ⟨by rfl, fun w _ => by go_simp⟩) ?_
      simp only [Act.put, List.setIfInBounds_toArray, List.set_cons_zero, List.set_cons_succ]
      refine takeH 28 31 (.pointer (some ⟨g1, 69, none⟩)) hHeld rfl rfl (by kernel_rfl) (by kernel_rfl) (by kernel_rfl) (fun _ _ _ h => h) (Or.inl ⟨by rfl, fun w _ => by go_simp⟩) ?_
      simp only [Act.put, List.setIfInBounds_toArray, List.set_cons_zero, List.set_cons_succ]
      refine takeH 29 32 (.slice c.ay c.ly c.cy) hHeld rfl rfl (by kernel_rfl) (by kernel_rfl) (by kernel_rfl) (fun _ _ _ h => h) (Or.inl ⟨by rfl, fun w hw => by have hw' : w.cell? ⟨g1, 69, none⟩ = some (.slice c.ay c.ly c.cy) := (fun hw => (HA.out _ hw).y) hw; go_simp⟩) ?_
      simp only [Act.put, List.setIfInBounds_toArray, List.set_cons_zero, List.set_cons_succ]
      refine takeH 31 34 (.pointer (some ⟨g1, 67, none⟩)) hHeld rfl rfl (by kernel_rfl) (by kernel_rfl) (by kernel_rfl) (fun _ _ _ h => h) (Or.inl ⟨by rfl, fun w _ => by go_simp⟩) ?_
      simp only [Act.put, List.setIfInBounds_toArray, List.set_cons_zero, List.set_cons_succ]
      refine takeH 32 35 (.int .i64 c.i) hHeld rfl rfl (by kernel_rfl) (by kernel_rfl) (by kernel_rfl) (fun _ _ _ h => h) (Or.inl ⟨by rfl, fun w hw => by have hw' : w.cell? ⟨g1, 67, none⟩ = some (.int .i64 c.i) := (fun hw => (HA.out _ hw).i) hw; go_simp⟩) ?_
      simp only [Act.put, List.setIfInBounds_toArray, List.set_cons_zero, List.set_cons_succ]
      refine takeH 33 36 (.pointer (some ⟨g1, 1, none⟩)) hHeld rfl rfl (by kernel_rfl) (by kernel_rfl) (by kernel_rfl) (fun _ _ _ h => h) (Or.inl ⟨by rfl, fun w _ => by go_simp⟩) ?_
      simp only [Act.put, List.setIfInBounds_toArray, List.set_cons_zero, List.set_cons_succ]
      refine takeH 34 37 (.int .i64 c.n) hHeld rfl rfl (by kernel_rfl) (by kernel_rfl) (by kernel_rfl) (fun _ _ _ h => h) (Or.inl ⟨by rfl, fun w hw => by have hw' : w.cell? ⟨g1, 1, none⟩ = some (.int .i64 c.n) := (fun hw => (HA.out _ hw).n) hw; go_simp⟩) ?_
      simp only [Act.put, List.setIfInBounds_toArray, List.set_cons_zero, List.set_cons_succ]
      refine takeH 35 38 (.pointer (some ⟨g1, 71, none⟩)) hHeld rfl rfl (by kernel_rfl) (by kernel_rfl) (by kernel_rfl) (fun _ _ _ h => h) (Or.inl ⟨by rfl, fun w _ => by go_simp⟩) ?_
      simp only [Act.put, List.setIfInBounds_toArray, List.set_cons_zero, List.set_cons_succ]
      refine takeH 36 39 (.slice c.an c.ln c.cn) hHeld rfl rfl (by kernel_rfl) (by kernel_rfl) (by kernel_rfl) (fun _ _ _ h => h) (Or.inl ⟨by rfl, fun w hw => by have hw' : w.cell? ⟨g1, 71, none⟩ = some (.slice c.an c.ln c.cn) := (fun hw => (HA.out _ hw).nn) hw; go_simp⟩) ?_
      simp only [Act.put, List.setIfInBounds_toArray, List.set_cons_zero, List.set_cons_succ]
      refine takeH 37 40 (.pointer (some ⟨g1, 34, none⟩)) hHeld rfl rfl (by kernel_rfl) (by kernel_rfl) (by kernel_rfl) (fun _ _ _ h => h) (Or.inl ⟨by rfl, fun w _ => by go_simp⟩) ?_
      simp only [Act.put, List.setIfInBounds_toArray, List.set_cons_zero, List.set_cons_succ]
      refine takeH 38 41 (.agg (u8s c.nw).toArray) hHeld rfl rfl (by kernel_rfl) (by kernel_rfl) (by kernel_rfl) (fun _ _ _ h => h) (yieldsIf_load_mid (by rfl) _ _ rfl g1 34 rfl _ _ (HRN.out) hu rfl HI2.out) ?_
      simp only [Act.put, List.setIfInBounds_toArray, List.set_cons_zero, List.set_cons_succ]
      refine wpAnyH_ready (rs := [30]) (by kernel_rfl) (by simp) (AllReadyH.cons rfl (fun K hK => ?_) AllReadyH.nil)
      rw [if_pos (by rfl)]
      go_simp
      refine (leafR_any c.ay c.ly c.cy c.Y _ ((HI.out.sy.below B1.out).below Z3.out) HI.out.hy).mono ?_
      rintro e v4 ⟨rfl, hv4⟩
      have Z4 := hide (Z3.out.trans (hv4.mono Z3.out.size))
      refine hK.out _ _ Z4.out (fun hHeld => ?_)
      clear hK K
      refine wpAnyH_ready (rs := [39]) (by kernel_rfl) (by simp) (AllReadyH.cons rfl (fun K hK => ?_) AllReadyH.nil)
      rw [if_pos (by rfl)]
      go_simp
      refine (incD (lf c.Y) c.nw c.i c.n c.an c.ln c.cn c.N _ (lf_length _) (lf_isB _) HN.out ((HI.out.dN.below B1.out).below Z4.out)).mono ?_
      rintro e v5 ⟨rfl, hv5⟩
      have Z5 := hide (Z4.out.trans (hv5.mono Z4.out.size))
      refine hK.out _ _ Z5.out (fun hHeld => ?_)
      clear hK K
      obtain ⟨E, hE⟩ : ∃ E, E = incE (lf c.Y) c.i c.n c.ln c.N c.nw := ⟨_, rfl⟩
      rw [← hE]
      refine takeH 40 43 (.bool (E == 0)) hHeld rfl rfl (by kernel_rfl) (by kernel_rfl) (by kernel_rfl) (fun _ _ _ h => h) (Or.inl ⟨by rfl, fun w _ => by go_simp⟩) ?_
      simp only [Act.put, List.setIfInBounds_toArray, List.set_cons_zero, List.set_cons_succ]
      refine takeH 41 44 (.bool (E == 0)) hHeld rfl rfl (by kernel_rfl) (by kernel_rfl) (by kernel_rfl) (fun _ _ _ h => h) (Or.inl ⟨by rfl, fun w _ => by go_simp⟩) ?_
      simp only [Act.put, List.setIfInBounds_toArray, List.set_cons_zero, List.set_cons_succ]
      refine takeH 42 2 (.bool (E == 0)) hHeld rfl rfl (by kernel_rfl) (by kernel_rfl) (by kernel_rfl) (fun _ _ _ h => h) (Or.inl ⟨by rfl, fun w _ => by go_simp⟩) ?_
      simp only [Act.put, List.setIfInBounds_toArray, List.set_cons_zero, List.set_cons_succ]
      refine wpAnyH_done (by kernel_rfl) ?_ _
      refine NoPanic.normal ?_
      clear hHeld hu
      go_wp2
      go_ret
      exact ⟨by rw [show c.b3 = (incE (lf c.Y) c.i c.n c.ln c.N c.nw == 0) from rfl, ← hE]; rfl, B1.out.trans (Z5.out.mono B1.out.size)⟩
    | false =>
      have he2 : ¬ incE (lf c.X) c.i c.m c.lo c.O c.o = 0 := by simpa [Cv.b2, incB] using hb2
      rw [Bool.false_and]
      go_enter Tryd.func10, Tryd.ntmps10
      go_wp2_with (refine step_box rfl rfl ?_)
      intro w1 g1 hr1 hl1 hb1
      have G1 := hide hr1
      have B1 := hide hb1
      clear hr1 hl1 hb1
      go_wp2_with fail
      refine wp_region_noPanic ?_
      have Z0 := hide ((Below.refl w1.heap.size w1).drew)
      have hu := aD.und
      have HI1 : Hid ((Tryd.prog.info? 23).map (·.size) = some (u8s c.o).length) := hide (by rw [wD.size, u8s_length, HO.out])
      have HI2 : Hid ((Tryd.prog.info? 23).map (·.size) = some (u8s c.nw).length) := hide (by rw [wD.size, u8s_length, HN.out])
      have HA : Hid (∀ v : World, Below w1.heap.size w1 v → c.At v g1) := hide (fun v hv => Cv.at (G1.out.on hv) HO.out HN.out)
      have HRO : Hid (∀ v : World, Below w1.heap.size w1 v → v.rangeAt g1 2 (u8s c.o)) := hide (fun v hv => (G1.out.on hv).range 2 (u8s c.o) (by rw [u8s_length, HO.out]; exact Cv.fO HO.out))
      have HRN : Hid (∀ v : World, Below w1.heap.size w1 v → v.rangeAt g1 34 (u8s c.nw)) := hide (fun v hv => (G1.out.on hv).range 34 (u8s c.nw) (by rw [u8s_length, HN.out]; exact Cv.fN HO.out HN.out))
      refine wp_region_held_drew (S := fun v : World => Below w1.heap.size w1 v) (by kernel_rfl) Z0.out (fun hHeld => ?_)
      refine takeH 0 3 (.pointer (some ⟨g1, 0, none⟩)) hHeld rfl rfl (by kernel_rfl) (by kernel_rfl) (by kernel_rfl) (fun _ _ _ h => h) (Or.inl ⟨by rfl, fun w _ => by go_simp⟩) ?_
      simp only [Act.put, List.setIfInBounds_toArray, List.set_cons_zero, List.set_cons_succ]
      refine takeH 1 4 (.int .i64 c.m) hHeld rfl rfl (by kernel_rfl) (by kernel_rfl) (by kernel_rfl) (fun _ _ _ h => h) (Or.inl ⟨by rfl, fun w hw => by have hw' : w.cell? ⟨g1, 0, none⟩ = some (.int .i64 c.m) := (fun hw => (HA.out _ hw).m) hw; go_simp⟩) ?_
      simp only [Act.put, List.setIfInBounds_toArray, List.set_cons_zero, List.set_cons_succ]
      refine takeH 2 5 (.pointer (some ⟨g1, 1, none⟩)) hHeld rfl rfl (by kernel_rfl) (by kernel_rfl) (by kernel_rfl) (fun _ _ _ h => h) (Or.inl ⟨by rfl, fun w _ => by go_simp⟩) ?_
      simp only [Act.put, List.setIfInBounds_toArray, List.set_cons_zero, List.set_cons_succ]
      refine takeH 3 6 (.int .i64 c.n) hHeld rfl rfl (by kernel_rfl) (by kernel_rfl) (by kernel_rfl) (fun _ _ _ h => h) (Or.inl ⟨by rfl, fun w hw => by have hw' : w.cell? ⟨g1, 1, none⟩ = some (.int .i64 c.n) := (fun hw => (HA.out _ hw).n) hw; go_simp⟩) ?_
      simp only [Act.put, List.setIfInBounds_toArray, List.set_cons_zero, List.set_cons_succ]
      refine takeH 4 7 (.pointer (some ⟨g1, 2, none⟩)) hHeld rfl rfl (by kernel_rfl) (by kernel_rfl) (by kernel_rfl) (fun _ _ _ h => h) (Or.inl ⟨by rfl, fun w _ => by go_simp⟩) ?_
      simp only [Act.put, List.setIfInBounds_toArray, List.set_cons_zero, List.set_cons_succ]
      refine takeH 5 8 (.agg (u8s c.o).toArray) hHeld rfl rfl (by kernel_rfl) (by kernel_rfl) (by kernel_rfl) (fun _ _ _ h => h) (yieldsIf_load_mid (by rfl) _ _ rfl g1 2 rfl _ _ (HRO.out) hu rfl HI1.out) ?_
      simp only [Act.put, List.setIfInBounds_toArray, List.set_cons_zero, List.set_cons_succ]
      refine takeH 6 9 (.pointer (some ⟨g1, 34, none⟩)) hHeld rfl rfl (by kernel_rfl) (by kernel_rfl) (by kernel_rfl) (fun _ _ _ h => h) (Or.inl ⟨by rfl, fun w _ => by go_simp⟩) ?_
      simp only [Act.put, List.setIfInBounds_toArray, List.set_cons_zero, List.set_cons_succ]
      refine takeH 7 10 (.agg (u8s c.nw).toArray) hHeld rfl rfl (by kernel_rfl) (by kernel_rfl) (by kernel_rfl) (fun _ _ _ h => h) (yieldsIf_load_mid (by rfl) _ _ rfl g1 34 rfl _ _ (HRN.out) hu rfl HI2.out) ?_
      simp only [Act.put, List.setIfInBounds_toArray, List.set_cons_zero, List.set_cons_succ]
      refine takeH 8 11 (.pointer (some ⟨g1, 66, none⟩)) hHeld rfl rfl (by kernel_rfl) (by kernel_rfl) (by kernel_rfl) (fun _ _ _ h => h) (Or.inl ⟨by rfl, fun w _ => by go_simp⟩) ?_
      simp only [Act.put, List.setIfInBounds_toArray, List.set_cons_zero, List.set_cons_succ]
      refine takeH 9 12 (.slice c.aq c.ls c.cs) hHeld rfl rfl (by kernel_rfl) (by kernel_rfl) (by kernel_rfl) (fun _ _ _ h => h) (Or.inl ⟨by rfl, fun w hw => by have hw' : w.cell? ⟨g1, 66, none⟩ = some (.slice c.aq c.ls c.cs) := (fun hw => (HA.out _ hw).s) hw; go_simp⟩) ?_
      simp only [Act.put, List.setIfInBounds_toArray, List.set_cons_zero, List.set_cons_succ]
      refine wpAnyH_ready (rs := [10]) (by kernel_rfl) (by simp) (AllReadyH.cons rfl (fun K hK => ?_) AllReadyH.nil)
      rw [if_pos (by rfl)]
      go_simp
      refine (conD c.o c.nw c.m c.n c.aq c.ls c.cs c.S _ HO.out HI.out.bo HN.out ((HI.out.ds.below B1.out).below Z0.out)).mono ?_
      rintro e v1 ⟨rfl, hv1⟩
      rw [show conE c.o c.nw c.m c.n c.ls c.S = c.e1 from rfl]
      have Z1 := hide (Z0.out.trans (hv1.mono Z0.out.size))
      refine hK.out _ _ Z1.out (fun hHeld => ?_)
      clear hK K
      rw [h1]
      refine takeH 11 14 (.bool true) hHeld rfl rfl (by kernel_rfl) (by kernel_rfl) (by kernel_rfl) (fun _ _ _ h => h) (Or.inl ⟨by rfl, fun w _ => by go_simp⟩) ?_
      simp only [Act.put, List.setIfInBounds_toArray, List.set_cons_zero, List.set_cons_succ]
      refine takeH 12 15 (.bool true) hHeld rfl rfl (by kernel_rfl) (by kernel_rfl) (by kernel_rfl) (fun _ _ _ h => h) (Or.inl ⟨by rfl, fun w _ => by go_simp⟩) ?_
      simp only [Act.put, List.setIfInBounds_toArray, List.set_cons_zero, List.set_cons_succ]
      refine takeH 13 16 (.pointer (some ⟨g1, 68, none⟩)) hHeld rfl rfl (by kernel_rfl) (by kernel_rfl) (by kernel_rfl) (fun _ _ _ h => h) (Or.inl ⟨by rfl, fun w _ => by go_simp⟩) ?_
      simp only [Act.put, List.setIfInBounds_toArray, List.set_cons_zero, List.set_cons_succ]
      refine takeH 14 17 (.slice c.ax c.lx c.cx) hHeld rfl rfl (by kernel_rfl) (by kernel_rfl) (by kernel_rfl) (fun _ _ _ h => h) (Or.inl ⟨by rfl, fun w hw => by have hw' : w.cell? ⟨g1, 68, none⟩ = some (.slice c.ax c.lx c.cx) := (fun hw => (HA.out _ hw).x) hw; go_simp⟩) ?_
      simp only [Act.put, List.setIfInBounds_toArray, List.set_cons_zero, List.set_cons_succ]
      refine takeH 16 19 (.pointer (some ⟨g1, 67, none⟩)) hHeld rfl rfl (by kernel_rfl) (by kernel_rfl) (by kernel_rfl) (fun _ _ _ h => h) (Or.inl ⟨by rfl, fun w _ => by go_simp⟩) ?_
      simp only [Act.put, List.setIfInBounds_toArray, List.set_cons_zero, List.set_cons_succ]
      refine takeH 17 20 (.int .i64 c.i) hHeld rfl rfl (by kernel_rfl) (by kernel_rfl) (by kernel_rfl) (fun _ _ _ h => h) (Or.inl ⟨by rfl, fun w hw => by have hw' : w.cell? ⟨g1, 67, none⟩ = some (.int .i64 c.i) := (fun hw => (HA.out _ hw).i) hw; go_simp⟩) ?_
      simp only [Act.put, List.setIfInBounds_toArray, List.set_cons_zero, List.set_cons_succ]
      refine takeH 18 21 (.pointer (some ⟨g1, 0, none⟩)) hHeld rfl rfl (by kernel_rfl) (by kernel_rfl) (by kernel_rfl) (fun _ _ _ h => h) (Or.inl ⟨by rfl, fun w _ => by go_simp⟩) ?_
      simp only [Act.put, List.setIfInBounds_toArray, List.set_cons_zero, List.set_cons_succ]
      refine takeH 19 22 (.int .i64 c.m) hHeld rfl rfl (by kernel_rfl) (by kernel_rfl) (by kernel_rfl) (fun _ _ _ h => h) (Or.inl ⟨by rfl, fun w hw => by have hw' : w.cell? ⟨g1, 0, none⟩ = some (.int .i64 c.m) := (fun hw => (HA.out _ hw).m) hw; go_simp⟩) ?_
      simp only [Act.put, List.setIfInBounds_toArray, List.set_cons_zero, List.set_cons_succ]
      refine takeH 20 23 (.pointer (some ⟨g1, 70, none⟩)) hHeld rfl rfl (by kernel_rfl) (by kernel_rfl) (by kernel_rfl) (fun _ _ _ h => h) (Or.inl ⟨by rfl, fun w _ => by go_simp⟩) ?_
      simp only [Act.put, List.setIfInBounds_toArray, List.set_cons_zero, List.set_cons_succ]
      refine takeH 21 24 (.slice c.ao c.lo c.co) hHeld rfl rfl (by kernel_rfl) (by kernel_rfl) (by kernel_rfl) (fun _ _ _ h => h) (Or.inl ⟨by rfl, fun w hw => by have hw' : w.cell? ⟨g1, 70, none⟩ = some (.slice c.ao c.lo c.co) := (fun hw => (HA.out _ hw).o) hw; go_simp⟩) ?_
      simp only [Act.put, List.setIfInBounds_toArray, List.set_cons_zero, List.set_cons_succ]
      refine takeH 22 25 (.pointer (some ⟨g1, 2, none⟩)) hHeld rfl rfl (by kernel_rfl) (by kernel_rfl) (by kernel_rfl) (fun _ _ _ h => h) (Or.inl ⟨by rfl, fun w _ => by go_simp⟩) ?_
      simp only [Act.put, List.setIfInBounds_toArray, List.set_cons_zero, List.set_cons_succ]
      refine takeH 23 26 (.agg (u8s c.o).toArray) hHeld rfl rfl (by kernel_rfl) (by kernel_rfl) (by kernel_rfl) (fun _ _ _ h => h) (yieldsIf_load_mid (by rfl) _ _ rfl g1 2 rfl _ _ (HRO.out) hu rfl HI1.out) ?_
      simp only [Act.put, List.setIfInBounds_toArray, List.set_cons_zero, List.set_cons_succ]
      refine wpAnyH_ready (rs := [15]) (by kernel_rfl) (by simp) (AllReadyH.cons rfl (fun K hK => ?_) AllReadyH.nil)
      rw [if_pos (by rfl)]
      go_simp
      refine (leafR_any c.ax c.lx c.cx c.X _ ((HI.out.sx.below B1.out).below Z1.out) HI.out.hx).mono ?_
      rintro e v2 ⟨rfl, hv2⟩
      have Z2 := hide (Z1.out.trans (hv2.mono Z1.out.size))
      refine hK.out _ _ Z2.out (fun hHeld => ?_)
      clear hK K
      refine wpAnyH_ready (rs := [24]) (by kernel_rfl) (by simp) (AllReadyH.cons rfl (fun K hK => ?_) AllReadyH.nil)
      rw [if_pos (by rfl)]
      go_simp
      refine (incD (lf c.X) c.o c.i c.m c.ao c.lo c.co c.O _ (lf_length _) (lf_isB _) HO.out ((HI.out.dO.below B1.out).below Z2.out)).mono ?_
      rintro e v3 ⟨rfl, hv3⟩
      have Z3 := hide (Z2.out.trans (hv3.mono Z2.out.size))
      refine hK.out _ _ Z3.out (fun hHeld => ?_)
      clear hK K
      have he3 : (incE (lf c.X) c.i c.m c.lo c.O c.o == 0) = false := by simp [he2]
      refine takeH 25 28 (.bool false) hHeld rfl rfl (by kernel_rfl) (by kernel_rfl) (by kernel_rfl) (fun _ _ _ h => h) (Or.inl ⟨by rfl, fun w _ => by go_simp⟩) ?_
      simp only [Act.put, List.setIfInBounds_toArray, List.set_cons_zero, List.set_cons_succ]
      refine takeH 26 29 (.bool false) hHeld rfl rfl (by kernel_rfl) (by kernel_rfl) (by kernel_rfl) (fun _ _ _ h => h) (Or.inl ⟨by rfl, fun w _ => by go_simp⟩) ?_
      simp only [Act.put, List.setIfInBounds_toArray, List.set_cons_zero, List.set_cons_succ]
      refine takeH 27 30 (.bool false) hHeld rfl rfl (by kernel_rfl) (by kernel_rfl) (by kernel_rfl) (fun _ _ _ h => h) (Or.inl ⟨by rfl, fun w _ => by go_simp⟩) ?_
      simp only [Act.put, List.setIfInBounds_toArray, List.set_cons_zero, List.set_cons_succ]
      refine takeH 28 31 undef hHeld rfl rfl (by kernel_rfl) (by kernel_rfl) (by kernel_rfl) (fun _ _ _ h => h) (Or.inr ⟨by rfl, rfl⟩) ?_
      simp only [Act.put, List.setIfInBounds_toArray, List.set_cons_zero, List.set_cons_succ]
      refine takeH 29 32 undef hHeld rfl rfl (by kernel_rfl) (by kernel_rfl) (by kernel_rfl) (fun _ _ _ h => h) (Or.inr ⟨by rfl, rfl⟩) ?_
      simp only [Act.put, List.setIfInBounds_toArray, List.set_cons_zero, List.set_cons_succ]
      refine takeH 30 33 undef hHeld rfl rfl (by kernel_rfl) (by kernel_rfl) (by kernel_rfl) (fun _ _ _ h => h) (Or.inr ⟨by rfl, rfl⟩) ?_
      simp only [Act.put, List.setIfInBounds_toArray, List.set_cons_zero, List.set_cons_succ]
      refine takeH 31 34 undef hHeld rfl rfl (by kernel_rfl) (by kernel_rfl) (by kernel_rfl) (fun _ _ _ h => h) (Or.inr ⟨by rfl, rfl⟩) ?_
      simp only [Act.put, List.setIfInBounds_toArray, List.set_cons_zero, List.set_cons_succ]
      refine takeH 32 35 undef hHeld rfl rfl (by kernel_rfl) (by kernel_rfl) (by kernel_rfl) (fun _ _ _ h => h) (Or.inr ⟨by rfl, rfl⟩) ?_
      simp only [Act.put, List.setIfInBounds_toArray, List.set_cons_zero, List.set_cons_succ]
      refine takeH 33 36 undef hHeld rfl rfl (by kernel_rfl) (by kernel_rfl) (by kernel_rfl) (fun _ _ _ h => h) (Or.inr ⟨by rfl, rfl⟩) ?_
      simp only [Act.put, List.setIfInBounds_toArray, List.set_cons_zero, List.set_cons_succ]
      refine takeH 34 37 undef hHeld rfl rfl (by kernel_rfl) (by kernel_rfl) (by kernel_rfl) (fun _ _ _ h => h) (Or.inr ⟨by rfl, rfl⟩) ?_
      simp only [Act.put, List.setIfInBounds_toArray, List.set_cons_zero, List.set_cons_succ]
      refine takeH 35 38 undef hHeld rfl rfl (by kernel_rfl) (by kernel_rfl) (by kernel_rfl) (fun _ _ _ h => h) (Or.inr ⟨by rfl, rfl⟩) ?_
      simp only [Act.put, List.setIfInBounds_toArray, List.set_cons_zero, List.set_cons_succ]
      refine takeH 36 39 undef hHeld rfl rfl (by kernel_rfl) (by kernel_rfl) (by kernel_rfl) (fun _ _ _ h => h) (Or.inr ⟨by rfl, rfl⟩) ?_
      simp only [Act.put, List.setIfInBounds_toArray, List.set_cons_zero, List.set_cons_succ]
      refine takeH 37 40 undef hHeld rfl rfl (by kernel_rfl) (by kernel_rfl) (by kernel_rfl) (fun _ _ _ h => h) (Or.inr ⟨by rfl, rfl⟩) ?_
      simp only [Act.put, List.setIfInBounds_toArray, List.set_cons_zero, List.set_cons_succ]
      refine takeH 38 41 undef hHeld rfl rfl (by kernel_rfl) (by kernel_rfl) (by kernel_rfl) (fun _ _ _ h => h) (Or.inr ⟨by rfl, rfl⟩) ?_
      simp only [Act.put, List.setIfInBounds_toArray, List.set_cons_zero, List.set_cons_succ]
      refine takeH 39 42 undef hHeld rfl rfl (by kernel_rfl) (by kernel_rfl) (by kernel_rfl) (fun _ _ _ h => h) (Or.inr ⟨by rfl, rfl⟩) ?_
      simp only [Act.put, List.setIfInBounds_toArray, List.set_cons_zero, List.set_cons_succ]
      refine takeH 40 43 undef hHeld rfl rfl (by kernel_rfl) (by kernel_rfl) (by kernel_rfl) (fun _ _ _ h => h) (Or.inr ⟨by rfl, rfl⟩) ?_
      simp only [Act.put, List.setIfInBounds_toArray, List.set_cons_zero, List.set_cons_succ]
      refine takeH 41 44 (.bool false) hHeld rfl rfl (by kernel_rfl) (by kernel_rfl) (by kernel_rfl) (fun _ _ _ h => h) (Or.inl ⟨by rfl, fun w _ => by go_simp⟩) ?_
      simp only [Act.put, List.setIfInBounds_toArray, List.set_cons_zero, List.set_cons_succ]
      refine takeH 42 2 (.bool false) hHeld rfl rfl (by kernel_rfl) (by kernel_rfl) (by kernel_rfl) (fun _ _ _ h => h) (Or.inl ⟨by rfl, fun w _ => by go_simp⟩) ?_
      simp only [Act.put, List.setIfInBounds_toArray, List.set_cons_zero, List.set_cons_succ]
      refine wpAnyH_done (by kernel_rfl) ?_ _
      refine NoPanic.normal ?_
      clear hHeld hu
      go_wp2
      go_ret
      exact ⟨rfl, B1.out.trans (Z3.out.mono B1.out.size)⟩
  · have HF : Hid (c.acc = false) := hide (by unfold Cv.acc; simp [h1])
    rw [HF.out]
    go_enter Tryd.func10, Tryd.ntmps10
    go_wp2_with (refine step_box rfl rfl ?_)
    intro w1 g1 hr1 hl1 hb1
    have G1 := hide hr1
    have B1 := hide hb1
    clear hr1 hl1 hb1
    go_wp2_with fail
    refine wp_region_noPanic ?_
    have Z0 := hide ((Below.refl w1.heap.size w1).drew)
    have hu := aD.und
    have HI1 : Hid ((Tryd.prog.info? 23).map (·.size) = some (u8s c.o).length) := hide (by rw [wD.size, u8s_length, HO.out])
    have HI2 : Hid ((Tryd.prog.info? 23).map (·.size) = some (u8s c.nw).length) := hide (by rw [wD.size, u8s_length, HN.out])
    have HA : Hid (∀ v : World, Below w1.heap.size w1 v → c.At v g1) := hide (fun v hv => Cv.at (G1.out.on hv) HO.out HN.out)
    have HRO : Hid (∀ v : World, Below w1.heap.size w1 v → v.rangeAt g1 2 (u8s c.o)) := hide (fun v hv => (G1.out.on hv).range 2 (u8s c.o) (by rw [u8s_length, HO.out]; exact Cv.fO HO.out))
    have HRN : Hid (∀ v : World, Below w1.heap.size w1 v → v.rangeAt g1 34 (u8s c.nw)) := hide (fun v hv => (G1.out.on hv).range 34 (u8s c.nw) (by rw [u8s_length, HN.out]; exact Cv.fN HO.out HN.out))
    refine wp_region_held_drew (S := fun v : World => Below w1.heap.size w1 v) (by kernel_rfl) Z0.out (fun hHeld => ?_)
    refine takeH 0 3 (.pointer (some ⟨g1, 0, none⟩)) hHeld rfl rfl (by kernel_rfl) (by kernel_rfl) (by kernel_rfl) (fun _ _ _ h => h) (Or.inl ⟨by rfl, fun w _ => by go_simp⟩) ?_
    simp only [Act.put, List.setIfInBounds_toArray, List.set_cons_zero, List.set_cons_succ]
    refine takeH 1 4 (.int .i64 c.m) hHeld rfl rfl (by kernel_rfl) (by kernel_rfl) (by kernel_rfl) (fun _ _ _ h => h) (Or.inl ⟨by rfl, fun w hw => by have hw' : w.cell? ⟨g1, 0, none⟩ = some (.int .i64 c.m) := (fun hw => (HA.out _ hw).m) hw; go_simp⟩) ?_
    simp only [Act.put, List.setIfInBounds_toArray, List.set_cons_zero, List.set_cons_succ]
    refine takeH 2 5 (.pointer (some ⟨g1, 1, none⟩)) hHeld rfl rfl (by kernel_rfl) (by kernel_rfl) (by kernel_rfl) (fun _ _ _ h => h) (Or.inl ⟨by rfl, fun w _ => by go_simp⟩) ?_
    simp only [Act.put, List.setIfInBounds_toArray, List.set_cons_zero, List.set_cons_succ]
    refine takeH 3 6 (.int .i64 c.n) hHeld rfl rfl (by kernel_rfl) (by kernel_rfl) (by kernel_rfl) (fun _ _ _ h => h) (Or.inl ⟨by rfl, fun w hw => by have hw' : w.cell? ⟨g1, 1, none⟩ = some (.int .i64 c.n) := (fun hw => (HA.out _ hw).n) hw; go_simp⟩) ?_
    simp only [Act.put, List.setIfInBounds_toArray, List.set_cons_zero, List.set_cons_succ]
    refine takeH 4 7 (.pointer (some ⟨g1, 2, none⟩)) hHeld rfl rfl (by kernel_rfl) (by kernel_rfl) (by kernel_rfl) (fun _ _ _ h => h) (Or.inl ⟨by rfl, fun w _ => by go_simp⟩) ?_
    simp only [Act.put, List.setIfInBounds_toArray, List.set_cons_zero, List.set_cons_succ]
    refine takeH 5 8 (.agg (u8s c.o).toArray) hHeld rfl rfl (by kernel_rfl) (by kernel_rfl) (by kernel_rfl) (fun _ _ _ h => h) (yieldsIf_load_mid (by rfl) _ _ rfl g1 2 rfl _ _ (HRO.out) hu rfl HI1.out) ?_
    simp only [Act.put, List.setIfInBounds_toArray, List.set_cons_zero, List.set_cons_succ]
    refine takeH 6 9 (.pointer (some ⟨g1, 34, none⟩)) hHeld rfl rfl (by kernel_rfl) (by kernel_rfl) (by kernel_rfl) (fun _ _ _ h => h) (Or.inl ⟨by rfl, fun w _ => by go_simp⟩) ?_
    simp only [Act.put, List.setIfInBounds_toArray, List.set_cons_zero, List.set_cons_succ]
    refine takeH 7 10 (.agg (u8s c.nw).toArray) hHeld rfl rfl (by kernel_rfl) (by kernel_rfl) (by kernel_rfl) (fun _ _ _ h => h) (yieldsIf_load_mid (by rfl) _ _ rfl g1 34 rfl _ _ (HRN.out) hu rfl HI2.out) ?_
    simp only [Act.put, List.setIfInBounds_toArray, List.set_cons_zero, List.set_cons_succ]
    refine takeH 8 11 (.pointer (some ⟨g1, 66, none⟩)) hHeld rfl rfl (by kernel_rfl) (by kernel_rfl) (by kernel_rfl) (fun _ _ _ h => h) (Or.inl ⟨by rfl, fun w _ => by go_simp⟩) ?_
    simp only [Act.put, List.setIfInBounds_toArray, List.set_cons_zero, List.set_cons_succ]
    refine takeH 9 12 (.slice c.aq c.ls c.cs) hHeld rfl rfl (by kernel_rfl) (by kernel_rfl) (by kernel_rfl) (fun _ _ _ h => h) (Or.inl ⟨by rfl, fun w hw => by have hw' : w.cell? ⟨g1, 66, none⟩ = some (.slice c.aq c.ls c.cs) := (fun hw => (HA.out _ hw).s) hw; go_simp⟩) ?_
    simp only [Act.put, List.setIfInBounds_toArray, List.set_cons_zero, List.set_cons_succ]
    refine wpAnyH_ready (rs := [10]) (by kernel_rfl) (by simp) (AllReadyH.cons rfl (fun K hK => ?_) AllReadyH.nil)
    rw [if_pos (by rfl)]
    go_simp
    refine (conD c.o c.nw c.m c.n c.aq c.ls c.cs c.S _ HO.out HI.out.bo HN.out ((HI.out.ds.below B1.out).below Z0.out)).mono ?_
    rintro e v1 ⟨rfl, hv1⟩
    rw [show conE c.o c.nw c.m c.n c.ls c.S = c.e1 from rfl]
    have Z1 := hide (Z0.out.trans (hv1.mono Z0.out.size))
    refine hK.out _ _ Z1.out (fun hHeld => ?_)
    clear hK K
    have he3 : (c.e1 == 0) = false := by simp [h1]
    refine takeH 11 14 (.bool false) hHeld rfl rfl (by kernel_rfl) (by kernel_rfl) (by kernel_rfl) (fun _ _ _ h => h) (Or.inl ⟨by rfl, fun w _ => by go_simp⟩) ?_
    simp only [Act.put, List.setIfInBounds_toArray, List.set_cons_zero, List.set_cons_succ]
    refine takeH 12 15 (.bool false) hHeld rfl rfl (by kernel_rfl) (by kernel_rfl) (by kernel_rfl) (fun _ _ _ h => h) (Or.inl ⟨by rfl, fun w _ => by go_simp⟩) ?_
    simp only [Act.put, List.setIfInBounds_toArray, List.set_cons_zero, List.set_cons_succ]
    refine takeH 13 16 undef hHeld rfl rfl (by kernel_rfl) (by kernel_rfl) (by kernel_rfl) (fun _ _ _ h => h) (Or.inr ⟨by rfl, rfl⟩) ?_
    simp only [Act.put, List.setIfInBounds_toArray, List.set_cons_zero, List.set_cons_succ]
    refine takeH 14 17 undef hHeld rfl rfl (by kernel_rfl) (by kernel_rfl) (by kernel_rfl) (fun _ _ _ h => h) (Or.inr ⟨by rfl, rfl⟩) ?_
    simp only [Act.put, List.setIfInBounds_toArray, List.set_cons_zero, List.set_cons_succ]
    refine takeH 15 18 undef hHeld rfl rfl (by kernel_rfl) (by kernel_rfl) (by kernel_rfl) (fun _ _ _ h => h) (Or.inr ⟨by rfl, rfl⟩) ?_
    simp only [Act.put, List.setIfInBounds_toArray, List.set_cons_zero, List.set_cons_succ]
    refine takeH 16 19 undef hHeld rfl rfl (by kernel_rfl) (by kernel_rfl) (by kernel_rfl) (fun _ _ _ h => h) (Or.inr ⟨by rfl, rfl⟩) ?_
    simp only [Act.put, List.setIfInBounds_toArray, List.set_cons_zero, List.set_cons_succ]
    refine takeH 17 20 undef hHeld rfl rfl (by kernel_rfl) (by kernel_rfl) (by kernel_rfl) (fun _ _ _ h => h) (Or.inr ⟨by rfl, rfl⟩) ?_
    simp only [Act.put, List.setIfInBounds_toArray, List.set_cons_zero, List.set_cons_succ]
    refine takeH 18 21 undef hHeld rfl rfl (by kernel_rfl) (by kernel_rfl) (by kernel_rfl) (fun _ _ _ h => h) (Or.inr ⟨by rfl, rfl⟩) ?_
    simp only [Act.put, List.setIfInBounds_toArray, List.set_cons_zero, List.set_cons_succ]
    refine takeH 19 22 undef hHeld rfl rfl (by kernel_rfl) (by kernel_rfl) (by kernel_rfl) (fun _ _ _ h => h) (Or.inr ⟨by rfl, rfl⟩) ?_
    simp only [Act.put, List.setIfInBounds_toArray, List.set_cons_zero, List.set_cons_succ]
    refine takeH 20 23 undef hHeld rfl rfl (by kernel_rfl) (by kernel_rfl) (by kernel_rfl) (fun _ _ _ h => h) (Or.inr ⟨by rfl, rfl⟩) ?_
    simp only [Act.put, List.setIfInBounds_toArray, List.set_cons_zero, List.set_cons_succ]
    refine takeH 21 24 undef hHeld rfl rfl (by kernel_rfl) (by kernel_rfl) (by kernel_rfl) (fun _ _ _ h => h) (Or.inr ⟨by rfl, rfl⟩) ?_
    simp only [Act.put, List.setIfInBounds_toArray, List.set_cons_zero, List.set_cons_succ]
    refine takeH 22 25 undef hHeld rfl rfl (by kernel_rfl) (by kernel_rfl) (by kernel_rfl) (fun _ _ _ h => h) (Or.inr ⟨by rfl, rfl⟩) ?_
    simp only [Act.put, List.setIfInBounds_toArray, List.set_cons_zero, List.set_cons_succ]
    refine takeH 23 26 undef hHeld rfl rfl (by kernel_rfl) (by kernel_rfl) (by kernel_rfl) (fun _ _ _ h => h) (Or.inr ⟨by rfl, rfl⟩) ?_
    simp only [Act.put, List.setIfInBounds_toArray, List.set_cons_zero, List.set_cons_succ]
    refine takeH 24 27 undef hHeld rfl rfl (by kernel_rfl) (by kernel_rfl) (by kernel_rfl) (fun _ _ _ h => h) (Or.inr ⟨by rfl, rfl⟩) ?_
    simp only [Act.put, List.setIfInBounds_toArray, List.set_cons_zero, List.set_cons_succ]
    refine takeH 25 28 undef hHeld rfl rfl (by kernel_rfl) (by kernel_rfl) (by kernel_rfl) (fun _ _ _ h => h) (Or.inr ⟨by rfl, rfl⟩) ?_
    simp only [Act.put, List.setIfInBounds_toArray, List.set_cons_zero, List.set_cons_succ]
    refine takeH 26 29 (.bool false) hHeld rfl rfl (by kernel_rfl) (by kernel_rfl) (by kernel_rfl) (fun _ _ _ h => h) (Or.inl ⟨by rfl, fun w _ => by go_simp⟩) ?_
    simp only [Act.put, List.setIfInBounds_toArray, List.set_cons_zero, List.set_cons_succ]
    refine takeH 27 30 (.bool false) hHeld rfl rfl (by kernel_rfl) (by kernel_rfl) (by kernel_rfl) (fun _ _ _ h => h) (Or.inl ⟨by rfl, fun w _ => by go_simp⟩) ?_
    simp only [Act.put, List.setIfInBounds_toArray, List.set_cons_zero, List.set_cons_succ]
    refine takeH 28 31 undef hHeld rfl rfl (by kernel_rfl) (by kernel_rfl) (by kernel_rfl) (fun _ _ _ h => h) (Or.inr ⟨by rfl, rfl⟩) ?_
    simp only [Act.put, List.setIfInBounds_toArray, List.set_cons_zero, List.set_cons_succ]
    refine takeH 29 32 undef hHeld rfl rfl (by kernel_rfl) (by kernel_rfl) (by kernel_rfl) (fun _ _ _ h => h) (Or.inr ⟨by rfl, rfl⟩) ?_
    simp only [Act.put, List.setIfInBounds_toArray, List.set_cons_zero, List.set_cons_succ]
    refine takeH 30 33 undef hHeld rfl rfl (by kernel_rfl) (by kernel_rfl) (by kernel_rfl) (fun _ _ _ h => h) (Or.inr ⟨by rfl, rfl⟩) ?_
    simp only [Act.put, List.setIfInBounds_toArray, List.set_cons_zero, List.set_cons_succ]
    refine takeH 31 34 undef hHeld rfl rfl (by kernel_rfl) (by kernel_rfl) (by kernel_rfl) (fun _ _ _ h => h) (Or.inr ⟨by rfl, rfl⟩) ?_
    simp only [Act.put, List.setIfInBounds_toArray, List.set_cons_zero, List.set_cons_succ]
    refine takeH 32 35 undef hHeld rfl rfl (by kernel_rfl) (by kernel_rfl) (by kernel_rfl) (fun _ _ _ h => h) (Or.inr ⟨by rfl, rfl⟩) ?_
    simp only [Act.put, List.setIfInBounds_toArray, List.set_cons_zero, List.set_cons_succ]
    refine takeH 33 36 undef hHeld rfl rfl (by kernel_rfl) (by kernel_rfl) (by kernel_rfl) (fun _ _ _ h => h) (Or.inr ⟨by rfl, rfl⟩) ?_
    simp only [Act.put, List.setIfInBounds_toArray, List.set_cons_zero, List.set_cons_succ]
    refine takeH 34 37 undef hHeld rfl rfl (by kernel_rfl) (by kernel_rfl) (by kernel_rfl) (fun _ _ _ h => h) (Or.inr ⟨by rfl, rfl⟩) ?_
    simp only [Act.put, List.setIfInBounds_toArray, List.set_cons_zero, List.set_cons_succ]
    refine takeH 35 38 undef hHeld rfl rfl (by kernel_rfl) (by kernel_rfl) (by kernel_rfl) (fun _ _ _ h => h) (Or.inr ⟨by rfl, rfl⟩) ?_
    simp only [Act.put, List.setIfInBounds_toArray, List.set_cons_zero, List.set_cons_succ]
    refine takeH 36 39 undef hHeld rfl rfl (by kernel_rfl) (by kernel_rfl) (by kernel_rfl) (fun _ _ _ h => h) (Or.inr ⟨by rfl, rfl⟩) ?_
    simp only [Act.put, List.setIfInBounds_toArray, List.set_cons_zero, List.set_cons_succ]
    refine takeH 37 40 undef hHeld rfl rfl (by kernel_rfl) (by kernel_rfl) (by kernel_rfl) (fun _ _ _ h => h) (Or.inr ⟨by rfl, rfl⟩) ?_
    simp only [Act.put, List.setIfInBounds_toArray, List.set_cons_zero, List.set_cons_succ]
    refine takeH 38 41 undef hHeld rfl rfl (by kernel_rfl) (by kernel_rfl) (by kernel_rfl) (fun _ _ _ h => h) (Or.inr ⟨by rfl, rfl⟩) ?_
    simp only [Act.put, List.setIfInBounds_toArray, List.set_cons_zero, List.set_cons_succ]
    refine takeH 39 42 undef hHeld rfl rfl (by kernel_rfl) (by kernel_rfl) (by kernel_rfl) (fun _ _ _ h => h) (Or.inr ⟨by rfl, rfl⟩) ?_
    simp only [Act.put, List.setIfInBounds_toArray, List.set_cons_zero, List.set_cons_succ]
    refine takeH 40 43 undef hHeld rfl rfl (by kernel_rfl) (by kernel_rfl) (by kernel_rfl) (fun _ _ _ h => h) (Or.inr ⟨by rfl, rfl⟩) ?_
    simp only [Act.put, List.setIfInBounds_toArray, List.set_cons_zero, List.set_cons_succ]
    refine takeH 41 44 (.bool false) hHeld rfl rfl (by kernel_rfl) (by kernel_rfl) (by kernel_rfl) (fun _ _ _ h => h) (Or.inl ⟨by rfl, fun w _ => by go_simp⟩) ?_
    simp only [Act.put, List.setIfInBounds_toArray, List.set_cons_zero, List.set_cons_succ]
    refine takeH 42 2 (.bool false) hHeld rfl rfl (by kernel_rfl) (by kernel_rfl) (by kernel_rfl) (fun _ _ _ h => h) (Or.inl ⟨by rfl, fun w _ => by go_simp⟩) ?_
    simp only [Act.put, List.setIfInBounds_toArray, List.set_cons_zero, List.set_cons_succ]
    refine wpAnyH_done (by kernel_rfl) ?_ _
    refine NoPanic.normal ?_
    clear hHeld hu
    go_wp2
    go_ret
    exact ⟨rfl, B1.out.trans (Z1.out.mono B1.out.size)⟩

end Go.Proofs.YtconeobaohmbnaaDoor
