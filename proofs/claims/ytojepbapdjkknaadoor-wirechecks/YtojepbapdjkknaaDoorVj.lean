/-
  The program's join, and the root that a proof leads to.
-/
import Derived.Test.YtojepbapdjkknaaDoorVf
import Derived.Test.YtojepbapdjkknaaDoorDa
namespace Go.Proofs.YtojepbapdjkknaaDoor
open Go.RowKit
set_option linter.unusedVariables false

/-- The digest of the part of which d has that half, and x the other one. -/
def jn (h : Int) (d x : List Int) : List Int := if h = 1 then nd x d else nd d x
theorem jn_length (h : Int) (d x : List Int) : (jn h d x).length = 32 := by unfold jn; split <;> exact nd_length _ _
theorem jn_isB (h : Int) (d x : List Int) : isB (jn h d x) := by unfold jn; split <;> exact nd_isB _ _
/-- What the first k digests of a proof lead to. -/
def fu (hs xs d : List Int) : Nat → List Int
  | 0 => d
  | k + 1 => jn (hs.getD k 0) (fu hs xs d k) (dat xs k)
theorem fu_length {hs xs d : List Int} (h : d.length = 32) : ∀ k, (fu hs xs d k).length = 32
  | 0 => h
  | k + 1 => jn_length _ _ _
theorem fu_isB {hs xs d : List Int} (h : isB d) : ∀ k, isB (fu hs xs d k)
  | 0 => h
  | k + 1 => jn_isB _ _ _
theorem wp_loadWG {dst : Option Tmp} {ty : TypeId} {pos : String} {aft : Array Edge} {gd : Option (Nat × Bool)} {a : Act} {w : World} {K : Act → World → Prop} {Q : Exit → Act → World → Prop} {T : TypeId} {n : Nat} (hT : Wide T n) {x : Operand} {g : Nat} {t : TypeId} {cs : List Value} (hx : a.eval x = .pointer (some ⟨g, 0, none⟩)) (hg : Blk w g t cs) (hn : cs.length = n)
    (h : K (a.put dst (.agg cs.toArray)) w) : Oper.wp Tryd.prog ⟨dst, .load T x, ty, pos, aft, gd⟩ a w K Q :=
  wp_loadW hT rfl hx hg cs hn (by rw [List.drop_zero, List.take_of_length_le (by omega)]) h
theorem spl_same (xs ys : List Int) (hx : xs.length = 32) (hy : ys.length = 32) : spl (u8s xs) (u8s ys) 0 = u8s ys := by
  unfold spl
  rw [List.drop_of_length_le (by rw [u8s_length, u8s_length]; omega)]
  simp

set_option maxRecDepth 100000 in
set_option maxHeartbeats 1000000 in
theorem join_any (h : Int) (d x : List Int) (w : World) (hd : d.length = 32) (hdb : isB d) (hx : x.length = 32) (hxb : isB x) (hk : KT w) :
    Calls Tryd.prog 95 #[.int .i64 h, .agg (u8s d).toArray, .agg (u8s x).toArray] w fun e w' => e = .returned (.agg (u8s (jn h d x)).toArray) ∧ Below w.heap.size w w' := by
  have HD := hide hd
  have HX := hide hx
  have HDB := hide hdb
  have HXB := hide hxb
  have HK := hide hk
  have HDU := hide (show (u8s d).length = 32 by rw [u8s_length, hd])
  have HXU := hide (show (u8s x).length = 32 by rw [u8s_length, hx])
  clear hd hx hdb hxb hk
  by_cases h1 : h = 1
  · subst h1
    rw [show jn 1 d x = nd x d from rfl]
    go_enter Tryd.func95, Tryd.ntmps95
    go_wp2_with (refine step_box rfl rfl ?_)
    intro w1 g4 hr1 hl1 hb1
    have G4 := hide hr1
    clear hr1
    go_wp2_with (refine step_box rfl rfl ?_)
    intro w2 g5 hr2 hl2 hb2
    have G5 := hide hr2
    have G42 := hide (G4.out.below hb2 G4.out.lt)
    clear hr2
    go_wp2_with (refine step_alloc zD rfl ?_)
    intro w3 g6 hr3 hl3 hb3
    have G6 := hide hr3
    have G53 := hide (G5.out.below hb3 G5.out.lt)
    have G43 := hide (G42.out.below hb3 G42.out.lt)
    have B3 := hide ((hb1.trans (hb2.mono hb1.size)).trans (hb3.mono (Nat.le_trans hb1.size hb2.size)))
    have hw6 : w.heap.size ≤ g6 := Nat.le_trans (Nat.le_trans hb1.size hb2.size) hl3
    clear hr3 hb1 hb2 hb3 G4 G42 G5
    go_wp2_with (first | (refine step_loadA wD rfl rfl G53.out HXU.out ?_) | (refine step_loadA wD rfl rfl G43.out HDU.out ?_) | fail)
    refine (node_any x d _ HX.out HXB.out HD.out HDB.out (HK.out.below B3.out HK.out.lt)).mono ?_
    rintro e w4 ⟨rfl, hb4⟩
    have G64 := hide (G6.out.below hb4 G6.out.lt)
    have HML := hide (show (u8s (nd x d)).length = 32 by rw [u8s_length, nd_length])
    go_wp2_with (refine step_storeA wD rfl rfl rfl G64.out HML.out (One.u8 _) rfl ?_; intro w5 hg5 hbut5)
    refine bodyPost_ret (results_wide rfl wD _ _ rfl hg5 HML.out) rfl ⟨rfl, ?_⟩
    exact (B3.out.trans (hb4.mono B3.out.size)).trans (hbut5.below hw6)
  · rw [show jn h d x = nd d x from if_neg h1]
    go_enter Tryd.func95, Tryd.ntmps95
    go_wp2_with (refine step_box rfl rfl ?_)
    intro w1 g4 hr1 hl1 hb1
    have G4 := hide hr1
    clear hr1
    go_wp2_with (refine step_box rfl rfl ?_)
    intro w2 g5 hr2 hl2 hb2
    have G5 := hide hr2
    have G42 := hide (G4.out.below hb2 G4.out.lt)
    clear hr2
    go_wp2_with (refine step_alloc zD rfl ?_)
    intro w3 g6 hr3 hl3 hb3
    have G6 := hide hr3
    have G53 := hide (G5.out.below hb3 G5.out.lt)
    have G43 := hide (G42.out.below hb3 G42.out.lt)
    have B3 := hide ((hb1.trans (hb2.mono hb1.size)).trans (hb3.mono (Nat.le_trans hb1.size hb2.size)))
    have hw6 : w.heap.size ≤ g6 := Nat.le_trans (Nat.le_trans hb1.size hb2.size) hl3
    clear hr3 hb1 hb2 hb3 G4 G42 G5
    go_wp2_with (first | (refine step_loadA wD rfl rfl G43.out HDU.out ?_) | (refine step_loadA wD rfl rfl G53.out HXU.out ?_) | fail)
    refine (node_any d x _ HD.out HDB.out HX.out HXB.out (HK.out.below B3.out HK.out.lt)).mono ?_
    rintro e w4 ⟨rfl, hb4⟩
    have G64 := hide (G6.out.below hb4 G6.out.lt)
    have HML := hide (show (u8s (nd d x)).length = 32 by rw [u8s_length, nd_length])
    go_wp2_with (refine step_storeA wD rfl rfl rfl G64.out HML.out (One.u8 _) rfl ?_; intro w5 hg5 hbut5)
    refine bodyPost_ret (results_wide rfl wD _ _ rfl hg5 HML.out) rfl ⟨rfl, ?_⟩
    exact (B3.out.trans (hb4.mono B3.out.size)).trans (hbut5.below hw6)

/-- What the loop keeps. -/
structure RM (w wr : World) (g8 g12 : Nat) (v : Value) (hs D : List Int) : Prop where
  own : OwnH wr w.heap.size v hs
  ne : v.ownBlock ≠ some g12
  res : Blk wr g8 45 (u8s (zer 32))
  d : Blk wr g12 45 (u8s D)
  bel : Below w.heap.size w wr
theorem RM.below {w wr w' : World} {g8 g12 : Nat} {v : Value} {hs D : List Int} (h : RM w wr g8 g12 v hs D) (hb : Below wr.heap.size wr w') : RM w w' g8 g12 v hs D :=
  ⟨h.own.below hb, h.ne, h.res.on hb, h.d.on hb, on_below h.bel hb⟩
theorem RM.set {w wr w' : World} {g8 g12 : Nat} {v : Value} {hs D D' : List Int} (h : RM w wr g8 g12 v hs D) (hb : But g12 wr w') (hd : Blk w' g12 45 (u8s D')) (hg : w.heap.size ≤ g12) (h8 : g8 ≠ g12) : RM w w' g8 g12 v hs D' :=
  ⟨h.own.but hb h.ne, h.ne, h.res.but hb h8, hd, h.bel.trans (hb.below hg)⟩

set_option maxRecDepth 100000 in
set_option maxHeartbeats 1000000 in
theorem root7_bad (leaf : List Int) (i n : Int) (a : Value) (w : World) (h : i < 0 ∨ n ≤ i ∨ 281474976710656 < n) :
    Calls Tryd.prog 74 #[.agg (u8s leaf).toArray, .int .i64 i, .int .i64 n, a] w fun r w' => r = .returned (.tuple #[.agg (u8s (zer 32)).toArray, .int .i64 40]) ∧ Below w.heap.size w w' := by
  have H := hide (fun v => toLeaf_bad i n v h)
  clear h
  go_enter Tryd.func74, Tryd.ntmps74
  go_wp2_with (refine step_box rfl rfl ?_)
  intro w1 g4 hr1 hl1 hb1
  have G4 := hide hr1
  clear hr1
  go_wp2_with (refine step_alloc zD rfl ?_)
  intro w2 g8 hr2 hl2 hb2
  have G8 := hide hr2
  have G42 := hide (G4.out.below hb2 G4.out.lt)
  have B2 := hide (hb1.trans (hb2.mono hb1.size))
  have hw8 : w.heap.size ≤ g8 := Nat.le_trans hb1.size hl2
  clear hr2 hb1 hb2 G4
  go_wp2_with fail
  refine (H.out _).mono ?_
  rintro r w3 ⟨rfl, hb3⟩
  have G83 := hide (G8.out.on hb3)
  have B3 := hide (on_below B2.out hb3)
  clear hb3
  go_wp2_with (first | (refine step_buildD rfl ?_) | (refine step_storeA wD rfl rfl rfl G83.out (by rw [u8s_length, zer_length]) (One.u8 _) rfl ?_; intro w4 hg4 hbut4))
  refine bodyPost_ret (results_wide2 rfl wD _ _ rfl hg4 (by rw [u8s_length, zer_length])) rfl ⟨rfl, ?_⟩
  exact B3.out.trans (hbut4.below hw8)
set_option maxRecDepth 100000 in
set_option maxHeartbeats 1000000 in
theorem root7_len (leaf : List Int) (i n : Nat) (a : Option Addr) (l cap : Nat) (w : World) (h1 : i < n) (h2 : n ≤ 281474976710656) (hl : l ≠ (hvL i 0 n).length) :
    Calls Tryd.prog 74 #[.agg (u8s leaf).toArray, .int .i64 (i : Int), .int .i64 (n : Int), .slice a l cap] w fun r w' => r = .returned (.tuple #[.agg (u8s (zer 32)).toArray, .int .i64 70]) ∧ Below w.heap.size w w' := by
  have H := hide (fun v => toLeaf_ok i n v h1 h2)
  have hl' : ((l : Int) != ((hvL i 0 n).length : Int)) = true := by simp; omega
  generalize hvL i 0 n = L at *
  go_enter Tryd.func74, Tryd.ntmps74
  go_wp2_with (refine step_box rfl rfl ?_)
  intro w1 g4 hr1 hl1 hb1
  have G4 := hide hr1
  clear hr1
  go_wp2_with (refine step_alloc zD rfl ?_)
  intro w2 g8 hr2 hl2 hb2
  have G8 := hide hr2
  have G42 := hide (G4.out.below hb2 G4.out.lt)
  have B2 := hide (hb1.trans (hb2.mono hb1.size))
  have hw8 : w.heap.size ≤ g8 := Nat.le_trans hb1.size hl2
  clear hr2 hb1 hb2 G4
  go_wp2_with fail
  refine (H.out _).mono ?_
  rintro r w3 ⟨v3, rfl, ho3, hb3⟩
  obtain ⟨a3, c3, rfl⟩ := ho3.slice
  have G83 := hide (G8.out.on hb3)
  have B3 := hide (on_below B2.out hb3)
  clear hb3 ho3
  go_wp2_with (first | (refine step_buildD rfl ?_) | (refine step_storeA wD rfl rfl rfl G83.out (by rw [u8s_length, zer_length]) (One.u8 _) rfl ?_; intro w4 hg4 hbut4))
  refine bodyPost_ret (results_wide2 rfl wD _ _ rfl hg4 (by rw [u8s_length, zer_length])) rfl ⟨rfl, ?_⟩
  exact B3.out.trans (hbut4.below hw8)
set_option maxRecDepth 100000 in
set_option maxHeartbeats 2000000 in
theorem root7_ok (leaf : List Int) (i n : Nat) (a : Option Addr) (l cap : Nat) (xs : List Int) (w : World) (h1 : i < n) (h2 : n ≤ 281474976710656) (hl : l = (hvL i 0 n).length) (hlf : leaf.length = 32) (hlb : isB leaf) (hs : Ds w a l cap xs) (hk : KT w) :
    Calls Tryd.prog 74 #[.agg (u8s leaf).toArray, .int .i64 (i : Int), .int .i64 (n : Int), .slice a l cap] w fun r w' => r = .returned (.tuple #[.agg (u8s (fu (hvL i 0 n) xs leaf l)).toArray, .int .i64 0]) ∧ Below w.heap.size w w' := by
  have H := hide (fun v => toLeaf_ok i n v h1 h2)
  have hlen := hvL_few (Nat.zero_le i) (show i < 0 + n by omega) h2
  have HS := hide hs
  have HK := hide hk
  have HLL := hide (show (u8s leaf).length = 32 by rw [u8s_length, hlf])
  have HFL := hide (fun k => fu_length (hs := hvL i 0 n) (xs := xs) hlf k)
  have HFB := hide (fun k => fu_isB (hs := hvL i 0 n) (xs := xs) hlb k)
  generalize hvL i 0 n = L at *
  have HLN : Hid (L.length = l) := hide hl.symm
  rw [← hl] at hlen
  clear hs hk hlf hlb hl
  go_enter Tryd.func74, Tryd.ntmps74
  go_wp2_with (refine step_box rfl rfl ?_)
  intro w1 g4 hr1 hl1 hb1
  have G4 := hide hr1
  clear hr1
  go_wp2_with (refine step_alloc zD rfl ?_)
  intro w2 g8 hr2 hl2 hb2
  have G8 := hide hr2
  have G42 := hide (G4.out.below hb2 G4.out.lt)
  have B2 := hide (hb1.trans (hb2.mono hb1.size))
  have hw8 : w.heap.size ≤ g8 := Nat.le_trans hb1.size hl2
  clear hr2 hb1 hb2 G4
  go_wp2_with fail
  refine (H.out _).mono ?_
  rintro r w3 ⟨v3, rfl, ho3, hb3⟩
  obtain ⟨a3, c3, rfl⟩ := ho3.slice
  rw [HLN.out] at ho3 ⊢
  have G83 := hide (G8.out.on hb3)
  have G43 := hide (G42.out.on hb3)
  have O3 := hide (ho3.lower B2.out.size)
  have B3 := hide (on_below B2.out hb3)
  have hs23 := hb3.size
  clear hb3 ho3 G8 G42
  go_wp2_with (first | (refine step_loadA wD rfl rfl G43.out HLL.out ?_) | (refine step_alloc zD rfl ?_))
  intro w4 g12 hr4 hl4 hb4
  have G12 := hide hr4
  have h812 : g8 ≠ g12 := by have := G83.out.lt; omega
  clear hr4
  go_wp2_with (refine step_storeA wD rfl rfl rfl G12.out HLL.out (One.u8 _) rfl ?_)
  intro w5 hg5 hbut5
  have hw12 : w.heap.size ≤ g12 := Nat.le_trans B3.out.size hl4
  have R5 : Hid (RM w w5 g8 g12 (.slice a3 l c3) L leaf) := hide ⟨(O3.out.below hb4).but hbut5 (fun hk => by have := (O3.out.lt _ hk).2; omega), fun hk => by have := (O3.out.lt _ hk).2; omega, (G83.out.on hb4).but hbut5 h812, hg5, new_below B3.out hb4 hl4 hbut5⟩
  clear hg5 hbut5 hb4 G12 O3 B3 G83 G43
  go_wp2
  go_loopw [34] (fun s wr => ∃ k : Nat, k ≤ l ∧ s = .int .i64 (k : Int) ∧ RM w wr g8 g12 (.slice a3 l c3) L (fu L xs leaf k)) (fun s _ => l - (intOf s).toNat)
  case atStart => exact ⟨0, by omega, rfl, R5.out⟩
  case round =>
    obtain ⟨k, hkl, rfl, hR⟩ := hrel
    have R := hide hR
    clear hR R5
    by_cases hlt : k < l
    · have hlt' : (k : Int) < (l : Int) := by omega
      obtain ⟨b, o, rfl⟩ := HS.out.place (by omega)
      have hat := d_at b o l cap k (k : Int) rfl hlt
      have HDL := hide (dat_length HS.out.hlen hlt)
      have HDB := hide (dat_isB HS.out.hbyte k)
      have HUL := hide (show (u8s (dat xs k)).length = 32 by rw [u8s_length, HDL.out])
      have HRG := hide ((HS.out.below R.out.bel).range k hlt)
      obtain ⟨h, hh⟩ : ∃ h, L[k]? = some h := ⟨_, List.getElem?_eq_getElem (show k < L.length by rw [HLN.out]; exact hlt)⟩
      have HNX : Hid (fu L xs leaf (k + 1) = jn h (fu L xs leaf k) (dat xs k)) := hide (by show jn (L.getD k 0) _ _ = _; rw [List.getD, hh]; rfl)
      obtain ⟨gH, rfl⟩ : ∃ gH, a3 = some ⟨gH, 0, none⟩ := by
        rcases R.out.own.lies with ⟨e, h0⟩ | ⟨g, c, cs, e, _⟩
        · rw [h0] at hh; cases hh
        · injection e with e1 _ _; exact ⟨g, e1⟩
      have HFL2 := hide (HFL.out k)
      have HFB2 := hide (HFB.out k)
      generalize fu L xs leaf k = Dk at *
      go_wp2_with (first | (refine step_loadR wD rfl rfl _ HRG.out HUL.out ?_) | (refine step_alloc zD rfl ?_))
      intro w6 g14 hr6 hl6 hb6
      have G14 := hide hr6
      clear hr6
      go_wp2_with (refine step_storeA wD rfl rfl rfl G14.out HUL.out (One.u8 _) rfl ?_)
      intro w7 hg7 hbut7
      have hn14 : g12 ≠ g14 := by have := R.out.d.lt; omega
      have B67 := hide (hb6.trans (hbut7.below hl6))
      have R7 := hide (R.out.below B67.out)
      have G7 := hide hg7
      clear hg7 hbut7 hb6 G14 R HRG hat B67
      go_wp2_with fail
      refine wp_region_noPanic ?_
      have R0 := hide (R7.out.below ((Below.refl _ _).drew))
      have G0 := hide (G7.out.on ((Below.refl _ _).drew))
      have hu := aD.und
      have HI1 : Hid ((Tryd.prog.info? 45).map (·.size) = some (u8s (dat xs k)).length) := hide (by rw [wD.size, HUL.out])
      have hS : ∀ v : World, OwnH v w.heap.size (.slice (some ⟨gH, 0, none⟩) l c3) L → Blk v g14 45 (u8s (dat xs k)) → v.cell? ⟨gH, k, none⟩ = some (.int .i64 h) ∧ v.rangeAt g14 0 (u8s (dat xs k)) := fun v h1 h2 => ⟨h1.cell k h hh, h2.range 0 _ (by simp)⟩
      refine wp_region_held_drew (S := fun v : World => v.cell? ⟨gH, k, none⟩ = some (.int .i64 h) ∧ v.rangeAt g14 0 (u8s (dat xs k))) (by kernel_rfl) (hS _ R0.out.own G0.out) (fun hHeld => ?_)
      refine takeH 0 39 (.slice (some ⟨gH, 0, none⟩) l c3) hHeld rfl rfl (by kernel_rfl) (by kernel_rfl) (by kernel_rfl) (fun _ _ _ h => h) (Or.inl ⟨by rfl, fun w _ => by go_simp⟩) ?_
      simp only [Act.put, List.setIfInBounds_toArray, List.set_cons_zero, List.set_cons_succ]
      refine takeH 1 40 (.int .i64 (k : Int)) hHeld rfl rfl (by kernel_rfl) (by kernel_rfl) (by kernel_rfl) (fun _ _ _ h => h) (Or.inl ⟨by rfl, fun w _ => by go_simp⟩) ?_
      simp only [Act.put, List.setIfInBounds_toArray, List.set_cons_zero, List.set_cons_succ]
      refine takeH 2 41 (.pointer (some ⟨gH, k, none⟩)) hHeld rfl rfl (by kernel_rfl) (by kernel_rfl) (by kernel_rfl) (fun _ _ _ h => h) (Or.inl ⟨by rfl, fun w _ => run_op rfl ((atH gH l c3 k _ rfl hlt) w)⟩) ?_
      simp only [Act.put, List.setIfInBounds_toArray, List.set_cons_zero, List.set_cons_succ]
      refine takeH 3 42 (.int .i64 h) hHeld rfl rfl (by kernel_rfl) (by kernel_rfl) (by kernel_rfl) (fun _ _ _ h => h) (Or.inl ⟨by rfl, fun w hw => by have hw' : w.cell? ⟨gH, k, none⟩ = some (.int .i64 h) := (fun h => h.1) hw; go_simp⟩) ?_
      simp only [Act.put, List.setIfInBounds_toArray, List.set_cons_zero, List.set_cons_succ]
      refine takeH 5 44 (.agg (u8s (dat xs k)).toArray) hHeld rfl rfl (by kernel_rfl) (by kernel_rfl) (by kernel_rfl) (fun _ _ _ h => h) (yieldsIf_load_mid (by rfl) _ _ rfl g14 0 rfl _ _ (fun w h => h.2) hu rfl HI1.out) ?_
      simp only [Act.put, List.setIfInBounds_toArray, List.set_cons_zero, List.set_cons_succ]
      refine wpAnyH_ready (rs := [4]) (by kernel_rfl) (by simp) (AllReadyH.cons rfl (fun K hK => ?_) AllReadyH.nil)
      rw [if_pos (by rfl)]
      refine wp_loadWG wD rfl R0.out.d (by rw [u8s_length]; exact HFL2.out) ?_
      refine hK.out _ _ (hS _ R0.out.own G0.out) (fun hHeld => ?_)
      clear hK K
      simp only [Act.put]
      refine wpAnyH_ready (rs := [6]) (by kernel_rfl) (by simp) (AllReadyH.cons rfl (fun K hK => ?_) AllReadyH.nil)
      rw [if_pos (by rfl)]
      go_simp
      refine (join_any h Dk (dat xs k) _ HFL2.out HFB2.out HDL.out HDB.out (HK.out.below R0.out.bel HK.out.lt)).mono ?_
      rintro r v1 ⟨rfl, hv1⟩
      have R1 := hide (R0.out.below hv1)
      have G1 := hide (G0.out.on hv1)
      refine hK.out _ _ (hS _ R1.out.own G1.out) (fun hHeld => ?_)
      clear hK K
      refine wpAnyH_ready (rs := [7]) (by kernel_rfl) (by simp) (AllReadyH.cons rfl (fun K hK => ?_) AllReadyH.nil)
      rw [if_pos (by rfl)]
      refine wp_storeW wD rfl rfl rfl R1.out.d (by rw [u8s_length]; exact jn_length _ _ _) (One.u8 _) (by rw [u8s_length, HFL2.out]; omega) ?_
      intro v2 hgs hbuts
      rw [spl_same _ _ HFL2.out (jn_length _ _ _)] at hgs
      have R2 := hide (R1.out.set hbuts hgs hw12 h812)
      have G2 := hide (G1.out.but hbuts (Ne.symm hn14))
      refine hK.out _ _ (hS _ R2.out.own G2.out) (fun hHeld => ?_)
      clear hK K
      simp only [Act.put]
      refine wpAnyH_done (by kernel_rfl) ?_ _
      refine NoPanic.normal ?_
      clear hHeld hS hu
      go_wp2
      go_roundw
      case rel => exact ⟨k + 1, by omega, by simp, by rw [HNX.out]; exact R2.out⟩
      case measure => simp only [intOf]; omega
    · obtain rfl : k = l := by omega
      have hlt' : ¬ ((k : Int) < (k : Int)) := by omega
      have HRL := hide (show (u8s (fu L xs leaf k)).length = 32 by rw [u8s_length, HFL.out k])
      go_wp2_with (first | (refine step_loadA wD rfl rfl R.out.d HRL.out ?_) | (refine step_storeA wD rfl rfl rfl R.out.res HRL.out (One.u8 _) (by rw [u8s_length, zer_length]) ?_; intro w9 hg9 hbut9))
      refine bodyPost_ret (results_wide2 rfl wD _ _ rfl hg9 HRL.out) rfl ⟨rfl, ?_⟩
      exact R.out.bel.trans (hbut9.below hw8)

end Go.Proofs.YtojepbapdjkknaaDoor
