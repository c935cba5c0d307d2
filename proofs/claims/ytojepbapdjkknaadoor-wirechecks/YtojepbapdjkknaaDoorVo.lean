/-
  The two roots that a consistency proof leads to: the program's.
-/
import Derived.Test.YtojepbapdjkknaaDoorVi
namespace Go.Proofs.YtojepbapdjkknaaDoor
open Go.RowKit
set_option linter.unusedVariables false

/-- The older root out of the first k digests. -/
def fo (hs xs d : List Int) : Nat → List Int
  | 0 => d
  | k + 1 => if hs.getD k 0 = 1 then nd (dat xs k) (fo hs xs d k) else fo hs xs d k
theorem fo_length {hs xs d : List Int} (h : d.length = 32) : ∀ k, (fo hs xs d k).length = 32
  | 0 => h
  | k + 1 => by unfold fo; split
                · exact nd_length _ _
                · exact fo_length h k
theorem fo_isB {hs xs d : List Int} (h : isB d) : ∀ k, isB (fo hs xs d k)
  | 0 => h
  | k + 1 => by unfold fo; split
                · exact nd_isB _ _
                · exact fo_isB h k
/-- The digest at which both begin. -/
def st0 (t : Nat) (d xs : List Int) : List Int := if t = 0 then d else dat xs 0
theorem st0_length {t n : Nat} {d xs : List Int} (hd : d.length = 32) (hx : xs.length = 32 * n) (h : t ≤ n) : (st0 t d xs).length = 32 := by
  unfold st0
  split
  · exact hd
  · exact dat_length hx (by omega)
theorem st0_isB {t : Nat} {d xs : List Int} (hd : isB d) (hx : isB xs) : isB (st0 t d xs) := by
  unfold st0
  split
  · exact hd
  · exact dat_isB hx 0
/-- What lies behind the first t. -/
theorem from_any {a : Option Addr} {l cap : Nat} {xs : List Int} {w0 : World} (t : Nat) (ht : t ≤ l) (hs : Ds w0 a l cap xs) :
    ∃ a' cap', (∀ v : World, (Instr.slice 22 (.slice a l cap) (some (.int .i64 (t : Int))) none none).run Tryd.prog v = .ok (.slice a' (l - t) cap') v) ∧ (∀ w : World, Ds w a l cap xs → Ds w a' (l - t) cap' (xs.drop (32 * t))) := by
  have hcl := hs.hcap
  refine ⟨if cap = t then a else a.map (·.add (t * 32)), cap - t, fun v => ?_, fun w hw => ?_⟩
  · rw [run_slice_l v _ _ _ _ undDs .i64 t (by omega) (by omega), elemDs, sizeDs]
    simp [sliced]
  · have hcap := hw.hcap
    have hmax := hw.hmax
    by_cases hc : cap = t
    · rw [if_pos hc]
      obtain rfl : t = l := by omega
      rw [show t - t = 0 by omega, List.drop_of_length_le (by rw [hw.hlen]; exact Nat.le_refl _)]
      exact ⟨by omega, by omega, fun h => by omega, rfl, Nat.le_refl _, by omega, by omega, (fun y hy => by cases hy), fun _ => by omega, fun h => by omega⟩
    · rw [if_neg hc]
      cases a with
      | none => exact absurd (hw.hnil rfl) (by omega)
      | some x =>
        by_cases h0 : l = 0
        · subst h0
          obtain rfl : t = 0 := by omega
          have hx := hw.hlen
          obtain rfl : xs = [] := List.eq_nil_of_length_eq_zero hx
          exact ⟨by omega, by omega, (fun e => by cases e), rfl, Nat.le_refl _, by omega, by omega, (fun y hy => by cases hy), (fun e => by cases e), fun h => by omega⟩
        · obtain ⟨b, o, e⟩ := hw.place (by omega)
          cases e
          have := hw.drop t ht
          simpa [Addr.add_lit, Nat.mul_comm] using this
theorem results_wwt {fn : Func} {p q u : Tmp} {T U : TypeId} (h : fn.results = #[.cell p T, .cell q U, .tmp u]) {n m : Nat} (hT : Wide T n) (hU : Wide U m) (tmps : Array Value) (w : World)
    {g g' : Nat} {t t' : TypeId} {cs cs' : List Value} (hp : tmps.getD p undef = .pointer (some ⟨g, 0, none⟩)) (hq : tmps.getD q undef = .pointer (some ⟨g', 0, none⟩)) (hg : Blk w g t cs) (hg' : Blk w g' t' cs') (hl : cs.length = n) (hl' : cs'.length = m) :
    (results fn tmps).run Tryd.prog w = .ok (.tuple #[.agg cs.toArray, .agg cs'.toArray, tmps.getD u undef]) w := by
  have hp' : tmps[p]?.getD undef = .pointer (some ⟨g, 0, none⟩) := by simpa using hp
  have hq' : tmps[q]?.getD undef = .pointer (some ⟨g', 0, none⟩) := by simpa using hq
  obtain ⟨d, hu, hd⟩ := hT.und
  obtain ⟨d', hu', hd'⟩ := hU.und
  simp [results, h, hp', hq', asAddr, run_loadVar_mid w g 0 T cs d (hg.range 0 cs (by simp)) hu hd (by rw [hT.size, hl]), run_loadVar_mid w g' 0 U cs' d' (hg'.range 0 cs' (by simp)) hu' hd' (by rw [hU.size, hl'])]

/-- What the loop keeps. -/
structure RS (w wr : World) (g8 g9 : Nat) (v : Value) (hs X Y : List Int) : Prop where
  own : OwnH wr w.heap.size v hs
  n8 : v.ownBlock ≠ some g8
  n9 : v.ownBlock ≠ some g9
  x : Blk wr g8 45 (u8s X)
  y : Blk wr g9 45 (u8s Y)
  bel : Below w.heap.size w wr
theorem RS.below {w wr w' : World} {g8 g9 : Nat} {v : Value} {hs X Y : List Int} (h : RS w wr g8 g9 v hs X Y) (hb : Below wr.heap.size wr w') : RS w w' g8 g9 v hs X Y :=
  ⟨h.own.below hb, h.n8, h.n9, h.x.on hb, h.y.on hb, on_below h.bel hb⟩
theorem RS.set8 {w wr w' : World} {g8 g9 : Nat} {v : Value} {hs X X' Y : List Int} (h : RS w wr g8 g9 v hs X Y) (hb : But g8 wr w') (hd : Blk w' g8 45 (u8s X')) (hg : w.heap.size ≤ g8) (h89 : g8 ≠ g9) : RS w w' g8 g9 v hs X' Y :=
  ⟨h.own.but hb h.n8, h.n8, h.n9, hd, h.y.but hb (Ne.symm h89), h.bel.trans (hb.below hg)⟩
theorem RS.set9 {w wr w' : World} {g8 g9 : Nat} {v : Value} {hs X Y Y' : List Int} (h : RS w wr g8 g9 v hs X Y) (hb : But g9 wr w') (hd : Blk w' g9 45 (u8s Y')) (hg : w.heap.size ≤ g9) (h89 : g8 ≠ g9) : RS w w' g8 g9 v hs X Y' :=
  ⟨h.own.but hb h.n9, h.n8, h.n9, h.x.but hb h89, hd, h.bel.trans (hb.below hg)⟩

set_option maxRecDepth 100000 in
set_option maxHeartbeats 1000000 in
theorem roots7_bad (d : List Int) (m n : Int) (a : Value) (w : World) (h : m < 1 ∨ n < m ∨ 281474976710656 < n) :
    Calls Tryd.prog 77 #[.agg (u8s d).toArray, .int .i64 m, .int .i64 n, a] w fun r w' => r = .returned (.tuple #[.agg (u8s (zer 32)).toArray, .agg (u8s (zer 32)).toArray, .int .i64 40]) ∧ Below w.heap.size w w' := by
  have H := hide (fun v => toPart_bad m n v h)
  clear h
  go_enter Tryd.func77, Tryd.ntmps77
  go_wp2_with (refine step_box rfl rfl ?_)
  intro w1 g4 hr1 hl1 hb1
  have G4 := hide hr1
  clear hr1
  go_wp2_with (refine step_alloc zD rfl ?_)
  intro w2 g8 hr2 hl2 hb2
  have G8 := hide hr2
  have G42 := hide (G4.out.on hb2)
  have B2 := hide (hb1.trans (hb2.mono hb1.size))
  have hw8 : w.heap.size ≤ g8 := Nat.le_trans hb1.size hl2
  clear hr2 hb1 hb2 G4
  go_wp2_with (refine step_alloc zD rfl ?_)
  intro w3 g9 hr3 hl3 hb3
  have G9 := hide hr3
  have G83 := hide (G8.out.on hb3)
  have G43 := hide (G42.out.on hb3)
  have h89 : g8 ≠ g9 := by have := G8.out.lt; omega
  have hw9 : w.heap.size ≤ g9 := Nat.le_trans B2.out.size hl3
  have B3 := hide (on_below B2.out hb3)
  clear hr3 hb3 G8 G42 B2
  go_wp2_with fail
  refine (H.out _).mono ?_
  rintro r w4 ⟨rfl, hb4⟩
  have G84 := hide (G83.out.on hb4)
  have G94 := hide (G9.out.on hb4)
  have B4 := hide (on_below B3.out hb4)
  clear hb4 G83 G9 B3
  go_wp2_with (first | (refine step_buildD rfl ?_) | (refine step_storeA wD rfl rfl rfl G84.out (by rw [u8s_length, zer_length]) (One.u8 _) rfl ?_))
  intro w5 hg5 hbut5
  have E8 := hide hg5
  have E9 := hide (G94.out.but hbut5 (Ne.symm h89))
  have EB := hide (B4.out.trans (hbut5.below hw8))
  clear hg5 hbut5
  go_wp2_with (refine step_storeA wD rfl rfl rfl E9.out (by rw [u8s_length, zer_length]) (One.u8 _) rfl ?_; intro w6 hg6 hbut6)
  refine bodyPost_ret (results_wwt rfl wD wD _ _ rfl rfl (E8.out.but hbut6 h89) hg6 (by rw [u8s_length, zer_length]) (by rw [u8s_length, zer_length])) rfl ⟨rfl, ?_⟩
  exact EB.out.trans (hbut6.below hw9)
set_option maxRecDepth 100000 in
set_option maxHeartbeats 1000000 in
theorem roots7_len (d : List Int) (m n : Nat) (a : Option Addr) (l cap : Nat) (w : World) (h0 : 1 ≤ m) (h1 : m ≤ n) (h2 : n ≤ 281474976710656) (hl : l ≠ (hvM m 0 n).length + ptM m 0 n) :
    Calls Tryd.prog 77 #[.agg (u8s d).toArray, .int .i64 (m : Int), .int .i64 (n : Int), .slice a l cap] w fun r w' => r = .returned (.tuple #[.agg (u8s (zer 32)).toArray, .agg (u8s (zer 32)).toArray, .int .i64 70]) ∧ Below w.heap.size w w' := by
  have H := hide (fun v => toPart_ok m n v h0 h1 h2)
  have hlen := hvM_few h0 (show 0 < m by omega) (show m ≤ 0 + n by omega) h2
  have hpt := ptM_le m 0 n
  have hl' : ((l : Int) != ((hvM m 0 n).length : Int) + (ptM m 0 n : Int)) = true := by simp; omega
  generalize hvM m 0 n = L at *
  generalize ptM m 0 n = T at *
  clear hl
  go_enter Tryd.func77, Tryd.ntmps77
  go_wp2_with (refine step_box rfl rfl ?_)
  intro w1 g4 hr1 hl1 hb1
  have G4 := hide hr1
  clear hr1
  go_wp2_with (refine step_alloc zD rfl ?_)
  intro w2 g8 hr2 hl2 hb2
  have G8 := hide hr2
  have G42 := hide (G4.out.on hb2)
  have B2 := hide (hb1.trans (hb2.mono hb1.size))
  have hw8 : w.heap.size ≤ g8 := Nat.le_trans hb1.size hl2
  clear hr2 hb1 hb2 G4
  go_wp2_with (refine step_alloc zD rfl ?_)
  intro w3 g9 hr3 hl3 hb3
  have G9 := hide hr3
  have G83 := hide (G8.out.on hb3)
  have G43 := hide (G42.out.on hb3)
  have h89 : g8 ≠ g9 := by have := G8.out.lt; omega
  have hw9 : w.heap.size ≤ g9 := Nat.le_trans B2.out.size hl3
  have B3 := hide (on_below B2.out hb3)
  clear hr3 hb3 G8 G42 B2
  go_wp2_with fail
  refine (H.out _).mono ?_
  rintro r w4 ⟨v4, rfl, ho4, hb4⟩
  obtain ⟨a4, c4, rfl⟩ := ho4.slice
  have G84 := hide (G83.out.on hb4)
  have G94 := hide (G9.out.on hb4)
  have B4 := hide (on_below B3.out hb4)
  clear hb4 G83 G9 B3 ho4
  go_wp2_with (first | (refine step_buildD rfl ?_) | (refine step_storeA wD rfl rfl rfl G84.out (by rw [u8s_length, zer_length]) (One.u8 _) rfl ?_))
  intro w5 hg5 hbut5
  have E8 := hide hg5
  have E9 := hide (G94.out.but hbut5 (Ne.symm h89))
  have EB := hide (B4.out.trans (hbut5.below hw8))
  clear hg5 hbut5
  go_wp2_with (refine step_storeA wD rfl rfl rfl E9.out (by rw [u8s_length, zer_length]) (One.u8 _) rfl ?_; intro w6 hg6 hbut6)
  refine bodyPost_ret (results_wwt rfl wD wD _ _ rfl rfl (E8.out.but hbut6 h89) hg6 (by rw [u8s_length, zer_length]) (by rw [u8s_length, zer_length])) rfl ⟨rfl, ?_⟩
  exact EB.out.trans (hbut6.below hw9)

end Go.Proofs.YtojepbapdjkknaaDoor
