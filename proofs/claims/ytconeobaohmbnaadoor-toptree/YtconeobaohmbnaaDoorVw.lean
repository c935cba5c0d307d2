/-
  The way down a tree, half by half: the program's loop.
-/
import Derived.Test.YtconeobaohmbnaaDoorVr
import Derived.Test.YtconeobaohmbnaaDoorVd
import Derived.Test.YtconeobaohmbnaaDoorBl
import Derived.Deep.LoopGhost
namespace Go.Proofs.YtconeobaohmbnaaDoor
open Go.RowKit
set_option linter.unusedVariables false

theorem zS : Zeroed 69 (c2 0 0) := fun _ _ _ _ _ _ _ => by kernel_rfl
theorem wS : Wide 69 2 := ⟨by kernel_rfl, by kernel_rfl⟩
theorem results_2wide {fn : Func} {p u : Tmp} {T : TypeId} (h : fn.results = #[.tmp u, .cell p T]) {n : Nat} (hT : Wide T n) (tmps : Array Value) (w : World)
    {g : Nat} {t : TypeId} {cs : List Value} (hp : tmps.getD p undef = .pointer (some ⟨g, 0, none⟩)) (hg : Blk w g t cs) (hl : cs.length = n) :
    (results fn tmps).run Tryd.prog w = .ok (.tuple #[tmps.getD u undef, .agg cs.toArray]) w := by
  have hp' : tmps[p]?.getD undef = .pointer (some ⟨g, 0, none⟩) := by simpa using hp
  obtain ⟨d, hu, hd⟩ := hT.und
  simp [results, h, hp', asAddr, run_loadVar_mid w g 0 T cs d (hg.range 0 cs (by simp)) hu hd (by rw [hT.size, hl])]
/-- The split of any size of a part. -/
theorem split_some (n : Nat) (h1 : 1 ≤ n) (hn : n ≤ 281474976710656) : ∃ k e : Nat, (∀ w : World, Calls Tryd.prog 37 #[.int .i64 (n : Int)] w fun r w' => r = .returned (.tuple #[.int .i64 (k : Int), .int .i64 (e : Int)]) ∧ w' = w) ∧ k ≤ n ∧ (2 ≤ n → hf n = k) := by
  rcases Nat.lt_or_ge n 2 with hlt | hge
  · exact ⟨0, 40, fun w => split_low (n : Int) w (by omega), by omega, by omega⟩
  · exact ⟨hf n, 0, fun w => split_any n w hge (by omega), Nat.le_of_lt (hf_bd n hge (by omega)).2.1, fun _ => rfl⟩
theorem reverse_but (B : Nat) (v : Value) (ns : List Int) (w : World) (hn2 : ns.length ≤ 1048576) (h : OwnH w B v ns) :
    Calls Tryd.prog 113 #[v] w fun r w' => (∃ x, r = .returned x) ∧ OwnH w' B v ns.reverse ∧ (∀ g t cs, v.ownBlock ≠ some g → Blk w g t cs → Blk w' g t cs) ∧ Below B w w' := by
  rcases h.lies with ⟨rfl, rfl⟩ | ⟨g, cap, cs, rfl, hg, _⟩
  · refine (reverse_nil w).mono ?_
    rintro r w' ⟨hr, rfl⟩
    exact ⟨hr, h, fun _ _ _ _ h => h, Below.refl _ _⟩
  · refine (reverse_own B g cap ns.length ns w rfl hn2 h).mono ?_
    rintro r w' ⟨hr, ho, hbut⟩
    exact ⟨hr, ho, fun k t cs hk hb => hb.but hbut (fun e => hk (by rw [e]; rfl)), hbut.below hg⟩
set_option maxRecDepth 100000 in
set_option maxHeartbeats 1000000 in
theorem wayDown_any (stop : Nat → Nat → Bool) (i N : Nat) (fid : FuncId) (cap : Value) (w : World) (hE : Ends stop i) (hi : i < N) (hN : N ≤ 281474976710656) (hcall : ∀ (x : Value) (v : World), (callFunc fid #[x, cap]).run Tryd.prog v = .ok (.enter fid #[x, cap]) v)
    (hmet : ∀ (v : World) (b n : Nat), Below w.heap.size w v → b + n ≤ 281474976710656 → Calls Tryd.prog fid #[.agg #[.int .i64 (b : Int), .int .i64 ((b + n : Nat) : Int)], cap] v fun r v' => r = .returned (.bool (stop b n)) ∧ Below v.heap.size v v') :
    Calls Tryd.prog 95 #[.int .i64 (i : Int), .int .i64 (N : Int), .func (.func fid) #[] #[cap]] w fun r w' => ∃ v, r = .returned (.tuple #[v, .agg (c2 ((dw stop i 0 N).2.1 : Int) ((dw stop i 0 N).2.2 : Int)).toArray]) ∧ OwnH w' w.heap.size v (dw stop i 0 N).1.reverse ∧ Below w.heap.size w w' := by
  have HM := hide hmet
  clear hmet
  go_enter Tryd.func95, Tryd.ntmps95
  go_wp2_with (refine step_alloc zS rfl ?_; intro w1 g1 hg1 hle1 hb1; have HG1 := hide hg1; clear hg1)
  go_step3
  go_wp2_with (refine step_storeA wS rfl rfl rfl HG1.out rfl (One.c2 0 (N : Int)) rfl ?_)
  intro w2 hg2 hbut2
  have B2 := hide (new_below (Below.refl _ _) hb1 hle1 hbut2)
  have G2 := hide hg2
  clear hg2 hbut2 hb1 HG1
  go_wp2
  go_step3
  go_wp2
  simp only [Act.put]
  go_loopg [6] N (fun n s6 wx => ∃ (b : Nat) (ps : List Int), Hid (WI stop i N b n ps) ∧ Hid (OwnH wx w.heap.size s6 ps) ∧ Hid (Blk wx g1 69 (c2 (b : Int) ((b + n : Nat) : Int))) ∧ Hid (s6.ownBlock ≠ some g1) ∧ Hid (Below w.heap.size w wx))
  case atStart => exact ⟨0, [], hide (WI.start hi hN), hide (OwnH.nil _ _), hide (by rw [Nat.zero_add]; exact G2.out), hide (by simp [Value.ownBlock]), B2⟩
  case round =>
    obtain ⟨b, ps, HI, HO, HG, HNE, HB⟩ := hrel
    obtain ⟨a6, l6, k6, rfl⟩ : ∃ a n c, u6 = Value.slice a n c := by rcases HO.out.lies with ⟨e1, _⟩ | ⟨_, _, _, e1, _⟩ <;> exact ⟨_, _, _, e1⟩
    have htop := HI.out.top
    have hlo := HI.out.lo
    have hhi := HI.out.hi
    obtain ⟨k, er, HSP, hkb, hk⟩ := split_some gk (by omega) (by omega)
    obtain ⟨e, he⟩ : ∃ e, b + gk = e := ⟨_, rfl⟩
    have HS : Hid (∀ v : World, Calls Tryd.prog 37 #[.int .i64 ((e : Int) - (b : Int))] v fun r w' => r = .returned (.tuple #[.int .i64 (k : Int), .int .i64 (er : Int)]) ∧ w' = v) := hide fun v => by
      have := HSP v
      rwa [show (gk : Int) = (e : Int) - (b : Int) by omega] at this
    clear HSP
    have hs1 : IntKind.i64.wrap ((b : Int) + (k : Int)) = ((b + k : Nat) : Int) := by rw [IntKind.wrap_i64]; omega
    have hs2 : IntKind.i64.wrap ((e : Int) - (b : Int)) = (e : Int) - (b : Int) := by rw [IntKind.wrap_i64]; omega
    obtain ⟨m, hm⟩ : ∃ m, b + k = m := ⟨_, rfl⟩
    rw [hm] at hs1
    rw [he] at HG
    have c0 := HG.out.two.1
    have c1 := HG.out.two.2
    go_wp2_with fail
    refine (HS.out _).mono ?_
    rintro r w' ⟨rfl, rfl⟩
    go_wp2_with fail
    have HMM : Hid (∀ v, Below w.heap.size w v → Calls Tryd.prog fid #[.agg #[.int .i64 (b : Int), .int .i64 (e : Int)], cap] v fun r v' => r = .returned (.bool (stop b gk)) ∧ Below v.heap.size v v') := hide fun v hv => by rw [← he]; exact HM.out v b gk hv (by omega)
    have HE := hide he
    have HMK := hide hm
    have HK := hide hk
    clear he hm hk
    by_cases hs : stop b gk = true
    · rw [hs] at HMM
      refine (HMM.out _ HB.out).mono ?_
      rintro r w4 ⟨rfl, hb4⟩
      have B4 := hide (on_below HB.out hb4)
      have G4 := hide (HG.out.on hb4)
      have O4 := hide (HO.out.below hb4)
      clear hb4 c0 c1 HB HG HO
      go_wp2_with fail
      have hlen9 : ps.length ≤ 1048576 := by have := HI.out.few; omega
      refine (reverse_but w.heap.size _ ps w4 hlen9 O4.out).mono ?_
      rintro r w5 ⟨⟨x, rfl⟩, ho5, hk5, hb5⟩
      have O5 := hide ho5
      have G5 := hide (hk5 g1 _ _ HNE.out G4.out)
      have B5 := hide (B4.out.trans hb5)
      clear ho5 hk5 hb5 G4 O4 B4
      go_wp2_with fail
      have F0 := G5.out.free 0
      have F1 := G5.out.free 1
      obtain ⟨c0, c1⟩ := G5.out.two
      have G6 : Blk ((w5.setCell ⟨g1, 0, none⟩ (.int .i64 (b : Int))).setCell ⟨g1, 1, none⟩ (.int .i64 (e : Int))).drew g1 69 (c2 (b : Int) (e : Int)) := (G5.out.set 0 _).set 1 _
      have BU : But g1 w5 ((w5.setCell ⟨g1, 0, none⟩ (.int .i64 (b : Int))).setCell ⟨g1, 1, none⟩ (.int .i64 (e : Int))).drew := (But.trans (But.setCell _ _ _ _) (But.setCell _ _ _ _)).trans ⟨rfl, rfl, rfl, rfl, fun _ _ => rfl⟩
      have GG := hide G6
      have BUT := hide BU
      clear G6 BU
      go_region_held3 (fun v : World => v.cell? ⟨g1, 0, none⟩ = some (.int .i64 (b : Int)) ∧ v.cell? ⟨g1, 1, none⟩ = some (.int .i64 (e : Int))) (first | exact ⟨c0, c1⟩ | exact GG.out.two) (fail)
      go_wp2
      rw [Exit.noGoto_ret]
      have hd := dw_stop (i := i) hs
      have hl := HI.out.last
      have ha := HI.out.all
      rw [hd] at hl ha
      simp only [List.append_nil] at ha
      refine bodyPost_ret (results_2wide rfl wS _ _ rfl GG.out rfl) rfl ⟨.slice a6 l6 k6, ?_, ?_, ?_⟩
      · rw [← hl, ← HE.out]; rfl
      · rw [← ha]
        exact O5.out.but BUT.out HNE.out
      · exact B5.out.trans (BUT.out.below hle1)
    · have hs' : stop b gk = false := by simpa using hs
      rw [hs'] at HMM
      have h2 := HI.out.two hE hs'
      have hkf : hf gk = k := HK.out h2
      have hh := hf_bd gk h2 (by omega)
      rw [hkf] at hh
      have HKF := hide hkf
      have hlen9 : ps.length ≤ 1048576 := by have := HI.out.few; omega
      clear hkf
      refine (HMM.out _ HB.out).mono ?_
      rintro r w4 ⟨rfl, hb4⟩
      have B4 := hide (on_below HB.out hb4)
      have G4 := hide (HG.out.on hb4)
      have O4 := hide (HO.out.below hb4)
      clear hb4 c0 c1 HB HG HO
      obtain ⟨c0, c1⟩ := G4.out.two
      by_cases hc : i < m
      · have hc' : (i : Int) < (m : Int) := by omega
        go_wp2_with (refine steponeH (n := 0) rfl rfl ?_)
        intro W1 g5 hg5 hle5 hb5
        have O5 := hide (O4.out.below hb5)
        have Y5 := hide hg5
        have G5 := hide (G4.out.on hb5)
        have B5 := hide (on_below B4.out hb5)
        clear hg5 hb5 O4 G4 B4 c0 c1
        go_wp2_with (refine stepappH (v := .slice a6 l6 k6) rfl rfl rfl O5.out Y5.out hlen9 B5.out.size ?_)
        intro v6 W6 ho6 hgr6 hat6
        have O6 := hide ho6
        have G6 := hide (G5.out.grew hgr6 HNE.out)
        have B6 := hide (B5.out.trans ((Below.refl _ _).grown hgr6 B5.out.size (fun k hk => (O5.out.lt k hk).1)))
        have HN7 : Hid (v6.ownBlock ≠ some g1) := hide (fun hk => by
          rcases hat6 g1 hk with h | h
          · exact HNE.out h
          · have := G5.out.lt
            omega)
        clear ho6 hgr6 hat6 O5 G5 B5 Y5
        have F0 := G6.out.free 1
        obtain ⟨c0, c1⟩ := G6.out.two
        go_wp2
        have G7 : Hid (Blk (W6.setCell ⟨g1, 1, none⟩ (.int .i64 (m : Int))) g1 69 (c2 (b : Int) (m : Int))) := hide (G6.out.set 1 _)
        have BU := But.setCell W6 g1 1 (.int .i64 (m : Int))
        have O7 := hide (O6.out.but BU HN7.out)
        have B7 := hide (B6.out.trans (BU.below hle1))
        clear BU
        go_roundg k
        case measure => omega
        case rel => exact ⟨b, ps ++ [0], hide (HI.out.lower hE hs' HKF.out (by rw [HMK.out]; exact hc)), O7, hide (by rw [HMK.out]; exact G7.out), hide HN7.out, B7⟩
      · have hc' : ¬ (i : Int) < (m : Int) := by omega
        go_wp2_with (refine steponeH (n := 1) rfl rfl ?_)
        intro W1 g5 hg5 hle5 hb5
        have O5 := hide (O4.out.below hb5)
        have Y5 := hide hg5
        have G5 := hide (G4.out.on hb5)
        have B5 := hide (on_below B4.out hb5)
        clear hg5 hb5 O4 G4 B4 c0 c1
        go_wp2_with (refine stepappH (v := .slice a6 l6 k6) rfl rfl rfl O5.out Y5.out hlen9 B5.out.size ?_)
        intro v6 W6 ho6 hgr6 hat6
        have O6 := hide ho6
        have G6 := hide (G5.out.grew hgr6 HNE.out)
        have B6 := hide (B5.out.trans ((Below.refl _ _).grown hgr6 B5.out.size (fun k hk => (O5.out.lt k hk).1)))
        have HN7 : Hid (v6.ownBlock ≠ some g1) := hide (fun hk => by
          rcases hat6 g1 hk with h | h
          · exact HNE.out h
          · have := G5.out.lt
            omega)
        clear ho6 hgr6 hat6 O5 G5 B5 Y5
        have F0 := G6.out.free 0
        obtain ⟨c0, c1⟩ := G6.out.two
        go_wp2
        have G7 : Hid (Blk (W6.setCell ⟨g1, 0, none⟩ (.int .i64 (m : Int))) g1 69 (c2 (m : Int) (e : Int))) := hide (G6.out.set 0 _)
        have BU := But.setCell W6 g1 0 (.int .i64 (m : Int))
        have O7 := hide (O6.out.but BU HN7.out)
        have B7 := hide (B6.out.trans (BU.below hle1))
        clear BU
        go_roundg (gk - k)
        case measure => omega
        case rel => exact ⟨m, ps ++ [1], hide (by rw [← HMK.out]; exact HI.out.upper hE hs' HKF.out (by rw [HMK.out]; exact hc)), O7, hide (by rw [show m + (gk - k) = e by have := HMK.out; have := HE.out; omega]; exact G7.out), hide HN7.out, B7⟩
set_option maxRecDepth 100000 in
set_option maxHeartbeats 1000000 in
theorem wayDown0_any (stop : Nat → Nat → Bool) (i N : Nat) (fid : FuncId)  (w : World) (hE : Ends stop i) (hi : i < N) (hN : N ≤ 281474976710656) (hcall : ∀ (x : Value) (v : World), (callFunc fid #[x]).run Tryd.prog v = .ok (.enter fid #[x]) v)
    (hmet : ∀ (v : World) (b n : Nat), Below w.heap.size w v → b + n ≤ 281474976710656 → Calls Tryd.prog fid #[.agg #[.int .i64 (b : Int), .int .i64 ((b + n : Nat) : Int)]] v fun r v' => r = .returned (.bool (stop b n)) ∧ Below v.heap.size v v') :
    Calls Tryd.prog 95 #[.int .i64 (i : Int), .int .i64 (N : Int), .func (.func fid) #[] #[]] w fun r w' => ∃ v, r = .returned (.tuple #[v, .agg (c2 ((dw stop i 0 N).2.1 : Int) ((dw stop i 0 N).2.2 : Int)).toArray]) ∧ OwnH w' w.heap.size v (dw stop i 0 N).1.reverse ∧ Below w.heap.size w w' := by
  have HM := hide hmet
  clear hmet
  go_enter Tryd.func95, Tryd.ntmps95
  go_wp2_with (refine step_alloc zS rfl ?_; intro w1 g1 hg1 hle1 hb1; have HG1 := hide hg1; clear hg1)
  go_step3
  go_wp2_with (refine step_storeA wS rfl rfl rfl HG1.out rfl (One.c2 0 (N : Int)) rfl ?_)
  intro w2 hg2 hbut2
  have B2 := hide (new_below (Below.refl _ _) hb1 hle1 hbut2)
  have G2 := hide hg2
  clear hg2 hbut2 hb1 HG1
  go_wp2
  go_step3
  go_wp2
  simp only [Act.put]
  go_loopg [6] N (fun n s6 wx => ∃ (b : Nat) (ps : List Int), Hid (WI stop i N b n ps) ∧ Hid (OwnH wx w.heap.size s6 ps) ∧ Hid (Blk wx g1 69 (c2 (b : Int) ((b + n : Nat) : Int))) ∧ Hid (s6.ownBlock ≠ some g1) ∧ Hid (Below w.heap.size w wx))
  case atStart => exact ⟨0, [], hide (WI.start hi hN), hide (OwnH.nil _ _), hide (by rw [Nat.zero_add]; exact G2.out), hide (by simp [Value.ownBlock]), B2⟩
  case round =>
    obtain ⟨b, ps, HI, HO, HG, HNE, HB⟩ := hrel
    obtain ⟨a6, l6, k6, rfl⟩ : ∃ a n c, u6 = Value.slice a n c := by rcases HO.out.lies with ⟨e1, _⟩ | ⟨_, _, _, e1, _⟩ <;> exact ⟨_, _, _, e1⟩
    have htop := HI.out.top
    have hlo := HI.out.lo
    have hhi := HI.out.hi
    obtain ⟨k, er, HSP, hkb, hk⟩ := split_some gk (by omega) (by omega)
    obtain ⟨e, he⟩ : ∃ e, b + gk = e := ⟨_, rfl⟩
    have HS : Hid (∀ v : World, Calls Tryd.prog 37 #[.int .i64 ((e : Int) - (b : Int))] v fun r w' => r = .returned (.tuple #[.int .i64 (k : Int), .int .i64 (er : Int)]) ∧ w' = v) := hide fun v => by
      have := HSP v
      rwa [show (gk : Int) = (e : Int) - (b : Int) by omega] at this
    clear HSP
    have hs1 : IntKind.i64.wrap ((b : Int) + (k : Int)) = ((b + k : Nat) : Int) := by rw [IntKind.wrap_i64]; omega
    have hs2 : IntKind.i64.wrap ((e : Int) - (b : Int)) = (e : Int) - (b : Int) := by rw [IntKind.wrap_i64]; omega
    obtain ⟨m, hm⟩ : ∃ m, b + k = m := ⟨_, rfl⟩
    rw [hm] at hs1
    rw [he] at HG
    have c0 := HG.out.two.1
    have c1 := HG.out.two.2
    go_wp2_with fail
    refine (HS.out _).mono ?_
    rintro r w' ⟨rfl, rfl⟩
    go_wp2_with fail
    have HMM : Hid (∀ v, Below w.heap.size w v → Calls Tryd.prog fid #[.agg #[.int .i64 (b : Int), .int .i64 (e : Int)]] v fun r v' => r = .returned (.bool (stop b gk)) ∧ Below v.heap.size v v') := hide fun v hv => by rw [← he]; exact HM.out v b gk hv (by omega)
    have HE := hide he
    have HMK := hide hm
    have HK := hide hk
    clear he hm hk
    by_cases hs : stop b gk = true
    · rw [hs] at HMM
      refine (HMM.out _ HB.out).mono ?_
      rintro r w4 ⟨rfl, hb4⟩
      have B4 := hide (on_below HB.out hb4)
      have G4 := hide (HG.out.on hb4)
      have O4 := hide (HO.out.below hb4)
      clear hb4 c0 c1 HB HG HO
      go_wp2_with fail
      have hlen9 : ps.length ≤ 1048576 := by have := HI.out.few; omega
      refine (reverse_but w.heap.size _ ps w4 hlen9 O4.out).mono ?_
      rintro r w5 ⟨⟨x, rfl⟩, ho5, hk5, hb5⟩
      have O5 := hide ho5
      have G5 := hide (hk5 g1 _ _ HNE.out G4.out)
      have B5 := hide (B4.out.trans hb5)
      clear ho5 hk5 hb5 G4 O4 B4
      go_wp2_with fail
      have F0 := G5.out.free 0
      have F1 := G5.out.free 1
      obtain ⟨c0, c1⟩ := G5.out.two
      have G6 : Blk ((w5.setCell ⟨g1, 0, none⟩ (.int .i64 (b : Int))).setCell ⟨g1, 1, none⟩ (.int .i64 (e : Int))).drew g1 69 (c2 (b : Int) (e : Int)) := (G5.out.set 0 _).set 1 _
      have BU : But g1 w5 ((w5.setCell ⟨g1, 0, none⟩ (.int .i64 (b : Int))).setCell ⟨g1, 1, none⟩ (.int .i64 (e : Int))).drew := (But.trans (But.setCell _ _ _ _) (But.setCell _ _ _ _)).trans ⟨rfl, rfl, rfl, rfl, fun _ _ => rfl⟩
      have GG := hide G6
      have BUT := hide BU
      clear G6 BU
      go_region_held3 (fun v : World => v.cell? ⟨g1, 0, none⟩ = some (.int .i64 (b : Int)) ∧ v.cell? ⟨g1, 1, none⟩ = some (.int .i64 (e : Int))) (first | exact ⟨c0, c1⟩ | exact GG.out.two) (fail)
      go_wp2
      rw [Exit.noGoto_ret]
      have hd := dw_stop (i := i) hs
      have hl := HI.out.last
      have ha := HI.out.all
      rw [hd] at hl ha
      simp only [List.append_nil] at ha
      refine bodyPost_ret (results_2wide rfl wS _ _ rfl GG.out rfl) rfl ⟨.slice a6 l6 k6, ?_, ?_, ?_⟩
      · rw [← hl, ← HE.out]; rfl
      · rw [← ha]
        exact O5.out.but BUT.out HNE.out
      · exact B5.out.trans (BUT.out.below hle1)
    · have hs' : stop b gk = false := by simpa using hs
      rw [hs'] at HMM
      have h2 := HI.out.two hE hs'
      have hkf : hf gk = k := HK.out h2
      have hh := hf_bd gk h2 (by omega)
      rw [hkf] at hh
      have HKF := hide hkf
      have hlen9 : ps.length ≤ 1048576 := by have := HI.out.few; omega
      clear hkf
      refine (HMM.out _ HB.out).mono ?_
      rintro r w4 ⟨rfl, hb4⟩
      have B4 := hide (on_below HB.out hb4)
      have G4 := hide (HG.out.on hb4)
      have O4 := hide (HO.out.below hb4)
      clear hb4 c0 c1 HB HG HO
      obtain ⟨c0, c1⟩ := G4.out.two
      by_cases hc : i < m
      · have hc' : (i : Int) < (m : Int) := by omega
        go_wp2_with (refine steponeH (n := 0) rfl rfl ?_)
        intro W1 g5 hg5 hle5 hb5
        have O5 := hide (O4.out.below hb5)
        have Y5 := hide hg5
        have G5 := hide (G4.out.on hb5)
        have B5 := hide (on_below B4.out hb5)
        clear hg5 hb5 O4 G4 B4 c0 c1
        go_wp2_with (refine stepappH (v := .slice a6 l6 k6) rfl rfl rfl O5.out Y5.out hlen9 B5.out.size ?_)
        intro v6 W6 ho6 hgr6 hat6
        have O6 := hide ho6
        have G6 := hide (G5.out.grew hgr6 HNE.out)
        have B6 := hide (B5.out.trans ((Below.refl _ _).grown hgr6 B5.out.size (fun k hk => (O5.out.lt k hk).1)))
        have HN7 : Hid (v6.ownBlock ≠ some g1) := hide (fun hk => by
          rcases hat6 g1 hk with h | h
          · exact HNE.out h
          · have := G5.out.lt
            omega)
        clear ho6 hgr6 hat6 O5 G5 B5 Y5
        have F0 := G6.out.free 1
        obtain ⟨c0, c1⟩ := G6.out.two
        go_wp2
        have G7 : Hid (Blk (W6.setCell ⟨g1, 1, none⟩ (.int .i64 (m : Int))) g1 69 (c2 (b : Int) (m : Int))) := hide (G6.out.set 1 _)
        have BU := But.setCell W6 g1 1 (.int .i64 (m : Int))
        have O7 := hide (O6.out.but BU HN7.out)
        have B7 := hide (B6.out.trans (BU.below hle1))
        clear BU
        go_roundg k
        case measure => omega
        case rel => exact ⟨b, ps ++ [0], hide (HI.out.lower hE hs' HKF.out (by rw [HMK.out]; exact hc)), O7, hide (by rw [HMK.out]; exact G7.out), hide HN7.out, B7⟩
      · have hc' : ¬ (i : Int) < (m : Int) := by omega
        go_wp2_with (refine steponeH (n := 1) rfl rfl ?_)
        intro W1 g5 hg5 hle5 hb5
        have O5 := hide (O4.out.below hb5)
        have Y5 := hide hg5
        have G5 := hide (G4.out.on hb5)
        have B5 := hide (on_below B4.out hb5)
        clear hg5 hb5 O4 G4 B4 c0 c1
        go_wp2_with (refine stepappH (v := .slice a6 l6 k6) rfl rfl rfl O5.out Y5.out hlen9 B5.out.size ?_)
        intro v6 W6 ho6 hgr6 hat6
        have O6 := hide ho6
        have G6 := hide (G5.out.grew hgr6 HNE.out)
        have B6 := hide (B5.out.trans ((Below.refl _ _).grown hgr6 B5.out.size (fun k hk => (O5.out.lt k hk).1)))
        have HN7 : Hid (v6.ownBlock ≠ some g1) := hide (fun hk => by
          rcases hat6 g1 hk with h | h
          · exact HNE.out h
          · have := G5.out.lt
            omega)
        clear ho6 hgr6 hat6 O5 G5 B5 Y5
        have F0 := G6.out.free 0
        obtain ⟨c0, c1⟩ := G6.out.two
        go_wp2
        have G7 : Hid (Blk (W6.setCell ⟨g1, 0, none⟩ (.int .i64 (m : Int))) g1 69 (c2 (m : Int) (e : Int))) := hide (G6.out.set 0 _)
        have BU := But.setCell W6 g1 0 (.int .i64 (m : Int))
        have O7 := hide (O6.out.but BU HN7.out)
        have B7 := hide (B6.out.trans (BU.below hle1))
        clear BU
        go_roundg (gk - k)
        case measure => omega
        case rel => exact ⟨m, ps ++ [1], hide (by rw [← HMK.out]; exact HI.out.upper hE hs' HKF.out (by rw [HMK.out]; exact hc)), O7, hide (by rw [show m + (gk - k) = e by have := HMK.out; have := HE.out; omega]; exact G7.out), hide HN7.out, B7⟩

end Go.Proofs.YtconeobaohmbnaaDoor
