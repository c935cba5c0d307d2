/-
  The law's told: two answers, each new memory.
-/
import Derived.Test.YtmgabnlobeienaaDoorDa
namespace Go.Proofs.YtmgabnlobeienaaDoor
open Go.RowKit
set_option linter.unusedVariables false

section
variable {dst : Option Tmp} {ty : TypeId} {pos : String} {aft : Array Edge} {gd : Option (Nat × Bool)} {ops : Array Oper} {rest : List Oper} {a : Act} {w : World} {Q : Exit → Act → World → Prop}
theorem step_build9 (hw : Region.wanted ⟨dst, .build 24 #[(0, .const (.int .u8 9))], ty, pos, aft, gd⟩ (yielded ops a.tmps) = true)
    (h : wpList Tryd.prog ops Q rest (a.put dst (.agg (u8s (9 :: zer 31)).toArray)) w) : wpList Tryd.prog ops Q (⟨dst, .build 24 #[(0, .const (.int .u8 9))], ty, pos, aft, gd⟩ :: rest) a w :=
  step_run hw (.agg (u8s (9 :: zer 31)).toArray) w (by kernel_rfl) h
end
theorem Ds.but {g : Nat} {w w' : World} {a : Option Addr} {len cap : Nat} {xs : List Int} (h : Ds w a len cap xs) (hb : But g w w') (hk : ∀ x, a = some x → x.block ≠ g) : Ds w' a len cap xs :=
  ⟨h.hcap, h.hmax, h.hnil, h.sl.but hb (fun _ => hk)⟩
theorem splL (cs vs : List Value) (o : Nat) (h : o + vs.length ≤ cs.length) : (spl cs vs o).length = cs.length := by
  simp [spl]; omega

set_option maxRecDepth 100000 in
set_option maxHeartbeats 2000000 in
theorem told_zero (a : Option Addr) (cap : Nat) (ps : List Int) (ay : Option Addr) (cy : Nat) (aw : Option Addr) (cw : Nat) (w : World) (hx : Ds w a 0 cap ps) (hy : Ds w ay 0 cy ps) (hw : Ds w aw 0 cw ps) :
    Calls Tryd.prog 24 #[.slice a 0 cap, .slice ay 0 cy, .slice aw 0 cw] w fun e w' => e = .returned (.bool true) ∧ Below w.heap.size w w' := by
  have HX := hide hx
  have HY := hide hy
  have HW := hide hw
  clear hx hy hw
  go_enter Tryd.func24, Tryd.ntmps24
  go_wp2_with fail
  refine (same_any _ _ _ _ _ ps _ HX.out HW.out).mono ?_
  rintro r w1 ⟨rfl, hb1⟩
  have B1 := hide hb1
  have HY1 := hide (HY.out.below hb1)
  have HW1 := hide (HW.out.below hb1)
  clear hb1
  go_wp2
  go_loopw [7] (fun i wr => i = .int .i64 0 ∧ wr = w1) (fun i _ => 0)
  case atStart => exact ⟨rfl, rfl⟩
  case round =>
    obtain ⟨rfl, rfl⟩ := hrel
    go_wp2_with (go_at_call 21; refine (same_any _ _ _ _ _ ps _ HY1.out HW1.out).mono ?_; rintro r w2 ⟨rfl, hb2⟩)
    go_ret
    exact ⟨rfl, B1.out.trans (hb2.mono B1.out.size)⟩

set_option maxRecDepth 100000 in
set_option maxHeartbeats 2000000 in
theorem told_more (g q cap : Nat) (cs : List Value) (B : Nat) (ps : List Int) (ay : Option Addr) (cy : Nat) (aw : Option Addr) (cw : Nat) (w : World) (hx : Ds w (some ⟨g, 0, none⟩) q cap ps) (hg : Blk w g 24 cs) (hcs : 32 * q ≤ cs.length) (hB : B ≤ g) (hBw : B ≤ w.heap.size)
    (hy : Ds w ay q cy ps) (hw : Ds w aw q cw ps) (ny : ∀ x, ay = some x → x.block ≠ g) (nw : ∀ x, aw = some x → x.block ≠ g) :
    Calls Tryd.prog 24 #[.slice (some ⟨g, 0, none⟩) q cap, .slice ay q cy, .slice aw q cw] w fun e w' => e = .returned (.bool true) ∧ Below B w w' := by
  have HX := hide hx
  have HY := hide hy
  have HW := hide hw
  have hre := hx.hreach
  have HCS := hide hcs
  clear hx hy hw hcs
  go_enter Tryd.func24, Tryd.ntmps24
  go_wp2_with fail
  refine (same_any _ _ _ _ _ ps _ HX.out HW.out).mono ?_
  rintro r w1 ⟨rfl, hb1⟩
  have B1 := hide (hb1.mono hBw)
  have HY1 := hide (HY.out.below hb1)
  have HW1 := hide (HW.out.below hb1)
  have HG1 := hide (hg.below hb1 hg.lt)
  have hs1 := hb1.size
  clear hb1 hg HX HY HW
  go_wp2
  go_loopw [7] (fun i wr => ∃ k : Nat, k ≤ q ∧ i = .int .i64 k ∧ (∃ cs', Blk wr g 24 cs' ∧ cs'.length = cs.length) ∧ But g w1 wr) (fun i _ => q - (intOf i).toNat)
  case atStart => exact ⟨0, by omega, rfl, ⟨cs, HG1.out, rfl⟩, But.refl _ _⟩
  case round =>
    obtain ⟨k, hk, rfl, ⟨cs', hr, hl⟩, hbut⟩ := hrel
    have HR := hide hr
    have HL := hide hl
    have HBT := hide hbut
    clear hr hl hbut
    by_cases hlt : k < q
    · have hlt' : (k : Int) < (q : Int) := by omega
      have hat := d_at g 0 q cap k (k : Int) rfl hlt
      rw [Nat.zero_add] at hat
      go_wp2_with (first | (refine step_build9 rfl ?_) | (refine step_store wD rfl rfl rfl HR.out (by rw [u8s_length]; rfl) (One.u8 _) (by have := HCS.out; rw [HL.out]; omega) ?_; intro w3 hg3 hbut3))
      go_roundw
      case rel => exact ⟨k + 1, by omega, by go_num, ⟨_, hg3, by rw [splL _ _ _ (by have := HCS.out; rw [HL.out, u8s_length]; simp [zer]; omega), HL.out]⟩, HBT.out.trans hbut3⟩
      case measure => simp [intOf]; omega
    · have hlt' : ¬ ((k : Int) < (q : Int)) := by omega
      have HYr := hide (HY1.out.but HBT.out ny)
      have HWr := hide (HW1.out.but HBT.out nw)
      go_wp2_with (go_at_call 21; refine (same_any _ _ _ _ _ ps _ HYr.out HWr.out).mono ?_; rintro r w2 ⟨rfl, hb2⟩)
      go_ret
      have hsz := HBT.out.size
      exact ⟨rfl, (B1.out.trans (HBT.out.below hB)).trans (hb2.mono (by omega))⟩

theorem told_any (x : Value) (B q : Nat) (ps : List Int) (ay : Option Addr) (cy : Nat) (aw : Option Addr) (cw : Nat) (w : World) (hx : DOwn w B x q ps) (hb : isB ps) (hq : q ≤ 4398046511104) (hBw : B ≤ w.heap.size)
    (hy : Ds w ay q cy ps) (hw : Ds w aw q cw ps) (ny : ∀ g ad, x.ownBlock = some g → ay = some ad → ad.block ≠ g) (nw : ∀ g ad, x.ownBlock = some g → aw = some ad → ad.block ≠ g) :
    Calls Tryd.prog 24 #[x, .slice ay q cy, .slice aw q cw] w fun e w' => e = .returned (.bool true) ∧ Below B w w' := by
  obtain ⟨a, cap, rfl, hds, _⟩ := hx.ds hb hq
  by_cases h0 : q = 0
  · subst h0
    exact (told_zero a cap ps ay cy aw cw w hds hy hw).mono fun e w' h => ⟨h.1, h.2.mono hBw⟩
  · rcases hx.2 with ⟨e, _⟩ | ⟨g, c, cur, e, hB, hh, h3, h4, h5, h6⟩
    · cases e; omega
    · cases e
      exact told_more g q cap cur.toList B ps ay cy aw cw w hds (by unfold Blk; simpa using hh) (by rw [Array.length_toList, h5]; omega) hB hBw hy hw (fun ad h => ny g ad rfl h) (fun ad h => nw g ad rfl h)

end Go.Proofs.YtmgabnlobeienaaDoor
