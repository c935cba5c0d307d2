/-
  The document's Digest at a place where there is one.
-/
import Derived.Test.YtojepbapdjkknaaDoorRf
namespace Go.Proofs.YtojepbapdjkknaaDoor
open Go.RowKit
set_option linter.unusedVariables false

theorem sub_get (xs : List Int) (p i : Nat) (hi : i < 32) : ((xs.drop p).take 32).getD i 0 = xs.getD (p + i) 0 := by
  simp [List.getD, List.getElem?_drop, hi]
theorem elemBy : Tryd.prog.elem 26 = 5 := by kernel_rfl
set_option maxRecDepth 100000 in
theorem b_at (b o n cap i : Nat) (hi : i < n) (v : World) : (Instr.indexAt 26 (.slice (some ⟨b, o, none⟩) n cap) (.int .i64 (i : Int))).run Tryd.prog v = .ok (.pointer (some ⟨b, o + i, none⟩)) v := by
  rw [run_indexAt_slice v _ _ _ _ .i64 i undBs, if_pos ⟨by omega, by omega⟩, elemBy, sizeB]
  simp only [Result.andThen_ok, Int.toNat_natCast]
  rw [Addr.add_lit, Nat.mul_one]
set_option maxRecDepth 100000 in
set_option maxHeartbeats 2000000 in
theorem digAt_any (a : Option Addr) (len cap : Nat) (xs : List Int) (p : Nat) (w : World) (hs : Sl w a len cap xs) (hp : p + 32 ≤ len) :
    Calls Tryd.prog 45 #[.slice a len cap, .int .i64 (p : Int)] w fun r w' => r = .returned (.tuple #[.agg (u8s ((xs.drop p).take 32)).toArray, .int .i64 ((p : Int) + 32), .int .i64 0]) ∧ Below w.heap.size w w' := by
  have hlen := hs.hlen
  have hmx := hs.hreach
  obtain ⟨b, off, rfl, hce⟩ := hs.hcell (by omega)
  have hbl : b < w.heap.size := World.block_lt_of_cell? w _ (hce 0 (by omega))
  obtain ⟨ys, HY⟩ : ∃ ys, Hid ((xs.drop p).take 32 = ys) := ⟨_, hide rfl⟩
  have HX : Hid (ys.length = 32) := hide (by rw [← HY.out, List.length_take, List.length_drop]; omega)
  have HCE : Hid (∀ i, i < 32 → w.cell? ⟨b, off + (p + i), none⟩ = some (.int .u8 (ys.getD i 0))) := hide (fun i hi => by
    rw [← HY.out, sub_get xs p i hi]
    exact hce (p + i) (by omega))
  have hp0 : ¬ (p : Int) < 0 := by omega
  have hp1 : ¬ (len : Int) < (p : Int) := by omega
  have hp2 : wrap64 ((len : Int) - (p : Int)) = (len : Int) - (p : Int) := by unfold wrap64; omega
  have hp3 : ¬ (len : Int) - (p : Int) < 32 := by omega
  have hp4 : wrap64 ((p : Int) + 32) = (p : Int) + 32 := by unfold wrap64; omega
  rw [HY.out]
  clear hs hce hlen
  go_enter Tryd.func45, Tryd.ntmps45
  go_wp2_with (refine step_alloc zD0 rfl ?_)
  intro w1 g1 hg1 hle1 hb1
  go_wp2_with (refine step_alloc zD0 rfl ?_)
  intro w2 g2 hg2 hle2 hb2
  have hb12 : Below w.heap.size w w2 := hb1.trans (hb2.mono hb1.size)
  have G1 := hide (hg1.below hb2 hg1.lt)
  have G2 := hide hg2
  have n12 : g1 ≠ g2 := by have := hg1.lt; omega
  have l2 : w.heap.size ≤ g2 := by have := hb1.size; omega
  have HCE2 : Hid (∀ i, i < 32 → w2.cell? ⟨b, off + (p + i), none⟩ = some (.int .u8 (ys.getD i 0))) := hide (fun i hi => by
    rw [hb12.cell (p := ⟨b, off + (p + i), none⟩) hbl]; exact HCE.out i hi)
  have HB12 := hide hb12
  clear hg1 hg2 hb1 hb2 hb12 HCE hle2
  go_wp2
  go_loopw [8] (fun i wq => ∃ k : Nat, k ≤ 32 ∧ i = .int .i64 k ∧ Blk wq g2 44 (spl (u8s (zer 32)) (u8s (ys.take k)) 0) ∧ But g2 w2 wq) (fun i _ => 32 - (intOf i).toNat)
  case atStart => exact ⟨0, by omega, rfl, G2.out, But.refl _ _⟩
  case round =>
    clear G2
    obtain ⟨k, hk, rfl, hr, hbut⟩ := hrel
    have HR := hide hr
    have HBut := hide hbut
    clear hr hbut
    by_cases hk32 : k < 32
    · obtain ⟨old, hold⟩ := spl_there ys 32 k HX.out hk32
      have hcell : wr.cell? ⟨g2, k, none⟩ = some old := by rw [HR.out.cell]; exact hold
      have hfree : wr.frozen? ⟨g2, k, none⟩ = false := HR.out.free k
      have hsrc : wr.cell? ⟨b, off + (p + k), none⟩ = some (.int .u8 (ys.getD k 0)) := by
        rw [World.cell?_of_block (w := w2) (HBut.out.block b (by omega)), HCE2.out k hk32]
      have hkL : (k : Int) < 32 := by omega
      have hpk : wrap64 ((p : Int) + (k : Int)) = (p : Int) + (k : Int) := by unfold wrap64; omega
      have x2 := index_D g2 k (k : Int) rfl hk32
      have x1 : ∀ v : World, (Instr.indexAt 26 (.slice (some ⟨b, off, none⟩) len cap) (.int .i64 ((p : Int) + (k : Int)))).run Tryd.prog v = .ok (.pointer (some ⟨b, off + (p + k), none⟩)) v := fun v => by
        rw [show (p : Int) + (k : Int) = ((p + k : Nat) : Int) by omega]
        exact b_at b off len cap (p + k) (by omega) v
      have HN := hide (spl_next ys 32 k HX.out hk32)
      clear hold
      go_wp2
      refine ⟨⟨k + 1, by omega, by go_num, ?_, HBut.out.trans (But.setCell _ _ _ _)⟩, ?_⟩
      · have e := HR.out.set k (.int .u8 (ys.getD k 0))
        rw [HN.out] at e
        exact e
      · simp [intOf]; omega
    · obtain rfl : k = 32 := by omega
      have HF := hide HR.out
      rw [List.take_of_length_le (by rw [HX.out]; exact Nat.le_refl _), spl_all ys 32 HX.out] at HF
      have G1q := hide (G1.out.but HBut.out n12)
      go_wp2_with (first | (refine step_loadA wD0 rfl rfl HF.out (by rw [u8s_length]; exact HX.out) ?_) | (refine step_storeA wD0 rfl rfl rfl G1q.out (by rw [u8s_length]; exact HX.out) (One.u8 _) rfl ?_; intro w6 hg6 hbut6))
      refine bodyPost_ret (results_wide3 rfl wD0 _ _ rfl hg6 (by rw [u8s_length]; exact HX.out)) rfl ⟨rfl, ?_⟩
      exact HB12.out.trans ((HBut.out.below l2).trans (hbut6.below hle1))

end Go.Proofs.YtojepbapdjkknaaDoor
