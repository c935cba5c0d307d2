/-
  The law's ranged: the range of some leaves' digests.
-/
import Derived.Test.YthgfbcndoedacaaDoorRy
namespace Go.Proofs.YthgfbcndoedacaaDoor
open Go.RowKit Go.Shelf
set_option linter.unusedVariables false

theorem Rg.foot {w : World} {B g b e : Nat} {v : Value} {ps : List Pt} (h : Rg w B g b e v ps) (hg : B ≤ g) : ∀ k, k < B → ¬ Foot g v k := by
  rintro k hk (rfl | e1)
  · omega
  · have := (h.own.lt k e1).1
    omega
theorem Below.thenChs {S : Nat → Prop} {B : Nat} {a b c : World} (h : Below B a b) (k : Chs S b c) (hS : ∀ k, k < B → ¬ S k) (hB : B ≤ b.heap.size) : Below B a c := h.trans (k.below hS hB)

set_option maxRecDepth 100000 in
set_option maxHeartbeats 1000000 in
theorem ranged_any (a : Option Addr) (n cap b e : Nat) (B' E' : Int) (xs : List Int) (w : World) (hs : Ds w a n cap xs) (hB' : B' = (b : Int)) (hE' : E' = (e : Int)) (hbe : b ≤ e) (hen : e ≤ n) (hn : n ≤ 140737488355328) (hk : KT w) :
    Calls Tryd.prog 26 #[.slice a n cap, .agg #[.int .i64 B', .int .i64 E']] w fun r w' => ∃ g v, r = .returned (.pointer (some ⟨g, 0, none⟩)) ∧ Rg w' w.heap.size g b e v (rps xs b e) ∧ w.heap.size ≤ g ∧ Below w.heap.size w w' := by
  subst hB' hE'
  have HS := hide hs
  have HK := hide hk
  have hcap := hs.hcap
  clear hs hk
  go_enter Tryd.func26, Tryd.ntmps26
  go_wp2_with (refine step_box (cs := [.int .i64 (b : Int), .int .i64 (e : Int)]) rfl rfl ?_)
  intro w1 g3 hg3 hle3 hb1
  have G3 := hide hg3
  have c0 : w1.cell? ⟨g3, 0, none⟩ = some (.int .i64 (b : Int)) := by rw [hg3.cell]; rfl
  clear hg3
  go_wp2_with fail
  refine (new_ok (b : Int) _ (by omega) (by omega)).mono ?_
  rintro r w2 ⟨g, rfl, hg, hleg, hb2⟩
  have R2 : Hid (Rg w2 w.heap.size g b b (.slice none 0 0) (rps xs b b)) := hide ⟨hg, by unfold rps; rw [parts_nil (Nat.le_refl _)]; exact POwn.nil _ _, by unfold rps; rw [parts_nil (Nat.le_refl _)]; intro p hp; simp at hp, by unfold rps; simp [Function.comp_def], Nat.le_refl _, by omega⟩
  have G32 := hide (G3.out.below hb2 G3.out.lt)
  have HB2 := hide (hb1.trans (hb2.mono hb1.size))
  have hwg : w.heap.size ≤ g := Nat.le_trans hb1.size hleg
  have c02 : w2.cell? ⟨g3, 0, none⟩ = some (.int .i64 (b : Int)) := by rw [G32.out.cell]; rfl
  clear hg c0 hb1 hb2
  go_wp2_with fail
  go_loopw [7] (fun i wr => ∃ (m : Nat) (v : Value), b ≤ m ∧ m ≤ e ∧ i = .int .i64 (m : Int) ∧ Hid (Rg wr w.heap.size g b m v (rps xs b m)) ∧ Hid (Blk wr g3 51 [.int .i64 (b : Int), .int .i64 (e : Int)]) ∧ Hid (Below w.heap.size w wr)) (fun i _ => e - (intOf i).toNat)
  case atStart => exact ⟨b, .slice none 0 0, Nat.le_refl _, hbe, rfl, R2, G32, HB2⟩
  case round =>
    obtain ⟨m, v, hm1, hm2, rfl, R, G, HB⟩ := hrel
    clear R2 G32 HB2 c02
    have c1 : wr.cell? ⟨g3, 1, none⟩ = some (.int .i64 (e : Int)) := by rw [G.out.cell]; rfl
    by_cases hlt : m < e
    · have hlt' : (m : Int) < (e : Int) := by omega
      obtain ⟨bl, o, rfl⟩ := HS.out.place (by omega)
      have hat := d_at bl o n cap m (m : Int) rfl (by omega)
      have HDL := hide (dat_length HS.out.hlen (show m < n by omega))
      have HDB := hide (show isB (dat xs m) from (HS.out.hbyte.drop _).take _)
      have HRG := hide ((HS.out.below HB.out).range m (by omega))
      have HUL := hide (show (u8s (dat xs m)).length = 32 by rw [u8s_length, HDL.out])
      have hwm : IntKind.i64.wrap ((m : Int) + 1) = ((m + 1 : Nat) : Int) := by rw [IntKind.wrap_i64]; omega
      go_wp2_with (refine step_loadR wD rfl rfl _ HRG.out HUL.out ?_)
      refine (app_ok w.heap.size g b m v (rps xs b m) (dat xs m) _ R.out HB.out.size (HK.out.below HB.out HK.out.lt) (Nat.lt_of_lt_of_le HK.out.lt hwg) HK.out.lt (by omega) HDL.out HDB.out).mono ?_
      rintro r w5 ⟨v5, rfl, hr5, hc5, _⟩
      rw [rps_step HS.out.hlen hn hm1 (by omega)] at hr5
      have R5 := hide hr5
      have G5 := hide (G.out.chs hc5 (by
        rintro (e1 | e1)
        · exact (R.out.blk.apart G.out (by decide)) e1.symm
        · exact (R.out.own.apart G.out (by decide)) e1))
      have HB5 := hide (Below.thenChs HB.out hc5 (R.out.foot hwg) HB.out.size)
      clear hr5 hc5 c1
      go_wp2
      go_roundw
      case rel => exact ⟨m + 1, v5, by omega, by omega, by first | rfl | (rw [hwm]), R5, G5, HB5⟩
      case measure => simp [intOf]; omega
    · obtain rfl : m = e := by omega
      have hlt' : ¬ (m : Int) < (m : Int) := by omega
      go_wp2
      go_ret
      exact ⟨g, rfl, ⟨v, R.out⟩, hwg, HB.out⟩

end Go.Proofs.YthgfbcndoedacaaDoor
