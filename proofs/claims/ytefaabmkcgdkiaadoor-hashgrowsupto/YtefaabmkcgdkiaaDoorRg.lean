/-
  The document's Load, where it takes.
-/
import Derived.Test.YtefaabmkcgdkiaaDoorRl
namespace Go.Proofs.YtefaabmkcgdkiaaDoor
open Go.RowKit
set_option linter.unusedVariables false

set_option maxRecDepth 100000 in
set_option maxHeartbeats 2000000 in
theorem rload_good (a : Option Addr) (len cap : Nat) (xs : List Int) (n : Nat) (w : World) (hs : Sl w a len cap xs) (h40 : 40 ≤ len) (hn : ldN xs = (n : Int)) (hn64 : n ≤ 2305843009213693951) (hl : len - 40 = n % 64) (hg64 : 64 ≤ n) :
    Calls Tryd.prog 19 #[.slice a len cap] w fun e w' => ∃ a' cap', e = .returned (.tuple #[.agg (rfC (ldW xs) (n : Int) (.slice a' (n % 64) cap')).toArray, .int .i64 0]) ∧ Sl w' a' (n % 64) cap' (xs.drop 40) ∧ (∀ x, a' = some x → w.heap.size ≤ x.block) ∧ Below w.heap.size w w' := by
  have hr := hs.hreach
  have HR : Hid (rdV xs 32 8 = (n : Int)) := hide (by rw [rdV, if_pos ⟨by omega, by rw [hs.hlen]; omega⟩]; exact hn)
  have S0 := hide hs
  obtain ⟨a2, hsl2, hs2, _⟩ := slice_from hs 40 40 rfl (by omega)
  rw [hl] at hs2
  have S40 := hide hs2
  clear hs hn hs2
  have c1 : ¬ ((len : Int) < 40) := by omega
  have c2 : decide ((2305843009213693951 : Int) < (n : Int)) = false := by simp; omega
  have c3 : ((len : Int) - 40 != (n : Int) % 64) = false := by simp; omega
  go_enter Tryd.func19, Tryd.ntmps19
  go_wp2_with (refine step_alloc zRS rfl ?_)
  intro w1 g hg hle hb1
  have HG := hide hg
  clear hg
  have S1 := hide (S0.out.below hb1)
  have S41 := hide (S40.out.below hb1)
  have ho0 : Own (w1.alloc (.cells #[] 5)) w1.heap.size (.slice (some ⟨w1.heap.size, 0, none⟩) 0 0) [] := Own.of_blk (xs := []) (Blk.made w1 5 []) (Nat.le_refl _) (by simp)
  have hb0 : Below w1.heap.size w1 (w1.alloc (.cells #[] 5)) := (Below.refl _ _).alloc (Nat.le_refl _) _
  go_wp2_with (first | (go_at_call 46; refine (read_any _ _ _ _ _ 8 _ S1.out (by omega) (by omega)).mono ?_; rintro e w2 ⟨rfl, rfl⟩; rw [HR.out]) | (refine step_append rfl rfl rfl ho0 (S41.out.below hb0) (by simp; omega) (by simp) ?_; intro v3 w3 ho3 hg3 hn3; have B3 := hide (hb0.trans (Below.of_grown hg3 hb0.size ho0.lt)); have hv3 : v3 ≠ .slice none 0 0 := fun e => (by have e2 := (hn3 e).1; cases e2); rw [List.nil_append] at ho3; obtain ⟨ga, ca, ea, hga, hsa⟩ := ho3.sl S41.out.hbyte (by rw [S41.out.hlen]; omega) hv3; rw [S41.out.hlen] at ea hsa; subst ea; have SA := hide hsa; clear hsa ho3 hg3 hn3 hv3) | (refine step_alloc zRS rfl ?_; intro w4 g4 hg4 hle4 hb4; have HG4 := hide hg4; clear hg4) | (refine step_storeA wRS (vs := rfC (zer 8) (n : Int) (.slice (some ⟨ga, 0, none⟩) (n % 64) ca)) rfl rfl (by kernel_rfl) HG4.out rfl (One.rf _ _ _ _ _) rfl ?_; intro w5 hg5 hbut5))
  have W5 := hide (hb4.trans (hbut5.below hle4))
  have SX := hide ((S1.out.below B3.out).below W5.out)
  have SB := hide (SA.out.below W5.out)
  have hap : 0 < len → Apart g4 a := (S1.out.below B3.out).apart hle4
  have hap2 : 0 < n % 64 → Apart g4 (some ⟨ga, 0, none⟩) := SA.out.apart hle4
  have HG5 := hide hg5
  clear ho0 hb0 hb4 hbut5 hg5
  go_wp2
  go_loopw [8] (fun i wr => ∃ k : Nat, k ≤ 8 ∧ i = .int .i64 k ∧ Blk wr g4 29 (rfC ((ldW xs).take k ++ zer (8 - k)) (n : Int) (.slice (some ⟨ga, 0, none⟩) (n % 64) ca)) ∧ But g4 w5 wr) (fun i _ => 8 - (intOf i).toNat)
  case atStart => exact ⟨0, by omega, rfl, HG5.out, But.refl _ _⟩
  case round =>
    clear HG5
    obtain ⟨k, hk, rfl, hr1, hb1⟩ := hrel
    have HR := hide hr1
    have HB := hide hb1
    clear hr1 hb1
    by_cases hlt : k < 8
    · have SR := hide (SX.out.but HB.out hap)
      have EG : Hid (rdV xs (4 * (k : Int)) 4 = wordAt xs k) := hide (by
        rw [rdV, if_pos ⟨by omega, by rw [SX.out.hlen]; omega⟩, wordAt, show (4 * (k : Int)).toNat = 4 * k by omega])
      have HW : Hid (wordAt xs k % 4294967296 = wordAt xs k) := hide (by
        have h1 := beVal_bd _ ((SX.out.hbyte.drop (4 * k)).take 4)
        have h2 : ((xs.drop (4 * k)).take 4).length = 4 := by simp; have := SX.out.hlen; omega
        rw [h2] at h1
        have : wordAt xs k = beVal ((xs.drop (4 * k)).take 4) := rfl
        omega)
      have EN : Hid ((rfC ((ldW xs).take k ++ zer (8 - k)) (n : Int) (.slice (some ⟨ga, 0, none⟩) (n % 64) ca)).set k (.int .u32 (wordAt xs k)) = rfC ((ldW xs).take (k + 1) ++ zer (8 - (k + 1))) (n : Int) (.slice (some ⟨ga, 0, none⟩) (n % 64) ca)) := hide (by
        match k, hlt with
        | 0, _ => rfl
        | 1, _ => rfl
        | 2, _ => rfl
        | 3, _ => rfl
        | 4, _ => rfl
        | 5, _ => rfl
        | 6, _ => rfl
        | 7, _ => rfl)
      have hlen : (rfC ((ldW xs).take k ++ zer (8 - k)) (n : Int) (.slice (some ⟨ga, 0, none⟩) (n % 64) ca)).length = 10 := rfC_length _ _ _ (by rw [List.length_append, List.length_take, zer_length]; have : (ldW xs).length = 8 := rfl; omega)
      obtain ⟨old, hcell⟩ : ∃ old, wr.cell? ⟨g4, k, none⟩ = some old := ⟨_, by rw [HR.out.cell, List.getElem?_eq_getElem (by omega)]⟩
      clear hlen
      have hfree : wr.frozen? ⟨g4, k, none⟩ = false := HR.out.free k
      have x2 := index_W8 g4 k (k : Int) rfl hlt
      go_wp2_with (go_at_call 46; refine (read_any _ _ _ _ _ 4 _ SR.out (by omega) (by omega)).mono ?_; rintro e w' ⟨rfl, rfl⟩; rw [EG.out])
      rw [HW.out]
      refine ⟨⟨k + 1, by omega, by go_num, ?_, HB.out.trans (But.setCell _ _ _ _)⟩, ?_⟩
      · have e := HR.out.set k (.int .u32 (wordAt xs k))
        rw [EN.out] at e
        exact e
      · simp [intOf]; omega
    · obtain rfl : k = 8 := by omega
      have HF : Hid (Blk wr g4 29 (rfC (ldW xs) (n : Int) (.slice (some ⟨ga, 0, none⟩) (n % 64) ca))) := hide HR.out
      clear HR
      have ng : g ≠ g4 := by have := HG.out.lt; have := B3.out.size; omega
      have H2 := hide (((HG.out.below B3.out HG.out.lt).below W5.out (HG.out.below B3.out HG.out.lt).lt).but HB.out ng)
      have c4 : decide ((n : Int) < 64) = false := by simp; omega
      go_wp2_with fail
      go_quiet (fail)
      have HF2 := hide (HF.out.drewN nq)
      have H3 := hide (H2.out.drewN nq)
      go_wp2_with (first | (refine step_loadA wRS rfl rfl HF2.out rfl ?_) | (refine step_storeA wRS rfl rfl rfl H3.out rfl (One.rf _ _ _ _ _) rfl ?_; intro w6 hg6 hbut6))
      refine bodyPost_ret (results_wide2 rfl wRS _ _ rfl hg6 rfl) rfl ⟨_, ca, rfl, ?_, ?_, ?_⟩
      · exact ((SB.out.but HB.out hap2).drewN nq).but hbut6 (fun _ x hx => by cases hx; intro e; have e2 : ga = g := e; have := HG.out.lt; omega)
      · intro x hx
        cases hx
        exact Nat.le_trans hb1.size hga
      · have b1 : Below w.heap.size w w3 := hb1.trans (B3.out.mono hb1.size)
        have b2 : Below w.heap.size w w5 := b1.trans (W5.out.mono b1.size)
        have b3 : Below w.heap.size w wr := b2.trans (HB.out.below (Nat.le_trans b1.size hle4))
        exact (below_drewN b3 nq).trans (hbut6.below hle)

end Go.Proofs.YtefaabmkcgdkiaaDoor
