/-
  Words as bytes, the digest of a state, hash.Sum.
-/
import Derived.Test.YtnlpgkfmjlljdaaDoorTake
import Derived.Test.YtnlpgkfmjlljdaaDoorNm
namespace Go.Proofs.YtnlpgkfmjlljdaaDoor
open Go.RowKit
set_option linter.unusedVariables false

/-- Words as bytes. -/
def wb (ws : List Int) : List Int := ws.flatMap fun x => be x 4
theorem wb_length : ∀ ws : List Int, (wb ws).length = 4 * ws.length
  | [] => rfl
  | x :: r => by
    have := wb_length r
    simp only [wb, List.flatMap_cons, List.length_append, be_length, List.length_cons] at this ⊢
    omega
theorem wb_isB (ws : List Int) : isB (wb ws) := by
  intro x hx
  simp only [wb, List.mem_flatMap] at hx
  obtain ⟨y, _, hy⟩ := hx
  exact be_isB y 4 x hy
theorem wb_get : ∀ (ws : List Int) (k : Nat), k < 4 * ws.length → (wb ws).getD k 0 = ws.getD (k / 4) 0 / 2 ^ (24 - 8 * (k % 4)) % 256
  | [], k, h => by simp at h
  | x :: r, k, h => by
    by_cases hk : k < 4
    · have e : (wb (x :: r)).getD k 0 = (be x 4).getD k 0 := by
        have : k < (be x 4).length := by rw [be_length]; exact hk
        simp [wb, List.getD, List.getElem?_append_left this]
      rw [e, be_get x 4 k hk, ← pow2_8, show k / 4 = 0 by omega, show 24 - 8 * (k % 4) = 8 * (4 - 1 - k) by omega]
      rfl
    · have e : (wb (x :: r)).getD k 0 = (wb r).getD (k - 4) 0 := by
        simp only [wb, List.flatMap_cons, List.getD]
        rw [List.getElem?_append_right (by rw [be_length]; omega), be_length]
      rw [List.length_cons] at h
      rw [e, wb_get r (k - 4) (by omega), show (k - 4) % 4 = k % 4 by omega]
      have : k / 4 = (k - 4) / 4 + 1 := by omega
      rw [this]
      rfl

theorem zD0 : Zeroed 39 (u8s (zer 32)) := fun _ _ _ _ _ _ _ => by kernel_rfl
theorem wD0 : Wide 39 32 := ⟨by kernel_rfl, by kernel_rfl⟩
theorem index_W8 (g i : Nat) (I : Int) (hI : I = (i : Int)) (hi : i < 8) (w : World) : (Instr.indexAt 112 (.pointer (some ⟨g, 0, none⟩)) (.int .i64 I)).run Tryd.prog w = .ok (.pointer (some ⟨g, i, none⟩)) w :=
  index_at (by kernel_rfl) (by kernel_rfl) (fun _ => by kernel_rfl) g i I hI hi w
theorem index_D (g i : Nat) (I : Int) (hI : I = (i : Int)) (hi : i < 32) (w : World) : (Instr.indexAt 39 (.pointer (some ⟨g, 0, none⟩)) (.int .i64 I)).run Tryd.prog w = .ok (.pointer (some ⟨g, i, none⟩)) w :=
  index_at (by kernel_rfl) (by kernel_rfl) (fun _ => by kernel_rfl) g i I hI hi w

set_option maxRecDepth 100000 in
set_option maxHeartbeats 1000000 in
theorem wordsBytes_any (ws : List Int) (w : World) (hw : ws.length = 8) :
    Calls Tryd.prog 104 #[.agg (u32s ws).toArray] w fun e w' => e = .returned (.agg (u8s (wb ws)).toArray) ∧ Below w.heap.size w w' := by
  have HW := hide hw
  have HWL := hide (show (wb ws).length = 32 by rw [wb_length, hw])
  clear hw
  go_enter Tryd.func104, Tryd.ntmps104
  go_wp2_with (refine step_box rfl rfl ?_)
  intro w1 g1 hg1 hle1 hb1
  go_wp2_with (refine step_alloc zD0 rfl ?_)
  intro w2 g2 hg2 hle2 hb2
  go_wp2_with (refine step_alloc zD0 rfl ?_)
  intro w3 g3 hg3 hle3 hb3
  have hne : g1 ≠ g3 := by have := hg1.lt; have := hb2.size; omega
  have hne2 : g2 ≠ g3 := by have := hg2.lt; omega
  have hg1' := (hg1.below hb2 hg1.lt).below hb3 (by have := hg1.lt; have := hb2.size; omega)
  have hg2' := hg2.below hb3 hg2.lt
  have hw3 : Below w.heap.size w w3 := hb1.trans ((hb2.mono hb1.size).trans (hb3.mono (Nat.le_trans hb1.size hb2.size)))
  have hle : w.heap.size ≤ g3 := by have := hb1.size; have := hb2.size; omega
  have hlt2 : w.heap.size ≤ g2 := by have := hb1.size; omega
  have HE := hide (⟨hg1', hg2', hw3⟩ : Blk w3 g1 112 (u32s ws) ∧ Blk w3 g2 39 (u8s (zer 32)) ∧ Below w.heap.size w w3)
  have H3 := hide hg3
  clear hg1 hg2 hg1' hg2' hb1 hb2 hb3 hle1 hle2 hle3 hw3 hg3
  go_wp2
  go_loopw [5] (fun i wr => ∃ k : Nat, k ≤ 32 ∧ i = .int .i64 k ∧ Blk wr g3 39 (spl (u8s (zer 32)) (u8s ((wb ws).take k)) 0) ∧ But g3 w3 wr) (fun i _ => 32 - (intOf i).toNat)
  case atStart => exact ⟨0, by omega, rfl, H3.out, But.refl _ _⟩
  case round =>
    clear H3
    obtain ⟨k, hk, rfl, hr1, hb1⟩ := hrel
    have HR := hide hr1
    have HB := hide hb1
    clear hr1 hb1
    have HSL : Hid ((u8s (zer 32)).length = 32) := hide rfl
    by_cases hlt : k < 32
    · have HK := hide (show ((wb ws).take k).length = k by rw [List.length_take, HWL.out]; omega)
      have hlen : (spl (u8s (zer 32)) (u8s ((wb ws).take k)) 0).length = 32 := by rw [spl_length _ _ _ (by rw [u8s_length, HK.out, HSL.out]; omega)]; exact HSL.out
      obtain ⟨old, hcell⟩ : ∃ old, wr.cell? ⟨g3, k, none⟩ = some old := ⟨_, by rw [HR.out.cell, List.getElem?_eq_getElem (by omega)]⟩
      clear hlen
      have hfree : wr.frozen? ⟨g3, k, none⟩ = false := HR.out.free k
      have cw : wr.cell? ⟨g1, k / 4, none⟩ = some (.int .u32 (ws.getD (k / 4) 0)) := by
        rw [(HE.out.1.but HB.out hne).cell]; exact u32s_get _ _ (by rw [HW.out]; omega)
      have htd : (k : Int).tdiv 4 = (k : Int) / 4 := Int.tdiv_eq_ediv_of_nonneg (by omega)
      have htm : (k : Int).tmod 4 = (k : Int) % 4 := Int.tmod_eq_emod_of_nonneg (by omega)
      have x1 := index_W8 g1 (k / 4) ((k : Int) / 4) (by omega) (by omega)
      have x2 := index_D g3 k (k : Int) rfl hlt
      have HGT := hide (wb_get ws k (by rw [HW.out]; omega))
      go_wp2
      refine ⟨⟨k + 1, by omega, by go_num, ?_, HB.out.trans (But.setCell _ _ _ _)⟩, ?_⟩
      · have e := HR.out.set k (.int .u8 ((wb ws).getD k 0))
        have e2 := spl_snoc (u8s (zer 32)) (u8s ((wb ws).take k)) (.int .u8 ((wb ws).getD k 0)) 0 (by rw [u8s_length, HK.out, HSL.out]; omega)
        rw [u8s_length, HK.out, Nat.zero_add, ← u8s_take_succ _ _ (by rw [HWL.out]; omega)] at e2
        rw [e2, HGT.out] at e
        exact e
      · simp [intOf]; omega
    · obtain rfl : k = 32 := by omega
      have e : spl (u8s (zer 32)) (u8s ((wb ws).take 32)) 0 = u8s (wb ws) := by
        rw [List.take_of_length_le (by rw [HWL.out]; exact Nat.le_refl _)]
        unfold spl
        rw [u8s_length, HWL.out, List.drop_of_length_le (by rw [HSL.out]; omega)]
        simp
      have HF := hide HR.out
      rw [e] at HF
      clear e
      have H2 := hide (HE.out.2.1.but HB.out hne2)
      go_wp2_with (first | (refine step_loadA wD0 rfl rfl HF.out (by rw [u8s_length]; exact HWL.out) ?_) | (refine step_storeA wD0 rfl rfl rfl H2.out (by rw [u8s_length]; exact HWL.out) (One.u8 _) rfl ?_; intro w4 hg4 hbut4))
      refine bodyPost_ret (results_wide rfl wD0 _ _ rfl hg4 (by rw [u8s_length]; exact HWL.out)) rfl ⟨rfl, ?_⟩
      exact HE.out.2.2.trans ((HB.out.below hle).trans (hbut4.below hlt2))

theorem One.st (t : Bool) (ws : List Int) (n : Int) (rest : List Int) : One (stC t ws n rest) := by
  intro v hv
  rcases List.mem_cons.1 hv with rfl | hv
  · rfl
  rcases List.mem_append.1 hv with hv | hv
  · exact One.u32 ws v hv
  rcases List.mem_cons.1 hv with rfl | hv
  · rfl
  · exact One.u8 rest v hv
theorem stM_length (h : List Int) (n0 : Nat) (m : List Int) (hh : h.length = 8) : (stM h n0 m).length = 74 := stC_length _ _ _ _ (ov_length _ _ hh _) (rs_length m)

theorem stM_nil : stM bL 0 [] = stC true bL 0 (zer 64) := rfl

set_option maxHeartbeats 1000000 in
theorem begun_any (w : World) : Calls Tryd.prog 76 #[] w fun e w' => e = .returned (.agg (stM bL 0 []).toArray) ∧ Below w.heap.size w w' := by
  rw [stM_nil]
  go_enter Tryd.func76, Tryd.ntmps76
  go_wp2_with (refine step_alloc zSt rfl ?_)
  intro w1 g1 hg1 hle1 hb1
  go_wp2_with fail
  refine (begin_any _).mono ?_
  rintro e w2 ⟨rfl, hb2⟩
  have G1 := hide (hg1.below hb2 hg1.lt)
  have HL := hide (stC_length true bL 0 (zer 64) rfl rfl)
  go_wp2_with (first | (refine step_storeA (vs := stC true bL 0 (zer 64)) wSt rfl rfl rfl G1.out HL.out (One.st _ _ _ _) rfl ?_; intro w3 hg3 hbut3) | (refine step_run rfl (.agg (stC true bL 0 (zer 64)).toArray) w2 (by kernel_rfl) ?_))
  refine bodyPost_ret (results_wide rfl wSt _ _ rfl hg3 HL.out) rfl ⟨rfl, ?_⟩
  exact hb1.trans ((hb2.mono hb1.size).trans (hbut3.below hle1))

/-- The digest of what began with words h behind n0 bytes, and has had m since. -/
def dg (h : List Int) (n0 : Nat) (m : List Int) : List Int := wb (ov h (m ++ pad (n0 + m.length)) (bk (m ++ pad (n0 + m.length))))
theorem dg_length (h : List Int) (n0 : Nat) (m : List Int) (hh : h.length = 8) : (dg h n0 m).length = 32 := by rw [dg, wb_length, ov_length _ _ hh]

set_option maxRecDepth 100000 in
set_option maxHeartbeats 1000000 in
theorem digest_any (h : List Int) (n0 : Nat) (m : List Int) (g : Nat) (w : World) (hg : Blk w g 115 (stM h n0 m)) (hh : h.length = 8) (hn0 : n0 % 64 = 0) (hmb : isB m) (hk : KT w) (hbd : n0 + m.length ≤ 2305843009213693951) :
    Calls Tryd.prog 78 #[.pointer (some ⟨g, 0, none⟩)] w fun e w' => e = .returned (.agg (u8s (dg h n0 m)).toArray) ∧ Below w.heap.size w w' := by
  have HH := hide hh
  have HMB := hide hmb
  have HG := hide hg
  have HK := hide hk
  clear hg hh hmb hk
  go_enter Tryd.func78, Tryd.ntmps78
  go_wp2_with (refine step_alloc zD rfl ?_)
  intro w1 g1 hg1 hle1 hb1
  have G1 := hide (HG.out.below hb1 HG.out.lt)
  have HL := hide (stM_length h n0 m HH.out)
  go_wp2_with (first | (refine step_loadA wSt rfl rfl G1.out HL.out ?_) | (refine step_alloc zSt rfl ?_))
  intro w2 g2 hg2 hle2 hb2
  go_wp2_with (refine step_storeA wSt rfl rfl rfl hg2 HL.out (One.st _ _ _ _) rfl ?_)
  intro w3 hg3 hbut3
  have hb13 : Below w1.heap.size w1 w3 := hb2.trans (hbut3.below hle2)
  have G3 := hide (G1.out.below hb13 G1.out.lt)
  have D3 := hide (hg1.below hb13 hg1.lt)
  have E3 := hide hg3
  have hw3 : Below w.heap.size w w3 := hb1.trans (hb13.mono hb1.size)
  have c9 : w3.cell? ⟨g, 9, none⟩ = some (.int .i64 ((n0 + m.length : Nat) : Int)) := by rw [G3.out.cell]; exact stC_size _ _ _ _ (ov_length _ _ HH.out _)
  have hg20 : g2 ≠ 6 := by have := HK.out.lt; have := hb1.size; omega
  have hwg2 : w.heap.size ≤ g2 := by have := hb1.size; omega
  have hg12 : g1 ≠ g2 := by have := hg1.lt; omega
  clear hg1 hg2 hg3 hb13 hb1 hb2 hbut3 hle2
  have HQ := hide (pad_length (n0 + m.length))
  have HPB := hide (pad_isB (n0 + m.length))
  generalize hN : n0 + m.length = N at *
  go_wp2_with fail
  refine (padding_any N _ hbd).mono ?_
  rintro e w4 ⟨g4, rfl, hle4, hg4, hb4⟩
  have S4 := hide (hg4.sl0 HPB.out (by rw [HQ.out]; have := padZ_lt N; omega))
  rw [HQ.out] at S4
  have E4 := hide (E3.out.below hb4 E3.out.lt)
  have D4 := hide (D3.out.below hb4 D3.out.lt)
  have hw4 : Below w.heap.size w w4 := hw3.trans (hb4.mono hw3.size)
  have K4 := hide (HK.out.below hw4 HK.out.lt)
  have hz := padZ_lt N
  have hap : Apart g2 (some ⟨g4, 0, none⟩) := by
    intro x hx
    cases hx
    have := E3.out.lt
    show g4 ≠ g2
    omega
  clear hb4 hg4 hw3 E3 D3 G3 c9
  go_wp2_with fail
  refine (take_any h n0 m g2 _ _ _ _ _ E4.out HH.out hn0 HMB.out S4.out (fun _ => hap) K4.out hg20 (by omega)).mono ?_
  rintro e w5 ⟨rfl, hg5, hc5⟩
  have D5 := hide (D4.out.chg hc5 hg12)
  have W5 := hide hg5
  have hw5 : Below w.heap.size w w5 := hw4.trans (hc5.below hwg2 hw4.size)
  clear hg5 hc5 hw4 E4 D4 S4 K4
  have HOL := hide (ov_length h (m ++ pad N) HH.out (bk (m ++ pad N)))
  go_wp2_with (first | (refine step_load wW rfl (g := g2) (off := 1) rfl W5.out (u32s (ov h (m ++ pad N) (bk (m ++ pad N)))) (by rw [u32s_length]; exact HOL.out) (stC_words _ _ _ _ HOL.out) ?_) | (go_at_call 104; refine (wordsBytes_any _ _ HOL.out).mono ?_; rintro e w6 ⟨rfl, hb6⟩; have D6 := hide (D5.out.below hb6 D5.out.lt)) | (refine step_storeA wD rfl rfl rfl D6.out (by rw [u8s_length, wb_length, HOL.out]) (One.u8 _) rfl ?_; intro w7 hg7 hbut7))
  refine bodyPost_ret (results_wide rfl wD _ _ rfl hg7 (by rw [u8s_length, wb_length, HOL.out])) rfl ⟨by rw [dg, hN], ?_⟩
  exact hw5.trans ((hb6.mono hw5.size).trans (hbut7.below hle1))

end Go.Proofs.YtnlpgkfmjlljdaaDoor
