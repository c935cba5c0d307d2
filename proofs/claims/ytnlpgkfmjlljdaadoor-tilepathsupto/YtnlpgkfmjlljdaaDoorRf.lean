/-
  The document's Over, Words and Digest.
-/
import Derived.Test.YtnlpgkfmjlljdaaDoorWb
import Derived.Test.YtnlpgkfmjlljdaaDoorBr
import Derived.Test.YtnlpgkfmjlljdaaDoorPd
namespace Go.Proofs.YtnlpgkfmjlljdaaDoor
open Go.RowKit
set_option linter.unusedVariables false

/-- Each is a word. -/
def isW (ws : List Int) : Prop := ∀ x ∈ ws, 0 ≤ x ∧ x < 4294967296
theorem isW.get {ws : List Int} (h : isW ws) (i : Nat) : 0 ≤ ws.getD i 0 ∧ ws.getD i 0 < 4294967296 := by
  by_cases hi : i < ws.length
  · have := h ws[i] (List.getElem_mem hi)
    simpa [List.getD, hi] using this
  · simp [List.getD, List.getElem?_eq_none (Nat.le_of_not_lt hi)]
theorem comp_isW (h blk : List Int) : isW (comp h blk) := by
  intro x hx
  obtain ⟨i, hi, rfl⟩ := List.getElem_of_mem hx
  simp only [comp, List.getElem_zipWith, ad]
  omega
theorem ov_isW (h m : List Int) (hw : isW h) : ∀ k, isW (ov h m k)
  | 0 => hw
  | k + 1 => comp_isW _ _
theorem bL_isW : isW bL := by
  intro x hx
  simp only [bL, List.mem_cons, List.not_mem_nil, or_false] at hx
  omega

theorem spl_all (B : List Int) (n : Nat) (h : B.length = n) : spl (u8s (zer n)) (u8s B) 0 = u8s B := by
  unfold spl
  rw [List.drop_of_length_le (by rw [u8s_length, u8s_length, zer_length, h]; omega)]
  simp
theorem spl_next (B : List Int) (n k : Nat) (h : B.length = n) (hk : k < n) : (spl (u8s (zer n)) (u8s (B.take k)) 0).set k (.int .u8 (B.getD k 0)) = spl (u8s (zer n)) (u8s (B.take (k + 1))) 0 := by
  have hl : (B.take k).length = k := by rw [List.length_take]; omega
  have e2 := spl_snoc (u8s (zer n)) (u8s (B.take k)) (.int .u8 (B.getD k 0)) 0 (by rw [u8s_length, u8s_length, hl, zer_length]; omega)
  rwa [u8s_length, hl, Nat.zero_add, ← u8s_take_succ _ _ (by omega)] at e2
theorem spl_there (B : List Int) (n k : Nat) (h : B.length = n) (hk : k < n) : ∃ old, (spl (u8s (zer n)) (u8s (B.take k)) 0)[k]? = some old := by
  have hl : (B.take k).length = k := by rw [List.length_take]; omega
  have : k < (spl (u8s (zer n)) (u8s (B.take k)) 0).length := by rw [spl_length _ _ _ (by rw [u8s_length, u8s_length, hl, zer_length]; omega), u8s_length, zer_length]; exact hk
  exact ⟨_, List.getElem?_eq_getElem this⟩

theorem zB64 : Zeroed 113 (u8s (zer 64)) := fun _ _ _ _ _ _ _ => by kernel_rfl
theorem index_B64 (g i : Nat) (I : Int) (hI : I = (i : Int)) (hi : i < 64) (w : World) : (Instr.indexAt 113 (.pointer (some ⟨g, 0, none⟩)) (.int .i64 I)).run Tryd.prog w = .ok (.pointer (some ⟨g, i, none⟩)) w :=
  index_at (by kernel_rfl) (by kernel_rfl) (fun _ => by kernel_rfl) g i I hI hi w

set_option maxRecDepth 100000 in
set_option maxHeartbeats 2000000 in
theorem overR_any (h : List Int) (a : Option Addr) (len cap : Nat) (xs : List Int) (w : World) (hh : h.length = 8) (hs : Sl w a len cap xs) :
    Calls Tryd.prog 107 #[.agg (u32s h).toArray, .slice a len cap] w fun e w' => e = .returned (.agg (u32s (ov h xs (bk xs))).toArray) ∧ Below w.heap.size w w' := by
  have HH := hide hh
  have HX := hide hs.hlen
  have HXB := hide hs.hbyte
  have HS0 := hide hs
  clear hs hh
  go_enter Tryd.func107, Tryd.ntmps107
  go_wp2_with (refine step_box rfl rfl ?_)
  intro w1 g2 hg1 hle1 hb1
  go_wp2_with (refine step_alloc zW rfl ?_; intro w2 g4 hg2 hle2 hb2)
  have hb12 : Below w.heap.size w w2 := hb1.trans (hb2.mono hb1.size)
  have H0 := hide (hg1.below hb2 hg1.lt)
  have H4 := hide hg2
  have n24 : g2 ≠ g4 := by have := hg1.lt; omega
  have l4 : w.heap.size ≤ g4 := by have := hb1.size; omega
  have HSW := hide (HS0.out.below hb12)
  clear hg1 hg2 hb1 hb2 hle2
  simp only [Act.put, List.setIfInBounds_toArray, List.set_cons_zero, List.set_cons_succ]
  go_loopw [1] (fun v wr => ∃ (j : Nat) (a' : Option Addr), 64 * j ≤ len ∧ v = .slice a' (len - 64 * j) (cap - 64 * j) ∧ Sl wr a' (len - 64 * j) (cap - 64 * j) (xs.drop (64 * j)) ∧ Blk wr g2 112 (u32s (ov h xs j)) ∧ Blk wr g4 112 (u32s (zer 8)) ∧ Below w.heap.size w wr ∧ (0 < len - 64 * j → Apart g2 a')) (fun v _ => lenOf v)
  case atStart => exact ⟨0, a, by omega, rfl, HSW.out, H0.out, H4.out, hb12, fun h0 => HS0.out.apart hle1 (by omega)⟩
  case round =>
    clear HSW H0 H4 HS0 hb12
    obtain ⟨j, a', hj, rfl, hs, hg2, hg4, hbw, hap⟩ := hrel
    have HS := hide hs
    have G2 := hide hg2
    have G4 := hide hg4
    have HBW := hide hbw
    have HAP := hide hap
    have HOL := hide (ov_length h xs HH.out j)
    clear hs hg2 hg4 hbw hap
    by_cases hlt : 64 ≤ len - 64 * j
    · have hgeq : (64 : Int) ≤ ((len - 64 * j : Nat) : Int) := by omega
      obtain ⟨a2, hsl2, hs2, hap2⟩ := slice_from HS.out 64 64 rfl hlt
      have HS2 := hide hs2
      have HAP2 := hide (hap2 g2 HAP.out)
      have ED : Hid (xs.drop (64 * (j + 1)) = (xs.drop (64 * j)).drop 64) := hide (by rw [List.drop_drop, Nat.mul_succ])
      have EL : Hid (len - 64 * j - 64 = len - 64 * (j + 1) ∧ cap - 64 * j - 64 = cap - 64 * (j + 1)) := hide (by omega)
      have EO : Hid (ov h xs (j + 1) = comp (ov h xs j) ((xs.drop (64 * j)).take 64)) := hide rfl
      have HB := hide (show ((xs.drop (64 * j)).take 64).length = 64 by rw [List.length_take, List.length_drop, HX.out]; omega)
      have HBB := hide (show isB ((xs.drop (64 * j)).take 64) from (HXB.out.drop _).take _)
      have HGT : Hid (∀ k, k < 64 → ((xs.drop (64 * j)).take 64).getD k 0 = (xs.drop (64 * j)).getD k 0) := hide (fun k hk => by simp [List.getD, hk])
      obtain ⟨b, off, ea, hce⟩ := HS.out.hcell (by omega)
      subst ea
      have HCE := hide hce
      clear hs2 hap2 hce
      have QL := hide (show len - 64 * j = len - 64 * j from rfl)
      generalize hL : len - 64 * j = L at *
      generalize hC : cap - 64 * j = C at *
      generalize (xs.drop (64 * j)) = ys at *
      generalize hBB : ys.take 64 = B at *
      generalize ov h xs j = ws at *
      clear QL
      go_wp2_with (refine step_alloc zB64 rfl ?_)
      intro w3 g5 hg5 hle5 hb5
      have HG5 := hide hg5
      have HS3 := hide (HS.out.below hb5)
      have HS23 := hide (HS2.out.below hb5)
      have G23 := hide (G2.out.below hb5 G2.out.lt)
      have G43 := hide (G4.out.below hb5 G4.out.lt)
      have HBW3 := hide (HBW.out.trans (hb5.mono HBW.out.size))
      have HLT := hide (show b < g5 by have := World.block_lt_of_cell? wr _ (HCE.out 0 (by omega)); have h2 : b < wr.heap.size := this; omega)
      have HCE3 : Hid (∀ i, i < L → w3.cell? ⟨b, off + i, none⟩ = some (.int .u8 (ys.getD i 0))) := hide (fun i hi => by
        have := HCE.out i hi
        rw [hb5.cell (World.block_lt_of_cell? wr _ this)]
        exact this)
      have n25 : g2 ≠ g5 := by have := G2.out.lt; omega
      have n45 : g4 ≠ g5 := by have := G4.out.lt; omega
      have l5 : w.heap.size ≤ g5 := by have := HBW.out.size; omega
      have HAPg5 : Hid (0 < L - 64 → Apart g5 a2) := hide (fun h0 => HS2.out.apart hle5 h0)
      clear hg5 hb5 HS HS2 G2 G4 HBW HCE hle5
      go_wp2
      go_loopw [6] (fun i wq => ∃ k : Nat, k ≤ 64 ∧ i = .int .i64 k ∧ Blk wq g5 113 (spl (u8s (zer 64)) (u8s (B.take k)) 0) ∧ But g5 w3 wq) (fun i _ => 64 - (intOf i).toNat)
      case atStart => exact ⟨0, by omega, rfl, HG5.out, But.refl _ _⟩
      case round =>
        clear HG5
        obtain ⟨k, hk, rfl, hr, hbut⟩ := hrel
        have HR := hide hr
        have HBut := hide hbut
        clear hr hbut
        by_cases hk64 : k < 64
        · obtain ⟨old, hold⟩ := spl_there B 64 k HB.out hk64
          have hcell : wr.cell? ⟨g5, k, none⟩ = some old := by rw [HR.out.cell]; exact hold
          have hfree : wr.frozen? ⟨g5, k, none⟩ = false := HR.out.free k
          have hsrc : wr.cell? ⟨b, off + k, none⟩ = some (.int .u8 (B.getD k 0)) := by
            rw [World.cell?_of_block (w := w3) (HBut.out.block b (by have := HLT.out; omega)), HCE3.out k (by omega), HGT.out k hk64]
          have hkL : (k : Int) < (L : Int) := by omega
          have x2 := index_B64 g5 k (k : Int) rfl hk64
          have HN := hide (spl_next B 64 k HB.out hk64)
          clear hold
          go_wp2
          refine ⟨⟨k + 1, by omega, by go_num, ?_, HBut.out.trans (But.setCell _ _ _ _)⟩, ?_⟩
          · have e := HR.out.set k (.int .u8 (B.getD k 0))
            rw [HN.out] at e
            exact e
          · simp [intOf]; omega
        · obtain rfl : k = 64 := by omega
          have HF := hide HR.out
          rw [List.take_of_length_le (by rw [HB.out]; exact Nat.le_refl _), spl_all B 64 HB.out] at HF
          have G2q := hide (G23.out.but HBut.out n25)
          have G4q := hide (G43.out.but HBut.out n45)
          have HBq := hide (HBW3.out.trans (HBut.out.below l5))
          have HSq := hide (HS23.out.but HBut.out HAPg5.out)
          clear HR G23 G43 HBW3 HS23 HS3 HCE3 HBut
          go_wp2_with (first | (refine step_loadA wW rfl rfl G2q.out (by rw [u32s_length]; exact HOL.out) ?_) | (refine step_loadA wB64 rfl rfl HF.out (by rw [u8s_length]; exact HB.out) ?_) | (go_at_call 121; refine (compR_any _ _ _ HOL.out HBB.out HB.out).mono ?_; rintro e w5 ⟨rfl, hb5⟩; have G25 := hide (G2q.out.below hb5 G2q.out.lt)) | (refine step_storeA wW rfl rfl rfl G25.out (by rw [u32s_length, comp_length _ _ HOL.out]) (One.u32 _) (by rw [u32s_length]; exact HOL.out) ?_; intro w6 hg6 hbut6))
          have hb56 : Below w.heap.size w w6 := HBq.out.trans ((hb5.mono HBq.out.size).trans (hbut6.below hle1))
          refine ⟨⟨j + 1, a2, by omega, by rw [EL.out.1, EL.out.2], ?_, ?_, ?_, hb56, ?_⟩, ?_⟩
          · rw [← EL.out.1, ← EL.out.2, ED.out]
            exact (HSq.out.below hb5).but hbut6 HAP2.out
          · rw [EO.out]
            exact hg6
          · exact (G4q.out.below hb5 G4q.out.lt).but hbut6 (fun e => n24 e.symm)
          · rw [← EL.out.1]
            exact HAP2.out
          · simp only [lenOf]
            omega
    · have hj2 : bk xs = j := by rw [bk, HX.out]; omega
      have hngeq : ¬ (64 : Int) ≤ ((len - 64 * j : Nat) : Int) := by omega
      generalize hL : len - 64 * j = L at *
      go_wp2_with (first | (refine step_loadA wW rfl rfl G2.out (by rw [u32s_length]; exact HOL.out) ?_) | (refine step_storeA wW rfl rfl rfl G4.out (by rw [u32s_length]; exact HOL.out) (One.u32 _) rfl ?_; intro w6 hg6 hbut6))
      refine bodyPost_ret (results_wide rfl wW _ _ rfl hg6 (by rw [u32s_length]; exact HOL.out)) rfl ⟨rfl, ?_⟩
      exact HBW.out.trans (hbut6.below l4)

theorem wb_snoc (ws : List Int) (k : Nat) (h : k < ws.length) : wb (ws.take (k + 1)) = wb (ws.take k) ++ be (ws.getD k 0) 4 := by
  rw [List.take_succ_eq_append_getElem h, wb, List.flatMap_append]
  congr 1
  simp [List.getD, h]
theorem Own.mono {w : World} {B B' : Nat} {v : Value} {xs : List Int} (h : Own w B v xs) (hB : B' ≤ B) : Own w B' v xs := by
  obtain ⟨h1, h2⟩ := h
  refine ⟨h1, ?_⟩
  rcases h2 with h2 | ⟨g, cap, cur, e, hg, r⟩
  · exact .inl h2
  · exact .inr ⟨g, cap, cur, e, Nat.le_trans hB hg, r⟩

set_option maxRecDepth 100000 in
set_option maxHeartbeats 2000000 in
theorem wordsR_any (ws : List Int) (w : World) (hw : ws.length = 8) (hwW : isW ws) :
    Calls Tryd.prog 106 #[.agg (u32s ws).toArray] w fun e w' => ∃ v, e = .returned v ∧ Own w' w.heap.size v (wb ws) ∧ v ≠ .slice none 0 0 ∧ Below w.heap.size w w' := by
  have HW := hide hw
  have HWW := hide hwW
  clear hw hwW
  go_enter Tryd.func106, Tryd.ntmps106
  go_wp2_with (refine step_box rfl rfl ?_; intro w1 g1 hg1 hle1 hb1)
  have HG1 := hide hg1
  have HB1 := hide hb1
  clear hg1 hb1
  go_loopw [3, 4] (fun v i wr => ∃ k : Nat, k ≤ 8 ∧ i = .int .i64 k ∧ Own wr w1.heap.size v (wb (ws.take k)) ∧ (0 < k → v ≠ .slice none 0 0) ∧ Blk wr g1 112 (u32s ws) ∧ Below w1.heap.size w1 wr) (fun _ i _ => 8 - (intOf i).toNat)
  case atStart => exact ⟨0, by omega, rfl, Own.nil _ _, by omega, HG1.out, Below.refl _ _⟩
  case round =>
    obtain ⟨k, hk, rfl, ho, hne, hg, hb⟩ := hrel
    have HO := hide ho
    have HN := hide hne
    have HG := hide hg
    have HB := hide hb
    have HWL := hide (show (wb (ws.take k)).length = 4 * k by rw [wb_length, List.length_take, HW.out]; omega)
    clear ho hne hg hb
    by_cases hlt : k < 8
    · have hlt' : (k : Int) < 8 := by omega
      have cw : wr.cell? ⟨g1, k, none⟩ = some (.int .u32 (ws.getD k 0)) := by rw [HG.out.cell]; exact u32s_get _ _ (by rw [HW.out]; exact hlt)
      have x1 := index_W g1 k (k : Int) rfl hlt
      have hx := HWW.out.get k
      have HSN := hide (wb_snoc ws k (by rw [HW.out]; exact hlt))
      generalize ws.getD k 0 = x at *
      have hwx : x % 18446744073709551616 = x := by omega
      go_wp2_with (first | (go_at_call 120; refine (number_ref _ 4 _ (by omega) (by omega) (by omega)).mono ?_; rintro e w3 ⟨g3, rfl, hle3, hg3, hb3⟩; have HS3 := hide (be_sl hg3 (by omega))) | (refine step_append rfl rfl rfl (HO.out.below hb3) HS3.out (by rw [HWL.out]; omega) (Nat.le_trans HB.out.size hb3.size) ?_; intro v4 w4 ho4 hg4 hn4))
      have hb4 : Below w1.heap.size w1 w4 := (HB.out.trans (hb3.mono HB.out.size)).grown hg4 (Nat.le_trans HB.out.size hb3.size) HO.out.lt
      refine ⟨⟨k + 1, by omega, by go_num, ?_, ?_, HG1.out.below hb4 HG1.out.lt, hb4⟩, ?_⟩
      · rw [HSN.out]
        exact ho4
      · intro _ h
        have := (hn4 h).2
        omega
      · simp [intOf]; omega
    · obtain rfl : k = 8 := by omega
      have HO2 := hide HO.out
      rw [List.take_of_length_le (by rw [HW.out]; exact Nat.le_refl _)] at HO2
      go_wp2
      go_ret
      exact ⟨_, rfl, HO2.out.mono HB1.out.size, HN.out (by omega), HB1.out.trans (HB.out.mono HB1.out.size)⟩

theorem results_wide3 {fn : Func} {p u v : Tmp} {T : TypeId} (h : fn.results = #[.cell p T, .tmp u, .tmp v]) {n : Nat} (hT : Wide T n) (tmps : Array Value) (w : World)
    {g : Nat} {t : TypeId} {cs : List Value} (hp : tmps.getD p undef = .pointer (some ⟨g, 0, none⟩)) (hg : Blk w g t cs) (hl : cs.length = n) :
    (results fn tmps).run Tryd.prog w = .ok (.tuple #[.agg cs.toArray, tmps.getD u undef, tmps.getD v undef]) w := by
  have hp' : tmps[p]?.getD undef = .pointer (some ⟨g, 0, none⟩) := by simpa using hp
  obtain ⟨d, hu, hd⟩ := hT.und
  simp [results, h, hp', asAddr, run_loadVar_mid w g 0 T cs d (hg.range 0 cs (by simp)) hu hd (by rw [hT.size, hl])]

set_option maxRecDepth 100000 in
set_option maxHeartbeats 2000000 in
theorem digR_any (a : Option Addr) (cap : Nat) (xs : List Int) (w : World) (hs : Sl w a 32 cap xs) :
    Calls Tryd.prog 52 #[.slice a 32 cap, .int .i64 0] w fun e w' => e = .returned (.tuple #[.agg (u8s xs).toArray, .int .i64 32, .int .i64 0]) ∧ Below w.heap.size w w' := by
  have HX := hide hs.hlen
  obtain ⟨b, off, rfl, hce⟩ := hs.hcell (by omega)
  have hbl : b < w.heap.size := World.block_lt_of_cell? w _ (hce 0 (by omega))
  have HCE := hide hce
  clear hs hce
  go_enter Tryd.func52, Tryd.ntmps52
  go_wp2_with (refine step_alloc zD0 rfl ?_)
  intro w1 g1 hg1 hle1 hb1
  go_wp2_with (refine step_alloc zD0 rfl ?_)
  intro w2 g2 hg2 hle2 hb2
  have hb12 : Below w.heap.size w w2 := hb1.trans (hb2.mono hb1.size)
  have G1 := hide (hg1.below hb2 hg1.lt)
  have G2 := hide hg2
  have n12 : g1 ≠ g2 := by have := hg1.lt; omega
  have l2 : w.heap.size ≤ g2 := by have := hb1.size; omega
  have HCE2 : Hid (∀ i, i < 32 → w2.cell? ⟨b, off + i, none⟩ = some (.int .u8 (xs.getD i 0))) := hide (fun i hi => by
    rw [hb12.cell (p := ⟨b, off + i, none⟩) hbl]; exact HCE.out i hi)
  have HB12 := hide hb12
  clear hg1 hg2 hb1 hb2 hb12 HCE hle2
  go_wp2
  go_loopw [8] (fun i wq => ∃ k : Nat, k ≤ 32 ∧ i = .int .i64 k ∧ Blk wq g2 39 (spl (u8s (zer 32)) (u8s (xs.take k)) 0) ∧ But g2 w2 wq) (fun i _ => 32 - (intOf i).toNat)
  case atStart => exact ⟨0, by omega, rfl, G2.out, But.refl _ _⟩
  case round =>
    clear G2
    obtain ⟨k, hk, rfl, hr, hbut⟩ := hrel
    have HR := hide hr
    have HBut := hide hbut
    clear hr hbut
    by_cases hk32 : k < 32
    · obtain ⟨old, hold⟩ := spl_there xs 32 k HX.out hk32
      have hcell : wr.cell? ⟨g2, k, none⟩ = some old := by rw [HR.out.cell]; exact hold
      have hfree : wr.frozen? ⟨g2, k, none⟩ = false := HR.out.free k
      have hsrc : wr.cell? ⟨b, off + k, none⟩ = some (.int .u8 (xs.getD k 0)) := by
        rw [World.cell?_of_block (w := w2) (HBut.out.block b (by omega)), HCE2.out k hk32]
      have hkL : (k : Int) < 32 := by omega
      have x2 := index_D g2 k (k : Int) rfl hk32
      have HN := hide (spl_next xs 32 k HX.out hk32)
      clear hold
      go_wp2
      refine ⟨⟨k + 1, by omega, by go_num, ?_, HBut.out.trans (But.setCell _ _ _ _)⟩, ?_⟩
      · have e := HR.out.set k (.int .u8 (xs.getD k 0))
        rw [HN.out] at e
        exact e
      · simp [intOf]; omega
    · obtain rfl : k = 32 := by omega
      have HF := hide HR.out
      rw [List.take_of_length_le (by rw [HX.out]; exact Nat.le_refl _), spl_all xs 32 HX.out] at HF
      have G1q := hide (G1.out.but HBut.out n12)
      go_wp2_with (first | (refine step_loadA wD0 rfl rfl HF.out (by rw [u8s_length]; exact HX.out) ?_) | (refine step_storeA wD0 rfl rfl rfl G1q.out (by rw [u8s_length]; exact HX.out) (One.u8 _) rfl ?_; intro w6 hg6 hbut6))
      refine bodyPost_ret (results_wide3 rfl wD0 _ _ rfl hg6 (by rw [u8s_length]; exact HX.out)) rfl ⟨rfl, ?_⟩
      exact HB12.out.trans ((HBut.out.below l2).trans (hbut6.below hle1))

end Go.Proofs.YtnlpgkfmjlljdaaDoor
