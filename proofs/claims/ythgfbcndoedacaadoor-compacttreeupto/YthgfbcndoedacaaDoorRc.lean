/-
  The root out of a range's parts is the tree's; Root of a range, whatever its parts.
-/
import Derived.Test.YthgfbcndoedacaaDoorRb
import Derived.Test.YthgfbcndoedacaaDoorRy
namespace Go.Proofs.YthgfbcndoedacaaDoor
open Go.RowKit Go.Shelf
set_option linter.unusedVariables false

theorem rf_cons (p : Pt) (ps : List Pt) (h : ps ≠ []) : rf (p :: ps) = nd p.2 (rf ps) := by
  cases ps with
  | nil => exact absurd rfl h
  | cons q ps => rfl
theorem accR_rf (ps : List Pt) (n : Nat) (hn : ps.length = n + 1) : ∀ k, k ≤ n → accR (ps.take n) n (pAt ps n).2 (List.range k) = rf (ps.drop (n - k))
  | 0, _ => by
    have e : ps.drop n = [pAt ps n] := by
      rw [List.drop_eq_getElem_cons (by omega), List.drop_of_length_le (by omega)]
      simp [pAt, List.getD, hn]
    rw [Nat.sub_zero, e]
    rfl
  | k + 1, hk => by
    rw [List.range_succ, accR_snoc, accR_rf ps n hn k (by omega)]
    have e1 : pG (ps.take n) (n - 1 - k) = pAt ps (n - 1 - k) := by
      unfold pG
      rw [if_pos (by rw [List.length_take]; omega)]
      simp only [pAt, List.getD, List.getElem?_take]
      rw [if_pos (by omega)]
    have e2 : n - (k + 1) = n - 1 - k := by omega
    have e3 : ps.drop (n - (k + 1)) = pAt ps (n - 1 - k) :: ps.drop (n - k) := by
      rw [e2, List.drop_eq_getElem_cons (by omega)]
      have e4 : n - 1 - k + 1 = n - k := by omega
      rw [e4]
      congr 1
      simp only [pAt, List.getD]
      rw [List.getElem?_eq_getElem (by omega)]
      rfl
    have hne : ps.drop (n - k) ≠ [] := by
      intro e
      have := congrArg List.length e
      simp at this
      omega
    rw [e3, rf_cons _ _ hne, e1]
theorem accR_all (ps : List Pt) (n : Nat) (hn : ps.length = n + 1) : accR (ps.take n) n (pAt ps n).2 (List.range n) = rf ps := by
  rw [accR_rf ps n hn n (Nat.le_refl _), Nat.sub_self, List.drop_zero]

theorem rps_step0 {xs : List Int} {b e k : Nat} (h : IsLev b (e - b) k) (he : e ≤ 2 ^ 48) : rps xs b e = ((k, b / 2 ^ k), rd xs (k, b / 2 ^ k)) :: rps xs (b + 2 ^ k) e := by
  unfold rps
  rw [parts_step h he]
  rfl
theorem rd_at {xs : List Int} {b k : Nat} (h : 2 ^ k ∣ b) : rd xs (k, b / 2 ^ k) = root (sub xs b (b + 2 ^ k)) := by
  unfold rd
  simp only
  rw [Nat.add_mul, Nat.div_mul_cancel h, Nat.one_mul]
theorem rps_root {xs : List Int} {n : Nat} (h : xs.length = 32 * n) (hn : n ≤ 2 ^ 47) (m : Nat) : ∀ b e : Nat, 2 ^ m ∣ b → b < e → e ≤ b + 2 ^ m → e ≤ n → rf (rps xs b e) = root (sub xs b e) := by
  induction m using Nat.strongRecOn with
  | ind m ih =>
    intro b e hd hlt hle hen
    have h48 : e ≤ 2 ^ 48 := by
      have : (2 : Nat) ^ 47 ≤ 2 ^ 48 := by decide
      omega
    have hk := lv_isLev (b := b) (n := e - b) (by omega) (by omega)
    rw [rps_step0 hk h48]
    generalize lv b (e - b) = k at *
    have hkl := hk.le
    have hp := Nat.two_pow_pos k
    rw [rd_at hk.dvd]
    by_cases heq : e = b + 2 ^ k
    · subst heq
      have e0 : rps xs (b + 2 ^ k) (b + 2 ^ k) = [] := by unfold rps; rw [parts_nil (Nat.le_refl _)]; rfl
      rw [e0]
      rfl
    · have hkm : k < m := by
        apply Nat.lt_of_not_le
        intro hl
        have : 2 ^ m ≤ 2 ^ k := Nat.pow_le_pow_right (by omega) hl
        omega
      have ht : e < b + 2 ^ (k + 1) := by
        apply Nat.lt_of_not_le
        intro hc
        exact hk.top ⟨pow_dvd_le hd hkm, by omega⟩
      have e2 : 2 ^ (k + 1) = 2 ^ k + 2 ^ k := by rw [Nat.pow_succ]; omega
      have hne : rps xs (b + 2 ^ k) e ≠ [] := by
        unfold rps
        rw [parts_cons (by omega)]
        simp
      rw [rf_cons _ _ hne, ih k hkm (b + 2 ^ k) e (Nat.dvd_add hk.dvd (Nat.dvd_refl _)) (by omega) (by omega) hen]
      have hl := sub_length h (show b ≤ e by omega) hen
      have hn62 : n < 2 ^ 62 := by
        have : (2 : Nat) ^ 47 < 2 ^ 62 := by decide
        omega
      have hh : hf (e - b) = 2 ^ k := (hf_uniq (e - b) k (by omega) (by omega) (by omega) (by omega))
      rw [root_node hl (by omega) (by omega), lo_eq hl, hi_eq hl, hh]
      congr 2
      · unfold sub
        rw [List.take_take, show b + 2 ^ k - b = 2 ^ k by omega, Nat.min_eq_left (by omega)]
      · unfold sub
        rw [List.drop_take, List.drop_drop]
        congr 1
        · omega
        · congr 1
          omega
/-- THE RANGE's ROOT IS THE TREE's. -/
theorem rf_root {xs : List Int} {n : Nat} (h : xs.length = 32 * n) (hn : n ≤ 2 ^ 47) : rf (rps xs 0 n) = root xs := by
  by_cases h0 : 0 < n
  · have := rps_root h hn 47 0 n (Nat.dvd_zero _) h0 (by omega) (Nat.le_refl _)
    rw [this]
    congr 1
    unfold sub
    rw [Nat.mul_zero, List.drop_zero, List.take_of_length_le (by omega)]
  · obtain rfl : n = 0 := by omega
    have e0 : rps xs 0 0 = [] := by unfold rps; rw [parts_nil (Nat.le_refl _)]; rfl
    rw [e0, root_zero (by omega)]
    rfl
theorem rf_good : ∀ {ps : List Pt}, GoodL ps → (rf ps).length = 32 ∧ isB (rf ps)
  | [], _ => ⟨emp_length, emp_isB⟩
  | [p], h => ⟨(h p (List.mem_cons_self ..)).len, (h p (List.mem_cons_self ..)).byte⟩
  | p :: q :: ps, h => ⟨nd_length _ _, nd_isB _ _⟩

set_option maxRecDepth 100000 in
set_option maxHeartbeats 1000000 in
theorem rroot_none (B g e : Nat) (v : Value) (w : World) (hr : Rg w B g 0 e v []) (hk : KT w) :
    Calls Tryd.prog 22 #[.pointer (some ⟨g, 0, none⟩)] w fun r w' => r = .returned (.tuple #[.agg (u8s emp).toArray, .int .i64 0]) ∧ Below w.heap.size w w' := by
  have HR := hide hr
  have HK := hide hk
  have HML := hide (show (u8s emp).length = 32 by rw [u8s_length, emp_length])
  obtain ⟨a0, q0, rfl⟩ : ∃ a c, v = Value.slice a 0 c := by rcases hr.own.lies with ⟨rfl, _⟩ | ⟨_, _, _, rfl, _⟩ <;> exact ⟨_, _, rfl⟩
  clear hr hk
  go_enter Tryd.func22, Tryd.ntmps22
  go_wp2_with (refine step_alloc zD rfl ?_)
  intro w1 g2 hg2 hle2 hb1
  have G2 := hide hg2
  have R1 := hide (HR.out.below hb1)
  have c0 : w1.cell? ⟨g, 0, none⟩ = some (.bool true) := by rw [R1.out.blk.cell]; rfl
  have c1 : w1.cell? ⟨g, 1, none⟩ = some (.int .i64 0) := by rw [R1.out.blk.cell]; rfl
  have c3 : w1.cell? ⟨g, 3, none⟩ = some (.slice a0 0 q0) := by rw [R1.out.blk.cell]; rfl
  clear hg2
  go_wp2_with (go_at_call 29; refine (made_is _ _ c0).mono ?_; rintro e w' ⟨rfl, rfl⟩)
  refine (empty_any _ (HK.out.below hb1 HK.out.lt)).mono ?_
  rintro r w3 ⟨rfl, hb3⟩
  have G3 := hide (G2.out.below hb3 G2.out.lt)
  go_wp2_with (refine step_storeA wD rfl rfl rfl G3.out HML.out (One.u8 _) rfl ?_; intro w4 hg4 hbut4)
  refine bodyPost_ret (results_wide2 rfl wD _ _ rfl hg4 HML.out) rfl ⟨rfl, ?_⟩
  exact (hb1.trans (hb3.mono hb1.size)).trans (hbut4.below hle2)
theorem rroot_off (B g b e : Nat) (v : Value) (ps : List Pt) (w : World) (hr : Rg w B g b e v ps) (hb : b ≠ 0) :
    Calls Tryd.prog 22 #[.pointer (some ⟨g, 0, none⟩)] w fun r w' => r = .returned (.tuple #[.agg (u8s (zer 32)).toArray, .int .i64 40]) ∧ Below w.heap.size w w' := by
  have HR := hide hr
  have hb0 : ¬ ((b : Int) = 0) := by omega
  clear hr
  go_enter Tryd.func22, Tryd.ntmps22
  go_wp2_with (refine step_alloc zD rfl ?_)
  intro w1 g2 hg2 hle2 hb1
  have G2 := hide hg2
  have R1 := hide (HR.out.below hb1)
  have c0 : w1.cell? ⟨g, 0, none⟩ = some (.bool true) := by rw [R1.out.blk.cell]; rfl
  have c1 : w1.cell? ⟨g, 1, none⟩ = some (.int .i64 (b : Int)) := by rw [R1.out.blk.cell]; rfl
  clear hg2
  go_wp2_with (first | (go_at_call 29; refine (made_is _ _ c0).mono ?_; rintro e w' ⟨rfl, rfl⟩) | (refine step_buildD rfl ?_) | (refine step_storeA wD rfl rfl rfl G2.out rfl (One.u8 _) rfl ?_; intro w2 hg2 hbut))
  refine bodyPost_ret (results_wide2 rfl wD _ _ rfl hg2 rfl) rfl ⟨rfl, ?_⟩
  exact hb1.trans (hbut.below hle2)
/-- Root of a range from 0 on. -/
theorem rroot_any (B g e : Nat) (v : Value) (ps : List Pt) (w : World) (hr : Rg w B g 0 e v ps) (hk : KT w) :
    Calls Tryd.prog 22 #[.pointer (some ⟨g, 0, none⟩)] w fun r w' => r = .returned (.tuple #[.agg (u8s (rf ps)).toArray, .int .i64 0]) ∧ Below w.heap.size w w' := by
  cases hps : ps with
  | nil => subst hps; exact rroot_none B g e v w hr hk
  | cons p qs =>
    have hn : ps.length = qs.length + 1 := by rw [hps]; rfl
    have := rroot_some B g e qs.length v ps w hr hn hk
    rw [accR_all ps _ hn] at this
    rw [← hps]
    exact this

end Go.Proofs.YthgfbcndoedacaaDoor
