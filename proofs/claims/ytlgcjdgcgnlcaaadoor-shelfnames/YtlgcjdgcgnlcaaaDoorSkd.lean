/-
  The names of tiles' files: the program's Name; isMade, check.
-/
import Derived.Test.YtlgcjdgcgnlcaaaDoorSkb
import Derived.Test.YtlgcjdgcgnlcaaaDoorTpb
namespace Go.Proofs.YtlgcjdgcgnlcaaaDoor
open Go.RowKit
set_option linter.unusedVariables false
set_option linter.unusedSimpArgs false

/-- May the full tile of these numbers be? -/
def smB (h l i : Int) : Bool := decide (0 ≤ h) && decide (0 ≤ l) && decide (0 ≤ i) && tFB h.toNat l.toNat i.toNat
def smP (h l i : Int) : List UInt8 := if smB h l i = true then sP h.toNat l.toNat i.toNat else []
def smE (h l i : Int) : Int := if smB h l i = true then 0 else 2
theorem smB_nat (h l i : Nat) : smB (h : Int) (l : Int) (i : Int) = tFB h l i := by
  unfold smB
  simp only [Int.toNat_natCast]
  have a : decide ((0 : Int) ≤ (h : Int)) = true := by simp
  have b : decide ((0 : Int) ≤ (l : Int)) = true := by simp
  have c : decide ((0 : Int) ≤ (i : Int)) = true := by simp
  rw [a, b, c]
  simp
theorem smP_nat (h l i : Nat) : bA (smP (h : Int) (l : Int) (i : Int)) = sN h l i := by
  unfold smP sN
  rw [smB_nat]
  simp only [Int.toNat_natCast]
  by_cases k : tFB h l i = true
  · rw [if_pos k]
  · rw [if_neg k, sP_no (by simpa using k)]
theorem smB_nats {h l i : Int} (k : smB h l i = true) : ∃ H L I : Nat, h = H ∧ l = L ∧ i = I ∧ tFB H L I = true := by
  unfold smB at k
  simp only [Bool.and_eq_true, decide_eq_true_eq] at k
  exact ⟨h.toNat, l.toNat, i.toNat, by omega, by omega, by omega, k.2⟩
theorem smB_tOK {h l i : Int} {H : Nat} (e : h = (H : Int)) : smB h l i = true ↔ tOK h l i ((2 ^ H : Nat) : Int) := by
  constructor
  · intro k
    obtain ⟨H', L, I, e1, rfl, rfl, k⟩ := smB_nats k
    obtain rfl : H = H' := by omega
    rw [e]
    exact tFB_ok k
  · intro k
    obtain ⟨H', L, I, N, e1, rfl, rfl, e4, k1, k2, k3⟩ := k
    obtain rfl : H = H' := by omega
    rw [e, smB_nat]
    refine tFB_of k1 ?_
    have : 2 ^ H = N := Int.ofNat.inj e4
    omega
theorem smB_h {h l i : Int} (k : h < 1 ∨ 8 < h) : smB h l i = false := by
  cases e : smB h l i with
  | false => rfl
  | true =>
    obtain ⟨H, L, I, rfl, _, _, q⟩ := smB_nats e
    have := (tFB_is q).1
    have := this.1
    have := (tFB_is q).1.2
    omega
section
variable {dst : Option Tmp} {ty : TypeId} {pos : String} {aft : Array Edge} {gd : Option (Nat × Bool)} {ops : Array Oper} {rest : List Oper} {a : Act} {w : World} {Q : Exit → Act → World → Prop}
theorem step_buildT4 {x y z u : Operand} {h l i n : Int} (hw : Region.wanted ⟨dst, .build 45 #[(0, x), (1, y), (2, z), (3, u)], ty, pos, aft, gd⟩ (yielded ops a.tmps) = true) (hx : a.eval x = .int .i64 h) (hy : a.eval y = .int .i64 l) (hz : a.eval z = .int .i64 i) (hu : a.eval u = .int .i64 n)
    (k : wpList Tryd.prog ops Q rest (a.put dst (.agg (c4 h l i n).toArray)) w) : wpList Tryd.prog ops Q (⟨dst, .build 45 #[(0, x), (1, y), (2, z), (3, u)], ty, pos, aft, gd⟩ :: rest) a w :=
  step_run hw _ w (run_op (M := Instr.build 45 #[(0, .int .i64 h), (1, .int .i64 l), (2, .int .i64 i), (3, .int .i64 n)]) (by simp [execOp, hx, hy, hz, hu]) (by kernel_rfl)) k
end
theorem wrap_pow {H P : Nat} (hh : isH H) (hP : 2 ^ H = P) : wrap64 (2 ^ H) = (P : Int) := by
  have e : ((2 : Int) ^ H) = (P : Int) := by rw [← hP]; simp [Int.natCast_pow]
  have := hh.pow
  rw [e]
  unfold wrap64
  omega
set_option maxHeartbeats 1000000 in
theorem fullT_any (H P : Nat) (l i : Int) (w : World) (hh : isH H) (hP : 2 ^ H = P) : Calls Tryd.prog 18 #[.int .i64 (H : Int), .int .i64 l, .int .i64 i] w fun r w' => r = .returned (.agg (c4 (H : Int) l i (P : Int)).toArray) ∧ Below w.heap.size w w' := by
  obtain ⟨h1, h8⟩ := hh.ints
  have HW := hide (wrap_pow hh hP)
  clear hP hh
  go_enter Tryd.func18, Tryd.ntmps18
  go_wp2_with (refine step_alloc zT rfl ?_)
  intro w1 g1 hg1 hle1 hb1
  have HG := hide hg1
  clear hg1
  go_wp2_with (first | (rw [HW.out]) | (refine step_buildT4 rfl rfl rfl rfl rfl ?_) | (refine step_storeA wT rfl rfl rfl HG.out rfl (One.c4 _ _ _ _) rfl ?_; intro w2 hg2 hbut))
  refine bodyPost_ret (results_wide rfl wT _ _ rfl hg2 rfl) rfl ⟨rfl, ?_⟩
  exact hb1.trans (hbut.below hle1)
theorem empB : (.string { data := #[] } : Value) = .string (bA []) := rfl
set_option maxHeartbeats 1000000 in
theorem sname_any (h l i : Int) (w : World) (hl : l ≤ 9223372036854775807) (hi : i ≤ 9223372036854775807) (ht : PT w) :
    Calls Tryd.prog 6 #[.int .i64 h, .int .i64 l, .int .i64 i] w fun r w' => r = .returned (.tuple #[.string (bA (smP h l i)), .int .i64 (smE h l i)]) ∧ Below w.heap.size w w' := by
  by_cases hb : h < 1 ∨ 8 < h
  · have e1 : smP h l i = [] := by unfold smP; rw [smB_h hb]; rfl
    have e2 : smE h l i = 2 := by unfold smE; rw [smB_h hb]; rfl
    rw [e1, e2]
    clear e1 e2 ht
    by_cases h1 : h < 1
    · clear hb
      go_enter Tryd.func6, Tryd.ntmps6
      go_wp2
      go_ret2
      exact ⟨rfl, Below.refl _ _⟩
    · have h8 : 8 < h := by omega
      clear hb
      go_enter Tryd.func6, Tryd.ntmps6
      go_wp2
      go_ret2
      exact ⟨rfl, Below.refl _ _⟩
  · obtain ⟨H, hH⟩ : ∃ H : Nat, h = (H : Int) := ⟨h.toNat, by omega⟩
    have hh : isH H := ⟨by omega, by omega⟩
    have hf1 : ¬ h < 1 := by omega
    have hf8 : ¬ 8 < h := by omega
    have hf : ∀ W : World, Calls Tryd.prog 18 #[.int .i64 h, .int .i64 l, .int .i64 i] W fun r w' => r = .returned (.agg (c4 h l i ((2 ^ H : Nat) : Int)).toArray) ∧ Below W.heap.size W w' := fun W => by
      rw [hH]
      exact fullT_any H (2 ^ H) l i W hh rfl
    obtain ⟨p, e, hpe, hp⟩ := path_any h l i ((2 ^ H : Nat) : Int) hl hi
    have e1 : p = smP h l i ∧ e = smE h l i := by
      rcases hpe with ⟨rfl, k, rfl⟩ | ⟨rfl, k, rfl⟩
      · have kb := (smB_tOK hH).2 k
        unfold smP smE
        rw [if_pos kb, if_pos kb]
        obtain ⟨H', L, I, e1, rfl, rfl, k2⟩ := smB_nats kb
        obtain rfl : H = H' := by omega
        refine ⟨?_, rfl⟩
        rw [hH]
        simp only [Int.toNat_natCast]
        rw [sP_ok k2]
      · have kb : ¬ smB h l i = true := fun kb => k ((smB_tOK hH).1 kb)
        unfold smP smE
        rw [if_neg kb, if_neg kb]
        exact ⟨rfl, rfl⟩
    obtain ⟨rfl, rfl⟩ := e1
    have HF := hide hf
    have HP := hide hp
    have HT := hide ht
    clear hf hp ht hpe hb hl hi hH
    generalize smP h l i = p at *
    generalize smE h l i = e at *
    generalize ((2 ^ H : Nat) : Int) = q at *
    go_enter Tryd.func6, Tryd.ntmps6
    go_wp2_with fail
    refine (HF.out _).mono ?_
    rintro r w1 ⟨rfl, hb1⟩
    have T1 := HT.out.below hb1
    go_wp2_with fail
    refine (HP.out _ T1).mono ?_
    rintro r w2 ⟨rfl, hb2⟩
    have q2 := on_below hb1 hb2
    clear hb1 hb2 T1
    go_wp2
    go_ret2
    exact ⟨rfl, q2⟩
section
variable (d s : Nat) (rs : List Rw) (D : Dm) (w : World) (hd : DkAt w d s rs D)
include hd
theorem madeS_any : Calls Tryd.prog 27 #[.pointer (some ⟨d, 0, none⟩)] w fun r w' => r = .returned (.bool true) ∧ w' = w := by
  have HH := hide hd
  have h1 : (0 : Int) < (s : Int) := by have := hd.s1; omega
  clear hd
  go_enter Tryd.func27, Tryd.ntmps27
  go_wp2_with (go_at_call 45; refine (sector_any d s rs D _ HH.out).mono ?_; rintro e w ⟨rfl, rfl⟩)
  go_ret
  exact ⟨by simp; omega, rfl⟩
theorem scheck_any (h l : Int) (hl : l ≤ 9223372036854775807) (ht : PT w) : Calls Tryd.prog 24 #[.pointer (some ⟨d, 0, none⟩), .int .i64 h, .int .i64 l] w fun r w' => r = .returned (.int .i64 (smE h l 0)) ∧ Below w.heap.size w w' := by
  have HM := hide (madeS_any d s rs D w hd)
  have HN := hide (sname_any h l 0 w hl (by decide) ht)
  clear hd ht hl
  generalize smE h l 0 = e at *
  generalize smP h l 0 = p at *
  go_enter Tryd.func24, Tryd.ntmps24
  go_wp2_with (go_at_call 27; refine HM.out.mono ?_; rintro r w' ⟨rfl, rfl⟩)
  refine HN.out.mono ?_
  rintro r w1 ⟨rfl, hb1⟩
  go_wp2
  go_ret
  exact ⟨rfl, hb1⟩
end

end Go.Proofs.YtlgcjdgcgnlcaaaDoor
