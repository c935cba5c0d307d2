/-
  Texts one behind the other: Jpl Jnr Jna Jng Jni Jdd Jds Fkr Jkr Jld Jle Jpc Jrq.
-/
import Derived.Test.YtninkkdbcgadpaaGreatDoorKmi
import Derived.Test.YtninkkdbcgadpaaGreatDoorPkD
import Derived.Test.YtninkkdbcgadpaaGreatDoorJpa
import Derived.Test.YtninkkdbcgadpaaGreatDoorLzc
import Derived.Test.YtninkkdbcgadpaaGreatDoorNw
import Derived.Test.YtninkkdbcgadpaaGreatDoorMe
import Derived.Test.YtninkkdbcgadpaaGreatDoorPkB
import Derived.Laws.OwnMore
import Derived.Test.YtninkkdbcgadpaaGreatDoorJls
import Derived.Deep.Cut
import Derived.Test.YtninkkdbcgadpaaGreatDoorIs
import Derived.Test.YtninkkdbcgadpaaGreatDoorOu
import Derived.Test.YtninkkdbcgadpaaGreatDoorPkC

/-
  The two disks beside each other, in the law's laid.
-/
namespace Go.Proofs.YtninkkdbcgadpaaGreatDoor
open Go.RowKit
set_option linter.unusedVariables false

theorem DkAt.chL {a b : World} {d s : Nat} {rs : List Rw} {D : Dm} {S : Nat → Prop} (h : DkAt a d s rs D) (hc : Chs S a b) (hn : ∀ k, D.own d k ∨ D.ro k → ¬ S k) : DkAt b d s rs D := h.same (fun k hk => hc.block k (h.lt hk) (hn k hk))
/-- All blocks that the two disks look at. -/
def Foot (d r : Nat) (D : Dm) (R : Rm) (k : Nat) : Prop := (D.own d k ∨ D.ro k) ∨ (R.own r k ∨ R.ro k)
/-- The program's disk and the document's, with the same raw writes, in memory of their own. -/
structure LP (w W : World) (d r s : Nat) (rs : List Rw) (D : Dm) (R : Rm) : Prop where
  dk : DkAt W d s rs D
  rk : RkAt W r s rs R
  ap : ∀ k, D.own d k ∨ D.ro k → ¬ (R.own r k ∨ R.ro k)
  lo : ∀ k, Foot d r D R k → w.heap.size ≤ k
  bel : Below w.heap.size w W
section
variable {w W W1 W2 : World} {d r s : Nat} {rs rs' : List Rw} {D : Dm} {R : Rm}
theorem LP.lt (h : LP w W d r s rs D R) {k : Nat} (hk : Foot d r D R k) : k < W.heap.size := hk.elim h.dk.lt h.rk.lt
theorem LP.on (h : LP w W d r s rs D R) (hb : Below W.heap.size W W1) : LP w W1 d r s rs D R := ⟨h.dk.below hb, h.rk.below hb, h.ap, h.lo, on_below h.bel hb⟩
/-- Behind the program's call the document's disk is as it was. -/
theorem LP.chs1 {S : Nat → Prop} (h : LP w W d r s rs D R) (hc : Chs S W W1) (hS : ∀ k, S k → D.own d k) : RkAt W1 r s rs R ∧ Below w.heap.size w W1 :=
  ⟨h.rk.chs hc (fun k hk hs => h.ap k (.inl (hS k hs)) hk), h.bel.trans (hc.below (fun k hk ho => by have := h.lo k (.inl (.inl (hS k ho))); omega) h.bel.size)⟩
theorem LP.op1 (h : LP w W d r s rs D R) (ho : OpR W W1 d s D rs') : RkAt W1 r s rs R ∧ Below w.heap.size w W1 := by
  obtain ⟨D', _, hc, _, _⟩ := ho
  exact h.chs1 hc (fun k hk => hk)
theorem LP.keep1 (h : LP w W d r s rs D R) (ho : OpR W W1 d s D rs') {g : Nat} {t : TypeId} {cs : List Value} (hg : Blk W g t cs) (hn : ¬ Foot d r D R g) : Blk W1 g t cs := by
  obtain ⟨D', _, hc, _, _⟩ := ho
  exact hg.chs hc (fun h => hn (.inl (.inl h)))
theorem LP.keep2 (hr : RoP W1 W2 r s R rs') {g : Nat} {t : TypeId} {cs : List Value} (hg : Blk W1 g t cs) (hn : ¬ Foot d r D R g) : Blk W2 g t cs := by
  obtain ⟨R', _, hc, _, _⟩ := hr
  exact hg.chs hc (fun h => hn (.inr (.inl h)))
/-- Both calls, one behind the other. -/
theorem LP.both (h : LP w W d r s rs D R) (ho : OpR W W1 d s D rs') (hr : RoP W1 W2 r s R rs') :
    ∃ D' R', LP w W2 d r s rs' D' R' ∧ ∀ k, Foot d r D' R' k → Foot d r D R k ∨ W.heap.size ≤ k := by
  have hb1 := (h.op1 ho).2
  obtain ⟨D', dk', ch1, own1, ro1⟩ := ho
  obtain ⟨R', rk', ch2, own2, ro2⟩ := hr
  have hs0 := h.bel.size
  have hs1 := ch1.size
  have fD : ∀ k, D'.own d k ∨ D'.ro k → (D.own d k ∨ D.ro k) ∨ W.heap.size ≤ k := fun k hk => by
    rcases hk with hk | hk
    · exact (own1 k hk).imp .inl id
    · exact (ro1 k hk).imp .inr id
  have fR : ∀ k, R'.own r k ∨ R'.ro k → (R.own r k ∨ R.ro k) ∨ W1.heap.size ≤ k := fun k hk => by
    rcases hk with hk | hk
    · exact (own2 k hk).imp .inl id
    · exact (ro2 k hk).imp .inr id
  have nR : ∀ k, D'.own d k ∨ D'.ro k → ¬ (R.own r k ∨ R.ro k) := fun k hk hR => by
    rcases fD k hk with e | e
    · exact h.ap k e hR
    · have := h.rk.lt hR; omega
  have ft : ∀ k, Foot d r D' R' k → Foot d r D R k ∨ W.heap.size ≤ k := fun k hk => by
    rcases hk with hk | hk
    · exact (fD k hk).imp .inl id
    · rcases fR k hk with e | e
      · exact .inl (.inr e)
      · exact .inr (by omega)
  refine ⟨D', R', ⟨dk'.chL ch2 (fun k hk hR => nR k hk (.inl hR)), rk', fun k hk hR => ?_, fun k hk => ?_, hb1.trans (ch2.below (fun k hk ho => by have := h.lo k (.inr (.inl ho)); omega) hb1.size)⟩, ft⟩
  · rcases fR k hR with e | e
    · exact nR k hk e
    · have := dk'.lt hk; omega
  · rcases ft k hk with e | e
    · exact h.lo k e
    · omega
theorem LP.new {m g : Nat} (h1 : 1 ≤ s) (h2 : s ≤ 4096) (hN : New0 w W1 d m s) (hR : RkAt W2 g s [] rm0) (hg : W1.heap.size ≤ g) (hb : Below W1.heap.size W1 W2) : LP w W2 d g s [] ⟨m, .slice none 0 0, [], []⟩ rm0 := by
  have dk := hN.dkAt h1 h2
  have hs := hN.bel.size
  have hr : ∀ k, rm0.own g k ∨ rm0.ro k → W1.heap.size ≤ k := fun k hk => by
    rcases hk with hk | ⟨x, hx, _⟩
    · exact rm0_own hg k hk
    · cases hx
  refine ⟨dk.below hb, hR, ?_, ?_, on_below hN.bel hb⟩
  · intro k hk hq
    have h3 := dk.lt hk
    have h4 := hr k hq
    omega
  · intro k hk
    rcases hk with (hk | ⟨x, hx, _⟩) | hk
    · exact hN.own k hk
    · cases hx
    · have := hr k hk; omega
end

end Go.Proofs.YtninkkdbcgadpaaGreatDoor

/-
  The document's names of generations.
-/
namespace Go.Proofs.YtninkkdbcgadpaaGreatDoor
open Go.RowKit
set_option linter.unusedVariables false
set_option linter.unusedSimpArgs false

theorem rep_cons (k : Nat) (l : List UInt8) : (⟨#[48]⟩ : ByteArray) ++ bA (List.replicate k 48 ++ l) = bA (List.replicate (k + 1) 48 ++ l) := by
  have := bA_app [48] (List.replicate k 48 ++ l)
  rw [List.replicate_succ, List.cons_append]
  exact this
theorem bA_pre2 (l : List UInt8) : (⟨#[106, 111, 117, 114, 110, 97, 108, 45]⟩ : ByteArray) ++ bA l = bA (jPre ++ l) := bA_app jPre l
set_option maxHeartbeats 400000 in
theorem nameR_ok (g : Nat) (w : World) (h1 : 1 ≤ g) (h2 : g ≤ 2147483647) : Calls Tryz.prog 39 #[.int .i64 (g : Int)] w fun r w' => r = .returned (.tuple #[.string (jN g), .int .i64 0]) ∧ w' = w := by
  have HD := hide (digits_any g g w (Nat.le_refl _) (by omega))
  have h10 := dec_len10 h2
  have hg1 : ¬ (g : Int) < 1 := by omega
  have hg2 : ¬ (2147483647 : Int) < (g : Int) := by omega
  obtain ⟨l, HL⟩ : ∃ l, Hid (Lib.decDigits g = l) := ⟨_, hide rfl⟩
  rw [HL.out] at HD h10
  have HJ : Hid (jN g = bA (jPre ++ (List.replicate (6 - l.length) 48 ++ l))) := hide (by unfold jN jD; rw [HL.out])
  rw [HJ.out]
  clear h1 h2 HJ HL
  go_enter Tryz.func39, Tryz.ntmps39
  go_wp2_with fail
  refine HD.out.mono ?_
  rintro e w1 ⟨rfl, rfl⟩
  clear HD
  go_wp2_with fail
  go_loopw [4] (fun s W => W = w1 ∧ ∃ k : Nat, k ≤ 6 - l.length ∧ ∃ S : ByteArray, s = .string S ∧ Hid (S = bA (List.replicate k 48 ++ l)) ∧ S.size = k + l.length) (fun s _ => match s with | .string S => 6 - S.size | _ => 0)
  case atStart => exact ⟨rfl, 0, Nat.zero_le _, _, rfl, hide (by simp), by rw [bA_size]; omega⟩
  case round =>
    obtain ⟨rfl, k, hk, S, rfl, HS, hS⟩ := hrel
    by_cases hlt : S.size < 6
    · have hlt' : (S.size : Int) < 6 := by omega
      have s1 : ¬ 9223372036854775807 < (⟨#[48]⟩ : ByteArray).size + S.size := by
        have : (⟨#[48]⟩ : ByteArray).size = 1 := rfl
        omega
      obtain ⟨T, HT⟩ : ∃ T, Hid ((⟨#[48]⟩ : ByteArray) ++ S = T) := ⟨_, hide rfl⟩
      have hT : T.size = k + 1 + l.length := by
        rw [← HT.out, app_size]
        have : (⟨#[48]⟩ : ByteArray).size = 1 := rfl
        omega
      have HB : Hid (T = bA (List.replicate (k + 1) 48 ++ l)) := hide (by rw [← HT.out, HS.out, rep_cons])
      have hadd := HT.out
      go_wp2
      go_roundw
      case rel => exact ⟨trivial, k + 1, by omega, T, rfl, HB, hT⟩
      case measure => simp only; omega
    · have hlt' : ¬ (S.size : Int) < 6 := by omega
      have hkk : k = 6 - l.length := by omega
      have s1 : ¬ 9223372036854775807 < (⟨#[106, 111, 117, 114, 110, 97, 108, 45]⟩ : ByteArray).size + S.size := by
        have : (⟨#[106, 111, 117, 114, 110, 97, 108, 45]⟩ : ByteArray).size = 8 := rfl
        omega
      have HF : Hid ((⟨#[106, 111, 117, 114, 110, 97, 108, 45]⟩ : ByteArray) ++ S = bA (jPre ++ (List.replicate (6 - l.length) 48 ++ l))) := hide (by rw [HS.out, bA_pre2, hkk])
      clear HS hkk hS
      go_wp2
      go_ret2
      exact ⟨by rw [HF.out]; rfl, rfl⟩
set_option maxHeartbeats 400000 in
theorem nameR_bad (g : Int) (w : World) (h : g < 1 ∨ 2147483647 < g) : Calls Tryz.prog 39 #[.int .i64 g] w fun r w' => r = .returned (.tuple #[.string ByteArray.empty, .int .i64 2]) ∧ w' = w := by
  by_cases h1 : g < 1
  · clear h
    go_enter Tryz.func39, Tryz.ntmps39
    go_wp2
    go_ret2
    exact ⟨rfl, rfl⟩
  · have h2 : 2147483647 < g := by omega
    clear h
    go_enter Tryz.func39, Tryz.ntmps39
    go_wp2
    go_ret2
    exact ⟨rfl, rfl⟩

end Go.Proofs.YtninkkdbcgadpaaGreatDoor

/-
  The document's Number, whatever the most is.
-/
namespace Go.Proofs.YtninkkdbcgadpaaGreatDoor
open Go.RowKit
set_option linter.unusedVariables false
set_option linter.unusedSimpArgs false

set_option maxRecDepth 100000 in
set_option maxHeartbeats 1000000 in
theorem num_most (s : ByteArray) (most : Nat) (w : World) (hs : s.size ≤ 16777216) (hmost : most ≤ 281474976710656) :
    Calls Tryz.prog 103 #[.string s, .int .i64 (most : Int)] w fun r w' => Below w.heap.size w w' ∧
      ((∃ u : Nat, nmO (strL s) = some u ∧ r = .returned (.tuple #[.int .i64 (u : Int), .bool (decide (u ≤ most))])) ∨ (nmO (strL s) = none ∧ ∃ x, r = .returned (.tuple #[.int .i64 x, .bool false]))) := by
  have hl : (strL s).length = s.size := strL_length s
  by_cases h0 : s.size < 1
  · have HN : Hid (nmO (strL s) = none) := hide (by
      cases hn : nmO (strL s) with
      | none => rfl
      | some u => have := (nmO_len hn).1; omega)
    have h0' : (s.size : Int) < 1 := by omega
    go_enter Tryz.func103, Tryz.ntmps103
    go_wp2
    go_ret2
    exact ⟨Below.refl _ _, .inr ⟨HN.out, _, rfl⟩⟩
  · have h0' : ¬ ((s.size : Int) < 1) := by omega
    by_cases h18 : 18 < s.size
    · have HN : Hid (nmO (strL s) = none) := hide (by
        cases hn : nmO (strL s) with
        | none => rfl
        | some u => have := (nmO_len hn).2.1; omega)
      have h18' : (18 : Int) < (s.size : Int) := by omega
      go_enter Tryz.func103, Tryz.ntmps103
      go_wp2
      go_ret2
      exact ⟨Below.refl _ _, .inr ⟨HN.out, _, rfl⟩⟩
    · have h18' : ¬ ((18 : Int) < (s.size : Int)) := by omega
      have hz : 0 < s.size := by omega
      have hg0 : (strL s).head? = some (s[0]'hz) := by
        rw [List.head?_eq_getElem?, List.getElem?_eq_getElem (by omega)]
        rfl
      by_cases h1 : 1 < s.size ∧ s[0]'hz = 48
      · have HN : Hid (nmO (strL s) = none) := hide (by
          cases hn : nmO (strL s) with
          | none => rfl
          | some u => exact absurd (by rw [hg0, h1.2]) ((nmO_len hn).2.2 (by omega)))
        have h1' : (1 : Int) < (s.size : Int) := by omega
        have hz' : (0 : Int) < (s.size : Int) := by omega
        have e48 : ((((s[0]'hz).toNat : Nat) : Int) == 48) = true := by rw [h1.2]; rfl
        clear h1 hg0
        go_enter Tryz.func103, Tryz.ntmps103
        go_wp2
        go_ret2
        exact ⟨Below.refl _ _, .inr ⟨HN.out, _, rfl⟩⟩
      · have HH : Hid (1 < (strL s).length → (strL s).head? ≠ some 48) := hide (fun h hh => h1 ⟨by omega, by rw [hg0] at hh; exact Option.some.inj hh⟩)
        have HX : Hid ((¬ (1 : Int) < (s.size : Int)) ∨ ((1 : Int) < (s.size : Int) ∧ ((((s[0]'hz).toNat : Nat) : Int) == 48) = false)) := hide (by
          by_cases h : 1 < s.size
          · right
            refine ⟨by omega, ?_⟩
            simp only [beq_eq_false_iff_ne, ne_eq]
            intro e
            refine h1 ⟨h, UInt8.toNat_inj.1 ?_⟩
            have : (s[0]'hz).toNat = 48 := by omega
            rw [this]; rfl
          · left; omega)
        have hz' : (0 : Int) < (s.size : Int) := by omega
        clear h1 hg0
        rcases HX.out with h1' | ⟨h1', e48⟩
        · clear HX
          go_enter Tryz.func103, Tryz.ntmps103
          go_wp2
          go_loopw [6, 7] (fun n i W => ∃ q m : Nat, q ≤ s.size ∧ n = .int .i64 (m : Int) ∧ i = .int .i64 (q : Int) ∧ Lib.decFrom 0 ((strL s).take q) = some m ∧ Below w.heap.size w W) (fun _ i _ => s.size - (intOf i).toNat)
          case atStart => exact ⟨0, 0, by omega, rfl, rfl, rfl, Below.refl _ _⟩
          case round =>
            obtain ⟨q, m, hq, rfl, rfl, hm, hbw⟩ := hrel
            have HM := hide hm
            have BQ := hide hbw
            have hml : m < 10 ^ q := by
              have := decFrom_lt _ _ _ hm
              rw [List.length_take, hl, Nat.min_eq_left hq] at this
              omega
            clear hm hbw
            by_cases hlt : q < s.size
            · have hlt' : (q : Int) < (s.size : Int) := by omega
              have hm17 : m < 100000000000000000 := Nat.lt_of_lt_of_le hml (Nat.le_trans (Nat.pow_le_pow_right (by decide) (show q ≤ 17 by omega)) (by decide))
              have hg : (strL s)[q]? = some (s[q]'hlt) := by rw [List.getElem?_eq_getElem (by omega)]; rfl
              clear hml
              by_cases hx : (s[q]'hlt).toNat < 48
              · have hx' : ((((s[q]'hlt).toNat : Nat) : Int)) < 48 := by omega
                have HN : Hid (nmO (strL s) = none) := hide (by
                  cases hn : nmO (strL s) with
                  | none => rfl
                  | some u =>
                    obtain ⟨d, hd⟩ := Lib.digit_of_decFrom _ _ _ (nmO_dec hn) q _ hg
                    unfold Lib.digitVal at hd
                    rw [if_neg (by omega)] at hd
                    cases hd)
                clear hg
                go_wp2
                go_ret2
                exact ⟨BQ.out, .inr ⟨HN.out, _, rfl⟩⟩
              · have hx' : ¬ ((((s[q]'hlt).toNat : Nat) : Int)) < 48 := by omega
                by_cases hy : 57 < (s[q]'hlt).toNat
                · have hy' : (57 : Int) < ((((s[q]'hlt).toNat : Nat) : Int)) := by omega
                  have HN : Hid (nmO (strL s) = none) := hide (by
                    cases hn : nmO (strL s) with
                    | none => rfl
                    | some u =>
                      obtain ⟨d, hd⟩ := Lib.digit_of_decFrom _ _ _ (nmO_dec hn) q _ hg
                      unfold Lib.digitVal at hd
                      rw [if_neg (by omega)] at hd
                      cases hd)
                  clear hg
                  go_wp2
                  go_ret2
                  exact ⟨BQ.out, .inr ⟨HN.out, _, rfl⟩⟩
                · have hy' : ¬ (57 : Int) < ((((s[q]'hlt).toNat : Nat) : Int)) := by omega
                  have HD : Hid (Lib.decFrom 0 ((strL s).take (q + 1)) = some (m * 10 + ((s[q]'hlt).toNat - 48))) := hide (Lib.decFrom_take _ _ _ _ _ _ HM.out hg (by unfold Lib.digitVal; rw [if_pos (by omega)]))
                  have hwm : IntKind.i64.wrap ((m : Int) * 10) = (m : Int) * 10 := by rw [IntKind.wrap_i64]; omega
                  have hwx : IntKind.u8.wrap (((((s[q]'hlt).toNat : Nat) : Int)) - 48) = ((((s[q]'hlt).toNat : Nat) : Int)) - 48 := by rw [IntKind.wrap_u8]; omega
                  have hwy : IntKind.i64.wrap (((((s[q]'hlt).toNat : Nat) : Int)) - 48) = ((((s[q]'hlt).toNat : Nat) : Int)) - 48 := by rw [IntKind.wrap_i64]; omega
                  have hwz : IntKind.i64.wrap ((m : Int) * 10 + (((((s[q]'hlt).toNat : Nat) : Int)) - 48)) = (m : Int) * 10 + (((((s[q]'hlt).toNat : Nat) : Int)) - 48) := by rw [IntKind.wrap_i64]; omega
                  have hwq : IntKind.i64.wrap ((q : Int) + 1) = (q : Int) + 1 := by rw [IntKind.wrap_i64]; omega
                  have HZ : Hid ((m : Int) * 10 + (((((s[q]'hlt).toNat : Nat) : Int)) - 48) = ((m * 10 + ((s[q]'hlt).toNat - 48) : Nat) : Int)) := hide (by omega)
                  clear hg
                  go_wp2
                  go_roundw
                  case rel => exact ⟨q + 1, m * 10 + ((s[q]'hlt).toNat - 48), by omega, by rw [← HZ.out], by simp, HD.out, BQ.out⟩
                  case measure => simp only [intOf]; omega
            · obtain rfl : q = s.size := by omega
              have hlt' : ¬ ((s.size : Int) < (s.size : Int)) := by omega
              have hdm : Lib.decFrom 0 (strL s) = some m := by
                have := HM.out
                rwa [List.take_of_length_le (by omega)] at this
              have hcn : Lib.decDigits m = strL s := dec_canon _ _ _ (Nat.le_refl _) (fun e => by rw [e] at hl; simp at hl; omega) HH.out hdm
              by_cases hle : m ≤ 281474976710656
              · have HN := hide (nmO_of hle hcn)
                clear hdm hcn hml
                by_cases hmm : m ≤ most
                · have hle' : (m : Int) ≤ (most : Int) := by omega
                  have hdd : decide (m ≤ most) = true := decide_eq_true hmm
                  go_wp2
                  go_ret2
                  exact ⟨BQ.out, .inl ⟨m, HN.out, by rw [hdd]; rfl⟩⟩
                · have hle' : ¬ (m : Int) ≤ (most : Int) := by omega
                  have hdd : decide (m ≤ most) = false := decide_eq_false hmm
                  go_wp2
                  go_ret2
                  exact ⟨BQ.out, .inl ⟨m, HN.out, by rw [hdd]; rfl⟩⟩
              · have hle' : ¬ (m : Int) ≤ (most : Int) := by omega
                have HN : Hid (nmO (strL s) = none) := hide (by
                  cases hn : nmO (strL s) with
                  | none => rfl
                  | some u =>
                    have e := nmO_dec hn
                    rw [hdm] at e
                    injection e with e
                    have := (nmO_some hn).1
                    omega)
                clear hdm hcn hml
                go_wp2
                go_ret2
                exact ⟨BQ.out, .inr ⟨HN.out, _, rfl⟩⟩
        · clear HX
          go_enter Tryz.func103, Tryz.ntmps103
          go_wp2
          go_loopw [6, 7] (fun n i W => ∃ q m : Nat, q ≤ s.size ∧ n = .int .i64 (m : Int) ∧ i = .int .i64 (q : Int) ∧ Lib.decFrom 0 ((strL s).take q) = some m ∧ Below w.heap.size w W) (fun _ i _ => s.size - (intOf i).toNat)
          case atStart => exact ⟨0, 0, by omega, rfl, rfl, rfl, Below.refl _ _⟩
          case round =>
            obtain ⟨q, m, hq, rfl, rfl, hm, hbw⟩ := hrel
            have HM := hide hm
            have BQ := hide hbw
            have hml : m < 10 ^ q := by
              have := decFrom_lt _ _ _ hm
              rw [List.length_take, hl, Nat.min_eq_left hq] at this
              omega
            clear hm hbw
            by_cases hlt : q < s.size
            · have hlt' : (q : Int) < (s.size : Int) := by omega
              have hm17 : m < 100000000000000000 := Nat.lt_of_lt_of_le hml (Nat.le_trans (Nat.pow_le_pow_right (by decide) (show q ≤ 17 by omega)) (by decide))
              have hg : (strL s)[q]? = some (s[q]'hlt) := by rw [List.getElem?_eq_getElem (by omega)]; rfl
              clear hml
              by_cases hx : (s[q]'hlt).toNat < 48
              · have hx' : ((((s[q]'hlt).toNat : Nat) : Int)) < 48 := by omega
                have HN : Hid (nmO (strL s) = none) := hide (by
                  cases hn : nmO (strL s) with
                  | none => rfl
                  | some u =>
                    obtain ⟨d, hd⟩ := Lib.digit_of_decFrom _ _ _ (nmO_dec hn) q _ hg
                    unfold Lib.digitVal at hd
                    rw [if_neg (by omega)] at hd
                    cases hd)
                clear hg
                go_wp2
                go_ret2
                exact ⟨BQ.out, .inr ⟨HN.out, _, rfl⟩⟩
              · have hx' : ¬ ((((s[q]'hlt).toNat : Nat) : Int)) < 48 := by omega
                by_cases hy : 57 < (s[q]'hlt).toNat
                · have hy' : (57 : Int) < ((((s[q]'hlt).toNat : Nat) : Int)) := by omega
                  have HN : Hid (nmO (strL s) = none) := hide (by
                    cases hn : nmO (strL s) with
                    | none => rfl
                    | some u =>
                      obtain ⟨d, hd⟩ := Lib.digit_of_decFrom _ _ _ (nmO_dec hn) q _ hg
                      unfold Lib.digitVal at hd
                      rw [if_neg (by omega)] at hd
                      cases hd)
                  clear hg
                  go_wp2
                  go_ret2
                  exact ⟨BQ.out, .inr ⟨HN.out, _, rfl⟩⟩
                · have hy' : ¬ (57 : Int) < ((((s[q]'hlt).toNat : Nat) : Int)) := by omega
                  have HD : Hid (Lib.decFrom 0 ((strL s).take (q + 1)) = some (m * 10 + ((s[q]'hlt).toNat - 48))) := hide (Lib.decFrom_take _ _ _ _ _ _ HM.out hg (by unfold Lib.digitVal; rw [if_pos (by omega)]))
                  have hwm : IntKind.i64.wrap ((m : Int) * 10) = (m : Int) * 10 := by rw [IntKind.wrap_i64]; omega
                  have hwx : IntKind.u8.wrap (((((s[q]'hlt).toNat : Nat) : Int)) - 48) = ((((s[q]'hlt).toNat : Nat) : Int)) - 48 := by rw [IntKind.wrap_u8]; omega
                  have hwy : IntKind.i64.wrap (((((s[q]'hlt).toNat : Nat) : Int)) - 48) = ((((s[q]'hlt).toNat : Nat) : Int)) - 48 := by rw [IntKind.wrap_i64]; omega
                  have hwz : IntKind.i64.wrap ((m : Int) * 10 + (((((s[q]'hlt).toNat : Nat) : Int)) - 48)) = (m : Int) * 10 + (((((s[q]'hlt).toNat : Nat) : Int)) - 48) := by rw [IntKind.wrap_i64]; omega
                  have hwq : IntKind.i64.wrap ((q : Int) + 1) = (q : Int) + 1 := by rw [IntKind.wrap_i64]; omega
                  have HZ : Hid ((m : Int) * 10 + (((((s[q]'hlt).toNat : Nat) : Int)) - 48) = ((m * 10 + ((s[q]'hlt).toNat - 48) : Nat) : Int)) := hide (by omega)
                  clear hg
                  go_wp2
                  go_roundw
                  case rel => exact ⟨q + 1, m * 10 + ((s[q]'hlt).toNat - 48), by omega, by rw [← HZ.out], by simp, HD.out, BQ.out⟩
                  case measure => simp only [intOf]; omega
            · obtain rfl : q = s.size := by omega
              have hlt' : ¬ ((s.size : Int) < (s.size : Int)) := by omega
              have hdm : Lib.decFrom 0 (strL s) = some m := by
                have := HM.out
                rwa [List.take_of_length_le (by omega)] at this
              have hcn : Lib.decDigits m = strL s := dec_canon _ _ _ (Nat.le_refl _) (fun e => by rw [e] at hl; simp at hl; omega) HH.out hdm
              by_cases hle : m ≤ 281474976710656
              · have HN := hide (nmO_of hle hcn)
                clear hdm hcn hml
                by_cases hmm : m ≤ most
                · have hle' : (m : Int) ≤ (most : Int) := by omega
                  have hdd : decide (m ≤ most) = true := decide_eq_true hmm
                  go_wp2
                  go_ret2
                  exact ⟨BQ.out, .inl ⟨m, HN.out, by rw [hdd]; rfl⟩⟩
                · have hle' : ¬ (m : Int) ≤ (most : Int) := by omega
                  have hdd : decide (m ≤ most) = false := decide_eq_false hmm
                  go_wp2
                  go_ret2
                  exact ⟨BQ.out, .inl ⟨m, HN.out, by rw [hdd]; rfl⟩⟩
              · have hle' : ¬ (m : Int) ≤ (most : Int) := by omega
                have HN : Hid (nmO (strL s) = none) := hide (by
                  cases hn : nmO (strL s) with
                  | none => rfl
                  | some u =>
                    have e := nmO_dec hn
                    rw [hdm] at e
                    injection e with e
                    have := (nmO_some hn).1
                    omega)
                clear hdm hcn hml
                go_wp2
                go_ret2
                exact ⟨BQ.out, .inr ⟨HN.out, _, rfl⟩⟩

end Go.Proofs.YtninkkdbcgadpaaGreatDoor

/-
  The document's generation of a name.
-/
namespace Go.Proofs.YtninkkdbcgadpaaGreatDoor
open Go.RowKit
set_option linter.unusedVariables false
set_option linter.unusedSimpArgs false
set_option maxRecDepth 100000

theorem strip_jD {e : List UInt8} {z q : Nat} (hq : 1 ≤ q) (hl : jD q = List.replicate z 48 ++ e) (hend : ¬ (1 < e.length ∧ e.head? = some 48)) : e = Lib.decDigits q := by
  have hh : (Lib.decDigits q).head? ≠ some 48 := dec_head q q (Nat.le_refl _) (by omega)
  have hp := dec_pos q
  unfold jD at hl
  generalize 6 - (Lib.decDigits q).length = k at hl
  generalize Lib.decDigits q = D at *
  rcases Nat.lt_or_ge k z with hz | hz
  · obtain ⟨t, rfl⟩ : ∃ t, z = k + (t + 1) := ⟨z - k - 1, by omega⟩
    rw [← List.replicate_append_replicate, List.append_assoc] at hl
    have := List.append_cancel_left hl
    rw [List.replicate_succ, List.cons_append] at this
    rw [this] at hh
    exact absurd rfl hh
  · obtain ⟨t, rfl⟩ := Nat.exists_eq_add_of_le hz
    rw [← List.replicate_append_replicate, List.append_assoc] at hl
    have h1 := List.append_cancel_left hl
    cases t with
    | zero => simpa using h1.symm
    | succ t =>
      rw [List.replicate_succ, List.cons_append] at h1
      refine absurd ⟨?_, ?_⟩ hend
      · rw [← h1]; simp; omega
      · rw [← h1]; rfl
theorem slice_to13 (l : List UInt8) (k : Nat) (K : Int) (hK : K = (k : Int)) (hk : k ≤ l.length) (v : World) : (Instr.slice 9 (.string (bA l)) none (some (.int .i64 K)) none).run Tryz.prog v = .ok (.string (bA (l.take k))) v := by
  subst hK
  rw [run_slice_string_to_if v 9 (bA l) .i64 (k : Int) Tryz.underlying9, if_pos ⟨by omega, by rw [bA_size]; omega⟩]
  congr 2
  apply eq_of_strL
  rw [strL_bA]
  show (ByteArray.extract (bA l) 0 (k : Int).toNat).data.toList = _
  rw [ByteArray.data_extract, Array.toList_extract, Int.toNat_natCast]
  show List.extract l 0 k = _
  simp only [List.extract, List.drop_zero, Nat.sub_zero]
theorem slice_str13 (l : List UInt8) (k : Nat) (K : Int) (hK : K = (k : Int)) (hk : k ≤ l.length) (v : World) : (Instr.slice 9 (.string (bA l)) (some (.int .i64 K)) none none).run Tryz.prog v = .ok (.string (bA (l.drop k))) v := by
  subst hK
  rw [run_slice_string_from_if v 9 (bA l) .i64 (k : Int) Tryz.underlying9, if_pos ⟨by omega, by rw [bA_size]; omega⟩]
  congr 2
  apply eq_of_strL
  rw [strL_bA]
  show (ByteArray.extract (bA l) (k : Int).toNat (bA l).size).data.toList = _
  rw [ByteArray.data_extract, Array.toList_extract, bA_size, Int.toNat_natCast]
  show List.extract l k l.length = _
  simp only [List.extract]
  exact List.take_of_length_le (by simp)
def lenW : Value → Nat
  | .string s => s.size
  | _ => 0
theorem beqB_t {n t : ByteArray} (h : n = t) : (n.toList == t.toList) = true := by rw [h]; simp
theorem beqB_f {n t : ByteArray} (h : n ≠ t) : (n.toList == t.toList) = false := by
  rw [beq_eq_false_iff_ne, ByteArray.toList_eq, ByteArray.toList_eq]
  intro e
  exact h (by cases n; cases t; simp at e; rw [e])
/-- The generation that a name tells. -/
def GnO (n : ByteArray) (g : Nat) : Prop := (g = 0 ∨ (1 ≤ g ∧ g ≤ 2147483647 ∧ n = jN g)) ∧ ∀ q, 1 ≤ q → q ≤ 2147483647 → n = jN q → g = q
theorem GnO.none {n : ByteArray} (h : ∀ q, 1 ≤ q → q ≤ 2147483647 → n ≠ jN q) : GnO n 0 := ⟨.inl rfl, fun q h1 h2 e => absurd e (h q h1 h2)⟩
set_option maxHeartbeats 2000000 in
theorem genR_any (l : List UInt8) (w : World) (hs : l.length ≤ 16777216) :
    Calls Tryz.prog 71 #[.string (bA l)] w fun e w' => ∃ g : Nat, e = .returned (.int .i64 (g : Int)) ∧ GnO (bA l) g ∧ Below w.heap.size w w' := by
  have hsz : (bA l).size = l.length := bA_size l
  have BB := hide (Below.refl w.heap.size w)
  by_cases h8 : l.length < 8
  · have h8' : ((l.length : Nat) : Int) < 8 := by omega
    have HZ : Hid (GnO (bA l) 0) := hide (GnO.none (fun q h1 h2 e => by have := (jN_size h2).1; rw [← e] at this; omega))
    go_enter Tryz.func71, Tryz.ntmps71
    go_wp2_with fail
    go_ret
    exact ⟨0, rfl, HZ.out, BB.out⟩
  have h8' : ¬ ((l.length : Nat) : Int) < 8 := by omega
  have st := slice_to13 l 8 8 rfl (by omega)
  by_cases hp : l.take 8 = jPre
  · have hbp : ((bA (l.take 8)).toList == ([106, 111, 117, 114, 110, 97, 108, 45] : List UInt8)) = true := by
      rw [hp, ByteArray.toList_eq]
      rfl
    have sd := slice_str13 l 8 8 rfl (by omega)
    have HP := hide hp
    clear hp
    go_enter Tryz.func71, Tryz.ntmps71
    go_wp2_with fail
    go_loopw [3] (fun d wr => ∃ (z : Nat) (S : ByteArray), d = .string S ∧ Hid (l.drop 8 = List.replicate z 48 ++ strL S) ∧ Hid (Below w.heap.size w wr)) (fun d _ => lenW d)
    case atStart => exact ⟨0, _, rfl, hide (by rw [strL_bA]; rfl), BB⟩
    case round =>
      clear BB
      obtain ⟨z, S, rfl, HE, BW⟩ := hrel
      have hSl : (strL S).length = S.size := strL_length S
      have hSz : S.size ≤ 16777216 := by
        have h1 := congrArg List.length HE.out
        rw [List.length_drop, List.length_append, List.length_replicate] at h1
        omega
      by_cases h1 : 1 < S.size
      · have h1' : (1 : Int) < (S.size : Int) := by omega
        have hz : 0 < S.size := by omega
        have hz' : (0 : Int) < (S.size : Int) := by omega
        have hg0 : (strL S).head? = some (S[0]'hz) := by
          rw [List.head?_eq_getElem?, List.getElem?_eq_getElem (by omega)]
          rfl
        by_cases h48 : S[0]'hz = 48
        · have e48 : ((((S[0]'hz).toNat : Nat) : Int) == 48) = true := by rw [h48]; rfl
          have s1 : ∀ v : World, (Instr.slice 9 (.string S) (some (.int .i64 1)) none none).run Tryz.prog v = .ok (.string (bA ((strL S).drop 1))) v := fun v => by
            have := slice_str13 (strL S) 1 1 rfl (by omega) v
            have e : bA (strL S) = S := eq_of_strL (by rw [strL_bA])
            rwa [e] at this
          have HE2 : Hid (l.drop 8 = List.replicate (z + 1) 48 ++ strL (bA ((strL S).drop 1))) := hide (by
            rw [strL_bA, HE.out]
            cases hS : strL S with
            | nil => rw [hS] at hg0; cases hg0
            | cons a t =>
              rw [hS] at hg0
              have ha : a = 48 := by
                have : a = S[0]'hz := by simpa using hg0
                rw [this, h48]
              subst ha
              rw [List.replicate_succ', List.append_assoc]
              rfl)
          clear hg0 h48
          go_wp2_with fail
          go_roundw
          case rel => exact ⟨z + 1, _, rfl, hide (by have := HE2.out; rwa [List.drop_one] at this), BW⟩
          case measure => simp only [lenW, bA_size, List.length_tail, List.length_drop]; omega
        · have e48 : ((((S[0]'hz).toNat : Nat) : Int) == 48) = false := by
            simp only [beq_eq_false_iff_ne, ne_eq]
            intro e
            refine h48 (UInt8.toNat_inj.1 ?_)
            have : (S[0]'hz).toNat = 48 := by omega
            rw [this]; rfl
          have HEND : Hid (¬ (1 < (strL S).length ∧ (strL S).head? = some 48)) := hide (fun h => h48 (by rw [hg0] at h; exact Option.some.inj h.2))
          clear hg0 h48
          have HF : Hid (∀ q, 1 ≤ q → q ≤ 2147483647 → bA l = jN q → nmO (strL S) = some q) := hide (fun q h1 h2 e => by
            have e1 : l = jPre ++ jD q := bA_inj e
            have e2 : jD q = List.replicate z 48 ++ strL S := by
              rw [← HE.out, e1]
              rfl
            have e3 := strip_jD h1 e2 HEND.out
            rw [e3]
            exact nmO_of (by omega) rfl)
          clear HE HEND
          go_wp2_with fail
          refine (num_most S 2147483647 _ (by omega) (by decide)).mono ?_
          rintro r w2 ⟨hb2, hc⟩
          have B2 := hide (on_below BW.out hb2)
          clear hb2
          rcases hc with ⟨u, hu, rfl⟩ | ⟨hu, x, rfl⟩
          · have HU := hide hu
            clear hu
            by_cases hut : u ≤ 2147483647
            · have hd : decide (u ≤ 2147483647) = true := decide_eq_true hut
              rw [hd]
              by_cases hu0 : u = 0
              · subst hu0
                have HZ : Hid (GnO (bA l) 0) := hide (GnO.none (fun q h1 h2 e => by have := HF.out q h1 h2 e; rw [HU.out] at this; injection this with this; omega))
                have BB := B2
                go_wp2_with fail
                refine (nameR_bad _ _ (by omega)).mono ?_
                rintro e w3 ⟨rfl, rfl⟩
                go_wp2_with fail
                go_ret
                exact ⟨0, rfl, HZ.out, BB.out⟩
              · go_wp2_with fail
                refine (nameR_ok u _ (by omega) hut).mono ?_
                rintro e w3 ⟨rfl, rfl⟩
                by_cases hn : bA l = jN u
                · have HG : Hid (GnO (bA l) u) := hide ⟨.inr ⟨by omega, hut, hn⟩, fun q h1 h2 e => jN_inj (hn.symm.trans e)⟩
                  have hbq := beqB_t hn.symm
                  have BB := B2
                  clear hn
                  go_wp2_with fail
                  go_ret
                  exact ⟨u, rfl, HG.out, BB.out⟩
                · have HZ : Hid (GnO (bA l) 0) := hide (GnO.none (fun q h1 h2 e => by have := HF.out q h1 h2 e; rw [HU.out] at this; injection this with this; exact hn (by rw [this]; exact e)))
                  have hbq := beqB_f (fun e => hn e.symm : jN u ≠ bA l)
                  have BB := B2
                  clear hn
                  go_wp2_with fail
                  go_ret
                  exact ⟨0, rfl, HZ.out, BB.out⟩
            · have hd : decide (u ≤ 2147483647) = false := decide_eq_false hut
              rw [hd]
              have HZ : Hid (GnO (bA l) 0) := hide (GnO.none (fun q h1 h2 e => by have := HF.out q h1 h2 e; rw [HU.out] at this; injection this with this; omega))
              have BB := B2
              go_wp2_with fail
              refine (nameR_bad _ _ (by omega)).mono ?_
              rintro e w3 ⟨rfl, rfl⟩
              go_wp2_with fail
              go_ret
              exact ⟨0, rfl, HZ.out, BB.out⟩
          · have HZ : Hid (GnO (bA l) 0) := hide (GnO.none (fun q h1 h2 e => by have := HF.out q h1 h2 e; rw [hu] at this; cases this))
            have BB := B2
            clear hu
            go_wp2_with fail
            by_cases hx : x < 1 ∨ 2147483647 < x
            · refine (nameR_bad x _ hx).mono ?_
              rintro e w3 ⟨rfl, rfl⟩
              go_wp2_with fail
              go_ret
              exact ⟨0, rfl, HZ.out, BB.out⟩
            · obtain ⟨v, rfl⟩ : ∃ v : Nat, x = (v : Int) := ⟨x.toNat, by omega⟩
              refine (nameR_ok v _ (by omega) (by omega)).mono ?_
              rintro e w3 ⟨rfl, rfl⟩
              go_wp2_with fail
              go_ret
              exact ⟨0, rfl, HZ.out, BB.out⟩
      · have h1' : ¬ (1 : Int) < (S.size : Int) := by omega
        have HEND : Hid (¬ (1 < (strL S).length ∧ (strL S).head? = some 48)) := hide (fun h => by omega)
        have HF : Hid (∀ q, 1 ≤ q → q ≤ 2147483647 → bA l = jN q → nmO (strL S) = some q) := hide (fun q h1 h2 e => by
          have e1 : l = jPre ++ jD q := bA_inj e
          have e2 : jD q = List.replicate z 48 ++ strL S := by
            rw [← HE.out, e1]
            rfl
          have e3 := strip_jD h1 e2 HEND.out
          rw [e3]
          exact nmO_of (by omega) rfl)
        clear HE HEND
        go_wp2_with fail
        refine (num_most S 2147483647 _ (by omega) (by decide)).mono ?_
        rintro r w2 ⟨hb2, hc⟩
        have B2 := hide (on_below BW.out hb2)
        clear hb2
        rcases hc with ⟨u, hu, rfl⟩ | ⟨hu, x, rfl⟩
        · have HU := hide hu
          clear hu
          by_cases hut : u ≤ 2147483647
          · have hd : decide (u ≤ 2147483647) = true := decide_eq_true hut
            rw [hd]
            by_cases hu0 : u = 0
            · subst hu0
              have HZ : Hid (GnO (bA l) 0) := hide (GnO.none (fun q h1 h2 e => by have := HF.out q h1 h2 e; rw [HU.out] at this; injection this with this; omega))
              have BB := B2
              go_wp2_with fail
              refine (nameR_bad _ _ (by omega)).mono ?_
              rintro e w3 ⟨rfl, rfl⟩
              go_wp2_with fail
              go_ret
              exact ⟨0, rfl, HZ.out, BB.out⟩
            · go_wp2_with fail
              refine (nameR_ok u _ (by omega) hut).mono ?_
              rintro e w3 ⟨rfl, rfl⟩
              by_cases hn : bA l = jN u
              · have HG : Hid (GnO (bA l) u) := hide ⟨.inr ⟨by omega, hut, hn⟩, fun q h1 h2 e => jN_inj (hn.symm.trans e)⟩
                have hbq := beqB_t hn.symm
                have BB := B2
                clear hn
                go_wp2_with fail
                go_ret
                exact ⟨u, rfl, HG.out, BB.out⟩
              · have HZ : Hid (GnO (bA l) 0) := hide (GnO.none (fun q h1 h2 e => by have := HF.out q h1 h2 e; rw [HU.out] at this; injection this with this; exact hn (by rw [this]; exact e)))
                have hbq := beqB_f (fun e => hn e.symm : jN u ≠ bA l)
                have BB := B2
                clear hn
                go_wp2_with fail
                go_ret
                exact ⟨0, rfl, HZ.out, BB.out⟩
          · have hd : decide (u ≤ 2147483647) = false := decide_eq_false hut
            rw [hd]
            have HZ : Hid (GnO (bA l) 0) := hide (GnO.none (fun q h1 h2 e => by have := HF.out q h1 h2 e; rw [HU.out] at this; injection this with this; omega))
            have BB := B2
            go_wp2_with fail
            refine (nameR_bad _ _ (by omega)).mono ?_
            rintro e w3 ⟨rfl, rfl⟩
            go_wp2_with fail
            go_ret
            exact ⟨0, rfl, HZ.out, BB.out⟩
        · have HZ : Hid (GnO (bA l) 0) := hide (GnO.none (fun q h1 h2 e => by have := HF.out q h1 h2 e; rw [hu] at this; cases this))
          have BB := B2
          clear hu
          go_wp2_with fail
          by_cases hx : x < 1 ∨ 2147483647 < x
          · refine (nameR_bad x _ hx).mono ?_
            rintro e w3 ⟨rfl, rfl⟩
            go_wp2_with fail
            go_ret
            exact ⟨0, rfl, HZ.out, BB.out⟩
          · obtain ⟨v, rfl⟩ : ∃ v : Nat, x = (v : Int) := ⟨x.toNat, by omega⟩
            refine (nameR_ok v _ (by omega) (by omega)).mono ?_
            rintro e w3 ⟨rfl, rfl⟩
            go_wp2_with fail
            go_ret
            exact ⟨0, rfl, HZ.out, BB.out⟩
  · have hbp := beqB_f (fun e => hp (bA_inj e) : bA (l.take 8) ≠ bA jPre)
    have hbp' : ((bA (l.take 8)).toList == ([106, 111, 117, 114, 110, 97, 108, 45] : List UInt8)) = false := by
      rw [ByteArray.toList_eq (bs := bA jPre)] at hbp
      exact hbp
    have HZ : Hid (GnO (bA l) 0) := hide (GnO.none (fun q h1 h2 e => hp (by rw [bA_inj e]; rfl)))
    clear hbp hp
    go_enter Tryz.func71, Tryz.ntmps71
    go_wp2_with fail
    go_ret
    exact ⟨0, rfl, HZ.out, BB.out⟩

end Go.Proofs.YtninkkdbcgadpaaGreatDoor

/-
  A number put into its place of a rising row; the generations of names.
-/
namespace Go.Proofs.YtninkkdbcgadpaaGreatDoor
open Go.RowKit Go.Shelf
set_option linter.unusedVariables false

/-- A number behind the first k. -/
def ins (o : List Nat) (g k : Nat) : List Nat := o.take k ++ g :: o.drop k
theorem ins_length (o : List Nat) (g k : Nat) : (ins o g k).length = o.length + 1 := by
  have h := congrArg List.length (List.take_append_drop k o)
  rw [List.length_append] at h
  simp only [ins, List.length_append, List.length_cons]
  omega
theorem ins_end (o : List Nat) (g : Nat) : ins o g o.length = o ++ [g] := by simp [ins]
theorem ins_split {o : List Nat} {k : Nat} (hk : k < o.length) : ∃ A a B, o = A ++ a :: B ∧ A.length = k ∧ o.getD k 0 = a := by
  refine ⟨o.take k, o[k], o.drop (k + 1), ?_, ?_, ?_⟩
  · rw [← List.drop_eq_getElem_cons hk, List.take_append_drop]
  · rw [List.length_take]; omega
  · simp [List.getD, hk]
theorem ins_at (o : List Nat) (g k : Nat) (hk : k < o.length) : (nI (ins o g (k + 1)))[k + 1]? = some (.int .i64 (g : Int)) ∧ (nI (ins o g (k + 1)))[k]? = some (.int .i64 (o.getD k 0 : Int)) ∧ ((nI (ins o g (k + 1))).set (k + 1) (.int .i64 (o.getD k 0 : Int))).set k (.int .i64 (g : Int)) = nI (ins o g k) := by
  obtain ⟨A, a, B, rfl, rfl, ha⟩ := ins_split hk
  rw [ha]
  have e1 : ins (A ++ a :: B) g (A.length + 1) = A ++ a :: g :: B := by
    have q1 : (A ++ a :: B).take (A.length + 1) = A ++ [a] := by
      rw [List.take_append, List.take_of_length_le (by omega)]
      simp
    have q2 : (A ++ a :: B).drop (A.length + 1) = B := by
      rw [List.drop_append, List.drop_of_length_le (by omega)]
      simp
    rw [ins, q1, q2]
    simp
  have e2 : ins (A ++ a :: B) g A.length = A ++ g :: a :: B := by simp [ins]
  rw [e1, e2]
  refine ⟨?_, ?_, ?_⟩
  · simp [nI]
  · simp [nI]
  · simp [nI]
theorem ins_mem {o : List Nat} {g k x : Nat} : x ∈ ins o g k ↔ x = g ∨ x ∈ o := by
  have h : x ∈ o ↔ x ∈ o.take k ∨ x ∈ o.drop k := by rw [← List.mem_append, List.take_append_drop]
  simp only [ins, List.mem_append, List.mem_cons]
  rw [h]
  constructor
  · rintro (h | h | h)
    · exact .inr (.inl h)
    · exact .inl h
    · exact .inr (.inr h)
  · rintro (h | h | h)
    · exact .inr (.inl h)
    · exact .inl h
    · exact .inr (.inr h)
theorem ins_rise {o : List Nat} {g k : Nat} (hs : o.Pairwise (· < ·)) (hg : g ∉ o) (hk : k ≤ o.length) (hB : ∀ x ∈ o.drop k, g < x) (hA : k = 0 ∨ o.getD (k - 1) 0 ≤ g) : (ins o g k).Pairwise (· < ·) := by
  have hsp : (o.take k ++ o.drop k).Pairwise (· < ·) := by rw [List.take_append_drop]; exact hs
  obtain ⟨p1, p2, p3⟩ := List.pairwise_append.1 hsp
  unfold ins
  refine List.pairwise_append.2 ⟨p1, List.pairwise_cons.2 ⟨hB, p2⟩, fun x hx y hy => ?_⟩
  have hxo : x ∈ o := List.mem_of_mem_take hx
  have hxg : x < g := by
    rcases hA with rfl | hA
    · simp at hx
    · have hk0 : 0 < k := by
        rcases Nat.eq_zero_or_pos k with h0 | h0
        · subst h0; simp at hx
        · exact h0
      obtain ⟨A, a, B, rfl, hAl, ha⟩ := ins_split (o := o) (k := k - 1) (by omega)
      rw [ha] at hA
      have ht : (A ++ a :: B).take k = A ++ [a] := by
        have : k = A.length + 1 := by omega
        subst this
        rw [List.take_append, List.take_of_length_le (by omega)]
        simp
      rw [ht] at hx
      have hle : x ≤ a := by
        rcases List.mem_append.1 hx with h | h
        · have := (List.pairwise_append.1 hs).2.2 x h a (by simp)
          omega
        · simp at h; omega
      have hne : x ≠ g := fun e => hg (by rw [← e]; exact hxo)
      omega
  rcases List.mem_cons.1 hy with rfl | hy
  · exact hxg
  · exact p3 x hx y hy
/-- The generations among the first names. -/
structure Gnm (ns : List ByteArray) (o : List Nat) : Prop where
  srt : o.Pairwise (· < ·)
  mem : ∀ g, g ∈ o ↔ (1 ≤ g ∧ g ≤ 2147483647 ∧ jN g ∈ ns)
theorem Gnm.nil : Gnm [] [] := ⟨List.Pairwise.nil, fun g => by simp⟩
theorem Gnm.skip {ns : List ByteArray} {o : List Nat} (h : Gnm ns o) {n : ByteArray} (hg : GnO n 0) : Gnm (ns ++ [n]) o :=
  ⟨h.srt, fun g => by
    rw [h.mem]
    refine ⟨fun ⟨a, b, c⟩ => ⟨a, b, by simp [c]⟩, fun ⟨a, b, c⟩ => ⟨a, b, ?_⟩⟩
    rcases List.mem_append.1 c with c | c
    · exact c
    · simp at c
      have := hg.2 g a b c.symm
      omega⟩
theorem Gnm.put {ns : List ByteArray} {o : List Nat} (h : Gnm ns o) {n : ByteArray} {g k : Nat} (hg : GnO n g) (h0 : g ≠ 0) (hs : (ins o g k).Pairwise (· < ·)) : Gnm (ns ++ [n]) (ins o g k) := by
  obtain ⟨g1, g2⟩ := hg
  rcases g1 with e | ⟨a, b, c⟩
  · exact absurd e h0
  · refine ⟨hs, fun x => ?_⟩
    rw [ins_mem, h.mem]
    constructor
    · rintro (rfl | ⟨q1, q2, q3⟩)
      · exact ⟨a, b, by simp [c]⟩
      · exact ⟨q1, q2, by simp [q3]⟩
    · rintro ⟨q1, q2, q3⟩
      rcases List.mem_append.1 q3 with q3 | q3
      · exact .inr ⟨q1, q2, q3⟩
      · simp at q3
        exact .inl (jN_inj (q3.trans c))
theorem Gnm.new {ns : List ByteArray} {o : List Nat} (h : Gnm ns o) {n : ByteArray} {g : Nat} (hg : GnO n g) (h0 : g ≠ 0) (hn : n ∉ ns) : g ∉ o := fun hm => by
  obtain ⟨g1, g2⟩ := hg
  rcases g1 with e | ⟨a, b, c⟩
  · exact h0 e
  · exact hn (by rw [c]; exact ((h.mem g).1 hm).2.2)
theorem Gnm.gens {rs : List Rw} {l : List (ByteArray × List Int)} (hl : FL (play rs) l) {o : List Nat} (h : Gnm (l.map (·.1)) o) : Gens (play rs) o :=
  ⟨h.srt, fun g => by
    rw [h.mem]
    refine and_congr Iff.rfl (and_congr Iff.rfl ⟨fun h => ?_, fun h => ?_⟩)
    · obtain ⟨x, hx, e⟩ := List.mem_map.1 h
      rw [← e, (hl.mem x.1 x.2).2 hx]
      rfl
    · obtain ⟨y, hy⟩ := Option.isSome_iff_exists.1 h
      exact List.mem_map.2 ⟨_, (hl.mem _ _).1 hy, rfl⟩⟩
theorem val_nmR {s : Nat} : ∀ (rs : List Rw) (f : ByteArray → Option (List Int)), Val s f rs → (∀ n xs, f n = some xs → nmB n = true) → ∀ n xs, (rs.foldl doR f) n = some xs → nmB n = true
  | [], f, _, h => h
  | r :: t, f, hv, h => by
    refine val_nmR t (doR f r) hv.2 (fun n xs hn => ?_)
    have key : ∀ (g : ByteArray → Option (List Int)) (m : ByteArray) (u : Option (List Int)), (∀ n xs, g n = some xs → nmB n = true) → (u = none ∨ nmB m = true) → ∀ n xs, upd g m u n = some xs → nmB n = true := by
      intro g m u h1 h2 n xs hn
      unfold upd at hn
      split at hn
      · rename_i e
        rcases h2 with h2 | h2
        · rw [h2] at hn; cases hn
        · rw [e]; exact h2
      · exact h1 n xs hn
    rcases hv.1.1 with ⟨m, rfl, hm, _⟩ | ⟨m, b, ys, rfl, hm, _⟩ | ⟨m, k, ys, rfl, hm, _⟩ | ⟨m, ys, rfl, hm, _⟩ | ⟨m, u, ys, rfl, hm, hu, _⟩
    · rw [do_cr] at hn; exact key _ _ _ h (.inr hm) n xs hn
    · rw [do_ap] at hn; exact key _ _ _ h (.inr hm) n xs hn
    · rw [do_cu] at hn; exact key _ _ _ h (.inr hm) n xs hn
    · rw [do_rm] at hn; exact key _ _ _ h (.inr hm) n xs hn
    · rw [do_rn] at hn; exact key _ _ _ (key _ _ _ h (.inr hu)) (.inr hm) n xs hn
theorem RkAt.nmR {w : World} {r s : Nat} {rs : List Rw} {R : Rm} (h : RkAt w r s rs R) {n : ByteArray} {xs : List Int} (hn : play rs n = some xs) : nmB n = true := val_nmR rs _ h.val (fun n xs h => by cases h) n xs hn
/-- A cell of a row turned. -/
theorem OwnV.set {T : TypeId} {w : World} {B : Nat} {b n c : Nat} {ns : List Value} (h : OwnV T w B (.slice (some ⟨b, 0, none⟩) n c) ns) (i : Nat) {v : Value} (hv : v.oneCell' = true) : OwnV T (w.setCell ⟨b, i, none⟩ v) B (.slice (some ⟨b, 0, none⟩) n c) (ns.set i v) := by
  obtain ⟨h0, h1⟩ := h
  have hn : n = ns.length := by
    obtain ⟨a', c', e⟩ := row_slice h1
    injection e with _ e _
  subst hn
  refine ⟨fun x hx => ?_, ?_⟩
  · rcases List.mem_or_eq_of_mem_set hx with h | h
    · exact h0 x h
    · rw [h]; exact hv
  · have := (World.ownsRow.stored h1 i v).1
    rw [List.length_set]
    exact this

end Go.Proofs.YtninkkdbcgadpaaGreatDoor

/-
  The law's disks: names that may be, the memory that stands through it.
-/
namespace Go.Proofs.YtninkkdbcgadpaaGreatDoor
open Go.RowKit Go.Shelf
set_option linter.unusedVariables false

/-- What stands through the law's stands. -/
structure SD (w W : World) (b2 b3 b4 b5 d r s : Nat) (rs : List Rw) (D : Dm) (R : Rm) (av : Option Addr) (cv : Nat) : Prop where
  c2 : Blk W b2 26 [.pointer (some ⟨d, 0, none⟩)]
  c3 : Blk W b3 27 [.pointer (some ⟨r, 0, none⟩)]
  c4 : Blk W b4 4 [.bool false]
  c5 : Blk W b5 63 [.slice av R.l.length cv]
  row : W.ownsRow w.heap.size 9 1 (.slice av R.l.length cv) R.l.length (nmsC R.l)
  dk : DkAt W d s rs D
  rk : RkAt W r s rs R
  bel : Below w.heap.size w W
  l4 : w.heap.size ≤ b4
section
variable {w W W' : World} {b2 b3 b4 b5 d r s : Nat} {rs : List Rw} {D : Dm} {R : Rm} {av : Option Addr} {cv : Nat}
theorem SD.on (h : SD w W b2 b3 b4 b5 d r s rs D R av cv) (hb : Below W.heap.size W W') : SD w W' b2 b3 b4 b5 d r s rs D R av cv :=
  ⟨h.c2.on hb, h.c3.on hb, h.c4.on hb, h.c5.on hb, row_on h.row hb, h.dk.below hb, h.rk.below hb, on_below h.bel hb, h.l4⟩
theorem SD.q2 (h : SD w W b2 b3 b4 b5 d r s rs D R av cv) : W.cell? ⟨b2, 0, none⟩ = some (.pointer (some ⟨d, 0, none⟩)) := by rw [h.c2.cell]; rfl
theorem SD.q3 (h : SD w W b2 b3 b4 b5 d r s rs D R av cv) : W.cell? ⟨b3, 0, none⟩ = some (.pointer (some ⟨r, 0, none⟩)) := by rw [h.c3.cell]; rfl
theorem SD.q5 (h : SD w W b2 b3 b4 b5 d r s rs D R av cv) : W.cell? ⟨b5, 0, none⟩ = some (.slice av R.l.length cv) := by rw [h.c5.cell]; rfl
theorem SD.r0 (h : SD w W b2 b3 b4 b5 d r s rs D R av cv) : W.cell? ⟨r, 0, none⟩ = some (.int .i64 (s : Int)) := by rw [h.rk.fk.blk.cell]; rfl
theorem SD.r2 (h : SD w W b2 b3 b4 b5 d r s rs D R av cv) : ∃ a c, R.qv = .slice a rs.length c ∧ W.cell? ⟨r, 2, none⟩ = some (.slice a rs.length c) := by
  obtain ⟨a, c, e⟩ := row_slice h.rk.row
  rw [h.rk.qlen] at e
  exact ⟨a, c, e, by rw [h.rk.fk.blk.cell, ← e]; rfl⟩
end
/-- What the loop over the names keeps besides: its counter. -/
structure AS (W3 W : World) (b6 : Nat) (i : Nat) : Prop where
  bel : Below W3.heap.size W3 W
  c6 : Blk W b6 3 [.int .i64 (i : Int)]
  l6 : W3.heap.size ≤ b6
theorem AS.kept {W3 A C : World} {b6 B i : Nat} {row : Option Nat} (h : AS W3 A b6 i) (hB : W3.heap.size ≤ B) (hg : A.grownBy C row) (hr : ∀ r, row = some r → B ≤ r ∧ ∃ o : Obj, A.heap[r]? = some o ∧ o.isCells = false) : AS W3 C b6 i :=
  ⟨h.bel.grown hg h.bel.size (fun r e => Nat.le_trans hB (hr r e).1), h.c6.kept hg (fun r e => (hr r e).2), h.l6⟩
theorem AS.on {W3 A C : World} {b6 i : Nat} (h : AS W3 A b6 i) (hb : Below A.heap.size A C) : AS W3 C b6 i := ⟨on_below h.bel hb, h.c6.on hb, h.l6⟩
theorem AS.set {W3 W : World} {b6 i : Nat} (h : AS W3 W b6 i) (j : Nat) : AS W3 (W.setCell ⟨b6, 0, none⟩ (.int .i64 (j : Int))) b6 j :=
  ⟨h.bel.trans ((But.setCell W b6 0 (.int .i64 (j : Int))).below h.l6), h.c6.set 0 _, h.l6⟩
theorem AS.but {W3 W W' : World} {b6 i g : Nat} (h : AS W3 W b6 i) (hb : But g W W') (hg : W3.heap.size ≤ g) (hne : b6 ≠ g) : AS W3 W' b6 i := ⟨h.bel.trans (hb.below hg), h.c6.but hb hne, h.l6⟩
/-- Of a file that is there: its bytes. -/
theorem stand_read {w : World} {d s : Nat} {rs : List Rw} {D : Dm} (h : DkAt w d s rs D) {n : ByteArray} {xs : List Int} (hn : nmB n = true) (hf : play rs n = some xs) (hwt : wt rs ≤ 1099511000000) :
    Calls Tryz.prog 46 #[.pointer (some ⟨d, 0, none⟩), .string n, .int .i64 0, .int .i64 ((xs.length : Int) + 1)] w fun e w' => ∃ v, e = .returned (.tuple #[v, .int .i64 0]) ∧ Own w' w.heap.size v xs ∧ Below w.heap.size w w' := by
  have e0 : fE rs n = 0 := by simp [fE, hn, hf]
  have e1 : fl (play rs) n = xs := by simp [fl, hf]
  have e2 : rqE rs n 0 ((xs.length : Int) + 1) = 0 := by
    unfold rqE
    rw [e0, e1, if_pos rfl, if_neg (by omega)]
  have e3 : rqB rs n 0 ((xs.length : Int) + 1) = xs := by
    unfold rqB
    rw [e2, e1, if_pos rfl]
    have e4 : min ((xs.length : Int) + 1).toNat (xs.length - (0 : Int).toNat) = xs.length := by
      simp only [Int.toNat_zero]
      omega
    rw [e4]
    simp
  have := read_any d s rs D w h n 0 ((xs.length : Int) + 1) hwt
  rwa [e2, e3] at this
theorem stand_all {w : World} {r s : Nat} {rs : List Rw} {R : Rm} (h : RkAt w r s rs R) {n : ByteArray} {xs : List Int} (hf : play rs n = some xs) (hwt : wt rs ≤ 1099511000000) :
    Calls Tryz.prog 40 #[.pointer (some ⟨r, 0, none⟩), .string n] w fun e w' => e = .returned (.tuple #[.string (str xs), .bool true]) ∧ Below w.heap.size w w' := by
  have e1 : fl (play rs) n = xs := by simp [fl, hf]
  have := all_any r s rs R w h n hwt
  rwa [e1, hf] at this


end Go.Proofs.YtninkkdbcgadpaaGreatDoor

/-
  The law's disks: the program's disk has the files that the document's has.
-/
namespace Go.Proofs.YtninkkdbcgadpaaGreatDoor
open Go.RowKit Go.Shelf
set_option linter.unusedVariables false
set_option linter.unusedSimpArgs false

set_option maxRecDepth 100000 in
set_option maxHeartbeats 2000000 in
theorem disks_any (d r s : Nat) (rs : List Rw) (D : Dm) (R : Rm) (w : World) (h : DkAt w d s rs D) (h' : RkAt w r s rs R) (hwt : wt rs ≤ 1000000000000) :
    Calls Tryz.prog 10 #[.pointer (some ⟨d, 0, none⟩), .pointer (some ⟨r, 0, none⟩)] w fun e w' => e = .returned (.bool true) ∧ Below w.heap.size w w' := by
  have HD := hide h
  have HR := hide h'
  have HW := hide hwt
  have HW2 : Hid (wt rs ≤ 1099511000000) := hide (by omega)
  clear h h' hwt
  refine (callsIn_wide (n := 7)).1 ?_
  refine callsIn_of_wp_marks Tryz.func10 rfl trivial ?_ rfl
  refine wpIn_wide.2 ?_
  simp only [Tryz.ntmps10, List.size_toArray, List.length_cons, List.length_nil, Nat.reduceAdd, Nat.reduceSub, Array.replicate_succ, Array.replicate_zero, List.push_toArray, List.append_toArray, List.nil_append, List.cons_append]
  go_wp2_with fail
  have c2 : Blk (((w.alloc (.cells #[.pointer (some ⟨d, 0, none⟩)] 26)).alloc (.cells #[.pointer (some ⟨r, 0, none⟩)] 27)).alloc (.cells #[.bool false] 4)) w.heap.size 26 [.pointer (some ⟨d, 0, none⟩)] := ((Blk.made w _ _).on ((Below.refl _ _).alloc (Nat.le_refl _) _)).on ((Below.refl _ _).alloc (Nat.le_refl _) _)
  have c3 : Blk (((w.alloc (.cells #[.pointer (some ⟨d, 0, none⟩)] 26)).alloc (.cells #[.pointer (some ⟨r, 0, none⟩)] 27)).alloc (.cells #[.bool false] 4)) (w.heap.size + 1) 27 [.pointer (some ⟨r, 0, none⟩)] := by
    have := (Blk.made (w.alloc (.cells #[.pointer (some ⟨d, 0, none⟩)] 26)) 27 [.pointer (some ⟨r, 0, none⟩)]).on ((Below.refl _ _).alloc (o := .cells #[.bool false] 4) (Nat.le_refl _))
    rwa [World.size_alloc] at this
  have c4 : Blk (((w.alloc (.cells #[.pointer (some ⟨d, 0, none⟩)] 26)).alloc (.cells #[.pointer (some ⟨r, 0, none⟩)] 27)).alloc (.cells #[.bool false] 4)) (w.heap.size + 2) 4 [.bool false] := by
    have := Blk.made ((w.alloc (.cells #[.pointer (some ⟨d, 0, none⟩)] 26)).alloc (.cells #[.pointer (some ⟨r, 0, none⟩)] 27)) 4 [.bool false]
    rwa [World.size_alloc, World.size_alloc] at this
  have B0 : Below w.heap.size w (((w.alloc (.cells #[.pointer (some ⟨d, 0, none⟩)] 26)).alloc (.cells #[.pointer (some ⟨r, 0, none⟩)] 27)).alloc (.cells #[.bool false] 4)) := (((Below.refl _ w).alloc (Nat.le_refl _) _).alloc (by simp) _).alloc (by simp; omega) _
  revert c2 c3 c4 B0
  generalize ((w.alloc (.cells #[.pointer (some ⟨d, 0, none⟩)] 26)).alloc (.cells #[.pointer (some ⟨r, 0, none⟩)] 27)).alloc (.cells #[.bool false] 4) = W0
  obtain ⟨b2, hb2⟩ : ∃ b, w.heap.size = b := ⟨_, rfl⟩
  obtain ⟨b3, hb3⟩ : ∃ b, w.heap.size + 1 = b := ⟨_, rfl⟩
  obtain ⟨b4, hb4⟩ : ∃ b, w.heap.size + 1 + 1 = b := ⟨_, rfl⟩
  have HB4 : Hid (w.heap.size ≤ b4) := hide (by omega)
  intro c2 c3 c4 B0
  rw [hb3] at c3
  rw [hb4] at c4
  rw [hb2] at c2
  rw [hb4, hb3, hb2]
  have C2 := hide c2
  have C3 := hide c3
  have C4 := hide c4
  have BB0 := hide B0
  clear c2 c3 c4 B0 hb2 hb3 hb4
  refine (listR_any r s rs R W0 (HR.out.below BB0.out) HW2.out).mono ?_
  rintro _ W1 ⟨v, rfl, hrow, hb1⟩
  obtain ⟨av, cv, rfl⟩ := row_slice hrow
  have ROW := hide hrow
  have BB1 := hide hb1
  clear hrow hb1
  go_upto_region 3 with fail
  have hbA : Below W1.heap.size W1 (W1.alloc (.cells #[.slice av R.l.length cv] 63)) := (Below.refl _ _).alloc (Nat.le_refl _) _
  have S1 : Hid (SD w (W1.alloc (.cells #[.slice av R.l.length cv] 63)) b2 b3 b4 W1.heap.size d r s rs D R av cv) := hide
    ⟨(C2.out.on BB1.out).on hbA, (C3.out.on BB1.out).on hbA, (C4.out.on BB1.out).on hbA, Blk.made W1 _ _, ownsRow_base_a (row_on ROW.out hbA) BB0.out.size, (HD.out.below (on_below BB0.out BB1.out)).below hbA, (HR.out.below (on_below BB0.out BB1.out)).below hbA, on_below (on_below BB0.out BB1.out) hbA, HB4.out⟩
  have A1 : Hid (AS (W1.alloc (.cells #[.slice av R.l.length cv] 63)) ((W1.alloc (.cells #[.slice av R.l.length cv] 63)).alloc (.cells #[.int .i64 0] 3)) (W1.heap.size + 1) 0) := hide
    ⟨(Below.refl _ _).alloc (Nat.le_refl _) _, by have := Blk.made (W1.alloc (.cells #[.slice av R.l.length cv] 63)) 3 [.int .i64 0]; rwa [World.size_alloc] at this, by simp⟩
  clear hbA C2 C3 C4 BB0 BB1 ROW
  revert S1 A1
  generalize (W1.alloc (.cells #[.slice av R.l.length cv] 63)).alloc (.cells #[.int .i64 0] 3) = W4
  generalize W1.alloc (.cells #[.slice av R.l.length cv] 63) = W3
  obtain ⟨b6, hb6⟩ : ∃ b, W1.heap.size + 1 = b := ⟨_, rfl⟩
  obtain ⟨b5, hb5⟩ : ∃ b, W1.heap.size = b := ⟨_, rfl⟩
  rw [hb6, hb5]
  intro S1 A1
  clear hb6 hb5
  have S4 := hide (S1.out.on A1.out.bel)
  have k2 := S4.out.q2
  go_wp2_with fail
  refine (list_any (some ⟨d, 0, none⟩) _).mono ?_
  rintro _ W5 ⟨rfl, rfl⟩
  have hbA : Below W4.heap.size W4 (W4.alloc (.cells #[.pointer (some ⟨d, 0, none⟩)] 26)) := (Below.refl _ _).alloc (Nat.le_refl _) _
  have S5 := hide (S4.out.on hbA)
  have A5 := hide (A1.out.on hbA)
  clear hbA k2 S4 A1
  revert S5 A5
  generalize W4.alloc (.cells #[.pointer (some ⟨d, 0, none⟩)] 26) = W5
  generalize W4.heap.size = bx0
  intro S5 A5
  have heq : ∀ v : World, (binOp BinOp.eql 96 (.func (.func 75) #[] #[.pointer (some ⟨bx0, 0, none⟩)]) .nilFunc).run Tryz.prog v = .ok (.bool false) v := fun v => by kernel_rfl
  have k2 := S5.out.q2
  go_wp2_with fail
  refine (list_any (some ⟨d, 0, none⟩) _).mono ?_
  rintro _ W6 ⟨rfl, rfl⟩
  have hbA : Below W5.heap.size W5 (W5.alloc (.cells #[.pointer (some ⟨d, 0, none⟩)] 26)) := (Below.refl _ _).alloc (Nat.le_refl _) _
  have S6 := hide (S5.out.on hbA)
  have A6 := hide (A5.out.on hbA)
  have BX : Hid (Blk (W5.alloc (.cells #[.pointer (some ⟨d, 0, none⟩)] 26)) W5.heap.size 26 [.pointer (some ⟨d, 0, none⟩)]) := hide (Blk.made _ _ _)
  clear hbA k2 S5 A5 heq
  revert S6 A6 BX
  generalize W5.alloc (.cells #[.pointer (some ⟨d, 0, none⟩)] 26) = W6
  generalize W5.heap.size = bx
  intro S6 A6 BX
  have hB6 : b6 < W6.heap.size := A6.out.c6.lt
  have hB3 : W3.heap.size ≤ W6.heap.size := A6.out.bel.size
  have HSQ := hide (list_seq bx d s rs D S6.out.rk.fls HW2.out W6 BX.out S6.out.dk)
  go_wp2_with fail
  refine (wpIn_wide (n := 7)).1 ?_
  refine rangeR rfl (by decide) (gf := 75) (lb := #[.pointer (some ⟨bx, 0, none⟩)]) rfl trivial (enters_of Tryz.func75 (by kernel_rfl) rfl)
    HSQ.out KS.trans (fun x W l o o' hl h hc => KS.book W l o o' h hc) (fun _ => rfl) (fun pre x => rl_own _ _ pre x)
    (fun pre W => AS W3 W b6 pre.length) (fun _ _ _ => False)
    (fun _ A C row h hg hr => h.kept hB3 hg hr) (fun c _ A C row h hg hr => h)
    A6.out ?act ?assign ?body ?done ?stop
  case assign =>
    rintro l x W K hK
    have hsem := Oper.semAt_some
    gi_wp2
    exact hK
  case stop =>
    rintro D2 c pre W9 hD2 hSp h hK3
    exact h.elim
  case body =>
    rintro l pre x W hA ⟨hp1, ys, hx⟩
    have hsem := Oper.semAt_some
    obtain ⟨k, HKK⟩ : ∃ k, Hid (pre.length = k) := ⟨_, hide rfl⟩
    rw [HKK.out] at hA hx
    have HPL : Hid ((pre ++ [x]).length = k + 1) := hide (by rw [List.length_append, HKK.out]; rfl)
    have HA := hide hA
    have hb6W : b6 < W.heap.size := hA.c6.lt
    have hW3W : W3.heap.size ≤ W.heap.size := hA.bel.size
    have SW := hide (S1.out.on hA.bel)
    have k3 := SW.out.q3
    have k5 := SW.out.q5
    have k6 : W.cell? ⟨b6, 0, none⟩ = some (.int .i64 (k : Int)) := by rw [hA.c6.cell]; rfl
    have hkl : k < R.l.length := (List.getElem?_eq_some_iff.1 hx).1
    obtain ⟨g, cap, cs, e1, hg, hcs, _⟩ := row_at SW.out.row (by omega)
    injection e1 with e1 e2 e3
    clear e2
    subst e1 e3
    have hix := st_at g R.l.length cv k hkl
    have hcell : W.cell? ⟨g, k, none⟩ = some (.string x) := by
      rw [hg.cell]
      have h1 : (nmsC R.l)[k]? = some (.string x) := by unfold nmsC; rw [List.getElem?_map, hx]; rfl
      rw [← hcs, List.getElem?_take, if_pos (by omega)] at h1
      exact h1
    have hf : Hid (play rs x = some ys) := hide ((SW.out.rk.fls.mem x ys).2 (List.mem_of_getElem? hx))
    have hnm : Hid (nmB x = true) := hide (SW.out.rk.nmR hf.out)
    have hlti : ¬ (R.l.length : Int) ≤ (k : Int) := by omega
    clear hx hg hcs hA hp1
    gi_wp2_with fail
    refine ⟨trivial, (calls_round (WideF.round l) (stand_all SW.out.rk hf.out HW2.out)).mono ?_⟩
    rintro _ Wa ⟨rfl, hba⟩
    have KOa := hide (keepsO_below hba)
    have KLa : Hid (KS W Wa) := hide (KS.below hba)
    have HAa := hide (HA.out.on hba)
    have SWa := hide (SW.out.on hba)
    have k2 := SWa.out.q2
    clear hba k3 k5 k6 hix hcell HA SW
    obtain ⟨Y, HYY⟩ : ∃ Y, Hid (str ys = Y) := ⟨_, hide rfl⟩
    have hyl : ys.length ≤ 1099511000000 := by
      have := play_wt rs x
      have e1 : fl (play rs) x = ys := by simp [fl, hf.out]
      rw [e1] at this
      have := HW2.out
      omega
    have hys : Y.size = ys.length := by rw [← HYY.out]; exact str_size ys
    have HYL := hide hyl
    have RD : Hid (∀ W : World, DkAt W d s rs D → Calls Tryz.prog 46 #[.pointer (some ⟨d, 0, none⟩), .string x, .int .i64 0, .int .i64 ((ys.length : Int) + 1)] W fun e w' => ∃ v, e = .returned (.tuple #[v, .int .i64 0]) ∧ Own w' W.heap.size v ys ∧ Below W.heap.size W w') := hide (fun W hW => stand_read hW hnm.out hf.out HW2.out)
    rw [HYY.out]
    obtain ⟨yl, HYLN⟩ : ∃ yl, Hid (ys.length = yl) := ⟨_, hide rfl⟩
    rw [HYLN.out] at RD hys hyl
    gi_wp2_with fail
    refine ⟨trivial, (calls_round (WideF.round l) (RD.out _ SWa.out.dk)).mono ?_⟩
    rintro _ Wb ⟨v1, rfl, ho1, hbb⟩
    have KOb := hide (KOa.out.trans (keepsO_below hbb))
    have KLb : Hid (KS W Wb) := hide (KLa.out.trans (KS.below hbb))
    have HAb := hide (HAa.out.on hbb)
    have SWb := hide (SWa.out.on hbb)
    have hisb := SWb.out.rk.isb hf.out
    obtain ⟨a1, c1, e1, s1⟩ := ho1.sl' hisb (by have := HYL.out; omega)
    have hcv := toStr s1
    rw [HYY.out] at hcv
    rw [HYLN.out] at e1 hcv
    subst e1
    have k6 : Wb.cell? ⟨b6, 0, none⟩ = some (.int .i64 (k : Int)) := by rw [HAb.out.c6.cell]; rfl
    have f6 := HAb.out.c6.free 0
    have HA7 := hide (HAb.out.set (k + 1))
    have KO7 : Hid (KeepsOthers W (Wb.setCell ⟨b6, 0, none⟩ (.int .i64 ((k + 1 : Nat) : Int)))) := hide (KOb.out.trans (KeepsOthers.setCell _ _ _))
    have KL7 : Hid (KS W (Wb.setCell ⟨b6, 0, none⟩ (.int .i64 ((k + 1 : Nat) : Int)))) := hide (KLb.out.trans (KS.but (But.setCell _ _ _ _) HAb.out.c6 (by decide)))
    have hk1 : (((k + 1 : Nat) : Int)) = (k : Int) + 1 := by omega
    rw [hk1] at HA7 KO7 KL7
    have hkb : (k : Int) < 9223372036854775807 := by have := SWb.out.rk.few2 _ _ _ _ _ HW2.out; omega
    clear hbb ho1 KOa KLa HAa SWa KOb KLb HAb SWb hisb s1 hk1 k2 RD
    gi_wp2
    all_goals exact ⟨KO7.out.from _, KL7.out, by show AS _ _ _ _; rw [HPL.out]; exact HA7.out⟩
  case done =>
    rintro D2 ys W9 hD2 hS hA hK3
    have hyl : ys.length = R.l.length := by rw [hS, List.length_map]
    rw [hyl] at hA
    have S9 := hide (S1.out.on hA.bel)
    have HM := hide hK3
    obtain ⟨qa, qc, hqv, hq2⟩ := S9.out.r2
    have HQV := hide hqv
    have HWD : Hid (w.heap.size ≤ D2) := hide (by have := S6.out.bel.size; omega)
    have HA9 := hide hA
    have HS : Hid (∀ W : World, Below W9.heap.size W9 W → SD w W b2 b3 b4 b5 d r s rs D R av cv ∧ AS W3 W b6 R.l.length) := hide (fun W hW => ⟨S9.out.on hW, HA9.out.on hW⟩)
    have HR2 : Hid (∀ W : World, Below W9.heap.size W9 W → W.cell? ⟨r, 2, none⟩ = some (.slice qa rs.length qc)) := hide (fun W hW => by rw [(S9.out.on hW).rk.fk.blk.cell, ← HQV.out]; rfl)
    clear hA hK3 hS hyl hq2 hqv
    go_wp2_with fail
    refine wp_region_noPanic ?_
    refine wp_region_U (q := 14) (S := fun v : World => Below W9.heap.size W9 v) (by kernel_rfl) ?_
    have hHeld := (Below.refl W9.heap.size W9).drew
    refine takeU 14 0 57 (.int .i64 (R.l.length : Int)) hHeld rfl rfl (by kernel_rfl) (by kernel_rfl) (by kernel_rfl) (by kernel_rfl) (by kernel_rfl) (by kernel_rfl) (fun _ _ _ h => h) (Or.inl ⟨by rfl, fun w hw => by have hw' : w.cell? ⟨b6, 0, none⟩ = some (.int .i64 (R.l.length : Int)) := (fun hw => by rw [(HS.out _ hw).2.c6.cell]; rfl) hw; go_simp⟩) ?_
    simp only [Act.put, List.setIfInBounds_toArray, List.set_cons_zero, List.set_cons_succ]
    refine takeU 14 1 58 (.slice av R.l.length cv) hHeld rfl rfl (by kernel_rfl) (by kernel_rfl) (by kernel_rfl) (by kernel_rfl) (by kernel_rfl) (by kernel_rfl) (fun _ _ _ h => h) (Or.inl ⟨by rfl, fun w hw => by have hw' : w.cell? ⟨b5, 0, none⟩ = some (.slice av R.l.length cv) := (fun hw => (HS.out _ hw).1.q5) hw; go_simp⟩) ?_
    simp only [Act.put, List.setIfInBounds_toArray, List.set_cons_zero, List.set_cons_succ]
    refine takeU 14 2 59 (.int .i64 (R.l.length : Int)) hHeld rfl rfl (by kernel_rfl) (by kernel_rfl) (by kernel_rfl) (by kernel_rfl) (by kernel_rfl) (by kernel_rfl) (fun _ _ _ h => h) (Or.inl ⟨by rfl, fun w _ => by go_simp⟩) ?_
    simp only [Act.put, List.setIfInBounds_toArray, List.set_cons_zero, List.set_cons_succ]
    refine takeU 14 3 60 (.bool true) hHeld rfl rfl (by kernel_rfl) (by kernel_rfl) (by kernel_rfl) (by kernel_rfl) (by kernel_rfl) (by kernel_rfl) (fun _ _ _ h => h) (Or.inl ⟨by rfl, fun w _ => by go_simp⟩) ?_
    simp only [Act.put, List.setIfInBounds_toArray, List.set_cons_zero, List.set_cons_succ]
    refine takeU 14 4 61 (.bool true) hHeld rfl rfl (by kernel_rfl) (by kernel_rfl) (by kernel_rfl) (by kernel_rfl) (by kernel_rfl) (by kernel_rfl) (fun _ _ _ h => h) (Or.inl ⟨by rfl, fun w _ => by go_simp⟩) ?_
    simp only [Act.put, List.setIfInBounds_toArray, List.set_cons_zero, List.set_cons_succ]
    refine takeU 14 5 62 (.pointer (some ⟨d, 0, none⟩)) hHeld rfl rfl (by kernel_rfl) (by kernel_rfl) (by kernel_rfl) (by kernel_rfl) (by kernel_rfl) (by kernel_rfl) (fun _ _ _ h => h) (Or.inl ⟨by rfl, fun w hw => by have hw' : w.cell? ⟨b2, 0, none⟩ = some (.pointer (some ⟨d, 0, none⟩)) := (fun hw => (HS.out _ hw).1.q2) hw; go_simp⟩) ?_
    simp only [Act.put, List.setIfInBounds_toArray, List.set_cons_zero, List.set_cons_succ]
    refine takeU 14 7 64 (.pointer (some ⟨r, 0, none⟩)) hHeld rfl rfl (by kernel_rfl) (by kernel_rfl) (by kernel_rfl) (by kernel_rfl) (by kernel_rfl) (by kernel_rfl) (fun _ _ _ h => h) (Or.inl ⟨by rfl, fun w hw => by have hw' : w.cell? ⟨b3, 0, none⟩ = some (.pointer (some ⟨r, 0, none⟩)) := (fun hw => (HS.out _ hw).1.q3) hw; go_simp⟩) ?_
    simp only [Act.put, List.setIfInBounds_toArray, List.set_cons_zero, List.set_cons_succ]
    refine takeU 14 8 65 (.pointer (some ⟨r, 0, none⟩)) hHeld rfl rfl (by kernel_rfl) (by kernel_rfl) (by kernel_rfl) (by kernel_rfl) (by kernel_rfl) (by kernel_rfl) (fun _ _ _ h => h) (Or.inl ⟨by rfl, fun w _ => by go_simp⟩) ?_
    simp only [Act.put, List.setIfInBounds_toArray, List.set_cons_zero, List.set_cons_succ]
    refine takeU 14 9 66 (.pointer (some ⟨r, 2, none⟩)) hHeld rfl rfl (by kernel_rfl) (by kernel_rfl) (by kernel_rfl) (by kernel_rfl) (by kernel_rfl) (by kernel_rfl) (fun _ _ _ h => h) (Or.inl ⟨by rfl, fun w _ => by go_simp⟩) ?_
    simp only [Act.put, List.setIfInBounds_toArray, List.set_cons_zero, List.set_cons_succ]
    refine takeU 14 10 67 (.slice qa rs.length qc) hHeld rfl rfl (by kernel_rfl) (by kernel_rfl) (by kernel_rfl) (by kernel_rfl) (by kernel_rfl) (by kernel_rfl) (fun _ _ _ h => h) (Or.inl ⟨by rfl, fun w hw => by have hw' : w.cell? ⟨r, 2, none⟩ = some (.slice qa rs.length qc) := (fun hw => HR2.out _ hw) hw; go_simp⟩) ?_
    simp only [Act.put, List.setIfInBounds_toArray, List.set_cons_zero, List.set_cons_succ]
    refine takeU 14 11 68 (.int .i64 (rs.length : Int)) hHeld rfl rfl (by kernel_rfl) (by kernel_rfl) (by kernel_rfl) (by kernel_rfl) (by kernel_rfl) (by kernel_rfl) (fun _ _ _ h => h) (Or.inl ⟨by rfl, fun w _ => by go_simp⟩) ?_
    simp only [Act.put, List.setIfInBounds_toArray, List.set_cons_zero, List.set_cons_succ]
    refine wpAnyU_ready (rs := [6]) (by kernel_rfl) (by simp) (AllReadyU.cons rfl (fun K hK => ?_) AllReadyU.nil)
    rw [if_pos (by rfl)]
    go_simp
    refine (writes_any d s rs D _ (HS.out _ hHeld).1.dk).mono ?_
    rintro e wa ⟨rfl, rfl⟩
    refine hK.out _ _ (fun _ => hHeld) ?_
    have hHeld := hHeld
    clear hK K
    try simp only [Act.put, List.setIfInBounds_toArray, List.set_cons_zero, List.set_cons_succ]
    refine takeU 14 12 69 (.bool true) hHeld rfl rfl (by kernel_rfl) (by kernel_rfl) (by kernel_rfl) (by kernel_rfl) (by kernel_rfl) (by kernel_rfl) (fun _ _ _ h => h) (Or.inl ⟨by rfl, fun w _ => by go_simp⟩) ?_
    simp only [Act.put, List.setIfInBounds_toArray, List.set_cons_zero, List.set_cons_succ]
    refine takeU 14 13 70 (.bool true) hHeld rfl rfl (by kernel_rfl) (by kernel_rfl) (by kernel_rfl) (by kernel_rfl) (by kernel_rfl) (by kernel_rfl) (fun _ _ _ h => h) (Or.inl ⟨by rfl, fun w _ => by go_simp⟩) ?_
    simp only [Act.put, List.setIfInBounds_toArray, List.set_cons_zero, List.set_cons_succ]
    have S10 := hide (HS.out _ hHeld).1
    have M10 : Hid (W9.drew.heap[D2]? = some (.deferred (some []))) := HM
    have h4 : W9.drew.cell? ⟨b4, 0, none⟩ = some (.bool false) := by rw [S10.out.c4.cell]; rfl
    have f4 := S10.out.c4.free 0
    revert S10 M10 h4 f4
    generalize W9.drew = Vd
    intro S10 M10 h4 f4
    refine wpAnyU_ready (rs := [14]) (by kernel_rfl) (by simp) (AllReadyU.cons rfl (fun K hK => ?_) AllReadyU.nil)
    rw [if_pos (by rfl)]
    go_simp
    refine hK.out _ _ (fun h => absurd h (by decide)) ?_
    clear hK K
    refine wpAnyU_done (by kernel_rfl) ?_ _
    refine NoPanic.normal ?_
    go_wp2_with fail
    have q8 := (KeepsOthers.setCell Vd ⟨b4, 0, none⟩ (.bool true)).same D2 _ M10.out rfl
    have hcA := World.cell?_setCell_same' Vd ⟨b4, 0, none⟩ (.bool true) (by rw [h4]; rfl)
    have hcC := Go.cell_kept hcA (grownBy_putObj' _ D2 (.deferred none)) (fun r e => by cases e; exact ⟨_, q8, rfl⟩)
    have B8 := S10.out.bel.setCell (p := ⟨b4, 0, none⟩) S10.out.l4 (.bool true)
    refine ⟨by simp, .inl ⟨_, _, rfl, run_takeDeferred q8, ?_⟩⟩
    refine ⟨.bool true, ?_, rfl, B8.trans (belowK_b (w := w) (Nat.le_refl _) _ D2 _ (.deferred none) HWD.out q8 rfl rfl)⟩
    simp [results, Tryz.f10, go_sem, hcC]

end Go.Proofs.YtninkkdbcgadpaaGreatDoor

/-
  A region that draws its order and only reads, inside a round of a range over a function (the text of Km, for seats that keep other things).
-/

namespace Go.Proofs.YtninkkdbcgadpaaGreatDoor
open Go.RowKit Go.Shelf
set_option linter.unusedVariables false

/-- A region that draws its order and only reads, inside a round: one walk serves every order. -/
def noDefer (o : Oper) : Bool := match o.op with
  | .defer _ => false
  | _ => true
section
variable {F : Fence} {n : Nat} {P : Program} {ops : Array Oper} {md : Region.Mode} {C : World → Prop}
theorem wpOpIn_of_qOp (hF : WideF F) (hd : ops.all noDefer = true) {i : Nat} {a : Act} {K : Act → Prop} {K' : Act → World → Prop} {Q' : Exit → Act → World → Prop} {w : World} (hC : C w) (h : ∀ a w', C w' → K a → K' a w') (hh : qOp P ops C i K a) : wpOpIn F n P ops Q' i K' a w := by
  unfold qOp at hh
  unfold wpOpIn
  split
  · rename_i ho; simp only [ho] at hh; exact h _ _ hC hh
  · rename_i o ho
    simp only [ho] at hh
    split
    · rename_i hw
      simp only [hw, if_true] at hh
      refine lift_op hF (fun c hc => ?_) (Oper.wp_of_quiet hC h hh)
      have h1 := Array.all_eq_true.1 hd
      obtain ⟨hi, he⟩ := Array.getElem?_eq_some_iff.1 ho
      have h2 := h1 i hi
      rw [he] at h2
      simp [noDefer, hc] at h2
    · rename_i hw; simp only [hw] at hh; exact ⟨fun f _ => hF.fn f, h _ _ hC hh⟩
theorem wpAnyIn_of_quiet (hF : WideF F) (hd : ops.all noDefer = true) {Q : Act → Prop} {Q' : Exit → Act → World → Prop} (hQ : ∀ a w, C w → Q a → Q' .normal a w) : ∀ (fuel : Nat) (listed : Array Bool) (a : Act) (w : World), C w →
    wpAnyQ P md ops C Q fuel listed a → wpAnyIn F n P md ops Q' fuel listed a w
  | 0, _, _, _, hw, h => ⟨h.1, hQ _ _ hw h.2⟩
  | fuel + 1, _, _, _, hw, h => ⟨fun h0 => hQ _ _ hw (h.1 h0), fun i hi => wpOpIn_of_qOp hF hd hw (fun a' w' hw' => wpAnyIn_of_quiet hF hd hQ fuel _ a' w' hw') (h.2 i hi)⟩
theorem wpIn_region_round {l : List Oper} {id : Nat} {Q : Exit → Act → World → Prop} {a : Act} {w : World} (hF : WideF F) (hm : P.follows .mixedOrders = true) (hB : Region.lexB .any l.toArray = true) (hd : l.toArray.all noDefer = true)
    (h : wpQuiet P l.toArray (fun w' => ∃ n, w' = w.drewN n) (fun a' => ∀ w', (∃ n, w' = w.drewN n) → Q .normal a' w') l a) : (Code.region id l.toArray true).wpIn F n P Q a w := by
  simp only [Region.lexB, Bool.and_eq_true] at hB
  refine wpIn_region_any hm (wpAnyIn_of_quiet hF hd (C := fun w' => ∃ n, w' = w.drewN n) (Q := fun a' => ∀ w', (∃ n, w' = w.drewN n) → Q .normal a' w') (fun _ w' hw' h => h w' hw') _ _ _ _ ⟨1, rfl⟩ ?_)
  have := wpAnyQ_lex (P := P) (C := fun w' => ∃ n, w' = w.drewN n) (md := .any) hB.1 l 0 (Array.replicate l.toArray.size false) a (by simp) (by simpa using hB.2) h
  simpa using this
end

end Go.Proofs.YtninkkdbcgadpaaGreatDoor

/-
  A region that draws its order inside a round of a range over a function: walked by hand, as outside (as Kr), and what is held only till a given operation comes (as Ou).
-/
namespace Go.Proofs.YtninkkdbcgadpaaGreatDoor
open Go.RowKit Go.Shelf
set_option linter.unusedVariables false

section
variable {F : Fence} {n : Nat} {P : Program} {ops : Array Oper} {md : Region.Mode}
theorem wpOpIn_of_wpOp (hF : WideF F) (hd : ops.all noDefer = true) {i : Nat} {a : Act} {K K' : Act → World → Prop} {Q : Exit → Act → World → Prop} {w : World} (hL : ¬ LetsOut Q) (h : ∀ a w', K a w' → K' a w') (hh : wpOp P ops Q i K a w) : wpOpIn F n P ops Q i K' a w := by
  unfold wpOp at hh
  unfold wpOpIn
  split
  · rename_i ho; simp only [ho] at hh; exact h _ _ hh
  · rename_i o ho
    simp only [ho] at hh
    split
    · rename_i hw
      simp only [hw, if_true] at hh
      rcases hh with hh | ⟨_, hh⟩
      · refine lift_op hF (fun c hc => ?_) (Oper.wp_mono h hh)
        have h1 := Array.all_eq_true.1 hd
        obtain ⟨hi, he⟩ := Array.getElem?_eq_some_iff.1 ho
        have h2 := h1 i hi
        rw [he] at h2
        simp [noDefer, hc] at h2
      · exact absurd hh hL
    · rename_i hw; simp only [hw] at hh; exact ⟨fun f _ => hF.fn f, h _ _ hh⟩
theorem wpAnyIn_of_any (hF : WideF F) (hd : ops.all noDefer = true) {Q : Exit → Act → World → Prop} (hL : ¬ LetsOut Q) : ∀ (fuel : Nat) (listed : Array Bool) (a : Act) (w : World), wpAny P md ops Q fuel listed a w → wpAnyIn F n P md ops Q fuel listed a w
  | 0, _, _, _, h => h
  | fuel + 1, _, _, _, h => ⟨h.1, fun i hi => wpOpIn_of_wpOp hF hd hL (fun a' w' h' => wpAnyIn_of_any hF hd hL fuel _ a' w' h') (h.2 i hi)⟩
/-- Only the normal way out. -/
def Only (R : Act → World → Prop) : Exit → Act → World → Prop
  | .normal, a, w => R a w
  | _, _, _ => False
theorem Only.imp {Q : Exit → Act → World → Prop} : ∀ (e : Exit) (a : Act) (w : World), Only (fun a w => Q .normal a w) e a w → Q e a w := fun e a w h => by
  cases e <;> first | exact h | exact (h : False).elim
theorem Only.normal {Q : Exit → Act → World → Prop} {a : Act} {w : World} (h : Q .normal a w) : Only (fun a w => Q .normal a w) .normal a w := h
theorem Only.out (R : Act → World → Prop) : ¬ LetsOut (Only R) := by rintro ⟨a, w, h⟩; exact h
theorem wpIn_region_held {S : World → Prop} {id : Nat} {Q : Exit → Act → World → Prop} {a : Act} {w : World} (hF : WideF F) (hm : P.follows .mixedOrders = true) (hd : ops.all noDefer = true) (hS : S w.drew)
    (h : S w.drew → wpAnyH P .any ops (Only (fun a w => Q .normal a w)) S ops.size (Array.replicate ops.size false) a w.drew) : (Code.region id ops true).wpIn F n P Q a w :=
  Code.wpIn_mono Only.imp (wpIn_region_any hm (wpAnyIn_of_any hF hd (Only.out _) _ _ _ _ (wpAny_of_held _ _ _ _ (h hS))))
theorem wpIn_region_U {S : World → Prop} {q id : Nat} {Q : Exit → Act → World → Prop} {a : Act} {w : World} (hF : WideF F) (hm : P.follows .mixedOrders = true) (hd : ops.all noDefer = true)
    (h : wpAnyU P .any ops (Only (fun a w => Q .normal a w)) S q ops.size (Array.replicate ops.size false) a w.drew) : (Code.region id ops true).wpIn F n P Q a w :=
  Code.wpIn_mono Only.imp (wpIn_region_any hm (wpAnyIn_of_any hF hd (Only.out _) _ _ _ _ (wpAny_of_U _ _ _ _ h)))
end

end Go.Proofs.YtninkkdbcgadpaaGreatDoor

/-
  load: what stands through it.
-/
namespace Go.Proofs.YtninkkdbcgadpaaGreatDoor
open Go.RowKit Go.Shelf
set_option linter.unusedVariables false
set_option linter.unusedSimpArgs false
set_option maxRecDepth 100000

/-- A journal that has no leaves yet. -/
def jm0 : Jm := ⟨.slice none 0 0, []⟩
/-- What stands in load behind n frames. -/
structure LI (w W : World) (B b1 b2 b3 d j s : Nat) (rs : List Rw) (D : Dm) (g : Nat) (wh : Int) (ds : List (List Int)) (M : Jm) : Prop where
  c1 : Blk W b1 30 [.pointer (some ⟨j, 0, none⟩)]
  c2 : Blk W b2 3 [.int .i64 wh]
  c3 : Blk W b3 31 [.int .i64 0]
  l1 : w.heap.size ≤ b1 ∧ b1 < B
  l2 : w.heap.size ≤ b2 ∧ b2 < B
  l3 : w.heap.size ≤ b3 ∧ b3 < B
  pj : PJ W d j s rs D g ds M
  mo : ∀ k, M.own j k ∨ M.ro k → k = j ∨ B ≤ k
  jl : j < w.heap.size
  dl : ∀ k, D.own d k ∨ D.ro k → k < w.heap.size
  ch : Chs (fun k => k = j) w W
  sz : B ≤ W.heap.size
  ff : 0 < w.heap.size ∧ 0 ≠ j
section
variable {w W W' : World} {B b1 b2 b3 d j s : Nat} {rs : List Rw} {D : Dm} {g : Nat} {wh : Int} {ds : List (List Int)} {M : Jm}
theorem LI.on (h : LI w W B b1 b2 b3 d j s rs D g wh ds M) (hb : Below W.heap.size W W') : LI w W' B b1 b2 b3 d j s rs D g wh ds M :=
  ⟨h.c1.on hb, h.c2.on hb, h.c3.on hb, h.l1, h.l2, h.l3, h.pj.below hb, h.mo, h.jl, h.dl, h.ch.thenBelow hb, Nat.le_trans h.sz hb.size, h.ff⟩
theorem LI.kept {row : Option Nat} (h : LI w W B b1 b2 b3 d j s rs D g wh ds M) (hg : W.grownBy W' row) (hr : ∀ r, row = some r → w.heap.size ≤ r ∧ ∃ o : Obj, W.heap[r]? = some o ∧ o.isCells = false) : LI w W' B b1 b2 b3 d j s rs D g wh ds M := by
  have hk := CK.of_grown hg (fun r e => (hr r e).2)
  refine ⟨h.c1.ck hk, h.c2.ck hk, h.c3.ck hk, h.l1, h.l2, h.l3, h.pj.same (fun k hF => ?_), h.mo, h.jl, h.dl, h.ch.thenGrown hg (fun g e => .inr (hr g e).1), Nat.le_trans h.sz hk.size, h.ff⟩
  rcases hF with hF | hF | hF | hF
  · exact hg.block k (h.pj.dk.lt (.inl hF)) (fun e => by have h1 := (hr k e.symm).1; have h2 := h.dl k (.inl hF); omega)
  · exact hg.block k (h.pj.dk.lt (.inr hF)) (fun e => by have h1 := (hr k e.symm).1; have h2 := h.dl k (.inr hF); omega)
  · obtain ⟨t, cs, hc, _⟩ := h.pj.jn.kindO hF
    exact (hc.ck hk).trans hc.symm
  · obtain ⟨cs, hc⟩ := h.pj.jn.kindR hF
    exact (hc.ck hk).trans hc.symm
theorem kt_nj {W : World} {j d : Nat} {g : Int} {lv : Value} (hk : KT W) (hj : Blk W j 50 (jnC (some ⟨d, 0, none⟩) g lv)) : 0 ≠ j := fun e => by
  have h1 := hk 0 (by decide)
  have h2 : W.cell? ⟨j, 0, none⟩ = some (.pointer (some ⟨d, 0, none⟩)) := by rw [hj.cell]; rfl
  subst e
  rw [h1] at h2
  cases h2
theorem pt_nj {W : World} {j d : Nat} {g : Int} {lv : Value} (hk : PT W) (hj : Blk W j 50 (jnC (some ⟨d, 0, none⟩) g lv)) : 1 ≠ j := fun e => by
  have h1 := hk.cell gPT 0 (by rw [Lib.pow10Tab_length]; decide)
  have h2 : W.cell? ⟨j, 0, none⟩ = some (.pointer (some ⟨d, 0, none⟩)) := by rw [hj.cell]; rfl
  subst e
  rw [h1] at h2
  cases h2
theorem TT.chj {w W : World} {j d : Nat} {g : Int} {lv : Value} (h : TT w) (hj : Blk w j 50 (jnC (some ⟨d, 0, none⟩) g lv)) (hc : Chs (fun k => k = j) w W) : TT W :=
  ⟨h.kt.same (hc.block _ h.kt.lt (kt_nj h.kt hj)), h.pt.same (hc.block _ h.pt.lt (pt_nj h.pt hj))⟩
/-- One frame more. -/
theorem LI.push {w3 w5 w6 w7 : World} {v : Value} {xs : List Int} {g' cap : Nat} {wh' : Int} (h : LI w W B b1 b2 b3 d j s rs D g wh ds M) (h3 : w3 = W.setCell ⟨b2, 0, none⟩ (.int .i64 wh')) (hb : Below w3.heap.size w3 w5) {n0 : Nat} (hn0 : B ≤ n0) (hv : Own w5 n0 v xs) (hx : isB xs ∧ xs.length ≤ 65535) (hnd : ∀ k, v.ownBlock = some k → ¬ D.own d k)
    (hrow : OwnV 39 w6 0 (.slice (some ⟨g', 0, none⟩) (M.vs.length + 1) cap) (M.vs ++ [v])) (hgr : w5.grownBy w6 M.lv.ownBlock) (hat : M.lv.ownBlock = some g' ∨ w5.heap.size ≤ g') (hst : w7 = w6.setCell ⟨j, 2, none⟩ (.slice (some ⟨g', 0, none⟩) (M.vs.length + 1) cap)) :
    (∃ M', LI w w7 B b1 b2 b3 d j s rs D g wh' (ds ++ [xs]) M') ∧ KG W w7 ∧ KeepsOthers W w7 := by
  have b23 : But b2 W w3 := by rw [h3]; exact But.setCell W b2 0 _
  have c2' : Blk w3 b2 3 [.int .i64 wh'] := by rw [h3]; exact h.c2.set 0 _
  have n2d : ∀ k, JF d j D M k → k ≠ b2 := fun k hk e => by
    subst e
    rcases hk with hk | hk | hk | hk
    · have h1 := h.dl _ (.inl hk); have h2 := h.l2; omega
    · have h1 := h.dl _ (.inr hk); have h2 := h.l2; omega
    · obtain ⟨t, cs, hc, ht⟩ := h.pj.jn.kindO hk
      exact hc.apart h.c2 (by rcases ht with rfl | rfl <;> decide) rfl
    · obtain ⟨cs, hc⟩ := h.pj.jn.kindR hk
      exact hc.apart h.c2 (by decide) rfl
  have p3 : PJ w3 d j s rs D g ds M := h.pj.same (fun k hk => b23.block k (n2d k hk))
  have hjb2 : j ≠ b2 := n2d j (.inr (.inr (.inl (.inl rfl))))
  have s3 : w3.heap.size = W.heap.size := b23.size
  have l1 := h.l1
  have l2 := h.l2
  have l3 := h.l3
  have hjl := h.jl
  have hwB : w.heap.size ≤ B := by omega
  have hlv : ∀ k, M.lv.ownBlock = some k → B ≤ k := fun k hk => by
    rcases h.mo k (.inl (.inr hk)) with e | e
    · subst e
      obtain ⟨cs, hc⟩ := h.pj.jn.row.blk hk
      exact absurd rfl (h.pj.jn.blk.apart hc (by decide))
    · exact e
  have hbut : But j w6 w7 := by rw [hst]; exact But.setCell w6 j 2 _
  have var : ∀ b, w.heap.size ≤ b → b < B → w7.heap[b]? = w3.heap[b]? := fun b hb1 hb2 => by
    have hs := h.sz
    have hs5 := hb.size
    rw [hbut.block b (by omega), hgr.block b (by omega) (fun e => by have := hlv b e.symm; omega), hb.block b (by omega)]
  have p5 := p3.below hb
  obtain ⟨M', q1, q2, q3, _⟩ := p3.push2 hb hv hnd hx hrow hgr hat hst
  have hs := h.sz
  have q3' : ∀ k, M'.own j k ∨ M'.ro k → k = j ∨ B ≤ k := fun k hk => by
    rcases q3 k hk with h | h | h | h
    · exact (‹LI w W B b1 b2 b3 d j s rs D g wh ds M›).mo k (.inl h)
    · exact (‹LI w W B b1 b2 b3 d j s rs D g wh ds M›).mo k (.inr h)
    · exact .inr (Nat.le_trans hn0 (hv.lt k h))
    · exact .inr (by omega)
  have ch37 : Chs (fun k => k = j) w w7 := by
    refine ⟨?_, ?_, ?_, ?_, fun k hk hn => ?_⟩
    · rw [hbut.os, hgr.os, hb.os, b23.os, h.ch.os]
    · rw [hbut.tape, hgr.tape, hb.tape, b23.tape, h.ch.tape]
    · rw [hbut.output, hgr.output, hb.output, b23.output, h.ch.output]
    · have h1 := h.ch.size
      have h2 := hb.size
      have h3 := hgr.size
      rw [hbut.size]
      omega
    · have h1 := h.ch.size
      have h2 := hb.size
      rw [hbut.block k hn, hgr.block k (by omega) (fun e => by have := hlv k e.symm; omega), hb.block k (by omega), b23.block k (by omega), h.ch.block k hk hn]
  have ff := h.ff
  have hj5 : Blk w5 j 50 (jnC (some ⟨d, 0, none⟩) (g : Int) M.lv) := p5.jn.blk
  have hj6 : Blk w6 j 50 (jnC (some ⟨d, 0, none⟩) (g : Int) M.lv) := hj5.same (hgr.block j hj5.lt (fun e => by
    obtain ⟨cs, hc⟩ := p5.jn.row.blk e.symm
    exact hj5.apart hc (by decide) rfl))
  refine ⟨⟨M', ⟨h.c1.same ((var b1 l1.1 l1.2).trans (b23.block b1 (fun e => h.c1.apart (e ▸ h.c2) (by decide) rfl))), c2'.same (var b2 l2.1 l2.2), h.c3.same ((var b3 l3.1 l3.2).trans (b23.block b3 (fun e => h.c3.apart (e ▸ h.c2) (by decide) rfl))), l1, l2, l3, q1, q3', hjl, h.dl, ch37, by
    have h2 := hb.size
    have h3 := hgr.size
    rw [hbut.size]
    omega, ff⟩⟩, ?_, ?_⟩
  · refine (KG.but b23 h.c2 (by decide) (by omega)).trans ((KG.below hb).trans ((KG.grown hgr (fun k e => ⟨?_, ?_⟩)).trans (KG.but hbut hj6 (by decide) ff.2)))
    · obtain ⟨cs, hc⟩ := p5.jn.row.blk e
      exact ⟨_, cs, hc, by decide⟩
    · have := hlv k e
      have := h.ch.size
      omega
  · refine (keepsO_but b23 h.c2).trans ((keepsO_below hb).trans ((keepsO_grown hgr (fun k e => ?_)).trans (keepsO_but hbut hj6)))
    obtain ⟨cs, hc⟩ := p5.jn.row.blk e
    exact ⟨_, cs, hc⟩
end

end Go.Proofs.YtninkkdbcgadpaaGreatDoor

/-
  The walk of load.
-/
namespace Go.Proofs.YtninkkdbcgadpaaGreatDoor
open Go.RowKit Go.Shelf
set_option linter.unusedVariables false
set_option linter.unusedSimpArgs false
set_option maxRecDepth 100000

/-- The variables of load, as they are made. -/
def lo3 (w : World) (j : Nat) : World := ((w.alloc (.cells #[.pointer (some ⟨j, 0, none⟩)] 30)).alloc (.cells #[.int .i64 0] 3)).alloc (.cells #[.int .i64 0] 31)
theorem lo3_bel (w : World) (j : Nat) : Below w.heap.size w (lo3 w j) := (((Below.refl _ _).alloc (Nat.le_refl _) _).alloc (by simp) _).alloc (by simp; omega) _
theorem lo3_size (w : World) (j : Nat) : (lo3 w j).heap.size = w.heap.size + 3 := by simp [lo3]
theorem lo3_li {w : World} {d j s : Nat} {rs : List Rw} {D : Dm} {g : Nat} (h : PJ w d j s rs D g [] jm0) (ht : KT w) : LI w (lo3 w j) (w.heap.size + 3) w.heap.size (w.heap.size + 1) (w.heap.size + 1 + 1) d j s rs D g 0 [] jm0 := by
  have s1 : (w.alloc (.cells #[.pointer (some ⟨j, 0, none⟩)] 30)).heap.size = w.heap.size + 1 := World.size_alloc _ _
  have s2 : ((w.alloc (.cells #[.pointer (some ⟨j, 0, none⟩)] 30)).alloc (.cells #[.int .i64 0] 3)).heap.size = w.heap.size + 1 + 1 := by rw [World.size_alloc, s1]
  have a1 := Blk.made w 30 [.pointer (some ⟨j, 0, none⟩)]
  have a2 := Blk.made (w.alloc (.cells #[.pointer (some ⟨j, 0, none⟩)] 30)) 3 [.int .i64 0]
  have a3 := Blk.made ((w.alloc (.cells #[.pointer (some ⟨j, 0, none⟩)] 30)).alloc (.cells #[.int .i64 0] 3)) 31 [.int .i64 0]
  rw [s1] at a2
  rw [s2] at a3
  have nx : ∀ (v : World) (o : Obj), Below v.heap.size v (v.alloc o) := fun v o => (Below.refl _ _).alloc (Nat.le_refl _) _
  refine ⟨(a1.on (nx _ _)).on (nx _ _), a2.on (nx _ _), a3, by omega, by omega, by omega, h.below (lo3_bel w j), fun k hk => ?_, h.jn.blk.lt, fun k hk => h.dk.lt hk, Chs.of_below _ (lo3_bel w j), by rw [lo3_size]; exact Nat.le_refl _, ht.lt, kt_nj ht h.jn.blk⟩
  rcases hk with (rfl | hk) | ⟨v, hv, _⟩
  · exact .inl rfl
  · cases hk
  · cases hv
/-- What a frame that is too long leaves. -/
structure LX (w W : World) (B b2 b3 j : Nat) : Prop where
  c2 : Blk W b2 3 [.int .i64 0]
  c3 : Blk W b3 31 [.int .i64 130]
  ch : Chs (fun k => k = j) w W
theorem LX.kept {w W W' : World} {B b2 b3 j : Nat} {row : Option Nat} (h : LX w W B b2 b3 j) (hg : W.grownBy W' row) (hr : ∀ r, row = some r → w.heap.size ≤ r ∧ ∃ o : Obj, W.heap[r]? = some o ∧ o.isCells = false) : LX w W' B b2 b3 j :=
  ⟨h.c2.ck (CK.of_grown hg (fun r e => (hr r e).2)), h.c3.ck (CK.of_grown hg (fun r e => (hr r e).2)), h.ch.thenGrown hg (fun g e => .inr (hr g e).1)⟩
/-- All leaves are short enough. -/
def Shrt (L : List (Int × List Int)) : Prop := ∀ y ∈ L, y.2.length ≤ 65535
set_option maxHeartbeats 4000000 in
theorem load_any (d j s : Nat) (rs : List Rw) (D : Dm) (g : Nat) (w : World) (h : PJ w d j s rs D g [] jm0) (ht : TT w) (hg : g ≤ 2147483647) (xs : List Int) (L : List (Int × List Int)) (P : Nat → Nat) (E : Int) (hp : play rs (jN g) = some xs) (hib : isB xs) (hxl : xs.length ≤ 8000000) (hfr : Frs xs L P E) (hwt : wt rs ≤ 1099511000000) :
    Calls Tryz.prog 34 #[.pointer (some ⟨j, 0, none⟩)] w fun e w' => Chs (fun k => k = j) w w' ∧
      ((Shrt L ∧ e = .returned (.tuple #[.int .i64 (P L.length : Int), .int .i64 0]) ∧ ∃ M', PJ w' d j s rs D g (L.map (·.2)) M' ∧ ∀ k, M'.own j k ∨ M'.ro k → k = j ∨ w.heap.size ≤ k) ∨ (¬ Shrt L ∧ e = .returned (.tuple #[.int .i64 0, .int .i64 130]))) := by
  obtain ⟨Z, HZ⟩ : ∃ Z, Hid (P L.length = Z) := ⟨_, hide rfl⟩
  rw [HZ.out]
  have HH := hide h
  have HT := hide ht
  have HX := hide hib
  have HFR := hide hfr
  have hnm := jN_nm hg
  have SZ : Hid (∀ W, DkAt W d s rs D → Calls Tryz.prog 66 #[.pointer (some ⟨d, 0, none⟩), .string (jN g)] W fun e w' => e = .returned (.tuple #[.int .i64 (xs.length : Int), .int .i64 0]) ∧ w' = W) := hide (fun W hW => by
    have := size_any d s rs D W hW (jN g)
    rwa [fE_some hnm hp, show fl (play rs) (jN g) = xs by simp [fl, hp], if_pos rfl] at this)
  have RD : Hid (∀ W, DkAt W d s rs D → Calls Tryz.prog 46 #[.pointer (some ⟨d, 0, none⟩), .string (jN g), .int .i64 0, .int .i64 (xs.length : Int)] W fun e w' => ∃ v, e = .returned (.tuple #[v, .int .i64 0]) ∧ Own w' W.heap.size v xs ∧ Below W.heap.size W w') := hide (fun W hW => by
    have e0 := fE_some hnm hp
    have e1 : fl (play rs) (jN g) = xs := by simp [fl, hp]
    have e2 : rqE rs (jN g) 0 (xs.length : Int) = 0 := by
      unfold rqE
      rw [e0, e1, if_pos rfl, if_neg (by omega)]
    have e3 : rqB rs (jN g) 0 (xs.length : Int) = xs := by
      unfold rqB
      rw [e2, e1, if_pos rfl]
      simp
    have := read_any d s rs D W hW (jN g) 0 (xs.length : Int) hwt
    rwa [e2, e3] at this)
  obtain ⟨A, HA⟩ : ∃ A, Hid (jN g = A) := ⟨_, hide rfl⟩
  rw [HA.out] at SZ RD
  have NM : Hid (∀ W, TT W → Calls Tryz.prog 37 #[.int .i64 (g : Int)] W fun r w' => r = .returned (.string A) ∧ Below W.heap.size W w') := hide (fun W hW => by rw [← HA.out]; exact name_any g W hg hW.pt)
  obtain ⟨len, HLEN⟩ : ∃ len, Hid (xs.length = len) := ⟨_, hide rfl⟩
  rw [HLEN.out] at SZ RD hxl
  have hx8 := hxl
  replace hxl : len ≤ 16777216 := by omega
  clear h ht hp hib hfr hwt hnm
  refine (callsIn_wide (n := 3)).1 ?_
  refine callsIn_of_wp_marks Tryz.func34 rfl trivial ?_ rfl
  refine wpIn_wide.2 ?_
  simp only [Tryz.ntmps34, List.size_toArray, List.length_cons, List.length_nil, Nat.reduceAdd, Nat.reduceSub, Array.replicate_succ, Array.replicate_zero, List.push_toArray, List.append_toArray, List.nil_append, List.cons_append]
  have F0 := hide (lo3_li HH.out HT.out.kt)
  have T0 := hide (HT.out.on (lo3_bel w j))
  have d0 : (lo3 w j).cell? ⟨w.heap.size, 0, none⟩ = some (.pointer (some ⟨j, 0, none⟩)) := by rw [F0.out.c1.cell]; rfl
  have j0 := F0.out.pj.jn.c0
  have j1 := F0.out.pj.jn.c1
  unfold lo3 at F0 T0 d0 j0 j1
  go_wp2_with fail
  revert F0 T0 d0 j0 j1
  generalize ((w.alloc (.cells #[.pointer (some ⟨j, 0, none⟩)] 30)).alloc (.cells #[.int .i64 0] 3)).alloc (.cells #[.int .i64 0] 31) = W0
  obtain ⟨B, hB⟩ : ∃ B, w.heap.size + 3 = B := ⟨_, rfl⟩
  obtain ⟨b3, hb3⟩ : ∃ b3, w.heap.size + 1 + 1 = b3 := ⟨_, rfl⟩
  obtain ⟨b2, hb2⟩ : ∃ b2, w.heap.size + 1 = b2 := ⟨_, rfl⟩
  rw [hB, hb3, hb2]
  clear hb3 hb2
  intro F0 T0 d0 j0 j1
  have hwB : w.heap.size ≤ B := by omega
  clear hB
  clear d0 j0 j1
  refine (NM.out W0 T0.out).mono ?_
  rintro _ W1 ⟨rfl, hb1⟩
  have F1 := hide (F0.out.on hb1)
  clear hb1 F0 T0 NM
  have d1 : W1.cell? ⟨w.heap.size, 0, none⟩ = some (.pointer (some ⟨j, 0, none⟩)) := by rw [F1.out.c1.cell]; rfl
  have d3 : W1.cell? ⟨b3, 0, none⟩ = some (.int .i64 0) := by rw [F1.out.c3.cell]; rfl
  have f3 := F1.out.c3.free 0
  have i3 := set_id F1.out.c3 (i := 0) rfl
  have j0 := F1.out.pj.jn.c0
  go_wp2_with fail
  refine (SZ.out W1 F1.out.pj.dk).mono ?_
  rintro _ W1 ⟨rfl, rfl⟩
  go_wp2_with fail
  refine (RD.out W1 F1.out.pj.dk).mono ?_
  rintro _ W2 ⟨v, rfl, hov, hb2⟩
  have F2 := hide (F1.out.on hb2)
  obtain ⟨va, vc, rfl, hsv⟩ := hov.sl' HX.out (by rw [HLEN.out]; omega)
  rw [HLEN.out] at hsv
  rw [HLEN.out]
  have SV := hide hsv
  clear hov hsv hb2 d1 d3 f3 i3 j0 F1 SZ RD
  have d3 : W2.cell? ⟨b3, 0, none⟩ = some (.int .i64 0) := by rw [F2.out.c3.cell]; rfl
  have f3 := F2.out.c3.free 0
  have i3 := set_id F2.out.c3 (i := 0) rfl
  go_wp2_with fail
  refine (allF_any _ _ _ _).mono ?_
  rintro _ W3 ⟨bx, rfl, hbx, hlx, hb3'⟩
  have F3 := hide (F2.out.on hb3')
  have T3 := hide (HT.out.chj HH.out.jn.blk F3.out.ch)
  have HSQ := hide (all_seqG va len vc xs L P E bx W3 (SV.out.below hb3') hxl HFR.out T3.out.kt hbx)
  clear d3 f3 i3 hbx hlx hb3' F2 SV
  have hBW : B ≤ W3.heap.size := F3.out.sz
  have hwW : w.heap.size ≤ W3.heap.size := by omega
  go_wp2_with fail
  refine (wpIn_wide (n := 3)).1 ?_
  refine rangeR rfl (by decide) (gf := 94) (lb := #[.pointer (some ⟨bx, 0, none⟩)]) rfl trivial (enters_of Tryz.func94 (by kernel_rfl) rfl)
    HSQ.out KG.trans (fun x W l o o' hl h hc => KG.book W l o o' h hc) (fun _ => rfl) (fun pre x => rf_own _ _ _ pre x)
    (fun pre W => Shrt (L.take pre.length) ∧ ∃ M, LI w W B w.heap.size b2 b3 d j s rs D g (P pre.length : Int) ((L.take pre.length).map (·.2)) M) (fun c pre W => c = .ret ∧ ¬ Shrt L ∧ LX w W B b2 b3 j)
    (fun _ A C row h hg hr => ⟨h.1, by
      obtain ⟨M, hM⟩ := h.2
      exact ⟨M, hM.kept hg (fun r e => ⟨by have := (hr r e).1; omega, (hr r e).2⟩)⟩⟩)
    (fun c _ A C row h hg hr => ⟨h.1, h.2.1, h.2.2.kept hg (fun r e => ⟨by have := (hr r e).1; omega, (hr r e).2⟩)⟩) ⟨(fun y hy => by simp at hy), jm0, by simpa [HFR.out.p0] using F3.out⟩ ?act ?assign ?body ?done ?stop
  case assign =>
    rintro l x W K hK
    have hsem := Oper.semAt_some
    simp only [encF]
    gi_wp2
    exact hK
  case body =>
    rintro l pre ⟨nx, v, y⟩ W ⟨hsh, M, hM⟩ ⟨h1, h2, h3, h4⟩
    have hsem := Oper.semAt_some
    obtain ⟨i, HI⟩ : ∃ i, Hid (pre.length = i) := ⟨_, hide rfl⟩
    have HP1 : Hid ((pre ++ [(nx, v, y)]).length = i + 1) := hide (by rw [List.length_append, HI.out]; rfl)
    rw [HI.out] at hsh hM h1 h3
    have hnx : nx = (P (i + 1) : Int) := by
      have := (HFR.out.step i h1).2.2
      rw [← h3] at this
      exact this
    have HNX := hide hnx
    clear hnx
    have hyd : (L.getD i (0, [])).2 = y := by rw [← h3]; rfl
    have hib : isB y := by rw [← hyd]; exact (HFR.out.data HX.out i h1).1
    have hyl : y.length ≤ 16777216 := by rw [← hyd]; exact Nat.le_trans (HFR.out.data HX.out i h1).2 (by rw [HLEN.out]; exact hxl)
    replace h4 : Own W W3.heap.size v y := h4
    obtain ⟨ya, yc, ev, sv⟩ := h4.sl' hib (by omega)
    subst ev
    have HM := hide hM
    have HV := hide h4
    have HTS : Hid (L.take (i + 1) = L.take i ++ [L.getD i (0, [])]) := hide (take_snocL L i h1)
    have d2 : W.cell? ⟨b2, 0, none⟩ = some (.int .i64 (P i : Int)) := by rw [hM.c2.cell]; rfl
    have d3 : W.cell? ⟨b3, 0, none⟩ = some (.int .i64 0) := by rw [hM.c3.cell]; rfl
    have f2 := hM.c2.free 0
    have f3 := hM.c3.free 0
    have n23 : b2 ≠ b3 := hM.c2.apart hM.c3 (by decide)
    obtain ⟨ny, HNY⟩ : ∃ ny, Hid (y.length = ny) := ⟨_, hide rfl⟩
    rw [HNY.out] at HV sv hyl HP1
    rw [HNY.out]
    by_cases hbig : 65535 < ny
    · have hbig' : (65535 : Int) < (ny : Int) := by omega
      have HNS : Hid (¬ Shrt L) := hide (fun hs => by
        have := hs (L.getD i (0, [])) (by
          simp only [List.getD, List.getElem?_eq_getElem h1, Option.getD_some]
          exact List.getElem_mem h1)
        rw [hyd, HNY.out] at this
        omega)
      clear hM h2 h3 h4 sv hsh
      gi_wp2
      have u2 := But.setCell W b2 0 (.int .i64 0)
      have u3 := But.setCell (W.setCell ⟨b2, 0, none⟩ (.int .i64 0)) b3 0 (.int .i64 130)
      have x2 : Blk (W.setCell ⟨b2, 0, none⟩ (.int .i64 0)) b2 3 [.int .i64 0] := HM.out.c2.set 0 _
      have x3 : Blk (W.setCell ⟨b2, 0, none⟩ (.int .i64 0)) b3 31 [.int .i64 0] := HM.out.c3.but u2 n23.symm
      refine ⟨((keepsO_but u2 HM.out.c2).trans (keepsO_but u3 x3)).from _, rfl, HNS.out, ⟨x2.but u3 n23, x3.set 0 _, ?_⟩⟩
      exact (HM.out.ch.thenBut u2 (.inr HM.out.l2.1)).thenBut u3 (.inr HM.out.l3.1)
    · have hbig' : ¬ (65535 : Int) < (ny : Int) := by omega
      have HSH : Hid (Shrt (L.take (i + 1))) := hide (fun z hz => by
        rw [HTS.out] at hz
        rcases List.mem_append.1 hz with hz | hz
        · exact hsh z hz
        · simp only [List.mem_singleton] at hz
          rw [hz, hyd, HNY.out]
          omega)
      have HDS : Hid ((L.take (i + 1)).map (·.2) = (L.take i).map (·.2) ++ [y]) := hide (by rw [HTS.out, List.map_append, List.map_singleton, hyd])
      have HIB : Hid (isB y ∧ y.length ≤ 65535) := hide ⟨hib, by rw [HNY.out]; omega⟩
      have u2 := But.setCell W b2 0 (.int .i64 nx)
      have x1 : Blk (W.setCell ⟨b2, 0, none⟩ (.int .i64 nx)) w.heap.size 30 [.pointer (some ⟨j, 0, none⟩)] := hM.c1.but u2 (fun e => hM.c1.apart (e ▸ hM.c2) (by decide) rfl)
      have xj : Blk (W.setCell ⟨b2, 0, none⟩ (.int .i64 nx)) j 50 (jnC (some ⟨d, 0, none⟩) (g : Int) M.lv) := hM.pj.jn.blk.but u2 (hM.pj.jn.blk.apart hM.c2 (by decide))
      have HV2 : Hid (Own (W.setCell ⟨b2, 0, none⟩ (.int .i64 nx)) W3.heap.size (.slice ya ny yc) y) := hide (HV.out.same (fun k hk => by
        obtain ⟨cs, hc⟩ := HV.out.lies hk
        exact u2.block k (hc.apart hM.c2 (by decide))))
      have HRW : Hid (OwnV 39 (W.setCell ⟨b2, 0, none⟩ (.int .i64 nx)) 0 M.lv M.vs) := hide (hM.pj.jn.row.same (fun k hk => by
        obtain ⟨cs, hc⟩ := hM.pj.jn.row.blk hk
        exact u2.block k (hc.apart hM.c2 (by decide))))
      have HVL : Hid (M.vs.length ≤ 1048576) := hide (by
        rw [hM.pj.jn.vlen, List.length_map, List.length_take]
        have h1' := HFR.out.few HX.out
        rw [HLEN.out] at h1'
        omega)
      have HND : Hid (∀ k, (Value.slice ya ny yc).ownBlock = some k → ¬ D.own d k) := hide (fun k hk hd => by
        have h1' := HV.out.lt k hk
        have h2' := hM.dl k (.inl hd)
        omega)
      have HX1 := hide x1
      have HXJ := hide xj
      clear hM h2 h3 h4 sv hsh d3 f3 u2 x1 xj
      gi_wp2_with fail
      revert HX1 HXJ HV2 HRW
      generalize hW5 : W.setCell ⟨b2, 0, none⟩ (.int .i64 nx) = W5
      have HW5 := hide hW5
      clear hW5
      intro HV2 HRW HX1 HXJ
      obtain ⟨b1, HB1⟩ : ∃ b1, Hid (w.heap.size = b1) := ⟨_, hide rfl⟩
      rw [HB1.out] at HX1
      rw [HB1.out]
      refine wpIn_region_U (q := 10) (S := fun v : World => v.cell? ⟨b1, 0, none⟩ = some (.pointer (some ⟨j, 0, none⟩)) ∧ Blk v j 50 (jnC (some ⟨d, 0, none⟩) (g : Int) M.lv)) (WideF.round l) (by kernel_rfl) (by kernel_rfl) ?_
      have BD := hide (Below.refl W5.heap.size W5).drew
      have hHeld : W5.drew.cell? ⟨b1, 0, none⟩ = some (.pointer (some ⟨j, 0, none⟩)) ∧ Blk W5.drew j 50 (jnC (some ⟨d, 0, none⟩) (g : Int) M.lv) := ⟨by rw [(HX1.out.on BD.out).cell]; rfl, HXJ.out.on BD.out⟩
      refine takeU 10 0 47 (.pointer (some ⟨j, 0, none⟩)) hHeld rfl rfl (by kernel_rfl) (by kernel_rfl) (by kernel_rfl) (by kernel_rfl) (by kernel_rfl) (by kernel_rfl) (fun _ _ _ h => h) (Or.inl ⟨by rfl, fun w hw => by have hw' : w.cell? ⟨b1, 0, none⟩ = some (.pointer (some ⟨j, 0, none⟩)) := (fun hw => hw.1) hw; go_simp⟩) ?_
      simp only [Act.put, List.setIfInBounds_toArray, List.set_cons_zero, List.set_cons_succ]
      refine takeU 10 1 48 (.pointer (some ⟨j, 0, none⟩)) hHeld rfl rfl (by kernel_rfl) (by kernel_rfl) (by kernel_rfl) (by kernel_rfl) (by kernel_rfl) (by kernel_rfl) (fun _ _ _ h => h) (Or.inl ⟨by rfl, fun w hw => by have hw' : w.cell? ⟨b1, 0, none⟩ = some (.pointer (some ⟨j, 0, none⟩)) := (fun hw => hw.1) hw; go_simp⟩) ?_
      simp only [Act.put, List.setIfInBounds_toArray, List.set_cons_zero, List.set_cons_succ]
      refine takeU 10 2 49 (.pointer (some ⟨j, 0, none⟩)) hHeld rfl rfl (by kernel_rfl) (by kernel_rfl) (by kernel_rfl) (by kernel_rfl) (by kernel_rfl) (by kernel_rfl) (fun _ _ _ h => h) (Or.inl ⟨by rfl, fun w _ => by go_simp⟩) ?_
      simp only [Act.put, List.setIfInBounds_toArray, List.set_cons_zero, List.set_cons_succ]
      refine takeU 10 3 50 (.pointer (some ⟨j, 2, none⟩)) hHeld rfl rfl (by kernel_rfl) (by kernel_rfl) (by kernel_rfl) (by kernel_rfl) (by kernel_rfl) (by kernel_rfl) (fun _ _ _ h => h) (Or.inl ⟨by rfl, fun w _ => by go_simp⟩) ?_
      simp only [Act.put, List.setIfInBounds_toArray, List.set_cons_zero, List.set_cons_succ]
      refine takeU 10 4 51 (M.lv) hHeld rfl rfl (by kernel_rfl) (by kernel_rfl) (by kernel_rfl) (by kernel_rfl) (by kernel_rfl) (by kernel_rfl) (fun _ _ _ h => h) (Or.inl ⟨by rfl, fun w hw => by have hw' : w.cell? ⟨j, 2, none⟩ = some (M.lv) := (fun hw => by rw [Blk.cell hw.2]; rfl) hw; go_simp⟩) ?_
      simp only [Act.put, List.setIfInBounds_toArray, List.set_cons_zero, List.set_cons_succ]
      refine takeU 10 5 52 (.slice ya ny yc) hHeld rfl rfl (by kernel_rfl) (by kernel_rfl) (by kernel_rfl) (by kernel_rfl) (by kernel_rfl) (by kernel_rfl) (fun _ _ _ h => h) (Or.inl ⟨by rfl, fun w _ => by go_simp⟩) ?_
      simp only [Act.put, List.setIfInBounds_toArray, List.set_cons_zero, List.set_cons_succ]
      refine wpAnyU_ready (rs := [6]) (by kernel_rfl) (by simp) (AllReadyU.cons rfl (fun K hK => ?_) AllReadyU.nil)
      rw [if_pos (by rfl)]
      refine wp_one1 (u := .slice ya ny yc) tinB rfl rfl ?_
      intro w5 g5 hg5 hle5 hb5
      have B5 := hide (on_below BD.out hb5)
      have G5 := hide hg5
      clear hb5 hg5 hle5 hHeld
      refine hK.out _ _ (fun _ => (show w5.cell? ⟨b1, 0, none⟩ = some (.pointer (some ⟨j, 0, none⟩)) ∧ Blk w5 j 50 (jnC (some ⟨d, 0, none⟩) (g : Int) M.lv) from ⟨by rw [(HX1.out.on B5.out).cell]; rfl, HXJ.out.on B5.out⟩)) ?_
      have hHeld := (show w5.cell? ⟨b1, 0, none⟩ = some (.pointer (some ⟨j, 0, none⟩)) ∧ Blk w5 j 50 (jnC (some ⟨d, 0, none⟩) (g : Int) M.lv) from ⟨by rw [(HX1.out.on B5.out).cell]; rfl, HXJ.out.on B5.out⟩)
      clear hK K
      try simp only [Act.put, List.setIfInBounds_toArray, List.set_cons_zero, List.set_cons_succ]
      refine wpAnyU_ready (rs := [7]) (by kernel_rfl) (by simp) (AllReadyU.cons rfl (fun K hK => ?_) AllReadyU.nil)
      rw [if_pos (by rfl)]
      refine wp_app1 (u := .slice ya ny yc) tinB rfl rfl rfl (HRW.out.below B5.out) G5.out HVL.out (Nat.zero_le _) ?_
      intro g' cap w6 hrow hgr hat
      have hj6 : Blk w6 j 50 (jnC (some ⟨d, 0, none⟩) (g : Int) M.lv) := (HXJ.out.on B5.out).same (hgr.block j (HXJ.out.on B5.out).lt (fun e => by
        obtain ⟨cs, hc⟩ := (HRW.out.below B5.out).blk e.symm
        exact (HXJ.out.on B5.out).apart hc (by decide) rfl))
      have hv6 : w6.cell? ⟨b1, 0, none⟩ = some (.pointer (some ⟨j, 0, none⟩)) := by
        have hx5 := HX1.out.on B5.out
        have := hx5.same (w' := w6) (hgr.block _ hx5.lt (fun e => by
          obtain ⟨cs, hc⟩ := (HRW.out.below B5.out).blk e.symm
          exact hx5.apart hc (by decide) rfl))
        rw [this.cell]
        rfl
      have HFIN := hide (HM.out.push HW5.out.symm B5.out hBW (HV2.out.below B5.out) HIB.out HND.out hrow hgr hat rfl)
      have c6 : w6.cell? ⟨j, 2, none⟩ = some M.lv := by rw [hj6.cell]; rfl
      have f6 := hj6.free 2
      clear hrow hgr hat hHeld
      refine hK.out _ _ (fun _ => (And.intro hv6 hj6)) ?_
      have hHeld := (And.intro hv6 hj6)
      clear hK K
      try simp only [Act.put, List.setIfInBounds_toArray, List.set_cons_zero, List.set_cons_succ]
      clear hj6 hv6
      refine wpAnyU_ready (rs := [8]) (by kernel_rfl) (by simp) (AllReadyU.cons rfl (fun K hK => ?_) AllReadyU.nil)
      rw [if_pos (by rfl)]
      go_simp
      refine hK.out _ _ (fun _ => hHeld) ?_
      have hHeld := hHeld
      clear hK K
      try simp only [Act.put, List.setIfInBounds_toArray, List.set_cons_zero, List.set_cons_succ]
      refine wpAnyU_ready (rs := [9]) (by kernel_rfl) (by simp) (AllReadyU.cons rfl (fun K hK => ?_) AllReadyU.nil)
      rw [if_pos (by rfl)]
      go_simp
      refine hK.out _ _ (fun _ => hHeld) ?_
      have hHeld := hHeld
      clear hK K
      try simp only [Act.put, List.setIfInBounds_toArray, List.set_cons_zero, List.set_cons_succ]
      refine wpAnyU_ready (rs := [10]) (by kernel_rfl) (by simp) (AllReadyU.cons rfl (fun K hK => ?_) AllReadyU.nil)
      rw [if_pos (by rfl)]
      go_simp
      refine hK.out _ _ (fun h => absurd h (by decide)) ?_
      clear hK K
      refine wpAnyU_done (by kernel_rfl) ?_ _
      refine Only.normal ?_
      clear hHeld c6 f6
      gi_wp2
      refine ⟨HFIN.out.2.2.from _, HFIN.out.2.1, ?_⟩
      show Shrt (L.take (pre ++ [(nx, Value.slice ya ny yc, y)]).length) ∧ ∃ M, LI w _ B w.heap.size b2 b3 d j s rs D g (P (pre ++ [(nx, Value.slice ya ny yc, y)]).length : Int) ((L.take (pre ++ [(nx, Value.slice ya ny yc, y)]).length).map (·.2)) M
      rw [HP1.out, HDS.out, ← HNX.out]
      exact ⟨HSH.out, HFIN.out.1⟩
  case stop =>
    rintro Dk c pre W hD hSp ⟨rfl, hns, hX⟩ hK2
    have HNS := hide hns
    have HXX := hide hX
    have HDK := hide hK2
    clear hns hX hK2 hSp
    gi_wp2
    refine ⟨by simp, .inl ⟨_, _, rfl, run_takeDeferred HDK.out, ?_⟩⟩
    have hk := CK.put (.deferred none) HDK.out rfl
    have e2 : (W.putObj Dk (.deferred none)).cell? ⟨b2, 0, none⟩ = some (.int .i64 0) := by rw [(HXX.out.c2.ck hk).cell]; rfl
    have e3 : (W.putObj Dk (.deferred none)).cell? ⟨b3, 0, none⟩ = some (.int .i64 130) := by rw [(HXX.out.c3.ck hk).cell]; rfl
    refine ⟨.tuple #[.int .i64 0, .int .i64 130], by simp [results, Tryz.f34, go_sem, e2, e3], ?_, .inr ⟨HNS.out, rfl⟩⟩
    exact HXX.out.ch.thenGrown (grownBy_putObj' W Dk _) (fun g e => .inr (by cases e; omega))
  case done =>
    rintro Dk ys W hD hS ⟨hsh, M, hM⟩ hK2
    have hyl : ys.length = L.length := by rw [← hS, List.length_map]
    rw [hyl, List.take_length] at hsh hM
    have HM := hide hM
    have HSH := hide hsh
    have HDK := hide hK2
    rw [HZ.out] at HM
    have d2 : W.cell? ⟨b2, 0, none⟩ = some (.int .i64 (Z : Int)) := by rw [HM.out.c2.cell]; rfl
    have d3 : W.cell? ⟨b3, 0, none⟩ = some (.int .i64 0) := by rw [HM.out.c3.cell]; rfl
    have f2 := HM.out.c2.free 0
    have f3 := HM.out.c3.free 0
    have i2 := set_id HM.out.c2 (i := 0) rfl
    have i3 := set_id HM.out.c3 (i := 0) rfl
    clear hM hsh hK2 hS hyl F3 HSQ
    go_wp2
    refine ⟨by simp, .inl ⟨_, _, rfl, run_takeDeferred HDK.out, ?_⟩⟩
    have HE := HM.out.kept (grownBy_putObj' W Dk (.deferred none)) (fun r e => by
      obtain rfl : Dk = r := by cases e; rfl
      exact ⟨by omega, _, HDK.out, rfl⟩)
    have e2 : (W.putObj Dk (.deferred none)).cell? ⟨b2, 0, none⟩ = some (.int .i64 (Z : Int)) := by rw [HE.c2.cell]; rfl
    have e3 : (W.putObj Dk (.deferred none)).cell? ⟨b3, 0, none⟩ = some (.int .i64 0) := by rw [HE.c3.cell]; rfl
    refine ⟨.tuple #[.int .i64 (Z : Int), .int .i64 0], by simp [results, Tryz.f34, go_sem, e2, e3], HE.ch, .inl ⟨HSH.out, rfl, M, HE.pj, fun k hk => (HE.mo k hk).imp id (fun h => Nat.le_trans hwB h)⟩⟩

end Go.Proofs.YtninkkdbcgadpaaGreatDoor

/-
  What a loss of power leaves of a journal's files, without any program.
-/
namespace Go.Proofs.YtninkkdbcgadpaaGreatDoor
open Go.RowKit Go.Shelf
set_option linter.unusedVariables false
set_option linter.unusedSimpArgs false
set_option maxRecDepth 100000

/-- Just one file. -/
structure Solo (f : ByteArray → Option (List Int)) (g : Nat) (xs : List Int) : Prop where
  at' : f (jN g) = some xs
  no : ∀ m, m ≠ jN g → f m = none
theorem Solo.gens {f : ByteArray → Option (List Int)} {g : Nat} {xs : List Int} (h : Solo f g xs) (h1 : 1 ≤ g) (h2 : g ≤ 2147483647) : Gens f [g] :=
  Gens.mk1 h1 h2 h.at' (fun k _ _ hk => h.no _ (jN_ne hk))
theorem Solo.ext {f f' : ByteArray → Option (List Int)} {g : Nat} {xs : List Int} (h : Solo f g xs) (h' : Solo f' g xs) : f = f' := by
  funext m
  by_cases e : m = jN g
  · rw [e, h.at', h'.at']
  · rw [h.no m e, h'.no m e]
/-- What a loss of power leaves: the least generation's file has the beginning of frames; at most one file besides. -/
structure Crs (f : ByteArray → Option (List Int)) (g : Nat) (t : List Nat) (ps : List (List Int)) (c : Nat) : Prop where
  gens : Gens f (g :: t)
  at' : f (jN g) = some ((fmA ps).take c)
  le : c ≤ (fmA ps).length
  no : ∀ m, (∀ q ∈ g :: t, m ≠ jN q) → f m = none
  few : t.length ≤ 1
  ok : ∀ p ∈ ps, isB p ∧ p.length ≤ 65535
theorem Crs.files {f : ByteArray → Option (List Int)} {g : Nat} {t : List Nat} {ps : List (List Int)} {c : Nat} (h : Crs f g t ps c) : ∀ l, FL f l → l.length ≤ 1000000 := fun l hl => by
  have h1 := sub_len (l.map (·.1)) ((g :: t).map jN) (by
    rw [List.Nodup, List.pairwise_map]
    exact hl.srt.imp (fun {a b} hab => blt_ne hab)) (fun n hn => by
    obtain ⟨x, hx, rfl⟩ := List.mem_map.1 hn
    have hs := (hl.mem x.1 x.2).2 hx
    apply Classical.byContradiction
    intro hne
    rw [h.no x.1 (fun q hq e => hne (List.mem_map.2 ⟨q, hq, e.symm⟩))] at hs
    cases hs)
  have h2 := h.few
  simp at h1
  omega
theorem fxL_snd (ps : List (List Int)) (K : Nat) (hK : K ≤ ps.length) : (fxL ps K).map (·.2) = ps.take K := by
  apply List.ext_getElem?
  intro i
  simp only [fxL, List.map_map, List.getElem?_map, List.getElem?_take]
  by_cases hi : i < K
  · rw [List.getElem?_eq_getElem (by simpa using hi), if_pos hi]
    have : i < ps.length := by omega
    simp [List.getD, this]
  · rw [List.getElem?_eq_none (by simpa using hi), if_neg hi]
    rfl
theorem fmA_cut (ps : List (List Int)) (K c : Nat) (hK : qL ps K ≤ c) : ((fmA ps).take c).take (qL ps K) = fmA (ps.take K) := by
  rw [List.take_take, Nat.min_eq_left hK]
  have e : fmA ps = fmA (ps.take K) ++ fmA (ps.drop K) := by rw [← fmA_app, List.take_append_drop]
  unfold qL
  rw [e, List.take_left]
/-- What Open finds then. -/
theorem Crs.open {R : List Rw} {g : Nat} {t : List Nat} {ps : List (List Int)} {c : Nat} (h : Crs (play R) g t ps c) :
    ∃ K L P E, Frs ((fmA ps).take c) L P E ∧ Shrt L ∧ L.map (·.2) = ps.take K ∧ K ≤ ps.length ∧ qL ps K ≤ c ∧ (K = ps.length ∨ c < qL ps (K + 1)) ∧ P L.length = qL ps K ∧ Solo (play (opS R g t (P L.length))) g (fmA (ps.take K)) := by
  obtain ⟨K, E, h1, h2, h3, h4, _⟩ := frs_cut ps c h.le (fun j hj => by
    have := (h.ok (ps.getD j []) (by
      simp only [List.getD, List.getElem?_eq_getElem hj, Option.getD_some]
      exact List.getElem_mem hj)).2
    omega)
  have hl : (fxL ps K).length = K := fxL_length ps K
  have hn : qL ps K ≤ ((fmA ps).take c).length := by rw [List.length_take]; have := h.le; omega
  obtain ⟨_, _, _, p4, p5⟩ := open_pure h.gens h.at' hn
  refine ⟨K, fxL ps K, qL ps, E, h4, fun y hy => ?_, fxL_snd ps K h1, h1, h2, h3, by rw [hl], ?_, ?_⟩
  · have h6 : y.2 ∈ (fxL ps K).map (·.2) := List.mem_map.2 ⟨y, hy, rfl⟩
    rw [fxL_snd ps K h1] at h6
    exact (h.ok y.2 (List.mem_of_mem_take h6)).2
  · rw [hl, p4, fmA_cut ps K c h2]
  · intro m hm
    rw [hl]
    by_cases hq : ∀ q ∈ g :: t, m ≠ jN q
    · rw [p5 m hq, h.no m hq]
    · -- a file of a greater generation: removed
      have hG := (open_pure h.gens h.at' hn).2.2.1
      apply Classical.byContradiction
      intro hne
      obtain ⟨y, hy⟩ := Option.ne_none_iff_exists'.1 hne
      apply hq
      intro q hq' e
      have hgq := (h.gens.mem q).1 hq'
      have := (hG.mem q).2 ⟨hgq.1, hgq.2.1, by rw [← e, hy]; rfl⟩
      have : q = g := by simpa using this
      exact hm (by rw [e, this])
/-- A whole journal is one that a loss of power has left. -/
theorem Solo.crs {f : ByteArray → Option (List Int)} {g : Nat} {ps : List (List Int)} (h : Solo f g (fmA ps)) (h1 : 1 ≤ g) (h2 : g ≤ 2147483647) (hok : ∀ p ∈ ps, isB p ∧ p.length ≤ 65535) : Crs f g [] ps (fmA ps).length :=
  ⟨h.gens h1 h2, by rw [List.take_length]; exact h.at', Nat.le_refl _, fun m hm => h.no m (hm g (by simp)), by simp, hok⟩
theorem qL_mono2 (ps : List (List Int)) {a b : Nat} (h : a ≤ b) (hb : b ≤ ps.length) : qL ps a ≤ qL ps b := qL_mono ps a b h hb
/-- Where all is whole, all is found. -/
theorem full_K {ps : List (List Int)} {K : Nat} (hK : K ≤ ps.length) (h : K = ps.length ∨ (fmA ps).length < qL ps (K + 1)) : K = ps.length := by
  rcases h with h | h
  · exact h
  · apply Classical.byContradiction
    intro hne
    have h1 := qL_mono2 ps (a := K + 1) (b := ps.length) (by omega) (Nat.le_refl _)
    rw [← fmA_all] at h1
    omega
/-- Open of a whole journal writes nothing. -/
theorem opS_same {R : List Rw} {g : Nat} {xs : List Int} (h : Solo (play R) g xs) : opS R g [] xs.length = R := by
  have l0 : fl (play R) (jN g) = xs := by simp [fl, h.at']
  unfold opS cuS
  rw [if_neg]
  · rfl
  · rintro ⟨_, h2⟩
    have e : rmAll R [] = R := rfl
    rw [e, l0] at h2
    omega
theorem Solo.new : Solo (play (crS [] (jN 1))) 1 (fmA []) := by
  have hc : crE [] (jN 1) = 0 := crE_none (jN_nm (by omega)) rfl
  have hp := play_cr hc
  refine ⟨by rw [hp, upd_same]; rfl, fun m hm => by rw [hp, upd_ne _ _ hm]; rfl⟩
theorem Solo.fE {rs : List Rw} {g : Nat} {xs : List Int} (h : Solo (play rs) g xs) (h2 : g ≤ 2147483647) : fE rs (jN g) = 0 := fE_some (jN_nm h2) h.at'
theorem Solo.add {s : Nat} (hs : 1 ≤ s) {rs : List Rw} {g : Nat} {ls : List (List Int)} {xs : List Int} (h : Solo (play rs) g (fmA ls)) (h2 : g ≤ 2147483647) (hx : isB xs) : Solo (play (apS s rs (jN g) (fmB xs))) g (fmA (ls ++ [xs])) := by
  have hp := play_ap hs (fmB_isB xs hx) (h.fE h2)
  have l0 : fl (play rs) (jN g) = fmA ls := by simp [fl, h.at']
  have e : fmA (ls ++ [xs]) = fmA ls ++ fmB xs := by simp [fmA]
  rw [l0] at hp
  exact ⟨by rw [hp, upd_same, e], fun m hm => by rw [hp, upd_ne _ _ hm, h.no m hm]⟩
theorem Solo.clear {s : Nat} (hs : 1 ≤ s) {rs : List Rw} {g : Nat} {xs b : List Int} (h : Solo (play rs) g xs) (h1 : 1 ≤ g) (h2 : g < 2147483647) (hb : isB b) : Solo (play (clS s rs g b)) (g + 1) b := by
  obtain ⟨_, _, _, _, _, p6, _⟩ := clear_pure hs hb (h.gens h1 (by omega)) h2
  have hne : jN (g + 1) ≠ jN g := jN_ne (by omega)
  refine ⟨by rw [p6, upd_ne _ _ hne, upd_same], fun m hm => ?_⟩
  rw [p6]
  by_cases e : m = jN g
  · rw [e, upd_same]
  · rw [upd_ne _ _ e, upd_ne _ _ hm, h.no m e]
/-- Any beginning of an Append's raw writes. -/
theorem ap_cut {s : Nat} (hs : 1 ≤ s) {rs : List Rw} {n : ByteArray} {b : List Int} (hb : isB b) (h : fE rs n = 0) {k : Nat} (h1 : rs.length ≤ k) (h2 : k ≤ (apS s rs n b).length) :
    ∃ c, c ≤ b.length ∧ play ((apS s rs n b).take k) = upd (play rs) n (some (fl (play rs) n ++ b.take c)) ∧ (k = (apS s rs n b).length → c = b.length) := by
  by_cases hb0 : b = []
  · subst hb0
    have e : apS s rs n [] = rs := by simp [apS]
    rw [e] at h2 ⊢
    have hp := play_ap hs (b := []) hb h
    rw [e] at hp
    refine ⟨0, Nat.le_refl _, ?_, fun _ => rfl⟩
    rw [List.take_of_length_le (by omega)]
    simpa using hp
  · have hn : nmB n = true := by
      unfold fE at h
      split at h
      · assumption
      · cases h
    obtain ⟨xs, hxs⟩ : ∃ xs, play rs n = some xs := by
      unfold fE at h
      rw [if_pos hn] at h
      split at h
      · rename_i hh
        exact Option.isSome_iff_exists.1 hh
      · cases h
    obtain ⟨e, he⟩ : ∃ e : En, e = ⟨rAp n b, rs.length, (fl (play rs) n).length⟩ := ⟨_, rfl⟩
    have ea : apS s rs n b = rs ++ expd s e := by
      rw [he]
      simp only [apS, h]
      rw [if_pos ⟨trivial, hb0⟩]
    have hleg : Leg (play rs) e.r := by rw [he]; exact .inr (.inl ⟨n, b, xs, rfl, hn, hxs, hb0, hb⟩)
    rw [ea] at h2 ⊢
    rw [List.length_append, expd_length] at h2
    have hfl : fl (play rs) n = xs := by simp [fl, hxs]
    by_cases hk : k = rs.length
    · refine ⟨0, Nat.zero_le _, ?_, fun e2 => ?_⟩
      · rw [hk, List.take_left, List.take_zero, List.append_nil, hfl, ← hxs]
        exact (upd_self _ _).symm
      · have := cnt_ge hs hleg
        rw [List.length_append, expd_length] at e2
        omega
    · obtain ⟨m, hm⟩ : ∃ m, k = rs.length + m := ⟨k - rs.length, by omega⟩
      have hm1 : 1 ≤ m := by omega
      obtain ⟨q1, q2⟩ := expd_cut hs hleg hm1 e.first
      have et : (rs ++ expd s e).take k = rs ++ (expd s e).take m := by
        rw [hm, List.take_append]
        simp
        rw [List.take_of_length_le (by omega)]
      have hhad : e.had = (fl (play rs) (pieces s e 0 m).n).length := by rw [he]; rfl
      have hd := (expd_does hs (f := play rs) (e := ⟨pieces s e 0 m, e.first, e.had⟩) q2 hhad).1
      rw [q1] at hd
      have hpb : (pieces s e 0 m).b = b.take (edge s e m) := by
        show (e.r.b.drop (edge s e 0)).take (edge s e m - edge s e 0) = _
        have : edge s e 0 = 0 := edge_zero _ _ _
        rw [this, he]
        rfl
      have hdo : doR (play rs) (pieces s e 0 m) = upd (play rs) n (some (fl (play rs) n ++ b.take (edge s e m))) := by
        rw [← hpb, he]
        rfl
      refine ⟨edge s e m, ?_, ?_, fun e2 => ?_⟩
      · show edgeN s e.had e.r.b.length m ≤ b.length
        unfold edgeN
        have : e.r.b = b := by rw [he]; rfl
        rw [this]
        omega
      · rw [et, play_app, hd, hdo]
      · rw [List.length_append, expd_length] at e2
        have hc : cnt s e = m := by omega
        have : edge s e m = e.r.b.length := edge_cnt hs (by rw [← hc]; rw [he]; exact Nat.le_refl _)
        rw [this, he]
        rfl

end Go.Proofs.YtninkkdbcgadpaaGreatDoor

/-
  The walks of refusal, replace and Clear.
-/
namespace Go.Proofs.YtninkkdbcgadpaaGreatDoor
open Go.RowKit Go.Shelf
set_option linter.unusedVariables false
set_option linter.unusedSimpArgs false
set_option maxRecDepth 100000

set_option maxHeartbeats 1000000 in
theorem refusal_ok (d j s : Nat) (rs : List Rw) (D : Dm) (g : Nat) (ls : List (List Int)) (M : Jm) (w : World) (h : PJ w d j s rs D g ls M) (n n' : ByteArray) (h1 : fE rs n' = 121) (h2 : fE rs n = 0) :
    Calls Tryz.prog 78 #[.pointer (some ⟨j, 0, none⟩), .string n, .string n'] w fun e w' => e = .returned (.int .i64 0) ∧ w' = w := by
  have c0 := h.jn.c0
  have S1 := hide (size_any d s rs D w h.dk n')
  have S2 := hide (size_any d s rs D w h.dk n)
  rw [h1] at S1
  rw [h2] at S2
  simp only [if_true] at S2
  have e1 : (if (121 : Int) = 0 then ((fl (play rs) n').length : Int) else 0) = 0 := if_neg (by decide)
  rw [e1] at S1
  obtain ⟨q, HQ⟩ : ∃ q, Hid (((fl (play rs) n).length : Int) = q) := ⟨_, hide rfl⟩
  rw [HQ.out] at S2
  clear h h1 h2 e1 HQ
  go_enter Tryz.func78, Tryz.ntmps78
  go_wp2_with fail
  refine S1.out.mono ?_
  rintro e w ⟨rfl, rfl⟩
  go_wp2_with fail
  refine S2.out.mono ?_
  rintro e w ⟨rfl, rfl⟩
  go_wp2
  go_ret
  exact ⟨rfl, rfl⟩
/-- What replace leaves: the journal's memory is as it was, the disk has what Clear writes. -/
structure RpR (w w' : World) (d j s : Nat) (D : Dm) (M : Jm) (rs' : List Rw) (g : Nat) (ls : List (List Int)) (D' : Dm) : Prop where
  pj : PJ w' d j s rs' D' g ls M
  ch : Chs (D.own d) w w'
  ow : ∀ k, D'.own d k → D.own d k ∨ w.heap.size ≤ k
  ro : ∀ k, D'.ro k → D.ro k ∨ w.heap.size ≤ k
theorem RpR.step {w w1 w2 : World} {d j s : Nat} {D D1 : Dm} {M : Jm} {rs1 rs2 : List Rw} {g : Nat} {ls : List (List Int)} (h : RpR w w1 d j s D M rs1 g ls D1) (ho : OpR w1 w2 d s D1 rs2) : ∃ D2, RpR w w2 d j s D M rs2 g ls D2 := by
  obtain ⟨D2, h1, h2, h3, h4⟩ := ho
  have hs := h.ch.size
  obtain ⟨D3, h5, h6, h7⟩ := h.pj.op ⟨D2, h1, h2, h3, h4⟩
  refine ⟨D2, ⟨⟨h1, h.pj.jn.same (fun k hk => h2.block k (h.pj.jn.lt hk) (hk.elim h.pj.jown (h.pj.ap k))), fun k hk hd => ?_⟩, h.ch.after h2 h.ow, fun k hk => ?_, fun k hk => ?_⟩⟩
  · rcases h3 k hd with h8 | h8
    · exact h.pj.ap k hk h8
    · have := h.pj.jn.lt (.inr hk); omega
  · rcases h3 k hk with h8 | h8
    · exact h.ow k h8
    · exact .inr (by omega)
  · rcases h4 k hk with h8 | h8
    · exact h.ro k h8
    · exact .inr (by omega)
theorem RpR.refl {w : World} {d j s : Nat} {D : Dm} {M : Jm} {rs : List Rw} {g : Nat} {ls : List (List Int)} (h : PJ w d j s rs D g ls M) : RpR w w d j s D M rs g ls D := ⟨h, Chs.refl _ _, fun k hk => .inl hk, fun k hk => .inl hk⟩
theorem RpR.on {w w1 w2 : World} {d j s : Nat} {D D1 : Dm} {M : Jm} {rs : List Rw} {g : Nat} {ls : List (List Int)} (h : RpR w w1 d j s D M rs g ls D1) (hb : Below w1.heap.size w1 w2) : RpR w w2 d j s D M rs g ls D1 := ⟨h.pj.below hb, h.ch.thenBelow hb, h.ow, h.ro⟩
set_option maxHeartbeats 2000000 in
theorem replace_ok (d j s : Nat) (rs : List Rw) (D : Dm) (g : Nat) (ls : List (List Int)) (M : Jm) (w : World) (h : PJ w d j s rs D g ls M) (ht : TT w) (hG : Gens (play rs) [g]) (hg : g < 2147483647) (a : Option Addr) (n c : Nat) (b : List Int) (hx : Sl w a n c b) (hoff : 0 < n → ∀ x, a = some x → ¬ D.own d x.block) (hwt : wt rs + 2 * n + 4 ≤ 1099511000000) :
    Calls Tryz.prog 49 #[.pointer (some ⟨j, 0, none⟩), .slice a n c] w fun e w' => e = .returned (.int .i64 0) ∧ ∃ D', RpR w w' d j s D M (clS s rs g b) g ls D' := by
  obtain ⟨p1, p2, p3, p4, p5, p6, p7⟩ := clear_pure h.dk.s1 hx.hbyte hG hg
  have HP := hide (And.intro p1 (And.intro p2 (And.intro p3 (And.intro p4 p5))))
  have HX := hide hx
  have HT := hide ht
  have HH := hide h
  have HW := hide hwt
  have HOFF := hide hoff
  obtain ⟨g1, HG1⟩ : ∃ g1, Hid (g + 1 = g1) := ⟨_, hide rfl⟩
  have hg1 : g1 ≤ 2147483647 := by have := HG1.out; omega
  have hgw : wrap64 ((g : Int) + 1) = (g1 : Int) := by have := HG1.out; unfold wrap64; omega
  have hgi : IntKind.i64.wrap ((g : Int) + 1) = (g1 : Int) := by have := HG1.out; rw [IntKind.wrap_i64]; omega
  obtain ⟨A, HA⟩ : ∃ A, Hid (jN g = A) := ⟨_, hide rfl⟩
  obtain ⟨A', HA'⟩ : ∃ A', Hid (jN (g + 1) = A') := ⟨_, hide rfl⟩
  have HC : Hid (clS s rs g b = rmS (apS s (crS rs A') A' b) A) := hide (by unfold clS; rw [HA.out, HA'.out])
  rw [HC.out]
  rw [HA.out, HA'.out] at HP
  clear h ht hx hwt hoff hG p1 p2 p3 p4 p5 p6 p7 HC
  go_enter Tryz.func49, Tryz.ntmps49
  go_wp2_with fail
  refine wp_region_noPanic ?_
  have HD := hide (HH.out.below (Below.refl w.heap.size w).drew)
  have TD := hide (HT.out.on (Below.refl w.heap.size w).drew)
  have BD := hide ((Below.refl w.heap.size w).drew)
  refine wp_region_held_drew (S := fun v : World => Blk v j 50 (jnC (some ⟨d, 0, none⟩) (g : Int) M.lv)) (by kernel_rfl) HD.out.jn.blk (fun hHeld => ?_)
  refine takeH 0 10 (.pointer (some ⟨j, 0, none⟩)) hHeld rfl rfl (by kernel_rfl) (by kernel_rfl) (by kernel_rfl) (fun _ _ _ h => h) (Or.inl ⟨by rfl, fun w _ => by go_simp⟩) ?_
  simp only [Act.put, List.setIfInBounds_toArray, List.set_cons_zero, List.set_cons_succ]
  refine takeH 1 11 (.pointer (some ⟨j, 0, none⟩)) hHeld rfl rfl (by kernel_rfl) (by kernel_rfl) (by kernel_rfl) (fun _ _ _ h => h) (Or.inl ⟨by rfl, fun w _ => by go_simp⟩) ?_
  simp only [Act.put, List.setIfInBounds_toArray, List.set_cons_zero, List.set_cons_succ]
  refine takeH 2 12 (.pointer (some ⟨j, 1, none⟩)) hHeld rfl rfl (by kernel_rfl) (by kernel_rfl) (by kernel_rfl) (fun _ _ _ h => h) (Or.inl ⟨by rfl, fun w _ => by go_simp⟩) ?_
  simp only [Act.put, List.setIfInBounds_toArray, List.set_cons_zero, List.set_cons_succ]
  refine takeH 3 13 (.int .i64 (g : Int)) hHeld rfl rfl (by kernel_rfl) (by kernel_rfl) (by kernel_rfl) (fun _ _ _ h => h) (Or.inl ⟨by rfl, fun w hw => by have hw' : w.cell? ⟨j, 1, none⟩ = some (.int .i64 (g : Int)) := (fun hw => by rw [Blk.cell hw]; rfl) hw; go_simp⟩) ?_
  simp only [Act.put, List.setIfInBounds_toArray, List.set_cons_zero, List.set_cons_succ]
  refine takeH 5 15 (.pointer (some ⟨j, 0, none⟩)) hHeld rfl rfl (by kernel_rfl) (by kernel_rfl) (by kernel_rfl) (fun _ _ _ h => h) (Or.inl ⟨by rfl, fun w _ => by go_simp⟩) ?_
  simp only [Act.put, List.setIfInBounds_toArray, List.set_cons_zero, List.set_cons_succ]
  refine takeH 6 16 (.pointer (some ⟨j, 0, none⟩)) hHeld rfl rfl (by kernel_rfl) (by kernel_rfl) (by kernel_rfl) (fun _ _ _ h => h) (Or.inl ⟨by rfl, fun w _ => by go_simp⟩) ?_
  simp only [Act.put, List.setIfInBounds_toArray, List.set_cons_zero, List.set_cons_succ]
  refine takeH 7 17 (.pointer (some ⟨j, 1, none⟩)) hHeld rfl rfl (by kernel_rfl) (by kernel_rfl) (by kernel_rfl) (fun _ _ _ h => h) (Or.inl ⟨by rfl, fun w _ => by go_simp⟩) ?_
  simp only [Act.put, List.setIfInBounds_toArray, List.set_cons_zero, List.set_cons_succ]
  refine takeH 8 18 (.int .i64 (g : Int)) hHeld rfl rfl (by kernel_rfl) (by kernel_rfl) (by kernel_rfl) (fun _ _ _ h => h) (Or.inl ⟨by rfl, fun w hw => by have hw' : w.cell? ⟨j, 1, none⟩ = some (.int .i64 (g : Int)) := (fun hw => by rw [Blk.cell hw]; rfl) hw; go_simp⟩) ?_
  simp only [Act.put, List.setIfInBounds_toArray, List.set_cons_zero, List.set_cons_succ]
  refine takeH 9 19 (.int .i64 (g1 : Int)) hHeld rfl rfl (by kernel_rfl) (by kernel_rfl) (by kernel_rfl) (fun _ _ _ h => h) (Or.inl ⟨by rfl, fun w _ => by go_simp⟩) ?_
  simp only [Act.put, List.setIfInBounds_toArray, List.set_cons_zero, List.set_cons_succ]
  refine wpAnyH_ready (rs := [4]) (by kernel_rfl) (by simp) (AllReadyH.cons rfl (fun K hK => ?_) AllReadyH.nil)
  rw [if_pos (by rfl)]
  go_simp
  refine (name_any g _ (by omega) TD.out.pt).mono ?_
  rw [HA.out]
  rintro e w2 ⟨rfl, hb2⟩
  have B2 := hide (on_below BD.out hb2)
  have H2 := hide (HD.out.below hb2)
  have T2 := hide (TD.out.on hb2)
  clear hb2 HD TD
  refine hK.out _ _ H2.out.jn.blk (fun hHeld => ?_)
  clear hK K
  try simp only [Act.put, List.setIfInBounds_toArray, List.set_cons_zero, List.set_cons_succ]
  refine wpAnyH_ready (rs := [10]) (by kernel_rfl) (by simp) (AllReadyH.cons rfl (fun K hK => ?_) AllReadyH.nil)
  rw [if_pos (by rfl)]
  go_simp
  refine (name_any g1 _ hg1 T2.out.pt).mono ?_
  rw [← HG1.out, HA'.out]
  rintro e w3 ⟨rfl, hb3⟩
  have B3 := hide (on_below B2.out hb3)
  have H3 := hide (H2.out.below hb3)
  clear hb3 H2 T2 B2
  refine hK.out _ _ H3.out.jn.blk (fun hHeld => ?_)
  clear hK K
  try simp only [Act.put, List.setIfInBounds_toArray, List.set_cons_zero, List.set_cons_succ]
  refine takeH 11 5 (.string A) hHeld rfl rfl (by kernel_rfl) (by kernel_rfl) (by kernel_rfl) (fun _ _ _ h => h) (Or.inl ⟨by rfl, fun w _ => by go_simp⟩) ?_
  simp only [Act.put, List.setIfInBounds_toArray, List.set_cons_zero, List.set_cons_succ]
  refine takeH 12 6 (.string A') hHeld rfl rfl (by kernel_rfl) (by kernel_rfl) (by kernel_rfl) (fun _ _ _ h => h) (Or.inl ⟨by rfl, fun w _ => by go_simp⟩) ?_
  simp only [Act.put, List.setIfInBounds_toArray, List.set_cons_zero, List.set_cons_succ]
  refine wpAnyH_done (by kernel_rfl) ?_ _
  refine NoPanic.normal ?_
  clear hHeld
  have R3 := hide ((RpR.refl HH.out).on B3.out)
  have X3 := hide (HX.out.below B3.out)
  go_wp2_with fail
  refine (refusal_ok d j s rs D g ls M _ H3.out A A' HP.out.2.1 HP.out.2.2.1).mono ?_
  rintro e w3 ⟨rfl, rfl⟩
  have c0 := H3.out.jn.c0
  go_wp2_with fail
  refine (create_any d s rs D _ R3.out.pj.dk A' (by have := HW.out; omega)).mono ?_
  rw [HP.out.1]
  rintro e w4 ⟨rfl, hop⟩
  obtain ⟨D4, r4⟩ := R3.out.step hop
  have R4 := hide r4
  have X4 : Hid (Sl w4 a n c b) := hide ((HX.out).chs r4.ch HOFF.out)
  clear hop r4 c0 H3 R3 X3
  have c0 := R4.out.pj.jn.c0
  have HN := hide HX.out.hlen
  go_wp2_with fail
  refine (append_any d s (crS rs A') D4 _ R4.out.pj.dk A' a n c b X4.out (by
    have h1 := HW.out
    have h2 : wt (crS rs A') ≤ wt rs + 1 := by
      unfold crS
      split
      · rw [wt_app]; simp [wt, rCr]
      · omega
    have h3 := HN.out
    omega)).mono ?_
  rw [HP.out.2.2.2.1]
  rintro e w5 ⟨rfl, hop⟩
  obtain ⟨D5, r5⟩ := R4.out.step hop
  have R5 := hide r5
  clear hop r5 c0 R4 X4
  have c0 := R5.out.pj.jn.c0
  go_wp2_with fail
  refine (remove_any d s (apS s (crS rs A') A' b) D5 _ R5.out.pj.dk A (by
    have h1 := HW.out
    have h2 : wt (crS rs A') ≤ wt rs + 1 := by
      unfold crS
      split
      · rw [wt_app]; simp [wt, rCr]
      · omega
    have h3 := HN.out
    have h4 : wt (apS s (crS rs A') A' b) ≤ wt (crS rs A') + 2 * b.length + 1 := by
      unfold apS
      split
      · rw [wt_app]
        have := expd_wt R5.out.pj.dk.s1 ⟨rAp A' b, (crS rs A').length, (fl (play (crS rs A')) A').length⟩
        have e : (rAp A' b).b = b := rfl
        simp only [e] at this
        omega
      · omega
    omega)).mono ?_
  rw [HP.out.2.2.2.2]
  rintro e w6 ⟨rfl, hop⟩
  obtain ⟨D6, r6⟩ := R5.out.step hop
  have R6 := hide r6
  clear hop r6 c0 R5
  go_wp2
  go_ret
  exact ⟨rfl, D6, R6.out⟩

end Go.Proofs.YtninkkdbcgadpaaGreatDoor
