/-
  A digest is found: the closure of Find, sort.Search.
-/
import Derived.Test.YtabpfbankinojaaDgv
import Derived.Test.YtabpfbankinojaaDgd
namespace Go.Proofs.Ytabpfbankinojaa
open Go.RowKit
set_option linter.unusedVariables false
set_option linter.unusedSimpArgs false
set_option maxRecDepth 100000

theorem half_le {i j : Nat} (h : i < j) : i ≤ (i + j) / 2 ∧ (i + j) / 2 < j := by omega
set_option maxHeartbeats 1000000 in
theorem search_any (n fid : Nat) (caps : List Value) (p : Nat → Bool) (w : World) (hn : n ≤ 140737488355328) (hmet : ∀ (x : Value) (v : World), (callFunc fid (x :: caps).toArray).run Try.prog v = .ok (.enter fid (x :: caps).toArray) v)
    (hcall : ∀ i, i < n → ∀ W : World, Below w.heap.size w W → Calls Try.prog fid (.int .i64 (i : Int) :: caps).toArray W fun r W' => r = .returned (.bool (p i)) ∧ Below W.heap.size W W') (mono : ∀ i j, i ≤ j → j < n → p i = true → p j = true) :
    Calls Try.prog 25 #[.int .i64 (n : Int), .func (.func fid) #[] caps.toArray] w fun r w' => ∃ k, k ≤ n ∧ r = .returned (.int .i64 (k : Int)) ∧ (∀ i, i < k → p i = false) ∧ (∀ i, k ≤ i → i < n → p i = true) ∧ Below w.heap.size w w' := by
  have HC := hide hcall
  have HM := hide mono
  have HE := hide hmet
  clear hcall mono hmet
  go_enter Try.func25, Try.ntmps25
  go_wp2
  go_loopw [5, 6] (fun x y wr => ∃ i j : Nat, i ≤ j ∧ j ≤ n ∧ x = .int .i64 i ∧ y = .int .i64 j ∧ Hid (∀ k, k < i → p k = false) ∧ Hid (∀ k, j ≤ k → k < n → p k = true) ∧ Below w.heap.size w wr) (fun x y _ => (intOf y).toNat - (intOf x).toNat)
  case atStart => exact ⟨0, n, by omega, by omega, rfl, rfl, hide fun k h => absurd h (Nat.not_lt_zero k), hide fun k h1 h2 => absurd h1 (by omega), Below.refl _ _⟩
  case round =>
    obtain ⟨i, j, hij, hjn, rfl, rfl, H1, H2, hb⟩ := hrel
    have HB := hide hb
    clear hb
    by_cases hlt : i < j
    · have hlt' : (i : Int) < (j : Int) := by omega
      obtain ⟨q, hq⟩ : ∃ q, (i + j) / 2 = q := ⟨_, rfl⟩
      have hq1 : ((i : Int) + (j : Int)) / 2 = (q : Int) := by omega
      have hiq : i ≤ q := by omega
      have hqj : q < j := by omega
      have hmt := HE.out (.int .i64 (q : Int))
      have HCQ := hide (HC.out q (by omega) wr HB.out)
      clear hq
      cases hp : p q with
      | false =>
        rw [hp] at HCQ
        have HP := hide hp
        clear hp
        go_wp2_with fail
        refine HCQ.out.mono ?_
        rintro r w2 ⟨rfl, hb2⟩
        have HB2 := hide (on_below HB.out hb2)
        clear hb2 hmt HCQ
        go_wp2
        exact ⟨⟨q + 1, j, by omega, hjn, by go_num, rfl, hide (fun k hk => by
          cases hpk : p k with
          | false => rfl
          | true => exact absurd (HM.out k q (by omega) (by omega) hpk) (by rw [HP.out]; exact Bool.false_ne_true)), H2, HB2.out⟩, by simp [intOf]; omega⟩
      | true =>
        rw [hp] at HCQ
        have HP := hide hp
        clear hp
        go_wp2_with fail
        refine HCQ.out.mono ?_
        rintro r w2 ⟨rfl, hb2⟩
        have HB2 := hide (on_below HB.out hb2)
        clear hb2 hmt HCQ
        go_wp2
        exact ⟨⟨i, q, hiq, by omega, rfl, rfl, H1, hide (fun k h1 h2 => HM.out q k h1 h2 HP.out), HB2.out⟩, by simp [intOf]; omega⟩
    · obtain rfl : i = j := by omega
      have hlt' : ¬ (i : Int) < (i : Int) := by omega
      go_wp2
      go_ret
      exact ⟨i, hjn, rfl, H1.out, H2.out, HB.out⟩

end Go.Proofs.Ytabpfbankinojaa
