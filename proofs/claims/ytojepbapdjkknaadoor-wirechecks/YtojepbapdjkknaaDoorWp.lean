/-
  How many digests a proof has: wire.digestsOf, the document's count; whether it may be: Valid of both.
-/
import Derived.Test.YtojepbapdjkknaaDoorWg
namespace Go.Proofs.YtojepbapdjkknaaDoor
open Go.RowKit
set_option linter.unusedVariables false
set_option linter.unusedSimpArgs false

set_option maxRecDepth 100000 in
theorem dgs_any (k i n : Int) (v : Value) (w : World) :
    Calls Tryd.prog 38 #[.agg (pfC k i n v).toArray] w fun r w' => r = .returned (.tuple #[.int .i64 (((pcnt k i n).getD 0 : Nat) : Int), .bool (pcnt k i n).isSome]) ∧ Below w.heap.size w w' := by
  by_cases h1 : k = 1
  · subst h1
    obtain ⟨m, E, hme, hp, _⟩ := lengthV i n w
    rcases hme with ⟨rfl, hm⟩ | ⟨hE, rfl, hm⟩
    · rw [hm]
      have HP := hide hp
      clear hp hm
      go_enter Tryd.func38, Tryd.ntmps38
      go_wp2_with (first | (refine step_box (cs := pfC 1 i n v) rfl rfl ?_; intro w1 g1 hg1 hle1 hb1; obtain ⟨c0, c1, c2', c3⟩ := pf_at hg1; clear hg1) | fail)
      refine (HP.out _).mono ?_
      rintro r w3 ⟨rfl, hb3⟩
      skip
      go_wp2
      go_ret2
      exact ⟨rfl, on_below hb1 hb3⟩
    · rw [hm]
      have hE' : (E == 0) = false := by simpa using hE
      have HP := hide hp
      clear hp hm
      go_enter Tryd.func38, Tryd.ntmps38
      go_wp2_with (first | (refine step_box (cs := pfC 1 i n v) rfl rfl ?_; intro w1 g1 hg1 hle1 hb1; obtain ⟨c0, c1, c2', c3⟩ := pf_at hg1; clear hg1) | fail)
      refine (HP.out _).mono ?_
      rintro r w3 ⟨rfl, hb3⟩
      skip
      go_wp2
      go_ret2
      exact ⟨rfl, on_below hb1 hb3⟩
  · by_cases h2 : k = 2
    · subst h2
      obtain ⟨m, E, hme, hp, _⟩ := stepsV i n w
      rcases hme with ⟨rfl, hm⟩ | ⟨hE, rfl, hm⟩
      · rw [hm]
        have HP := hide hp
        clear hp hm
        go_enter Tryd.func38, Tryd.ntmps38
        go_wp2_with (first | (refine step_box (cs := pfC 2 i n v) rfl rfl ?_; intro w1 g1 hg1 hle1 hb1; obtain ⟨c0, c1, c2', c3⟩ := pf_at hg1; clear hg1) | fail)
        refine (HP.out _).mono ?_
        rintro r w3 ⟨rfl, hb3⟩
        skip
        go_wp2
        go_ret2
        exact ⟨rfl, on_below hb1 hb3⟩
      · rw [hm]
        have hE' : (E == 0) = false := by simpa using hE
        have HP := hide hp
        clear hp hm
        go_enter Tryd.func38, Tryd.ntmps38
        go_wp2_with (first | (refine step_box (cs := pfC 2 i n v) rfl rfl ?_; intro w1 g1 hg1 hle1 hb1; obtain ⟨c0, c1, c2', c3⟩ := pf_at hg1; clear hg1) | fail)
        refine (HP.out _).mono ?_
        rintro r w3 ⟨rfl, hb3⟩
        skip
        go_wp2
        go_ret2
        exact ⟨rfl, on_below hb1 hb3⟩
    · skip
      have hn : pcnt k i n = none := by unfold pcnt; rw [if_neg h1, if_neg h2]
      rw [hn]
      have k1 : (k == 1) = false := by simpa using h1
      have k2 : (k == 2) = false := by simpa using h2
      clear hn
      go_enter Tryd.func38, Tryd.ntmps38
      go_wp2_with (first | (refine step_box (cs := pfC k i n v) rfl rfl ?_; intro w1 g1 hg1 hle1 hb1; obtain ⟨c0, c1, c2', c3⟩ := pf_at hg1; clear hg1) | fail)
      go_ret2
      exact ⟨rfl, hb1⟩
set_option maxRecDepth 100000 in
theorem count_any (k i n : Int) (v : Value) (w : World) :
    Calls Tryd.prog 39 #[.agg (pfC k i n v).toArray] w fun r w' => r = .returned (.tuple #[.int .i64 (((pcnt k i n).getD 0 : Nat) : Int), .bool (pcnt k i n).isSome]) ∧ Below w.heap.size w w' := by
  by_cases h1 : k = 1
  · subst h1
    obtain ⟨m, E, hme, _, hp⟩ := lengthV i n w
    rcases hme with ⟨rfl, hm⟩ | ⟨hE, rfl, hm⟩
    · rw [hm]
      have HP := hide hp
      clear hp hm
      go_enter Tryd.func39, Tryd.ntmps39
      go_wp2_with (first | (refine step_box (cs := pfC 1 i n v) rfl rfl ?_; intro w1 g1 hg1 hle1 hb1; obtain ⟨c0, c1, c2', c3⟩ := pf_at hg1; clear hg1) | fail)
      refine (HP.out _).mono ?_
      rintro r w3 ⟨rfl, hb3⟩
      subst hb3
      go_wp2
      go_ret2
      exact ⟨rfl, hb1⟩
    · rw [hm]
      have hE' : (E == 0) = false := by simpa using hE
      have HP := hide hp
      clear hp hm
      go_enter Tryd.func39, Tryd.ntmps39
      go_wp2_with (first | (refine step_box (cs := pfC 1 i n v) rfl rfl ?_; intro w1 g1 hg1 hle1 hb1; obtain ⟨c0, c1, c2', c3⟩ := pf_at hg1; clear hg1) | fail)
      refine (HP.out _).mono ?_
      rintro r w3 ⟨rfl, hb3⟩
      subst hb3
      go_wp2
      go_ret2
      exact ⟨rfl, hb1⟩
  · by_cases h2 : k = 2
    · subst h2
      obtain ⟨m, E, hme, _, hp⟩ := stepsV i n w
      rcases hme with ⟨rfl, hm⟩ | ⟨hE, rfl, hm⟩
      · rw [hm]
        have HP := hide hp
        clear hp hm
        go_enter Tryd.func39, Tryd.ntmps39
        go_wp2_with (first | (refine step_box (cs := pfC 2 i n v) rfl rfl ?_; intro w1 g1 hg1 hle1 hb1; obtain ⟨c0, c1, c2', c3⟩ := pf_at hg1; clear hg1) | fail)
        refine (HP.out _).mono ?_
        rintro r w3 ⟨rfl, hb3⟩
        subst hb3
        go_wp2
        go_ret2
        exact ⟨rfl, hb1⟩
      · rw [hm]
        have hE' : (E == 0) = false := by simpa using hE
        have HP := hide hp
        clear hp hm
        go_enter Tryd.func39, Tryd.ntmps39
        go_wp2_with (first | (refine step_box (cs := pfC 2 i n v) rfl rfl ?_; intro w1 g1 hg1 hle1 hb1; obtain ⟨c0, c1, c2', c3⟩ := pf_at hg1; clear hg1) | fail)
        refine (HP.out _).mono ?_
        rintro r w3 ⟨rfl, hb3⟩
        subst hb3
        go_wp2
        go_ret2
        exact ⟨rfl, hb1⟩
    · skip
      have hn : pcnt k i n = none := by unfold pcnt; rw [if_neg h1, if_neg h2]
      rw [hn]
      have k1 : (k == 1) = false := by simpa using h1
      have k2 : (k == 2) = false := by simpa using h2
      clear hn
      go_enter Tryd.func39, Tryd.ntmps39
      go_wp2_with (first | (refine step_box (cs := pfC k i n v) rfl rfl ?_; intro w1 g1 hg1 hle1 hb1; obtain ⟨c0, c1, c2', c3⟩ := pf_at hg1; clear hg1) | fail)
      go_ret2
      exact ⟨rfl, hb1⟩

/-- Whether a proof may be. -/
def pval (k i n : Int) (m : Nat) : Bool := decide (pcnt k i n = some m)
set_option maxRecDepth 100000 in
theorem valid_any (k i n : Int) (a : Option Addr) (m cap : Nat) (w : World) (hm : m ≤ 9223372036854775807) :
    Calls Tryd.prog 13 #[.agg (pfC k i n (.slice a m cap)).toArray] w fun r w' => r = .returned (.bool (pval k i n m)) ∧ Below w.heap.size w w' := by
  obtain ⟨c, hc⟩ : ∃ c, pcnt k i n = c := ⟨_, rfl⟩
  have hle : ∀ q, c = some q → q ≤ 49 := fun q hq => pcnt_le (hc.trans hq)
  have HP := hide (fun V => dgs_any k i n (.slice a m cap) V)
  unfold pval
  rw [hc] at HP ⊢
  clear hc
  cases c with
  | none =>
    go_enter Tryd.func13, Tryd.ntmps13
    go_wp2_with (first | (refine step_box (cs := pfC k i n (.slice a m cap)) rfl rfl ?_; intro w1 g1 hg1 hle1 hb1; obtain ⟨c0, c1, c2', c3⟩ := pf_at hg1; have HG := hide hg1; clear hg1) | (refine step_loadA wP rfl rfl HG.out rfl ?_) | fail)
    refine (HP.out _).mono ?_
    rintro r w3 ⟨rfl, hb3⟩
    go_wp2
    go_ret
    exact ⟨by simp, on_below hb1 hb3⟩
  | some q =>
    have hq := hle q rfl
    have hd : decide (some q = some m) = ((m : Int) == (q : Int)) := by
      by_cases h : q = m
      · subst h; simp
      · have : ¬ (m : Int) = (q : Int) := by omega
        simp [h, this]
    rw [hd]
    clear hd hle
    go_enter Tryd.func13, Tryd.ntmps13
    go_wp2_with (first | (refine step_box (cs := pfC k i n (.slice a m cap)) rfl rfl ?_; intro w1 g1 hg1 hle1 hb1; obtain ⟨c0, c1, c2', c3⟩ := pf_at hg1; have HG := hide hg1; clear hg1) | (refine step_loadA wP rfl rfl HG.out rfl ?_) | fail)
    refine (HP.out _).mono ?_
    rintro r w3 ⟨rfl, hb3⟩
    have d3 := cell_kept c3 hb3
    go_wp2
    go_ret
    exact ⟨rfl, on_below hb1 hb3⟩
set_option maxRecDepth 100000 in
theorem validR_any (k i n : Int) (a : Option Addr) (m cap : Nat) (w : World) (hm : m ≤ 9223372036854775807) :
    Calls Tryd.prog 14 #[.agg (pfC k i n (.slice a m cap)).toArray] w fun r w' => r = .returned (.bool (pval k i n m)) ∧ Below w.heap.size w w' := by
  obtain ⟨c, hc⟩ : ∃ c, pcnt k i n = c := ⟨_, rfl⟩
  have hle : ∀ q, c = some q → q ≤ 49 := fun q hq => pcnt_le (hc.trans hq)
  have HP := hide (fun V => count_any k i n (.slice a m cap) V)
  unfold pval
  rw [hc] at HP ⊢
  clear hc
  cases c with
  | none =>
    go_enter Tryd.func14, Tryd.ntmps14
    go_wp2_with (first | (refine step_box (cs := pfC k i n (.slice a m cap)) rfl rfl ?_; intro w1 g1 hg1 hle1 hb1; obtain ⟨c0, c1, c2', c3⟩ := pf_at hg1; have HG := hide hg1; clear hg1) | (refine step_loadA wP rfl rfl HG.out rfl ?_) | fail)
    refine (HP.out _).mono ?_
    rintro r w3 ⟨rfl, hb3⟩
    go_wp2
    go_ret
    exact ⟨by simp, on_below hb1 hb3⟩
  | some q =>
    have hq := hle q rfl
    have hd : decide (some q = some m) = ((m : Int) == (q : Int)) := by
      by_cases h : q = m
      · subst h; simp
      · have : ¬ (m : Int) = (q : Int) := by omega
        simp [h, this]
    rw [hd]
    clear hd hle
    go_enter Tryd.func14, Tryd.ntmps14
    go_wp2_with (first | (refine step_box (cs := pfC k i n (.slice a m cap)) rfl rfl ?_; intro w1 g1 hg1 hle1 hb1; obtain ⟨c0, c1, c2', c3⟩ := pf_at hg1; have HG := hide hg1; clear hg1) | (refine step_loadA wP rfl rfl HG.out rfl ?_) | fail)
    refine (HP.out _).mono ?_
    rintro r w3 ⟨rfl, hb3⟩
    have d3 := cell_kept c3 hb3
    go_wp2
    go_ret
    exact ⟨rfl, on_below hb1 hb3⟩

end Go.Proofs.YtojepbapdjkknaaDoor
