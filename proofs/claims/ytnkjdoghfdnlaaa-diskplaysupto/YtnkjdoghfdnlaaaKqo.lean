/-
  The document's After.
-/
import Derived.Test.YtnkjdoghfdnlaaaKqn
namespace Go.Proofs.Ytnkjdoghfdnlaaa
open Go.RowKit
set_option linter.unusedVariables false

theorem rwsC_at (l : List (Rw × Value)) : ∀ (k : Nat) (x : Rw × Value), l[k]? = some x → ((rwsC l).drop (k * 5)).take 5 = rwC x.1.k x.1.n x.2 x.1.s x.1.t := by
  intro k x hk
  obtain ⟨hlt, rfl⟩ := List.getElem?_eq_some_iff.1 hk
  have e : l = l.take k ++ (l[k] :: l.drop (k + 1)) := by rw [← List.drop_eq_getElem_cons hlt, List.take_append_drop]
  have kb : ∀ (y : Rw × Value) (b : List (Rw × Value)), rwsC (y :: b) = rwC y.1.k y.1.n y.2 y.1.s y.1.t ++ rwsC b := fun y b => by simp [rwsC]
  have e2 := congrArg rwsC e
  rw [rwsC_app, kb] at e2
  have hl : (rwsC (l.take k)).length = k * 5 := by rw [rwsC_length, List.length_take]; congr 1; omega
  rw [e2, List.drop_append_of_le_length (by omega), List.drop_of_length_le (by omega), List.nil_append]
  exact List.take_left' rfl
section
variable {w : World} {r s : Nat} {rs : List Rw} {R : Rm}
theorem RkAt.qlen (h : RkAt w r s rs R) : R.qs.length = rs.length := by rw [← h.raw]; simp
/-- A raw write's place and cells. -/
theorem RkAt.rawAt (h : RkAt w r s rs R) {k : Nat} {x : Rw} (hx : rs[k]? = some x) : ∃ v, (x, v) ∈ R.qs ∧ BV w v x.b ∧ ∃ g cap cs, R.qv = .slice (some ⟨g, 0, none⟩) rs.length cap ∧ Blk w g 62 cs ∧ (cs.drop (k * 5)).take 5 = rwC x.k x.n v x.s x.t := by
  have hlt : k < rs.length := (List.getElem?_eq_some_iff.1 hx).1
  have hq := h.qlen
  obtain ⟨⟨x', v⟩, hv⟩ : ∃ y, R.qs[k]? = some y := ⟨_, List.getElem?_eq_getElem (by omega)⟩
  have he : x' = x := by
    have := h.raw
    rw [← this, List.getElem?_map, hv] at hx
    simpa using hx
  subst he
  have hm := List.mem_of_getElem? hv
  obtain ⟨g, cap, cs, e1, hb, h3, h4⟩ := row_at h.row (by omega)
  refine ⟨v, hm, h.byt _ hm, g, cap, cs, by rw [e1, hq], hb, ?_⟩
  have := rwsC_at R.qs k _ hv
  rw [← h3, List.drop_take, List.take_take, Nat.min_eq_left (by omega)] at this
  exact this
end
/-- What the document's After leaves: a disk of its own. -/
structure AfQ (w w' : World) (o s : Nat) (R : Rm) (rs' : List Rw) (R' : Rm) : Prop where
  rk : RkAt w' o s rs' R'
  bel : Below w.heap.size w w'
  own : ∀ k, R'.own o k → w.heap.size ≤ k
  ro : ∀ k, R'.ro k → R.ro k
section
variable (r s : Nat) (rs : List Rw) (R : Rm) (w : World) (h : RkAt w r s rs R)
include h
theorem afterR_bad (n : Int) (hn : n < 0 ∨ (rs.length : Int) < n) : Calls Try.prog 24 #[.pointer (some ⟨r, 0, none⟩), .int .i64 n] w fun e w' => e = .returned (.tuple #[.pointer none, .int .i64 2]) ∧ w' = w := by
  obtain ⟨qa, qc, hqv⟩ := row_slice h.row
  rw [h.qlen] at hqv
  have c2 : w.cell? ⟨r, 2, none⟩ = some (.slice qa rs.length qc) := by rw [h.fk.blk.cell, ← hqv]; rfl
  clear hqv h
  by_cases h1 : n < 0
  · clear hn
    go_enter Try.func24, Try.ntmps24
    go_wp2
    go_ret2
    exact ⟨rfl, rfl⟩
  · have h2 : (rs.length : Int) < n := by omega
    clear hn
    go_enter Try.func24, Try.ntmps24
    go_wp2
    go_ret2
    exact ⟨rfl, rfl⟩
set_option maxRecDepth 100000 in
set_option maxHeartbeats 1000000 in
theorem afterR_any (n : Nat) (hn : n ≤ rs.length) (hwt : wt rs ≤ 4194304) : Calls Try.prog 24 #[.pointer (some ⟨r, 0, none⟩), .int .i64 (n : Int)] w fun e w' => ∃ o R', e = .returned (.tuple #[.pointer (some ⟨o, 0, none⟩), .int .i64 0]) ∧ AfQ w w' o s R (rs.take n) R' := by
  obtain ⟨qa, qc, hqv⟩ := row_slice h.row
  rw [h.qlen] at hqv
  have c2 : w.cell? ⟨r, 2, none⟩ = some (.slice qa rs.length qc) := by rw [h.fk.blk.cell, ← hqv]; rfl
  have c0 : w.cell? ⟨r, 0, none⟩ = some (.int .i64 (s : Int)) := by rw [h.fk.blk.cell]; rfl
  have hlw := len_wt rs
  have HH := hide h
  have HQ := hide hqv
  have HWT := hide hwt
  have hn1 : ¬ ((n : Int) < 0) := by omega
  have hn2 : ¬ ((rs.length : Int) < (n : Int)) := by omega
  have hnb : n ≤ 4194304 := by omega
  have HN := hide hn
  clear h hqv hn hwt hlw
  generalize hRL : rs.length = RL at *
  have HRL := hide hRL
  clear hRL
  go_enter Try.func24, Try.ntmps24
  go_wp2_with (first | (refine step_bRk rfl rfl ?_) | (refine step_box (cs := rkC s (.slice none 0 0) (.slice none 0 0)) rfl rfl ?_; intro w1 o hg hl hb))
  have A0 : Hid (AfQ w w1 o s R (rs.take 0) rm0) := hide ⟨RkAt.new hg HH.out.s1 HH.out.s2, hb, rm0_own hl, fun k ⟨x, hx, _⟩ => by cases hx⟩
  clear hg hl hb c0 c2 hn1 hn2
  go_loopw [7] (fun i wr => ∃ k : Nat, i = .int .i64 (k : Int) ∧ k ≤ n ∧ Hid (∃ R', AfQ w wr o s R (rs.take k) R')) (fun i _ => n - (intOf i).toNat)
  case atStart => exact ⟨0, rfl, Nat.zero_le _, hide ⟨_, A0.out⟩⟩
  case round =>
    obtain ⟨k, rfl, hk, HA⟩ := hrel
    by_cases hlt : k < n
    · obtain ⟨x, hx⟩ : ∃ x, rs[k]? = some x := ⟨_, List.getElem?_eq_getElem (by have := HN.out; have := HRL.out; omega)⟩
      obtain ⟨v, hvm, hbv, g, cap, cs, e1, hg, hcs⟩ := HH.out.rawAt hx
      rw [HQ.out, HRL.out] at e1
      injection e1 with e1 e2 e3
      clear e2
      subst e1 e3
      obtain ⟨va, vc, hve, _⟩ := hbv.sl
      subst hve
      obtain ⟨R', hA⟩ := HA.out
      have c2 : wr.cell? ⟨r, 2, none⟩ = some (.slice (some ⟨g, 0, none⟩) RL qc) := by rw [(HH.out.fk.below hA.bel).blk.cell, ← HQ.out]; rfl
      have hix := vw_at rRw g RL qc k (by have := HN.out; omega)
      have HG := hide (hg.on hA.bel)
      have HCS := hide hcs
      have HBV := hide (hbv.below hA.bel)
      have HLR : Hid (Lraw s (play (rs.take k)) x) := hide (Val_at s HH.out.val hx)
      have et : rs.take (k + 1) = rs.take k ++ [x] := by
        obtain ⟨hi, rfl⟩ := List.getElem?_eq_some_iff.1 hx
        exact List.take_succ_eq_append_getElem hi
      have hw1 : wt (rs.take k) + x.b.length + 1 ≤ 16777216 := by
        have h1 := wt_take rs (k + 1)
        rw [et, wt_app] at h1
        have h2 : wt [x] = x.b.length + 1 := by simp [wt]
        have h3 := HWT.out
        omega
      have HET := hide et
      have HW1 := hide hw1
      have HAA := hide hA
      have HVM := hide hvm
      have hlti : (k : Int) < (n : Int) := by omega
      clear hA hg hcs hbv hx et hw1 HA hvm
      go_wp2_with (refine step_load wRw rfl rfl HG.out (rwC x.k x.n (.slice va x.b.length vc) x.s x.t) rfl HCS.out ?_)
      refine (doR_any o s (rs.take k) R' x _ _ HAA.out.rk HLR.out HBV.out HW1.out).mono ?_
      rintro e w3 ⟨rfl, R3, h1, h2, h3, h4⟩
      have A3 : Hid (∃ R', AfQ w w3 o s R (rs.take (k + 1)) R') := hide ⟨R3, by rw [HET.out]; exact h1, HAA.out.bel.trans (h2.below (fun q hq hS => by have := HAA.out.own q hS; omega) HAA.out.bel.size), fun q hq => by
        rcases h3 q hq with hq | hq
        · exact HAA.out.own q hq
        · have := HAA.out.bel.size; omega, fun q hq => by
        rcases h4 q hq with hq | hq
        · exact HAA.out.ro q hq
        · exact ⟨_, HVM.out, hq⟩⟩
      clear h1 h2 h3 h4 c2 hix
      go_wp2
      go_roundw
      case rel => exact ⟨k + 1, by go_num, by omega, A3⟩
      case measure => simp [intOf]; omega
    · have hlti : ¬ (k : Int) < (n : Int) := by omega
      have e1 : k = n := by omega
      subst e1
      go_wp2
      go_ret2
      obtain ⟨R', hA⟩ := HA.out
      exact ⟨_, rfl, R', hA⟩
end

end Go.Proofs.Ytnkjdoghfdnlaaa
