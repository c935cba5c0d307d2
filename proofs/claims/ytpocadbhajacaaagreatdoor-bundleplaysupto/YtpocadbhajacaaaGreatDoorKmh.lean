/-
  The calls that write: Create, Append, Cut, Remove, Rename; Writes, Sector.
-/
import Derived.Test.YtpocadbhajacaaaGreatDoorKmg
namespace Go.Proofs.YtpocadbhajacaaaGreatDoor
open Go.RowKit
set_option linter.unusedVariables false

/-! ### what the calls answer and write, without any program -/
def fE (rs : List Rw) (n : ByteArray) : Int := if nmB n = true then (if (play rs n).isSome = true then 0 else 121) else 2
def crE (rs : List Rw) (n : ByteArray) : Int := if nmB n = true then (if (play rs n).isSome = true then 120 else 0) else 2
def crS (rs : List Rw) (n : ByteArray) : List Rw := if crE rs n = 0 then rs ++ [rCr n] else rs
def apS (s : Nat) (rs : List Rw) (n : ByteArray) (b : List Int) : List Rw := if fE rs n = 0 ∧ b ≠ [] then rs ++ expd s ⟨rAp n b, rs.length, (fl (play rs) n).length⟩ else rs
def cuE (rs : List Rw) (n : ByteArray) (k : Int) : Int := if fE rs n = 0 then (if k < 0 ∨ ((fl (play rs) n).length : Int) < k then 2 else 0) else fE rs n
def cuS (rs : List Rw) (n : ByteArray) (k : Int) : List Rw := if cuE rs n k = 0 ∧ k < ((fl (play rs) n).length : Int) then rs ++ [rCu n k] else rs
def rmS (rs : List Rw) (n : ByteArray) : List Rw := if fE rs n = 0 then rs ++ [rRm n] else rs
/-- What a call that writes leaves. -/
def OpR (w w' : World) (d s : Nat) (D : Dm) (rs' : List Rw) : Prop :=
  ∃ D', DkAt w' d s rs' D' ∧ Chs (D.own d) w w' ∧ (∀ k, D'.own d k → D.own d k ∨ w.heap.size ≤ k) ∧ (∀ k, D'.ro k → D.ro k ∨ w.heap.size ≤ k)
theorem OpR.refl {w : World} {d s : Nat} {D : Dm} {rs : List Rw} (h : DkAt w d s rs D) : OpR w w d s D rs := ⟨D, h, Chs.refl _ _, fun k hk => .inl hk, fun k hk => .inl hk⟩
theorem OpR.below {w w' : World} {d s : Nat} {D : Dm} {rs : List Rw} (h : DkAt w d s rs D) (hb : Below w.heap.size w w') : OpR w w' d s D rs := ⟨D, h.below hb, Chs.of_below _ hb, fun k hk => .inl hk, fun k hk => .inl hk⟩
/-- A write of no bytes. -/
theorem WrR.op0 {w w1 w' : World} {d s : Nat} {D : Dm} {rs : List Rw} {r : Rw} (hb : Below w.heap.size w w1) (h : WrR w1 w' d s rs D r (.slice none 0 0)) : OpR w w' d s D (rs ++ expd s ⟨r, rs.length, (fl (play rs) r.n).length⟩) := by
  obtain ⟨D', h1, h2, h3, h4⟩ := h
  have hsz := hb.size
  refine ⟨D', h1, (Chs.of_below _ hb).after h2 (fun k hk => .inl hk), fun k hk => (h3 k hk).imp id (fun h => Nat.le_trans hsz h), fun k hk => ?_⟩
  rcases h4 k hk with h | h
  · exact .inl h
  · cases h

theorem beqS_ne {n t : ByteArray} (h : n ≠ t) : (n.toList == t.toList) = false := by
  rw [ByteArray.toList_eq, ByteArray.toList_eq, beq_eq_false_iff_ne]
  intro e
  exact h (ByteArray.ext (Array.toList_inj.1 e))
theorem nobv (w : World) : BV w (.slice none 0 0) [] := .inl ⟨rfl, rfl⟩
theorem ex_cr (s : Nat) (n : ByteArray) (f h : Nat) : expd s ⟨rCr n, f, h⟩ = [rCr n] := expd_one s ⟨rCr n, f, h⟩ (show (1 : Int) ≠ 2 by decide) rfl
theorem ex_cu (s : Nat) (n : ByteArray) (k : Int) (f h : Nat) : expd s ⟨rCu n k, f, h⟩ = [rCu n k] := expd_one s ⟨rCu n k, f, h⟩ (show (3 : Int) ≠ 2 by decide) rfl
theorem ex_rm (s : Nat) (n : ByteArray) (f h : Nat) : expd s ⟨rRm n, f, h⟩ = [rRm n] := expd_one s ⟨rRm n, f, h⟩ (show (4 : Int) ≠ 2 by decide) rfl
section
variable {dst : Option Tmp} {ty : TypeId} {pos : String} {aft : Array Edge} {gd : Option (Nat × Bool)} {ops : Array Oper} {rest : List Oper} {a : Act} {w : World} {Q : Exit → Act → World → Prop}
theorem step_bR1 {k : Int} {x : Operand} {n : ByteArray} (hw : Region.wanted ⟨dst, .build 117 #[(0, .const (.int .i64 k)), (1, x)], ty, pos, aft, gd⟩ (yielded ops a.tmps) = true) (hx : a.eval x = .string n)
    (h : wpList Tryz.prog ops Q rest (a.put dst (.agg (rwC k n (.slice none 0 0) 0 ByteArray.empty).toArray)) w) : wpList Tryz.prog ops Q (⟨dst, .build 117 #[(0, .const (.int .i64 k)), (1, x)], ty, pos, aft, gd⟩ :: rest) a w :=
  step_run hw _ w (run_op (M := Instr.build 117 #[(0, .int .i64 k), (1, .string n)]) (by have hc : a.eval (.const (.int .i64 k)) = .int .i64 k := rfl; simp [execOp, hx, hc]) (by kernel_rfl)) h
theorem step_bR2 {k : Int} {x y : Operand} {n : ByteArray} {b : Option Addr} {l c : Nat} (hw : Region.wanted ⟨dst, .build 117 #[(0, .const (.int .i64 k)), (1, x), (2, y)], ty, pos, aft, gd⟩ (yielded ops a.tmps) = true) (hx : a.eval x = .string n) (hy : a.eval y = .slice b l c)
    (h : wpList Tryz.prog ops Q rest (a.put dst (.agg (rwC k n (.slice b l c) 0 ByteArray.empty).toArray)) w) : wpList Tryz.prog ops Q (⟨dst, .build 117 #[(0, .const (.int .i64 k)), (1, x), (2, y)], ty, pos, aft, gd⟩ :: rest) a w :=
  step_run hw _ w (run_op (M := Instr.build 117 #[(0, .int .i64 k), (1, .string n), (2, .slice b l c)]) (by have hc : a.eval (.const (.int .i64 k)) = .int .i64 k := rfl; simp [execOp, hx, hy, hc]) (by kernel_rfl)) h
theorem step_bR3 {k : Int} {x y : Operand} {n : ByteArray} {q : Int} (hw : Region.wanted ⟨dst, .build 117 #[(0, .const (.int .i64 k)), (1, x), (3, y)], ty, pos, aft, gd⟩ (yielded ops a.tmps) = true) (hx : a.eval x = .string n) (hy : a.eval y = .int .i64 q)
    (h : wpList Tryz.prog ops Q rest (a.put dst (.agg (rwC k n (.slice none 0 0) q ByteArray.empty).toArray)) w) : wpList Tryz.prog ops Q (⟨dst, .build 117 #[(0, .const (.int .i64 k)), (1, x), (3, y)], ty, pos, aft, gd⟩ :: rest) a w :=
  step_run hw _ w (run_op (M := Instr.build 117 #[(0, .int .i64 k), (1, .string n), (3, .int .i64 q)]) (by have hc : a.eval (.const (.int .i64 k)) = .int .i64 k := rfl; simp [execOp, hx, hy, hc]) (by kernel_rfl)) h
end

section
variable (d s : Nat) (rs : List Rw) (D : Dm) (w : World) (h : DkAt w d s rs D)
include h
theorem DkAt.made : w.cell? ⟨d, 0, none⟩ = some (.int .i64 (s : Int)) ∧ w.cell? ⟨d, 1, none⟩ = some (.map (some D.m)) ∧ w.cell? ⟨d, 3, none⟩ = some (.int .i64 (rs.length : Int)) ∧ (0 : Int) < s := by
  have := h.s1
  refine ⟨by rw [h.blk.cell]; rfl, by rw [h.blk.cell]; rfl, by rw [h.blk.cell]; rfl, by omega⟩
theorem writes_any : Calls Tryz.prog 21 #[.pointer (some ⟨d, 0, none⟩)] w fun e w' => e = .returned (.int .i64 (rs.length : Int)) ∧ w' = w := by
  obtain ⟨c0, c1, c3, hp⟩ := h.made
  clear h
  go_enter Tryz.func21, Tryz.ntmps21
  go_wp2_with (go_at_call 55; refine (made_ok _ _ _ c0 hp).mono ?_; rintro e w' ⟨rfl, rfl⟩)
  go_ret
  exact ⟨rfl, rfl⟩
theorem sector_any : Calls Tryz.prog 64 #[.pointer (some ⟨d, 0, none⟩)] w fun e w' => e = .returned (.int .i64 (s : Int)) ∧ w' = w := by
  obtain ⟨c0, c1, c3, hp⟩ := h.made
  clear h
  go_enter Tryz.func64, Tryz.ntmps64
  go_wp2_with (go_at_call 55; refine (made_ok _ _ _ c0 hp).mono ?_; rintro e w' ⟨rfl, rfl⟩)
  go_ret
  exact ⟨rfl, rfl⟩
theorem file_bad (n : ByteArray) (hn : nmB n = false) : Calls Tryz.prog 60 #[.pointer (some ⟨d, 0, none⟩), .string n] w fun e w' => e = .returned (.tuple #[.slice none 0 0, .int .i64 2]) ∧ w' = w := by
  obtain ⟨c0, c1, c3, hp⟩ := h.made
  clear h
  go_enter Tryz.func60, Tryz.ntmps60
  go_wp2_with (first | (go_at_call 55; refine (made_ok _ _ _ c0 hp).mono ?_; rintro e w' ⟨rfl, rfl⟩) | (go_at_call 86; refine (isName_any _ _).mono ?_; rintro e w' ⟨rfl, rfl⟩))
  go_ret2
  exact ⟨rfl, rfl⟩
theorem file_no (n : ByteArray) (hn : nmB n = true) (hf : play rs n = none) : Calls Tryz.prog 60 #[.pointer (some ⟨d, 0, none⟩), .string n] w fun e w' => e = .returned (.tuple #[.slice none 0 0, .int .i64 121]) ∧ w' = w := by
  obtain ⟨c0, c1, c3, hp⟩ := h.made
  have hlk := (lookup_is h.fil.map n (nm_size hn)).2
  rw [h.fil.no hf] at hlk
  simp only [Option.getD_none, Option.isSome_none] at hlk
  clear h hf
  go_enter Tryz.func60, Tryz.ntmps60
  go_wp2_with (first | (go_at_call 55; refine (made_ok _ _ _ c0 hp).mono ?_; rintro e w' ⟨rfl, rfl⟩) | (go_at_call 86; refine (isName_any _ _).mono ?_; rintro e w' ⟨rfl, rfl⟩))
  go_ret2
  exact ⟨rfl, rfl⟩
theorem file_ok (n : ByteArray) (v : Value) (hn : nmB n = true) (hv : mfind D.fm n = some v) : Calls Tryz.prog 60 #[.pointer (some ⟨d, 0, none⟩), .string n] w fun e w' => e = .returned (.tuple #[v, .int .i64 0]) ∧ w' = w := by
  obtain ⟨c0, c1, c3, hp⟩ := h.made
  have hlk := (lookup_is h.fil.map n (nm_size hn)).2
  rw [hv] at hlk
  simp only [Option.getD_some, Option.isSome_some] at hlk
  clear h hv
  go_enter Tryz.func60, Tryz.ntmps60
  go_wp2_with (first | (go_at_call 55; refine (made_ok _ _ _ c0 hp).mono ?_; rintro e w' ⟨rfl, rfl⟩) | (go_at_call 86; refine (isName_any _ _).mono ?_; rintro e w' ⟨rfl, rfl⟩))
  go_ret2
  exact ⟨rfl, rfl⟩
set_option maxRecDepth 100000 in
theorem create_any (n : ByteArray) (hwt : wt rs + 1 ≤ 1099511000000) : Calls Tryz.prog 25 #[.pointer (some ⟨d, 0, none⟩), .string n] w fun e w' => e = .returned (.int .i64 (crE rs n)) ∧ OpR w w' d s D (crS rs n) := by
  by_cases hn : nmB n = true
  · cases hf : play rs n with
    | some xs =>
      obtain ⟨v, hv, _⟩ := h.fil.get hf
      have e1 : crE rs n = 120 := by simp [crE, hn, hf]
      have e2 : crS rs n = rs := by simp [crS, e1]
      rw [e1, e2]
      have HH := hide h
      clear h e1 e2 hf
      go_enter Tryz.func25, Tryz.ntmps25
      go_wp2_with (go_at_call 60; refine (file_ok d s rs D _ HH.out _ v hn hv).mono ?_; rintro e w' ⟨rfl, rfl⟩)
      go_ret
      exact ⟨rfl, OpR.refl HH.out⟩
    | none =>
      have e1 : crE rs n = 0 := by simp [crE, hn, hf]
      have e2 : crS rs n = rs ++ expd s ⟨rCr n, rs.length, (fl (play rs) (rCr n).n).length⟩ := by simp [crS, e1, ex_cr]
      rw [e1, e2]
      have HH := hide h
      have HW := hide hwt
      have HF := hide hf
      clear h e1 e2 hf hwt
      go_enter Tryz.func25, Tryz.ntmps25
      go_wp2_with (first | (go_at_call 60; refine (file_no d s rs D _ HH.out _ hn HF.out).mono ?_; rintro e w' ⟨rfl, rfl⟩) | (refine step_bR1 rfl rfl ?_))
      refine (write_any d s rs D (rCr n) _ _ HH.out (.inl ⟨n, rfl, hn, HF.out⟩) (nobv _) (fun k hk => by cases hk) (by have := HW.out; show wt rs + 2 * 0 + 1 ≤ _; omega)).mono ?_
      rintro e w2 ⟨rfl, hw2⟩
      go_wp2
      go_ret
      exact ⟨rfl, WrR.op0 (Below.refl _ _) hw2⟩
  · have hn' : nmB n = false := by simpa using hn
    have e1 : crE rs n = 2 := by simp [crE, hn']
    have e2 : crS rs n = rs := by simp [crS, e1]
    rw [e1, e2]
    have HH := hide h
    clear h e1 e2 hn
    go_enter Tryz.func25, Tryz.ntmps25
    go_wp2_with (go_at_call 60; refine (file_bad d s rs D _ HH.out _ hn').mono ?_; rintro e w' ⟨rfl, rfl⟩)
    go_ret
    exact ⟨rfl, OpR.refl HH.out⟩
set_option maxRecDepth 100000 in
theorem remove_any (n : ByteArray) (hwt : wt rs + 1 ≤ 1099511000000) : Calls Tryz.prog 40 #[.pointer (some ⟨d, 0, none⟩), .string n] w fun e w' => e = .returned (.int .i64 (fE rs n)) ∧ OpR w w' d s D (rmS rs n) := by
  by_cases hn : nmB n = true
  · cases hf : play rs n with
    | none =>
      have e0 : fE rs n = 121 := by simp [fE, hn, hf]
      have e1 : rmS rs n = rs := by simp [rmS, e0]
      have e2 := e0
      rw [e0, e1]
      have HH := hide h
      have HF := hide hf
      clear h e1 e2 e0 hf
      go_enter Tryz.func40, Tryz.ntmps40
      go_wp2_with (go_at_call 60; refine (file_no d s rs D _ HH.out _ hn HF.out).mono ?_; rintro e w' ⟨rfl, rfl⟩)
      go_ret
      exact ⟨rfl, OpR.refl HH.out⟩
    | some xs =>
      obtain ⟨v, hv, _⟩ := h.fil.get hf
      have e0 : fE rs n = 0 := by simp [fE, hn, hf]
      have e2 : rmS rs n = rs ++ expd s ⟨rRm n, rs.length, (fl (play rs) (rRm n).n).length⟩ := by simp [rmS, e0, ex_rm]
      rw [e0, e2]
      have HH := hide h
      have HW := hide hwt
      have HF := hide hf
      clear h e0 e2 hf hwt
      go_enter Tryz.func40, Tryz.ntmps40
      go_wp2_with (first | (go_at_call 60; refine (file_ok d s rs D _ HH.out _ v hn hv).mono ?_; rintro e w' ⟨rfl, rfl⟩) | (refine step_bR1 rfl rfl ?_))
      refine (write_any d s rs D (rRm n) _ _ HH.out (.inr (.inr (.inr (.inl ⟨n, xs, rfl, hn, HF.out⟩)))) (nobv _) (fun k hk => by cases hk) (by have := HW.out; show wt rs + 2 * 0 + 1 ≤ _; omega)).mono ?_
      rintro e w2 ⟨rfl, hw2⟩
      go_wp2
      go_ret
      exact ⟨rfl, WrR.op0 (Below.refl _ _) hw2⟩
  · have hn' : nmB n = false := by simpa using hn
    have e0 : fE rs n = 2 := by simp [fE, hn']
    have e1 : rmS rs n = rs := by simp [rmS, e0]
    have e2 := e0
    rw [e0, e1]
    have HH := hide h
    clear h e1 e2 e0 hn
    go_enter Tryz.func40, Tryz.ntmps40
    go_wp2_with (go_at_call 60; refine (file_bad d s rs D _ HH.out _ hn').mono ?_; rintro e w' ⟨rfl, rfl⟩)
    go_ret
    exact ⟨rfl, OpR.refl HH.out⟩
set_option maxRecDepth 100000 in
theorem cut_any (n : ByteArray) (k : Int) (hwt : wt rs + 1 ≤ 1099511000000) : Calls Tryz.prog 42 #[.pointer (some ⟨d, 0, none⟩), .string n, .int .i64 k] w fun e w' => e = .returned (.int .i64 (cuE rs n k)) ∧ OpR w w' d s D (cuS rs n k) := by
  by_cases hn : nmB n = true
  · cases hf : play rs n with
    | none =>
      have e0 : fE rs n = 121 := by simp [fE, hn, hf]
      have e1 : cuE rs n k = 121 := by simp [cuE, e0]
      have e2 : cuS rs n k = rs := by simp [cuS, e1]
      rw [e1, e2]
      have HH := hide h
      have HF := hide hf
      clear h e1 e2 e0 hf
      go_enter Tryz.func42, Tryz.ntmps42
      go_wp2_with (go_at_call 60; refine (file_no d s rs D _ HH.out _ hn HF.out).mono ?_; rintro e w' ⟨rfl, rfl⟩)
      go_ret
      exact ⟨rfl, OpR.refl HH.out⟩
    | some xs =>
      obtain ⟨v, hv, ho, _⟩ := h.fil.get hf
      obtain ⟨av, cv, rfl⟩ := ho.slice
      have e0 : fE rs n = 0 := by simp [fE, hn, hf]
      have ex : fl (play rs) n = xs := by simp [fl, hf]
      have HH := hide h
      have HW := hide hwt
      have HF := hide hf
      by_cases h1 : k < 0
      · have e1 : cuE rs n k = 2 := by simp [cuE, e0, h1]
        have e2 : cuS rs n k = rs := by simp [cuS, e1]
        rw [e1, e2]
        clear h e0 e1 e2 hf hwt ho ex
        go_enter Tryz.func42, Tryz.ntmps42
        go_wp2_with (first | (go_at_call 60; refine (file_ok d s rs D _ HH.out _ _ hn hv).mono ?_; rintro e w' ⟨rfl, rfl⟩))
        go_ret
        exact ⟨rfl, OpR.refl HH.out⟩
      · by_cases h2 : (xs.length : Int) < k
        · have e1 : cuE rs n k = 2 := by simp [cuE, e0, ex, h2]
          have e2 : cuS rs n k = rs := by simp [cuS, e1]
          rw [e1, e2]
          clear h e0 e1 e2 hf hwt ho ex
          go_enter Tryz.func42, Tryz.ntmps42
          go_wp2_with (first | (go_at_call 60; refine (file_ok d s rs D _ HH.out _ _ hn hv).mono ?_; rintro e w' ⟨rfl, rfl⟩))
          go_ret
          exact ⟨rfl, OpR.refl HH.out⟩
        · have e1 : cuE rs n k = 0 := by simp only [cuE, e0, ex, if_true]; rw [if_neg (by omega)]
          by_cases h3 : k < (xs.length : Int)
          · have e2 : cuS rs n k = rs ++ expd s ⟨rCu n k, rs.length, (fl (play rs) (rCu n k).n).length⟩ := by
              rw [ex_cu]
              simp only [cuS, e1, ex]
              rw [if_pos ⟨trivial, h3⟩]
            rw [e1, e2]
            clear h e0 e1 e2 hf hwt ho ex
            go_enter Tryz.func42, Tryz.ntmps42
            go_wp2_with (first | (go_at_call 60; refine (file_ok d s rs D _ HH.out _ _ hn hv).mono ?_; rintro e w' ⟨rfl, rfl⟩) | (refine step_bR3 rfl rfl rfl ?_))
            refine (write_any d s rs D (rCu n k) _ _ HH.out (.inr (.inr (.inl ⟨n, k, xs, rfl, hn, HF.out, by omega, by omega⟩))) (nobv _) (fun k hk => by cases hk) (by have := HW.out; show wt rs + 2 * 0 + 1 ≤ _; omega)).mono ?_
            rintro e w2 ⟨rfl, hw2⟩
            go_wp2
            go_ret
            exact ⟨rfl, WrR.op0 (Below.refl _ _) hw2⟩
          · have e2 : cuS rs n k = rs := by
              simp only [cuS, ex]
              rw [if_neg (fun hh => h3 hh.2)]
            rw [e1, e2]
            clear h e0 e1 e2 hf hwt ho ex
            go_enter Tryz.func42, Tryz.ntmps42
            go_wp2_with (first | (go_at_call 60; refine (file_ok d s rs D _ HH.out _ _ hn hv).mono ?_; rintro e w' ⟨rfl, rfl⟩))
            go_ret
            exact ⟨rfl, OpR.refl HH.out⟩
  · have hn' : nmB n = false := by simpa using hn
    have e0 : fE rs n = 2 := by simp [fE, hn']
    have e1 : cuE rs n k = 2 := by simp [cuE, e0]
    have e2 : cuS rs n k = rs := by simp [cuS, e1]
    rw [e1, e2]
    have HH := hide h
    clear h e1 e2 e0 hn
    go_enter Tryz.func42, Tryz.ntmps42
    go_wp2_with (go_at_call 60; refine (file_bad d s rs D _ HH.out _ hn').mono ?_; rintro e w' ⟨rfl, rfl⟩)
    go_ret
    exact ⟨rfl, OpR.refl HH.out⟩
set_option maxRecDepth 100000 in
theorem append_any (n : ByteArray) (a : Option Addr) (l c : Nat) (b : List Int) (hb : Sl w a l c b) (hwt : wt rs + 2 * b.length + 1 ≤ 1099511000000) : Calls Tryz.prog 27 #[.pointer (some ⟨d, 0, none⟩), .string n, .slice a l c] w fun e w' => e = .returned (.int .i64 (fE rs n)) ∧ OpR w w' d s D (apS s rs n b) := by
  have hl := hb.hlen
  subst hl
  by_cases hn : nmB n = true
  · cases hf : play rs n with
    | none =>
      have e0 : fE rs n = 121 := by simp [fE, hn, hf]
      have e1 : apS s rs n b = rs := by simp [apS, e0]
      have e2 := e0
      rw [e0, e1]
      have HH := hide h
      have HF := hide hf
      clear h e1 e2 e0 hf
      go_enter Tryz.func27, Tryz.ntmps27
      go_wp2_with (go_at_call 60; refine (file_no d s rs D _ HH.out _ hn HF.out).mono ?_; rintro e w' ⟨rfl, rfl⟩)
      go_ret
      exact ⟨rfl, OpR.refl HH.out⟩
    | some xs =>
      obtain ⟨v, hv, _⟩ := h.fil.get hf
      have e0 : fE rs n = 0 := by simp [fE, hn, hf]
      have HH := hide h
      have HW := hide hwt
      have HF := hide hf
      have HB := hide hb
      by_cases hb0 : b = []
      · have e2 : apS s rs n b = rs := by simp [apS, hb0]
        rw [e0, e2]
        clear h e0 e2 hf hwt hb
        subst hb0
        go_enter Tryz.func27, Tryz.ntmps27
        go_wp2_with (first | (go_at_call 60; refine (file_ok d s rs D _ HH.out _ v hn hv).mono ?_; rintro e w' ⟨rfl, rfl⟩))
        go_ret
        exact ⟨rfl, OpR.refl HH.out⟩
      · have e2 : apS s rs n b = rs ++ expd s ⟨rAp n b, rs.length, (fl (play rs) (rAp n b).n).length⟩ := by
          simp only [apS, e0]
          rw [if_pos ⟨trivial, hb0⟩]
          rfl
        rw [e0, e2]
        have hbl : 0 < b.length := List.length_pos_iff.2 hb0
        have HB0 := hide hb0
        clear h e0 e2 hf hwt hb hb0
        generalize hL : b.length = L at *
        have HL := hide hL
        clear hL
        go_enter Tryz.func27, Tryz.ntmps27
        go_wp2_with (first | (go_at_call 60; refine (file_ok d s rs D _ HH.out _ v hn hv).mono ?_; rintro e w' ⟨rfl, rfl⟩))
        refine (clone_any a L c b _ HB.out).mono ?_
        rintro e w2 ⟨v2, rfl, ho2, hb2⟩
        obtain ⟨a2, c2, rfl⟩ := ho2.slice
        have hbv : BV w2 (.slice a2 b.length c2) b := ho2.bv HB.out.hbyte (by have := HW.out; have := HL.out; omega) HB0.out
        have HBV := hide hbv
        have HO2 := hide ho2
        have HB2 := hide hb2
        clear hbv ho2 hb2
        go_wp2_with (refine step_bR2 rfl rfl rfl ?_)
        have D2 := HH.out.below HB2.out
        refine (write_any d s rs D (rAp n b) _ _ D2 (.inr (.inl ⟨n, b, xs, rfl, hn, HF.out, HB0.out, HB.out.hbyte⟩)) HBV.out (fun k hk hfb => ?_) (by have := HW.out; have := HL.out; show wt rs + 2 * b.length + 1 ≤ _; omega)).mono ?_
        · have h1 := HO2.out.lt k hk
          have h2 := HH.out.lt (k := k) (.inl (.inr (.inr (.inr hfb))))
          omega
        rintro e w3 ⟨rfl, hw3⟩
        go_wp2
        go_ret
        obtain ⟨D', h1, h2, h3, h4⟩ := hw3
        have hsz := HB2.out.size
        refine ⟨rfl, D', h1, (Chs.of_below _ HB2.out).after h2 (fun k hk => .inl hk), fun k hk => (h3 k hk).imp id (fun h => Nat.le_trans hsz h), fun k hk => ?_⟩
        rcases h4 k hk with h | h
        · exact .inl h
        · exact .inr (HO2.out.lt k h)
  · have hn' : nmB n = false := by simpa using hn
    have e0 : fE rs n = 2 := by simp [fE, hn']
    have e1 : apS s rs n b = rs := by simp [apS, e0]
    have e2 := e0
    rw [e0, e1]
    have HH := hide h
    clear h e1 e2 e0 hn
    go_enter Tryz.func27, Tryz.ntmps27
    go_wp2_with (go_at_call 60; refine (file_bad d s rs D _ HH.out _ hn').mono ?_; rintro e w' ⟨rfl, rfl⟩)
    go_ret
    exact ⟨rfl, OpR.refl HH.out⟩
end

end Go.Proofs.YtpocadbhajacaaaGreatDoor
