/-
  The document's disk: do whole, New, wrong, Create, All, Cut, Remove, Rename, Read.
-/
import Derived.Test.YtnkjdoghfdnlaaaKqh
namespace Go.Proofs.Ytnkjdoghfdnlaaa
open Go.RowKit
set_option linter.unusedVariables false

theorem BV.nil {w : World} {v : Value} (h : BV w v []) : v = .slice none 0 0 := by
  rcases h with ⟨h, _⟩ | ⟨b, o, l, c, rfl, h0, hs, _⟩
  · exact h
  · have := hs.hlen
    simp at this
    omega
theorem doR_any (r s : Nat) (rs : List Rw) (R : Rm) (x : Rw) (v : Value) (w : World) (h : RkAt w r s rs R) (hx : Lraw s (play rs) x) (hv : BV w v x.b) (hwt : wt rs + x.b.length + 1 ≤ 16777216) :
    Calls Try.prog 40 #[.pointer (some ⟨r, 0, none⟩), .agg (rwC x.k x.n v x.s x.t).toArray] w fun e w' => e = .returned (.tuple #[]) ∧ RoR w w' r s R (rs ++ [x]) v := by
  obtain ⟨hl, hfit⟩ := hx
  rcases hl with ⟨n, rfl, hn, hf⟩ | ⟨n, b, xs, rfl, hn, hf, hb, hB⟩ | ⟨n, k, xs, rfl, hn, hf, h0, h1⟩ | ⟨n, xs, rfl, hn, hf⟩ | ⟨n, t, xs, rfl, hn, ht, hf, hnt⟩
  · have e := BV.nil hv
    subst e
    exact doR_cr r s rs R n w h hn (by simp [rCr] at hwt; omega) hf hv
  · have hxs : fl (play rs) n = xs := by simp [fl, hf]
    have h2 := hfit rfl
    change (fl (play rs) n).length % s + b.length ≤ s at h2
    rw [hxs] at h2
    exact doR_ap r s rs R n w h hn v b xs hf hb hB h2 hwt hv
  · have e := BV.nil hv
    subst e
    exact doR_cu r s rs R n w h hn k xs hf h0 h1 (by simp [rCu] at hwt; omega) hv
  · have e := BV.nil hv
    subst e
    exact doR_rm r s rs R n w h hn (by simp [rRm] at hwt; omega) xs hf hv
  · have e := BV.nil hv
    subst e
    cases hp : play rs t with
    | none => exact doR_rn0 r s rs R n t w h hn ht hnt (by simp [rRn] at hwt; omega) xs hf hv hp
    | some ys => exact doR_rn1 r s rs R n t w h hn ht hnt (by simp [rRn] at hwt; omega) xs hf hv ys hp

/-- What a call that writes leaves of the document's disk. -/
def RoP (w w' : World) (r s : Nat) (R : Rm) (rs' : List Rw) : Prop :=
  ∃ R', RkAt w' r s rs' R' ∧ Chs (R.own r) w w' ∧ (∀ k, R'.own r k → R.own r k ∨ w.heap.size ≤ k) ∧ (∀ k, R'.ro k → R.ro k ∨ w.heap.size ≤ k)
theorem RoP.below {w w' : World} {r s : Nat} {R : Rm} {rs : List Rw} (h : RkAt w r s rs R) (hb : Below w.heap.size w w') : RoP w w' r s R rs := ⟨R, h.below hb, Chs.of_below _ hb, fun k hk => .inl hk, fun k hk => .inl hk⟩
theorem RoR.op {w w1 w' : World} {r s : Nat} {R : Rm} {rs' : List Rw} {v : Value} (hb : Below w.heap.size w w1) (hv : ∀ k, v.ownBlock = some k → w.heap.size ≤ k) (h : RoR w1 w' r s R rs' v) : RoP w w' r s R rs' := by
  obtain ⟨R', h1, h2, h3, h4⟩ := h
  have hsz := hb.size
  exact ⟨R', h1, (Chs.of_below _ hb).after h2 (fun k hk => .inl hk), fun k hk => (h3 k hk).imp id (fun h => Nat.le_trans hsz h), fun k hk => (h4 k hk).imp id (hv k)⟩
theorem novb (k w : Nat) (h : (Value.slice none 0 0).ownBlock = some k) : w ≤ k := by cases h

theorem zRk : Zeroed 76 (rkC 0 (.slice none 0 0) (.slice none 0 0)) := fun _ _ _ _ _ _ _ => by kernel_rfl
section
variable {dst : Option Tmp} {ty : TypeId} {pos : String} {aft : Array Edge} {gd : Option (Nat × Bool)} {ops : Array Oper} {rest : List Oper} {a : Act} {w : World} {Q : Exit → Act → World → Prop}
theorem step_bRk {x : Operand} {k : Int} (hw : Region.wanted ⟨dst, .build 76 #[(0, x)], ty, pos, aft, gd⟩ (yielded ops a.tmps) = true) (hx : a.eval x = .int .i64 k)
    (h : wpList Try.prog ops Q rest (a.put dst (.agg (rkC k (.slice none 0 0) (.slice none 0 0)).toArray)) w) : wpList Try.prog ops Q (⟨dst, .build 76 #[(0, x)], ty, pos, aft, gd⟩ :: rest) a w :=
  step_run hw _ w (run_op (M := Instr.build 76 #[(0, .int .i64 k)]) (by simp [execOp, hx]) (by kernel_rfl)) h
end
def rm0 : Rm := ⟨.slice none 0 0, .slice none 0 0, [], []⟩
theorem RkAt.new {w : World} {g s : Nat} (h : Blk w g 76 (rkC s (.slice none 0 0) (.slice none 0 0))) (h1 : 1 ≤ s) (h2 : s ≤ 4096) : RkAt w g s [] rm0 :=
  ⟨h1, h2, ⟨h, World.ownsRow_nil _ _ _ _⟩, World.ownsRow_nil _ _ _ _, (fun x hx => by cases hx), rfl, FL.nil, trivial, Nat.le_refl _⟩
theorem rm0_own {g B : Nat} (hg : B ≤ g) : ∀ k, rm0.own g k → B ≤ k := fun k hk => by
  rcases hk with rfl | hk | hk
  · exact hg
  · cases hk
  · cases hk
theorem newR_bad (s : Int) (w : World) (h : s < 1 ∨ 4096 < s) : Calls Try.prog 8 #[.int .i64 s] w fun e w' => e = .returned (.tuple #[.pointer none, .int .i64 2]) ∧ w' = w := by
  by_cases h1 : s < 1
  · go_enter Try.func8, Try.ntmps8
    go_wp2
    go_ret2
    exact ⟨rfl, rfl⟩
  · have h2 : 4096 < s := by omega
    go_enter Try.func8, Try.ntmps8
    go_wp2
    go_ret2
    exact ⟨rfl, rfl⟩
theorem newR_ok (s : Nat) (w : World) (h1 : 1 ≤ s) (h2 : s ≤ 4096) : Calls Try.prog 8 #[.int .i64 (s : Int)] w fun e w' => ∃ g, e = .returned (.tuple #[.pointer (some ⟨g, 0, none⟩), .int .i64 0]) ∧ RkAt w' g s [] rm0 ∧ w.heap.size ≤ g ∧ Below w.heap.size w w' := by
  have h3 : ¬ (s : Int) < 1 := by omega
  have h4 : ¬ 4096 < (s : Int) := by omega
  go_enter Try.func8, Try.ntmps8
  go_wp2_with (first | (refine step_bRk rfl rfl ?_) | (refine step_box (cs := rkC s (.slice none 0 0) (.slice none 0 0)) rfl rfl ?_; intro w1 g hg hl hb))
  go_ret2
  exact ⟨g, rfl, RkAt.new hg h1 h2, hl, hb⟩

section
variable (r s : Nat) (rs : List Rw) (R : Rm) (w : World) (h : RkAt w r s rs R)
include h
theorem RkAt.few2 (hwt : wt rs ≤ 16777216) : R.l.length ≤ 16777216 := by have h1 := h.few; have h2 := len_wt rs; omega
set_option maxRecDepth 100000 in
theorem wrong_t (n : ByteArray) (hwt : wt rs ≤ 16777216) : Calls Try.prog 39 #[.pointer (some ⟨r, 0, none⟩), .string n, .bool true] w fun e w' => e = .returned (.int .i64 (fE rs n)) ∧ Below w.heap.size w w' := by
  have hfew := h.few2 r s rs R w hwt
  have HFD : Hid (∀ W : World, FkAt W r s R.fv R.qv R.l → Calls Try.prog 57 #[.pointer (some ⟨r, 0, none⟩), .string n] W fun e w' => e = .returned (.tuple #[.int .i64 (posF R.l n : Nat), .bool (play rs n).isSome]) ∧ Below W.heap.size W w') := hide (fun W hW => find_any r s R.fv R.qv R.l (play rs) n W hW h.fls hfew)
  have HK := hide h.fk
  clear h hfew hwt
  generalize posF R.l n = I at HFD
  by_cases hn : nmB n = true
  · cases hf : (play rs n).isSome with
    | true =>
      have e0 : fE rs n = 0 := by simp [fE, hn, hf]
      rw [e0]
      rw [hf] at HFD
      clear e0 hf
      go_enter Try.func39, Try.ntmps39
      go_wp2_with (first | (go_at_call 45; refine (nameR_any _ _).mono ?_; rintro e w ⟨rfl, rfl⟩) | (go_at_call 57; refine (HFD.out _ HK.out).mono ?_; rintro e w2 ⟨rfl, hb2⟩))
      go_ret
      exact ⟨rfl, hb2⟩
    | false =>
      have e0 : fE rs n = 121 := by simp [fE, hn, hf]
      rw [e0]
      rw [hf] at HFD
      clear e0 hf
      go_enter Try.func39, Try.ntmps39
      go_wp2_with (first | (go_at_call 45; refine (nameR_any _ _).mono ?_; rintro e w ⟨rfl, rfl⟩) | (go_at_call 57; refine (HFD.out _ HK.out).mono ?_; rintro e w2 ⟨rfl, hb2⟩))
      go_ret
      exact ⟨rfl, hb2⟩
  · have hn' : nmB n = false := by simpa using hn
    have e0 : fE rs n = 2 := by simp [fE, hn']
    rw [e0]
    clear e0 hn
    go_enter Try.func39, Try.ntmps39
    go_wp2_with (first | (go_at_call 45; refine (nameR_any _ _).mono ?_; rintro e w ⟨rfl, rfl⟩))
    go_ret
    exact ⟨rfl, Below.refl _ _⟩
set_option maxRecDepth 100000 in
theorem wrong_f (n : ByteArray) (hwt : wt rs ≤ 16777216) : Calls Try.prog 39 #[.pointer (some ⟨r, 0, none⟩), .string n, .bool false] w fun e w' => e = .returned (.int .i64 (crE rs n)) ∧ Below w.heap.size w w' := by
  have hfew := h.few2 r s rs R w hwt
  have HFD : Hid (∀ W : World, FkAt W r s R.fv R.qv R.l → Calls Try.prog 57 #[.pointer (some ⟨r, 0, none⟩), .string n] W fun e w' => e = .returned (.tuple #[.int .i64 (posF R.l n : Nat), .bool (play rs n).isSome]) ∧ Below W.heap.size W w') := hide (fun W hW => find_any r s R.fv R.qv R.l (play rs) n W hW h.fls hfew)
  have HK := hide h.fk
  clear h hfew hwt
  generalize posF R.l n = I at HFD
  by_cases hn : nmB n = true
  · cases hf : (play rs n).isSome with
    | true =>
      have e0 : crE rs n = 120 := by simp [crE, hn, hf]
      rw [e0]
      rw [hf] at HFD
      clear e0 hf
      go_enter Try.func39, Try.ntmps39
      go_wp2_with (first | (go_at_call 45; refine (nameR_any _ _).mono ?_; rintro e w ⟨rfl, rfl⟩) | (go_at_call 57; refine (HFD.out _ HK.out).mono ?_; rintro e w2 ⟨rfl, hb2⟩))
      go_ret
      exact ⟨rfl, hb2⟩
    | false =>
      have e0 : crE rs n = 0 := by simp [crE, hn, hf]
      rw [e0]
      rw [hf] at HFD
      clear e0 hf
      go_enter Try.func39, Try.ntmps39
      go_wp2_with (first | (go_at_call 45; refine (nameR_any _ _).mono ?_; rintro e w ⟨rfl, rfl⟩) | (go_at_call 57; refine (HFD.out _ HK.out).mono ?_; rintro e w2 ⟨rfl, hb2⟩))
      go_ret
      exact ⟨rfl, hb2⟩
  · have hn' : nmB n = false := by simpa using hn
    have e0 : crE rs n = 2 := by simp [crE, hn']
    rw [e0]
    clear e0 hn
    go_enter Try.func39, Try.ntmps39
    go_wp2_with (first | (go_at_call 45; refine (nameR_any _ _).mono ?_; rintro e w ⟨rfl, rfl⟩))
    go_ret
    exact ⟨rfl, Below.refl _ _⟩
set_option maxRecDepth 100000 in
theorem all_any (n : ByteArray) (hwt : wt rs ≤ 16777216) : Calls Try.prog 42 #[.pointer (some ⟨r, 0, none⟩), .string n] w fun e w' => e = .returned (.tuple #[.string (str (fl (play rs) n)), .bool (play rs n).isSome]) ∧ Below w.heap.size w w' := by
  have hfew := h.few2 r s rs R w hwt
  have HFD : Hid (∀ W : World, FkAt W r s R.fv R.qv R.l → Calls Try.prog 57 #[.pointer (some ⟨r, 0, none⟩), .string n] W fun e w' => e = .returned (.tuple #[.int .i64 (posF R.l n : Nat), .bool (play rs n).isSome]) ∧ Below W.heap.size W w') := hide (fun W hW => find_any r s R.fv R.qv R.l (play rs) n W hW h.fls hfew)
  have HK := hide h.fk
  obtain ⟨A, B, hAB, hA, hlt, hB⟩ := h.fls.split n
  cases hf : play rs n with
  | none =>
    have e1 : fl (play rs) n = [] := by simp [fl, hf]
    rw [e1]
    rw [hf] at HFD
    clear h hfew hwt hAB hA hlt hB e1 hf
    generalize posF R.l n = I at HFD
    go_enter Try.func42, Try.ntmps42
    go_wp2_with (go_at_call 57; refine (HFD.out _ HK.out).mono ?_; rintro e w2 ⟨rfl, hb2⟩)
    go_ret2
    exact ⟨rfl, hb2⟩
  | some xs =>
    obtain ⟨B', rfl⟩ : ∃ B', B = (n, xs) :: B' := by
      rcases hB with ⟨h1, _⟩ | ⟨ys, B', h1, h2, _⟩
      · rw [hf] at h1; cases h1
      · rw [hf] at h1
        injection h1 with h1
        subst h1
        exact ⟨B', h2⟩
    have e1 : fl (play rs) n = xs := by simp [fl, hf]
    rw [e1]
    rw [hf] at HFD
    have hx : R.l[posF R.l n]? = some (n, xs) := by rw [← hA, hAB]; simp
    have hlt2 : posF R.l n < R.l.length := (List.getElem?_eq_some_iff.1 hx).1
    obtain ⟨g, cap, cs, hfv, hg, _, _, _, _, hc1⟩ := h.fk.file hx
    have HG : Hid (Blk w g 90 cs) := hide hg
    generalize hI : posF R.l n = I at HFD hx hlt2 hc1
    have hix := vw_at rFi g R.l.length cap I hlt2
    have HC1 := hide hc1
    have HFV := hide hfv
    generalize hL : R.l.length = L at hfv hix HFV
    clear h hfew hwt hAB hA hlt hB e1 hf hx hlt2 hg hc1 hI hL
    go_enter Try.func42, Try.ntmps42
    go_wp2_with (go_at_call 57; refine (HFD.out _ HK.out).mono ?_; rintro e w2 ⟨rfl, hb2⟩; have c1 : w2.cell? ⟨r, 1, none⟩ = some (.slice (some ⟨g, 0, none⟩) L cap) := (by rw [(HK.out.blk.on hb2).cell, ← HFV.out]; rfl); have c2 : w2.cell? ⟨g, I * 2 + 1, none⟩ = some (.string (str xs)) := (by rw [(HG.out.on hb2).cell]; exact HC1.out))
    go_ret2
    exact ⟨rfl, hb2⟩
end

end Go.Proofs.Ytnkjdoghfdnlaaa
