/-
  The law's call: one act done to a disk; acts one behind the other.
-/
import Derived.Test.YtnkjdoghfdnlaaaKmj
import Derived.Test.YtnkjdoghfdnlaaaKac
namespace Go.Proofs.Ytnkjdoghfdnlaaa
open Go.RowKit
set_option linter.unusedVariables false

/-- The raw writes behind an act. -/
def actS (s : Nat) (rs : List Rw) (x : Ac) : List Rw :=
  if x.k = 0 then crS rs x.n else if x.k = 1 then apS s rs x.n x.xs else if x.k = 2 then cuS rs x.n x.p else if x.k = 3 then rmS rs x.n else if x.k = 4 then rnS rs x.n x.t else rs
def acS (s : Nat) (rs : List Rw) (L : List Ac) : List Rw := L.foldl (actS s) rs
theorem acS_succ (s : Nat) (rs : List Rw) (L : List Ac) (k : Nat) (x : Ac) (h : L[k]? = some x) : acS s rs (L.take (k + 1)) = actS s (acS s rs (L.take k)) x := by
  obtain ⟨hk, rfl⟩ := List.getElem?_eq_some_iff.1 h
  rw [List.take_succ_eq_append_getElem hk, acS, List.foldl_append]
  rfl
theorem wt_one (rs : List Rw) (r : Rw) (h : r.b = []) : wt (rs ++ [r]) = wt rs + 1 := by rw [wt_app]; simp [wt, h]
theorem wt_act {s : Nat} (hs : 1 ≤ s) (rs : List Rw) (x : Ac) : wt (actS s rs x) ≤ wt rs + 2 * x.bulk := by
  unfold Ac.bulk actS
  split
  · unfold crS; split
    · rw [wt_one _ _ rfl]; omega
    · omega
  · split
    · unfold apS; split
      · rw [wt_app]
        have h := expd_wt hs ⟨rAp x.n x.xs, rs.length, (fl (play rs) x.n).length⟩
        have h2 : (⟨rAp x.n x.xs, rs.length, (fl (play rs) x.n).length⟩ : En).r.b.length = x.xs.length := rfl
        omega
      · omega
    · split
      · unfold cuS; split
        · rw [wt_one _ _ rfl]; omega
        · omega
      · split
        · unfold rmS; split
          · rw [wt_one _ _ rfl]; omega
          · omega
        · split
          · unfold rnS; split
            · rw [wt_one _ _ rfl]; omega
            · omega
          · omega
theorem wt_acS {s : Nat} (hs : 1 ≤ s) : ∀ (L : List Ac) (rs : List Rw), wt (acS s rs L) ≤ wt rs + 2 * bulks L
  | [], rs => by simp [acS, bulks]
  | x :: L, rs => by
    have h1 := wt_acS hs L (actS s rs x)
    have h2 := wt_act hs rs x
    have e : bulks (x :: L) = x.bulk + bulks L := by simp [bulks]
    have e2 : acS s rs (x :: L) = acS s (actS s rs x) L := rfl
    rw [e, e2]
    omega
theorem OpR.step {a b c : World} {d s : Nat} {D D1 : Dm} {rs2 : List Rw} (h2 : Chs (D.own d) a b) (h3 : ∀ k, D1.own d k → D.own d k ∨ a.heap.size ≤ k) (h4 : ∀ k, D1.ro k → D.ro k ∨ a.heap.size ≤ k) (k : OpR b c d s D1 rs2) : OpR a c d s D rs2 := by
  obtain ⟨D2, k1, k2, k3, k4⟩ := k
  have hsz := h2.size
  refine ⟨D2, k1, h2.after k2 h3, fun z hz => ?_, fun z hz => ?_⟩
  · rcases k3 z hz with h | h
    · exact h3 z h
    · exact .inr (Nat.le_trans hsz h)
  · rcases k4 z hz with h | h
    · exact h4 z h
    · exact .inr (Nat.le_trans hsz h)
set_option maxRecDepth 100000 in
theorem call_any (d s : Nat) (rs : List Rw) (D : Dm) (x : Ac) (w : World) (h : DkAt w d s rs D) (hx : x.In w) (hwt : wt rs + 2 * x.bulk ≤ 16777216) :
    Calls Try.prog 34 #[.pointer (some ⟨d, 0, none⟩), .agg x.cells.toArray] w fun e w' => e = .returned (.tuple #[]) ∧ OpR w w' d s D (actS s rs x) := by
  have HH := hide h
  have HX := hide hx
  have HW : Hid (wt rs + 2 * x.xs.length + 1 ≤ 16777216) := hide (by unfold Ac.bulk at hwt; omega)
  obtain ⟨k, hkk⟩ : ∃ k, k = x.k := ⟨_, rfl⟩
  clear h hx hwt
  go_enter Try.func34, Try.ntmps34
  go_wp2_with (refine step_box (cs := x.cells) rfl rfl ?_)
  intro w1 g hg hle hb
  have hk : w1.cell? ⟨g, 0, none⟩ = some (.int .i64 k) := by rw [hg.cell, hkk]; rfl
  have c1 : w1.cell? ⟨g, 1, none⟩ = some (.string x.n) := by rw [hg.cell]; rfl
  have c2 : w1.cell? ⟨g, 2, none⟩ = some (.string x.t) := by rw [hg.cell]; rfl
  have c3 : w1.cell? ⟨g, 3, none⟩ = some (.slice x.a x.l x.c) := by rw [hg.cell]; rfl
  have c4 : w1.cell? ⟨g, 4, none⟩ = some (.int .i64 x.p) := by rw [hg.cell]; rfl
  have HKK := hide hkk
  have HB := hide hb
  have H1 := hide (HH.out.below hb)
  have fin : ∀ w2 rs2, OpR w1 w2 d s D rs2 → OpR w w2 d s D rs2 := fun w2 rs2 hop => OpR.step (Chs.of_below _ HB.out) (fun k hk => .inl hk) (fun k hk => .inl hk) hop
  have FIN := hide fin
  clear hg hle hb fin hkk
  by_cases h0 : k = 0
  · subst h0
    have e : actS s rs x = crS rs x.n := by rw [actS, if_pos HKK.out.symm]
    have EE := hide e
    clear e
    go_wp2_with fail
    refine (create_any d s rs D _ H1.out x.n (by have := HW.out; omega)).mono ?_
    rintro e w2 ⟨rfl, hop⟩
    go_wp2
    go_end0
    exact ⟨rfl, by rw [EE.out]; exact FIN.out _ _ hop⟩
  by_cases h1 : k = 1
  · subst h1
    have e : actS s rs x = apS s rs x.n x.xs := by rw [actS, if_neg (by rw [← HKK.out]; decide), if_pos HKK.out.symm]
    have EE := hide e
    clear e
    go_wp2_with fail
    refine (append_any d s rs D _ H1.out x.n _ _ _ x.xs (HX.out.sl.below HB.out) (by have := HW.out; omega)).mono ?_
    rintro e w2 ⟨rfl, hop⟩
    go_wp2
    go_end0
    exact ⟨rfl, by rw [EE.out]; exact FIN.out _ _ hop⟩
  by_cases h2 : k = 2
  · subst h2
    have e : actS s rs x = cuS rs x.n x.p := by rw [actS, if_neg (by rw [← HKK.out]; decide), if_neg (by rw [← HKK.out]; decide), if_pos HKK.out.symm]
    have EE := hide e
    clear e
    go_wp2_with fail
    refine (cut_any d s rs D _ H1.out x.n x.p (by have := HW.out; omega)).mono ?_
    rintro e w2 ⟨rfl, hop⟩
    go_wp2
    go_end0
    exact ⟨rfl, by rw [EE.out]; exact FIN.out _ _ hop⟩
  by_cases h3 : k = 3
  · subst h3
    have e : actS s rs x = rmS rs x.n := by rw [actS, if_neg (by rw [← HKK.out]; decide), if_neg (by rw [← HKK.out]; decide), if_neg (by rw [← HKK.out]; decide), if_pos HKK.out.symm]
    have EE := hide e
    clear e
    go_wp2_with fail
    refine (remove_any d s rs D _ H1.out x.n (by have := HW.out; omega)).mono ?_
    rintro e w2 ⟨rfl, hop⟩
    go_wp2
    go_end0
    exact ⟨rfl, by rw [EE.out]; exact FIN.out _ _ hop⟩
  by_cases h4 : k = 4
  · subst h4
    have e : actS s rs x = rnS rs x.n x.t := by rw [actS, if_neg (by rw [← HKK.out]; decide), if_neg (by rw [← HKK.out]; decide), if_neg (by rw [← HKK.out]; decide), if_neg (by rw [← HKK.out]; decide), if_pos HKK.out.symm]
    have EE := hide e
    clear e
    go_wp2_with fail
    refine (rename_any d s rs D _ H1.out x.n x.t (by have := HW.out; omega)).mono ?_
    rintro e w2 ⟨rfl, hop⟩
    go_wp2
    go_end0
    exact ⟨rfl, by rw [EE.out]; exact FIN.out _ _ hop⟩
  · have e : actS s rs x = rs := by rw [actS, if_neg (by rw [← HKK.out]; exact h0), if_neg (by rw [← HKK.out]; exact h1), if_neg (by rw [← HKK.out]; exact h2), if_neg (by rw [← HKK.out]; exact h3), if_neg (by rw [← HKK.out]; exact h4)]
    have EE := hide e
    clear e
    go_wp2
    go_end0
    exact ⟨rfl, by rw [EE.out]; exact OpR.below HH.out HB.out⟩

theorem sizeA (w : World) : (sizeOf 33).run Try.prog w = .ok 6 w := by kernel_rfl
theorem elemA : Try.prog.elem 22 = 33 := by kernel_rfl
theorem undAs : Try.prog.underlying 22 = some (.slice (Try.prog.elem 22)) := by kernel_rfl
theorem ac_at (b o n cap i : Nat) (hi : i < n) (v : World) : (Instr.indexAt 22 (.slice (some ⟨b, o, none⟩) n cap) (.int .i64 (i : Int))).run Try.prog v = .ok (.pointer (some ⟨b, o + i * 6, none⟩)) v := by
  rw [run_indexAt_slice v _ _ _ _ .i64 i undAs, if_pos ⟨by omega, by omega⟩, elemA, sizeA]
  simp only [Result.andThen_ok, Int.toNat_natCast]
  rw [Addr.add_lit]
section
variable {dst : Option Tmp} {ty : TypeId} {pos : String} {aft : Array Edge} {gd : Option (Nat × Bool)} {ops : Array Oper} {rest : List Oper} {a : Act} {w : World} {Q : Exit → Act → World → Prop}
theorem step_loadR {T : TypeId} {n : Nat} (hT : Wide T n) {x : Operand} (hw : Region.wanted ⟨dst, .load T x, ty, pos, aft, gd⟩ (yielded ops a.tmps) = true) {g off : Nat} (hx : a.eval x = .pointer (some ⟨g, off, none⟩)) (vs : List Value) (hg : w.rangeAt g off vs) (hn : vs.length = n)
    (h : wpList Try.prog ops Q rest (a.put dst (.agg vs.toArray)) w) : wpList Try.prog ops Q (⟨dst, .load T x, ty, pos, aft, gd⟩ :: rest) a w := by
  subst hn
  obtain ⟨d, hu, hd⟩ := hT.und
  exact BigFrame.wpList_want hw fun _ hK => wp_load_mid T x rfl g off hx vs d hg hu hd hT.size (hK _ _ h)
end

end Go.Proofs.Ytnkjdoghfdnlaaa
