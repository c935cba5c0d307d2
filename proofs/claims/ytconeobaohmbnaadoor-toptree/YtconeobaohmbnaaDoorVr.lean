/-
  slices.Reverse over halves of the call's own.
-/
import Derived.Test.YtconeobaohmbnaaDoorVh
namespace Go.Proofs.YtconeobaohmbnaaDoor
open Go.RowKit
set_option linter.unusedVariables false

def pg (ns : List Int) (t : Nat) : Int := ns.getD t 0
theorem pg_get {ns : List Int} {t : Nat} (h : t < ns.length) : ns[t]? = some (pg ns t) := by simp [pg, List.getD, h]
/-- The first k and the last k are exchanged. -/
def rvk (ns : List Int) (k : Nat) : List Int := (List.range ns.length).map fun t => if t < k ∨ ns.length ≤ t + k then pg ns (ns.length - 1 - t) else pg ns t
theorem rvk_len (ns : List Int) (k : Nat) : (rvk ns k).length = ns.length := by simp [rvk]
theorem rvk_get (ns : List Int) (k t : Nat) : (rvk ns k)[t]? = if t < ns.length then some (if t < k ∨ ns.length ≤ t + k then pg ns (ns.length - 1 - t) else pg ns t) else none := by
  unfold rvk
  by_cases h : t < ns.length
  · simp [h]
  · simp [h]
theorem rvk_zero (ns : List Int) : rvk ns 0 = ns := by
  apply List.ext_getElem?
  intro t
  rw [rvk_get]
  by_cases h : t < ns.length
  · rw [if_pos h, if_neg (by omega), pg_get h]
  · rw [if_neg h, List.getElem?_eq_none (by omega)]
theorem rvk_step (ns : List Int) (k J : Nat) (hJ : k + J + 1 = ns.length) (h : k < J) : ((rvk ns k).set k (pg ns J)).set J (pg ns k) = rvk ns (k + 1) := by
  apply List.ext_getElem?
  intro t
  rw [rvk_get, List.getElem?_set, List.getElem?_set, List.length_set, rvk_len, rvk_get]
  by_cases h1 : J = t
  · subst h1
    rw [if_pos rfl, if_pos (by omega), if_pos (by omega), if_pos (by omega), show ns.length - 1 - J = k by omega]
  · rw [if_neg h1]
    by_cases h2 : k = t
    · subst h2
      rw [if_pos rfl, if_pos (by omega), if_pos (by omega), if_pos (by omega), show ns.length - 1 - k = J by omega]
    · rw [if_neg h2]
      by_cases h3 : t < ns.length
      · rw [if_pos h3, if_pos h3]
        by_cases h4 : t < k ∨ ns.length ≤ t + k
        · rw [if_pos h4, if_pos (by omega)]
        · rw [if_neg h4, if_neg (by omega)]
      · rw [if_neg h3, if_neg h3]
theorem rvk_end (ns : List Int) (k : Nat) (h : ns.length ≤ 2 * k + 1) : rvk ns k = ns.reverse := by
  apply List.ext_getElem?
  intro t
  rw [rvk_get]
  by_cases h1 : t < ns.length
  · rw [if_pos h1, List.getElem?_reverse h1, pg_get (by omega)]
    by_cases h2 : t < k ∨ ns.length ≤ t + k
    · rw [if_pos h2]
    · rw [if_neg h2]
      congr 2
      omega
  · rw [if_neg h1, List.getElem?_eq_none (by simpa using h1)]
theorem rvk_lo (ns : List Int) (k : Nat) (h : 2 * k < ns.length) : (rvk ns k)[k]? = some (pg ns k) := by
  rw [rvk_get, if_pos (by omega), if_neg (by omega)]
theorem rvk_hi (ns : List Int) (k J : Nat) (hJ : k + J + 1 = ns.length) (h : k < J) : (rvk ns k)[J]? = some (pg ns J) := by
  rw [rvk_get, if_pos (by omega), if_neg (by omega)]

section
variable {dst : Option Tmp} {ty : TypeId} {pos : String} {aft : Array Edge} {gd : Option (Nat × Bool)} {a : Act} {w : World} {K : Act → World → Prop} {Q : Exit → Act → World → Prop}
theorem wploadH {x : Operand} {B g cap m i : Nat} {ns : List Int} {n : Int} (hx : a.eval x = .pointer (some ⟨g, i, none⟩)) (ho : OwnH w B (.slice (some ⟨g, 0, none⟩) m cap) ns) (hi : ns[i]? = some n) (h : K (a.put dst (.int .i64 n)) w) :
    Oper.wp Tryd.prog ⟨dst, .load 126 x, ty, pos, aft, gd⟩ a w K Q := by
  have hc := ho.cell i n hi
  refine wp_runV (.int .i64 n) w ?_ h
  unfold execOp
  simp only [hx]
  go_simp
theorem wpstoreH {x y : Operand} {B g cap m i : Nat} {ns : List Int} {n : Int} (hx : a.eval x = .pointer (some ⟨g, i, none⟩)) (hy : a.eval y = .int .i64 n) (ho : OwnH w B (.slice (some ⟨g, 0, none⟩) m cap) ns) (hi : i < ns.length)
    (h : ∀ w1, OwnH w1 B (.slice (some ⟨g, 0, none⟩) m cap) (ns.set i n) → But g w w1 → K (a.put dst undef) w1) : Oper.wp Tryd.prog ⟨dst, .store 126 x y, ty, pos, aft, gd⟩ a w K Q := by
  have hc := ho.cell i _ (List.getElem?_eq_getElem hi)
  have hf := ho.free i
  have H := h _ (ho.set i n) (But.setCell _ _ _ _)
  clear h
  unfold Oper.wp execOp
  simp only [hx, hy]
  go_simp
  exact H
end

set_option maxRecDepth 100000 in
set_option maxHeartbeats 1000000 in
theorem reverse_own (B g cap n : Nat) (ns : List Int) (w : World) (hn : ns.length = n) (hn2 : n ≤ 1048576) (h : OwnH w B (.slice (some ⟨g, 0, none⟩) n cap) ns) :
    Calls Tryd.prog 113 #[.slice (some ⟨g, 0, none⟩) n cap] w fun r w' => (∃ x, r = .returned x) ∧ OwnH w' B (.slice (some ⟨g, 0, none⟩) n cap) ns.reverse ∧ But g w w' := by
  have H := hide h
  have HN := hide hn
  clear h hn
  go_enter Tryd.func113, Tryd.ntmps113
  go_wp2_with fail
  go_loopw [2, 3] (fun s2 s3 wr => ∃ k : Nat, s2 = .int .i64 (k : Int) ∧ s3 = .int .i64 ((n : Int) - 1 - (k : Int)) ∧ 2 * k ≤ n + 1 ∧ Hid (OwnH wr B (.slice (some ⟨g, 0, none⟩) n cap) (rvk ns k)) ∧ Hid (But g w wr)) (fun s2 _ _ => n + 1 - (intOf s2).toNat)
  case atStart => exact ⟨0, rfl, by simp, by omega, hide (by rw [rvk_zero]; exact H.out), hide (But.refl _ _)⟩
  case round =>
    obtain ⟨k, rfl, rfl, hk2, O, BU⟩ := hrel
    by_cases hlt : 2 * k + 1 < n
    · obtain ⟨J, hJ'⟩ : ∃ J : Nat, J = n - 1 - k := ⟨_, rfl⟩
      have hj : (n : Int) - 1 - (k : Int) = (J : Int) := by omega
      rw [hj]
      have hkJ : k < J := by omega
      have hkJ' : (k : Int) < (J : Int) := by omega
      have hkn : k < n := by omega
      have hJn : J < n := by omega
      have hJ : k + J + 1 = ns.length := by rw [HN.out]; omega
      have HJ := hide hJ
      clear hJ hj hJ'
      have hJ := HJ.out
      go_wp2_with fail
      refine wp_region_held_drew (S := fun _ => True) (by kernel_rfl) trivial (fun hHeld => ?_)
      refine takeH 0 14 (.slice (some ⟨g, 0, none⟩) n cap) hHeld rfl rfl (by kernel_rfl) (by kernel_rfl) (by kernel_rfl) (fun _ _ _ h => h) (Or.inl ⟨by rfl, fun w _ => by go_simp⟩) ?_
      simp only [Act.put, List.setIfInBounds_toArray, List.set_cons_zero, List.set_cons_succ]
      refine takeH 1 15 (.int .i64 (k : Int)) hHeld rfl rfl (by kernel_rfl) (by kernel_rfl) (by kernel_rfl) (fun _ _ _ h => h) (Or.inl ⟨by rfl, fun w _ => by go_simp⟩) ?_
      simp only [Act.put, List.setIfInBounds_toArray, List.set_cons_zero, List.set_cons_succ]
      refine takeH 2 16 (.slice (some ⟨g, 0, none⟩) n cap) hHeld rfl rfl (by kernel_rfl) (by kernel_rfl) (by kernel_rfl) (fun _ _ _ h => h) (Or.inl ⟨by rfl, fun w _ => by go_simp⟩) ?_
      simp only [Act.put, List.setIfInBounds_toArray, List.set_cons_zero, List.set_cons_succ]
      refine takeH 3 17 (.int .i64 (J : Int)) hHeld rfl rfl (by kernel_rfl) (by kernel_rfl) (by kernel_rfl) (fun _ _ _ h => h) (Or.inl ⟨by rfl, fun w _ => by go_simp⟩) ?_
      simp only [Act.put, List.setIfInBounds_toArray, List.set_cons_zero, List.set_cons_succ]
      refine takeH 4 18 (.slice (some ⟨g, 0, none⟩) n cap) hHeld rfl rfl (by kernel_rfl) (by kernel_rfl) (by kernel_rfl) (fun _ _ _ h => h) (Or.inl ⟨by rfl, fun w _ => by go_simp⟩) ?_
      simp only [Act.put, List.setIfInBounds_toArray, List.set_cons_zero, List.set_cons_succ]
      refine takeH 5 19 (.int .i64 (J : Int)) hHeld rfl rfl (by kernel_rfl) (by kernel_rfl) (by kernel_rfl) (fun _ _ _ h => h) (Or.inl ⟨by rfl, fun w _ => by go_simp⟩) ?_
      simp only [Act.put, List.setIfInBounds_toArray, List.set_cons_zero, List.set_cons_succ]
      refine takeH 6 20 (.pointer (some ⟨g, J, none⟩)) hHeld rfl rfl (by kernel_rfl) (by kernel_rfl) (by kernel_rfl) (fun _ _ _ h => h) (Or.inl ⟨by rfl, fun w _ => run_op rfl ((atH g n cap J _ rfl hJn) w)⟩) ?_
      simp only [Act.put, List.setIfInBounds_toArray, List.set_cons_zero, List.set_cons_succ]
      refine takeH 8 22 (.slice (some ⟨g, 0, none⟩) n cap) hHeld rfl rfl (by kernel_rfl) (by kernel_rfl) (by kernel_rfl) (fun _ _ _ h => h) (Or.inl ⟨by rfl, fun w _ => by go_simp⟩) ?_
      simp only [Act.put, List.setIfInBounds_toArray, List.set_cons_zero, List.set_cons_succ]
      refine takeH 9 23 (.int .i64 (k : Int)) hHeld rfl rfl (by kernel_rfl) (by kernel_rfl) (by kernel_rfl) (fun _ _ _ h => h) (Or.inl ⟨by rfl, fun w _ => by go_simp⟩) ?_
      simp only [Act.put, List.setIfInBounds_toArray, List.set_cons_zero, List.set_cons_succ]
      refine takeH 10 24 (.pointer (some ⟨g, k, none⟩)) hHeld rfl rfl (by kernel_rfl) (by kernel_rfl) (by kernel_rfl) (fun _ _ _ h => h) (Or.inl ⟨by rfl, fun w _ => run_op rfl ((atH g n cap k _ rfl hkn) w)⟩) ?_
      simp only [Act.put, List.setIfInBounds_toArray, List.set_cons_zero, List.set_cons_succ]
      have O' := hide (O.out.below ((Below.refl _ _).drew))
      clear O
      have O := O'
      clear O'
      refine wpAnyH_ready (rs := [7, 11]) (by kernel_rfl) (by simp) (AllReadyH.cons rfl (fun K hK => ?_) (AllReadyH.cons rfl (fun K hK => ?_) AllReadyH.nil))
      · rw [if_pos (by rfl)]
        refine wploadH (i := J) rfl O.out (rvk_hi ns k J hJ hkJ) ?_
        refine hK.out _ _ (trivial) (fun hHeld => ?_)
        clear hK K
        simp only [Act.put, List.setIfInBounds_toArray, List.set_cons_zero, List.set_cons_succ]
        refine wpAnyH_ready (rs := [11]) (by kernel_rfl) (by simp) (AllReadyH.cons rfl (fun K hK => ?_) AllReadyH.nil)
        rw [if_pos (by rfl)]
        refine wploadH (i := k) rfl O.out (rvk_lo ns k (by omega)) ?_
        refine hK.out _ _ (trivial) (fun hHeld => ?_)
        clear hK K
        simp only [Act.put, List.setIfInBounds_toArray, List.set_cons_zero, List.set_cons_succ]
        refine takeH 12 26 (.pointer (some ⟨g, k, none⟩)) hHeld rfl rfl (by kernel_rfl) (by kernel_rfl) (by kernel_rfl) (fun _ _ _ h => h) (Or.inl ⟨by rfl, fun w _ => run_op rfl ((atH g n cap k _ rfl hkn) w)⟩) ?_
        simp only [Act.put, List.setIfInBounds_toArray, List.set_cons_zero, List.set_cons_succ]
        refine wpAnyH_ready (rs := [13]) (by kernel_rfl) (by simp) (AllReadyH.cons rfl (fun K hK => ?_) AllReadyH.nil)
        rw [if_pos (by rfl)]
        refine wpstoreH (n := pg ns J) (i := k) rfl rfl O.out (by rw [rvk_len]; omega) ?_
        intro w5 ho5 hbut5
        have O5 := hide ho5
        refine hK.out _ _ trivial (fun hHeld => ?_)
        clear hK K ho5
        refine takeH 14 27 (.pointer (some ⟨g, J, none⟩)) hHeld rfl rfl (by kernel_rfl) (by kernel_rfl) (by kernel_rfl) (fun _ _ _ h => h) (Or.inl ⟨by rfl, fun w _ => run_op rfl ((atH g n cap J _ rfl hJn) w)⟩) ?_
        simp only [Act.put, List.setIfInBounds_toArray, List.set_cons_zero, List.set_cons_succ]
        refine wpAnyH_ready (rs := [15]) (by kernel_rfl) (by simp) (AllReadyH.cons rfl (fun K hK => ?_) AllReadyH.nil)
        rw [if_pos (by rfl)]
        refine wpstoreH (n := pg ns k) (i := J) rfl rfl O5.out (by rw [List.length_set, rvk_len]; omega) ?_
        intro w6 ho6 hbut6
        refine hK.out _ _ trivial (fun hHeld => ?_)
        clear hK K
        have O6 : Hid (OwnH w6 B (.slice (some ⟨g, 0, none⟩) n cap) (rvk ns (k + 1))) := hide (by rw [← rvk_step ns k J hJ hkJ]; exact ho6)
        have BU6 := hide ((BU.out.trans (b := wr) (c := wr.drew) ⟨rfl, rfl, rfl, rfl, fun _ _ => rfl⟩).trans (hbut5.trans hbut6))
        clear ho6 hbut5 hbut6
        refine wpAnyH_done (by kernel_rfl) ?_ _
        clear hHeld
        go_wp2
        go_roundw
        case rel => exact ⟨k + 1, by simp, by have := HN.out; simp; omega, by omega, O6, BU6⟩
        case measure => simp only [intOf]; omega
      · rw [if_pos (by rfl)]
        refine wploadH (i := k) rfl O.out (rvk_lo ns k (by omega)) ?_
        refine hK.out _ _ (trivial) (fun hHeld => ?_)
        clear hK K
        simp only [Act.put, List.setIfInBounds_toArray, List.set_cons_zero, List.set_cons_succ]
        refine wpAnyH_ready (rs := [7]) (by kernel_rfl) (by simp) (AllReadyH.cons rfl (fun K hK => ?_) AllReadyH.nil)
        rw [if_pos (by rfl)]
        refine wploadH (i := J) rfl O.out (rvk_hi ns k J hJ hkJ) ?_
        refine hK.out _ _ (trivial) (fun hHeld => ?_)
        clear hK K
        simp only [Act.put, List.setIfInBounds_toArray, List.set_cons_zero, List.set_cons_succ]
        refine takeH 12 26 (.pointer (some ⟨g, k, none⟩)) hHeld rfl rfl (by kernel_rfl) (by kernel_rfl) (by kernel_rfl) (fun _ _ _ h => h) (Or.inl ⟨by rfl, fun w _ => run_op rfl ((atH g n cap k _ rfl hkn) w)⟩) ?_
        simp only [Act.put, List.setIfInBounds_toArray, List.set_cons_zero, List.set_cons_succ]
        refine wpAnyH_ready (rs := [13]) (by kernel_rfl) (by simp) (AllReadyH.cons rfl (fun K hK => ?_) AllReadyH.nil)
        rw [if_pos (by rfl)]
        refine wpstoreH (n := pg ns J) (i := k) rfl rfl O.out (by rw [rvk_len]; omega) ?_
        intro w5 ho5 hbut5
        have O5 := hide ho5
        refine hK.out _ _ trivial (fun hHeld => ?_)
        clear hK K ho5
        refine takeH 14 27 (.pointer (some ⟨g, J, none⟩)) hHeld rfl rfl (by kernel_rfl) (by kernel_rfl) (by kernel_rfl) (fun _ _ _ h => h) (Or.inl ⟨by rfl, fun w _ => run_op rfl ((atH g n cap J _ rfl hJn) w)⟩) ?_
        simp only [Act.put, List.setIfInBounds_toArray, List.set_cons_zero, List.set_cons_succ]
        refine wpAnyH_ready (rs := [15]) (by kernel_rfl) (by simp) (AllReadyH.cons rfl (fun K hK => ?_) AllReadyH.nil)
        rw [if_pos (by rfl)]
        refine wpstoreH (n := pg ns k) (i := J) rfl rfl O5.out (by rw [List.length_set, rvk_len]; omega) ?_
        intro w6 ho6 hbut6
        refine hK.out _ _ trivial (fun hHeld => ?_)
        clear hK K
        have O6 : Hid (OwnH w6 B (.slice (some ⟨g, 0, none⟩) n cap) (rvk ns (k + 1))) := hide (by rw [← rvk_step ns k J hJ hkJ]; exact ho6)
        have BU6 := hide ((BU.out.trans (b := wr) (c := wr.drew) ⟨rfl, rfl, rfl, rfl, fun _ _ => rfl⟩).trans (hbut5.trans hbut6))
        clear ho6 hbut5 hbut6
        refine wpAnyH_done (by kernel_rfl) ?_ _
        clear hHeld
        go_wp2
        go_roundw
        case rel => exact ⟨k + 1, by simp, by have := HN.out; simp; omega, by omega, O6, BU6⟩
        case measure => simp only [intOf]; omega
    · have hc : ¬ ((k : Int) < (n : Int) - 1 - (k : Int)) := by omega
      go_wp2
      refine bodyPost_end (results_none rfl _ _ _) rfl ⟨⟨_, rfl⟩, ?_, BU.out⟩
      rw [← rvk_end ns k (by rw [HN.out]; omega)]
      exact O.out

theorem reverse_nil (w : World) : Calls Tryd.prog 113 #[.slice none 0 0] w fun r w' => (∃ x, r = .returned x) ∧ w' = w := by
  go_enter Tryd.func113, Tryd.ntmps113
  go_wp2_with fail
  go_loopw [2, 3] (fun s2 s3 wr => s2 = .int .i64 0 ∧ s3 = .int .i64 (-1) ∧ wr = w) (fun _ _ _ => 0)
  case atStart => exact ⟨rfl, rfl, rfl⟩
  case round =>
    obtain ⟨rfl, rfl, rfl⟩ := hrel
    go_wp2
    exact bodyPost_end (results_none rfl _ _ _) rfl ⟨⟨_, rfl⟩, rfl⟩
theorem reverse_any (B : Nat) (v : Value) (ns : List Int) (w : World) (hn2 : ns.length ≤ 1048576) (hB : B ≤ w.heap.size) (h : OwnH w B v ns) :
    Calls Tryd.prog 113 #[v] w fun r w' => (∃ x, r = .returned x) ∧ OwnH w' B v ns.reverse ∧ Below B w w' := by
  rcases h.lies with ⟨rfl, rfl⟩ | ⟨g, cap, cs, rfl, hg, _⟩
  · refine (reverse_nil w).mono ?_
    rintro r w' ⟨hr, rfl⟩
    exact ⟨hr, h, Below.refl _ _⟩
  · refine (reverse_own B g cap ns.length ns w rfl hn2 h).mono ?_
    rintro r w' ⟨hr, ho, hbut⟩
    exact ⟨hr, ho, hbut.below hg⟩

end Go.Proofs.YtconeobaohmbnaaDoor
