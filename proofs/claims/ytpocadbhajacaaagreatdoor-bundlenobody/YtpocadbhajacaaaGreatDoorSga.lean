/-
  What Puts write, and what calls of a disk leave: what layers above disk have in common (out of Skb, Ske, Spu, SpwLaw).
-/
import Derived.Test.YtpocadbhajacaaaGreatDoorKgn
import Derived.Test.YtpocadbhajacaaaGreatDoorKmh
import Derived.Test.YtpocadbhajacaaaGreatDoorKql
namespace Go.Proofs.YtpocadbhajacaaaGreatDoor
open Go.RowKit
set_option linter.unusedVariables false
set_option linter.unusedSimpArgs false
set_option maxRecDepth 100000

/-- What Put writes: a file where there is none, and a digest. -/
def puW (s : Nat) (rs : List Rw) (n : ByteArray) (x : List Int) : List Rw := apS s (crS rs n) n x
/-! ### the raw writes of a Put -/
theorem crS_is {rs : List Rw} {n : ByteArray} (hn : nmB n = true) : crS rs n = if play rs n = none then rs ++ [rCr n] else rs := by
  unfold crS crE
  rw [if_pos hn]
  cases hf : play rs n with
  | none => simp
  | some xs => simp
/-- What Put's raw writes make, and those of a beginning of them. -/
theorem puW_play {s : Nat} {rs : List Rw} (hs : 1 ≤ s) (hv : Val s (fun _ => none) rs) {n : ByteArray} (hn : nmB n = true) {x : List Int} (h0 : x ≠ []) (hB : isB x) :
    Val s (fun _ => none) (puW s rs n x) ∧ play (puW s rs n x) = upd (play rs) n (some (fl (play rs) n ++ x)) ∧ wt (puW s rs n x) ≤ wt rs + 2 * x.length + 2 := by
  have key : ∀ qs : List Rw, Val s (fun _ => none) qs → (∃ ys, play qs n = some ys) → Val s (fun _ => none) (apS s qs n x) ∧ play (apS s qs n x) = upd (play qs) n (some (fl (play qs) n ++ x)) ∧ wt (apS s qs n x) ≤ wt qs + 2 * x.length + 1 := by
    rintro qs hq ⟨ys, hys⟩
    have e0 : fE qs n = 0 := by simp [fE, hn, hys]
    have e1 : apS s qs n x = qs ++ expd s ⟨rAp n x, qs.length, (fl (play qs) n).length⟩ := by unfold apS; rw [if_pos ⟨e0, h0⟩]
    have hl : Leg (play qs) (rAp n x) := .inr (.inl ⟨n, x, ys, rfl, hn, hys, h0, hB⟩)
    obtain ⟨d1, d2⟩ := expd_does hs (e := ⟨rAp n x, qs.length, (fl (play qs) n).length⟩) hl rfl
    rw [e1]
    refine ⟨(Val_app s qs _ _).2 ⟨hq, d2⟩, ?_, ?_⟩
    · rw [play_app]
      show List.foldl doR (play qs) _ = _
      rw [d1]
      exact do_ap _ _ _
    · rw [wt_app]
      have := expd_wt hs ⟨rAp n x, qs.length, (fl (play qs) n).length⟩
      change _ ≤ 2 * x.length + 1 at this
      omega
  unfold puW
  rw [crS_is hn]
  by_cases hf : play rs n = none
  · rw [if_pos hf]
    have e2 : play (rs ++ [rCr n]) = upd (play rs) n (some []) := by rw [play_snoc, do_cr]
    have hv2 : Val s (fun _ => none) (rs ++ [rCr n]) := (Val_app s rs _ _).2 ⟨hv, ⟨.inl ⟨n, rfl, hn, hf⟩, fun h => by simp [rCr] at h⟩, trivial⟩
    obtain ⟨a, b, c⟩ := key _ hv2 ⟨[], by rw [e2, upd_same]⟩
    refine ⟨a, ?_, ?_⟩
    · rw [b, e2, upd_upd, fl_upS]
      simp [fl_none hf]
    · rw [wt_app] at c
      have e : wt [rCr n] = 1 := rfl
      omega
  · rw [if_neg hf]
    obtain ⟨ys, hys⟩ : ∃ ys, play rs n = some ys := by
      cases h : play rs n with
      | none => exact absurd h hf
      | some ys => exact ⟨ys, rfl⟩
    obtain ⟨a, b, c⟩ := key _ hv ⟨ys, hys⟩
    exact ⟨a, b, by omega⟩

theorem DkAt.valS {w : World} {d s : Nat} {rs : List Rw} {D : Dm} (h : DkAt w d s rs D) : Val s (fun _ => none) rs := by
  have := h.rok.val h.s1 (D.es.map (·.1)).length (Nat.le_refl _)
  rwa [List.take_length, h.raw] at this
theorem DkAt.byB {w : World} {d s : Nat} {rs : List Rw} {D : Dm} (h : DkAt w d s rs D) (n : ByteArray) : isB (fl (play rs) n) := by
  cases hf : play rs n with
  | none => simp only [fl, hf]; intro x hx; cases hx
  | some xs =>
    obtain ⟨v, _, _, hb⟩ := h.fil.get hf
    simp only [fl, hf]
    exact hb
theorem isB.dropS {xs : List Int} (h : isB xs) (n : Nat) : isB (xs.drop n) := fun x hx => h x (List.mem_of_mem_drop hx)
theorem isB.takeS {xs : List Int} (h : isB xs) (n : Nat) : isB (xs.take n) := fun x hx => h x (List.mem_of_mem_take hx)
theorem crS_some {rs : List Rw} {n : ByteArray} {xs : List Int} (hn : nmB n = true) (h : play rs n = some xs) : crS rs n = rs := by
  have e : crE rs n = 120 := by simp [crE, hn, h]
  simp [crS, e]
theorem OpR.pre {w w0 w1 : World} {d s : Nat} {D : Dm} {rs : List Rw} (hb : Below w.heap.size w w0) (h : OpR w0 w1 d s D rs) : OpR w w1 d s D rs := by
  obtain ⟨D', h1, h2, h3, h4⟩ := h
  have hs := hb.size
  exact ⟨D', h1, (Chs.of_below _ hb).after h2 (fun k hk => .inl hk), fun k hk => (h3 k hk).imp id (fun h => Nat.le_trans hs h), fun k hk => (h4 k hk).imp id (fun h => Nat.le_trans hs h)⟩
theorem OpR.comp {w w1 w2 : World} {d s : Nat} {D D1 : Dm} {rs2 : List Rw} (a2 : Chs (D.own d) w w1) (a3 : ∀ k, D1.own d k → D.own d k ∨ w.heap.size ≤ k) (a4 : ∀ k, D1.ro k → D.ro k ∨ w.heap.size ≤ k) (h : OpR w1 w2 d s D1 rs2) : OpR w w2 d s D rs2 := by
  obtain ⟨D', h1, h2, h3, h4⟩ := h
  have hs := a2.size
  refine ⟨D', h1, a2.after h2 a3, fun k hk => ?_, fun k hk => ?_⟩
  · rcases h3 k hk with h | h
    · exact a3 k h
    · exact .inr (Nat.le_trans hs h)
  · rcases h4 k hk with h | h
    · exact a4 k h
    · exact .inr (Nat.le_trans hs h)
theorem OpR.post {w w1 w2 : World} {d s : Nat} {D : Dm} {rs : List Rw} (h : OpR w w1 d s D rs) (hb : Below w1.heap.size w1 w2) : OpR w w2 d s D rs := by
  obtain ⟨D', h1, h2, h3, h4⟩ := h
  exact ⟨D', h1.below hb, h2.after (Chs.of_below (fun _ => False) hb) (fun k hk => hk.elim), h3, h4⟩
theorem DkAt.chS {a b : World} {d s : Nat} {rs : List Rw} {D : Dm} {S : Nat → Prop} (h : DkAt a d s rs D) (hc : Chs S a b) (hn : ∀ k, D.own d k ∨ D.ro k → ¬ S k) : DkAt b d s rs D := h.same (fun k hk => hc.block k (h.lt hk) (hn k hk))
theorem OpR.belowB {w0 w1 w2 : World} {o s : Nat} {D : Dm} {rs : List Rw} (hb : Below w0.heap.size w0 w1) (ho : ∀ k, D.own o k → w0.heap.size ≤ k) (h : OpR w1 w2 o s D rs) : Below w0.heap.size w0 w2 := by
  obtain ⟨D', _, h2, _, _⟩ := h
  exact hb.trans (h2.below (fun q hq hown => by have := ho q hown; omega) hb.size)
theorem ap_take {s : Nat} (hs : 1 ≤ s) {F : ByteArray → Option (List Int)} {n : ByteArray} (hn : nmB n = true) {x : List Int} (h0 : x ≠ []) (hB : isB x) (hf : ∃ ys, F n = some ys) (first : Nat) (m : Nat) :
    ∃ e, e ≤ x.length ∧ ((expd s ⟨rAp n x, first, (fl F n).length⟩).take m).foldl doR F = upd F n (some (fl F n ++ x.take e)) := by
  obtain ⟨ys, hys⟩ := hf
  have e0 : fl F n = ys := by simp [fl, hys]
  cases m with
  | zero =>
    refine ⟨0, Nat.zero_le _, ?_⟩
    rw [List.take_zero, List.take_zero, List.append_nil, e0, ← hys, upd_self]
    rfl
  | succ m =>
    have hl : Leg F (rAp n x) := .inr (.inl ⟨n, x, ys, rfl, hn, hys, h0, hB⟩)
    obtain ⟨c1, c2⟩ := expd_cut hs (e := ⟨rAp n x, first, (fl F n).length⟩) hl (k := m + 1) (by omega) first
    rw [← c1]
    obtain ⟨d1, _⟩ := expd_does hs (e := ⟨pieces s ⟨rAp n x, first, (fl F n).length⟩ 0 (m + 1), first, (fl F n).length⟩) c2 rfl
    rw [d1]
    refine ⟨min (edge s ⟨rAp n x, first, (fl F n).length⟩ (m + 1)) x.length, Nat.min_le_right _ _, ?_⟩
    have e1 : edge s ⟨rAp n x, first, (fl F n).length⟩ 0 = 0 := edge_zero _ _ _
    have e2 : pieces s ⟨rAp n x, first, (fl F n).length⟩ 0 (m + 1) = rAp n (x.take (edge s ⟨rAp n x, first, (fl F n).length⟩ (m + 1))) := by
      unfold pieces
      rw [e1, List.drop_zero, Nat.sub_zero]
      rfl
    rw [e2, do_ap]
    congr 3
    by_cases hq : edge s ⟨rAp n x, first, (fl F n).length⟩ (m + 1) ≤ x.length
    · rw [Nat.min_eq_left hq]
    · rw [Nat.min_eq_right (by omega), List.take_of_length_le (by omega), List.take_of_length_le (Nat.le_refl _)]

end Go.Proofs.YtpocadbhajacaaaGreatDoor
