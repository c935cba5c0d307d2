/-
  A region that draws its order and hands out a value: walked by hand, the call of yield as the one operation that all wait for.
-/
import Derived.Test.YtabpfbankinojaaJkr
import Derived.Test.YtabpfbankinojaaFrg
namespace Go.Proofs.Ytabpfbankinojaa
open Go.RowKit Go.Shelf
set_option linter.unusedVariables false

section
variable {F : Fence} {n : Nat} {P : Program} {ops : Array Oper} {md : Region.Mode} {Q : Exit → Act → World → Prop} {S : World → Prop}
/-- Whatever order is picked; S holds behind each operation that comes ahead of q; q, and what comes behind it, may hand out. -/
def wpAnyV (F : Fence) (n : Nat) (P : Program) (md : Region.Mode) (ops : Array Oper) (Q : Exit → Act → World → Prop) (S : World → Prop) (q : Nat) : Nat → Array Bool → Act → World → Prop
  | 0, listed, a, w => Region.ready md ops listed = [] ∧ Q .normal a w
  | fuel + 1, listed, a, w =>
    (Region.ready md ops listed = [] → Q .normal a w) ∧
    ∀ i ∈ Region.ready md ops listed, if i = q then wpOpIn F n P ops Q i (wpAnyIn F n P md ops Q fuel (listed.setIfInBounds i true)) a w else wpOp P ops Q i (fun a' w' => S w' ∧ wpAnyV F n P md ops Q S q fuel (listed.setIfInBounds i true) a' w') a w
theorem wpAnyIn_of_V {q : Nat} (hF : WideF F) (hd : ops.all noDefer = true) (hL : ¬ LetsOut Q) : ∀ (fuel : Nat) (listed : Array Bool) (a : Act) (w : World), wpAnyV F n P md ops Q S q fuel listed a w → wpAnyIn F n P md ops Q fuel listed a w
  | 0, _, _, _, h => h
  | fuel + 1, _, _, _, h => ⟨h.1, fun i hi => by
    have h1 := h.2 i hi
    by_cases hq : i = q
    · rw [if_pos hq] at h1
      exact h1
    · rw [if_neg hq] at h1
      exact wpOpIn_of_wpOp hF hd hL (fun a' w' h' => wpAnyIn_of_V hF hd hL fuel _ a' w' h'.2) h1⟩
/-- What is listed has behind it all that it waits for. -/
def Cl (md : Region.Mode) (ops : Array Oper) (listed : Array Bool) : Prop := ∀ j o, ops[j]? = some o → listed.getD j true = true → j < listed.size → ∀ e ∈ o.after, Region.binds md e = true → listed.getD e.on false = true
/-- q waits for i, through others. -/
def wT (md : Region.Mode) (ops : Array Oper) : Nat → Nat → Nat → Bool
  | 0, _, _ => false
  | f + 1, q, i => match ops[q]? with | some o => o.after.any fun e => Region.binds md e && (e.on == i || wT md ops f e.on i) | none => false
theorem wT_spec {listed : Array Bool} (hc : Cl md ops listed) {i : Nat} : ∀ (f q : Nat) (o : Oper), ops[q]? = some o → (∀ e ∈ o.after, Region.binds md e = true → listed.getD e.on false = true) → wT md ops f q i = true → listed.getD i false = true
  | 0, _, _, _, _, h => by cases h
  | f + 1, q, o, ho, hl, h => by
    unfold wT at h
    rw [ho] at h
    simp only [Array.any_eq_true', Bool.and_eq_true, Bool.or_eq_true, beq_iff_eq] at h
    obtain ⟨e, he, hb, h2⟩ := h
    have h3 := hl e he hb
    rcases h2 with h2 | h2
    · rw [← h2]
      exact h3
    · have h4 : e.on < listed.size := by
        rcases Nat.lt_or_ge e.on listed.size with h' | h'
        · exact h'
        · simp [Array.getElem?_eq_none h'] at h3
      have h5 : listed.getD e.on true = true := by simpa [h4] using h3
      cases f with
      | zero => cases h2
      | succ f =>
        cases ho2 : ops[e.on]? with
        | none =>
          unfold wT at h2
          rw [ho2] at h2
          cases h2
        | some o2 => exact wT_spec hc (f + 1) e.on o2 ho2 (hc e.on o2 ho2 h5 h4) h2
theorem Cl.set {listed : Array Bool} (hc : Cl md ops listed) {j : Nat} (hr : j ∈ Region.ready md ops listed) : Cl md ops (listed.setIfInBounds j true) := by
  obtain ⟨hjun, oj, hoj, hall⟩ := mem_ready.1 hr
  have mono : ∀ k, listed.getD k false = true → (listed.setIfInBounds j true).getD k false = true := fun k hk => by
    by_cases hkj : j = k
    · subst hkj
      have : j < listed.size := by
        rcases Nat.lt_or_ge j listed.size with h' | h'
        · exact h'
        · simp [Array.getElem?_eq_none h'] at hk
      simp [this]
    · rw [getD_set_ne false hkj]
      exact hk
  intro k o ho hk hs e he hb
  by_cases hkj : j = k
  · subst hkj
    rw [hoj] at ho
    cases ho
    exact mono _ (hall e he hb)
  · rw [getD_set_ne true hkj] at hk
    exact mono _ (hc k o ho hk (by simpa using hs) e he hb)
theorem Cl.start (n : Nat) : Cl md ops (Array.replicate n false) := fun j o ho hj hs e he hb => by
  have h1 : j < n := by simpa using hs
  simp [h1] at hj
theorem wpIn_region_V {q id : Nat} {a : Act} {w : World} (hF : WideF F) (hm : P.follows .mixedOrders = true) (hd : ops.all noDefer = true)
    (h : Cl .any ops (Array.replicate ops.size false) → wpAnyV F n P .any ops (Only (fun a w => Q .normal a w)) S q ops.size (Array.replicate ops.size false) a w.drew) : (Code.region id ops true).wpIn F n P Q a w :=
  Code.wpIn_mono Only.imp (wpIn_region_any hm (wpAnyIn_of_V hF hd (Only.out _) _ _ _ _ (h (Cl.start _))))
theorem wpAnyV_first {i q : Nat} {oi : Oper} {v : Value} (hi : ops[i]? = some oi) (hqi : wT md ops 32 q i = true) (hne : q ≠ i) (hsel : ∀ (j : Nat) (o : Oper) cs b, ops[j]? = some o → o.op ≠ .select cs b)
    (hQ : ∀ c a w, Q (.panic c) (a.put oi.dst v) w → Q (.panic c) a w) :
    ∀ (fuel : Nat) (listed : Array Bool) (a : Act) (w : World),
      (∀ j oj, ops[j]? = some oj → j ≠ i → listed.getD j true = false → (∀ e ∈ oj.after, Region.binds md e = true → e.on ≠ i) → oi.apart ops oj = true) → Cl md ops listed →
      i ∈ Region.ready md ops listed → YieldsIf P ops S oi v a → S w →
      wpAnyV F n P md ops Q S q fuel (listed.setIfInBounds i true) (a.put oi.dst v) w → wpAnyV F n P md ops Q S q (fuel + 1) listed a w := by
  intro fuel
  induction fuel with
  | zero =>
    intro listed a w _ _ hr hy hS H
    refine ⟨fun h => (by rw [h] at hr; cases hr), fun j hj => ?_⟩
    by_cases hji : j = i
    · subst hji
      rw [if_neg (fun e => hne e.symm)]
      exact hy.wpOp hi hS ⟨hS, H⟩
    · have := ready_mono hj hji
      rw [H.1] at this
      cases this
  | succ fuel ih =>
    intro listed a w hfree hcl hr hy hS H
    refine ⟨fun h => (by rw [h] at hr; cases hr), fun j hj => ?_⟩
    by_cases hji : j = i
    · subst hji
      rw [if_neg (fun e => hne e.symm)]
      exact hy.wpOp hi hS ⟨hS, H⟩
    · have h1 := H.2 j (ready_mono hj hji)
      obtain ⟨hjun, oj, hoj, hall⟩ := mem_ready.1 hj
      have hnot : ∀ e ∈ oj.after, Region.binds md e = true → e.on ≠ i := fun e he hb heq => by
        have h1 := hall e he hb
        have h0 := (mem_ready.1 hr).1
        rw [heq] at h1
        rcases Nat.lt_or_ge i listed.size with h' | h'
        · simp [h'] at h0 h1; rw [h0] at h1; cases h1
        · simp [Array.getElem?_eq_none h'] at h1
      have hjq : j ≠ q := by
        rintro rfl
        have h9 := wT_spec hcl 32 j oj hoj hall hqi
        have h8 := (mem_ready.1 hr).1
        rcases Nat.lt_or_ge i listed.size with h' | h'
        · simp [h'] at h8 h9
          rw [h8] at h9
          cases h9
        · simp [Array.getElem?_eq_none h'] at h9
      rw [if_neg hjq] at h1 ⊢
      have h2 := wpOp_putIf hoj (hfree j oj hoj hji hjun hnot) (fun cs b => hsel i oi cs b hi) (fun cs b => hsel j oj cs b hoj) hQ hy h1
      have hfree' : ∀ k ok, ops[k]? = some ok → k ≠ i → (listed.setIfInBounds j true).getD k true = false →
          (∀ e ∈ ok.after, Region.binds md e = true → e.on ≠ i) → oi.apart ops ok = true := fun k ok hk hki hun hno => by
        refine hfree k ok hk hki ?_ hno
        by_cases hjk : j = k
        · subst hjk; exact hjun
        · rw [getD_set_ne true hjk] at hun; exact hun
      refine wpOp_mono (fun a' w' h3 => ⟨h3.2.1, ih (listed.setIfInBounds j true) a' w' hfree' (hcl.set hj) (ready_mono hr (Ne.symm hji)) h3.1 h3.2.1 ?_⟩) h2
      rw [Array.setIfInBounds_comm _ _ hji]
      exact h3.2.2
theorem takeV (q : Nat) (i : Nat) (t : Tmp) (v : Value) {oi : Oper} {fuel : Nat} {listed : Array Bool} {a : Act} {w : World} (hS : S w) (hi : ops[i]? = some oi) (hd : oi.dst = some t) (hqi : wT md ops 32 q i = true) (hqe : (q != i) = true) (hcl : Cl md ops listed)
    (hs : Region.noSelect ops = true) (hf : Region.free md ops listed i = true) (hr : (Region.ready md ops listed).contains i = true)
    (hQ : ∀ c a w, Q (.panic c) (a.put oi.dst v) w → Q (.panic c) a w) (hy : YieldsIf P ops S oi v a)
    (h : Cl md ops (listed.setIfInBounds i true) → wpAnyV F n P md ops Q S q fuel (listed.setIfInBounds i true) (a.put (some t) v) w) : wpAnyV F n P md ops Q S q (fuel + 1) listed a w :=
  wpAnyV_first hi hqi (by simpa using hqe) (Region.noSelect_spec hs) hQ fuel listed a w (Region.free_spec hi hf) hcl (by simpa using hr) hy hS (by rw [hd]; exact h (hcl.set (by simpa using hr)))
/-- What q waits for, through others. -/
theorem wpAnyV_at {q : Nat} {oq : Oper} {fuel : Nat} {listed : Array Bool} {a : Act} {w : World} (hr : Region.ready md ops listed = [q]) (ho : ops[q]? = some oq) (hw : Region.wanted oq (yielded ops a.tmps) = true)
    (h : ∀ K : Act → World → Prop, (∀ a w, wpAnyIn F n P md ops Q fuel (listed.setIfInBounds q true) a w → K a w) → oq.wpIn F n P a w K Q) : wpAnyV F n P md ops Q S q (fuel + 1) listed a w := by
  refine ⟨fun h0 => (by rw [hr] at h0; cases h0), fun i hi => ?_⟩
  rw [hr] at hi
  obtain rfl : i = q := by simpa using hi
  rw [if_pos rfl]
  unfold wpOpIn
  simp only [ho, hw, if_true]
  exact h _ (fun a w h => h)
/-- The call of yield. -/
theorem wpIn_yield {o : Oper} {a : Act} {w : World} {K : Act → World → Prop} {l : Nat} {args : Array Value} {Post : Ending → World → Prop} (hro : F.round = none) (hab : ∀ f, o.about P w a.eval = some f → F.fn f) (hdep : F.depth = none)
    (he : ∀ r, (Instr.yield l args).run P w = r → (execOp a.eval o).run P w = r) (hY : YieldAt F (n - 1) P l args w Post) (hp : ∀ e w', Post e w' → ∃ v, e = .returned v ∧ K (a.put o.dst v) w') : o.wpIn F n P a w K Q := by
  obtain ⟨fn, tmps, assign, body, hy, hR⟩ := hY
  refine ⟨hab, ?_⟩
  rw [hro, Oper.semAt_none, he _ hy]
  refine ⟨(fun h => by rw [hdep] at h; cases h), hR.mono ?_⟩
  intro e w' h
  obtain ⟨v, rfl, hK⟩ := hp e w' h
  exact hK
end

end Go.Proofs.Ytabpfbankinojaa
