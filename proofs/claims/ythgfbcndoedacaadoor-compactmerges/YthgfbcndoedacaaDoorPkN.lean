/-
  Texts one behind the other: Mg Mw.
-/
import Derived.Test.YthgfbcndoedacaaDoorPkM

/-
  Some ranges side by side; ranges of leaves merged; a range's bytes read again. 
-/
namespace Go.Proofs.YthgfbcndoedacaaDoor
open Go.RowKit Go.Shelf
set_option linter.unusedVariables false

/-- A range, by its numbers. -/
structure RR where
  g : Nat
  b : Nat
  e : Nat
  v : Value
  ps : List Pt
/-- Ranges side by side. -/
structure All (w W : World) (L : List RR) : Prop where
  rg : ∀ (i : Nat) (r : RR), L[i]? = some r → Rg W w.heap.size r.g r.b r.e r.v r.ps
  ge : ∀ (i : Nat) (r : RR), L[i]? = some r → w.heap.size ≤ r.g
  dj : ∀ (i j : Nat) (r s : RR), i ≠ j → L[i]? = some r → L[j]? = some s → ∀ k, Foot r.g r.v k → ¬ Foot s.g s.v k
  bel : Below w.heap.size w W
theorem Rg.foot_lt {w : World} {B g b e : Nat} {v : Value} {ps : List Pt} (h : Rg w B g b e v ps) (k : Nat) (hk : Foot g v k) : k < w.heap.size := by
  rcases hk with rfl | e1
  · exact h.blk.lt
  · exact (h.own.lt k e1).2
theorem Rg.base {w : World} {B B' g b e : Nat} {v : Value} {ps : List Pt} (h : Rg w B g b e v ps) (hB : B' ≤ B) : Rg w B' g b e v ps := ⟨h.blk, h.own.base hB, h.good, h.nodes, h.le, h.max⟩
theorem All.nil {w W : World} (hb : Below w.heap.size w W) : All w W [] := ⟨fun i r h => by simp at h, fun i r h => by simp at h, fun i j r s _ h => by simp at h, hb⟩
theorem All.below {w W W' : World} {L : List RR} (h : All w W L) (hb : Below W.heap.size W W') : All w W' L := ⟨fun i r hi => (h.rg i r hi).below hb, h.ge, h.dj, h.bel.trans (hb.mono h.bel.size)⟩
theorem snoc_get {α : Type} {L : List α} {x r : α} {i : Nat} (h : (L ++ [x])[i]? = some r) : (i < L.length ∧ L[i]? = some r) ∨ (i = L.length ∧ x = r) := by
  by_cases hi : i < L.length
  · rw [List.getElem?_append_left hi] at h; exact .inl ⟨hi, h⟩
  · rw [List.getElem?_append_right (by omega)] at h
    by_cases h0 : i - L.length = 0
    · rw [h0] at h; exact .inr ⟨by omega, by simpa using h⟩
    · obtain ⟨n, hn⟩ : ∃ n, i - L.length = n + 1 := ⟨i - L.length - 1, by omega⟩
      rw [hn] at h; simp at h
theorem All.push {w W W' : World} {L : List RR} {g b e : Nat} {v : Value} {ps : List Pt} (h : All w W L) (hb : Below W.heap.size W W') (hr : Rg W' W.heap.size g b e v ps) (hg : W.heap.size ≤ g) : All w W' (L ++ [⟨g, b, e, v, ps⟩]) := by
  have hnew : ∀ k, Foot g v k → W.heap.size ≤ k := by
    rintro k (rfl | e1)
    · exact hg
    · exact (hr.own.lt k e1).1
  have hold : ∀ (i : Nat) (r : RR), L[i]? = some r → ∀ k, Foot r.g r.v k → k < W.heap.size := fun i r hi k hk => (h.rg i r hi).foot_lt k hk
  refine ⟨fun i r hi => ?_, fun i r hi => ?_, fun i j r s hij hi hj k hk hk2 => ?_, h.bel.trans (hb.mono h.bel.size)⟩
  · rcases snoc_get hi with ⟨_, h1⟩ | ⟨_, rfl⟩
    · exact (h.rg i r h1).below hb
    · exact hr.base h.bel.size
  · rcases snoc_get hi with ⟨_, h1⟩ | ⟨_, rfl⟩
    · exact h.ge i r h1
    · exact Nat.le_trans h.bel.size hg
  · rcases snoc_get hi with ⟨_, h1⟩ | ⟨e1, rfl⟩ <;> rcases snoc_get hj with ⟨_, h2⟩ | ⟨e2, rfl⟩
    · exact h.dj i j r s hij h1 h2 k hk hk2
    · have := hold i r h1 k hk; have := hnew k hk2; omega
    · have := hold j s h2 k hk2; have := hnew k hk; omega
    · omega
theorem All.set {w W W' : World} {L : List RR} (h : All w W L) (i : Nat) {r : RR} (hi : L[i]? = some r) {e' : Nat} {v' : Value} {ps' : List Pt} (hr : Rg W' w.heap.size r.g r.b e' v' ps') (hc : Chs (Foot r.g r.v) W W') (hm : Moved W r.v v') : All w W' (L.set i ⟨r.g, r.b, e', v', ps'⟩) := by
  have hS : ∀ k, k < w.heap.size → ¬ Foot r.g r.v k := by
    rintro k hk (rfl | e1)
    · have := h.ge i r hi; omega
    · have := ((h.rg i r hi).own.lt k e1).1; omega
  have get : ∀ (j : Nat) (s : RR), (L.set i ⟨r.g, r.b, e', v', ps'⟩)[j]? = some s → (j = i ∧ s = ⟨r.g, r.b, e', v', ps'⟩) ∨ (j ≠ i ∧ L[j]? = some s) := fun j s hj => by
    by_cases hji : j = i
    · subst hji
      rw [List.getElem?_set_self (List.getElem?_eq_some_iff.1 hi).1] at hj
      exact .inl ⟨rfl, by injection hj with hj; exact hj.symm⟩
    · rw [List.getElem?_set_ne (fun e => hji e.symm)] at hj
      exact .inr ⟨hji, hj⟩
  have hmv : ∀ k, Foot r.g v' k → Foot r.g r.v k ∨ W.heap.size ≤ k := by
    rintro k (rfl | e1)
    · exact .inl (.inl rfl)
    · rcases hm k e1 with h1 | h1
      · exact .inl (.inr h1)
      · exact .inr h1
  refine ⟨fun j s hj => ?_, fun j s hj => ?_, fun j l s t hjl hj hl k hk hk2 => ?_, h.bel.trans (hc.below hS h.bel.size)⟩
  · rcases get j s hj with ⟨rfl, rfl⟩ | ⟨hji, hj⟩
    · exact hr
    · exact (h.rg j s hj).chs hc (h.dj j i s r hji hj hi)
  · rcases get j s hj with ⟨rfl, rfl⟩ | ⟨hji, hj⟩
    · exact h.ge _ r hi
    · exact h.ge j s hj
  · rcases get j s hj with ⟨ej, es⟩ | ⟨hji, hj'⟩ <;> rcases get l t hl with ⟨el, et⟩ | ⟨hli, hl'⟩
    · omega
    · subst ej es
      rcases hmv k hk with h1 | h1
      · exact h.dj j l r t hjl hi hl' k h1 hk2
      · have := (h.rg l t hl').foot_lt k hk2; omega
    · subst el et
      rcases hmv k hk2 with h1 | h1
      · exact h.dj j l s r hjl hj' hi k hk h1
      · have := (h.rg j s hj').foot_lt k hk; omega
    · exact h.dj j l s t hjl hj' hl' k hk hk2

theorem rps_put {xs : List Int} {n b e L : Nat} (h : xs.length = 32 * n) (hn : n ≤ 2 ^ 47) (hbe : b ≤ e) (hd : 2 ^ L ∣ e) (he : e + 2 ^ L ≤ n) : putL (rps xs b e) ((L, e / 2 ^ L), rd xs (L, e / 2 ^ L)) = rps xs b (e + 2 ^ L) := by
  have hm : e + 2 ^ L ≤ 2 ^ 48 := Nat.le_trans he (Nat.le_trans hn (by decide))
  have hp := Nat.two_pow_pos L
  have hA := (parts_abut (e - b) b e (Nat.le_refl _) hbe (by omega)).1
  have hn62 : n < 2 ^ 62 := Nat.lt_of_le_of_lt hn (by decide)
  have em := mul_div_pow hd
  have key := putS_told nd (rd xs) (fun q p => (q.2 + 1) * 2 ^ q.1 = p.2 * 2 ^ p.1 ∧ (p.2 + 1) * 2 ^ p.1 ≤ n)
    (fun q p hS hs => rd_join h hn62 q p hS.2 hs)
    (fun r q p hS hR hs => by
      obtain ⟨s1, s2, s3⟩ := sib_iff.1 hs
      obtain ⟨p1, p2⟩ := p
      obtain ⟨q1, q2⟩ := q
      simp only at s1 s2 s3 hS hR ⊢
      subst s1
      subst s3
      have c1 : (q2 + 1) / 2 * 2 ^ (q1 + 1) = q2 * 2 ^ q1 := by
        rw [Nat.pow_succ, Nat.mul_comm (2 ^ q1) 2, ← Nat.mul_assoc]
        congr 1
        omega
      have c2 : ((q2 + 1) / 2 + 1) * 2 ^ (q1 + 1) = (q2 + 1 + 1) * 2 ^ q1 := by
        rw [Nat.add_mul, c1, Nat.pow_succ, Nat.add_mul, Nat.add_mul]
        omega
      rw [c1, c2]
      exact ⟨hR.1, hS.2⟩)
    (parts b e).reverse (L, e / 2 ^ L)
    (fun q hq => by
      cases hst : (parts b e).reverse with
      | nil => rw [hst] at hq; cases hq
      | cons a st =>
        rw [hst] at hq hA
        simp at hq
        subst hq
        simp only [Nat.add_mul, em, Nat.one_mul]
        have h1 := hA.1
        rw [Nat.add_mul, Nat.one_mul] at h1
        exact ⟨h1, he⟩)
    (fun i q r h1 h2 => ⟨abutN_get _ _ i q r hA h1 h2, Nat.le_trans (abutN_le _ _ i q hA h1) (by omega)⟩)
  have kp := parts_put (e - b) b e L (Nat.le_refl _) hbe hd hm
  unfold putL rps
  rw [← List.map_reverse, key, ← List.map_reverse, kp]
/-- NEIGHBOURS MERGED. -/
theorem rps_merge {xs : List Int} {n : Nat} (h : xs.length = 32 * n) (hn : n ≤ 2 ^ 47) (m : Nat) : ∀ b e e2 : Nat, e2 - e ≤ m → b ≤ e → e ≤ e2 → e2 ≤ n → (rps xs e e2).foldl putL (rps xs b e) = rps xs b e2 := by
  induction m with
  | zero =>
    intro b e e2 hm hbe hee hen
    obtain rfl : e = e2 := by omega
    have e0 : rps xs e e = [] := by unfold rps; rw [parts_nil (Nat.le_refl _)]; rfl
    rw [e0]
    rfl
  | succ m ih =>
    intro b e e2 hm hbe hee hen
    by_cases hlt : e < e2
    · have h48 : e2 ≤ 2 ^ 48 := Nat.le_trans hen (Nat.le_trans hn (by decide))
      have hk := lv_isLev (b := e) (n := e2 - e) (by omega) (by omega)
      have hkl := hk.le
      have hp := Nat.two_pow_pos (lv e (e2 - e))
      have e1 : rps xs e e2 = ((lv e (e2 - e), e / 2 ^ lv e (e2 - e)), rd xs (lv e (e2 - e), e / 2 ^ lv e (e2 - e))) :: rps xs (e + 2 ^ lv e (e2 - e)) e2 := by
        conv => lhs; unfold rps
        rw [parts_step hk h48]
        rfl
      rw [e1, List.foldl_cons, rps_put h hn hbe hk.dvd (by omega)]
      exact ih b _ e2 (by omega) (by omega) (by omega) hen
    · obtain rfl : e = e2 := by omega
      have e0 : rps xs e e = [] := by unfold rps; rw [parts_nil (Nat.le_refl _)]; rfl
      rw [e0]
      rfl

theorem be_succ (v : Int) (n : Nat) : be v (n + 1) = be (v / 256) n ++ [v % 256] := by
  unfold be
  rw [List.range_succ, List.map_append]
  congr 1
  · apply List.map_congr_left
    intro i hi
    have : i < n := List.mem_range.1 hi
    rw [show n + 1 - 1 - i = (n - 1 - i) + 1 by omega, Int.pow_succ, Int.mul_comm, ← Int.ediv_ediv_of_nonneg (by decide)]
  · simp
theorem beVal_be (n : Nat) : ∀ v : Int, 0 ≤ v → v < 256 ^ n → beVal (be v n) = v := by
  induction n with
  | zero => intro v h0 h1; simp at h1; simp [be, beVal]; omega
  | succ n ih =>
    intro v h0 h1
    have h2 : v / 256 < 256 ^ n := by
      rw [Int.pow_succ] at h1
      exact Int.ediv_lt_of_lt_mul (by decide) h1
    have := ih (v / 256) (Int.ediv_nonneg h0 (by decide)) h2
    rw [be_succ]
    unfold beVal at *
    rw [List.foldl_append, this]
    simp only [List.foldl_cons, List.foldl_nil]
    omega
theorem rdV_first (u : Int) (R : List Int) (h0 : 0 ≤ u) (h1 : u < 18446744073709551616) : rdV (be u 8 ++ R) 0 8 = u := by
  unfold rdV
  rw [if_pos (by rw [List.length_append, be_length]; omega)]
  have e1 : ((be u 8 ++ R).drop (0 : Int).toNat).take 8 = be u 8 := by
    show ((be u 8 ++ R).drop 0).take 8 = _
    rw [List.drop_zero, List.take_append_of_le_length (by rw [be_length]; omega), List.take_of_length_le (by rw [be_length]; omega)]
  rw [e1, beVal_be 8 u h0 h1]
theorem rdV_next (u v : Int) (R : List Int) (h0 : 0 ≤ v) (h1 : v < 18446744073709551616) : rdV (be u 8 ++ (be v 8 ++ R)) 8 8 = v := by
  unfold rdV
  rw [if_pos (by rw [List.length_append, List.length_append, be_length, be_length]; omega)]
  have e1 : ((be u 8 ++ (be v 8 ++ R)).drop (8 : Int).toNat).take 8 = be v 8 := by
    show ((be u 8 ++ (be v 8 ++ R)).drop 8).take 8 = _
    rw [List.drop_left' (be_length u 8), List.take_append_of_le_length (by rw [be_length]; omega), List.take_of_length_le (by rw [be_length]; omega)]
  rw [e1, beVal_be 8 v h0 h1]
theorem flat_at : ∀ (ps : List Pt) (i : Nat) (p : Pt), GoodL ps → ps[i]? = some p → ((ps.flatMap Prod.snd).drop (32 * i)).take 32 = p.2
  | [], i, p, _, h => by simp at h
  | q :: ps, 0, p, hg, h => by
    simp at h
    subst h
    have hq := (hg q (List.mem_cons_self ..)).len
    simp only [Nat.mul_zero, List.drop_zero, List.flatMap_cons]
    rw [List.take_append_of_le_length (by omega), List.take_of_length_le (by omega)]
  | q :: ps, i + 1, p, hg, h => by
    have hq := (hg q (List.mem_cons_self ..)).len
    have ih := flat_at ps i p (fun x hx => hg x (List.mem_cons_of_mem _ hx)) (by simpa using h)
    rw [List.flatMap_cons, show 32 * (i + 1) = 32 + 32 * i by omega, ← List.drop_drop, List.drop_left' hq]
    exact ih
theorem dAt_rgB {b e : Nat} {ps : List Pt} (hg : GoodL ps) {i : Nat} {p : Pt} (h : ps[i]? = some p) : dAt (rgB b e ps) i = p.2 := by
  unfold dAt rgB
  rw [← List.drop_drop, ← List.append_assoc, List.drop_left' (by rw [List.length_append, be_length, be_length])]
  exact flat_at ps i p hg h
theorem flat_length : ∀ {ps : List Pt}, GoodL ps → (ps.flatMap Prod.snd).length = 32 * ps.length
  | [], _ => rfl
  | q :: ps, hg => by
    have hq := (hg q (List.mem_cons_self ..)).len
    have ih := flat_length (ps := ps) (fun x hx => hg x (List.mem_cons_of_mem _ hx))
    rw [List.flatMap_cons, List.length_append, ih, hq, List.length_cons]
    omega
theorem rgB_length {b e : Nat} {ps : List Pt} (hg : GoodL ps) : (rgB b e ps).length = 16 + 32 * ps.length := by
  unfold rgB
  rw [List.length_append, List.length_append, be_length, be_length, flat_length hg]
  omega
theorem flat_isB : ∀ {ps : List Pt}, GoodL ps → isB (ps.flatMap Prod.snd)
  | [], _ => fun x hx => by simp at hx
  | q :: ps, hg => by
    rw [List.flatMap_cons]
    exact (hg q (List.mem_cons_self ..)).byte.append (flat_isB (ps := ps) (fun x hx => hg x (List.mem_cons_of_mem _ hx)))
theorem rgB_isB {b e : Nat} {ps : List Pt} (hg : GoodL ps) : isB (rgB b e ps) := (be_isB _ _).append ((be_isB _ _).append (flat_isB hg))
/-- WHAT IS TOLD IS READ AGAIN. -/
theorem rgB_back {b e : Nat} {ps : List Pt} (hg : GoodL ps) (hn : ps.map Prod.fst = parts b e) (hbe : b ≤ e) (he : e ≤ 281474976710656) :
    (rdV (rgB b e ps) 0 8).toNat = b ∧ (rdV (rgB b e ps) 8 8).toNat = e ∧ ldOK (rgB b e ps) ∧ ldP b e (rgB b e ps) (List.range (parts b e).length) = ps := by
  have h1 : rdV (rgB b e ps) 0 8 = (b : Int) := rdV_first _ _ (by omega) (by omega)
  have h2 : rdV (rgB b e ps) 8 8 = (e : Int) := rdV_next _ _ _ (by omega) (by omega)
  have hl : ps.length = (parts b e).length := by rw [← hn, List.length_map]
  refine ⟨by rw [h1]; rfl, by rw [h2]; rfl, ⟨⟨by rw [rgB_length hg]; omega, by rw [h1, h2]; omega, by rw [h2]; omega⟩, ?_⟩, ?_⟩
  · rw [h1, h2, rgB_length hg, Int.toNat_natCast, Int.toNat_natCast, hl]
  · apply List.ext_getElem?
    intro i
    by_cases hi : i < ps.length
    · have hp : ps[i]? = some ps[i] := List.getElem?_eq_getElem hi
      have hd := dAt_rgB (b := b) (e := e) hg hp
      have hnode : nG b e i = ps[i].1 := by
        unfold nG
        rw [← hn]
        simp [List.getD, hi]
      unfold ldP
      rw [List.length_range, List.getElem?_map, List.getElem?_range (by omega), hp]
      simp only [Option.map_some]
      rw [hd]
      have e2 : (List.range (parts b e).length).getD i 0 = i := by simp [List.getD, show i < (parts b e).length by omega]
      rw [e2, hnode]
    · rw [List.getElem?_eq_none (by rw [ldP_length, List.length_range]; omega), List.getElem?_eq_none (by omega)]
theorem rps_good {xs : List Int} {n b e : Nat} (h : xs.length = 32 * n) (hb : isB xs) (hbe : b ≤ e) (hen : e ≤ n) (hn : n ≤ 2 ^ 47) : GoodL (rps xs b e) := by
  have h48 : e ≤ 2 ^ 48 := Nat.le_trans hen (Nat.le_trans hn (by decide))
  intro p hp
  simp only [rps, List.mem_map] at hp
  obtain ⟨q, hq, rfl⟩ := hp
  obtain ⟨i, hi, hqi⟩ := List.getElem_of_mem hq
  have hq? : (parts b e)[i]? = some q := by rw [List.getElem?_eq_getElem hi, hqi]
  obtain ⟨q1, q2, q3⟩ := pbeg_at hbe h48 hq?
  have hng := nG_good hbe h48 i
  have en : nG b e i = q := by simp [nG, List.getD, hq?]
  rw [en] at hng
  have hsub : (sub xs (q.2 * 2 ^ q.1) ((q.2 + 1) * 2 ^ q.1)).length = 32 * ((q.2 + 1) * 2 ^ q.1 - q.2 * 2 ^ q.1) := by
    refine sub_length h (Nat.mul_le_mul_right _ (by omega)) ?_
    rw [Nat.add_mul, q1, Nat.one_mul, ← q2]
    omega
  exact ⟨root_length hsub (sub_isB hb _ _), root_isB hsub (sub_isB hb _ _), hng.1, hng.2⟩
theorem rps_nodes (xs : List Int) (b e : Nat) : (rps xs b e).map Prod.fst = parts b e := by simp [rps, Function.comp_def]

end Go.Proofs.YthgfbcndoedacaaDoor

/-
  What is held through a region may grow; Span of a range; four ranges of all leaves.
-/
namespace Go.Proofs.YthgfbcndoedacaaDoor
open Go.RowKit Go.Shelf
set_option linter.unusedVariables false

/-- What is held may grow in the midst of a region. -/
theorem wpAnyH_more {P : Program} {md : Region.Mode} {ops : Array Oper} {Q : Exit → Act → World → Prop} {S : World → Prop} (S' : World → Prop) (h : ∀ w, S' w → S w) : ∀ (fuel : Nat) (listed : Array Bool) (a : Act) (w : World), wpAnyH P md ops Q S' fuel listed a w → wpAnyH P md ops Q S fuel listed a w
  | 0, _, _, _, k => k
  | fuel + 1, _, _, _, k => ⟨k.1, fun i hi => wpOp_mono (fun a' w' k' => ⟨h w' k'.1, wpAnyH_more S' h fuel _ a' w' k'.2⟩) (k.2 i hi)⟩

theorem rspan_any (B g b e : Nat) (v : Value) (ps : List Pt) (w : World) (hr : Rg w B g b e v ps) : Calls Tryd.prog 23 #[.pointer (some ⟨g, 0, none⟩)] w fun r w' => r = .returned (.agg #[.int .i64 (b : Int), .int .i64 (e : Int)]) ∧ Below w.heap.size w w' := by
  have HR := hide hr
  clear hr
  go_enter Tryd.func23, Tryd.ntmps23
  go_wp2_with (refine step_alloc zSp rfl ?_)
  intro w1 g1 hg1 hle1 hb1
  have HG := hide hg1
  have R1 := hide (HR.out.below hb1)
  have c0 : w1.cell? ⟨g, 0, none⟩ = some (.bool true) := by rw [R1.out.blk.cell]; rfl
  have HRG := hide (show w1.rangeAt g 1 [.int .i64 (b : Int), .int .i64 (e : Int)] from R1.out.blk.range 1 _ rfl)
  clear hg1
  go_wp2_with (first | (go_at_call 29; refine (made_is _ _ c0).mono ?_; rintro e w' ⟨rfl, rfl⟩) | (refine step_loadR wSpn rfl rfl _ HRG.out rfl ?_) | (refine step_storeA wSpn rfl rfl rfl HG.out rfl (One.two _ _) rfl ?_; intro w2 hg2 hbut))
  refine bodyPost_ret (results_wide rfl wSpn _ _ rfl hg2 rfl) rfl ⟨rfl, ?_⟩
  exact hb1.trans (hbut.below hle1)

/-- Four ranges of all leaves. -/
structure F4 (B n : Nat) (ps : List Pt) (g1 g2 g3 g4 : Nat) (v1 v2 v3 v4 : Value) (V : World) : Prop where
  r1 : Rg V B g1 0 n v1 ps
  r2 : Rg V B g2 0 n v2 ps
  r3 : Rg V B g3 0 n v3 ps
  r4 : Rg V B g4 0 n v4 ps
theorem F4.below {B n : Nat} {ps : List Pt} {g1 g2 g3 g4 : Nat} {v1 v2 v3 v4 : Value} {V V' : World} (h : F4 B n ps g1 g2 g3 g4 v1 v2 v3 v4 V) (hb : Below V.heap.size V V') : F4 B n ps g1 g2 g3 g4 v1 v2 v3 v4 V' := ⟨h.r1.below hb, h.r2.below hb, h.r3.below hb, h.r4.below hb⟩
theorem blk_sl {V : World} {g : Nat} {xs : List Int} (h : Blk V g 5 (u8s xs)) (hb : isB xs) (hl : xs.length ≤ 140737488355328) : Sl V (some ⟨g, 0, none⟩) xs.length xs.length xs :=
  h.sl 0 xs.length xs (by rw [List.drop_zero, List.take_of_length_le (by rw [u8s_length]; exact Nat.le_refl _)]) hb hl (Nat.le_refl _) (by omega)
/-- .. and some bytes beside them. -/
def SS (B n : Nat) (ps : List Pt) (g1 g2 g3 g4 : Nat) (v1 v2 v3 v4 : Value) (BB : List Int) (m : Nat) (L : List Nat) (V : World) : Prop := F4 B n ps g1 g2 g3 g4 v1 v2 v3 v4 V ∧ ∀ g ∈ L, Sl V (some ⟨g, 0, none⟩) m m BB
section
variable {B n : Nat} {ps : List Pt} {g1 g2 g3 g4 : Nat} {v1 v2 v3 v4 : Value} {BB : List Int} {m : Nat} {L : List Nat} {V V' : World}
theorem SS.below (h : SS B n ps g1 g2 g3 g4 v1 v2 v3 v4 BB m L V) (hb : Below V.heap.size V V') : SS B n ps g1 g2 g3 g4 v1 v2 v3 v4 BB m L V' := ⟨h.1.below hb, fun g hg => (h.2 g hg).below hb⟩
theorem SS.push {g : Nat} (h : SS B n ps g1 g2 g3 g4 v1 v2 v3 v4 BB m L V) (hg : Sl V (some ⟨g, 0, none⟩) m m BB) : SS B n ps g1 g2 g3 g4 v1 v2 v3 v4 BB m (g :: L) V := ⟨h.1, fun k hk => by
  rcases List.mem_cons.1 hk with rfl | hk
  · exact hg
  · exact h.2 k hk⟩
theorem SS.less {g : Nat} (h : SS B n ps g1 g2 g3 g4 v1 v2 v3 v4 BB m (g :: L) V) : SS B n ps g1 g2 g3 g4 v1 v2 v3 v4 BB m L V := ⟨h.1, fun k hk => h.2 k (List.mem_cons_of_mem _ hk)⟩
end

end Go.Proofs.YthgfbcndoedacaaDoor
