/-
  Levels of digests in files, without any program: names of full tiles, which digests are there, how many.
-/
import Derived.Test.YtlgcjdgcgnlcaaaGreatDoorKpb
import Derived.Test.YtlgcjdgcgnlcaaaGreatDoorTpb
namespace Go.Proofs.YtlgcjdgcgnlcaaaGreatDoor
open Go.RowKit
set_option linter.unusedVariables false
set_option linter.unusedSimpArgs false

/-! ### names -/
/-- May a full tile be? -/
def tFB (h l i : Nat) : Bool := decide (1 ≤ h) && decide (h ≤ 8) && decide (2 ^ h ≤ tW h l i 281474976710656)
theorem tFB_is {h l i : Nat} (k : tFB h l i = true) : isH h ∧ 2 ^ h ≤ tW h l i 281474976710656 := by
  simp only [tFB, Bool.and_eq_true, decide_eq_true_eq] at k
  exact ⟨⟨k.1.1, k.1.2⟩, k.2⟩
theorem tFB_of {h l i : Nat} (h1 : isH h) (h2 : 2 ^ h ≤ tW h l i 281474976710656) : tFB h l i = true := by
  simp only [tFB, Bool.and_eq_true, decide_eq_true_eq]
  exact ⟨⟨h1.1, h1.2⟩, h2⟩
theorem tFB_ok {h l i : Nat} (k : tFB h l i = true) : tOK (h : Int) (l : Int) (i : Int) ((2 ^ h : Nat) : Int) :=
  ⟨h, l, i, 2 ^ h, rfl, rfl, rfl, rfl, (tFB_is k).1, Nat.one_le_two_pow, (tFB_is k).2⟩
theorem tFB_bd {h l i : Nat} (k : tFB h l i = true) : isH h ∧ h * l ≤ 48 ∧ l ≤ 48 ∧ (i + 1) * 2 ^ h ≤ 281474976710656 ∧ (i + 1) * 2 ^ h ≤ tOv h l 281474976710656 := by
  obtain ⟨h1, h2⟩ := tFB_is k
  have hp := h1.pow.1
  have hb := tW_bd (l := l) (i := i) h1 (Nat.le_refl 281474976710656) (by omega)
  have hle := tOv_le h l 281474976710656
  unfold tW at h2
  rw [Nat.add_mul, Nat.one_mul]
  refine ⟨h1, hb.1, hb.2.2, ?_, ?_⟩ <;> omega
/-- Tiles ahead of one that may be may be. -/
theorem tFB_le {h l i j : Nat} (k : tFB h l i = true) (hj : j ≤ i) : tFB h l j = true := by
  obtain ⟨h1, h2⟩ := tFB_is k
  refine tFB_of h1 ?_
  have := Nat.mul_le_mul_right (2 ^ h) hj
  unfold tW at *
  omega
theorem tFB_iff {h l i : Nat} (h1 : isH h) : tFB h l i = true ↔ (i + 1) * 2 ^ h ≤ tOv h l 281474976710656 := by
  constructor
  · exact fun k => (tFB_bd k).2.2.2.2
  · intro k
    refine tFB_of h1 ?_
    rw [Nat.add_mul, Nat.one_mul] at k
    unfold tW
    omega
/-- The name of a full tile's file: no name where the tile may not be. -/
def sP (h l i : Nat) : List UInt8 := if tFB h l i = true then pathI (h : Int) (l : Int) (i : Int) ((2 ^ h : Nat) : Int) else []
def sN (h l i : Nat) : ByteArray := bA (sP h l i)
theorem sP_ok {h l i : Nat} (k : tFB h l i = true) : sP h l i = pathI (h : Int) (l : Int) (i : Int) ((2 ^ h : Nat) : Int) := by unfold sP; rw [if_pos k]
theorem sP_no {h l i : Nat} (k : tFB h l i = false) : sP h l i = [] := by unfold sP; rw [if_neg (by rw [k]; decide)]
theorem dec_two {n : Nat} (h : n < 100) : (Lib.decDigits n).length ≤ 2 := by
  by_cases h1 : n < 10
  · rw [Lib.decDigits_one h1]; simp
  · rw [dec_snoc h1, Lib.decDigits_one (show n / 10 < 10 by omega)]
    simp
theorem sP_len {h l i : Nat} (k : tFB h l i = true) : 1 ≤ (sP h l i).length ∧ (sP h l i).length ≤ 64 := by
  obtain ⟨h1, h2, h3, h4, _⟩ := tFB_bd k
  have a := dec_two (n := h) (by have := h1.2; omega)
  have b := dec_two (n := l) (by omega)
  have c := ixP_len i
  rw [sP_ok k]
  unfold pathI pU
  simp only [Int.toNat_natCast]
  rw [if_neg (by omega)]
  have e1 : tileB.length = 5 := rfl
  simp only [nmU, List.length_append, List.length_cons, List.length_nil, e1]
  omega
theorem sN_nm {h l i : Nat} (k : tFB h l i = true) : nmB (sN h l i) = true := by
  have := sP_len k
  unfold nmB sN
  rw [bA_size]
  simp only [Bool.and_eq_true, decide_eq_true_eq]
  omega
theorem sN_no {h l i : Nat} (k : tFB h l i = false) : nmB (sN h l i) = false := by
  unfold sN
  rw [sP_no k]
  rfl
theorem pathI_one {h l i n h' l' i' n' : Int} (k : tOK h l i n) (k' : tOK h' l' i' n') (e : pathI h l i n = pathI h' l' i' n') : h = h' ∧ l = l' ∧ i = i' ∧ n = n' := by
  obtain ⟨a1, a2, a3, a4⟩ := pathI_g k
  obtain ⟨b1, b2, b3, b4⟩ := pathI_g k'
  rw [e] at a1 a2 a3 a4
  exact ⟨a1.symm.trans b1, a2.symm.trans b2, a3.symm.trans b3, a4.symm.trans b4⟩
theorem sN_inj {h l i h' l' i' : Nat} (k : tFB h l i = true) (e : sN h l i = sN h' l' i') : h = h' ∧ l = l' ∧ i = i' := by
  have e' := bA_inj e
  by_cases k' : tFB h' l' i' = true
  · rw [sP_ok k, sP_ok k'] at e'
    have := pathI_one (tFB_ok k) (tFB_ok k') e'
    omega
  · have h1 := sP_len k
    rw [e', sP_no (by simpa using k')] at h1
    simp at h1

/-! ### files and digests -/
/-- Files have names. -/
def Nmd (F : ByteArray → Option (List Int)) : Prop := ∀ n, nmB n = false → F n = none
theorem Nmd.doR {F : ByteArray → Option (List Int)} (h : Nmd F) {r : Rw} (hr : Leg F r) : Nmd (doR F r) := by
  intro n hn
  have key : ∀ (m : ByteArray) v, nmB m = true → upd F m v n = F n := fun m v hm => upd_ne F v (fun e => by rw [e, hm] at hn; cases hn)
  rcases hr with ⟨m, rfl, hm, _⟩ | ⟨m, b, xs, rfl, hm, _⟩ | ⟨m, k, xs, rfl, hm, _⟩ | ⟨m, xs, rfl, hm, _⟩ | ⟨m, t, xs, rfl, hm, ht, _⟩
  · rw [do_cr, key _ _ hm]; exact h n hn
  · rw [do_ap, key _ _ hm]; exact h n hn
  · rw [do_cu, key _ _ hm]; exact h n hn
  · rw [do_rm, key _ _ hm]; exact h n hn
  · rw [do_rn, upd_ne _ _ (fun e => by rw [e, hm] at hn; cases hn), key _ _ ht]; exact h n hn
theorem Nmd.val {s : Nat} : ∀ (rs : List Rw) (F : ByteArray → Option (List Int)), Nmd F → Val s F rs → Nmd (rs.foldl Go.Proofs.YtlgcjdgcgnlcaaaGreatDoor.doR F)
  | [], F, h, _ => h
  | r :: t, F, h, hv => Nmd.val t _ (h.doR hv.1.1) hv.2
theorem Nmd.play {s : Nat} {rs : List Rw} (hv : Val s (fun _ => none) rs) : Nmd (play rs) := Nmd.val rs _ (fun _ _ => rfl) hv
/-- Is the digest j of a level there, if those ahead of it are? -/
def hasD (F : ByteArray → Option (List Int)) (h l j : Nat) : Bool := decide ((j % 2 ^ h + 1) * 32 ≤ (fl F (sN h l (j / 2 ^ h))).length)
/-- A level has n digests. -/
def Cn (F : ByteArray → Option (List Int)) (h l n : Nat) : Prop := (∀ j, j < n → hasD F h l j = true) ∧ hasD F h l n = false
theorem Cn.uniq {F : ByteArray → Option (List Int)} {h l n m : Nat} (a : Cn F h l n) (b : Cn F h l m) : n = m := by
  rcases Nat.lt_trichotomy n m with g | g | g
  · have := b.1 n g; rw [a.2] at this; cases this
  · exact g
  · have := a.1 m g; rw [b.2] at this; cases this
theorem fl_none {F : ByteArray → Option (List Int)} {n : ByteArray} (h : F n = none) : fl F n = [] := by simp [fl, h]
theorem hasD_tile {F : ByteArray → Option (List Int)} (hF : Nmd F) {h l j : Nat} (k : hasD F h l j = true) : tFB h l (j / 2 ^ h) = true := by
  cases hb : tFB h l (j / 2 ^ h) with
  | true => rfl
  | false =>
    unfold hasD at k
    rw [fl_none (hF _ (sN_no hb))] at k
    simp at k
theorem hasD_bd {F : ByteArray → Option (List Int)} (hF : Nmd F) {h l j : Nat} (k : hasD F h l j = true) : j < 281474976710656 := by
  obtain ⟨h1, _, _, h4, _⟩ := tFB_bd (hasD_tile hF k)
  have e := Nat.div_add_mod j (2 ^ h)
  have m := Nat.mod_lt j (Nat.two_pow_pos h)
  rw [Nat.add_mul, Nat.one_mul, Nat.mul_comm] at h4
  omega
theorem least (p : Nat → Bool) : ∀ B, p B = false → ∃ n, (∀ j, j < n → p j = true) ∧ p n = false
  | 0, h => ⟨0, by omega, h⟩
  | B + 1, h => by
    by_cases hq : ∀ j, j < B + 1 → p j = true
    · exact ⟨B + 1, hq, h⟩
    · obtain ⟨j, hj, hp⟩ : ∃ j, j < B + 1 ∧ p j = false := by
        apply Classical.byContradiction
        intro hn
        exact hq (fun j hj => by
          cases e : p j with
          | true => rfl
          | false => exact absurd ⟨j, hj, e⟩ hn)
      have key : ∀ m, p m = false → ∃ n, (∀ j, j < n → p j = true) ∧ p n = false := by
        intro m
        induction m using Nat.strongRecOn with
        | _ m ih =>
          intro hm
          by_cases hq : ∃ j, j < m ∧ p j = false
          · obtain ⟨j, h1, h2⟩ := hq
            exact ih j h1 h2
          · refine ⟨m, fun j hj => ?_, hm⟩
            cases e : p j with
            | true => rfl
            | false => exact absurd ⟨j, hj, e⟩ hq
      exact key j hp
theorem Cn.have {F : ByteArray → Option (List Int)} (hF : Nmd F) (h l : Nat) : ∃ n, Cn F h l n := by
  refine least (hasD F h l) 281474976710656 ?_
  cases e : hasD F h l 281474976710656 with
  | false => rfl
  | true => have := hasD_bd hF e; omega
theorem Cn.le {F : ByteArray → Option (List Int)} (hF : Nmd F) {h l n : Nat} (k : Cn F h l n) : n ≤ 281474976710656 := by
  cases n with
  | zero => omega
  | succ n => have := hasD_bd hF (k.1 n (Nat.lt_succ_self n)); omega

/-! ### how many digests there can be -/
def swp (a b x : ByteArray) : ByteArray := if x = a then b else if x = b then a else x
theorem swp_inj (a b : ByteArray) {x y : ByteArray} (h : swp a b x = swp a b y) : x = y := by
  unfold swp at h
  by_cases h1 : x = a
  · by_cases h2 : y = a
    · rw [h1, h2]
    · rw [if_pos h1, if_neg h2] at h
      by_cases h3 : y = b
      · rw [if_pos h3] at h; rw [h1, h3, h]
      · rw [if_neg h3] at h; exact absurd h.symm h3
  · rw [if_neg h1] at h
    by_cases h3 : x = b
    · rw [if_pos h3] at h
      by_cases h2 : y = a
      · rw [if_pos h2] at h; rw [h3, h2, h]
      · rw [if_neg h2] at h
        by_cases h4 : y = b
        · rw [h3, h4]
        · rw [if_neg h4] at h; exact absurd h.symm h2
    · rw [if_neg h3] at h
      by_cases h2 : y = a
      · rw [if_pos h2] at h; exact absurd h h3
      · rw [if_neg h2] at h
        by_cases h4 : y = b
        · rw [if_pos h4] at h; exact absurd h h1
        · rw [if_neg h4] at h; exact h
/-- How many bytes the files of a list of names have. -/
def sumF (F : ByteArray → Option (List Int)) (ns : List ByteArray) : Nat := (ns.map fun n => (fl F n).length).sum
theorem sumF_le {F G : ByteArray → Option (List Int)} (f : ByteArray → ByteArray) : ∀ (ns : List ByteArray), (∀ n ∈ ns, (fl F n).length ≤ (fl G (f n)).length) → sumF F ns ≤ sumF G (ns.map f)
  | [], _ => Nat.le_refl _
  | n :: t, h => by
    have h1 := h n (by simp)
    have h2 := sumF_le f t (fun m hm => h m (List.mem_cons_of_mem _ hm))
    simp only [sumF, List.map_cons, List.sum_cons] at *
    omega
theorem sumF_one {F G : ByteArray → Option (List Int)} {m : ByteArray} {b : Nat} : ∀ (ns : List ByteArray), ns.Nodup → (∀ n, n ≠ m → fl F n = fl G n) → (fl F m).length ≤ (fl G m).length + b → sumF F ns ≤ sumF G ns + b
  | [], _, _, _ => by simp [sumF]
  | n :: t, hn, h1, h2 => by
    obtain ⟨ha, hb⟩ := List.nodup_cons.1 hn
    by_cases e : n = m
    · subst e
      have : sumF F t = sumF G t := by
        unfold sumF
        congr 1
        apply List.map_congr_left
        intro x hx
        rw [h1 x (fun e => ha (e ▸ hx))]
      simp only [sumF, List.map_cons, List.sum_cons] at *
      omega
    · have := sumF_one t hb h1 h2
      have e2 := h1 n e
      simp only [sumF, List.map_cons, List.sum_cons] at *
      rw [e2]
      omega
theorem fl_upS (F : ByteArray → Option (List Int)) (m : ByteArray) (v : Option (List Int)) : fl (upd F m v) m = v.getD [] := by unfold fl; rw [upd_same]
theorem fl_upN (F : ByteArray → Option (List Int)) {m n : ByteArray} (v : Option (List Int)) (h : n ≠ m) : fl (upd F m v) n = fl F n := by unfold fl; rw [upd_ne _ _ h]
theorem sum_wt {s : Nat} : ∀ (rs : List Rw) (F : ByteArray → Option (List Int)) (B : Nat), Val s F rs → (∀ ns : List ByteArray, ns.Nodup → sumF F ns ≤ B) → ∀ ns : List ByteArray, ns.Nodup → sumF (rs.foldl doR F) ns ≤ B + wt rs
  | [], F, B, _, h, ns, hn => by simpa [wt] using h ns hn
  | r :: t, F, B, hv, h, ns, hn => by
    have key : ∀ ms : List ByteArray, ms.Nodup → sumF (doR F r) ms ≤ B + (r.b.length + 1) := by
      intro ms hms
      rcases hv.1.1 with ⟨m, rfl, _, hf⟩ | ⟨m, b, xs, rfl, _, hf, _⟩ | ⟨m, k, xs, rfl, _⟩ | ⟨m, xs, rfl, _⟩ | ⟨m, u, xs, rfl, _, _, hf, hne⟩
      · have := sumF_one (F := doR F (rCr m)) (G := F) (m := m) (b := 0) ms hms (fun n e => by rw [do_cr, fl_upN _ _ e]) (by rw [do_cr, fl_upS]; simp)
        have := h ms hms
        omega
      · have := sumF_one (F := doR F (rAp m b)) (G := F) (m := m) (b := b.length) ms hms (fun n e => by rw [do_ap, fl_upN _ _ e]) (by rw [do_ap, fl_upS]; simp)
        have := h ms hms
        have e : (rAp m b).b.length = b.length := rfl
        omega
      · have := sumF_one (F := doR F (rCu m k)) (G := F) (m := m) (b := 0) ms hms (fun n e => by rw [do_cu, fl_upN _ _ e]) (by rw [do_cu, fl_upS]; simp; omega)
        have := h ms hms
        omega
      · have := sumF_one (F := doR F (rRm m)) (G := F) (m := m) (b := 0) ms hms (fun n e => by rw [do_rm, fl_upN _ _ e]) (by rw [do_rm, fl_upS]; simp)
        have := h ms hms
        omega
      · have h1 := sumF_le (F := doR F (rRn m u)) (G := F) (swp m u) ms (fun n _ => by
          rw [do_rn]
          unfold swp
          by_cases e1 : n = m
          · rw [e1, fl_upS]; simp
          · rw [fl_upN _ _ e1]
            by_cases e2 : n = u
            · rw [e2, fl_upS, if_neg (fun e => hne e.symm), if_pos rfl]; simp
            · rw [fl_upN _ _ e2, if_neg e1, if_neg e2]; exact Nat.le_refl _)
        have h2 := h (ms.map (swp m u)) (by
          unfold List.Nodup at *
          rw [List.pairwise_map]
          exact hms.imp (fun hne e => hne (swp_inj _ _ e)))
        omega
    have := sum_wt t (doR F r) (B + (r.b.length + 1)) hv.2 key ns hn
    have e : wt (r :: t) = r.b.length + 1 + wt t := by simp [wt]
    simp only [List.foldl_cons]
    omega
theorem play_sum {s : Nat} {rs : List Rw} (hv : Val s (fun _ => none) rs) (ns : List ByteArray) (hn : ns.Nodup) : sumF (play rs) ns ≤ wt rs := by
  have key : ∀ ms : List ByteArray, sumF (fun _ => none) ms = 0 := by
    intro ms
    induction ms with
    | nil => rfl
    | cons a t ih =>
      simp only [sumF, List.map_cons, List.sum_cons] at *
      rw [ih]
      rfl
  have := sum_wt rs (fun _ => none) 0 hv (fun ns _ => Nat.le_of_eq (key ns)) ns hn
  simpa [play] using this
/-- The names of a level's first files. -/
def nmsL (h l q : Nat) : List ByteArray := (List.range q).map (sN h l)
theorem nmsL_nodup {h l q : Nat} (k : ∀ i, i < q → tFB h l i = true) : (nmsL h l q).Nodup := by
  unfold nmsL List.Nodup
  rw [List.pairwise_map]
  refine List.Pairwise.imp_of_mem ?_ (List.pairwise_lt_range (n := q))
  intro a b ha hb hlt e
  have := (sN_inj (k a (List.mem_range.1 ha)) e).2.2
  omega
theorem sum_full {F : ByteArray → Option (List Int)} {h l : Nat} : ∀ q, (∀ i, i < q → 32 * 2 ^ h ≤ (fl F (sN h l i)).length) → 32 * 2 ^ h * q ≤ sumF F (nmsL h l q)
  | 0, _ => by simp
  | q + 1, k => by
    have h1 := sum_full q (fun i hi => k i (by omega))
    have h2 := k q (by omega)
    unfold sumF nmsL at *
    rw [List.range_succ, List.map_append, List.map_append, List.sum_append]
    simp only [List.map_cons, List.map_nil, List.sum_cons, List.sum_nil, Nat.add_zero]
    rw [Nat.mul_add, Nat.mul_one]
    omega
theorem Cn.full {F : ByteArray → Option (List Int)} {h l n : Nat} (k : Cn F h l n) {i : Nat} (hi : i < n / 2 ^ h) : 32 * 2 ^ h ≤ (fl F (sN h l i)).length := by
  have hp := Nat.two_pow_pos h
  have e := Nat.div_add_mod n (2 ^ h)
  have hm : 2 ^ h * (i + 1) ≤ 2 ^ h * (n / 2 ^ h) := Nat.mul_le_mul_left _ hi
  rw [Nat.mul_add, Nat.mul_one] at hm
  have hj := k.1 (2 ^ h * i + (2 ^ h - 1)) (by omega)
  unfold hasD at hj
  rw [Nat.mul_add_mod, Nat.mul_add_div hp, Nat.mod_eq_of_lt (show 2 ^ h - 1 < 2 ^ h by omega), Nat.div_eq_of_lt (show 2 ^ h - 1 < 2 ^ h by omega)] at hj
  simp only [decide_eq_true_eq, Nat.add_zero] at hj
  rw [show 2 ^ h - 1 + 1 = 2 ^ h by omega] at hj
  omega
theorem Cn.part {F : ByteArray → Option (List Int)} {h l n : Nat} (k : Cn F h l n) : 32 * (n % 2 ^ h) ≤ (fl F (sN h l (n / 2 ^ h))).length := by
  have hp := Nat.two_pow_pos h
  have e := Nat.div_add_mod n (2 ^ h)
  by_cases h0 : n % 2 ^ h = 0
  · rw [h0]; omega
  · have hm := Nat.mod_lt n hp
    have hj := k.1 (2 ^ h * (n / 2 ^ h) + (n % 2 ^ h - 1)) (by omega)
    unfold hasD at hj
    rw [Nat.mul_add_mod, Nat.mul_add_div hp, Nat.mod_eq_of_lt (show n % 2 ^ h - 1 < 2 ^ h by omega), Nat.div_eq_of_lt (show n % 2 ^ h - 1 < 2 ^ h by omega)] at hj
    simp only [decide_eq_true_eq, Nat.add_zero] at hj
    rw [show n % 2 ^ h - 1 + 1 = n % 2 ^ h by omega] at hj
    omega
theorem Cn.tiles {F : ByteArray → Option (List Int)} (hF : Nmd F) {h l n : Nat} (k : Cn F h l n) {i : Nat} (hi : i < n / 2 ^ h) : tFB h l i = true := by
  have := k.full hi
  cases hb : tFB h l i with
  | true => rfl
  | false =>
    rw [fl_none (hF _ (sN_no hb))] at this
    have := Nat.two_pow_pos h
    simp at *
    omega
theorem Cn.wt {s : Nat} {rs : List Rw} (hv : Val s (fun _ => none) rs) {h l n : Nat} (k : Cn (play rs) h l n) : 32 * n ≤ wt rs := by
  have hF := Nmd.play hv
  have hp := Nat.two_pow_pos h
  have e := Nat.div_add_mod n (2 ^ h)
  have h1 := sum_full (F := play rs) (h := h) (l := l) (n / 2 ^ h) (fun i hi => k.full hi)
  have h2 := k.part
  have e3 : 32 * 2 ^ h * (n / 2 ^ h) = 32 * (2 ^ h * (n / 2 ^ h)) := Nat.mul_assoc _ _ _
  by_cases h0 : n % 2 ^ h = 0
  · have := play_sum hv _ (nmsL_nodup (h := h) (l := l) (q := n / 2 ^ h) (fun i hi => k.tiles hF hi))
    omega
  · have h3 : tFB h l (n / 2 ^ h) = true := by
      cases hb : tFB h l (n / 2 ^ h) with
      | true => rfl
      | false =>
        rw [fl_none (hF _ (sN_no hb))] at h2
        simp at h2
        omega
    have := play_sum hv _ (nmsL_nodup (h := h) (l := l) (q := n / 2 ^ h + 1) (fun i hi => tFB_le h3 (by omega)))
    unfold sumF nmsL at this h1
    rw [List.range_succ, List.map_append, List.map_append, List.sum_append] at this
    simp only [List.map_cons, List.map_nil, List.sum_cons, List.sum_nil, Nat.add_zero] at this
    omega
/-- The digest j of a level. -/
def dg (F : ByteArray → Option (List Int)) (h l j : Nat) : List Int := ((fl F (sN h l (j / 2 ^ h))).drop (j % 2 ^ h * 32)).take 32
def dgs (F : ByteArray → Option (List Int)) (h l n : Nat) : List (List Int) := (List.range n).map (dg F h l)
theorem dg_len {F : ByteArray → Option (List Int)} {h l j : Nat} (k : hasD F h l j = true) : (dg F h l j).length = 32 := by
  unfold hasD at k
  simp only [decide_eq_true_eq] at k
  unfold dg
  rw [List.length_take, List.length_drop]
  rw [Nat.add_mul] at k
  omega

end Go.Proofs.YtlgcjdgcgnlcaaaGreatDoor
