/-
  A tile's path, in letters, and what is read out of it. No program here.
-/
import Derived.Test.YtlgcjdgcgnlcaaaGreatDoorLza
import Derived.Test.YtlgcjdgcgnlcaaaGreatDoorTe0
namespace Go.Proofs.YtlgcjdgcgnlcaaaGreatDoor
open Go.RowKit
set_option linter.unusedVariables false
set_option linter.unusedSimpArgs false

/-- Three digits. -/
def d3 (n : Nat) : List UInt8 := [UInt8.ofNat (48 + n / 100), UInt8.ofNat (48 + n / 10 % 10), UInt8.ofNat (48 + n % 10)]
theorem d3_dg {n : Nat} (h : n < 1000) : ∀ b ∈ d3 n, isDg b := by
  intro b hb
  simp only [d3, List.mem_cons, List.not_mem_nil, or_false] at hb
  rcases hb with rfl | rfl | rfl
  · exact ⟨_, by omega, rfl⟩
  · exact ⟨_, Nat.mod_lt _ (by decide), rfl⟩
  · exact ⟨_, Nat.mod_lt _ (by decide), rfl⟩
theorem d3_dec {n : Nat} (h : n < 1000) (acc : Nat) : Lib.decFrom acc (d3 n) = some (acc * 1000 + n) := by
  have e : d3 n = [UInt8.ofNat (48 + n / 100)] ++ ([UInt8.ofNat (48 + n / 10 % 10)] ++ [UInt8.ofNat (48 + n % 10)]) := rfl
  rw [e, decFrom_app, decFrom_one _ _ (by omega), Option.bind_some, decFrom_app, decFrom_one _ _ (Nat.mod_lt _ (by decide)), Option.bind_some, decFrom_one _ _ (Nat.mod_lt _ (by decide))]
  congr 1
  omega
theorem dec_thou {n : Nat} (h : n < 1000) : Lib.decDigits (1000 + n) = 49 :: d3 n := by
  rw [dec_snoc (by omega), dec_snoc (by omega), dec_snoc (by omega), Lib.decDigits_one (by omega)]
  have e1 : (1000 + n) / 10 / 10 / 10 = 1 := by omega
  have e2 : (1000 + n) / 10 / 10 % 10 = n / 100 := by omega
  have e3 : (1000 + n) / 10 % 10 = n / 10 % 10 := by omega
  have e4 : (1000 + n) % 10 = n % 10 := by omega
  rw [e1, e2, e3, e4]
  rfl
/-- The groups ahead of the last one. -/
def ixF : Nat → Nat → List UInt8
  | 0, _ => []
  | k + 1, r => if r = 0 then [] else ixF k (r / 1000) ++ (120 :: d3 (r % 1000) ++ [47])
theorem ixF_up : ∀ (k r : Nat), r < 1000 ^ k → ixF (k + 1) r = ixF k r
  | 0, r, h => by
    obtain rfl : r = 0 := by simpa using h
    rfl
  | k + 1, r, h => by
    conv => lhs; unfold ixF
    conv => rhs; unfold ixF
    by_cases h0 : r = 0
    · rw [if_pos h0, if_pos h0]
    · rw [if_neg h0, if_neg h0, ixF_up k (r / 1000) (by rw [Nat.pow_succ] at h; omega)]
theorem ixF_step {r : Nat} (h : r < 1000 ^ 5) (h0 : r ≠ 0) : ixF 5 r = ixF 5 (r / 1000) ++ (120 :: d3 (r % 1000) ++ [47]) := by
  conv => lhs; unfold ixF
  rw [if_neg h0, ← ixF_up 4 (r / 1000) (by omega)]
theorem ixF_zero (k : Nat) : ixF k 0 = [] := by cases k <;> simp [ixF]
def ixP (i : Nat) : List UInt8 := ixF 5 (i / 1000) ++ d3 (i % 1000)
/-- Its digits alone. -/
def gD : Nat → Nat → List UInt8
  | 0, _ => []
  | k + 1, r => if r = 0 then [] else gD k (r / 1000) ++ d3 (r % 1000)
theorem gD_dg : ∀ (k r : Nat), ∀ b ∈ gD k r, isDg b
  | 0, r, b, hb => by simp [gD] at hb
  | k + 1, r, b, hb => by
    unfold gD at hb
    split at hb
    · simp at hb
    · rcases List.mem_append.1 hb with hb | hb
      · exact gD_dg k _ b hb
      · exact d3_dg (Nat.mod_lt _ (by decide)) b hb
theorem gD_len : ∀ (k r : Nat), (gD k r).length ≤ 3 * k
  | 0, r => by simp [gD]
  | k + 1, r => by
    unfold gD
    split
    · simp
    · rw [List.length_append]
      have := gD_len k (r / 1000)
      simp only [d3, List.length_cons, List.length_nil]
      omega
theorem gD_dec : ∀ (k r : Nat), r < 1000 ^ k → Lib.decFrom 0 (gD k r) = some r
  | 0, r, h => by
    obtain rfl : r = 0 := by simpa using h
    rfl
  | k + 1, r, h => by
    unfold gD
    split
    · rename_i h0; rw [h0]; rfl
    · rw [decFrom_app, gD_dec k (r / 1000) (by rw [Nat.pow_succ] at h; omega), Option.bind_some, d3_dec (Nat.mod_lt _ (by decide))]
      congr 1
      omega
def noX (b : UInt8) : Bool := !(b == 120)
def noS (b : UInt8) : Bool := !(b == 47)
theorem dg_filter {l : List UInt8} (h : ∀ b ∈ l, isDg b) : (l.filter noX).filter noS = l := by
  rw [List.filter_filter]
  apply List.filter_eq_self.2
  intro b hb
  have := (h b hb).ne
  simp [noX, noS, this.2.1, this.2.2.1]
theorem ixF_filter : ∀ (k r : Nat), ((ixF k r).filter noX).filter noS = gD k r
  | 0, r => rfl
  | k + 1, r => by
    unfold ixF gD
    split
    · rfl
    · rw [List.filter_append, List.filter_append, ixF_filter k (r / 1000)]
      congr 1
      rw [show (120 :: d3 (r % 1000) ++ [47] : List UInt8) = [120] ++ (d3 (r % 1000) ++ [47]) from rfl, List.filter_append, List.filter_append, List.filter_append, List.filter_append, dg_filter (d3_dg (Nat.mod_lt _ (by decide)))]
      rw [show (([120] : List UInt8).filter noX).filter noS = [] from rfl, show (([47] : List UInt8).filter noX).filter noS = [] from rfl]
      simp
def ixD (i : Nat) : List UInt8 := gD 5 (i / 1000) ++ d3 (i % 1000)
theorem ixP_filter (i : Nat) : ((ixP i).filter noX).filter noS = ixD i := by
  unfold ixP ixD
  rw [List.filter_append, List.filter_append, ixF_filter, dg_filter (d3_dg (Nat.mod_lt _ (by decide)))]
theorem ixD_atoi {i : Nat} (h : i < 1000000000000000000) : Lib.atoiAll (ixD i) = .ok (i : Int) := by
  refine atoi_dg ?_ (by simp [ixD, d3]) ?_ ?_
  · have := gD_len 5 (i / 1000)
    simp only [ixD, List.length_append, d3, List.length_cons, List.length_nil]
    omega
  · intro b hb
    rcases List.mem_append.1 hb with hb | hb
    · exact gD_dg _ _ b hb
    · exact d3_dg (Nat.mod_lt _ (by decide)) b hb
  · unfold ixD
    rw [decFrom_app, gD_dec 5 (i / 1000) (by omega), Option.bind_some, d3_dec (Nat.mod_lt _ (by decide))]
    congr 1
    omega
theorem dec_atoi {n : Nat} (h : n < 1000000000000000000) : Lib.atoiAll (Lib.decDigits n) = .ok (n : Int) := by
  refine atoi_dg ?_ (dec_ne n) (dec_dg n n (Nat.le_refl _)) (dec_of n n (Nat.le_refl _))
  have key : ∀ k v : Nat, v < 10 ^ k → 0 < k → (Lib.decDigits v).length ≤ k := by
    intro k
    induction k with
    | zero => intro v _ h; omega
    | succ k ih =>
      intro v hv _
      by_cases h : v < 10
      · rw [Lib.decDigits_one h]; simp
      · rw [dec_snoc h, List.length_append]
        have hk : 0 < k := by
          rcases Nat.eq_zero_or_pos k with rfl | h
          · simp at hv; omega
          · exact h
        have := ih (v / 10) (by rw [Nat.pow_succ] at hv; omega) hk
        simp; omega
  exact key 18 n h (by decide)
theorem ixF_let : ∀ (k r : Nat), ∀ b ∈ ixF k r, isDg b ∨ b = 120 ∨ b = 47
  | 0, r, b, hb => by simp [ixF] at hb
  | k + 1, r, b, hb => by
    unfold ixF at hb
    split at hb
    · simp at hb
    · rcases List.mem_append.1 hb with hb | hb
      · exact ixF_let k _ b hb
      · rw [show (120 :: d3 (r % 1000) ++ [47] : List UInt8) = [120] ++ (d3 (r % 1000) ++ [47]) from rfl, List.mem_append, List.mem_append] at hb
        rcases hb with hb | hb | hb
        · exact .inr (.inl (by simpa using hb))
        · exact .inl (d3_dg (Nat.mod_lt _ (by decide)) b hb)
        · exact .inr (.inr (by simpa using hb))
theorem ixP_dot (i : Nat) : ∀ b ∈ ixP i, b ≠ 46 := by
  intro b hb
  rcases List.mem_append.1 hb with hb | hb
  · rcases ixF_let _ _ b hb with h | rfl | rfl
    · exact h.ne.1
    · decide
    · decide
  · exact (d3_dg (Nat.mod_lt _ (by decide)) b hb).ne.1
/-- What a path begins with; the mark; the name; the whole path. -/
def tileB : List UInt8 := [116, 105, 108, 101, 47]
def markB : List UInt8 := [46, 112, 47]
def nmU (h l i : Nat) : List UInt8 := Lib.decDigits h ++ [47] ++ (Lib.decDigits l ++ [47] ++ ixP i)
def pU (h l i n : Nat) : List UInt8 := tileB ++ (if n < 2 ^ h then nmU h l i ++ markB ++ Lib.decDigits n else nmU h l i)
theorem nmU_dot (h l i : Nat) : ∀ b ∈ nmU h l i, b ≠ 46 := by
  intro b hb
  simp only [nmU, List.mem_append] at hb
  rcases hb with (hb | hb) | (hb | hb) | hb
  · exact (dec_dg h h (Nat.le_refl _) b hb).ne.1
  · rw [show b = 47 by simpa using hb]; decide
  · exact (dec_dg l l (Nat.le_refl _) b hb).ne.1
  · rw [show b = 47 by simpa using hb]; decide
  · exact ixP_dot i b hb
/-- What a text is read as. -/
def nuF (l : List UInt8) : Int := match Lib.atoiAll l with
  | .ok v => v
  | _ => -1
def gName (s : List UInt8) : List UInt8 × List UInt8 × Bool := Lib.cut (Lib.trimPrefix s tileB) markB
def gHt (s : List UInt8) : List UInt8 × List UInt8 × Bool := Lib.cut (gName s).1 [47]
def gLv (s : List UInt8) : List UInt8 × List UInt8 × Bool := Lib.cut (gHt s).2.1 [47]
def gDg (s : List UInt8) : List UInt8 := Lib.replaceAll (Lib.replaceAll (gLv s).2.1 [120] []) [47] []
def gH (s : List UInt8) : Int := nuF (gHt s).1
def gL (s : List UInt8) : Int := nuF (gLv s).1
def gI (s : List UInt8) : Int := nuF (gDg s)
def gW (s : List UInt8) : Int := if (gName s).2.2 = false ∧ 1 ≤ gH s ∧ gH s ≤ 8 then 2 ^ (gH s).toNat else nuF (gName s).2.1
theorem nuF_dec {n : Nat} (h : n < 1000000000000000000) : nuF (Lib.decDigits n) = n := by unfold nuF; rw [dec_atoi h]
theorem g_path {h l i n : Nat} (hh : isH h) (hl : l ≤ 48) (hi : i < 281474976710656) (hn : n ≤ 2 ^ h) : gH (pU h l i n) = h ∧ gL (pU h l i n) = l ∧ gI (pU h l i n) = i ∧ gW (pU h l i n) = n := by
  obtain ⟨N, hN⟩ : ∃ N, gName (pU h l i n) = N := ⟨_, rfl⟩
  have e0 : gName (pU h l i n) = if n < 2 ^ h then (nmU h l i, Lib.decDigits n, true) else (nmU h l i, [], false) := by
    unfold gName pU
    rw [trim_app]
    split
    · exact cut_app (nmU_dot h l i)
    · exact cut_no (nmU_dot h l i)
  have e1 : (gName (pU h l i n)).1 = nmU h l i := by rw [e0]; split <;> rfl
  have e2 : gHt (pU h l i n) = (Lib.decDigits h, Lib.decDigits l ++ [47] ++ ixP i, true) := by
    unfold gHt
    rw [e1]
    exact cut_app (fun b hb => (dec_dg h h (Nat.le_refl _) b hb).ne.2.1)
  have e3 : gLv (pU h l i n) = (Lib.decDigits l, ixP i, true) := by
    unfold gLv
    rw [e2]
    exact cut_app (fun b hb => (dec_dg l l (Nat.le_refl _) b hb).ne.2.1)
  have e4 : gDg (pU h l i n) = ixD i := by
    unfold gDg
    rw [e3, repAll_filter, repAll_filter]
    exact ixP_filter i
  have h8 := hh.2
  have hp := hh.pow
  have k1 : gH (pU h l i n) = h := by unfold gH; rw [e2]; exact nuF_dec (by omega)
  refine ⟨k1, by unfold gL; rw [e3]; exact nuF_dec (by omega), by unfold gI nuF; rw [e4, ixD_atoi (by omega)], ?_⟩
  unfold gW
  rw [k1, e0]
  have h1 := hh.1
  by_cases hw : n < 2 ^ h
  · rw [if_pos hw]
    simp only [Bool.true_eq_false, false_and, if_false]
    exact nuF_dec (by omega)
  · rw [if_neg hw, if_pos ⟨rfl, by omega, by omega⟩]
    have e : n = 2 ^ h := by omega
    rw [e, Int.toNat_natCast]
    simp [Int.natCast_pow]
/-- One text, one tile. -/
theorem tOK.nats {h l i n : Int} (k : tOK h l i n) : ∃ H L I N : Nat, h = H ∧ l = L ∧ i = I ∧ n = N ∧ isH H ∧ L ≤ 48 ∧ I < 281474976710656 ∧ 1 ≤ N ∧ N ≤ 2 ^ H := by
  obtain ⟨H, L, I, N, e1, e2, e3, e4, hH, h1, h2⟩ := k
  have hb := tW_bd (l := L) (i := I) hH (Nat.le_refl 281474976710656) (by omega)
  exact ⟨H, L, I, N, e1, e2, e3, e4, hH, hb.2.2, hb.2.1, h1, Nat.le_trans h2 (tW_le _ _ _ _)⟩
/-- The path of a tile that may be. -/
def pathI (h l i n : Int) : List UInt8 := pU h.toNat l.toNat i.toNat n.toNat
theorem pathI_g {h l i n : Int} (k : tOK h l i n) : gH (pathI h l i n) = h ∧ gL (pathI h l i n) = l ∧ gI (pathI h l i n) = i ∧ gW (pathI h l i n) = n := by
  obtain ⟨H, L, I, N, rfl, rfl, rfl, rfl, hH, h1, h2, _, h3⟩ := k.nats
  unfold pathI
  simp only [Int.toNat_natCast]
  exact g_path hH h1 h2 h3
theorem nuF_bd (l : List UInt8) : -9223372036854775808 ≤ nuF l ∧ nuF l ≤ 9223372036854775807 := by
  unfold nuF
  split
  · rename_i v hv
    unfold Lib.atoiAll at hv
    split at hv
    · cases hv
    · simp only at hv
      split at hv
      · cases hv
      · cases hv
      · split at hv
        · cases hv
        · split at hv
          · cases hv
          · injection hv with hv
            subst hv
            split <;> omega
  · omega
end Go.Proofs.YtlgcjdgcgnlcaaaGreatDoor
