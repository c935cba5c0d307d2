/-
  Texts one behind the other: Te Tpa Tpb Lzc Tqa Tf Tg Rn Ti Tqb Tqc Tpc Tpd Tqd.
-/
import Derived.Test.YtnlpgkfmjlljdaaDoorTc
import Derived.Test.YtnlpgkfmjlljdaaDoorOd
import Derived.Test.YtnlpgkfmjlljdaaDoorDa
import Derived.Laws.MakeOwn
import Derived.Test.YtnlpgkfmjlljdaaDoorLza
import Derived.Test.YtnlpgkfmjlljdaaDoorLzb
import Derived.Test.YtnlpgkfmjlljdaaDoorRf
import Derived.Deep.AppendLies
import Derived.Deep.Cut
import Derived.Lib.SlicesS

/-
  Which tiles may be; a tile's bytes as digests: the program's Valid, check, placeOf, digests.
-/
namespace Go.Proofs.YtnlpgkfmjlljdaaDoor
open Go.RowKit
set_option linter.unusedVariables false

/-- A tile that may be. -/
def tOK (h l i n : Int) : Prop := ∃ H L I N : Nat, h = (H : Int) ∧ l = (L : Int) ∧ i = (I : Int) ∧ n = (N : Int) ∧ isH H ∧ 1 ≤ N ∧ N ≤ tW H L I 281474976710656
theorem tW_bd {h l i n : Nat} (hh : isH h) (hn : n ≤ 281474976710656) (hw : 0 < tW h l i n) : h * l ≤ 48 ∧ i < 281474976710656 ∧ l ≤ 48 := by
  have h1 : h * l ≤ 48 := by
    rcases Nat.lt_or_ge 48 (h * l) with hg | hg
    · rw [tW_none (tOv_high hn hg)] at hw; omega
    · exact hg
  have h2 : i < 281474976710656 := by
    have hp := hh.pow.1
    have hle := Nat.le_trans (tOv_le h l n) hn
    unfold tW at hw
    have : i * 2 ^ h < tOv h l n := by
      generalize i * 2 ^ h = x at *
      generalize tOv h l n = y at *
      generalize 2 ^ h = z at *
      omega
    have h3 := Nat.mul_le_mul_left i (show 1 ≤ 2 ^ h by omega)
    rw [Nat.mul_one] at h3
    omega
  refine ⟨h1, h2, ?_⟩
  have := Nat.mul_le_mul_right l hh.1
  rw [Nat.one_mul] at this
  omega
set_option maxRecDepth 100000 in
theorem validT_any (h l i n : Int) (hl : l ≤ 9223372036854775807) (hi : i ≤ 9223372036854775807) : ∃ q : Bool, (q = true ↔ tOK h l i n) ∧ ∀ w : World,
    Calls Tryd.prog 9 #[.agg (c4 h l i n).toArray] w fun r w' => r = .returned (.bool q) ∧ Below w.heap.size w w' := by
  by_cases hb : h < 1 ∨ 8 < h ∨ l < 0 ∨ i < 0
  · have he : ¬ wdE h l i 281474976710656 = 0 := by unfold wdE; split <;> decide
    have HW := hide (fun v => width_bad h l i 281474976710656 v (.inl hb))
    generalize wdE h l i 281474976710656 = E at *
    refine ⟨false, ⟨(fun e => by cases e), fun ⟨H, L, I, N, e1, e2, e3, e4, hH, _⟩ => by have := hH.1; have := hH.2; omega⟩, fun w => ?_⟩
    clear hb
    go_enter Tryd.func9, Tryd.ntmps9
    go_wp2_with (first | (refine step_box (cs := c4 h l i n) rfl rfl ?_; intro w1 g1 hg1 hle1 hb1; have HG1 := hide hg1; obtain ⟨c0, c1, c2, _⟩ := hg1.four; clear hg1))
    refine (HW.out _).mono ?_
    rintro r w2 ⟨rfl, hb2⟩
    obtain ⟨_, _, _, c3⟩ := (HG1.out.on hb2).four
    have q2 := on_below hb1 hb2
    clear HG1 hb1 hb2 c0 c1 c2
    go_wp2
    go_ret
    exact ⟨rfl, q2⟩
  · obtain ⟨H, rfl⟩ : ∃ H : Nat, h = (H : Int) := ⟨h.toNat, by omega⟩
    obtain ⟨L, rfl⟩ : ∃ H : Nat, l = (H : Int) := ⟨l.toNat, by omega⟩
    obtain ⟨I, rfl⟩ : ∃ H : Nat, i = (H : Int) := ⟨i.toNat, by omega⟩
    have hH : isH H := ⟨by omega, by omega⟩
    have HW := hide (fun v => width_ok H L I 281474976710656 v hH (by omega) (by omega) (by omega))
    rw [show ((281474976710656 : Nat) : Int) = 281474976710656 from rfl] at HW
    have hiff : tOK (H : Int) (L : Int) (I : Int) n ↔ 1 ≤ n ∧ n ≤ (tW H L I 281474976710656 : Int) := by
      constructor
      · rintro ⟨H', L', I', N, e1, e2, e3, rfl, _, h1, h2⟩
        obtain rfl : H = H' := by omega
        obtain rfl : L = L' := by omega
        obtain rfl : I = I' := by omega
        omega
      · rintro ⟨h1, h2⟩
        exact ⟨H, L, I, n.toNat, rfl, rfl, rfl, by omega, hH, by omega, by omega⟩
    have HIF := hide hiff
    generalize tW H L I 281474976710656 = W at *
    clear hb hiff
    by_cases h1 : 1 ≤ n
    · have h1' : n ≥ 1 := h1
      by_cases h2 : n ≤ (W : Int)
      · refine ⟨true, ⟨fun _ => HIF.out.2 ⟨h1, h2⟩, fun _ => rfl⟩, fun w => ?_⟩
        generalize (H : Int) = h at *
        generalize (L : Int) = l at *
        generalize (I : Int) = i at *
        go_enter Tryd.func9, Tryd.ntmps9
        go_wp2_with (first | (refine step_box (cs := c4 h l i n) rfl rfl ?_; intro w1 g1 hg1 hle1 hb1; have HG1 := hide hg1; obtain ⟨c0, c1, c2, _⟩ := hg1.four; clear hg1))
        refine (HW.out _).mono ?_
        rintro r w2 ⟨rfl, hb2⟩
        obtain ⟨_, _, _, c3⟩ := (HG1.out.on hb2).four
        have q2 := on_below hb1 hb2
        clear HG1 hb1 hb2 c0 c1 c2
        go_wp2
        go_ret
        exact ⟨rfl, q2⟩
      · refine ⟨false, ⟨(fun e => by cases e), fun e => absurd (HIF.out.1 e).2 h2⟩, fun w => ?_⟩
        have h2' : decide (n ≤ (W : Int)) = false := by simp; omega
        generalize (H : Int) = h at *
        generalize (L : Int) = l at *
        generalize (I : Int) = i at *
        go_enter Tryd.func9, Tryd.ntmps9
        go_wp2_with (first | (refine step_box (cs := c4 h l i n) rfl rfl ?_; intro w1 g1 hg1 hle1 hb1; have HG1 := hide hg1; obtain ⟨c0, c1, c2, _⟩ := hg1.four; clear hg1))
        refine (HW.out _).mono ?_
        rintro r w2 ⟨rfl, hb2⟩
        obtain ⟨_, _, _, c3⟩ := (HG1.out.on hb2).four
        have q2 := on_below hb1 hb2
        clear HG1 hb1 hb2 c0 c1 c2
        go_wp2
        go_ret
        exact ⟨rfl, q2⟩
    · refine ⟨false, ⟨(fun e => by cases e), fun e => absurd (HIF.out.1 e).1 h1⟩, fun w => ?_⟩
      have h1' : ¬ n ≥ 1 := h1
      generalize (H : Int) = h at *
      generalize (L : Int) = l at *
      generalize (I : Int) = i at *
      go_enter Tryd.func9, Tryd.ntmps9
      go_wp2_with (first | (refine step_box (cs := c4 h l i n) rfl rfl ?_; intro w1 g1 hg1 hle1 hb1; have HG1 := hide hg1; obtain ⟨c0, c1, c2, _⟩ := hg1.four; clear hg1))
      refine (HW.out _).mono ?_
      rintro r w2 ⟨rfl, hb2⟩
      obtain ⟨_, _, _, c3⟩ := (HG1.out.on hb2).four
      have q2 := on_below hb1 hb2
      clear HG1 hb1 hb2 c0 c1 c2
      go_wp2
      go_ret
      exact ⟨rfl, q2⟩
/-- What is amiss with a tile and so many bytes. -/
def ChE (h l i n : Int) (len : Nat) (e : Int) : Prop := (e = 2 ∧ ¬ tOK h l i n) ∨ (tOK h l i n ∧ ((e = 101 ∧ ¬ (len : Int) = n * 32) ∨ (e = 0 ∧ (len : Int) = n * 32)))
theorem tOK.n_bd {h l i n : Int} (k : tOK h l i n) : 1 ≤ n ∧ n ≤ 256 := by
  obtain ⟨H, L, I, N, _, _, _, rfl, hH, h1, h2⟩ := k
  have := tW_le H L I 281474976710656
  have := hH.pow.2
  omega
set_option maxRecDepth 100000 in
theorem check_any (h l i n : Int) (hl : l ≤ 9223372036854775807) (hi : i ≤ 9223372036854775807) (len : Nat) (hlen : len ≤ 140737488355328) : ∃ e : Int, ChE h l i n len e ∧ ∀ (a : Option Addr) (cap : Nat) (w : World),
    Calls Tryd.prog 28 #[.agg (c4 h l i n).toArray, .slice a len cap] w fun r w' => r = .returned (.int .i64 e) ∧ Below w.heap.size w w' := by
  obtain ⟨q, hq, hv⟩ := validT_any h l i n hl hi
  have HV := hide hv
  clear hv
  cases q with
  | false =>
    refine ⟨2, .inl ⟨rfl, fun hk => by simpa using hq.2 hk⟩, fun a cap w => ?_⟩
    clear hq
    go_enter Tryd.func28, Tryd.ntmps28
    go_wp2_with (first | (refine step_box (cs := c4 h l i n) rfl rfl ?_; intro w1 g1 hg1 hle1 hb1; have HG1 := hide hg1; clear hg1) | (refine step_loadA wT rfl rfl HG1.out rfl ?_))
    refine (HV.out _).mono ?_
    rintro r w2 ⟨rfl, hb2⟩
    obtain ⟨_, _, _, c3⟩ := (HG1.out.on hb2).four
    have q2 := on_below hb1 hb2
    clear HG1 hb1 hb2
    go_wp2
    go_ret
    exact ⟨rfl, q2⟩
  | true =>
    have hk := hq.1 rfl
    have hb := hk.n_bd
    have hb1 := hb.1
    have hb2 := hb.2
    have hw : wrap64 (n * 32) = n * 32 := by unfold wrap64; omega
    by_cases hc : (len : Int) = n * 32
    · refine ⟨0, .inr ⟨hk, .inr ⟨rfl, hc⟩⟩, fun a cap w => ?_⟩
      clear hq hk hb hb1 hb2
      have hcb : ((len : Int) == n * 32) = true := by simp [hc]
      go_enter Tryd.func28, Tryd.ntmps28
      go_wp2_with (first | (refine step_box (cs := c4 h l i n) rfl rfl ?_; intro w1 g1 hg1 hle1 hb1; have HG1 := hide hg1; clear hg1) | (refine step_loadA wT rfl rfl HG1.out rfl ?_))
      refine (HV.out _).mono ?_
      rintro r w2 ⟨rfl, hb2⟩
      obtain ⟨_, _, _, c3⟩ := (HG1.out.on hb2).four
      have q2 := on_below hb1 hb2
      clear HG1 hb1 hb2
      go_wp2
      go_ret
      exact ⟨rfl, q2⟩
    · refine ⟨101, .inr ⟨hk, .inl ⟨rfl, hc⟩⟩, fun a cap w => ?_⟩
      have hcb : ((len : Int) == n * 32) = false := by simp [hc]
      clear hq hk hb hb1 hb2
      go_enter Tryd.func28, Tryd.ntmps28
      go_wp2_with (first | (refine step_box (cs := c4 h l i n) rfl rfl ?_; intro w1 g1 hg1 hle1 hb1; have HG1 := hide hg1; clear hg1) | (refine step_loadA wT rfl rfl HG1.out rfl ?_))
      refine (HV.out _).mono ?_
      rintro r w2 ⟨rfl, hb2⟩
      obtain ⟨_, _, _, c3⟩ := (HG1.out.on hb2).four
      have q2 := on_below hb1 hb2
      clear HG1 hb1 hb2
      go_wp2
      go_ret
      exact ⟨rfl, q2⟩

end Go.Proofs.YtnlpgkfmjlljdaaDoor

/-
  A tile's path, in letters, and what is read out of it. No program here.
-/
namespace Go.Proofs.YtnlpgkfmjlljdaaDoor
open Go.RowKit
set_option linter.unusedVariables false
set_option linter.unusedSimpArgs false

/-- Three digits. -/
def d3 (n : Nat) : List UInt8 := [UInt8.ofNat (48 + n / 100), UInt8.ofNat (48 + n / 10 % 10), UInt8.ofNat (48 + n % 10)]
theorem d3_dg {n : Nat} (h : n < 1000) : ∀ b ∈ d3 n, isDg b := by
  intro b hb
  simp only [d3, List.mem_cons, List.not_mem_nil, or_false] at hb
  rcases hb with rfl | rfl | rfl
  · exact ⟨_, by omega, rfl⟩
  · exact ⟨_, Nat.mod_lt _ (by decide), rfl⟩
  · exact ⟨_, Nat.mod_lt _ (by decide), rfl⟩
theorem d3_dec {n : Nat} (h : n < 1000) (acc : Nat) : Lib.decFrom acc (d3 n) = some (acc * 1000 + n) := by
  have e : d3 n = [UInt8.ofNat (48 + n / 100)] ++ ([UInt8.ofNat (48 + n / 10 % 10)] ++ [UInt8.ofNat (48 + n % 10)]) := rfl
  rw [e, decFrom_app, decFrom_one _ _ (by omega), Option.bind_some, decFrom_app, decFrom_one _ _ (Nat.mod_lt _ (by decide)), Option.bind_some, decFrom_one _ _ (Nat.mod_lt _ (by decide))]
  congr 1
  omega
theorem dec_thou {n : Nat} (h : n < 1000) : Lib.decDigits (1000 + n) = 49 :: d3 n := by
  rw [dec_snoc (by omega), dec_snoc (by omega), dec_snoc (by omega), Lib.decDigits_one (by omega)]
  have e1 : (1000 + n) / 10 / 10 / 10 = 1 := by omega
  have e2 : (1000 + n) / 10 / 10 % 10 = n / 100 := by omega
  have e3 : (1000 + n) / 10 % 10 = n / 10 % 10 := by omega
  have e4 : (1000 + n) % 10 = n % 10 := by omega
  rw [e1, e2, e3, e4]
  rfl
/-- The groups ahead of the last one. -/
def ixF : Nat → Nat → List UInt8
  | 0, _ => []
  | k + 1, r => if r = 0 then [] else ixF k (r / 1000) ++ (120 :: d3 (r % 1000) ++ [47])
theorem ixF_up : ∀ (k r : Nat), r < 1000 ^ k → ixF (k + 1) r = ixF k r
  | 0, r, h => by
    obtain rfl : r = 0 := by simpa using h
    rfl
  | k + 1, r, h => by
    conv => lhs; unfold ixF
    conv => rhs; unfold ixF
    by_cases h0 : r = 0
    · rw [if_pos h0, if_pos h0]
    · rw [if_neg h0, if_neg h0, ixF_up k (r / 1000) (by rw [Nat.pow_succ] at h; omega)]
theorem ixF_step {r : Nat} (h : r < 1000 ^ 5) (h0 : r ≠ 0) : ixF 5 r = ixF 5 (r / 1000) ++ (120 :: d3 (r % 1000) ++ [47]) := by
  conv => lhs; unfold ixF
  rw [if_neg h0, ← ixF_up 4 (r / 1000) (by omega)]
theorem ixF_zero (k : Nat) : ixF k 0 = [] := by cases k <;> simp [ixF]
def ixP (i : Nat) : List UInt8 := ixF 5 (i / 1000) ++ d3 (i % 1000)
/-- Its digits alone. -/
def gD : Nat → Nat → List UInt8
  | 0, _ => []
  | k + 1, r => if r = 0 then [] else gD k (r / 1000) ++ d3 (r % 1000)
theorem gD_dg : ∀ (k r : Nat), ∀ b ∈ gD k r, isDg b
  | 0, r, b, hb => by simp [gD] at hb
  | k + 1, r, b, hb => by
    unfold gD at hb
    split at hb
    · simp at hb
    · rcases List.mem_append.1 hb with hb | hb
      · exact gD_dg k _ b hb
      · exact d3_dg (Nat.mod_lt _ (by decide)) b hb
theorem gD_len : ∀ (k r : Nat), (gD k r).length ≤ 3 * k
  | 0, r => by simp [gD]
  | k + 1, r => by
    unfold gD
    split
    · simp
    · rw [List.length_append]
      have := gD_len k (r / 1000)
      simp only [d3, List.length_cons, List.length_nil]
      omega
theorem gD_dec : ∀ (k r : Nat), r < 1000 ^ k → Lib.decFrom 0 (gD k r) = some r
  | 0, r, h => by
    obtain rfl : r = 0 := by simpa using h
    rfl
  | k + 1, r, h => by
    unfold gD
    split
    · rename_i h0; rw [h0]; rfl
    · rw [decFrom_app, gD_dec k (r / 1000) (by rw [Nat.pow_succ] at h; omega), Option.bind_some, d3_dec (Nat.mod_lt _ (by decide))]
      congr 1
      omega
def noX (b : UInt8) : Bool := !(b == 120)
def noS (b : UInt8) : Bool := !(b == 47)
theorem dg_filter {l : List UInt8} (h : ∀ b ∈ l, isDg b) : (l.filter noX).filter noS = l := by
  rw [List.filter_filter]
  apply List.filter_eq_self.2
  intro b hb
  have := (h b hb).ne
  simp [noX, noS, this.2.1, this.2.2.1]
theorem ixF_filter : ∀ (k r : Nat), ((ixF k r).filter noX).filter noS = gD k r
  | 0, r => rfl
  | k + 1, r => by
    unfold ixF gD
    split
    · rfl
    · rw [List.filter_append, List.filter_append, ixF_filter k (r / 1000)]
      congr 1
      rw [show (120 :: d3 (r % 1000) ++ [47] : List UInt8) = [120] ++ (d3 (r % 1000) ++ [47]) from rfl, List.filter_append, List.filter_append, List.filter_append, List.filter_append, dg_filter (d3_dg (Nat.mod_lt _ (by decide)))]
      rw [show (([120] : List UInt8).filter noX).filter noS = [] from rfl, show (([47] : List UInt8).filter noX).filter noS = [] from rfl]
      simp
def ixD (i : Nat) : List UInt8 := gD 5 (i / 1000) ++ d3 (i % 1000)
theorem ixP_filter (i : Nat) : ((ixP i).filter noX).filter noS = ixD i := by
  unfold ixP ixD
  rw [List.filter_append, List.filter_append, ixF_filter, dg_filter (d3_dg (Nat.mod_lt _ (by decide)))]
theorem ixD_atoi {i : Nat} (h : i < 1000000000000000000) : Lib.atoiAll (ixD i) = .ok (i : Int) := by
  refine atoi_dg ?_ (by simp [ixD, d3]) ?_ ?_
  · have := gD_len 5 (i / 1000)
    simp only [ixD, List.length_append, d3, List.length_cons, List.length_nil]
    omega
  · intro b hb
    rcases List.mem_append.1 hb with hb | hb
    · exact gD_dg _ _ b hb
    · exact d3_dg (Nat.mod_lt _ (by decide)) b hb
  · unfold ixD
    rw [decFrom_app, gD_dec 5 (i / 1000) (by omega), Option.bind_some, d3_dec (Nat.mod_lt _ (by decide))]
    congr 1
    omega
theorem dec_atoi {n : Nat} (h : n < 1000000000000000000) : Lib.atoiAll (Lib.decDigits n) = .ok (n : Int) := by
  refine atoi_dg ?_ (dec_ne n) (dec_dg n n (Nat.le_refl _)) (dec_of n n (Nat.le_refl _))
  have key : ∀ k v : Nat, v < 10 ^ k → 0 < k → (Lib.decDigits v).length ≤ k := by
    intro k
    induction k with
    | zero => intro v _ h; omega
    | succ k ih =>
      intro v hv _
      by_cases h : v < 10
      · rw [Lib.decDigits_one h]; simp
      · rw [dec_snoc h, List.length_append]
        have hk : 0 < k := by
          rcases Nat.eq_zero_or_pos k with rfl | h
          · simp at hv; omega
          · exact h
        have := ih (v / 10) (by rw [Nat.pow_succ] at hv; omega) hk
        simp; omega
  exact key 18 n h (by decide)
theorem ixF_let : ∀ (k r : Nat), ∀ b ∈ ixF k r, isDg b ∨ b = 120 ∨ b = 47
  | 0, r, b, hb => by simp [ixF] at hb
  | k + 1, r, b, hb => by
    unfold ixF at hb
    split at hb
    · simp at hb
    · rcases List.mem_append.1 hb with hb | hb
      · exact ixF_let k _ b hb
      · rw [show (120 :: d3 (r % 1000) ++ [47] : List UInt8) = [120] ++ (d3 (r % 1000) ++ [47]) from rfl, List.mem_append, List.mem_append] at hb
        rcases hb with hb | hb | hb
        · exact .inr (.inl (by simpa using hb))
        · exact .inl (d3_dg (Nat.mod_lt _ (by decide)) b hb)
        · exact .inr (.inr (by simpa using hb))
theorem ixP_dot (i : Nat) : ∀ b ∈ ixP i, b ≠ 46 := by
  intro b hb
  rcases List.mem_append.1 hb with hb | hb
  · rcases ixF_let _ _ b hb with h | rfl | rfl
    · exact h.ne.1
    · decide
    · decide
  · exact (d3_dg (Nat.mod_lt _ (by decide)) b hb).ne.1
/-- What a path begins with; the mark; the name; the whole path. -/
def tileB : List UInt8 := [116, 105, 108, 101, 47]
def markB : List UInt8 := [46, 112, 47]
def nmU (h l i : Nat) : List UInt8 := Lib.decDigits h ++ [47] ++ (Lib.decDigits l ++ [47] ++ ixP i)
def pU (h l i n : Nat) : List UInt8 := tileB ++ (if n < 2 ^ h then nmU h l i ++ markB ++ Lib.decDigits n else nmU h l i)
theorem nmU_dot (h l i : Nat) : ∀ b ∈ nmU h l i, b ≠ 46 := by
  intro b hb
  simp only [nmU, List.mem_append] at hb
  rcases hb with (hb | hb) | (hb | hb) | hb
  · exact (dec_dg h h (Nat.le_refl _) b hb).ne.1
  · rw [show b = 47 by simpa using hb]; decide
  · exact (dec_dg l l (Nat.le_refl _) b hb).ne.1
  · rw [show b = 47 by simpa using hb]; decide
  · exact ixP_dot i b hb
/-- What a text is read as. -/
def nuF (l : List UInt8) : Int := match Lib.atoiAll l with
  | .ok v => v
  | _ => -1
def gName (s : List UInt8) : List UInt8 × List UInt8 × Bool := Lib.cut (Lib.trimPrefix s tileB) markB
def gHt (s : List UInt8) : List UInt8 × List UInt8 × Bool := Lib.cut (gName s).1 [47]
def gLv (s : List UInt8) : List UInt8 × List UInt8 × Bool := Lib.cut (gHt s).2.1 [47]
def gDg (s : List UInt8) : List UInt8 := Lib.replaceAll (Lib.replaceAll (gLv s).2.1 [120] []) [47] []
def gH (s : List UInt8) : Int := nuF (gHt s).1
def gL (s : List UInt8) : Int := nuF (gLv s).1
def gI (s : List UInt8) : Int := nuF (gDg s)
def gW (s : List UInt8) : Int := if (gName s).2.2 = false ∧ 1 ≤ gH s ∧ gH s ≤ 8 then 2 ^ (gH s).toNat else nuF (gName s).2.1
theorem nuF_dec {n : Nat} (h : n < 1000000000000000000) : nuF (Lib.decDigits n) = n := by unfold nuF; rw [dec_atoi h]
theorem g_path {h l i n : Nat} (hh : isH h) (hl : l ≤ 48) (hi : i < 281474976710656) (hn : n ≤ 2 ^ h) : gH (pU h l i n) = h ∧ gL (pU h l i n) = l ∧ gI (pU h l i n) = i ∧ gW (pU h l i n) = n := by
  obtain ⟨N, hN⟩ : ∃ N, gName (pU h l i n) = N := ⟨_, rfl⟩
  have e0 : gName (pU h l i n) = if n < 2 ^ h then (nmU h l i, Lib.decDigits n, true) else (nmU h l i, [], false) := by
    unfold gName pU
    rw [trim_app]
    split
    · exact cut_app (nmU_dot h l i)
    · exact cut_no (nmU_dot h l i)
  have e1 : (gName (pU h l i n)).1 = nmU h l i := by rw [e0]; split <;> rfl
  have e2 : gHt (pU h l i n) = (Lib.decDigits h, Lib.decDigits l ++ [47] ++ ixP i, true) := by
    unfold gHt
    rw [e1]
    exact cut_app (fun b hb => (dec_dg h h (Nat.le_refl _) b hb).ne.2.1)
  have e3 : gLv (pU h l i n) = (Lib.decDigits l, ixP i, true) := by
    unfold gLv
    rw [e2]
    exact cut_app (fun b hb => (dec_dg l l (Nat.le_refl _) b hb).ne.2.1)
  have e4 : gDg (pU h l i n) = ixD i := by
    unfold gDg
    rw [e3, repAll_filter, repAll_filter]
    exact ixP_filter i
  have h8 := hh.2
  have hp := hh.pow
  have k1 : gH (pU h l i n) = h := by unfold gH; rw [e2]; exact nuF_dec (by omega)
  refine ⟨k1, by unfold gL; rw [e3]; exact nuF_dec (by omega), by unfold gI nuF; rw [e4, ixD_atoi (by omega)], ?_⟩
  unfold gW
  rw [k1, e0]
  have h1 := hh.1
  by_cases hw : n < 2 ^ h
  · rw [if_pos hw]
    simp only [Bool.true_eq_false, false_and, if_false]
    exact nuF_dec (by omega)
  · rw [if_neg hw, if_pos ⟨rfl, by omega, by omega⟩]
    have e : n = 2 ^ h := by omega
    rw [e, Int.toNat_natCast]
    simp [Int.natCast_pow]
/-- One text, one tile. -/
theorem tOK.nats {h l i n : Int} (k : tOK h l i n) : ∃ H L I N : Nat, h = H ∧ l = L ∧ i = I ∧ n = N ∧ isH H ∧ L ≤ 48 ∧ I < 281474976710656 ∧ 1 ≤ N ∧ N ≤ 2 ^ H := by
  obtain ⟨H, L, I, N, e1, e2, e3, e4, hH, h1, h2⟩ := k
  have hb := tW_bd (l := L) (i := I) hH (Nat.le_refl 281474976710656) (by omega)
  exact ⟨H, L, I, N, e1, e2, e3, e4, hH, hb.2.2, hb.2.1, h1, Nat.le_trans h2 (tW_le _ _ _ _)⟩
/-- The path of a tile that may be. -/
def pathI (h l i n : Int) : List UInt8 := pU h.toNat l.toNat i.toNat n.toNat
theorem pathI_g {h l i n : Int} (k : tOK h l i n) : gH (pathI h l i n) = h ∧ gL (pathI h l i n) = l ∧ gI (pathI h l i n) = i ∧ gW (pathI h l i n) = n := by
  obtain ⟨H, L, I, N, rfl, rfl, rfl, rfl, hH, h1, h2, _, h3⟩ := k.nats
  unfold pathI
  simp only [Int.toNat_natCast]
  exact g_path hH h1 h2 h3
theorem nuF_bd (l : List UInt8) : -9223372036854775808 ≤ nuF l ∧ nuF l ≤ 9223372036854775807 := by
  unfold nuF
  split
  · rename_i v hv
    unfold Lib.atoiAll at hv
    split at hv
    · cases hv
    · simp only at hv
      split at hv
      · cases hv
      · cases hv
      · split at hv
        · cases hv
        · split at hv
          · cases hv
          · injection hv with hv
            subst hv
            split <;> omega
  · omega
end Go.Proofs.YtnlpgkfmjlljdaaDoor

/-
  A tile's path as the program tells it: threeDigits, indexPath, Path.
-/
namespace Go.Proofs.YtnlpgkfmjlljdaaDoor
open Go.RowKit
set_option linter.unusedVariables false
set_option linter.unusedSimpArgs false

section
variable {dst : Option Tmp} {ty : TypeId} {pos : String} {aft : Array Edge} {gd : Option (Nat × Bool)} {ops : Array Oper} {rest : List Oper} {a : Act} {w : World} {Q : Exit → Act → World → Prop}
theorem step_addS {x y : Operand} {p q : List UInt8} (hw : Region.wanted ⟨dst, .binOp .add 9 x y 9, ty, pos, aft, gd⟩ (yielded ops a.tmps) = true) (hx : a.eval x = .string (bA p)) (hy : a.eval y = .string (bA q)) (hs : p.length + q.length ≤ 1048576)
    (h : wpList Tryd.prog ops Q rest (a.put dst (.string (bA (p ++ q)))) w) : wpList Tryd.prog ops Q (⟨dst, .binOp .add 9 x y 9, ty, pos, aft, gd⟩ :: rest) a w := by
  have hr := run_addS (dst := dst) (ty := ty) (pos := pos) (aft := aft) (gd := gd) (w := w) hx hy (by rw [bA_size, bA_size]; omega)
  rw [bA_app] at hr
  exact step_run hw _ w hr h
end
theorem runS {dst : Option Tmp} {ty : TypeId} {pos : String} {aft : Array Edge} {gd : Option (Nat × Bool)} {a : Act} {w : World} {x y : Operand} {p q r : List UInt8} (hx : a.eval x = .string (bA p)) (hy : a.eval y = .string (bA q)) (hs : p ++ q = r ∧ p.length + q.length ≤ 9000) :
    (execOp a.eval ⟨dst, .binOp .add 9 x y 9, ty, pos, aft, gd⟩).run Tryd.prog w = .ok (.value (.string (bA r))) w := by
  obtain ⟨rfl, hs⟩ := hs
  rw [← bA_app]
  exact run_addS hx hy (by rw [bA_size, bA_size]; omega)
theorem step_addR {dst : Option Tmp} {ty : TypeId} {pos : String} {aft : Array Edge} {gd : Option (Nat × Bool)} {ops : Array Oper} {rest : List Oper} {a : Act} {w : World} {Q : Exit → Act → World → Prop} {x y : Operand} {p q r : List UInt8} (hw : Region.wanted ⟨dst, .binOp .add 9 x y 9, ty, pos, aft, gd⟩ (yielded ops a.tmps) = true) (hx : a.eval x = .string (bA p)) (hy : a.eval y = .string (bA q)) (hs : p ++ q = r ∧ p.length + q.length ≤ 9000)
    (h : wpList Tryd.prog ops Q rest (a.put dst (.string (bA r))) w) : wpList Tryd.prog ops Q (⟨dst, .binOp .add 9 x y 9, ty, pos, aft, gd⟩ :: rest) a w := step_run hw _ w (runS hx hy hs) h
theorem joinP {T : Program} {c : Code} {a : Act} {w : World} {Q : Exit → Act → World → Prop} {K : Act → World → Prop} (P : World → Prop) (act : Act) (h1 : ∀ W, P W → K act W) (h2 : (∀ W, P W → K act W) → Code.wp T c (Exit.then K Q) a w) : Code.wp T c (Exit.then K Q) a w := h2 h1
theorem d3_length (n : Nat) : (d3 n).length = 3 := rfl
theorem ixF_len : ∀ (k r : Nat), (ixF k r).length ≤ 5 * k
  | 0, r => by simp [ixF]
  | k + 1, r => by
    unfold ixF
    split
    · simp
    · have := ixF_len k (r / 1000)
      simp only [List.length_append, List.length_cons, List.length_nil, d3_length]
      omega
theorem ixP_len (i : Nat) : (ixP i).length ≤ 28 := by
  have := ixF_len 5 (i / 1000)
  simp only [ixP, List.length_append, d3_length]
  omega
set_option maxRecDepth 100000 in
theorem three_any (n : Nat) (w : World) (hn : n < 1000) (ht : PT w) : Calls Tryd.prog 36 #[.int .i64 (n : Int)] w fun r w' => r = .returned (.string (bA (d3 n))) ∧ Below w.heap.size w w' := by
  obtain ⟨N, hN⟩ : ∃ N, 1000 + n = N := ⟨_, rfl⟩
  have e1 : (1000 : Int) + (n : Int) = (N : Int) := by omega
  have HI := hide (itoa_any N w (by omega) ht)
  rw [← hN, dec_thou hn, hN] at HI
  have hNb : N ≤ 2000 := by omega
  have x1 := slice_str (49 :: d3 n) 1 1 rfl (by simp)
  rw [List.drop_succ_cons, List.drop_zero] at x1
  clear hN ht
  go_enter Tryd.func36, Tryd.ntmps36
  go_wp2_with fail
  refine HI.out.mono ?_
  rintro r w1 ⟨rfl, hb⟩
  have HB := hide hb
  clear hb HI
  go_wp2
  go_ret
  exact ⟨rfl, HB.out⟩
theorem quo1000 (r : Nat) : (r : Int).tdiv 1000 = ((r / 1000 : Nat) : Int) ∧ (r : Int).tmod 1000 = ((r % 1000 : Nat) : Int) ∧ (r : Int) / 1000 = ((r / 1000 : Nat) : Int) ∧ (r : Int) % 1000 = ((r % 1000 : Nat) : Int) := by
  refine ⟨?_, ?_, by omega, by omega⟩
  · rw [Int.tdiv_eq_ediv_of_nonneg (by omega)]; omega
  · rw [Int.tmod_eq_emod_of_nonneg (by omega)]; omega
set_option maxRecDepth 100000 in
theorem index_any (i : Nat) (w : World) (hi : i ≤ 281474976710656) (ht : PT w) : Calls Tryd.prog 17 #[.int .i64 (i : Int)] w fun r w' => r = .returned (.string (bA (ixP i))) ∧ Below w.heap.size w w' := by
  have HT := hide ht
  have HL := hide (ixP_len i)
  obtain ⟨q1, q2, q3, q4⟩ := quo1000 i
  obtain ⟨r0, hr0⟩ : ∃ r, i / 1000 = r := ⟨_, rfl⟩
  obtain ⟨m0, hm0⟩ : ∃ r, i % 1000 = r := ⟨_, rfl⟩
  rw [hr0] at q1 q3
  rw [hm0] at q2 q4
  have hr0b : r0 < 1000000000000 := by omega
  have hm0b : m0 < 1000 := by omega
  have H3 := hide (three_any m0 w hm0b ht)
  have HE : Hid (ixF 5 r0 ++ d3 m0 = ixP i) := hide (by rw [← hr0, ← hm0]; rfl)
  clear hr0 hm0 ht
  go_enter Tryd.func17, Tryd.ntmps17
  go_wp2_with fail
  refine H3.out.mono ?_
  rintro r w1 ⟨rfl, hb1⟩
  have HB1 := hide hb1
  clear hb1 H3
  go_wp2_with fail
  clear q1 q2 q3 q4
  go_loopw [3, 4] (fun s k wr => ∃ (r : Nat) (p : List UInt8), s = .string (bA p) ∧ k = .int .i64 (r : Int) ∧ r < 1000000000000 ∧ Hid (ixF 5 r ++ p = ixP i) ∧ Hid (Below w.heap.size w wr)) (fun _ k _ => (intOf k).toNat)
  case atStart => exact ⟨r0, _, rfl, rfl, hr0b, HE, HB1⟩
  case round =>
    obtain ⟨r, p, rfl, rfl, hr, HP, HB⟩ := hrel
    clear HE HB1
    by_cases h0 : r = 0
    · subst h0
      have e : p = ixP i := by
        have := HP.out
        rw [ixF_zero] at this
        exact this
      subst e
      go_wp2
      go_ret
      exact ⟨rfl, HB.out⟩
    · have h0' : (r : Int) > 0 := by omega
      obtain ⟨q1, q2, q3, q4⟩ := quo1000 r
      have hstep := ixF_step (r := r) (by omega) h0
      obtain ⟨r1, hr1⟩ : ∃ x, r / 1000 = x := ⟨_, rfl⟩
      obtain ⟨m1, hm1⟩ : ∃ x, r % 1000 = x := ⟨_, rfl⟩
      rw [hr1] at q1 q3 hstep
      rw [hm1] at q2 q4 hstep
      have hr1b : r1 < r := by omega
      have hm1b : m1 < 1000 := by omega
      have H3 := hide (three_any m1 wr hm1b (HT.out.below HB.out))
      have hpl : p.length ≤ 28 := by
        have := congrArg List.length HP.out
        rw [List.length_append] at this
        have := HL.out
        omega
      have HN : Hid (ixF 5 r1 ++ ((([120] ++ d3 m1) ++ [47]) ++ p) = ixP i) := hide (by
        have := HP.out
        rw [hstep] at this
        rw [← this]
        simp)
      clear hstep hr1 hm1 HP
      have z1 : ([120] : List UInt8).length + (d3 m1).length ≤ 1048576 := by simp [d3_length]
      have z2 : ([120] ++ d3 m1 : List UInt8).length + ([47] : List UInt8).length ≤ 1048576 := by simp [d3_length]
      have z3 : (([120] ++ d3 m1) ++ [47] : List UInt8).length + p.length ≤ 1048576 := by simp [d3_length]; omega
      have Z1 := hide z1
      have Z2 := hide z2
      have Z3 := hide z3
      clear z1 z2 z3
      go_wp2_with fail
      refine H3.out.mono ?_
      rintro _ w2 ⟨rfl, hb2⟩
      have HB2 := hide (on_below HB.out hb2)
      clear hb2 HB H3
      generalize d3 m1 = t3 at *
      go_wp2_with (first | (refine step_addS (p := [120]) (q := t3) rfl rfl rfl Z1.out ?_) | (refine step_addS (p := [120] ++ t3) (q := [47]) rfl rfl rfl Z2.out ?_) | (refine step_addS (p := ([120] ++ t3) ++ [47]) (q := p) rfl rfl rfl Z3.out ?_))
      go_roundw
      case rel => exact ⟨r1, _, rfl, rfl, by omega, hide (by have := HN.out; simpa using this), HB2⟩
      case measure => simp only [intOf]; omega
set_option maxRecDepth 100000 in
theorem path_no (h l i n : Int) (w : World) (hl : l ≤ 9223372036854775807) (hi : i ≤ 9223372036854775807) (k : ¬ tOK h l i n) : Calls Tryd.prog 5 #[.agg #[.int .i64 h, .int .i64 l, .int .i64 i, .int .i64 n]] w fun r w' => r = .returned (.tuple #[.string (bA []), .int .i64 2]) ∧ Below w.heap.size w w' := by
  obtain ⟨q, hq, hc⟩ := validT_any h l i n hl hi
  obtain rfl : q = false := by
    cases q with
    | false => rfl
    | true => exact absurd (hq.1 rfl) k
  have HVd := hide hc
  clear hc hq k
  go_enter Tryd.func5, Tryd.ntmps5
  go_wp2_with (first | (refine step_box (cs := c4 h l i n) rfl rfl ?_; intro w1 g1 hg1 hle1 hb1; have HG1 := hide hg1; have HB1 := hide hb1; clear hg1 hb1 hle1) | (refine step_loadA wT rfl rfl HG1.out rfl ?_))
  refine (HVd.out _).mono ?_
  rintro r w2 ⟨rfl, hb2⟩
  have HG2 := hide (HG1.out.on hb2)
  have HB2 := hide (on_below HB1.out hb2)
  clear HG1 HB1 hb2 HVd
  go_wp2
  go_ret2
  exact ⟨rfl, HB2.out⟩
set_option maxRecDepth 100000 in
set_option maxHeartbeats 1000000 in
theorem path_ok (h l i n : Nat) (w : World) (hh : isH h) (hl : l ≤ 48) (hi : i < 281474976710656) (hn1 : 1 ≤ n) (hn : n ≤ 2 ^ h) (k : tOK (h : Int) (l : Int) (i : Int) (n : Int)) (ht : PT w) :
    Calls Tryd.prog 5 #[.agg #[.int .i64 (h : Int), .int .i64 (l : Int), .int .i64 (i : Int), .int .i64 (n : Int)]] w fun r w' => r = .returned (.tuple #[.string (bA (pU h l i n)), .int .i64 0]) ∧ Below w.heap.size w w' := by
  obtain ⟨q, hq, hc⟩ := validT_any (h : Int) (l : Int) (i : Int) (n : Int) (by omega) (by omega)
  obtain rfl : q = true := hq.2 k
  have HVd := hide hc
  have HT := hide ht
  have hp := hh.pow
  have h8 := hh.2
  have LH := hide (dec_len h (by omega))
  have LL := hide (dec_len l (by omega))
  have LN := hide (dec_len n (by omega))
  have LI := hide (ixP_len i)
  have HIh := hide (fun v hv => itoa_any h v (by omega) hv)
  have HIl := hide (fun v hv => itoa_any l v (by omega) hv)
  have HIn := hide (fun v hv => itoa_any n v (by omega) hv)
  have HIx := hide (fun v hv => index_any i v (by omega) hv)
  have HPU : Hid (pU h l i n = if n < 2 ^ h then ((((tileB ++ Lib.decDigits h) ++ [47]) ++ Lib.decDigits l) ++ [47]) ++ ixP i ++ (markB ++ Lib.decDigits n) else ((((tileB ++ Lib.decDigits h) ++ [47]) ++ Lib.decDigits l) ++ [47]) ++ ixP i) := hide (by
    unfold pU nmU
    split <;> simp only [List.append_assoc])
  obtain ⟨P, hP⟩ : ∃ P, 2 ^ h = P := ⟨_, rfl⟩
  obtain ⟨p1, p2, p3, p4⟩ := pow_w hP hh
  have HPW := hide p1
  have HPI := hide p2
  rw [hP] at HPU hn hp
  generalize pU h l i n = PU at *
  generalize Lib.decDigits h = dh at *
  generalize Lib.decDigits l = dl at *
  generalize Lib.decDigits n = dn at *
  generalize ixP i = di at *
  clear hc hq k ht p1 p2 hP hh
  go_enter Tryd.func5, Tryd.ntmps5
  go_wp2_with (first | (refine step_box (cs := c4 (h : Int) (l : Int) (i : Int) (n : Int)) rfl rfl ?_; intro w1 g1 hg1 hle1 hb1; have HG1 := hide hg1; have HB1 := hide hb1; clear hg1 hb1 hle1) | (refine step_loadA wT rfl rfl HG1.out rfl ?_))
  refine (HVd.out _).mono ?_
  rintro r w2 ⟨rfl, hb2⟩
  have HG2 := hide (HG1.out.on hb2)
  have HB2 := hide (on_below HB1.out hb2)
  clear HG1 HB1 hb2 HVd
  have Y0 := hide ((Below.refl w2.heap.size w2).drew)
  have A0 : Hid (∀ v : World, Below w2.heap.size w2 v → v.cell? ⟨g1, 0, none⟩ = some (.int .i64 (h : Int))) := hide (fun v hv => (HG2.out.on hv).four.1)
  have A1 : Hid (∀ v : World, Below w2.heap.size w2 v → v.cell? ⟨g1, 1, none⟩ = some (.int .i64 (l : Int))) := hide (fun v hv => (HG2.out.on hv).four.2.1)
  have A2 : Hid (∀ v : World, Below w2.heap.size w2 v → v.cell? ⟨g1, 2, none⟩ = some (.int .i64 (i : Int))) := hide (fun v hv => (HG2.out.on hv).four.2.2.1)
  obtain ⟨s1, hs1⟩ : ∃ s, tileB ++ dh = s := ⟨_, rfl⟩
  obtain ⟨s2, hs2⟩ : ∃ s, s1 ++ [47] = s := ⟨_, rfl⟩
  obtain ⟨s3, hs3⟩ : ∃ s, s2 ++ dl = s := ⟨_, rfl⟩
  obtain ⟨s4, hs4⟩ : ∃ s, s3 ++ [47] = s := ⟨_, rfl⟩
  obtain ⟨s5, hs5⟩ : ∃ s, s4 ++ di = s := ⟨_, rfl⟩
  obtain ⟨s6, hs6⟩ : ∃ s, markB ++ dn = s := ⟨_, rfl⟩
  obtain ⟨s7, hs7⟩ : ∃ s, s5 ++ s6 = s := ⟨_, rfl⟩
  have y1 : s1.length ≤ 25 := by rw [← hs1, List.length_append]; have := LH.out; simp [tileB]; omega
  have y2 : s2.length ≤ 26 := by rw [← hs2, List.length_append]; simp; omega
  have y3 : s3.length ≤ 46 := by rw [← hs3, List.length_append]; have := LL.out; omega
  have y4 : s4.length ≤ 47 := by rw [← hs4, List.length_append]; simp; omega
  have y5 : s5.length ≤ 75 := by rw [← hs5, List.length_append]; have := LI.out; omega
  have y6 : s6.length ≤ 23 := by rw [← hs6, List.length_append]; have := LN.out; simp [markB]; omega
  have Z1 : Hid (tileB ++ dh = s1 ∧ tileB.length + dh.length ≤ 9000) := hide ⟨hs1, by have := LH.out; simp [tileB]; omega⟩
  have Z2 : Hid (s1 ++ [47] = s2 ∧ s1.length + ([47] : List UInt8).length ≤ 9000) := hide ⟨hs2, by simp; omega⟩
  have Z3 : Hid (s2 ++ dl = s3 ∧ s2.length + dl.length ≤ 9000) := hide ⟨hs3, by have := LL.out; omega⟩
  have Z4 : Hid (s3 ++ [47] = s4 ∧ s3.length + ([47] : List UInt8).length ≤ 9000) := hide ⟨hs4, by simp; omega⟩
  have Z5 : Hid (s4 ++ di = s5 ∧ s4.length + di.length ≤ 9000) := hide ⟨hs5, by have := LI.out; omega⟩
  have Z6 : Hid (markB ++ dn = s6 ∧ markB.length + dn.length ≤ 9000) := hide ⟨hs6, by have := LN.out; simp [markB]; omega⟩
  have Z7 : Hid (s5 ++ s6 = s7 ∧ s5.length + s6.length ≤ 9000) := hide ⟨hs7, by omega⟩
  rw [hs1, hs2, hs3, hs4, hs5, hs6, hs7] at HPU
  clear hs1 hs2 hs3 hs4 hs5 hs6 hs7 y1 y2 y3 y4 y5 y6
  go_wp2_with fail
  refine joinP (fun W => Hid (Below w2.heap.size w2 W)) ?act ?tail (fun hjoin => ?_)
  rotate_left
  rotate_left
  · refine wp_region_noPanic ?_
    refine wp_region_held_drew (S := fun v : World => Below w2.heap.size w2 v) (by kernel_rfl) Y0.out (fun hHeld => ?_)
    refine takeH 0 8 (.pointer (some ⟨g1, 0, none⟩)) hHeld rfl rfl (by kernel_rfl) (by kernel_rfl) (by kernel_rfl) (fun _ _ _ h => h) (Or.inl ⟨by rfl, fun w _ => by go_simp⟩) ?_
    simp only [Act.put, List.setIfInBounds_toArray, List.set_cons_zero, List.set_cons_succ]
    refine takeH 1 9 (.int .i64 (h : Int)) hHeld rfl rfl (by kernel_rfl) (by kernel_rfl) (by kernel_rfl) (fun _ _ _ h => h) (Or.inl ⟨by rfl, fun w hw => by have hw' : w.cell? ⟨g1, 0, none⟩ = some (.int .i64 (h : Int)) := A0.out _ hw; go_simp⟩) ?_
    simp only [Act.put, List.setIfInBounds_toArray, List.set_cons_zero, List.set_cons_succ]
    refine takeH 5 13 (.pointer (some ⟨g1, 1, none⟩)) hHeld rfl rfl (by kernel_rfl) (by kernel_rfl) (by kernel_rfl) (fun _ _ _ h => h) (Or.inl ⟨by rfl, fun w _ => by go_simp⟩) ?_
    simp only [Act.put, List.setIfInBounds_toArray, List.set_cons_zero, List.set_cons_succ]
    refine takeH 6 14 (.int .i64 (l : Int)) hHeld rfl rfl (by kernel_rfl) (by kernel_rfl) (by kernel_rfl) (fun _ _ _ h => h) (Or.inl ⟨by rfl, fun w hw => by have hw' : w.cell? ⟨g1, 1, none⟩ = some (.int .i64 (l : Int)) := A1.out _ hw; go_simp⟩) ?_
    simp only [Act.put, List.setIfInBounds_toArray, List.set_cons_zero, List.set_cons_succ]
    refine takeH 10 18 (.pointer (some ⟨g1, 2, none⟩)) hHeld rfl rfl (by kernel_rfl) (by kernel_rfl) (by kernel_rfl) (fun _ _ _ h => h) (Or.inl ⟨by rfl, fun w _ => by go_simp⟩) ?_
    simp only [Act.put, List.setIfInBounds_toArray, List.set_cons_zero, List.set_cons_succ]
    refine takeH 11 19 (.int .i64 (i : Int)) hHeld rfl rfl (by kernel_rfl) (by kernel_rfl) (by kernel_rfl) (fun _ _ _ h => h) (Or.inl ⟨by rfl, fun w hw => by have hw' : w.cell? ⟨g1, 2, none⟩ = some (.int .i64 (i : Int)) := A2.out _ hw; go_simp⟩) ?_
    simp only [Act.put, List.setIfInBounds_toArray, List.set_cons_zero, List.set_cons_succ]
    refine wpAnyH_ready (rs := [2]) (by kernel_rfl) (by simp) (AllReadyH.cons rfl (fun K hK => ?_) AllReadyH.nil)
    rw [if_pos (by rfl)]
    go_simp
    refine (HIh.out _ (HT.out.below (on_below HB2.out Y0.out))).mono ?_
    rintro r va ⟨rfl, hva⟩
    have Y1 := hide (on_below Y0.out hva)
    refine hK.out _ _ Y1.out (fun hHeld => ?_)
    clear hK K
    try simp only [Act.put, List.setIfInBounds_toArray, List.set_cons_zero, List.set_cons_succ]
    refine takeH 3 11 (.string (bA s1)) hHeld rfl rfl (by kernel_rfl) (by kernel_rfl) (by kernel_rfl) (fun _ _ _ h => h) (Or.inl ⟨by rfl, fun w _ => runS (p := tileB) (q := dh) rfl rfl Z1.out⟩) ?_
    simp only [Act.put, List.setIfInBounds_toArray, List.set_cons_zero, List.set_cons_succ]
    refine takeH 4 12 (.string (bA s2)) hHeld rfl rfl (by kernel_rfl) (by kernel_rfl) (by kernel_rfl) (fun _ _ _ h => h) (Or.inl ⟨by rfl, fun w _ => runS (p := s1) (q := [47]) rfl rfl Z2.out⟩) ?_
    simp only [Act.put, List.setIfInBounds_toArray, List.set_cons_zero, List.set_cons_succ]
    refine wpAnyH_ready (rs := [7]) (by kernel_rfl) (by simp) (AllReadyH.cons rfl (fun K hK => ?_) AllReadyH.nil)
    rw [if_pos (by rfl)]
    go_simp
    refine (HIl.out _ (HT.out.below (on_below HB2.out Y1.out))).mono ?_
    rintro r vb ⟨rfl, hvb⟩
    have Y2 := hide (on_below Y1.out hvb)
    refine hK.out _ _ Y2.out (fun hHeld => ?_)
    clear hK K
    try simp only [Act.put, List.setIfInBounds_toArray, List.set_cons_zero, List.set_cons_succ]
    refine takeH 8 16 (.string (bA s3)) hHeld rfl rfl (by kernel_rfl) (by kernel_rfl) (by kernel_rfl) (fun _ _ _ h => h) (Or.inl ⟨by rfl, fun w _ => runS (p := s2) (q := dl) rfl rfl Z3.out⟩) ?_
    simp only [Act.put, List.setIfInBounds_toArray, List.set_cons_zero, List.set_cons_succ]
    refine takeH 9 17 (.string (bA s4)) hHeld rfl rfl (by kernel_rfl) (by kernel_rfl) (by kernel_rfl) (fun _ _ _ h => h) (Or.inl ⟨by rfl, fun w _ => runS (p := s3) (q := [47]) rfl rfl Z4.out⟩) ?_
    simp only [Act.put, List.setIfInBounds_toArray, List.set_cons_zero, List.set_cons_succ]
    refine wpAnyH_ready (rs := [12]) (by kernel_rfl) (by simp) (AllReadyH.cons rfl (fun K hK => ?_) AllReadyH.nil)
    rw [if_pos (by rfl)]
    go_simp
    refine (HIx.out _ (HT.out.below (on_below HB2.out Y2.out))).mono ?_
    rintro r vc ⟨rfl, hvc⟩
    have Y3 := hide (on_below Y2.out hvc)
    refine hK.out _ _ Y3.out (fun hHeld => ?_)
    clear hK K
    try simp only [Act.put, List.setIfInBounds_toArray, List.set_cons_zero, List.set_cons_succ]
    refine takeH 13 21 (.string (bA s5)) hHeld rfl rfl (by kernel_rfl) (by kernel_rfl) (by kernel_rfl) (fun _ _ _ h => h) (Or.inl ⟨by rfl, fun w _ => runS (p := s4) (q := di) rfl rfl Z5.out⟩) ?_
    simp only [Act.put, List.setIfInBounds_toArray, List.set_cons_zero, List.set_cons_succ]
    refine takeH 14 4 (.string (bA s5)) hHeld rfl rfl (by kernel_rfl) (by kernel_rfl) (by kernel_rfl) (fun _ _ _ h => h) (Or.inl ⟨by rfl, fun w _ => by go_simp⟩) ?_
    simp only [Act.put, List.setIfInBounds_toArray, List.set_cons_zero, List.set_cons_succ]
    refine wpAnyH_done (by kernel_rfl) ?_ _
    refine NoPanic.normal ?_
    exact hjoin vc Y3
  · rintro W Y3
    have GW := hide (HG2.out.on Y3.out)
    have BW := hide (on_below HB2.out Y3.out)
    obtain ⟨c0, c1, c2, c3⟩ := GW.out.four
    clear A0 A1 A2 Y0 Y3 HG2 HB2 HIh HIl HIx Z1 Z2 Z3 Z4 Z5
    have e2 := HPI.out
    have e1 := HPW.out
    by_cases hlt : n < P
    · have hlt' : (n : Int) < (P : Int) := by omega
      have E : PU = s7 := by rw [HPU.out, if_pos hlt]
      subst E
      go_wp2_with fail
      go_quiet (fail)
      clear e1 e2
      go_wp2_with fail
      refine (HIn.out _ (HT.out.below (below_drews BW.out _))).mono ?_
      rintro r wn ⟨rfl, hbn⟩
      have BN := hide (on_below (below_drews BW.out nq) hbn)
      clear hbn
      go_wp2_with (first | (refine step_addR (p := markB) (q := dn) rfl rfl rfl Z6.out ?_) | (refine step_addR (p := s5) (q := s6) rfl rfl rfl Z7.out ?_))
      go_ret2
      exact ⟨rfl, BN.out⟩
    · have hlt' : ¬ (n : Int) < (P : Int) := by omega
      have E : PU = s5 := by rw [HPU.out, if_neg hlt]
      subst E
      go_wp2_with fail
      go_quiet (fail)
      clear e1 e2
      go_wp2
      go_ret2
      exact ⟨rfl, below_drews BW.out _⟩
end Go.Proofs.YtnlpgkfmjlljdaaDoor

/-
  The document's digits and numbers (out of Wz, Wnu and Wnr, for seats without wire).
-/
namespace Go.Proofs.YtnlpgkfmjlljdaaDoor
open Go.RowKit
set_option linter.unusedVariables false
set_option linter.unusedSimpArgs false

set_option maxRecDepth 100000 in
theorem digits_one (n : Nat) (w : World) (h : n < 10) : Calls Tryd.prog 18 #[.int .i64 (n : Int)] w fun r w' => r = .returned (.string (bA (Lib.decDigits n))) ∧ w' = w := by
  rw [Lib.decDigits_one h]
  have hn : n = 0 ∨ n = 1 ∨ n = 2 ∨ n = 3 ∨ n = 4 ∨ n = 5 ∨ n = 6 ∨ n = 7 ∨ n = 8 ∨ n = 9 := by omega
  rcases hn with rfl | rfl | rfl | rfl | rfl | rfl | rfl | rfl | rfl | rfl
  all_goals
    clear h
    go_enter Tryd.func18, Tryd.ntmps18
    go_wp2
    go_ret
    exact ⟨by kernel_rfl, rfl⟩

set_option maxRecDepth 100000 in
theorem digits_any (m : Nat) : ∀ (n : Nat) (w : World), n ≤ m → n < 9223372036854775808 → Calls Tryd.prog 18 #[.int .i64 (n : Int)] w fun r w' => r = .returned (.string (bA (Lib.decDigits n))) ∧ w' = w := by
  induction m with
  | zero => intro n w hm hn; exact digits_one n w (by omega)
  | succ m ih =>
    intro n w hm hn
    by_cases h : n < 10
    · exact digits_one n w h
    have H1 := hide (fun V => ih (n / 10) V (by omega) (by omega))
    clear ih
    have H2 := hide (fun V => digits_one (n % 10) V (Nat.mod_lt _ (by decide)))
    have hl : ¬ (n : Int) < 10 := by omega
    have l1 := dec_len (n / 10) (by omega)
    have l2 := dec_len (n % 10) (by omega)
    have e := dec_step h
    obtain ⟨p, hp⟩ : ∃ p, n / 10 = p := ⟨_, rfl⟩
    obtain ⟨q, hq⟩ : ∃ q, n % 10 = q := ⟨_, rfl⟩
    rw [hp] at H1 l1 e
    rw [hq] at H2 l2 e
    have q1 : (n : Int) / 10 = (p : Int) := by omega
    have q2 : (n : Int) % 10 = (q : Int) := by omega
    have q3 : (n : Int).tdiv 10 = (p : Int) := by rw [Int.tdiv_eq_ediv_of_nonneg (by omega)]; exact q1
    have q4 : (n : Int).tmod 10 = (q : Int) := by rw [Int.tmod_eq_emod_of_nonneg (by omega)]; exact q2
    clear hp hq
    obtain ⟨A, hA⟩ : ∃ A, bA (Lib.decDigits p) = A := ⟨_, rfl⟩
    obtain ⟨B, hB⟩ : ∃ B, bA (Lib.decDigits q) = B := ⟨_, rfl⟩
    have sA : A.size ≤ 20 := by rw [← hA, ← strL_length, strL_bA]; exact l1
    have sB : B.size ≤ 20 := by rw [← hB, ← strL_length, strL_bA]; exact l2
    have eAB : bA (Lib.decDigits n) = A ++ B := eq_of_strL (by rw [strL_app, ← hA, ← hB, strL_bA, strL_bA, strL_bA, e])
    rw [hA] at H1
    rw [hB] at H2
    rw [eAB]
    clear eAB hA hB e l1 l2 h
    have hs : ¬ 9223372036854775807 < A.size + B.size := by omega
    go_enter Tryd.func18, Tryd.ntmps18
    go_wp2_with fail
    refine (H1.out _).mono ?_
    rintro r w1 ⟨rfl, rfl⟩
    go_wp2_with fail
    refine (H2.out _).mono ?_
    rintro r w1 ⟨rfl, rfl⟩
    go_wp2
    go_ret
    exact ⟨rfl, rfl⟩

theorem decFrom_snoc : ∀ (l : List UInt8) (acc : Nat) (b : UInt8), Lib.decFrom acc (l ++ [b]) = (Lib.decFrom acc l).bind fun m => (Lib.digitVal b).map fun d => m * 10 + d
  | [], acc, b => by
    simp only [List.nil_append, Lib.decFrom, Option.bind_some]
    cases Lib.digitVal b <;> rfl
  | a :: t, acc, b => by
    simp only [List.cons_append, Lib.decFrom]
    cases h : Lib.digitVal a with
    | none => rfl
    | some d => exact decFrom_snoc t _ b
theorem dec_head (m : Nat) : ∀ n, n ≤ m → 0 < n → (Lib.decDigits n).head? ≠ some 48 := by
  induction m with
  | zero => intro n hn h0; omega
  | succ m ih =>
    intro n hn h0
    by_cases h : n < 10
    · rw [Lib.decDigits_one h]
      have : n = 1 ∨ n = 2 ∨ n = 3 ∨ n = 4 ∨ n = 5 ∨ n = 6 ∨ n = 7 ∨ n = 8 ∨ n = 9 := by omega
      rcases this with rfl | rfl | rfl | rfl | rfl | rfl | rfl | rfl | rfl <;> decide
    · rw [dec_snoc h]
      have e := ih (n / 10) (by omega) (by omega)
      have hne := dec_ne (n / 10)
      cases hd : Lib.decDigits (n / 10) with
      | nil => exact absurd hd hne
      | cons a t => rw [hd] at e; simpa using e
theorem decFrom_le : ∀ (l : List UInt8) (acc n : Nat), Lib.decFrom acc l = some n → acc ≤ n
  | [], acc, n, h => by simp only [Lib.decFrom, Option.some.injEq] at h; omega
  | a :: t, acc, n, h => by
    simp only [Lib.decFrom] at h
    cases ha : Lib.digitVal a with
    | none => simp [ha] at h
    | some d =>
      simp only [ha] at h
      have := decFrom_le t _ n h
      omega
theorem digit_val {b : UInt8} {d : Nat} (h : Lib.digitVal b = some d) : d < 10 ∧ b = UInt8.ofNat (48 + d) := by
  unfold Lib.digitVal at h
  split at h
  · rename_i hb
    simp only [Option.some.injEq] at h
    refine ⟨by omega, UInt8.toNat_inj.1 ?_⟩
    rw [UInt8.toNat_ofNat']
    omega
  · cases h
/-- Digits without a nought ahead are those of their number. -/
theorem dec_canon : ∀ (k : Nat) (l : List UInt8) (n : Nat), l.length ≤ k → l ≠ [] → (1 < l.length → l.head? ≠ some 48) → Lib.decFrom 0 l = some n → Lib.decDigits n = l := by
  intro k
  induction k with
  | zero => intro l n hk h0 _ _; exact absurd (List.eq_nil_of_length_eq_zero (by omega)) h0
  | succ k ih =>
    intro l n hk h0 hh hd
    obtain ⟨m, b, rfl⟩ : ∃ m b, l = m ++ [b] := ⟨l.dropLast, l.getLast h0, (List.dropLast_concat_getLast h0).symm⟩
    rw [decFrom_snoc] at hd
    cases hm : Lib.decFrom 0 m with
    | none => rw [hm] at hd; cases hd
    | some n' =>
      rw [hm] at hd
      simp only [Option.bind_some] at hd
      cases hb : Lib.digitVal b with
      | none => rw [hb] at hd; cases hd
      | some d =>
        rw [hb] at hd
        simp only [Option.map_some, Option.some.injEq] at hd
        obtain ⟨hd10, rfl⟩ := digit_val hb
        cases m with
        | nil =>
          simp only [Lib.decFrom, Option.some.injEq] at hm
          have : n = d := by omega
          rw [this, Lib.decDigits_one hd10]
          rfl
        | cons a t =>
          have hx : a ≠ 48 := by have := hh (by simp); simpa using this
          have h1 : 1 ≤ n' := by
            simp only [Lib.decFrom] at hm
            cases ha : Lib.digitVal a with
            | none => simp [ha] at hm
            | some e =>
              simp only [ha] at hm
              have := decFrom_le t _ n' hm
              obtain ⟨_, he⟩ := digit_val ha
              have : e ≠ 0 := fun h => hx (by rw [he, h]; rfl)
              omega
          have hr := ih (a :: t) n' (by simp at hk ⊢; omega) (by simp) (fun _ => by simpa using hx) hm
          have e1 : n / 10 = n' := by omega
          have e2 : n % 10 = d := by omega
          rw [dec_snoc (by omega), e1, e2, hr]
/-- The number that a text writes, if it is one that may be. -/
def nmO (l : List UInt8) : Option Nat := (Lib.decFrom 0 l).bind fun v => if v ≤ 281474976710656 ∧ Lib.decDigits v = l then some v else none
theorem nmO_some {l : List UInt8} {v : Nat} (h : nmO l = some v) : v ≤ 281474976710656 ∧ Lib.decDigits v = l := by
  unfold nmO at h
  cases hd : Lib.decFrom 0 l with
  | none => rw [hd] at h; cases h
  | some n =>
    rw [hd] at h
    simp only [Option.bind_some] at h
    split at h
    · rename_i hc
      simp only [Option.some.injEq] at h
      subst h
      exact hc
    · cases h
theorem nmO_of {l : List UInt8} {v : Nat} (h0 : v ≤ 281474976710656) (h1 : Lib.decDigits v = l) : nmO l = some v := by
  unfold nmO
  rw [← h1, dec_of v v (Nat.le_refl _)]
  simp [h0]
theorem dec_short {v : Nat} (h : v < 10 ^ 18) : (Lib.decDigits v).length ≤ 18 := by
  have key : ∀ (k v : Nat), v < 10 ^ k → 0 < k → (Lib.decDigits v).length ≤ k := by
    intro k
    induction k with
    | zero => intro v _ h; omega
    | succ k ih =>
      intro v hv _
      by_cases h10 : v < 10
      · rw [Lib.decDigits_one h10]; simp
      · rw [dec_snoc h10, List.length_append]
        have hk : 0 < k := by
          rcases Nat.eq_zero_or_pos k with rfl | h
          · simp at hv; omega
          · exact h
        have := ih (v / 10) (by rw [Nat.pow_succ] at hv; omega) hk
        simp; omega
  exact key 18 v h (by decide)
theorem nmO_len {l : List UInt8} {v : Nat} (h : nmO l = some v) : 1 ≤ l.length ∧ l.length ≤ 18 ∧ (1 < l.length → l.head? ≠ some 48) := by
  obtain ⟨hv, rfl⟩ := nmO_some h
  refine ⟨?_, dec_short (by omega), fun hl => ?_⟩
  · have := dec_ne v
    cases hd : Lib.decDigits v with
    | nil => exact absurd hd this
    | cons a t => simp
  · refine dec_head v v (Nat.le_refl _) ?_
    rcases Nat.eq_zero_or_pos v with rfl | h0
    · rw [Lib.decDigits_one (by decide)] at hl; simp at hl
    · exact h0
theorem nmO_dec {l : List UInt8} {v : Nat} (h : nmO l = some v) : Lib.decFrom 0 l = some v := by
  obtain ⟨hv, rfl⟩ := nmO_some h
  exact dec_of v v (Nat.le_refl _)
theorem decFrom_lt : ∀ (l : List UInt8) (acc n : Nat), Lib.decFrom acc l = some n → n < (acc + 1) * 10 ^ l.length
  | [], acc, n, h => by simp only [Lib.decFrom, Option.some.injEq] at h; simp; omega
  | a :: t, acc, n, h => by
    simp only [Lib.decFrom] at h
    cases ha : Lib.digitVal a with
    | none => simp [ha] at h
    | some d =>
      simp only [ha] at h
      have h1 := decFrom_lt t _ n h
      have h2 := (digit_val ha).1
      have h3 : (acc * 10 + d + 1) * 10 ^ t.length ≤ ((acc + 1) * 10) * 10 ^ t.length := Nat.mul_le_mul_right _ (by omega)
      rw [Nat.mul_assoc] at h3
      rw [List.length_cons, Nat.pow_succ, Nat.mul_comm (10 ^ t.length) 10]
      omega

set_option maxRecDepth 100000 in
set_option maxHeartbeats 1000000 in
theorem num_any (s : ByteArray) (w : World) (hs : s.size ≤ 16777216) :
    Calls Tryd.prog 42 #[.string s, .int .i64 281474976710656] w fun r w' => Below w.heap.size w w' ∧
      ((∃ u : Nat, nmO (strL s) = some u ∧ r = .returned (.tuple #[.int .i64 (u : Int), .bool true])) ∨ (nmO (strL s) = none ∧ ∃ x, r = .returned (.tuple #[.int .i64 x, .bool false]))) := by
  have hl : (strL s).length = s.size := strL_length s
  by_cases h0 : s.size < 1
  · have HN : Hid (nmO (strL s) = none) := hide (by
      cases hn : nmO (strL s) with
      | none => rfl
      | some u => have := (nmO_len hn).1; omega)
    have h0' : (s.size : Int) < 1 := by omega
    go_enter Tryd.func42, Tryd.ntmps42
    go_wp2
    go_ret2
    exact ⟨Below.refl _ _, .inr ⟨HN.out, _, rfl⟩⟩
  · have h0' : ¬ ((s.size : Int) < 1) := by omega
    by_cases h18 : 18 < s.size
    · have HN : Hid (nmO (strL s) = none) := hide (by
        cases hn : nmO (strL s) with
        | none => rfl
        | some u => have := (nmO_len hn).2.1; omega)
      have h18' : (18 : Int) < (s.size : Int) := by omega
      go_enter Tryd.func42, Tryd.ntmps42
      go_wp2
      go_ret2
      exact ⟨Below.refl _ _, .inr ⟨HN.out, _, rfl⟩⟩
    · have h18' : ¬ ((18 : Int) < (s.size : Int)) := by omega
      have hz : 0 < s.size := by omega
      have hg0 : (strL s).head? = some (s[0]'hz) := by
        rw [List.head?_eq_getElem?, List.getElem?_eq_getElem (by omega)]
        rfl
      by_cases h1 : 1 < s.size ∧ s[0]'hz = 48
      · have HN : Hid (nmO (strL s) = none) := hide (by
          cases hn : nmO (strL s) with
          | none => rfl
          | some u => exact absurd (by rw [hg0, h1.2]) ((nmO_len hn).2.2 (by omega)))
        have h1' : (1 : Int) < (s.size : Int) := by omega
        have hz' : (0 : Int) < (s.size : Int) := by omega
        have e48 : ((((s[0]'hz).toNat : Nat) : Int) == 48) = true := by rw [h1.2]; rfl
        clear h1 hg0
        go_enter Tryd.func42, Tryd.ntmps42
        go_wp2
        go_ret2
        exact ⟨Below.refl _ _, .inr ⟨HN.out, _, rfl⟩⟩
      · have HH : Hid (1 < (strL s).length → (strL s).head? ≠ some 48) := hide (fun h hh => h1 ⟨by omega, by rw [hg0] at hh; exact Option.some.inj hh⟩)
        have HX : Hid ((¬ (1 : Int) < (s.size : Int)) ∨ ((1 : Int) < (s.size : Int) ∧ ((((s[0]'hz).toNat : Nat) : Int) == 48) = false)) := hide (by
          by_cases h : 1 < s.size
          · right
            refine ⟨by omega, ?_⟩
            simp only [beq_eq_false_iff_ne, ne_eq]
            intro e
            refine h1 ⟨h, UInt8.toNat_inj.1 ?_⟩
            have : (s[0]'hz).toNat = 48 := by omega
            rw [this]; rfl
          · left; omega)
        have hz' : (0 : Int) < (s.size : Int) := by omega
        clear h1 hg0
        rcases HX.out with h1' | ⟨h1', e48⟩
        · clear HX
          go_enter Tryd.func42, Tryd.ntmps42
          go_wp2
          go_loopw [6, 7] (fun n i W => ∃ q m : Nat, q ≤ s.size ∧ n = .int .i64 (m : Int) ∧ i = .int .i64 (q : Int) ∧ Lib.decFrom 0 ((strL s).take q) = some m ∧ Below w.heap.size w W) (fun _ i _ => s.size - (intOf i).toNat)
          case atStart => exact ⟨0, 0, by omega, rfl, rfl, rfl, Below.refl _ _⟩
          case round =>
            obtain ⟨q, m, hq, rfl, rfl, hm, hbw⟩ := hrel
            have HM := hide hm
            have BQ := hide hbw
            have hml : m < 10 ^ q := by
              have := decFrom_lt _ _ _ hm
              rw [List.length_take, hl, Nat.min_eq_left hq] at this
              omega
            clear hm hbw
            by_cases hlt : q < s.size
            · have hlt' : (q : Int) < (s.size : Int) := by omega
              have hm17 : m < 100000000000000000 := Nat.lt_of_lt_of_le hml (Nat.le_trans (Nat.pow_le_pow_right (by decide) (show q ≤ 17 by omega)) (by decide))
              have hg : (strL s)[q]? = some (s[q]'hlt) := by rw [List.getElem?_eq_getElem (by omega)]; rfl
              clear hml
              by_cases hx : (s[q]'hlt).toNat < 48
              · have hx' : ((((s[q]'hlt).toNat : Nat) : Int)) < 48 := by omega
                have HN : Hid (nmO (strL s) = none) := hide (by
                  cases hn : nmO (strL s) with
                  | none => rfl
                  | some u =>
                    obtain ⟨d, hd⟩ := Lib.digit_of_decFrom _ _ _ (nmO_dec hn) q _ hg
                    unfold Lib.digitVal at hd
                    rw [if_neg (by omega)] at hd
                    cases hd)
                clear hg
                go_wp2
                go_ret2
                exact ⟨BQ.out, .inr ⟨HN.out, _, rfl⟩⟩
              · have hx' : ¬ ((((s[q]'hlt).toNat : Nat) : Int)) < 48 := by omega
                by_cases hy : 57 < (s[q]'hlt).toNat
                · have hy' : (57 : Int) < ((((s[q]'hlt).toNat : Nat) : Int)) := by omega
                  have HN : Hid (nmO (strL s) = none) := hide (by
                    cases hn : nmO (strL s) with
                    | none => rfl
                    | some u =>
                      obtain ⟨d, hd⟩ := Lib.digit_of_decFrom _ _ _ (nmO_dec hn) q _ hg
                      unfold Lib.digitVal at hd
                      rw [if_neg (by omega)] at hd
                      cases hd)
                  clear hg
                  go_wp2
                  go_ret2
                  exact ⟨BQ.out, .inr ⟨HN.out, _, rfl⟩⟩
                · have hy' : ¬ (57 : Int) < ((((s[q]'hlt).toNat : Nat) : Int)) := by omega
                  have HD : Hid (Lib.decFrom 0 ((strL s).take (q + 1)) = some (m * 10 + ((s[q]'hlt).toNat - 48))) := hide (Lib.decFrom_take _ _ _ _ _ _ HM.out hg (by unfold Lib.digitVal; rw [if_pos (by omega)]))
                  have hwm : IntKind.i64.wrap ((m : Int) * 10) = (m : Int) * 10 := by rw [IntKind.wrap_i64]; omega
                  have hwx : IntKind.u8.wrap (((((s[q]'hlt).toNat : Nat) : Int)) - 48) = ((((s[q]'hlt).toNat : Nat) : Int)) - 48 := by rw [IntKind.wrap_u8]; omega
                  have hwy : IntKind.i64.wrap (((((s[q]'hlt).toNat : Nat) : Int)) - 48) = ((((s[q]'hlt).toNat : Nat) : Int)) - 48 := by rw [IntKind.wrap_i64]; omega
                  have hwz : IntKind.i64.wrap ((m : Int) * 10 + (((((s[q]'hlt).toNat : Nat) : Int)) - 48)) = (m : Int) * 10 + (((((s[q]'hlt).toNat : Nat) : Int)) - 48) := by rw [IntKind.wrap_i64]; omega
                  have hwq : IntKind.i64.wrap ((q : Int) + 1) = (q : Int) + 1 := by rw [IntKind.wrap_i64]; omega
                  have HZ : Hid ((m : Int) * 10 + (((((s[q]'hlt).toNat : Nat) : Int)) - 48) = ((m * 10 + ((s[q]'hlt).toNat - 48) : Nat) : Int)) := hide (by omega)
                  clear hg
                  go_wp2
                  go_roundw
                  case rel => exact ⟨q + 1, m * 10 + ((s[q]'hlt).toNat - 48), by omega, by rw [← HZ.out], by simp, HD.out, BQ.out⟩
                  case measure => simp only [intOf]; omega
            · obtain rfl : q = s.size := by omega
              have hlt' : ¬ ((s.size : Int) < (s.size : Int)) := by omega
              have hdm : Lib.decFrom 0 (strL s) = some m := by
                have := HM.out
                rwa [List.take_of_length_le (by omega)] at this
              have hcn : Lib.decDigits m = strL s := dec_canon _ _ _ (Nat.le_refl _) (fun e => by rw [e] at hl; simp at hl; omega) HH.out hdm
              by_cases hle : m ≤ 281474976710656
              · have hle' : (m : Int) ≤ 281474976710656 := by omega
                have HN := hide (nmO_of hle hcn)
                clear hdm hcn hml
                go_wp2
                go_ret2
                exact ⟨BQ.out, .inl ⟨m, HN.out, rfl⟩⟩
              · have hle' : ¬ (m : Int) ≤ 281474976710656 := by omega
                have HN : Hid (nmO (strL s) = none) := hide (by
                  cases hn : nmO (strL s) with
                  | none => rfl
                  | some u =>
                    have e := nmO_dec hn
                    rw [hdm] at e
                    injection e with e
                    have := (nmO_some hn).1
                    omega)
                clear hdm hcn hml
                go_wp2
                go_ret2
                exact ⟨BQ.out, .inr ⟨HN.out, _, rfl⟩⟩
        · clear HX
          go_enter Tryd.func42, Tryd.ntmps42
          go_wp2
          go_loopw [6, 7] (fun n i W => ∃ q m : Nat, q ≤ s.size ∧ n = .int .i64 (m : Int) ∧ i = .int .i64 (q : Int) ∧ Lib.decFrom 0 ((strL s).take q) = some m ∧ Below w.heap.size w W) (fun _ i _ => s.size - (intOf i).toNat)
          case atStart => exact ⟨0, 0, by omega, rfl, rfl, rfl, Below.refl _ _⟩
          case round =>
            obtain ⟨q, m, hq, rfl, rfl, hm, hbw⟩ := hrel
            have HM := hide hm
            have BQ := hide hbw
            have hml : m < 10 ^ q := by
              have := decFrom_lt _ _ _ hm
              rw [List.length_take, hl, Nat.min_eq_left hq] at this
              omega
            clear hm hbw
            by_cases hlt : q < s.size
            · have hlt' : (q : Int) < (s.size : Int) := by omega
              have hm17 : m < 100000000000000000 := Nat.lt_of_lt_of_le hml (Nat.le_trans (Nat.pow_le_pow_right (by decide) (show q ≤ 17 by omega)) (by decide))
              have hg : (strL s)[q]? = some (s[q]'hlt) := by rw [List.getElem?_eq_getElem (by omega)]; rfl
              clear hml
              by_cases hx : (s[q]'hlt).toNat < 48
              · have hx' : ((((s[q]'hlt).toNat : Nat) : Int)) < 48 := by omega
                have HN : Hid (nmO (strL s) = none) := hide (by
                  cases hn : nmO (strL s) with
                  | none => rfl
                  | some u =>
                    obtain ⟨d, hd⟩ := Lib.digit_of_decFrom _ _ _ (nmO_dec hn) q _ hg
                    unfold Lib.digitVal at hd
                    rw [if_neg (by omega)] at hd
                    cases hd)
                clear hg
                go_wp2
                go_ret2
                exact ⟨BQ.out, .inr ⟨HN.out, _, rfl⟩⟩
              · have hx' : ¬ ((((s[q]'hlt).toNat : Nat) : Int)) < 48 := by omega
                by_cases hy : 57 < (s[q]'hlt).toNat
                · have hy' : (57 : Int) < ((((s[q]'hlt).toNat : Nat) : Int)) := by omega
                  have HN : Hid (nmO (strL s) = none) := hide (by
                    cases hn : nmO (strL s) with
                    | none => rfl
                    | some u =>
                      obtain ⟨d, hd⟩ := Lib.digit_of_decFrom _ _ _ (nmO_dec hn) q _ hg
                      unfold Lib.digitVal at hd
                      rw [if_neg (by omega)] at hd
                      cases hd)
                  clear hg
                  go_wp2
                  go_ret2
                  exact ⟨BQ.out, .inr ⟨HN.out, _, rfl⟩⟩
                · have hy' : ¬ (57 : Int) < ((((s[q]'hlt).toNat : Nat) : Int)) := by omega
                  have HD : Hid (Lib.decFrom 0 ((strL s).take (q + 1)) = some (m * 10 + ((s[q]'hlt).toNat - 48))) := hide (Lib.decFrom_take _ _ _ _ _ _ HM.out hg (by unfold Lib.digitVal; rw [if_pos (by omega)]))
                  have hwm : IntKind.i64.wrap ((m : Int) * 10) = (m : Int) * 10 := by rw [IntKind.wrap_i64]; omega
                  have hwx : IntKind.u8.wrap (((((s[q]'hlt).toNat : Nat) : Int)) - 48) = ((((s[q]'hlt).toNat : Nat) : Int)) - 48 := by rw [IntKind.wrap_u8]; omega
                  have hwy : IntKind.i64.wrap (((((s[q]'hlt).toNat : Nat) : Int)) - 48) = ((((s[q]'hlt).toNat : Nat) : Int)) - 48 := by rw [IntKind.wrap_i64]; omega
                  have hwz : IntKind.i64.wrap ((m : Int) * 10 + (((((s[q]'hlt).toNat : Nat) : Int)) - 48)) = (m : Int) * 10 + (((((s[q]'hlt).toNat : Nat) : Int)) - 48) := by rw [IntKind.wrap_i64]; omega
                  have hwq : IntKind.i64.wrap ((q : Int) + 1) = (q : Int) + 1 := by rw [IntKind.wrap_i64]; omega
                  have HZ : Hid ((m : Int) * 10 + (((((s[q]'hlt).toNat : Nat) : Int)) - 48) = ((m * 10 + ((s[q]'hlt).toNat - 48) : Nat) : Int)) := hide (by omega)
                  clear hg
                  go_wp2
                  go_roundw
                  case rel => exact ⟨q + 1, m * 10 + ((s[q]'hlt).toNat - 48), by omega, by rw [← HZ.out], by simp, HD.out, BQ.out⟩
                  case measure => simp only [intOf]; omega
            · obtain rfl : q = s.size := by omega
              have hlt' : ¬ ((s.size : Int) < (s.size : Int)) := by omega
              have hdm : Lib.decFrom 0 (strL s) = some m := by
                have := HM.out
                rwa [List.take_of_length_le (by omega)] at this
              have hcn : Lib.decDigits m = strL s := dec_canon _ _ _ (Nat.le_refl _) (fun e => by rw [e] at hl; simp at hl; omega) HH.out hdm
              by_cases hle : m ≤ 281474976710656
              · have hle' : (m : Int) ≤ 281474976710656 := by omega
                have HN := hide (nmO_of hle hcn)
                clear hdm hcn hml
                go_wp2
                go_ret2
                exact ⟨BQ.out, .inl ⟨m, HN.out, rfl⟩⟩
              · have hle' : ¬ (m : Int) ≤ 281474976710656 := by omega
                have HN : Hid (nmO (strL s) = none) := hide (by
                  cases hn : nmO (strL s) with
                  | none => rfl
                  | some u =>
                    have e := nmO_dec hn
                    rw [hdm] at e
                    injection e with e
                    have := (nmO_some hn).1
                    omega)
                clear hdm hcn hml
                go_wp2
                go_ret2
                exact ⟨BQ.out, .inr ⟨HN.out, _, rfl⟩⟩

end Go.Proofs.YtnlpgkfmjlljdaaDoor

/-
  Texts as the document reads and writes them: plain, index.
-/
namespace Go.Proofs.YtnlpgkfmjlljdaaDoor
open Go.RowKit
set_option linter.unusedVariables false
set_option linter.unusedSimpArgs false

/-- Noughts ahead struck. -/
def stz : List UInt8 → List UInt8
  | [] => []
  | [a] => [a]
  | a :: b :: l => if a = 48 then stz (b :: l) else a :: b :: l
theorem stz_ne : ∀ l : List UInt8, l ≠ [] → stz l ≠ []
  | [], h => absurd rfl h
  | [a], _ => by simp [stz]
  | a :: b :: l, _ => by
    unfold stz
    split
    · exact stz_ne (b :: l) (by simp)
    · simp
theorem stz_head : ∀ l : List UInt8, 1 < (stz l).length → (stz l).head? ≠ some 48
  | [], h => by simp [stz] at h
  | [a], h => by simp [stz] at h
  | a :: b :: l, h => by
    unfold stz at h ⊢
    split at h
    · rename_i e; rw [if_pos e]; exact stz_head (b :: l) h
    · rename_i e; rw [if_neg e]; simpa using e
theorem stz_dec : ∀ l : List UInt8, Lib.decFrom 0 (stz l) = Lib.decFrom 0 l
  | [] => rfl
  | [a] => rfl
  | a :: b :: l => by
    unfold stz
    split
    · rename_i e
      subst e
      rw [stz_dec (b :: l)]
      rfl
    · rfl
theorem stz_len : ∀ l : List UInt8, (stz l).length ≤ l.length
  | [] => Nat.le_refl _
  | [a] => Nat.le_refl _
  | a :: b :: l => by
    unfold stz
    split
    · have := stz_len (b :: l); simp only [List.length_cons] at *; omega
    · exact Nat.le_refl _
theorem stz_num {l : List UInt8} {v : Nat} (hne : l ≠ []) (hd : Lib.decFrom 0 l = some v) (hv : v ≤ 281474976710656) : nmO (stz l) = some v :=
  nmO_of hv (dec_canon _ _ _ (Nat.le_refl _) (stz_ne l hne) (stz_head l) (by rw [stz_dec]; exact hd))
theorem stz_same {l : List UInt8} (h : ¬ (1 < l.length ∧ l.head? = some 48)) : stz l = l := by
  match l with
  | [] => rfl
  | [a] => rfl
  | a :: b :: l =>
    unfold stz
    rw [if_neg (fun e => h ⟨by simp, by simp [e]⟩)]
theorem stz_tail {l : List UInt8} (h1 : 1 < l.length) (h2 : l.head? = some 48) : stz (l.drop 1) = stz l := by
  match l with
  | [] => simp at h1
  | [a] => simp at h1
  | a :: b :: l =>
    simp at h2
    conv => rhs; unfold stz
    rw [if_pos h2]
    rfl
def strLen : Value → Nat
  | .string s => s.size
  | _ => 0
theorem get0 {q : List UInt8} (h : 0 < q.length) : ∃ b t, q = b :: t := by
  match q with
  | [] => simp at h
  | b :: t => exact ⟨b, t, rfl⟩
set_option maxRecDepth 100000 in
set_option maxHeartbeats 1000000 in
theorem plain_any (s : List UInt8) (w : World) (hs : s.length ≤ 16777216) : Calls Tryd.prog 23 #[.string (bA s)] w fun r w' => Below w.heap.size w w' ∧
      ((∃ u : Nat, nmO (stz s) = some u ∧ r = .returned (.tuple #[.int .i64 (u : Int), .bool true])) ∨ (nmO (stz s) = none ∧ ∃ x, r = .returned (.tuple #[.int .i64 x, .bool false]))) := by
  go_enter Tryd.func23, Tryd.ntmps23
  go_wp2_with fail
  go_loopw [0] (fun v wr => ∃ q : List UInt8, v = .string (bA q) ∧ q.length ≤ s.length ∧ Hid (stz q = stz s) ∧ Hid (Below w.heap.size w wr)) (fun v _ => strLen v)
  case atStart => exact ⟨s, rfl, Nat.le_refl _, hide rfl, hide (Below.refl _ _)⟩
  case round =>
    obtain ⟨q, rfl, hq, HQ, HB⟩ := hrel
    have hsz := bA_size q
    by_cases h1 : 1 < q.length
    · have h1' : (1 : Int) < ((bA q).size : Int) := by rw [hsz]; omega
      have hz' : (0 : Int) < ((bA q).size : Int) := by rw [hsz]; omega
      have hz : 0 < (bA q).size := by rw [hsz]; omega
      have hg0 : q.head? = some ((bA q)[0]'hz) := by
        rw [List.head?_eq_getElem?, List.getElem?_eq_getElem (by omega)]
        rfl
      by_cases h48 : ((bA q)[0]'hz) = 48
      · have e48 : (((((bA q)[0]'hz).toNat : Nat) : Int) == 48) = true := by rw [h48]; rfl
        have HT : Hid (stz (q.drop 1) = stz s) := hide (by rw [stz_tail h1 (by rw [hg0, h48])]; exact HQ.out)
        have x1 := slice_str q 1 1 rfl (by omega)
        have HL : Hid ((q.drop 1).length = q.length - 1) := hide (by simp)
        generalize q.drop 1 = q' at *
        clear hg0 h48 HQ
        go_wp2_with fail
        refine ⟨⟨q', rfl, by have := HL.out; omega, HT, HB⟩, ?_⟩
        show (bA q').size < (bA q).size
        rw [bA_size, bA_size, HL.out]
        omega
      · have e48 : (((((bA q)[0]'hz).toNat : Nat) : Int) == 48) = false := by
          simp only [beq_eq_false_iff_ne, ne_eq]
          intro e
          refine h48 (UInt8.toNat_inj.1 ?_)
          have : ((bA q)[0]'hz).toNat = 48 := by omega
          rw [this]; rfl
        have HE : Hid (q = stz s) := hide (by rw [← HQ.out]; exact (stz_same (fun h => h48 (Option.some.inj (hg0.symm.trans h.2)))).symm)
        clear hg0 h48
        have HN := hide (num_any (bA q) wr (by rw [hsz]; omega))
        go_wp2_with fail
        refine HN.out.mono ?_
        rintro r w2 ⟨hb2, h⟩
        have B2 := hide (on_below HB.out hb2)
        rw [strL_bA, HE.out] at h
        clear HN hb2
        rcases h with ⟨u, hu, rfl⟩ | ⟨hu, x, rfl⟩
        · have HU := hide hu
          clear hu
          go_wp2
          go_ret2
          exact ⟨B2.out, .inl ⟨u, HU.out, rfl⟩⟩
        · have HU := hide hu
          clear hu
          go_wp2
          go_ret2
          exact ⟨B2.out, .inr ⟨HU.out, _, rfl⟩⟩
    · have h1' : ¬ ((1 : Int) < ((bA q).size : Int)) := by rw [hsz]; omega
      have HE : Hid (q = stz s) := hide (by rw [← HQ.out]; exact (stz_same (fun h => h1 h.1)).symm)
      have HN := hide (num_any (bA q) wr (by rw [hsz]; omega))
      go_wp2_with fail
      refine HN.out.mono ?_
      rintro r w2 ⟨hb2, h⟩
      have B2 := hide (on_below HB.out hb2)
      rw [strL_bA, HE.out] at h
      clear HN hb2
      rcases h with ⟨u, hu, rfl⟩ | ⟨hu, x, rfl⟩
      · have HU := hide hu
        clear hu
        go_wp2
        go_ret2
        exact ⟨B2.out, .inl ⟨u, HU.out, rfl⟩⟩
      · have HU := hide hu
        clear hu
        go_wp2
        go_ret2
        exact ⟨B2.out, .inr ⟨HU.out, _, rfl⟩⟩
/-- Groups of three. -/
def grpx : List UInt8 → List UInt8
  | a :: b :: c :: l => 120 :: a :: b :: c :: 47 :: grpx l
  | _ => []
theorem grpx_app : ∀ (A B : List UInt8), A.length % 3 = 0 → grpx (A ++ B) = grpx A ++ grpx B
  | [], B, _ => rfl
  | [a], B, h => by simp at h
  | [a, b], B, h => by simp at h
  | a :: b :: c :: l, B, h => by
    have ih := grpx_app l B (by simp only [List.length_cons] at h; omega)
    show 120 :: a :: b :: c :: 47 :: grpx (l ++ B) = (120 :: a :: b :: c :: 47 :: grpx l) ++ grpx B
    rw [ih]
    rfl
theorem grpx_d3 (n : Nat) : grpx (d3 n) = 120 :: d3 n ++ [47] := rfl
theorem gD_three : ∀ (k r : Nat), (gD k r).length % 3 = 0
  | 0, r => rfl
  | k + 1, r => by
    unfold gD
    split
    · rfl
    · have := gD_three k (r / 1000)
      rw [List.length_append, d3_length]
      omega
theorem grpx_gD : ∀ (k r : Nat), grpx (gD k r) = ixF k r
  | 0, r => rfl
  | k + 1, r => by
    unfold gD ixF
    split
    · rfl
    · rw [grpx_app _ _ (gD_three k _), grpx_gD k (r / 1000), grpx_d3]
/-- Digits with noughts ahead up to a third. -/
def pd3 (l : List UInt8) : List UInt8 := List.replicate ((3 - l.length % 3) % 3) 48 ++ l
theorem pd3_app (A : List UInt8) (n : Nat) : pd3 (A ++ d3 n) = pd3 A ++ d3 n := by
  unfold pd3
  rw [List.length_append, d3_length, show (A.length + 3) % 3 = A.length % 3 by omega, List.append_assoc]
theorem dec_three {n : Nat} (h : 1000 ≤ n) : Lib.decDigits n = Lib.decDigits (n / 1000) ++ d3 (n % 1000) := by
  rw [dec_snoc (by omega), dec_snoc (by omega), dec_snoc (by omega)]
  have e1 : n / 10 / 10 / 10 = n / 1000 := by omega
  have e2 : n / 10 / 10 % 10 = n % 1000 / 100 := by omega
  have e3 : n / 10 % 10 = n % 1000 / 10 % 10 := by omega
  have e4 : n % 10 = n % 1000 % 10 := by omega
  rw [e1, e2, e3, e4]
  simp [d3]
theorem pad_small {n : Nat} (h : n < 1000) : pd3 (Lib.decDigits n) = d3 n := by
  by_cases h1 : n < 10
  · rw [Lib.decDigits_one h1]
    have e1 : n / 100 = 0 := by omega
    have e2 : n / 10 % 10 = 0 := by omega
    have e3 : n % 10 = n := by omega
    unfold d3
    rw [e1, e2, e3]
    rfl
  · by_cases h2 : n < 100
    · rw [dec_snoc h1, Lib.decDigits_one (by omega)]
      have e1 : n / 100 = 0 := by omega
      have e2 : n / 10 % 10 = n / 10 := by omega
      unfold d3
      rw [e1, e2]
      rfl
    · rw [dec_snoc h1, dec_snoc (by omega), Lib.decDigits_one (by omega)]
      have e1 : n / 10 / 10 = n / 100 := by omega
      simp [pd3, d3, e1]
theorem gD_pad : ∀ (k r : Nat), 0 < r → r < 1000 ^ k → gD k r = pd3 (Lib.decDigits r)
  | 0, r, h0, h => by simp at h; omega
  | k + 1, r, h0, h => by
    unfold gD
    rw [if_neg (by omega)]
    by_cases hr : r < 1000
    · have e1 : r / 1000 = 0 := by omega
      have e2 : r % 1000 = r := by omega
      rw [e1, e2, pad_small hr]
      cases k <;> simp [gD]
    · rw [dec_three (by omega), pd3_app, gD_pad k (r / 1000) (by omega) (by rw [Nat.pow_succ] at h; omega)]
theorem ixD_pad {n : Nat} (h : n < 1000000000000000000) : ixD n = pd3 (Lib.decDigits n) := by
  unfold ixD
  by_cases hr : n < 1000
  · have e1 : n / 1000 = 0 := by omega
    have e2 : n % 1000 = n := by omega
    rw [e1, e2, pad_small hr]
    rfl
  · rw [dec_three (by omega), pd3_app, gD_pad 5 (n / 1000) (by omega) (by omega)]
theorem pd3_step {l : List UInt8} (h : l.length % 3 ≠ 0) : pd3 (48 :: l) = pd3 l := by
  unfold pd3
  have e1 : (3 - (48 :: l).length % 3) % 3 + 1 = (3 - l.length % 3) % 3 := by simp only [List.length_cons]; omega
  rw [← e1, List.replicate_succ', List.append_assoc]
  rfl
theorem pd3_done {l : List UInt8} (h : l.length % 3 = 0) : pd3 l = l := by
  unfold pd3
  rw [h]
  rfl
theorem pd3_len (l : List UInt8) : l.length ≤ (pd3 l).length := by
  unfold pd3
  rw [List.length_append]
  omega
theorem ixD_len (n : Nat) : (ixD n).length ≤ 18 := by
  have := gD_len 5 (n / 1000)
  simp only [ixD, List.length_append, d3_length]
  omega
theorem slice_to (l : List UInt8) (k : Nat) (K : Int) (hK : K = (k : Int)) (hk : k ≤ l.length) (v : World) : (Instr.slice 9 (.string (bA l)) none (some (.int .i64 K)) none).run Tryd.prog v = .ok (.string (bA (l.take k))) v := by
  subst hK
  rw [run_slice_string_to_if v 9 (bA l) .i64 (k : Int) Tryd.underlying9, if_pos ⟨by omega, by rw [bA_size]; omega⟩]
  congr 2
  apply eq_of_strL
  rw [strL_bA]
  show (ByteArray.extract (bA l) 0 (k : Int).toNat).data.toList = _
  rw [ByteArray.data_extract, Array.toList_extract, Int.toNat_natCast]
  show List.extract l 0 k = _
  simp only [List.extract, List.drop_zero, Nat.sub_zero]
set_option maxRecDepth 100000 in
set_option maxHeartbeats 1000000 in
theorem indexR_any (n : Nat) (w : World) (hn : n ≤ 281474976710656) : Calls Tryd.prog 19 #[.int .i64 (n : Int)] w fun r w' => r = .returned (.string (bA (ixP n))) ∧ Below w.heap.size w w' := by
  have HD := hide (digits_any n n w (Nat.le_refl _) (by omega))
  have HX := hide (ixD_pad (n := n) (by omega))
  have hdl := dec_len n (by omega)
  go_enter Tryd.func19, Tryd.ntmps19
  go_wp2_with fail
  refine HD.out.mono ?_
  rintro r w1 ⟨rfl, e1⟩
  replace e1 := e1.symm
  subst e1
  clear HD
  generalize Lib.decDigits n = d0 at *
  go_wp2_with fail
  go_loopw [3] (fun v wr => ∃ q : List UInt8, v = .string (bA q) ∧ q.length ≤ 30 ∧ Hid (pd3 q = ixD n) ∧ Hid (Below w.heap.size w wr)) (fun v _ => (3 - strLen v % 3) % 3)
  case atStart => exact ⟨d0, rfl, by omega, hide HX.out.symm, hide (Below.refl _ _)⟩
  case round =>
    obtain ⟨q, rfl, hq, HQ, HB⟩ := hrel
    have hsz := bA_size q
    obtain ⟨z, hz⟩ : ∃ z, q.length % 3 = z := ⟨_, rfl⟩
    have e3 : ((q.length : Nat) : Int).tmod 3 = (z : Int) := by rw [Int.tmod_eq_emod_of_nonneg (by omega)]; omega
    have e4 : ((q.length : Nat) : Int) % 3 = (z : Int) := by omega
    by_cases h0 : z = 0
    · subst h0
      have e : q = ixD n := by rw [← HQ.out, pd3_done hz]
      have HE : Hid (q = gD 5 (n / 1000) ++ d3 (n % 1000)) := hide e
      have HF : Hid (grpx (gD 5 (n / 1000)) ++ d3 (n % 1000) = ixP n) := hide (by rw [grpx_gD]; rfl)
      have H3 : Hid ((gD 5 (n / 1000)).length % 3 = 0) := hide (gD_three _ _)
      have H4 := hide (d3_length (n % 1000))
      clear e HQ
      generalize gD 5 (n / 1000) = A0 at *
      generalize d3 (n % 1000) = B0 at *
      have hA18 : A0.length + 3 ≤ 30 := by
        have := congrArg List.length HE.out
        rw [List.length_append, H4.out] at this
        omega
      go_wp2_with fail
      clear hz e3 e4 hsz
      go_loopw [3, 4] (fun v o wr => ∃ A O : List UInt8, v = .string (bA (A ++ B0)) ∧ o = .string (bA O) ∧ A.length + 3 ≤ 30 ∧ O.length + 5 * A.length ≤ 300 ∧ Hid (A.length % 3 = 0) ∧ Hid ((O ++ grpx A) ++ B0 = ixP n) ∧ Hid (Below w.heap.size w wr)) (fun v _ _ => strLen v)
      case atStart => exact ⟨A0, [], by rw [HE.out], rfl, hA18, by simp; omega, H3, hide (by simpa using HF.out), HB⟩
      case round =>
        obtain ⟨A, O, rfl, rfl, hA, hO, HA3, HG, HB2⟩ := hrel
        clear HB HE HF H3 hA18 hq
        have hb3 := H4.out
        by_cases hc : A = []
        · subst hc
          have hsz := bA_size B0
          rw [hb3] at hsz
          have HO : Hid (O ++ B0 = ixP n ∧ O.length + B0.length ≤ 9000) := hide ⟨by have := HG.out; simpa [grpx] using this, by rw [hb3]; simp at hO; omega⟩
          rw [List.nil_append]
          go_wp2_with (refine step_addR (p := O) (q := B0) (r := ixP n) rfl rfl rfl HO.out ?_)
          go_ret
          exact ⟨rfl, HB2.out⟩
        · obtain ⟨a, b, c, A', rfl⟩ : ∃ a b c l, A = a :: b :: c :: l := by
            have h3 := HA3.out
            match A, hc, h3 with
            | [], h, _ => exact absurd rfl h
            | [a], _, h => simp at h
            | [a, b], _, h => simp at h
            | a :: b :: c :: l, _, _ => exact ⟨a, b, c, l, rfl⟩
          have x1 := slice_to ((a :: b :: c :: A') ++ B0) 3 3 rfl (by simp)
          have x2 := slice_str ((a :: b :: c :: A') ++ B0) 3 3 rfl (by simp)
          rw [show ((a :: b :: c :: A') ++ B0).take 3 = [a, b, c] from rfl] at x1
          rw [show ((a :: b :: c :: A') ++ B0).drop 3 = A' ++ B0 from rfl] at x2
          have hsz := bA_size ((a :: b :: c :: A') ++ B0)
          rw [List.length_append, List.length_cons, List.length_cons, List.length_cons, hb3] at hsz
          simp only [List.length_cons] at hA hO
          have HA4 : Hid (A'.length % 3 = 0) := hide (by have := HA3.out; simp only [List.length_cons] at this; omega)
          obtain ⟨O1, h1⟩ : ∃ x, O ++ [120] = x := ⟨_, rfl⟩
          obtain ⟨O2, h2⟩ : ∃ x, O1 ++ [a, b, c] = x := ⟨_, rfl⟩
          obtain ⟨O3, h3⟩ : ∃ x, O2 ++ [47] = x := ⟨_, rfl⟩
          have l1 : O1.length = O.length + 1 := by rw [← h1]; simp
          have l2 : O2.length = O.length + 4 := by rw [← h2]; simp; omega
          have l3 : O3.length = O.length + 5 := by rw [← h3]; simp; omega
          have W1 : Hid (O ++ [120] = O1 ∧ O.length + ([120] : List UInt8).length ≤ 9000) := hide ⟨h1, by simp; omega⟩
          have W2 : Hid (O1 ++ [a, b, c] = O2 ∧ O1.length + ([a, b, c] : List UInt8).length ≤ 9000) := hide ⟨h2, by simp; omega⟩
          have W3 : Hid (O2 ++ [47] = O3 ∧ O2.length + ([47] : List UInt8).length ≤ 9000) := hide ⟨h3, by simp; omega⟩
          have HG2 : Hid ((O3 ++ grpx A') ++ B0 = ixP n) := hide (by
            rw [← HG.out, ← h3, ← h2, ← h1]
            simp [grpx])
          have HS4 := hide (bA_size (A' ++ B0))
          generalize hS : (a :: b :: c :: A') ++ B0 = SS at *
          generalize ([a, b, c] : List UInt8) = t3 at *
          obtain ⟨R, hR⟩ : ∃ R, A' ++ B0 = R := ⟨_, rfl⟩
          rw [hR] at x2 HS4
          have hgt : (3 : Int) < ((bA SS).size : Int) := by rw [hsz]; omega
          clear h1 h2 h3 HG HA3
          go_wp2_with (first | (refine step_addR (p := O) (q := [120]) (r := O1) rfl rfl rfl W1.out ?_) | (refine step_addR (p := O1) (q := t3) (r := O2) rfl rfl rfl W2.out ?_) | (refine step_addR (p := O2) (q := [47]) (r := O3) rfl rfl rfl W3.out ?_))
          refine ⟨⟨A', O3, by rw [hR], rfl, by omega, by omega, HA4, HG2, HB2⟩, ?_⟩
          show (bA R).size < (bA SS).size
          rw [hsz, HS4.out, ← hR, List.length_append, hb3]
          omega
    · have h0' : ((z : Int) == 0) = false := by simp; omega
      have h0'' : ¬ (z : Int) = 0 := by omega
      have Z1 : Hid (([48] : List UInt8) ++ q = 48 :: q ∧ ([48] : List UInt8).length + q.length ≤ 9000) := hide ⟨rfl, by simp; omega⟩
      have HN : Hid (pd3 (48 :: q) = ixD n) := hide (by rw [pd3_step (by omega)]; exact HQ.out)
      go_wp2_with (refine step_addR (p := [48]) (q := q) (r := 48 :: q) rfl rfl rfl Z1.out ?_)
      have hlen : (48 :: q).length ≤ 18 := by
        have h1 := pd3_len (48 :: q)
        rw [HN.out] at h1
        exact Nat.le_trans h1 (ixD_len n)
      refine ⟨⟨48 :: q, rfl, by omega, HN, HB⟩, ?_⟩
      show (3 - (bA (48 :: q)).size % 3) % 3 < (3 - (bA q).size % 3) % 3
      rw [bA_size, bA_size, List.length_cons]
      omega
end Go.Proofs.YtnlpgkfmjlljdaaDoor

/-
  A tile's bytes as digests; their root; a node's digest out of them: the program's placeOf, digests, Root, Digest.
-/
namespace Go.Proofs.YtnlpgkfmjlljdaaDoor
open Go.RowKit
set_option linter.unusedVariables false

theorem zP : Zeroed 64 (c2 0 0) := fun _ _ _ _ _ _ _ => by kernel_rfl
theorem wP : Wide 64 2 := ⟨by kernel_rfl, by kernel_rfl⟩
set_option maxRecDepth 100000 in
theorem placeOf_any (h l i n : Int) (w : World) : Calls Tryd.prog 29 #[.agg (c4 h l i n).toArray] w fun r w' => r = .returned (.agg (c2 l i).toArray) ∧ Below w.heap.size w w' := by
  go_enter Tryd.func29, Tryd.ntmps29
  go_wp2_with (first | (refine step_box (cs := c4 h l i n) rfl rfl ?_; intro w1 g1 hg1 hle1 hb1; have HG1 := hide hg1; clear hg1) | (refine step_alloc zP rfl ?_; intro w2 g2 hg2 hle2 hb2; have HG2 := hide hg2; clear hg2; obtain ⟨_, c1, c2, _⟩ := (HG1.out.on hb2).four) | (refine step_storeA wP rfl rfl rfl HG2.out rfl (One.c2 l i) rfl ?_; intro w4 hg4 hbut4))
  refine bodyPost_ret (results_wide rfl wP _ _ rfl hg4 rfl) rfl ⟨rfl, ?_⟩
  exact (hb1.trans (hb2.mono hb1.size)).trans (hbut4.below (Nat.le_trans hb1.size hle2))

theorem undByte : Tryd.prog.underlying 36 = some (.slice (Tryd.prog.elem 36)) := by kernel_rfl
theorem elemByte : Tryd.prog.elem 36 = 5 := by kernel_rfl
theorem sizeByte (w : World) : (sizeOf 5).run Tryd.prog w = .ok 1 w := by kernel_rfl
theorem b_mid (b o n cap k h : Nat) (K H : Int) (hK : K = (k : Int)) (hH : H = (h : Int)) (hk : k < h) (hc : h ≤ cap) (v : World) : (Instr.slice 36 (.slice (some ⟨b, o, none⟩) n cap) (some (.int .i64 K)) (some (.int .i64 H)) none).run Tryd.prog v = .ok (.slice (some ⟨b, o + k, none⟩) (h - k) (cap - k)) v := by
  subst hK hH
  rw [run_slice_lh v _ _ _ _ undByte .i64 .i64 k h (by omega) (by omega) (by omega), elemByte, sizeByte]
  have hne : ¬ cap = k := by omega
  simp [sliced, hne, Addr.add_lit]

theorem zcellT (n i : Nat) (h : i < n) : (u8s (zer n)).toArray[i]! = .int .u8 0 := by
  rw [getElem!_pos _ _ (by simpa [u8s, zer] using h)]
  simp [u8s, zer]
theorem madeT_zer (n : Nat) : madeCells (u8s (zer 32)).toArray n = (u8s (zer n)).toArray := by
  apply Array.ext
  · simp [size_madeCells, u8s_length, zer_length]
  · intro i h1 h2
    have hi : i % 32 < 32 := Nat.mod_lt _ (by decide)
    simp only [madeCells, Array.getElem_map, Array.getElem_range]
    have hsz : (u8s (zer 32)).toArray.size = 32 := by simp [u8s_length, zer_length]
    rw [hsz]
    have e1 : (u8s (zer 32)).toArray[i % 32]! = .int .u8 0 := zcellT 32 _ hi
    rw [e1]
    simp [u8s, zer]
section
variable {dst : Option Tmp} {ty : TypeId} {pos : String} {aft : Array Edge} {gd : Option (Nat × Bool)} {ops : Array Oper} {rest : List Oper} {a : Act} {w : World} {Q : Exit → Act → World → Prop}
theorem step_makeT {l c : Operand} {L C : Int} (n : Nat) (hw : Region.wanted ⟨dst, .makeSlice 67 l c, ty, pos, aft, gd⟩ (yielded ops a.tmps) = true)
    (hl : a.eval l = .int .i64 L) (hc : a.eval c = .int .i64 C) (hL : L = (n : Int)) (hC : C = (n : Int)) (hn : n ≤ 4398046511104)
    (h : ∀ w1 g, Blk w1 g 40 (u8s (zer (n * 32))) → w.heap.size ≤ g → Below w.heap.size w w1 → wpList Tryd.prog ops Q rest (a.put dst (.slice (some ⟨g, 0, none⟩) n n)) w1) :
    wpList Tryd.prog ops Q (⟨dst, .makeSlice 67 l c, ty, pos, aft, gd⟩ :: rest) a w := by
  obtain ⟨i0, hi, hz0, hz1, hz2⟩ := info_parts infoD
  subst hL hC
  refine step_run hw (.slice (some ⟨w.heap.size, 0, none⟩) n n) (w.alloc (.cells (u8s (zer (n * 32))).toArray 40)) ?_ (h _ _ (Blk.made _ _ _) (Nat.le_refl _) ((Below.refl _ _).alloc (Nat.le_refl _) _))
  have hr := run_make (P := Tryd.prog) w 67 40 i0 _ undDl hi hz0 .i64 .i64 (n : Int) (n : Int) (by omega) (Int.le_refl _) (by rw [hz2]; omega) (by omega)
  rw [hz1] at hr
  simp only [Value.cells, Int.toNat_natCast, madeT_zer] at hr
  simp [execOp, hl, hc, hr, Result.andThen]
end
theorem splT_then (cs vs us : List Value) (h : vs.length + us.length ≤ cs.length) : spl (spl cs vs 0) us vs.length = spl cs (vs ++ us) 0 := by
  unfold spl
  simp only [List.take_zero, List.nil_append, Nat.zero_add]
  rw [List.take_left, ← List.drop_drop, List.drop_left, List.drop_drop, List.length_append, List.append_assoc]
theorem takeT_more (ys : List Int) (k : Nat) : ys.take (32 * (k + 1)) = ys.take (32 * k) ++ (ys.drop (32 * k)).take 32 := by
  rw [show 32 * (k + 1) = 32 * k + 32 by omega, List.take_add]
theorem splT_dig (xs : List Int) (n k : Nat) (hk : k < n) (hx : xs.length = 32 * n) :
    spl (spl (u8s (zer (n * 32))) (u8s (xs.take (32 * k))) 0) (u8s ((xs.drop (32 * k)).take 32)) (32 * k) = spl (u8s (zer (n * 32))) (u8s (xs.take (32 * (k + 1)))) 0 := by
  have h1 : (u8s (xs.take (32 * k))).length = 32 * k := by rw [u8s_length, List.length_take]; omega
  have h2 : (u8s ((xs.drop (32 * k)).take 32)).length = 32 := by rw [u8s_length, List.length_take, List.length_drop]; omega
  have e := splT_then (u8s (zer (n * 32))) (u8s (xs.take (32 * k))) (u8s ((xs.drop (32 * k)).take 32)) (by rw [h1, h2, u8s_length, zer_length]; omega)
  rw [h1] at e
  rw [e, takeT_more, ← u8s_app]
set_option maxRecDepth 100000 in
set_option maxHeartbeats 2000000 in
theorem digests_any (b o n cap : Nat) (len : Nat) (xs : List Int) (w : World) (hs : Sl w (some ⟨b, o, none⟩) len cap xs) (hl : len = 32 * n) (hn : n ≤ 256) :
    Calls Tryd.prog 31 #[.slice (some ⟨b, o, none⟩) len cap] w fun r w' => ∃ g, r = .returned (.slice (some ⟨g, 0, none⟩) n n) ∧ Ds w' (some ⟨g, 0, none⟩) n n xs ∧ Below w.heap.size w w' := by
  have HS := hide hs
  have hx := hs.hlen
  have HX := hide (show xs.length = 32 * n by omega)
  have hq : (len : Int) / 32 = (n : Int) := by omega
  have hlen : (len : Int) ≤ 8192 := by omega
  have HLN := hide hl
  clear hs hx hl
  go_enter Tryd.func31, Tryd.ntmps31
  go_wp2_with (refine step_makeT n rfl rfl rfl rfl rfl (by omega) ?_)
  intro w1 g hg hle hb
  have HG := hide hg
  have HB := hide hb
  clear hg hb
  go_wp2_with fail
  go_loopw [11] (fun k wr => ∃ j : Nat, k = .int .i64 (j : Int) ∧ j ≤ n ∧ Hid (Blk wr g 40 (spl (u8s (zer (n * 32))) (u8s (xs.take (32 * j))) 0)) ∧ Hid (Below w.heap.size w wr)) (fun k _ => n - (intOf k).toNat)
  case atStart => exact ⟨0, rfl, Nat.zero_le _, hide (by simpa [spl, u8s] using HG.out), HB⟩
  case round =>
    obtain ⟨j, rfl, hj, HGj, HBj⟩ := hrel
    clear HG HB
    by_cases hc : j < n
    · have hc' : (j : Int) < (n : Int) := by omega
      have hj1 : wrap64 ((j : Int) + 1) = ((j + 1 : Nat) : Int) := by unfold wrap64; omega
      have hj2 : (j : Int) * 32 = ((32 * j : Nat) : Int) := by omega
      have hj3 : wrap64 ((32 * j : Nat) : Int) = ((32 * j : Nat) : Int) := by unfold wrap64; omega
      obtain ⟨J, HJ⟩ : ∃ J, Hid (32 * j = J) := ⟨_, hide rfl⟩
      rw [HJ.out] at hj2 hj3
      have HO := hide (octD_ok b o len cap xs J wr (HS.out.below HBj.out) (by rw [← HJ.out, HLN.out]; omega))
      have xa := d_at g 0 n n j (j : Int) rfl hc
      have HUL : Hid ((u8s ((xs.drop J).take 32)).length = 32) := hide (by rw [u8s_length, List.length_take, List.length_drop, HX.out, ← HJ.out]; omega)
      rw [Nat.zero_add, HJ.out] at xa
      have HSP : Hid (spl (spl (u8s (zer (n * 32))) (u8s (xs.take (32 * j))) 0) (u8s ((xs.drop J).take 32)) J = spl (u8s (zer (n * 32))) (u8s (xs.take (32 * (j + 1)))) 0) := hide (by rw [← HJ.out]; exact splT_dig xs n j hc HX.out)
      have HLL : Hid (J + 32 ≤ (spl (u8s (zer (n * 32))) (u8s (xs.take (32 * j))) 0).length) := hide (by
        unfold spl
        rw [List.take_zero, List.nil_append, List.length_append, List.length_drop, u8s_length, u8s_length, zer_length, List.length_take, HX.out, ← HJ.out]
        omega)
      go_wp2_with (first | (go_at_call 48; refine (HO.out).mono ?_; rintro r w2 ⟨rfl, hb2⟩; have G2 := hide (HGj.out.on hb2); have B2 := hide (on_below HBj.out hb2)) | (refine step_store wD rfl rfl rfl G2.out HUL.out (One.u8 _) HLL.out ?_))
      intro w3 hg3 hbut3
      rw [HSP.out] at hg3
      have G3 := hide hg3
      have B3 := hide (B2.out.trans (hbut3.below hle))
      clear hg3 hbut3 G2 B2 HGj HBj hb2
      go_wp2
      go_roundw
      case rel => exact ⟨j + 1, rfl, hc, G3, B3⟩
      case measure => simp only [intOf]; omega
    · obtain rfl : j = n := by omega
      have HE : Hid (spl (u8s (zer (j * 32))) (u8s (xs.take (32 * j))) 0 = u8s xs) := hide (by
        rw [List.take_of_length_le (by rw [HX.out]; exact Nat.le_refl _)]
        exact spl_full (by rw [u8s_length, u8s_length, zer_length, HX.out]; omega))
      go_wp2
      go_ret
      refine ⟨g, rfl, ?_, HBj.out⟩
      have h1 := HGj.out
      rw [HE.out] at h1
      have hbx := HS.out.hbyte
      have h2 := h1.sl 0 (32 * j) xs (by rw [List.drop_zero, List.take_of_length_le (by rw [u8s_length]; exact Nat.le_refl _)]) hbx (by rw [HX.out]; omega) (by rw [HX.out]; exact Nat.le_refl _) (by omega)
      rw [HX.out] at h2
      exact ⟨Nat.le_refl _, by omega, (fun e => by cases e), h2⟩

/-- What Root tells. -/
def RtR (h l i n : Int) (len : Nat) (xs ds : List Int) (e : Int) : Prop := ChE h l i n len e ∧ ((¬ e = 0 ∧ ds = zer 32) ∨ (e = 0 ∧ ds = root xs))
set_option maxRecDepth 100000 in
set_option maxHeartbeats 2000000 in
theorem rootT_any (h l i n : Int) (hl : l ≤ 9223372036854775807) (hi : i ≤ 9223372036854775807) (len : Nat) (xs : List Int) (hx : xs.length = len) (hlen : len ≤ 140737488355328) (hxb : isB xs) : ∃ (ds : List Int) (e : Int), RtR h l i n len xs ds e ∧ ∀ (a : Option Addr) (cap : Nat) (w : World), Sl w a len cap xs → KT w →
    Calls Tryd.prog 14 #[.agg (c4 h l i n).toArray, .slice a len cap] w fun r w' => r = .returned (.tuple #[.agg (u8s ds).toArray, .int .i64 e]) ∧ Below w.heap.size w w' := by
  obtain ⟨e, he, hc⟩ := check_any h l i n hl hi len hlen
  have HC := hide hc
  clear hc
  by_cases h0 : e = 0
  · subst h0
    have hk : ∃ N : Nat, len = 32 * N ∧ 1 ≤ N ∧ N ≤ 256 := by
      rcases he with ⟨h1, _⟩ | ⟨hk, ⟨h1, _⟩ | ⟨_, h2⟩⟩
      · cases h1
      · cases h1
      · have := hk.n_bd
        exact ⟨n.toNat, by omega, by omega, by omega⟩
    obtain ⟨N, hN, hN1, hN2⟩ := hk
    refine ⟨root xs, 0, ⟨he, .inr ⟨rfl, rfl⟩⟩, fun a cap w hs hkt => ?_⟩
    have HS := hide hs
    have HK := hide hkt
    have HRL : Hid ((u8s (root xs)).length = 32) := hide (by rw [u8s_length, root_length (n := N) (by rw [hx, hN]) hxb])
    obtain ⟨b, o, rfl, _⟩ := hs.hcell (by omega)
    have HN := hide hN
    clear hs hkt he hx hN
    go_enter Tryd.func14, Tryd.ntmps14
    go_wp2_with (first | (refine step_box (cs := c4 h l i n) rfl rfl ?_; intro w1 g1 hg1 hle1 hb1; have HG1 := hide hg1; clear hg1) | (refine step_alloc zD rfl ?_; intro w2 g2 hg2 hle2 hb2; have HG2 := hide hg2; clear hg2; have HG3 := hide (HG1.out.on hb2)) | (refine step_loadA wT rfl rfl HG3.out rfl ?_))
    refine (HC.out _ _ _).mono ?_
    rintro r w3 ⟨rfl, hb3⟩
    have q3 := on_below (on_below hb1 hb2) hb3
    have G3 := hide (HG2.out.on hb3)
    clear hb3 HG2 HG1 HG3 HC
    have l2 : w.heap.size ≤ g2 := Nat.le_trans hb1.size hle2
    clear hb1 hb2 hle1 hle2
    have HD := hide (digests_any b o N cap len xs w3 (HS.out.below q3) HN.out hN2)
    go_wp2_with fail
    refine (HD.out).mono ?_
    rintro r w4 ⟨g4, rfl, hd4, hb4⟩
    have HD4 := hide hd4
    have q4 := on_below q3 hb4
    have G4 := hide (G3.out.on hb4)
    clear hd4 hb4 G3 q3 HD
    go_wp2_with fail
    refine (root_any N _ N N xs w4 (Nat.le_refl _) HD4.out (HK.out.below q4 HK.out.lt)).mono ?_
    rintro r w5 ⟨rfl, hb5⟩
    have q5 := on_below q4 hb5
    have G5 := hide (G4.out.on hb5)
    clear hb5 q4 G4 HD4
    go_wp2_with (refine step_storeA wD rfl rfl rfl G5.out HRL.out (One.u8 _) rfl ?_)
    intro w6 hg6 hbut6
    go_wp2
    refine bodyPost_ret (results_wide2 rfl wD _ _ rfl hg6 HRL.out) rfl ⟨rfl, ?_⟩
    exact q5.trans (hbut6.below l2)
  · refine ⟨zer 32, e, ⟨he, .inl ⟨h0, rfl⟩⟩, fun a cap w hs hkt => ?_⟩
    have h0b : (e == 0) = false := by simp [h0]
    clear hs hkt he
    go_enter Tryd.func14, Tryd.ntmps14
    go_wp2_with (first | (refine step_box (cs := c4 h l i n) rfl rfl ?_; intro w1 g1 hg1 hle1 hb1; have HG1 := hide hg1; clear hg1) | (refine step_alloc zD rfl ?_; intro w2 g2 hg2 hle2 hb2; have HG2 := hide hg2; clear hg2; have HG3 := hide (HG1.out.on hb2)) | (refine step_loadA wT rfl rfl HG3.out rfl ?_))
    refine (HC.out _ _ _).mono ?_
    rintro r w3 ⟨rfl, hb3⟩
    have q3 := on_below (on_below hb1 hb2) hb3
    have G3 := hide (HG2.out.on hb3)
    clear hb3 HG2 HG1 HG3 HC
    have l2 : w.heap.size ≤ g2 := Nat.le_trans hb1.size hle2
    clear hb1 hb2 hle1 hle2
    go_wp2_with (first | (refine step_buildD rfl ?_) | (refine step_storeA wD rfl rfl rfl G3.out rfl (One.u8 _) rfl ?_; intro w4 hg4 hbut4))
    refine bodyPost_ret (results_wide2 rfl wD _ _ rfl hg4 rfl) rfl ⟨rfl, ?_⟩
    exact q3.trans (hbut4.below l2)

end Go.Proofs.YtnlpgkfmjlljdaaDoor

/-
  A node's digest out of its tile's bytes: the program's Digest.
-/
namespace Go.Proofs.YtnlpgkfmjlljdaaDoor
open Go.RowKit
set_option linter.unusedVariables false

/-- Is the node in that tile? -/
def inT (h l i n a b : Int) : Prop := ((a.toNat / h.toNat : Nat) : Int) = l ∧ ((oX h.toNat a.toNat b.toNat : Nat) : Int) = i ∧ ((oT h.toNat a.toNat b.toNat : Nat) : Int) ≤ n
/-- The digests of a tile that a node stands over. -/
def ovr (h a b : Int) (xs : List Int) : List Int := (xs.drop (32 * oF h.toNat a.toNat b.toNat)).take (32 * (oT h.toNat a.toNat b.toNat - oF h.toNat a.toNat b.toNat))
/-- What Digest tells. -/
def DgR (h l i n : Int) (len : Nat) (xs : List Int) (a b : Int) (ds : List Int) (e : Int) : Prop :=
  (e = 2 ∧ ds = zer 32 ∧ ¬ (V a b ∧ tOK h l i n)) ∨ (V a b ∧ tOK h l i n ∧ ((e = 101 ∧ ds = zer 32 ∧ ¬ (len : Int) = n * 32) ∨
    ((len : Int) = n * 32 ∧ ((e = 40 ∧ ds = zer 32 ∧ ¬ inT h l i n a b) ∨ (e = 0 ∧ inT h l i n a b ∧ ds = root (ovr h a b xs))))))
theorem DgR.uniq {h l i n : Int} {len : Nat} {xs : List Int} {a b : Int} {ds ds' : List Int} {e e' : Int} (k : DgR h l i n len xs a b ds e) (k' : DgR h l i n len xs a b ds' e') : ds = ds' ∧ e = e' := by
  rcases k with ⟨rfl, rfl, k⟩ | ⟨v, t, ⟨rfl, rfl, k⟩ | ⟨q, ⟨rfl, rfl, k⟩ | ⟨rfl, k, rfl⟩⟩⟩ <;> rcases k' with ⟨rfl, rfl, k'⟩ | ⟨v', t', ⟨rfl, rfl, k'⟩ | ⟨q', ⟨rfl, rfl, k'⟩ | ⟨rfl, k', rfl⟩⟩⟩
  all_goals first | exact ⟨rfl, rfl⟩ | (exfalso; first | exact k ⟨v', t'⟩ | exact k' ⟨v, t⟩ | exact k q' | exact k' q | exact k k' | exact k' k)
theorem ovr_len {h a b : Int} {xs : List Int} {n : Nat} (hx : xs.length = 32 * n) (ht : oT h.toNat a.toNat b.toNat ≤ n) : (ovr h a b xs).length = 32 * (oT h.toNat a.toNat b.toNat - oF h.toNat a.toNat b.toNat) := by
  unfold ovr
  rw [List.length_take, List.length_drop, hx]
  have : oF h.toNat a.toNat b.toNat ≤ oT h.toNat a.toNat b.toNat := Nat.le_add_right _ _
  omega
theorem oF_lt (h L I : Nat) : oF h L I < oT h L I := by unfold oT; have := Nat.two_pow_pos (L % h); omega

theorem placeOf_lit (h l i n : Int) (w : World) : Calls Tryd.prog 29 #[.agg #[.int .i64 h, .int .i64 l, .int .i64 i, .int .i64 n]] w fun r w' => r = .returned (.agg #[.int .i64 l, .int .i64 i]) ∧ Below w.heap.size w w' := placeOf_any h l i n w
set_option maxRecDepth 100000 in
set_option maxHeartbeats 2000000 in
theorem digestT_any (h l i n : Int) (hl : l ≤ 9223372036854775807) (hi : i ≤ 9223372036854775807) (len : Nat) (xs : List Int) (hx : xs.length = len) (hlen : len ≤ 140737488355328) (hxb : isB xs) (a b : Int) : ∃ (ds : List Int) (e : Int), DgR h l i n len xs a b ds e ∧ ∀ (ad : Option Addr) (cap : Nat) (w : World), Sl w ad len cap xs → KT w →
    Calls Tryd.prog 12 #[.agg (c4 h l i n).toArray, .slice ad len cap, .agg (c2 a b).toArray] w fun r w' => r = .returned (.tuple #[.agg (u8s ds).toArray, .int .i64 e]) ∧ Below w.heap.size w w' := by
  by_cases hh : h < 1 ∨ 8 < h
  · refine ⟨zer 32, 2, .inl ⟨rfl, rfl, fun ⟨_, H, L, I, N, e1, _, _, _, hH, _⟩ => by have := hH.1; have := hH.2; omega⟩, fun ad cap w hs hkt => ?_⟩
    have HOF : Hid (∀ v : World, Calls Tryd.prog 27 #[.int .i64 h, .agg (c2 a b).toArray] v fun r w' => r = .returned (.tuple #[.agg (c4 0 0 0 0).toArray, .int .i64 0, .int .i64 0, .int .i64 2]) ∧ Below v.heap.size v w') := hide (fun v => of_no1 h a b v hh)
    clear hs hkt hh
    go_enter Tryd.func12, Tryd.ntmps12
    go_wp2_with (first | (refine step_box (cs := c4 h l i n) rfl rfl ?_; intro w1 g1 hg1 hle1 hb1; have HG1 := hide hg1; clear hg1) | (refine step_box (cs := c2 a b) rfl rfl ?_; intro w2 g2 hg2 hle2 hb2; have HG2 := hide hg2; clear hg2) | (refine step_alloc zD rfl ?_; intro w3 g3 hg3 hle3 hb3; have q3 := on_below (on_below hb1 hb2) hb3; have BB := hide ((((Bs.nil w3).push hg3).push (HG2.out.on hb3)).push ((HG1.out.on hb2).on hb3)); have l3 : w.heap.size ≤ g3 := Nat.le_trans (on_below hb1 hb2).size hle3; clear hg3 hb1 hb2 hb3 hle1 hle2 hle3 HG1 HG2; have c0 := (BB.out.at 0 rfl).four.1) | (refine step_loadA wN rfl rfl (BB.out.at 1 rfl) rfl ?_))
    refine (HOF.out _).mono ?_
    rintro r w4 ⟨rfl, hb4⟩
    have q4 := on_below q3 hb4
    have B4 := hide (BB.out.on hb4)
    clear hb4 q3 BB c0 HOF
    go_wp2_with (first | (refine step_alloc zT rfl ?_; intro w5 g5 hg5 hle5 hb5; have HG5 := hide hg5; clear hg5) | (refine step_storeA wT rfl rfl rfl HG5.out rfl (One.c4 0 0 0 0) rfl ?_))
    intro w6 hg6 hbut6
    have q6 := new_below q4 hb5 hle5 hbut6
    have B6 := hide (B4.out.new hb5 hle5 hg6 hbut6)
    clear hb5 hle5 hbut6 q4 B4 hg6 HG5
    go_wp2_with (first | (refine step_buildD rfl ?_) | (refine step_storeA wD rfl rfl rfl (B6.out.at 3 rfl) rfl (One.u8 _) rfl ?_; intro w8 hg8 hbut8))
    refine bodyPost_ret (results_wide2 rfl wD _ _ rfl hg8 rfl) rfl ⟨rfl, ?_⟩
    exact q6.trans (hbut8.below l3)
  · obtain ⟨H, rfl⟩ : ∃ H : Nat, h = (H : Int) := ⟨h.toNat, by omega⟩
    have hH : isH H := ⟨by omega, by omega⟩
    by_cases hv : V a b
    · obtain ⟨L, I, rfl, rfl, hL, h1⟩ := hv.nats
      have HOF : Hid (∀ v : World, Calls Tryd.prog 27 #[.int .i64 (H : Int), .agg (c2 (L : Int) (I : Int)).toArray] v fun r w' => r = .returned (.tuple #[.agg (c4 (H : Int) (L / H : Nat) (oX H L I : Nat) (oT H L I : Nat)).toArray, .int .i64 (oF H L I : Nat), .int .i64 (oT H L I : Nat), .int .i64 0]) ∧ Below v.heap.size v w') := hide (fun v => of_ok H L I v hH hL h1)
      obtain ⟨e, he, hc⟩ := check_any (H : Int) l i n hl hi len hlen
      have HC := hide hc
      clear hc
      have hinT : inT (H : Int) l i n (L : Int) (I : Int) ↔ (((L / H : Nat) : Int) = l ∧ ((oX H L I : Nat) : Int) = i ∧ ((oT H L I : Nat) : Int) ≤ n) := by unfold inT; simp only [Int.toNat_natCast]
      have HOV : Hid (ovr (H : Int) (L : Int) (I : Int) xs = (xs.drop (32 * oF H L I)).take (32 * (oT H L I - oF H L I))) := hide (by unfold ovr; simp only [Int.toNat_natCast])
      have hFT := oF_lt H L I
      by_cases h0 : e = 0
      · subst h0
        have hk : tOK (H : Int) l i n ∧ (len : Int) = n * 32 := by
          rcases he with ⟨h1, _⟩ | ⟨hk, ⟨h1, _⟩ | ⟨_, h2⟩⟩
          · cases h1
          · cases h1
          · exact ⟨hk, h2⟩
        by_cases hin : inT (H : Int) l i n (L : Int) (I : Int)
        · refine ⟨root (ovr (H : Int) (L : Int) (I : Int) xs), 0, .inr ⟨hv, hk.1, .inr ⟨hk.2, .inr ⟨rfl, hin, rfl⟩⟩⟩, fun ad cap w hs hkt => ?_⟩
          obtain ⟨z1, z2, z3⟩ := hinT.1 hin
          have hnb := hk.1.n_bd
          obtain ⟨N, rfl⟩ : ∃ N : Nat, n = (N : Int) := ⟨n.toNat, by omega⟩
          have hlN : len = 32 * N := by omega
          have HS := hide hs
          have HK := hide hkt
          have hTN : oT H L I ≤ N := by omega
          have hRL := root_length (ovr_len (h := (H : Int)) (a := (L : Int)) (b := (I : Int)) (xs := xs) (n := N) (by omega) (by simpa using hTN)) ((hxb.drop _).take _)
          have HRL : Hid ((u8s (root (ovr (H : Int) (L : Int) (I : Int) xs))).length = 32) := hide (by rw [u8s_length, hRL])
          rw [HOV.out] at HRL ⊢
          obtain ⟨bb, o, rfl, _⟩ := hs.hcell (by omega)
          have hcap := hs.hcap
          have HL32 := hide hlN
          have hN2 : N ≤ 256 := by omega
          clear hin hinT hk he HOV hRL hh hv hs hkt hnb h1 hL hlN hx hxb
          generalize oF H L I = F at *
          generalize oT H L I = T at *
          generalize ((oX H L I : Nat) : Int) = C at *
          generalize ((L / H : Nat) : Int) = A at *
          clear hH
          generalize (H : Int) = h at *
          generalize (L : Int) = a at *
          generalize (I : Int) = b at *
          subst z1 z2
          have z3' : ¬ (T : Int) > (N : Int) := by omega
          have k1 : (F : Int) * 32 = ((32 * F : Nat) : Int) := by omega
          have k2 : (T : Int) * 32 = ((32 * T : Nat) : Int) := by omega
          have hF2 : 32 * F ≤ 8192 := by omega
          have hT2 : 32 * T ≤ 8192 := by omega
          have hFT2 : 32 * F < 32 * T := by omega
          have hTl : 32 * T ≤ len := by rw [HL32.out]; omega
          have HN3 := hide (show 32 * T - 32 * F = 32 * (T - F) by omega)
          have hTF : T - F ≤ 256 := by omega
          have hlist : ((xs.drop (32 * F)).take (32 * (T - F))) = (xs.drop (32 * F)).take (32 * T - 32 * F) := by rw [HN3.out]
          have HD : Hid (∀ v : World, Below w.heap.size w v → Calls Tryd.prog 31 #[.slice (some ⟨bb, o + 32 * F, none⟩) (32 * T - 32 * F) (cap - 32 * F)] v fun r w' => ∃ g, r = .returned (.slice (some ⟨g, 0, none⟩) (T - F) (T - F)) ∧ Ds w' (some ⟨g, 0, none⟩) (T - F) (T - F) ((xs.drop (32 * F)).take (32 * (T - F))) ∧ Below v.heap.size v w') := hide (fun v hv => by
            have s1 := ((HS.out.below hv).drop (32 * F) (by omega)).take (32 * T - 32 * F) (by omega)
            rw [HN3.out] at s1 ⊢
            exact digests_any bb (o + 32 * F) (T - F) (cap - 32 * F) (32 * (T - F)) _ v s1 rfl hTF)
          clear hlist
          generalize ((xs.drop (32 * F)).take (32 * (T - F))) = ys at *
          obtain ⟨F32, HF32⟩ : ∃ x, 32 * F = x := ⟨_, rfl⟩
          obtain ⟨T32, HT32⟩ : ∃ x, 32 * T = x := ⟨_, rfl⟩
          rw [HF32] at k1 hF2 hFT2 HD
          rw [HT32] at k2 hT2 hFT2 hTl HD
          have xs1 := fun v => b_mid bb o len cap F32 T32 (F32 : Int) (T32 : Int) rfl rfl hFT2 (by omega) v
          generalize T - F = TF at *
          clear HF32 HT32 HN3 HL32 hFT hTN z3
          go_enter Tryd.func12, Tryd.ntmps12
          go_wp2_with (first | (refine step_box (cs := c4 h A C (N : Int)) rfl rfl ?_; intro w1 g1 hg1 hle1 hb1; have HG1 := hide hg1; clear hg1) | (refine step_box (cs := c2 a b) rfl rfl ?_; intro w2 g2 hg2 hle2 hb2; have HG2 := hide hg2; clear hg2) | (refine step_alloc zD rfl ?_; intro w3 g3 hg3 hle3 hb3; have q3 := on_below (on_below hb1 hb2) hb3; have BB := hide ((((Bs.nil w3).push hg3).push (HG2.out.on hb3)).push ((HG1.out.on hb2).on hb3)); have l3 : w.heap.size ≤ g3 := Nat.le_trans (on_below hb1 hb2).size hle3; clear hg3 hb1 hb2 hb3 hle1 hle2 hle3 HG1 HG2; have c0 := (BB.out.at 0 rfl).four.1) | (refine step_loadA wN rfl rfl (BB.out.at 1 rfl) rfl ?_))
          refine (HOF.out _).mono ?_
          rintro r w4 ⟨rfl, hb4⟩
          have q4 := on_below q3 hb4
          have B4 := hide (BB.out.on hb4)
          clear hb4 q3 BB c0 HOF
          go_wp2_with (first | (refine step_alloc zT rfl ?_; intro w5 g5 hg5 hle5 hb5; have HG5 := hide hg5; clear hg5) | (refine step_storeA wT rfl rfl rfl HG5.out rfl (One.c4 h A C (T : Int)) rfl ?_))
          intro w6 hg6 hbut6
          have q6 := new_below q4 hb5 hle5 hbut6
          have B6 := hide (B4.out.new hb5 hle5 hg6 hbut6)
          clear hb5 hle5 hbut6 q4 B4 hg6 HG5
          go_wp2_with (refine step_loadA wT rfl rfl (B6.out.at 1 rfl) rfl ?_)
          refine (HC.out _ _ _).mono ?_
          rintro r w7 ⟨rfl, hb7⟩
          have q7 := on_below q6 hb7
          have B7 := hide (B6.out.on hb7)
          clear hb7 q6 B6 HC
          go_wp2_with fail
          have t0 := Sub.cell (B7.out.at 0 rfl).four.1
          have t1 := Sub.cell (B7.out.at 0 rfl).four.2.1
          have t2 := Sub.cell (B7.out.at 0 rfl).four.2.2.1
          have t3 := Sub.cell (B7.out.at 0 rfl).four.2.2.2
          have u0 := Sub.cell (B7.out.at 1 rfl).four.1
          have u1 := Sub.cell (B7.out.at 1 rfl).four.2.1
          have u2 := Sub.cell (B7.out.at 1 rfl).four.2.2.1
          have u3 := Sub.cell (B7.out.at 1 rfl).four.2.2.2
          have hne := Sub.one w7
          refine wp_region_sub (by kernel_rfl) (by kernel_rfl) ?_
          repeat (go_big_quiet_step (fail))
          go_big_quiet_step ((go_at_call 29; exact sub_call (placeOf_lit h A C (T : Int) _)))
          repeat (go_big_quiet_step (fail))
          go_big_quiet_step ((go_at_call 29; exact sub_call (placeOf_lit h A C (N : Int) _)))
          repeat (go_big_quiet_step (fail))
          refine wpQuiet_nil ?_
          rintro _ ⟨⟨w8, hb8⟩, rfl⟩
          have q8 := on_below q7 hb8
          have B8 := hide (B7.out.on hb8)
          clear hb8 q7 B7 t0 t1 t2 t3 u0 u1 u2 u3 hne
          go_wp2_with fail
          refine (HD.out _ q8).mono ?_
          rintro r w9 ⟨g9, rfl, hd9, hb9⟩
          have HD9 := hide hd9
          have q9 := on_below q8 hb9
          have B9 := hide (B8.out.on hb9)
          clear hd9 hb9 q8 B8 HD
          go_wp2_with fail
          refine (root_any TF _ TF TF ys w9 (Nat.le_refl _) HD9.out (HK.out.below q9 HK.out.lt)).mono ?_
          rintro r wa ⟨rfl, hba⟩
          have qa := on_below q9 hba
          have Ba := hide (B9.out.on hba)
          clear hba q9 B9 HD9
          go_wp2_with (refine step_storeA wD rfl rfl rfl (Ba.out.at 3 rfl) HRL.out (One.u8 _) rfl ?_)
          intro wb hgb hbutb
          go_wp2
          refine bodyPost_ret (results_wide2 rfl wD _ _ rfl hgb HRL.out) rfl ⟨rfl, ?_⟩
          exact qa.trans (hbutb.below l3)
        · refine ⟨zer 32, 40, .inr ⟨hv, hk.1, .inr ⟨hk.2, .inl ⟨rfl, rfl, hin⟩⟩⟩, fun ad cap w hs hkt => ?_⟩
          have hno : ¬ (((L / H : Nat) : Int) = l ∧ ((oX H L I : Nat) : Int) = i ∧ ((oT H L I : Nat) : Int) ≤ n) := fun q => hin (hinT.2 q)
          clear hin hinT hk he HOV hh hv hs hkt h1 hL hx hxb hFT
          generalize ((oF H L I : Nat) : Int) = F at *
          generalize ((oT H L I : Nat) : Int) = D at *
          generalize ((oX H L I : Nat) : Int) = C at *
          generalize ((L / H : Nat) : Int) = A at *
          clear hH
          generalize (H : Int) = h at *
          generalize (L : Int) = a at *
          generalize (I : Int) = b at *
          by_cases z1 : A = l
          · subst z1
            by_cases z2 : C = i
            · subst z2
              have z3 : D > n := by omega
              clear hno
              go_enter Tryd.func12, Tryd.ntmps12
              go_wp2_with (first | (refine step_box (cs := c4 h A C n) rfl rfl ?_; intro w1 g1 hg1 hle1 hb1; have HG1 := hide hg1; clear hg1) | (refine step_box (cs := c2 a b) rfl rfl ?_; intro w2 g2 hg2 hle2 hb2; have HG2 := hide hg2; clear hg2) | (refine step_alloc zD rfl ?_; intro w3 g3 hg3 hle3 hb3; have q3 := on_below (on_below hb1 hb2) hb3; have BB := hide ((((Bs.nil w3).push hg3).push (HG2.out.on hb3)).push ((HG1.out.on hb2).on hb3)); have l3 : w.heap.size ≤ g3 := Nat.le_trans (on_below hb1 hb2).size hle3; clear hg3 hb1 hb2 hb3 hle1 hle2 hle3 HG1 HG2; have c0 := (BB.out.at 0 rfl).four.1) | (refine step_loadA wN rfl rfl (BB.out.at 1 rfl) rfl ?_))
              refine (HOF.out _).mono ?_
              rintro r w4 ⟨rfl, hb4⟩
              have q4 := on_below q3 hb4
              have B4 := hide (BB.out.on hb4)
              clear hb4 q3 BB c0 HOF
              go_wp2_with (first | (refine step_alloc zT rfl ?_; intro w5 g5 hg5 hle5 hb5; have HG5 := hide hg5; clear hg5) | (refine step_storeA wT rfl rfl rfl HG5.out rfl (One.c4 h A C D) rfl ?_))
              intro w6 hg6 hbut6
              have q6 := new_below q4 hb5 hle5 hbut6
              have B6 := hide (B4.out.new hb5 hle5 hg6 hbut6)
              clear hb5 hle5 hbut6 q4 B4 hg6 HG5
              go_wp2_with (refine step_loadA wT rfl rfl (B6.out.at 1 rfl) rfl ?_)
              refine (HC.out _ _ _).mono ?_
              rintro r w7 ⟨rfl, hb7⟩
              have q7 := on_below q6 hb7
              have B7 := hide (B6.out.on hb7)
              clear hb7 q6 B6 HC
              go_wp2_with fail
              have t0 := Sub.cell (B7.out.at 0 rfl).four.1
              have t1 := Sub.cell (B7.out.at 0 rfl).four.2.1
              have t2 := Sub.cell (B7.out.at 0 rfl).four.2.2.1
              have t3 := Sub.cell (B7.out.at 0 rfl).four.2.2.2
              have u0 := Sub.cell (B7.out.at 1 rfl).four.1
              have u1 := Sub.cell (B7.out.at 1 rfl).four.2.1
              have u2 := Sub.cell (B7.out.at 1 rfl).four.2.2.1
              have u3 := Sub.cell (B7.out.at 1 rfl).four.2.2.2
              have hne := Sub.one w7
              refine wp_region_sub (by kernel_rfl) (by kernel_rfl) ?_
              repeat (go_big_quiet_step (fail))
              go_big_quiet_step ((go_at_call 29; exact sub_call (placeOf_lit h A C D _)))
              repeat (go_big_quiet_step (fail))
              go_big_quiet_step ((go_at_call 29; exact sub_call (placeOf_lit h A C n _)))
              repeat (go_big_quiet_step (fail))
              refine wpQuiet_nil ?_
              rintro _ ⟨⟨w8, hb8⟩, rfl⟩
              have q8 := on_below q7 hb8
              have B8 := hide (B7.out.on hb8)
              clear hb8 q7 B7 t0 t1 t2 t3 u0 u1 u2 u3 hne
              go_wp2_with (first | (refine step_buildD rfl ?_) | (refine step_storeA wD rfl rfl rfl (B8.out.at 3 rfl) rfl (One.u8 _) rfl ?_; intro w9 hg9 hbut9))
              refine bodyPost_ret (results_wide2 rfl wD _ _ rfl hg9 rfl) rfl ⟨rfl, ?_⟩
              exact q8.trans (hbut9.below l3)
            · have z2b : (C == i) = false := by simp [z2]
              clear hno
              go_enter Tryd.func12, Tryd.ntmps12
              go_wp2_with (first | (refine step_box (cs := c4 h A i n) rfl rfl ?_; intro w1 g1 hg1 hle1 hb1; have HG1 := hide hg1; clear hg1) | (refine step_box (cs := c2 a b) rfl rfl ?_; intro w2 g2 hg2 hle2 hb2; have HG2 := hide hg2; clear hg2) | (refine step_alloc zD rfl ?_; intro w3 g3 hg3 hle3 hb3; have q3 := on_below (on_below hb1 hb2) hb3; have BB := hide ((((Bs.nil w3).push hg3).push (HG2.out.on hb3)).push ((HG1.out.on hb2).on hb3)); have l3 : w.heap.size ≤ g3 := Nat.le_trans (on_below hb1 hb2).size hle3; clear hg3 hb1 hb2 hb3 hle1 hle2 hle3 HG1 HG2; have c0 := (BB.out.at 0 rfl).four.1) | (refine step_loadA wN rfl rfl (BB.out.at 1 rfl) rfl ?_))
              refine (HOF.out _).mono ?_
              rintro r w4 ⟨rfl, hb4⟩
              have q4 := on_below q3 hb4
              have B4 := hide (BB.out.on hb4)
              clear hb4 q3 BB c0 HOF
              go_wp2_with (first | (refine step_alloc zT rfl ?_; intro w5 g5 hg5 hle5 hb5; have HG5 := hide hg5; clear hg5) | (refine step_storeA wT rfl rfl rfl HG5.out rfl (One.c4 h A C D) rfl ?_))
              intro w6 hg6 hbut6
              have q6 := new_below q4 hb5 hle5 hbut6
              have B6 := hide (B4.out.new hb5 hle5 hg6 hbut6)
              clear hb5 hle5 hbut6 q4 B4 hg6 HG5
              go_wp2_with (refine step_loadA wT rfl rfl (B6.out.at 1 rfl) rfl ?_)
              refine (HC.out _ _ _).mono ?_
              rintro r w7 ⟨rfl, hb7⟩
              have q7 := on_below q6 hb7
              have B7 := hide (B6.out.on hb7)
              clear hb7 q6 B6 HC
              go_wp2_with fail
              have t0 := Sub.cell (B7.out.at 0 rfl).four.1
              have t1 := Sub.cell (B7.out.at 0 rfl).four.2.1
              have t2 := Sub.cell (B7.out.at 0 rfl).four.2.2.1
              have t3 := Sub.cell (B7.out.at 0 rfl).four.2.2.2
              have u0 := Sub.cell (B7.out.at 1 rfl).four.1
              have u1 := Sub.cell (B7.out.at 1 rfl).four.2.1
              have u2 := Sub.cell (B7.out.at 1 rfl).four.2.2.1
              have u3 := Sub.cell (B7.out.at 1 rfl).four.2.2.2
              have hne := Sub.one w7
              refine wp_region_sub (by kernel_rfl) (by kernel_rfl) ?_
              repeat (go_big_quiet_step (fail))
              go_big_quiet_step ((go_at_call 29; exact sub_call (placeOf_lit h A C D _)))
              repeat (go_big_quiet_step (fail))
              go_big_quiet_step ((go_at_call 29; exact sub_call (placeOf_lit h A i n _)))
              repeat (go_big_quiet_step (fail))
              refine wpQuiet_nil ?_
              rintro _ ⟨⟨w8, hb8⟩, rfl⟩
              have q8 := on_below q7 hb8
              have B8 := hide (B7.out.on hb8)
              clear hb8 q7 B7 t0 t1 t2 t3 u0 u1 u2 u3 hne
              go_wp2_with (first | (refine step_buildD rfl ?_) | (refine step_storeA wD rfl rfl rfl (B8.out.at 3 rfl) rfl (One.u8 _) rfl ?_; intro w9 hg9 hbut9))
              refine bodyPost_ret (results_wide2 rfl wD _ _ rfl hg9 rfl) rfl ⟨rfl, ?_⟩
              exact q8.trans (hbut9.below l3)
          · have z1b : (A == l) = false := by simp [z1]
            clear hno
            go_enter Tryd.func12, Tryd.ntmps12
            go_wp2_with (first | (refine step_box (cs := c4 h l i n) rfl rfl ?_; intro w1 g1 hg1 hle1 hb1; have HG1 := hide hg1; clear hg1) | (refine step_box (cs := c2 a b) rfl rfl ?_; intro w2 g2 hg2 hle2 hb2; have HG2 := hide hg2; clear hg2) | (refine step_alloc zD rfl ?_; intro w3 g3 hg3 hle3 hb3; have q3 := on_below (on_below hb1 hb2) hb3; have BB := hide ((((Bs.nil w3).push hg3).push (HG2.out.on hb3)).push ((HG1.out.on hb2).on hb3)); have l3 : w.heap.size ≤ g3 := Nat.le_trans (on_below hb1 hb2).size hle3; clear hg3 hb1 hb2 hb3 hle1 hle2 hle3 HG1 HG2; have c0 := (BB.out.at 0 rfl).four.1) | (refine step_loadA wN rfl rfl (BB.out.at 1 rfl) rfl ?_))
            refine (HOF.out _).mono ?_
            rintro r w4 ⟨rfl, hb4⟩
            have q4 := on_below q3 hb4
            have B4 := hide (BB.out.on hb4)
            clear hb4 q3 BB c0 HOF
            go_wp2_with (first | (refine step_alloc zT rfl ?_; intro w5 g5 hg5 hle5 hb5; have HG5 := hide hg5; clear hg5) | (refine step_storeA wT rfl rfl rfl HG5.out rfl (One.c4 h A C D) rfl ?_))
            intro w6 hg6 hbut6
            have q6 := new_below q4 hb5 hle5 hbut6
            have B6 := hide (B4.out.new hb5 hle5 hg6 hbut6)
            clear hb5 hle5 hbut6 q4 B4 hg6 HG5
            go_wp2_with (refine step_loadA wT rfl rfl (B6.out.at 1 rfl) rfl ?_)
            refine (HC.out _ _ _).mono ?_
            rintro r w7 ⟨rfl, hb7⟩
            have q7 := on_below q6 hb7
            have B7 := hide (B6.out.on hb7)
            clear hb7 q6 B6 HC
            go_wp2_with fail
            have t0 := Sub.cell (B7.out.at 0 rfl).four.1
            have t1 := Sub.cell (B7.out.at 0 rfl).four.2.1
            have t2 := Sub.cell (B7.out.at 0 rfl).four.2.2.1
            have t3 := Sub.cell (B7.out.at 0 rfl).four.2.2.2
            have u0 := Sub.cell (B7.out.at 1 rfl).four.1
            have u1 := Sub.cell (B7.out.at 1 rfl).four.2.1
            have u2 := Sub.cell (B7.out.at 1 rfl).four.2.2.1
            have u3 := Sub.cell (B7.out.at 1 rfl).four.2.2.2
            have hne := Sub.one w7
            refine wp_region_sub (by kernel_rfl) (by kernel_rfl) ?_
            repeat (go_big_quiet_step (fail))
            go_big_quiet_step ((go_at_call 29; exact sub_call (placeOf_lit h A C D _)))
            repeat (go_big_quiet_step (fail))
            go_big_quiet_step ((go_at_call 29; exact sub_call (placeOf_lit h l i n _)))
            repeat (go_big_quiet_step (fail))
            refine wpQuiet_nil ?_
            rintro _ ⟨⟨w8, hb8⟩, rfl⟩
            have q8 := on_below q7 hb8
            have B8 := hide (B7.out.on hb8)
            clear hb8 q7 B7 t0 t1 t2 t3 u0 u1 u2 u3 hne
            go_wp2_with (first | (refine step_buildD rfl ?_) | (refine step_storeA wD rfl rfl rfl (B8.out.at 3 rfl) rfl (One.u8 _) rfl ?_; intro w9 hg9 hbut9))
            refine bodyPost_ret (results_wide2 rfl wD _ _ rfl hg9 rfl) rfl ⟨rfl, ?_⟩
            exact q8.trans (hbut9.below l3)
      · refine ⟨zer 32, e, ?_, fun ad cap w hs hkt => ?_⟩
        · rcases he with ⟨h1, h2⟩ | ⟨hk, ⟨h1, h2⟩ | ⟨h1, _⟩⟩
          · exact .inl ⟨h1, rfl, fun h => h2 h.2⟩
          · exact .inr ⟨hv, hk, .inl ⟨h1, rfl, h2⟩⟩
          · exact absurd h1 h0
        · have h0b : (e == 0) = false := by simp [h0]
          clear hs hkt he hv hh hinT HOV hFT
          generalize (H : Int) = h at *
          generalize (L : Int) = a at *
          generalize (I : Int) = b at *
          generalize ((L / H : Nat) : Int) = A at *
          generalize ((oX H L I : Nat) : Int) = C at *
          generalize ((oT H L I : Nat) : Int) = D at *
          generalize ((oF H L I : Nat) : Int) = F at *
          go_enter Tryd.func12, Tryd.ntmps12
          go_wp2_with (first | (refine step_box (cs := c4 h l i n) rfl rfl ?_; intro w1 g1 hg1 hle1 hb1; have HG1 := hide hg1; clear hg1) | (refine step_box (cs := c2 a b) rfl rfl ?_; intro w2 g2 hg2 hle2 hb2; have HG2 := hide hg2; clear hg2) | (refine step_alloc zD rfl ?_; intro w3 g3 hg3 hle3 hb3; have q3 := on_below (on_below hb1 hb2) hb3; have BB := hide ((((Bs.nil w3).push hg3).push (HG2.out.on hb3)).push ((HG1.out.on hb2).on hb3)); have l3 : w.heap.size ≤ g3 := Nat.le_trans (on_below hb1 hb2).size hle3; clear hg3 hb1 hb2 hb3 hle1 hle2 hle3 HG1 HG2; have c0 := (BB.out.at 0 rfl).four.1) | (refine step_loadA wN rfl rfl (BB.out.at 1 rfl) rfl ?_))
          refine (HOF.out _).mono ?_
          rintro r w4 ⟨rfl, hb4⟩
          have q4 := on_below q3 hb4
          have B4 := hide (BB.out.on hb4)
          clear hb4 q3 BB c0 HOF
          go_wp2_with (first | (refine step_alloc zT rfl ?_; intro w5 g5 hg5 hle5 hb5; have HG5 := hide hg5; clear hg5) | (refine step_storeA wT rfl rfl rfl HG5.out rfl (One.c4 h A C D) rfl ?_))
          intro w6 hg6 hbut6
          have q6 := new_below q4 hb5 hle5 hbut6
          have B6 := hide (B4.out.new hb5 hle5 hg6 hbut6)
          clear hb5 hle5 hbut6 q4 B4 hg6 HG5
          go_wp2_with (refine step_loadA wT rfl rfl (B6.out.at 1 rfl) rfl ?_)
          refine (HC.out _ _ _).mono ?_
          rintro r w7 ⟨rfl, hb7⟩
          have q7 := on_below q6 hb7
          have B7 := hide (B6.out.on hb7)
          clear hb7 q6 B6 HC
          go_wp2_with (first | (refine step_buildD rfl ?_) | (refine step_storeA wD rfl rfl rfl (B7.out.at 3 rfl) rfl (One.u8 _) rfl ?_; intro w8 hg8 hbut8))
          refine bodyPost_ret (results_wide2 rfl wD _ _ rfl hg8 rfl) rfl ⟨rfl, ?_⟩
          exact q7.trans (hbut8.below l3)
    · refine ⟨zer 32, 2, .inl ⟨rfl, rfl, fun ⟨h, _⟩ => hv h⟩, fun ad cap w hs hkt => ?_⟩
      have HOF : Hid (∀ v : World, Calls Tryd.prog 27 #[.int .i64 (H : Int), .agg (c2 a b).toArray] v fun r w' => r = .returned (.tuple #[.agg (c4 0 0 0 0).toArray, .int .i64 0, .int .i64 0, .int .i64 2]) ∧ Below v.heap.size v w') := hide (fun v => of_no2 H a b v hH hv)
      clear hs hkt hh hv
      generalize (H : Int) = h at *
      go_enter Tryd.func12, Tryd.ntmps12
      go_wp2_with (first | (refine step_box (cs := c4 h l i n) rfl rfl ?_; intro w1 g1 hg1 hle1 hb1; have HG1 := hide hg1; clear hg1) | (refine step_box (cs := c2 a b) rfl rfl ?_; intro w2 g2 hg2 hle2 hb2; have HG2 := hide hg2; clear hg2) | (refine step_alloc zD rfl ?_; intro w3 g3 hg3 hle3 hb3; have q3 := on_below (on_below hb1 hb2) hb3; have BB := hide ((((Bs.nil w3).push hg3).push (HG2.out.on hb3)).push ((HG1.out.on hb2).on hb3)); have l3 : w.heap.size ≤ g3 := Nat.le_trans (on_below hb1 hb2).size hle3; clear hg3 hb1 hb2 hb3 hle1 hle2 hle3 HG1 HG2; have c0 := (BB.out.at 0 rfl).four.1) | (refine step_loadA wN rfl rfl (BB.out.at 1 rfl) rfl ?_))
      refine (HOF.out _).mono ?_
      rintro r w4 ⟨rfl, hb4⟩
      have q4 := on_below q3 hb4
      have B4 := hide (BB.out.on hb4)
      clear hb4 q3 BB c0 HOF
      go_wp2_with (first | (refine step_alloc zT rfl ?_; intro w5 g5 hg5 hle5 hb5; have HG5 := hide hg5; clear hg5) | (refine step_storeA wT rfl rfl rfl HG5.out rfl (One.c4 0 0 0 0) rfl ?_))
      intro w6 hg6 hbut6
      have q6 := new_below q4 hb5 hle5 hbut6
      have B6 := hide (B4.out.new hb5 hle5 hg6 hbut6)
      clear hb5 hle5 hbut6 q4 B4 hg6 HG5
      go_wp2_with (first | (refine step_buildD rfl ?_) | (refine step_storeA wD rfl rfl rfl (B6.out.at 3 rfl) rfl (One.u8 _) rfl ?_; intro w8 hg8 hbut8))
      refine bodyPost_ret (results_wide2 rfl wD _ _ rfl hg8 rfl) rfl ⟨rfl, ?_⟩
      exact q6.trans (hbut8.below l3)

end Go.Proofs.YtnlpgkfmjlljdaaDoor

/-
  The document's Digest at a place where there is one.
-/
namespace Go.Proofs.YtnlpgkfmjlljdaaDoor
open Go.RowKit
set_option linter.unusedVariables false

theorem sub_get (xs : List Int) (p i : Nat) (hi : i < 32) : ((xs.drop p).take 32).getD i 0 = xs.getD (p + i) 0 := by
  simp [List.getD, List.getElem?_drop, hi]
theorem elemBy : Tryd.prog.elem 36 = 5 := by kernel_rfl
set_option maxRecDepth 100000 in
theorem b_at (b o n cap i : Nat) (hi : i < n) (v : World) : (Instr.indexAt 36 (.slice (some ⟨b, o, none⟩) n cap) (.int .i64 (i : Int))).run Tryd.prog v = .ok (.pointer (some ⟨b, o + i, none⟩)) v := by
  rw [run_indexAt_slice v _ _ _ _ .i64 i undBs, if_pos ⟨by omega, by omega⟩, elemBy, sizeB]
  simp only [Result.andThen_ok, Int.toNat_natCast]
  rw [Addr.add_lit, Nat.mul_one]
set_option maxRecDepth 100000 in
set_option maxHeartbeats 2000000 in
theorem digAt_any (a : Option Addr) (len cap : Nat) (xs : List Int) (p : Nat) (w : World) (hs : Sl w a len cap xs) (hp : p + 32 ≤ len) :
    Calls Tryd.prog 52 #[.slice a len cap, .int .i64 (p : Int)] w fun r w' => r = .returned (.tuple #[.agg (u8s ((xs.drop p).take 32)).toArray, .int .i64 ((p : Int) + 32), .int .i64 0]) ∧ Below w.heap.size w w' := by
  have hlen := hs.hlen
  have hmx := hs.hreach
  obtain ⟨b, off, rfl, hce⟩ := hs.hcell (by omega)
  have hbl : b < w.heap.size := World.block_lt_of_cell? w _ (hce 0 (by omega))
  obtain ⟨ys, HY⟩ : ∃ ys, Hid ((xs.drop p).take 32 = ys) := ⟨_, hide rfl⟩
  have HX : Hid (ys.length = 32) := hide (by rw [← HY.out, List.length_take, List.length_drop]; omega)
  have HCE : Hid (∀ i, i < 32 → w.cell? ⟨b, off + (p + i), none⟩ = some (.int .u8 (ys.getD i 0))) := hide (fun i hi => by
    rw [← HY.out, sub_get xs p i hi]
    exact hce (p + i) (by omega))
  have hp0 : ¬ (p : Int) < 0 := by omega
  have hp1 : ¬ (len : Int) < (p : Int) := by omega
  have hp2 : wrap64 ((len : Int) - (p : Int)) = (len : Int) - (p : Int) := by unfold wrap64; omega
  have hp3 : ¬ (len : Int) - (p : Int) < 32 := by omega
  have hp4 : wrap64 ((p : Int) + 32) = (p : Int) + 32 := by unfold wrap64; omega
  rw [HY.out]
  clear hs hce hlen
  go_enter Tryd.func52, Tryd.ntmps52
  go_wp2_with (refine step_alloc zD0 rfl ?_)
  intro w1 g1 hg1 hle1 hb1
  go_wp2_with (refine step_alloc zD0 rfl ?_)
  intro w2 g2 hg2 hle2 hb2
  have hb12 : Below w.heap.size w w2 := hb1.trans (hb2.mono hb1.size)
  have G1 := hide (hg1.below hb2 hg1.lt)
  have G2 := hide hg2
  have n12 : g1 ≠ g2 := by have := hg1.lt; omega
  have l2 : w.heap.size ≤ g2 := by have := hb1.size; omega
  have HCE2 : Hid (∀ i, i < 32 → w2.cell? ⟨b, off + (p + i), none⟩ = some (.int .u8 (ys.getD i 0))) := hide (fun i hi => by
    rw [hb12.cell (p := ⟨b, off + (p + i), none⟩) hbl]; exact HCE.out i hi)
  have HB12 := hide hb12
  clear hg1 hg2 hb1 hb2 hb12 HCE hle2
  go_wp2
  go_loopw [8] (fun i wq => ∃ k : Nat, k ≤ 32 ∧ i = .int .i64 k ∧ Blk wq g2 39 (spl (u8s (zer 32)) (u8s (ys.take k)) 0) ∧ But g2 w2 wq) (fun i _ => 32 - (intOf i).toNat)
  case atStart => exact ⟨0, by omega, rfl, G2.out, But.refl _ _⟩
  case round =>
    clear G2
    obtain ⟨k, hk, rfl, hr, hbut⟩ := hrel
    have HR := hide hr
    have HBut := hide hbut
    clear hr hbut
    by_cases hk32 : k < 32
    · obtain ⟨old, hold⟩ := spl_there ys 32 k HX.out hk32
      have hcell : wr.cell? ⟨g2, k, none⟩ = some old := by rw [HR.out.cell]; exact hold
      have hfree : wr.frozen? ⟨g2, k, none⟩ = false := HR.out.free k
      have hsrc : wr.cell? ⟨b, off + (p + k), none⟩ = some (.int .u8 (ys.getD k 0)) := by
        rw [World.cell?_of_block (w := w2) (HBut.out.block b (by omega)), HCE2.out k hk32]
      have hkL : (k : Int) < 32 := by omega
      have hpk : wrap64 ((p : Int) + (k : Int)) = (p : Int) + (k : Int) := by unfold wrap64; omega
      have x2 := index_D g2 k (k : Int) rfl hk32
      have x1 : ∀ v : World, (Instr.indexAt 36 (.slice (some ⟨b, off, none⟩) len cap) (.int .i64 ((p : Int) + (k : Int)))).run Tryd.prog v = .ok (.pointer (some ⟨b, off + (p + k), none⟩)) v := fun v => by
        rw [show (p : Int) + (k : Int) = ((p + k : Nat) : Int) by omega]
        exact b_at b off len cap (p + k) (by omega) v
      have HN := hide (spl_next ys 32 k HX.out hk32)
      clear hold
      go_wp2
      refine ⟨⟨k + 1, by omega, by go_num, ?_, HBut.out.trans (But.setCell _ _ _ _)⟩, ?_⟩
      · have e := HR.out.set k (.int .u8 (ys.getD k 0))
        rw [HN.out] at e
        exact e
      · simp [intOf]; omega
    · obtain rfl : k = 32 := by omega
      have HF := hide HR.out
      rw [List.take_of_length_le (by rw [HX.out]; exact Nat.le_refl _), spl_all ys 32 HX.out] at HF
      have G1q := hide (G1.out.but HBut.out n12)
      go_wp2_with (first | (refine step_loadA wD0 rfl rfl HF.out (by rw [u8s_length]; exact HX.out) ?_) | (refine step_storeA wD0 rfl rfl rfl G1q.out (by rw [u8s_length]; exact HX.out) (One.u8 _) rfl ?_; intro w6 hg6 hbut6))
      refine bodyPost_ret (results_wide3 rfl wD0 _ _ rfl hg6 (by rw [u8s_length]; exact HX.out)) rfl ⟨rfl, ?_⟩
      exact HB12.out.trans ((HBut.out.below l2).trans (hbut6.below hle1))

end Go.Proofs.YtnlpgkfmjlljdaaDoor

/-
  Which tiles may be; a tile's bytes as digests; a node's digest out of them: the document's.
-/
namespace Go.Proofs.YtnlpgkfmjlljdaaDoor
open Go.RowKit
set_option linter.unusedVariables false

theorem below_of_eq {v v' : World} (h : v' = v) : Below v.heap.size v v' := by rw [h]; exact Below.refl _ _
theorem tOK_iff {H L I N P : Nat} (hH : isH H) (hP : 2 ^ H = P) (hN : 1 ≤ N) (hNP : N ≤ P) : tOK (H : Int) (L : Int) (I : Int) (N : Int) ↔ I * P + N ≤ 281474976710656 / 2 ^ (H * L) := by
  constructor
  · rintro ⟨H', L', I', N', e1, e2, e3, e4, _, h1, h2⟩
    obtain rfl : H = H' := by omega
    obtain rfl : L = L' := by omega
    obtain rfl : I = I' := by omega
    obtain rfl : N = N' := by omega
    unfold tW tOv at h2
    rw [hP] at h2
    generalize I * P = X at *
    generalize 281474976710656 / 2 ^ (H * L) = D at *
    omega
  · intro h
    refine ⟨H, L, I, N, rfl, rfl, rfl, rfl, hH, hN, ?_⟩
    unfold tW tOv
    rw [hP]
    generalize I * P = X at *
    generalize 281474976710656 / 2 ^ (H * L) = D at *
    omega
set_option maxRecDepth 100000 in
set_option maxHeartbeats 2000000 in
theorem validTR_any (h l i n : Int) : ∃ q : Bool, (q = true ↔ tOK h l i n) ∧ ∀ w : World,
    Calls Tryd.prog 10 #[.agg (c4 h l i n).toArray] w fun r w' => r = .returned (.bool q) ∧ Below w.heap.size w w' := by
  by_cases hh : h < 1 ∨ 8 < h
  · refine ⟨false, ⟨(fun e => by cases e), fun ⟨H, L, I, N, e1, e2, e3, e4, hH, _⟩ => by have := hH.1; have := hH.2; omega⟩, fun w => ?_⟩
    have HHC : Hid (∀ v : World, Calls Tryd.prog 24 #[.int .i64 h] v fun r w' => r = .returned (.bool false) ∧ Below v.heap.size v w') := hide (fun v => (heightR_no h v hh).mono (fun r v' hv => ⟨hv.1, below_of_eq hv.2⟩))
    clear hh
    go_enter Tryd.func10, Tryd.ntmps10
    go_wp2_with (first | (refine step_box (cs := c4 h l i n) rfl rfl ?_; intro w1 g1 hg1 hle1 hb1; have HG1 := hide hg1; clear hg1))
    have t0 := Sub.cell HG1.out.four.1
    have t1 := Sub.cell HG1.out.four.2.1
    have t2 := Sub.cell HG1.out.four.2.2.1
    have t3 := Sub.cell HG1.out.four.2.2.2
    have hne := Sub.one w1
    refine wp_region_sub (by kernel_rfl) (by kernel_rfl) ?_
    repeat (go_big_quiet_step (fail))
    go_big_quiet_step ((go_at_call 24; exact sub_call (HHC.out _)))
    repeat (go_big_quiet_step (fail))
    refine wpQuiet_nil ?_
    rintro _ ⟨⟨w2, hb2⟩, rfl⟩
    have q2 := on_below hb1 hb2
    have G2 := hide (HG1.out.on hb2)
    clear hb1 hb2 HG1 t0 t1 t2 t3 hne
    go_wp2
    go_ret
    exact ⟨rfl, q2⟩
  obtain ⟨H, hHe⟩ : ∃ H : Nat, h = (H : Int) := ⟨h.toNat, by omega⟩
  have hH : isH H := ⟨by omega, by omega⟩
  obtain ⟨P, hP⟩ : ∃ P, 2 ^ H = P := ⟨_, rfl⟩
  have hp := hH.pow
  rw [hP] at hp
  have HHC : Hid (∀ v : World, Calls Tryd.prog 24 #[.int .i64 h] v fun r w' => r = .returned (.bool true) ∧ Below v.heap.size v w') := hide (fun v => by
    rw [hHe]
    exact (heightR_yes H v hH).mono (fun r v' hv => ⟨hv.1, below_of_eq hv.2⟩))
  have HFC : Hid (∀ v : World, Calls Tryd.prog 20 #[.int .i64 h] v fun r w' => r = .returned (.int .i64 (P : Int)) ∧ Below v.heap.size v w') := hide (fun v => by
    rw [hHe]
    exact (full_any H P v hH hP).mono (fun r v' hv => ⟨hv.1, below_of_eq hv.2⟩))
  have hP2 : (P : Int) ≤ 256 := by omega
  have HHE := hide hHe
  have h1 : 1 ≤ h := by omega
  have h8 : h ≤ 8 := by omega
  clear hh hHe
  by_cases hl : l < 0
  · refine ⟨false, ⟨(fun e => by cases e), fun ⟨H, L, I, N, e1, e2, e3, e4, hH, _⟩ => by omega⟩, fun w => ?_⟩
    clear hp
    have da0 : decide (l < 0) = true := by simp; omega
    go_enter Tryd.func10, Tryd.ntmps10
    go_wp2_with (first | (refine step_box (cs := c4 h l i n) rfl rfl ?_; intro w1 g1 hg1 hle1 hb1; have HG1 := hide hg1; clear hg1))
    have t0 := Sub.cell HG1.out.four.1
    have t1 := Sub.cell HG1.out.four.2.1
    have t2 := Sub.cell HG1.out.four.2.2.1
    have t3 := Sub.cell HG1.out.four.2.2.2
    have hne := Sub.one w1
    refine wp_region_sub (by kernel_rfl) (by kernel_rfl) ?_
    repeat (go_big_quiet_step (fail))
    go_big_quiet_step ((go_at_call 24; exact sub_call (HHC.out _)))
    repeat (go_big_quiet_step (fail))
    refine wpQuiet_nil ?_
    rintro _ ⟨⟨w2, hb2⟩, rfl⟩
    have q2 := on_below hb1 hb2
    have G2 := hide (HG1.out.on hb2)
    clear hb1 hb2 HG1 t0 t1 t2 t3 hne
    go_wp2
    go_ret
    exact ⟨rfl, q2⟩
  have da0 : decide (l < 0) = false := by simp; omega
  by_cases hl2 : l > 48
  · refine ⟨false, ⟨(fun e => by cases e), fun ⟨H, L, I, N, e1, e2, e3, e4, hH, k1, k2⟩ => by have := (tW_bd hH (Nat.le_refl _) (Nat.lt_of_lt_of_le k1 k2)).2.2; omega⟩, fun w => ?_⟩
    clear hp
    have db0 : decide (l > 48) = true := by simp; omega
    have db1 : decide (48 < l) = true := by simp; omega
    go_enter Tryd.func10, Tryd.ntmps10
    go_wp2_with (first | (refine step_box (cs := c4 h l i n) rfl rfl ?_; intro w1 g1 hg1 hle1 hb1; have HG1 := hide hg1; clear hg1))
    have t0 := Sub.cell HG1.out.four.1
    have t1 := Sub.cell HG1.out.four.2.1
    have t2 := Sub.cell HG1.out.four.2.2.1
    have t3 := Sub.cell HG1.out.four.2.2.2
    have hne := Sub.one w1
    refine wp_region_sub (by kernel_rfl) (by kernel_rfl) ?_
    repeat (go_big_quiet_step (fail))
    go_big_quiet_step ((go_at_call 24; exact sub_call (HHC.out _)))
    repeat (go_big_quiet_step (fail))
    refine wpQuiet_nil ?_
    rintro _ ⟨⟨w2, hb2⟩, rfl⟩
    have q2 := on_below hb1 hb2
    have G2 := hide (HG1.out.on hb2)
    clear hb1 hb2 HG1 t0 t1 t2 t3 hne
    go_wp2
    go_ret
    exact ⟨rfl, q2⟩
  have db0 : decide (l > 48) = false := by simp; omega
  have db1 : decide (48 < l) = false := by simp; omega
  by_cases hi : i < 0
  · refine ⟨false, ⟨(fun e => by cases e), fun ⟨H, L, I, N, e1, e2, e3, e4, hH, _⟩ => by omega⟩, fun w => ?_⟩
    clear hp
    have dc0 : decide (i < 0) = true := by simp; omega
    go_enter Tryd.func10, Tryd.ntmps10
    go_wp2_with (first | (refine step_box (cs := c4 h l i n) rfl rfl ?_; intro w1 g1 hg1 hle1 hb1; have HG1 := hide hg1; clear hg1))
    have t0 := Sub.cell HG1.out.four.1
    have t1 := Sub.cell HG1.out.four.2.1
    have t2 := Sub.cell HG1.out.four.2.2.1
    have t3 := Sub.cell HG1.out.four.2.2.2
    have hne := Sub.one w1
    refine wp_region_sub (by kernel_rfl) (by kernel_rfl) ?_
    repeat (go_big_quiet_step (fail))
    go_big_quiet_step ((go_at_call 24; exact sub_call (HHC.out _)))
    repeat (go_big_quiet_step (fail))
    refine wpQuiet_nil ?_
    rintro _ ⟨⟨w2, hb2⟩, rfl⟩
    have q2 := on_below hb1 hb2
    have G2 := hide (HG1.out.on hb2)
    clear hb1 hb2 HG1 t0 t1 t2 t3 hne
    go_wp2
    go_ret
    exact ⟨rfl, q2⟩
  have dc0 : decide (i < 0) = false := by simp; omega
  by_cases hn : n < 1
  · refine ⟨false, ⟨(fun e => by cases e), fun ⟨H, L, I, N, e1, e2, e3, e4, hH, _⟩ => by omega⟩, fun w => ?_⟩
    clear hp
    have dd0 : decide (n < 1) = true := by simp; omega
    go_enter Tryd.func10, Tryd.ntmps10
    go_wp2_with (first | (refine step_box (cs := c4 h l i n) rfl rfl ?_; intro w1 g1 hg1 hle1 hb1; have HG1 := hide hg1; clear hg1))
    have t0 := Sub.cell HG1.out.four.1
    have t1 := Sub.cell HG1.out.four.2.1
    have t2 := Sub.cell HG1.out.four.2.2.1
    have t3 := Sub.cell HG1.out.four.2.2.2
    have hne := Sub.one w1
    refine wp_region_sub (by kernel_rfl) (by kernel_rfl) ?_
    repeat (go_big_quiet_step (fail))
    go_big_quiet_step ((go_at_call 24; exact sub_call (HHC.out _)))
    repeat (go_big_quiet_step (fail))
    refine wpQuiet_nil ?_
    rintro _ ⟨⟨w2, hb2⟩, rfl⟩
    have q2 := on_below hb1 hb2
    have G2 := hide (HG1.out.on hb2)
    clear hb1 hb2 HG1 t0 t1 t2 t3 hne
    go_wp2
    go_ret
    exact ⟨rfl, q2⟩
  have dd0 : decide (n < 1) = false := by simp; omega
  by_cases hn2 : n > (P : Int)
  · refine ⟨false, ⟨(fun e => by cases e), fun ⟨H', L, I, N, e1, e2, e3, e4, hH, k1, k2⟩ => by
      have h3 := tW_le H' L I 281474976710656
      have h4 : H' = H := by have := HHE.out; omega
      rw [h4] at k2 h3
      rw [hP] at h3
      omega⟩, fun w => ?_⟩
    clear hp
    have de0 : decide (n > (P : Int)) = true := by simp; omega
    have de1 : decide ((P : Int) < n) = true := by simp; omega
    go_enter Tryd.func10, Tryd.ntmps10
    go_wp2_with (first | (refine step_box (cs := c4 h l i n) rfl rfl ?_; intro w1 g1 hg1 hle1 hb1; have HG1 := hide hg1; clear hg1))
    have t0 := Sub.cell HG1.out.four.1
    have t1 := Sub.cell HG1.out.four.2.1
    have t2 := Sub.cell HG1.out.four.2.2.1
    have t3 := Sub.cell HG1.out.four.2.2.2
    have hne := Sub.one w1
    refine wp_region_sub (by kernel_rfl) (by kernel_rfl) ?_
    repeat (go_big_quiet_step (fail))
    go_big_quiet_step ((go_at_call 24; exact sub_call (HHC.out _)))
    repeat (go_big_quiet_step (fail))
    go_big_quiet_step ((go_at_call 20; exact sub_call (HFC.out _)))
    repeat (go_big_quiet_step (fail))
    refine wpQuiet_nil ?_
    rintro _ ⟨⟨w2, hb2⟩, rfl⟩
    have q2 := on_below hb1 hb2
    have G2 := hide (HG1.out.on hb2)
    clear hb1 hb2 HG1 t0 t1 t2 t3 hne
    obtain ⟨c0, c1, c2, c3⟩ := G2.out.four
    go_wp2
    go_ret
    exact ⟨rfl, q2⟩
  have de0 : decide (n > (P : Int)) = false := by simp; omega
  have de1 : decide ((P : Int) < n) = false := by simp; omega
  obtain ⟨L, hLe⟩ : ∃ H : Nat, l = (H : Int) := ⟨l.toNat, by omega⟩
  obtain ⟨I, hIe⟩ : ∃ H : Nat, i = (H : Int) := ⟨i.toNat, by omega⟩
  obtain ⟨N, hNe⟩ : ∃ H : Nat, n = (H : Int) := ⟨n.toNat, by omega⟩
  have hiff : tOK h l i n ↔ I * P + N ≤ 281474976710656 / 2 ^ (H * L) := by rw [HHE.out, hLe, hIe, hNe]; exact tOK_iff hH hP (by omega) (by omega)
  have HIF := hide hiff
  have hM : l * h = ((H * L : Nat) : Int) := by rw [HHE.out, hLe, Int.natCast_mul, Int.mul_comm]
  have hMb : H * L ≤ 384 := by
    have := Nat.mul_le_mul hH.2 (show L ≤ 48 by omega)
    omega
  obtain ⟨M, HM⟩ : ∃ M, Hid (H * L = M) := ⟨_, hide rfl⟩
  rw [HM.out] at hM hMb HIF
  clear hiff hp
  have HIE := hide hIe
  have HNE := hide hNe
  have HPP := hide hP
  have hN1 : 1 ≤ N := by omega
  have hNP : N ≤ P := by omega
  have hP0 : 0 < P := by have := hH.pow.1; rw [hP] at this; omega
  clear hLe hIe hNe hP
  by_cases hM2 : (M : Int) > 48
  · refine ⟨false, ⟨(fun e => by cases e), fun e => by
      have h3 := HIF.out.1 e
      have h4 := tOv_high (h := H) (l := L) (n := 281474976710656) (Nat.le_refl _) (by rw [HM.out]; omega)
      unfold tOv at h4
      rw [HM.out] at h4
      rw [h4] at h3
      omega⟩, fun w => ?_⟩
    go_enter Tryd.func10, Tryd.ntmps10
    go_wp2_with (first | (refine step_box (cs := c4 h l i n) rfl rfl ?_; intro w1 g1 hg1 hle1 hb1; have HG1 := hide hg1; clear hg1))
    have t0 := Sub.cell HG1.out.four.1
    have t1 := Sub.cell HG1.out.four.2.1
    have t2 := Sub.cell HG1.out.four.2.2.1
    have t3 := Sub.cell HG1.out.four.2.2.2
    have hne := Sub.one w1
    refine wp_region_sub (by kernel_rfl) (by kernel_rfl) ?_
    repeat (go_big_quiet_step (fail))
    go_big_quiet_step ((go_at_call 24; exact sub_call (HHC.out _)))
    repeat (go_big_quiet_step (fail))
    go_big_quiet_step ((go_at_call 20; exact sub_call (HFC.out _)))
    repeat (go_big_quiet_step (fail))
    refine wpQuiet_nil ?_
    rintro _ ⟨⟨w2, hb2⟩, rfl⟩
    have q2 := on_below hb1 hb2
    have G2 := hide (HG1.out.on hb2)
    clear hb1 hb2 HG1 t0 t1 t2 t3 hne
    obtain ⟨c0, c1, c2, c3⟩ := G2.out.four
    go_wp2
    go_ret
    exact ⟨rfl, q2⟩
  have hM3 : M ≤ 48 := by omega
  have hHt : h.toNat = H := by rw [HHE.out]; rfl
  have hshr : (281474976710656 : Int) / 2 ^ h.toNat = ((281474976710656 / P : Nat) : Int) := by
    have := pow_int 281474976710656 H
    rw [HPP.out] at this
    rw [hHt]
    exact this
  have hQb : 281474976710656 / P ≤ 281474976710656 := Nat.div_le_self _ _
  obtain ⟨QP, HQP⟩ : ∃ q, Hid (281474976710656 / P = q) := ⟨_, hide rfl⟩
  rw [HQP.out] at hshr hQb
  by_cases hix : i > (QP : Int)
  · refine ⟨false, ⟨(fun e => by cases e), fun e => by
      have h3 := HIF.out.1 e
      have h4 : I * P ≤ 281474976710656 := by
        have := Nat.div_le_self 281474976710656 (2 ^ M)
        omega
      have h5 := (Nat.le_div_iff_mul_le hP0).2 h4
      rw [HQP.out] at h5
      have := HIE.out
      omega⟩, fun w => ?_⟩
    have hix2 : (QP : Int) < i := hix
    clear hHt
    go_enter Tryd.func10, Tryd.ntmps10
    go_wp2_with (first | (refine step_box (cs := c4 h l i n) rfl rfl ?_; intro w1 g1 hg1 hle1 hb1; have HG1 := hide hg1; clear hg1))
    have t0 := Sub.cell HG1.out.four.1
    have t1 := Sub.cell HG1.out.four.2.1
    have t2 := Sub.cell HG1.out.four.2.2.1
    have t3 := Sub.cell HG1.out.four.2.2.2
    have hne := Sub.one w1
    refine wp_region_sub (by kernel_rfl) (by kernel_rfl) ?_
    repeat (go_big_quiet_step (fail))
    go_big_quiet_step ((go_at_call 24; exact sub_call (HHC.out _)))
    repeat (go_big_quiet_step (fail))
    go_big_quiet_step ((go_at_call 20; exact sub_call (HFC.out _)))
    repeat (go_big_quiet_step (fail))
    refine wpQuiet_nil ?_
    rintro _ ⟨⟨w2, hb2⟩, rfl⟩
    have q2 := on_below hb1 hb2
    have G2 := hide (HG1.out.on hb2)
    clear hb1 hb2 HG1 t0 t1 t2 t3 hne
    obtain ⟨c0, c1, c2, c3⟩ := G2.out.four
    go_wp2
    go_ret
    exact ⟨rfl, q2⟩
  · have hX : i * 2 ^ h.toNat = ((I * P : Nat) : Int) := by rw [hHt, HIE.out, ← HPP.out, Int.natCast_mul, Int.natCast_pow]; rfl
    have hXb : I * P ≤ 281474976710656 := by
      have h5 : I ≤ 281474976710656 / P := by rw [HQP.out]; have := HIE.out; omega
      exact (Nat.le_div_iff_mul_le hP0).1 h5
    obtain ⟨X, HX⟩ : ∃ x, Hid (I * P = x) := ⟨_, hide rfl⟩
    rw [HX.out] at hX hXb HIF
    obtain ⟨J1, HJ1⟩ : ∃ x, Hid (X + N = x) := ⟨_, hide rfl⟩
    obtain ⟨J, HJ⟩ : ∃ x, Hid (X + N - 1 = x) := ⟨_, hide rfl⟩
    have k1 : (X : Int) + n = (J1 : Int) := by rw [← HJ1.out, HNE.out]; omega
    have k2 : (J1 : Int) - 1 = (J : Int) := by rw [← HJ1.out, ← HJ.out]; omega
    have k3 : J1 ≤ 281474976710912 := by rw [← HJ1.out]; omega
    have hix2 : ¬ (QP : Int) < i := hix
    have hib : i ≤ 281474976710656 := by omega
    have hD : (281474976710656 : Int) / 2 ^ M = ((281474976710656 / 2 ^ M : Nat) : Int) := pow_int 281474976710656 M
    clear hHt
    by_cases hv : X + N ≤ 281474976710656 / 2 ^ M
    · refine ⟨true, ⟨fun _ => HIF.out.2 hv, fun _ => rfl⟩, fun w => ?_⟩
      have HVC := hide (fun v => validR_yes M J v (by omega) (by rw [hD, ← HJ.out]; omega))
      clear hD hv
      go_enter Tryd.func10, Tryd.ntmps10
      go_wp2_with (first | (refine step_box (cs := c4 h l i n) rfl rfl ?_; intro w1 g1 hg1 hle1 hb1; have HG1 := hide hg1; clear hg1))
      have t0 := Sub.cell HG1.out.four.1
      have t1 := Sub.cell HG1.out.four.2.1
      have t2 := Sub.cell HG1.out.four.2.2.1
      have t3 := Sub.cell HG1.out.four.2.2.2
      have hne := Sub.one w1
      refine wp_region_sub (by kernel_rfl) (by kernel_rfl) ?_
      repeat (go_big_quiet_step (fail))
      go_big_quiet_step ((go_at_call 24; exact sub_call (HHC.out _)))
      repeat (go_big_quiet_step (fail))
      go_big_quiet_step ((go_at_call 20; exact sub_call (HFC.out _)))
      repeat (go_big_quiet_step (fail))
      refine wpQuiet_nil ?_
      rintro _ ⟨⟨w2, hb2⟩, rfl⟩
      have q2 := on_below hb1 hb2
      have G2 := hide (HG1.out.on hb2)
      clear hb1 hb2 HG1 t0 t1 t2 t3 hne
      obtain ⟨c0, c1, c2, c3⟩ := G2.out.four
      go_wp2_with (go_at_call 26; refine (HVC.out _).mono ?_; rintro r w3 ⟨rfl, hb3⟩; have q3 := on_below q2 hb3)
      go_ret
      exact ⟨rfl, q3⟩
    · refine ⟨false, ⟨(fun e => by cases e), fun e => absurd (HIF.out.1 e) hv⟩, fun w => ?_⟩
      have HVC := hide (fun v => validR_no (M : Int) (J : Int) v (fun hV => by
        obtain ⟨_, _, _, h4⟩ := hV
        rw [Int.toNat_natCast, hD, ← HJ.out] at h4
        omega))
      clear hD hv
      go_enter Tryd.func10, Tryd.ntmps10
      go_wp2_with (first | (refine step_box (cs := c4 h l i n) rfl rfl ?_; intro w1 g1 hg1 hle1 hb1; have HG1 := hide hg1; clear hg1))
      have t0 := Sub.cell HG1.out.four.1
      have t1 := Sub.cell HG1.out.four.2.1
      have t2 := Sub.cell HG1.out.four.2.2.1
      have t3 := Sub.cell HG1.out.four.2.2.2
      have hne := Sub.one w1
      refine wp_region_sub (by kernel_rfl) (by kernel_rfl) ?_
      repeat (go_big_quiet_step (fail))
      go_big_quiet_step ((go_at_call 24; exact sub_call (HHC.out _)))
      repeat (go_big_quiet_step (fail))
      go_big_quiet_step ((go_at_call 20; exact sub_call (HFC.out _)))
      repeat (go_big_quiet_step (fail))
      refine wpQuiet_nil ?_
      rintro _ ⟨⟨w2, hb2⟩, rfl⟩
      have q2 := on_below hb1 hb2
      have G2 := hide (HG1.out.on hb2)
      clear hb1 hb2 HG1 t0 t1 t2 t3 hne
      obtain ⟨c0, c1, c2, c3⟩ := G2.out.four
      go_wp2_with (go_at_call 26; refine (HVC.out _).mono ?_; rintro r w3 ⟨rfl, hb3⟩; have q3 := on_below q2 hb3)
      go_ret
      exact ⟨rfl, q3⟩

end Go.Proofs.YtnlpgkfmjlljdaaDoor

/-
  A tile's path as the document tells it.
-/
namespace Go.Proofs.YtnlpgkfmjlljdaaDoor
open Go.RowKit
set_option linter.unusedVariables false
set_option linter.unusedSimpArgs false

theorem digR (n : Nat) (w : World) (h : n < 9223372036854775808) : Calls Tryd.prog 18 #[.int .i64 (n : Int)] w fun r w' => r = .returned (.string (bA (Lib.decDigits n))) ∧ Below w.heap.size w w' :=
  (digits_any n n w (Nat.le_refl _) h).mono fun r w' ⟨e, hw⟩ => ⟨e, by rw [hw]; exact Below.refl _ _⟩
set_option maxRecDepth 100000 in
theorem pathR_no (h l i n : Int) (w : World) (k : ¬ tOK h l i n) : Calls Tryd.prog 6 #[.agg #[.int .i64 h, .int .i64 l, .int .i64 i, .int .i64 n]] w fun r w' => r = .returned (.tuple #[.string (bA []), .int .i64 2]) ∧ Below w.heap.size w w' := by
  obtain ⟨q, hq, hc⟩ := validTR_any h l i n
  obtain rfl : q = false := by
    cases q with
    | false => rfl
    | true => exact absurd (hq.1 rfl) k
  have HVd := hide hc
  clear hc hq k
  go_enter Tryd.func6, Tryd.ntmps6
  go_wp2_with (first | (refine step_box (cs := c4 h l i n) rfl rfl ?_; intro w1 g1 hg1 hle1 hb1; have HG1 := hide hg1; have HB1 := hide hb1; clear hg1 hb1 hle1) | (refine step_loadA wT rfl rfl HG1.out rfl ?_))
  refine (HVd.out _).mono ?_
  rintro r w2 ⟨rfl, hb2⟩
  have HG2 := hide (HG1.out.on hb2)
  have HB2 := hide (on_below HB1.out hb2)
  clear HG1 HB1 hb2 HVd
  go_wp2
  go_ret2
  exact ⟨rfl, HB2.out⟩
set_option maxRecDepth 100000 in
set_option maxHeartbeats 1000000 in
theorem pathR_ok (h l i n : Nat) (w : World) (hh : isH h) (hl : l ≤ 48) (hi : i < 281474976710656) (hn1 : 1 ≤ n) (hn : n ≤ 2 ^ h) (k : tOK (h : Int) (l : Int) (i : Int) (n : Int)) :
    Calls Tryd.prog 6 #[.agg #[.int .i64 (h : Int), .int .i64 (l : Int), .int .i64 (i : Int), .int .i64 (n : Int)]] w fun r w' => r = .returned (.tuple #[.string (bA (pU h l i n)), .int .i64 0]) ∧ Below w.heap.size w w' := by
  obtain ⟨q, hq, hc⟩ := validTR_any (h : Int) (l : Int) (i : Int) (n : Int)
  obtain rfl : q = true := hq.2 k
  have HVd := hide hc
  have hp := hh.pow
  have h8 := hh.2
  have LH := hide (dec_len h (by omega))
  have LL := hide (dec_len l (by omega))
  have LN := hide (dec_len n (by omega))
  have LI := hide (ixP_len i)
  have HIh := hide (fun v => digR h v (by omega))
  have HIl := hide (fun v => digR l v (by omega))
  have HIn := hide (fun v => digR n v (by omega))
  have HIx := hide (fun v => indexR_any i v (by omega))
  have HPU : Hid (pU h l i n = if n < 2 ^ h then ((((tileB ++ Lib.decDigits h) ++ [47]) ++ Lib.decDigits l) ++ [47]) ++ ixP i ++ markB ++ Lib.decDigits n else ((((tileB ++ Lib.decDigits h) ++ [47]) ++ Lib.decDigits l) ++ [47]) ++ ixP i) := hide (by
    unfold pU nmU
    split <;> simp only [List.append_assoc])
  obtain ⟨P, hP⟩ : ∃ P, 2 ^ h = P := ⟨_, rfl⟩
  obtain ⟨p1, p2, p3, p4⟩ := pow_w hP hh
  have HPW := hide p1
  have HPI := hide p2
  rw [hP] at HPU hn hp
  generalize pU h l i n = PU at *
  generalize Lib.decDigits h = dh at *
  generalize Lib.decDigits l = dl at *
  generalize Lib.decDigits n = dn at *
  generalize ixP i = di at *
  have HFU := hide (fun v => full_any h P v hh hP)
  clear hc hq k p1 p2 hP hh
  go_enter Tryd.func6, Tryd.ntmps6
  go_wp2_with (first | (refine step_box (cs := c4 (h : Int) (l : Int) (i : Int) (n : Int)) rfl rfl ?_; intro w1 g1 hg1 hle1 hb1; have HG1 := hide hg1; have HB1 := hide hb1; clear hg1 hb1 hle1) | (refine step_loadA wT rfl rfl HG1.out rfl ?_))
  refine (HVd.out _).mono ?_
  rintro r w2 ⟨rfl, hb2⟩
  have HG2 := hide (HG1.out.on hb2)
  have HB2 := hide (on_below HB1.out hb2)
  clear HG1 HB1 hb2 HVd
  have Y0 := hide ((Below.refl w2.heap.size w2).drew)
  have A0 : Hid (∀ v : World, Below w2.heap.size w2 v → v.cell? ⟨g1, 0, none⟩ = some (.int .i64 (h : Int))) := hide (fun v hv => (HG2.out.on hv).four.1)
  have A1 : Hid (∀ v : World, Below w2.heap.size w2 v → v.cell? ⟨g1, 1, none⟩ = some (.int .i64 (l : Int))) := hide (fun v hv => (HG2.out.on hv).four.2.1)
  have A2 : Hid (∀ v : World, Below w2.heap.size w2 v → v.cell? ⟨g1, 2, none⟩ = some (.int .i64 (i : Int))) := hide (fun v hv => (HG2.out.on hv).four.2.2.1)
  obtain ⟨s1, hs1⟩ : ∃ s, tileB ++ dh = s := ⟨_, rfl⟩
  obtain ⟨s2, hs2⟩ : ∃ s, s1 ++ [47] = s := ⟨_, rfl⟩
  obtain ⟨s3, hs3⟩ : ∃ s, s2 ++ dl = s := ⟨_, rfl⟩
  obtain ⟨s4, hs4⟩ : ∃ s, s3 ++ [47] = s := ⟨_, rfl⟩
  obtain ⟨s5, hs5⟩ : ∃ s, s4 ++ di = s := ⟨_, rfl⟩
  obtain ⟨s6, hs6⟩ : ∃ s, s5 ++ markB = s := ⟨_, rfl⟩
  obtain ⟨s7, hs7⟩ : ∃ s, s6 ++ dn = s := ⟨_, rfl⟩
  have y1 : s1.length ≤ 25 := by rw [← hs1, List.length_append]; have := LH.out; simp [tileB]; omega
  have y2 : s2.length ≤ 26 := by rw [← hs2, List.length_append]; simp; omega
  have y3 : s3.length ≤ 46 := by rw [← hs3, List.length_append]; have := LL.out; omega
  have y4 : s4.length ≤ 47 := by rw [← hs4, List.length_append]; simp; omega
  have y5 : s5.length ≤ 75 := by rw [← hs5, List.length_append]; have := LI.out; omega
  have y6 : s6.length ≤ 78 := by rw [← hs6, List.length_append]; simp [markB]; omega
  have Z1 : Hid (tileB ++ dh = s1 ∧ tileB.length + dh.length ≤ 9000) := hide ⟨hs1, by have := LH.out; simp [tileB]; omega⟩
  have Z2 : Hid (s1 ++ [47] = s2 ∧ s1.length + ([47] : List UInt8).length ≤ 9000) := hide ⟨hs2, by simp; omega⟩
  have Z3 : Hid (s2 ++ dl = s3 ∧ s2.length + dl.length ≤ 9000) := hide ⟨hs3, by have := LL.out; omega⟩
  have Z4 : Hid (s3 ++ [47] = s4 ∧ s3.length + ([47] : List UInt8).length ≤ 9000) := hide ⟨hs4, by simp; omega⟩
  have Z5 : Hid (s4 ++ di = s5 ∧ s4.length + di.length ≤ 9000) := hide ⟨hs5, by have := LI.out; omega⟩
  have Z6 : Hid (s5 ++ markB = s6 ∧ s5.length + markB.length ≤ 9000) := hide ⟨hs6, by simp [markB]; omega⟩
  have Z7 : Hid (s6 ++ dn = s7 ∧ s6.length + dn.length ≤ 9000) := hide ⟨hs7, by have := LN.out; omega⟩
  rw [hs1, hs2, hs3, hs4, hs5, hs6, hs7] at HPU
  clear hs1 hs2 hs3 hs4 hs5 hs6 hs7 y1 y2 y3 y4 y5 y6
  go_wp2_with fail
  refine joinP (fun W => Hid (Below w2.heap.size w2 W)) ?act ?tail (fun hjoin => ?_)
  rotate_left
  rotate_left
  · refine wp_region_noPanic ?_
    refine wp_region_held_drew (S := fun v : World => Below w2.heap.size w2 v) (by kernel_rfl) Y0.out (fun hHeld => ?_)
    refine takeH 0 8 (.pointer (some ⟨g1, 0, none⟩)) hHeld rfl rfl (by kernel_rfl) (by kernel_rfl) (by kernel_rfl) (fun _ _ _ h => h) (Or.inl ⟨by rfl, fun w _ => by go_simp⟩) ?_
    simp only [Act.put, List.setIfInBounds_toArray, List.set_cons_zero, List.set_cons_succ]
    refine takeH 1 9 (.int .i64 (h : Int)) hHeld rfl rfl (by kernel_rfl) (by kernel_rfl) (by kernel_rfl) (fun _ _ _ h => h) (Or.inl ⟨by rfl, fun w hw => by have hw' : w.cell? ⟨g1, 0, none⟩ = some (.int .i64 (h : Int)) := A0.out _ hw; go_simp⟩) ?_
    simp only [Act.put, List.setIfInBounds_toArray, List.set_cons_zero, List.set_cons_succ]
    refine takeH 5 13 (.pointer (some ⟨g1, 1, none⟩)) hHeld rfl rfl (by kernel_rfl) (by kernel_rfl) (by kernel_rfl) (fun _ _ _ h => h) (Or.inl ⟨by rfl, fun w _ => by go_simp⟩) ?_
    simp only [Act.put, List.setIfInBounds_toArray, List.set_cons_zero, List.set_cons_succ]
    refine takeH 6 14 (.int .i64 (l : Int)) hHeld rfl rfl (by kernel_rfl) (by kernel_rfl) (by kernel_rfl) (fun _ _ _ h => h) (Or.inl ⟨by rfl, fun w hw => by have hw' : w.cell? ⟨g1, 1, none⟩ = some (.int .i64 (l : Int)) := A1.out _ hw; go_simp⟩) ?_
    simp only [Act.put, List.setIfInBounds_toArray, List.set_cons_zero, List.set_cons_succ]
    refine takeH 10 18 (.pointer (some ⟨g1, 2, none⟩)) hHeld rfl rfl (by kernel_rfl) (by kernel_rfl) (by kernel_rfl) (fun _ _ _ h => h) (Or.inl ⟨by rfl, fun w _ => by go_simp⟩) ?_
    simp only [Act.put, List.setIfInBounds_toArray, List.set_cons_zero, List.set_cons_succ]
    refine takeH 11 19 (.int .i64 (i : Int)) hHeld rfl rfl (by kernel_rfl) (by kernel_rfl) (by kernel_rfl) (fun _ _ _ h => h) (Or.inl ⟨by rfl, fun w hw => by have hw' : w.cell? ⟨g1, 2, none⟩ = some (.int .i64 (i : Int)) := A2.out _ hw; go_simp⟩) ?_
    simp only [Act.put, List.setIfInBounds_toArray, List.set_cons_zero, List.set_cons_succ]
    refine wpAnyH_ready (rs := [2]) (by kernel_rfl) (by simp) (AllReadyH.cons rfl (fun K hK => ?_) AllReadyH.nil)
    rw [if_pos (by rfl)]
    go_simp
    refine (HIh.out _).mono ?_
    rintro r va ⟨rfl, hva⟩
    have Y1 := hide (on_below Y0.out hva)
    refine hK.out _ _ Y1.out (fun hHeld => ?_)
    clear hK K
    try simp only [Act.put, List.setIfInBounds_toArray, List.set_cons_zero, List.set_cons_succ]
    refine takeH 3 11 (.string (bA s1)) hHeld rfl rfl (by kernel_rfl) (by kernel_rfl) (by kernel_rfl) (fun _ _ _ h => h) (Or.inl ⟨by rfl, fun w _ => runS (p := tileB) (q := dh) rfl rfl Z1.out⟩) ?_
    simp only [Act.put, List.setIfInBounds_toArray, List.set_cons_zero, List.set_cons_succ]
    refine takeH 4 12 (.string (bA s2)) hHeld rfl rfl (by kernel_rfl) (by kernel_rfl) (by kernel_rfl) (fun _ _ _ h => h) (Or.inl ⟨by rfl, fun w _ => runS (p := s1) (q := [47]) rfl rfl Z2.out⟩) ?_
    simp only [Act.put, List.setIfInBounds_toArray, List.set_cons_zero, List.set_cons_succ]
    refine wpAnyH_ready (rs := [7]) (by kernel_rfl) (by simp) (AllReadyH.cons rfl (fun K hK => ?_) AllReadyH.nil)
    rw [if_pos (by rfl)]
    go_simp
    refine (HIl.out _).mono ?_
    rintro r vb ⟨rfl, hvb⟩
    have Y2 := hide (on_below Y1.out hvb)
    refine hK.out _ _ Y2.out (fun hHeld => ?_)
    clear hK K
    try simp only [Act.put, List.setIfInBounds_toArray, List.set_cons_zero, List.set_cons_succ]
    refine takeH 8 16 (.string (bA s3)) hHeld rfl rfl (by kernel_rfl) (by kernel_rfl) (by kernel_rfl) (fun _ _ _ h => h) (Or.inl ⟨by rfl, fun w _ => runS (p := s2) (q := dl) rfl rfl Z3.out⟩) ?_
    simp only [Act.put, List.setIfInBounds_toArray, List.set_cons_zero, List.set_cons_succ]
    refine takeH 9 17 (.string (bA s4)) hHeld rfl rfl (by kernel_rfl) (by kernel_rfl) (by kernel_rfl) (fun _ _ _ h => h) (Or.inl ⟨by rfl, fun w _ => runS (p := s3) (q := [47]) rfl rfl Z4.out⟩) ?_
    simp only [Act.put, List.setIfInBounds_toArray, List.set_cons_zero, List.set_cons_succ]
    refine wpAnyH_ready (rs := [12]) (by kernel_rfl) (by simp) (AllReadyH.cons rfl (fun K hK => ?_) AllReadyH.nil)
    rw [if_pos (by rfl)]
    go_simp
    refine (HIx.out _).mono ?_
    rintro r vc ⟨rfl, hvc⟩
    have Y3 := hide (on_below Y2.out hvc)
    refine hK.out _ _ Y3.out (fun hHeld => ?_)
    clear hK K
    try simp only [Act.put, List.setIfInBounds_toArray, List.set_cons_zero, List.set_cons_succ]
    refine takeH 13 21 (.string (bA s5)) hHeld rfl rfl (by kernel_rfl) (by kernel_rfl) (by kernel_rfl) (fun _ _ _ h => h) (Or.inl ⟨by rfl, fun w _ => runS (p := s4) (q := di) rfl rfl Z5.out⟩) ?_
    simp only [Act.put, List.setIfInBounds_toArray, List.set_cons_zero, List.set_cons_succ]
    refine takeH 14 4 (.string (bA s5)) hHeld rfl rfl (by kernel_rfl) (by kernel_rfl) (by kernel_rfl) (fun _ _ _ h => h) (Or.inl ⟨by rfl, fun w _ => by go_simp⟩) ?_
    simp only [Act.put, List.setIfInBounds_toArray, List.set_cons_zero, List.set_cons_succ]
    refine wpAnyH_done (by kernel_rfl) ?_ _
    refine NoPanic.normal ?_
    exact hjoin vc Y3
  · rintro W Y3
    have GW := hide (HG2.out.on Y3.out)
    have BW := hide (on_below HB2.out Y3.out)
    obtain ⟨c0, c1, c2, c3⟩ := GW.out.four
    clear A0 A1 A2 Y0 Y3 HG2 HB2 HIh HIl HIx Z1 Z2 Z3 Z4 Z5
    have e2 := HPI.out
    have e1 := HPW.out
    by_cases hlt : n < P
    · have hlt' : (n : Int) < (P : Int) := by omega
      have E : PU = s7 := by rw [HPU.out, if_pos hlt]
      subst E
      go_wp2_with fail
      go_quiet (first | (go_at_call 20; exact Calls.quiet_of_same (HFU.out _)))
      clear e1 e2
      go_wp2_with (refine step_addR (p := s5) (q := markB) rfl rfl rfl Z6.out ?_)
      refine (HIn.out _).mono ?_
      rintro r wn ⟨rfl, hbn⟩
      have BN := hide (on_below (below_drews BW.out nq) hbn)
      clear hbn
      go_wp2_with (refine step_addR (p := s6) (q := dn) rfl rfl rfl Z7.out ?_)
      go_ret2
      exact ⟨rfl, BN.out⟩
    · have hlt' : ¬ (n : Int) < (P : Int) := by omega
      have E : PU = s5 := by rw [HPU.out, if_neg hlt]
      subst E
      go_wp2_with fail
      go_quiet (first | (go_at_call 20; exact Calls.quiet_of_same (HFU.out _)))
      clear e1 e2
      go_wp2
      go_ret2
      exact ⟨rfl, below_drews BW.out _⟩
/-- What the document's Path tells of any tile. -/
theorem pathR_any (h l i n : Int) : ∃ (p : List UInt8) (e : Int), ((e = 0 ∧ tOK h l i n ∧ p = pathI h l i n) ∨ (e = 2 ∧ ¬ tOK h l i n ∧ p = [])) ∧
    ∀ w : World, Calls Tryd.prog 6 #[.agg (c4 h l i n).toArray] w fun r w' => r = .returned (.tuple #[.string (bA p), .int .i64 e]) ∧ Below w.heap.size w w' := by
  by_cases k : tOK h l i n
  · obtain ⟨H, L, I, N, rfl, rfl, rfl, rfl, hH, h1, h2, h3, h4⟩ := k.nats
    refine ⟨_, 0, .inl ⟨rfl, k, rfl⟩, fun w => ?_⟩
    have := pathR_ok H L I N w hH h1 h2 h3 h4 k
    unfold pathI
    simp only [Int.toNat_natCast]
    exact this
  · exact ⟨_, 2, .inr ⟨rfl, k, rfl⟩, fun w => pathR_no h l i n w k⟩
end Go.Proofs.YtnlpgkfmjlljdaaDoor

/-
  A text between the bytes 47: as a list, and as the document's pieces makes it.
-/
namespace Go.Proofs.YtnlpgkfmjlljdaaDoor
open Go.RowKit
set_option linter.unusedVariables false
set_option linter.unusedSimpArgs false

def cons1 (b : UInt8) : List (List UInt8) → List (List UInt8)
  | [] => [[b]]
  | h :: t => (b :: h) :: t
def splitS : List UInt8 → List (List UInt8)
  | [] => [[]]
  | b :: l => if b = 47 then [] :: splitS l else cons1 b (splitS l)
theorem splitS_ne : ∀ l : List UInt8, splitS l ≠ []
  | [] => by simp [splitS]
  | b :: l => by
    unfold splitS
    split
    · simp
    · cases splitS l <;> simp [cons1]
theorem splitS_app : ∀ {A : List UInt8} (B : List UInt8), (∀ b ∈ A, b ≠ 47) → splitS (A ++ 47 :: B) = A :: splitS B
  | [], B, _ => by rw [List.nil_append]; conv => lhs; unfold splitS
                   rw [if_pos rfl]
  | a :: A, B, h => by
    rw [List.cons_append]
    conv => lhs; unfold splitS
    rw [if_neg (h a (by simp)), splitS_app B (fun b hb => h b (by simp [hb]))]
    rfl
theorem splitS_no : ∀ {A : List UInt8}, (∀ b ∈ A, b ≠ 47) → splitS A = [A]
  | [], _ => rfl
  | a :: A, h => by
    conv => lhs; unfold splitS
    rw [if_neg (h a (by simp)), splitS_no (fun b hb => h b (by simp [hb]))]
    rfl
theorem splitS_len : ∀ l : List UInt8, (splitS l).length ≤ l.length + 1
  | [] => Nat.le_refl _
  | b :: l => by
    have ih := splitS_len l
    have hne := splitS_ne l
    unfold splitS
    split
    · simp only [List.length_cons]; omega
    · cases hs : splitS l with
      | nil => exact absurd hs hne
      | cons x y => rw [hs] at ih; simp only [cons1, List.length_cons] at *; omega
theorem splitS_each : ∀ l : List UInt8, ∀ x ∈ splitS l, x.length ≤ l.length
  | [], x, hx => by simp [splitS] at hx; subst hx; simp
  | b :: l, x, hx => by
    have ih := splitS_each l
    unfold splitS at hx
    split at hx
    · rcases List.mem_cons.1 hx with rfl | hx
      · simp
      · have := ih x hx; simp only [List.length_cons]; omega
    · cases hs : splitS l with
      | nil => exact absurd hs (splitS_ne l)
      | cons y z =>
        rw [hs] at hx ih
        simp only [cons1, List.mem_cons] at hx
        rcases hx with rfl | hx
        · have := ih y (by simp); simp only [List.length_cons]; omega
        · have := ih x (by simp [hx]); simp only [List.length_cons]; omega
/-- Slices of texts of the call's own. -/
theorem undSt : Tryd.prog.underlying 51 = some (.slice 9) := by kernel_rfl
theorem undSs : Tryd.prog.underlying 51 = some (.slice (Tryd.prog.elem 51)) := by kernel_rfl
theorem elemSt : Tryd.prog.elem 51 = 9 := by kernel_rfl
theorem sizeSt (w : World) : (sizeOf 9).run Tryd.prog w = .ok 1 w := by kernel_rfl
theorem infoSt : (Tryd.prog.info? 9).map (fun i => (i.zero, i.size, i.bytes)) = some (some (.string ByteArray.empty), 1, 16) := by kernel_rfl
def sts (ls : List (List UInt8)) : List Value := ls.map fun l => Value.string (bA l)
def TO (w : World) (B : Nat) (v : Value) (ls : List (List UInt8)) : Prop := w.ownsRow B 9 1 v ls.length (sts ls)
theorem TO.nil (w : World) (B : Nat) : TO w B (.slice none 0 0) [] := World.ownsRow_nil _ _ _ _
theorem TO.below {w w' : World} {B : Nat} {v : Value} {ls : List (List UInt8)} (h : TO w B v ls) (hb : Below w.heap.size w w') : TO w' B v ls := by
  obtain ⟨h1, h2⟩ := h
  refine ⟨h1, ?_⟩
  rcases h2 with h2 | ⟨g, cap, cur, e, hg, hh, r⟩
  · exact .inl h2
  · refine .inr ⟨g, cap, cur, e, hg, ?_, r⟩
    rw [hb.block g (Array.getElem?_eq_some_iff.1 hh).1]
    exact hh
theorem TO.lt {w : World} {B : Nat} {v : Value} {ls : List (List UInt8)} (h : TO w B v ls) : ∀ k, v.ownBlock = some k → B ≤ k ∧ k < w.heap.size := fun k hk => World.ownsRow.lt h k hk
theorem TO.slice {w : World} {B : Nat} {v : Value} {ls : List (List UInt8)} (h : TO w B v ls) : ∃ a n c, v = Value.slice a n c := by
  rcases h.2 with ⟨e1, _⟩ | ⟨_, _, _, e1, _⟩ <;> exact ⟨_, _, _, e1⟩
theorem TO.lies {w : World} {B : Nat} {v : Value} {ls : List (List UInt8)} (h : TO w B v ls) (hne : ls ≠ []) : ∃ g cap, v = .slice (some ⟨g, 0, none⟩) ls.length cap ∧ B ≤ g ∧ g < w.heap.size ∧ ls.length ≤ cap ∧ cap ≤ 9223372036854775807 ∧ ∀ i l, ls[i]? = some l → w.cell? ⟨g, i, none⟩ = some (.string (bA l)) := by
  obtain ⟨h1, h2⟩ := h
  rcases h2 with ⟨e, h0⟩ | ⟨g, cap, cur, rfl, hB, hh, h3, h4, h5, h6⟩
  · exact absurd (List.eq_nil_of_length_eq_zero h0) hne
  · refine ⟨g, cap, rfl, hB, (Array.getElem?_eq_some_iff.1 hh).1, h3, by simpa [maxLen] using h4, fun i l hl => ?_⟩
    have hb : Blk w g 9 cur.toList := by unfold Blk; simpa using hh
    rw [hb.cell]
    have hi : i < ls.length := (List.getElem?_eq_some_iff.1 hl).1
    have e1 : (sts ls)[i]? = some (.string (bA l)) := by unfold sts; rw [List.getElem?_map, hl]; rfl
    rw [← h6, List.getElem?_take] at e1
    split at e1
    · exact e1
    · cases e1
theorem st_at (b n cap i : Nat) (I : Int) (hI : I = (i : Int)) (hi : i < n) (v : World) : (Instr.indexAt 51 (.slice (some ⟨b, 0, none⟩) n cap) (.int .i64 I)).run Tryd.prog v = .ok (.pointer (some ⟨b, i, none⟩)) v := by
  subst hI
  rw [run_indexAt_slice v _ _ _ _ .i64 i undSs, if_pos ⟨by omega, by omega⟩, elemSt, sizeSt]
  simp only [Result.andThen_ok, Int.toNat_natCast]
  rw [Addr.add_lit, Nat.zero_add, Nat.mul_one]
theorem oneSt (l : List UInt8) (w : World) : (Instr.buildSlice 51 1 #[(0, .string (bA l))]).run Tryd.prog w = .ok (.slice (some ⟨w.heap.size, 0, none⟩) 1 1) (w.alloc (.cells #[.string (bA l)] 9)) := by kernel_rfl
section
variable {dst : Option Tmp} {ty : TypeId} {pos : String} {aft : Array Edge} {gd : Option (Nat × Bool)} {ops : Array Oper} {rest : List Oper} {a : Act} {w : World} {K : Act → World → Prop} {Q : Exit → Act → World → Prop}
set_option maxRecDepth 100000 in
theorem wp_oneSt {x : Operand} {l : List UInt8} (hx : a.eval x = .string (bA l)) (h : ∀ w1 g, Blk w1 g 9 [.string (bA l)] → w.heap.size ≤ g → Below w.heap.size w w1 → K (a.put dst (.slice (some ⟨g, 0, none⟩) 1 1)) w1) :
    Oper.wp Tryd.prog ⟨dst, .buildSlice 51 1 #[(0, x)], ty, pos, aft, gd⟩ a w K Q := by
  refine wp_runV (.slice (some ⟨w.heap.size, 0, none⟩) 1 1) (w.alloc (.cells #[.string (bA l)] 9)) ?_ (h _ _ (Blk.made _ _ _) (Nat.le_refl _) ((Below.refl _ _).alloc (Nat.le_refl _) _))
  unfold execOp
  simp only [List.map_toArray, List.map_cons, List.map_nil, hx]
  simp only [Sem.run_bind, oneSt l, Result.andThen_ok, Sem.run_pure]
/-- Texts that lie somewhere appended to a slice of the call's own. -/
theorem wp_appSt {s x : Operand} {B : Nat} {v : Value} {ls ms : List (List UInt8)} {g o n c : Nat} (hs : a.eval s = v) (hx : a.eval x = .slice (some ⟨g, o, none⟩) n c) (hown : TO w B v ls) (hn : ms.length = n) (hy : ∀ i l, ms[i]? = some l → w.cell? ⟨g, o + i, none⟩ = some (.string (bA l))) (hm : ms ≠ []) (hlen : ls.length + ms.length ≤ 2097160) (hB : B ≤ w.heap.size)
    (h : ∀ v' w', TO w' B v' (ls ++ ms) → w.grownBy w' v.ownBlock → K (a.put dst v') w') :
    Oper.wp Tryd.prog ⟨dst, .call { callee := .builtin .append, args := #[s, x], argTypes := #[51, 51] }, ty, pos, aft, gd⟩ a w K Q := by
  obtain ⟨i0, hi, hz0, hz1, hz2⟩ := info_parts infoSt
  subst hn
  obtain ⟨g', cap', w', hr, ho, hgr, hat, hlt⟩ := run_append_lies (P := Tryd.prog) w 51 ty B 9 i0 (.string ByteArray.empty) 1 16 undSt hi hz0 hz1 hz2 rfl (by decide) v _ _ hown ⟨g, o, none⟩ ms.length c (sts ms) (by simp [sts]) (fun j u hu => by
    unfold sts at hu
    rw [List.getElem?_map] at hu
    obtain ⟨l, hl, e⟩ := Option.map_eq_some_iff.1 hu
    subst e
    rw [Addr.add_lit]
    exact hy j l hl) (by intro u hu; unfold sts at hu; obtain ⟨l, _, e⟩ := List.mem_map.1 hu; subst e; rfl) (by
    cases ms with
    | nil => exact absurd rfl hm
    | cons x y => simp) (by unfold maxLen; omega) (by omega) hB _ rfl
  unfold Oper.wp
  simp [execOp, resolve, invoke, builtin, hs, hx, hr, Result.andThen]
  refine h _ _ ?_ hgr
  unfold TO
  rw [List.length_append, show sts (ls ++ ms) = sts ls ++ sts ms by simp [sts]]
  exact ho
set_option maxRecDepth 100000 in
theorem step_oneSt {x : Operand} {l : List UInt8} (hw : Region.wanted ⟨dst, .buildSlice 51 1 #[(0, x)], ty, pos, aft, gd⟩ (yielded ops a.tmps) = true) (hx : a.eval x = .string (bA l)) (h : ∀ w1 g, Blk w1 g 9 [.string (bA l)] → w.heap.size ≤ g → Below w.heap.size w w1 → wpList Tryd.prog ops Q rest (a.put dst (.slice (some ⟨g, 0, none⟩) 1 1)) w1) :
    wpList Tryd.prog ops Q (⟨dst, .buildSlice 51 1 #[(0, x)], ty, pos, aft, gd⟩ :: rest) a w :=
  BigFrame.wpList_want hw fun K hK => wp_oneSt hx fun w1 g h1 h2 h3 => hK _ _ (h w1 g h1 h2 h3)
theorem step_appSt {s x : Operand} {B : Nat} {v : Value} {ls : List (List UInt8)} {l : List UInt8} {g : Nat} (hw : Region.wanted ⟨dst, .call { callee := .builtin .append, args := #[s, x], argTypes := #[51, 51] }, ty, pos, aft, gd⟩ (yielded ops a.tmps) = true)
    (hs : a.eval s = v) (hx : a.eval x = .slice (some ⟨g, 0, none⟩) 1 1) (hown : TO w B v ls) (hy : Blk w g 9 [.string (bA l)]) (hlen : ls.length ≤ 1048580) (hB : B ≤ w.heap.size)
    (h : ∀ v' w', TO w' B v' (ls ++ [l]) → w.grownBy w' v.ownBlock → wpList Tryd.prog ops Q rest (a.put dst v') w') :
    wpList Tryd.prog ops Q (⟨dst, .call { callee := .builtin .append, args := #[s, x], argTypes := #[51, 51] }, ty, pos, aft, gd⟩ :: rest) a w :=
  BigFrame.wpList_want hw fun K hK => wp_appSt (ms := [l]) hs hx hown rfl (fun i m hm => by
    match i, hm with
    | 0, hm => simp at hm; subst hm; rw [hy.cell]; rfl
    | i + 1, hm => simp at hm) (by simp) (by simp; omega) hB fun v' w' h1 h2 => hK _ _ (h v' w' h1 h2)
end
theorem slice_mid (l : List UInt8) (f k : Nat) (hf : f ≤ k) (hk : k ≤ l.length) (v : World) : (Instr.slice 9 (.string (bA l)) (some (.int .i64 (f : Int))) (some (.int .i64 (k : Int))) none).run Tryd.prog v = .ok (.string (bA ((l.drop f).take (k - f)))) v := by
  rw [run_slice_string_if v 9 (bA l) .i64 .i64 (f : Int) (k : Int) Tryd.underlying9, if_pos ⟨by omega, by rw [bA_size]; omega⟩, if_pos ⟨by omega, by omega⟩]
  congr 2
  apply eq_of_strL
  rw [strL_bA]
  show (ByteArray.extract (bA l) (f : Int).toNat (k : Int).toNat).data.toList = _
  rw [ByteArray.data_extract, Array.toList_extract, Int.toNat_natCast, Int.toNat_natCast]
  show List.extract l f k = _
  simp only [List.extract]
theorem drop_at {l : List UInt8} {f k : Nat} (hf : f ≤ k) (hk : k < l.length) (h47 : l[k]? = some 47) : l.drop f = (l.drop f).take (k - f) ++ 47 :: l.drop (k + 1) := by
  conv => lhs; rw [← List.take_append_drop (k - f) (l.drop f)]
  congr 1
  rw [List.drop_drop, show f + (k - f) = k by omega, List.drop_eq_getElem_cons hk]
  rw [List.getElem?_eq_getElem hk] at h47
  rw [Option.some.inj h47]
theorem no_mid {l : List UInt8} {f k : Nat} (hk : k ≤ l.length) (h : ∀ j, f ≤ j → j < k → l[j]? ≠ some 47) : ∀ b ∈ (l.drop f).take (k - f), b ≠ 47 := by
  intro b hb e
  subst e
  obtain ⟨i, hi⟩ := List.mem_iff_getElem?.1 hb
  have hlt := (List.getElem?_eq_some_iff.1 hi).1
  rw [List.length_take, List.length_drop] at hlt
  rw [List.getElem?_take, if_pos (by omega), List.getElem?_drop] at hi
  exact h (f + i) (by omega) (by omega) hi
set_option maxRecDepth 100000 in
set_option maxHeartbeats 1000000 in
theorem pieces_any (s : List UInt8) (w : World) (hs : s.length ≤ 1048576) : Calls Tryd.prog 22 #[.string (bA s)] w fun r w' => ∃ v, r = .returned v ∧ TO w' w.heap.size v (splitS s) ∧ Below w.heap.size w w' := by
  have hsz := bA_size s
  go_enter Tryd.func22, Tryd.ntmps22
  go_wp2_with fail
  go_loopw [3, 4, 5] (fun o fr i wr => ∃ (k f : Nat) (ls : List (List UInt8)), i = .int .i64 (k : Int) ∧ fr = .int .i64 (f : Int) ∧ k ≤ s.length ∧ f ≤ k ∧ ls.length ≤ k ∧ Hid (TO wr w.heap.size o ls) ∧ Hid (ls ++ splitS (s.drop f) = splitS s) ∧ Hid (∀ j, f ≤ j → j < k → s[j]? ≠ some 47) ∧ Hid (Below w.heap.size w wr)) (fun _ _ i _ => s.length - (intOf i).toNat)
  case atStart => exact ⟨0, 0, [], rfl, rfl, by omega, by omega, by simp, hide (TO.nil _ _), hide rfl, hide (fun j h1 h2 => by omega), hide (Below.refl _ _)⟩
  case round =>
    obtain ⟨k, f, ls, rfl, rfl, hk, hf, hl, HO, HS, HN, HB⟩ := hrel
    obtain ⟨av, nv, cv, rfl⟩ := HO.out.slice
    by_cases hlt : k < s.length
    · have hlt' : (k : Int) < (s.length : Int) := by omega
      have hk2 : k < (bA s).size := by rw [hsz]; exact hlt
      have hg : s[k]? = some ((bA s)[k]'hk2) := by rw [List.getElem?_eq_getElem hlt]; rfl
      have hwk : IntKind.i64.wrap ((k : Int) + 1) = ((k + 1 : Nat) : Int) := by rw [IntKind.wrap_i64]; omega
      by_cases h47 : ((bA s)[k]'hk2) = 47
      · have e47 : (((((bA s)[k]'hk2).toNat : Nat) : Int) == 47) = true := by rw [h47]; rfl
        have x1 := slice_mid s f k hf hk
        obtain ⟨M, hM⟩ : ∃ M, (s.drop f).take (k - f) = M := ⟨_, rfl⟩
        have HSn : Hid ((ls ++ [M]) ++ splitS (s.drop (k + 1)) = splitS s) := hide (by
          have h1 := HS.out
          rw [drop_at hf hlt (by rw [hg, h47]), hM, splitS_app _ (by rw [← hM]; exact no_mid hk HN.out)] at h1
          rw [← h1]
          simp)
        rw [hM] at x1
        clear hg h47 hM HS
        go_wp2_with (refine step_oneSt (l := M) rfl rfl ?_)
        intro w1 g1 hg1 hle1 hb1
        have HO1 := hide (HO.out.below hb1)
        have HB1 := hide (on_below HB.out hb1)
        have HG1 := hide hg1
        clear hg1 hle1 hb1 HO HB
        go_wp2_with (refine step_appSt (l := M) rfl rfl rfl HO1.out HG1.out (by omega) HB1.out.size ?_)
        intro v2 w2 ho2 hgr
        have hgr2 : w1.grownBy w2 (Value.slice av nv cv).ownBlock := hgr
        have HB2 := hide (HB1.out.grown hgr2 HB1.out.size (fun k hk => (HO1.out.lt k hk).1))
        have HO2 := hide ho2
        obtain ⟨a2, n2, c2, rfl⟩ := ho2.slice
        clear ho2 hgr hgr2 HO1 HG1 HB1
        go_wp2_with fail
        go_roundw
        case rel => exact ⟨k + 1, k + 1, ls ++ [M], by simp, by simp, hlt, Nat.le_refl _, by simp; omega, HO2, HSn, hide (fun j h1 h2 => by omega), HB2⟩
        case measure => simp only [intOf]; omega
      · have e47 : (((((bA s)[k]'hk2).toNat : Nat) : Int) == 47) = false := by
          simp only [beq_eq_false_iff_ne, ne_eq]
          intro e
          refine h47 (UInt8.toNat_inj.1 ?_)
          have : ((bA s)[k]'hk2).toNat = 47 := by omega
          rw [this]; rfl
        have HN2 : Hid (∀ j, f ≤ j → j < k + 1 → s[j]? ≠ some 47) := hide (fun j h1 h2 => by
          by_cases hj : j = k
          · subst hj; rw [hg]; exact fun e => h47 (Option.some.inj e)
          · exact HN.out j h1 (by omega))
        clear hg h47 HN
        go_wp2_with fail
        exact ⟨⟨k + 1, f, ls, by simp, rfl, hlt, by omega, by omega, HO, HS, HN2, HB⟩, by simp only [intOf]; omega⟩
    · obtain rfl : k = s.length := by omega
      have x1 := slice_str s f (f : Int) rfl hf
      obtain ⟨M, hM⟩ : ∃ M, s.drop f = M := ⟨_, rfl⟩
      have HSn : Hid (ls ++ [M] = splitS s) := hide (by
        have h1 := HS.out
        have h2 := no_mid (f := f) (Nat.le_refl s.length) HN.out
        rw [List.take_of_length_le (by simp)] at h2
        rw [splitS_no h2, hM] at h1
        exact h1)
      rw [hM] at x1
      clear hM HS HN
      go_wp2_with (refine step_oneSt (l := M) rfl rfl ?_)
      intro w1 g1 hg1 hle1 hb1
      have HO1 := hide (HO.out.below hb1)
      have HB1 := hide (on_below HB.out hb1)
      have HG1 := hide hg1
      clear hg1 hle1 hb1 HO HB
      go_wp2_with (refine step_appSt (l := M) rfl rfl rfl HO1.out HG1.out (by omega) HB1.out.size ?_)
      intro v2 w2 ho2 hgr
      have hgr2 : w1.grownBy w2 (Value.slice av nv cv).ownBlock := hgr
      have HB2 := hide (HB1.out.grown hgr2 HB1.out.size (fun k hk => (HO1.out.lt k hk).1))
      rw [HSn.out] at ho2
      have HO2 := hide ho2
      obtain ⟨a2, n2, c2, rfl⟩ := ho2.slice
      clear ho2 hgr hgr2 HO1 HG1 HB1
      go_wp2
      go_ret
      exact ⟨_, rfl, HO2.out, HB2.out⟩
end Go.Proofs.YtnlpgkfmjlljdaaDoor

/-
  A text read as a tile's path, as the program does: number, guess.
-/
namespace Go.Proofs.YtnlpgkfmjlljdaaDoor
open Go.RowKit
set_option linter.unusedVariables false
set_option linter.unusedSimpArgs false

set_option maxRecDepth 100000 in
theorem number_any (s : List UInt8) (w : World) (hs : s.length ≤ 1048576) (hv : EV w) : Calls Tryd.prog 40 #[.string (bA s)] w fun r w' => r = .returned (.int .i64 (nuF s)) ∧ Below w.heap.size w w' := by
  by_cases h : ∃ v, Lib.atoiAll s = .ok v
  · obtain ⟨v, h⟩ := h
    have e : nuF s = v := by unfold nuF; rw [h]
    rw [e]
    have HA := hide (atoi_ok s v w hs h)
    clear e h hv
    go_enter Tryd.func40, Tryd.ntmps40
    go_wp2_with fail
    refine HA.out.mono ?_
    rintro r w1 ⟨rfl, hb⟩
    have HB := hide hb
    clear hb HA
    go_wp2
    go_ret
    exact ⟨rfl, HB.out⟩
  · have e : nuF s = -1 := by
      unfold nuF
      split
      · rename_i v hv2; exact absurd ⟨v, hv2⟩ h
      · rfl
    rw [e]
    have HA := hide (atoi_no s w hs hv (fun v hv2 => h ⟨v, hv2⟩))
    clear e h hv
    go_enter Tryd.func40, Tryd.ntmps40
    go_wp2_with fail
    refine HA.out.mono ?_
    rintro r w1 ⟨x, tp, p, rfl, hb⟩
    have HB := hide hb
    clear hb HA
    go_wp2
    go_ret
    exact ⟨rfl, HB.out⟩
theorem cut_le (s sep : List UInt8) : (Lib.cut s sep).1.length ≤ s.length ∧ (Lib.cut s sep).2.1.length ≤ s.length := by
  unfold Lib.cut
  split
  · simp only [List.length_take, List.length_drop]; omega
  · simp
theorem trim_le (s p : List UInt8) : (Lib.trimPrefix s p).length ≤ s.length := by
  unfold Lib.trimPrefix
  split
  · simp
  · exact Nat.le_refl _
theorem rep_le (s : List UInt8) (c : UInt8) : (Lib.replaceAll s [c] []).length ≤ s.length := by
  rw [repAll_filter]
  exact List.length_filter_le _ _
theorem tileS : (Value.string { data := #[116, 105, 108, 101, 47] }) = .string (bA tileB) := rfl
set_option maxRecDepth 100000 in
set_option maxHeartbeats 1000000 in
theorem guess_any (s : List UInt8) (w : World) (hs : s.length ≤ 1048576) (hv : EV w) : Calls Tryd.prog 21 #[.string (bA s)] w fun r w' => r = .returned (.agg (c4 (gH s) (gL s) (gI s) (gW s)).toArray) ∧ Below w.heap.size w w' := by
  have HV := hide hv
  obtain ⟨s0, hs0⟩ : ∃ x, Lib.trimPrefix s tileB = x := ⟨_, rfl⟩
  have l0 : s0.length ≤ 1048576 := by rw [← hs0]; exact Nat.le_trans (trim_le _ _) hs
  obtain ⟨c1, h1⟩ : ∃ x, gName s = x := ⟨_, rfl⟩
  have k1 : Lib.cut s0 markB = c1 := by rw [← h1, ← hs0]; rfl
  obtain ⟨c2, h2⟩ : ∃ x, gHt s = x := ⟨_, rfl⟩
  have k2 : Lib.cut c1.1 [47] = c2 := by rw [← h2, ← h1]; rfl
  obtain ⟨c3, h3⟩ : ∃ x, gLv s = x := ⟨_, rfl⟩
  have k3 : Lib.cut c2.2.1 [47] = c3 := by rw [← h3, ← h2]; rfl
  have m1 := cut_le s0 markB
  rw [k1] at m1
  have m2 := cut_le c1.1 [47]
  rw [k2] at m2
  have m3 := cut_le c2.2.1 [47]
  rw [k3] at m3
  obtain ⟨x1, hx1⟩ : ∃ x, Lib.replaceAll c3.2.1 [120] [] = x := ⟨_, rfl⟩
  obtain ⟨x2, hx2⟩ : ∃ x, Lib.replaceAll x1 [47] [] = x := ⟨_, rfl⟩
  have m4 := rep_le c3.2.1 120
  rw [hx1] at m4
  have m5 := rep_le x1 47
  rw [hx2] at m5
  have g1 : gH s = nuF c2.1 := by unfold gH; rw [h2]
  have g2 : gL s = nuF c3.1 := by unfold gL; rw [h3]
  have g3 : gI s = nuF x2 := by unfold gI gDg; rw [h3, hx1, hx2]
  have g4 : gW s = if c1.2.2 = false ∧ 1 ≤ gH s ∧ gH s ≤ 8 then 2 ^ (gH s).toNat else nuF c1.2.1 := by unfold gW; rw [h1]
  rw [g4, g1, g2, g3]
  obtain ⟨c11, c12, c13⟩ := c1
  obtain ⟨c21, c22, c23⟩ := c2
  obtain ⟨c31, c32, c33⟩ := c3
  simp only at *
  have HT := hide (fun v => trim_any s tileB v)
  rw [hs0] at HT
  have HC1 := hide (fun v hv => cut_any s0 markB v l0 hv)
  rw [k1] at HC1
  have HC2 := hide (fun v hv => cut_any c11 [47] v (by omega) hv)
  rw [k2] at HC2
  have HC3 := hide (fun v hv => cut_any c22 [47] v (by omega) hv)
  rw [k3] at HC3
  have HR1 := hide (fun v hv => repl_any c32 120 v (by omega) hv)
  rw [hx1] at HR1
  have HR2 := hide (fun v hv => repl_any x1 47 v (by omega) hv)
  rw [hx2] at HR2
  have N1 := hide (fun v hv => number_any c21 v (by omega) hv)
  have N2 := hide (fun v hv => number_any c31 v (by omega) hv)
  have N3 := hide (fun v hv => number_any x2 v (by omega) hv)
  have N4 := hide (fun v hv => number_any c12 v (by omega) hv)
  have b1 := nuF_bd c21
  generalize nuF c21 = n1 at *
  generalize nuF c31 = n2 at *
  generalize nuF x2 = n3 at *
  generalize nuF c12 = n4 at *
  clear hs0 h1 k1 h2 k2 h3 k3 hx1 hx2 m1 m2 m3 m4 m5 g1 g2 g3 g4 l0 hv hs
  obtain ⟨RW, HRW⟩ : ∃ x, Hid ((if c13 = false ∧ 1 ≤ n1 ∧ n1 ≤ 8 then 2 ^ n1.toNat else n4) = x) := ⟨_, hide rfl⟩
  rw [HRW.out]
  go_enter Tryd.func21, Tryd.ntmps21
  go_wp2_with (refine step_alloc zT rfl ?_)
  intro w0 g2 hg hle hb
  have G0 := hide hg
  have B0 := hide hb
  have LE := hide hle
  clear hg hb hle
  go_wp2_with fail
  refine (HT.out _).mono ?_
  rintro r w0' ⟨rfl, e0⟩
  subst e0
  clear HT
  go_wp2_with fail
  refine (HC1.out _ (HV.out.below B0.out)).mono ?_
  rintro r w1 ⟨rfl, hb⟩
  have G1 := hide (G0.out.on hb)
  have B1 := hide (on_below B0.out hb)
  clear hb G0 B0 HC1
  go_wp2_with fail
  refine (HC2.out _ (HV.out.below B1.out)).mono ?_
  rintro r w2 ⟨rfl, hb⟩
  have G2 := hide (G1.out.on hb)
  have B2 := hide (on_below B1.out hb)
  clear hb G1 B1 HC2
  go_wp2_with fail
  refine (HC3.out _ (HV.out.below B2.out)).mono ?_
  rintro r w3 ⟨rfl, hb⟩
  have G3 := hide (G2.out.on hb)
  have B3 := hide (on_below B2.out hb)
  clear hb G2 B2 HC3
  go_wp2_with fail
  refine (HR1.out _ (HV.out.below B3.out)).mono ?_
  rintro r w4 ⟨rfl, hb⟩
  have G4 := hide (G3.out.on hb)
  have B4 := hide (on_below B3.out hb)
  clear hb G3 B3 HR1
  go_wp2_with fail
  refine (HR2.out _ (HV.out.below B4.out)).mono ?_
  rintro r w5 ⟨rfl, hb⟩
  have G5 := hide (G4.out.on hb)
  have B5 := hide (on_below B4.out hb)
  clear hb G4 B4 HR2
  go_wp2_with fail
  refine (N1.out _ (HV.out.below B5.out)).mono ?_
  rintro r w6 ⟨rfl, hb⟩
  have G6 := hide (G5.out.on hb)
  have B6 := hide (on_below B5.out hb)
  clear hb G5 B5 N1
  go_wp2_with fail
  refine (N2.out _ (HV.out.below B6.out)).mono ?_
  rintro r w7 ⟨rfl, hb⟩
  have G7 := hide (G6.out.on hb)
  have B7 := hide (on_below B6.out hb)
  clear hb G6 B6 N2
  go_wp2_with fail
  refine (N3.out _ (HV.out.below B7.out)).mono ?_
  rintro r w8 ⟨rfl, hb⟩
  have G8 := hide (G7.out.on hb)
  have B8 := hide (on_below B7.out hb)
  clear hb G7 B7 N3
  go_wp2_with fail
  refine (N4.out _ (HV.out.below B8.out)).mono ?_
  rintro r w9 ⟨rfl, hb⟩
  have G9 := hide (G8.out.on hb)
  have B9 := hide (on_below B8.out hb)
  clear hb G8 B8 N4
  go_wp2_with (first | (refine step_alloc zT rfl ?_; intro wa ga hga hlea hba; have HGA := hide hga; clear hga) | (refine step_storeA wT rfl rfl rfl HGA.out rfl (One.c4 n1 n2 n3 n4) rfl ?_))
  intro wb hgb hbutb
  have hbb : Below w9.heap.size w9 wb := hba.trans (hbutb.below hlea)
  have Gb := hide (G9.out.on hbb)
  have Bb := hide (on_below B9.out hbb)
  have Tb := hide hgb
  have hne : g2 ≠ ga := by have := G9.out.lt; omega
  have LA := hide (Nat.le_trans B9.out.size hlea)
  clear hbb hba hbutb hlea HGA hgb G9 B9 HV
  obtain ⟨t0, t1, t2, t3⟩ := Tb.out.four
  cases c13 with
  | true =>
    obtain rfl : n4 = RW := by rw [← HRW.out, if_neg (by simp)]
    go_wp2_with (first | (refine step_loadA wT rfl rfl Tb.out rfl ?_) | (refine step_storeA wT rfl rfl rfl Gb.out rfl (One.c4 n1 n2 n3 n4) rfl ?_))
    intro wc hgc hbutc
    have BE := hide (Bb.out.trans (hbutc.below LE.out))
    go_wp2
    refine bodyPost_ret (results_wide rfl wT _ _ rfl hgc rfl) rfl ⟨rfl, BE.out⟩
  | false =>
    by_cases hh : 1 ≤ n1 ∧ n1 ≤ 8
    · obtain ⟨H, rfl⟩ : ∃ H : Nat, n1 = (H : Int) := ⟨n1.toNat, by omega⟩
      have hH : isH H := ⟨by omega, by omega⟩
      have HH := hide (fun v => isHeight_yes H v hH)
      obtain ⟨P, hP⟩ : ∃ P, 2 ^ H = P := ⟨_, rfl⟩
      obtain ⟨p1, p2, p3, p4⟩ := pow_w hP hH
      have HPW := hide p1
      have eP : (2 : Int) ^ ((H : Int).toNat) = (P : Int) := by rw [Int.toNat_natCast, ← hP]; simp [Int.natCast_pow]
      obtain rfl : (P : Int) = RW := by rw [← HRW.out, if_pos ⟨rfl, hh⟩, eP]
      clear p1 p2 hP eP hH b1 HRW
      have f3 := Tb.out.free 3
      go_upto_region 8 with (first | (go_at_call 41; refine (HH.out _).mono ?_; rintro r w' ⟨rfl, hv⟩; replace hv := hv.symm; subst hv) | (simp only [HPW.out]))
      obtain ⟨wx, hwx⟩ : ∃ v : World, v = wb.setCell ⟨ga, 3, none⟩ (.int .i64 (P : Int)) := ⟨_, rfl⟩
      have Tx : Hid (Blk wx ga 23 (c4 (H : Int) n2 n3 (P : Int))) := hide (by rw [hwx]; exact Tb.out.set 3 _)
      have hbutx : But ga wb wx := by rw [hwx]; exact But.setCell _ _ _ _
      have Gx := hide (Gb.out.but hbutx hne)
      have Bx := hide (Bb.out.trans (hbutx.below LA.out))
      rw [← hwx]
      clear hwx hbutx Tb Gb Bb t0 t1 t2 t3 f3
      go_wp2_with (first | (refine step_loadA wT rfl rfl Tx.out rfl ?_) | (refine step_storeA wT rfl rfl rfl Gx.out rfl (One.c4 (H : Int) n2 n3 (P : Int)) rfl ?_))
      intro wc hgc hbutc
      have BE := hide (Bx.out.trans (hbutc.below LE.out))
      go_wp2
      refine bodyPost_ret (results_wide rfl wT _ _ rfl hgc rfl) rfl ⟨rfl, BE.out⟩
    · obtain rfl : n4 = RW := by rw [← HRW.out, if_neg (fun h => hh h.2)]
      have HH := hide (fun v => isHeight_no n1 v (by omega))
      go_wp2_with (first | (go_at_call 41; refine (HH.out _).mono ?_; rintro r w' ⟨rfl, rfl⟩) | (refine step_loadA wT rfl rfl Tb.out rfl ?_) | (refine step_storeA wT rfl rfl rfl Gb.out rfl (One.c4 n1 n2 n3 n4) rfl ?_))
      intro wc hgc hbutc
      have BE := hide (Bb.out.trans (hbutc.below LE.out))
      go_wp2
      refine bodyPost_ret (results_wide rfl wT _ _ rfl hgc rfl) rfl ⟨rfl, BE.out⟩
end Go.Proofs.YtnlpgkfmjlljdaaDoor

/-
  A text read as a tile's path: the program's Parse.
-/
namespace Go.Proofs.YtnlpgkfmjlljdaaDoor
open Go.RowKit
set_option linter.unusedVariables false
set_option linter.unusedSimpArgs false

theorem beq_bA (p q : List UInt8) : ((bA p).toList == (bA q).toList) = decide (p = q) := by
  by_cases h : p = q
  · subst h; simp
  · rw [decide_eq_false h, Lib.bytes_beq_false_iff]
    exact fun e => h (bA_inj e)
theorem run_neL {dst : Option Tmp} {ty : TypeId} {pos : String} {aft : Array Edge} {gd : Option (Nat × Bool)} {a : Act} {w : World} {x y : Operand} {p q : List UInt8} (hx : a.eval x = .string (bA p)) (hy : a.eval y = .string (bA q)) :
    (execOp a.eval ⟨dst, .binOp .neq 9 x y 9, ty, pos, aft, gd⟩).run Tryd.prog w = .ok (.value (.bool (!decide (p = q)))) w := by
  have e := beq_bA p q
  unfold execOp
  simp only [hx, hy]
  simp [go_sem]
  rw [← e]
theorem run_eqL {dst : Option Tmp} {ty : TypeId} {pos : String} {aft : Array Edge} {gd : Option (Nat × Bool)} {a : Act} {w : World} {x y : Operand} {p q : List UInt8} (hx : a.eval x = .string (bA p)) (hy : a.eval y = .string (bA q)) :
    (execOp a.eval ⟨dst, .binOp .eql 9 x y 9, ty, pos, aft, gd⟩).run Tryd.prog w = .ok (.value (.bool (decide (p = q)))) w := by
  have e := beq_bA p q
  unfold execOp
  simp only [hx, hy]
  simp [go_sem]
  exact e
section
variable {dst : Option Tmp} {ty : TypeId} {pos : String} {aft : Array Edge} {gd : Option (Nat × Bool)} {ops : Array Oper} {rest : List Oper} {a : Act} {w : World} {Q : Exit → Act → World → Prop}
theorem step_neL {x y : Operand} {p q : List UInt8} (z : Bool) (hq : (!decide (p = q)) = z) (hw : Region.wanted ⟨dst, .binOp .neq 9 x y 9, ty, pos, aft, gd⟩ (yielded ops a.tmps) = true) (hx : a.eval x = .string (bA p)) (hy : a.eval y = .string (bA q))
    (h : wpList Tryd.prog ops Q rest (a.put dst (.bool z)) w) : wpList Tryd.prog ops Q (⟨dst, .binOp .neq 9 x y 9, ty, pos, aft, gd⟩ :: rest) a w :=
  step_run hw (.bool z) w (by rw [run_neL hx hy, hq]) h
theorem step_eqL {x y : Operand} {p q : List UInt8} (z : Bool) (hq : decide (p = q) = z) (hw : Region.wanted ⟨dst, .binOp .eql 9 x y 9, ty, pos, aft, gd⟩ (yielded ops a.tmps) = true) (hx : a.eval x = .string (bA p)) (hy : a.eval y = .string (bA q))
    (h : wpList Tryd.prog ops Q rest (a.put dst (.bool z)) w) : wpList Tryd.prog ops Q (⟨dst, .binOp .eql 9 x y 9, ty, pos, aft, gd⟩ :: rest) a w :=
  step_run hw (.bool z) w (by rw [run_eqL hx hy, hq]) h
end
/-- What Path tells of any tile. -/
theorem path_any (h l i n : Int) (hl : l ≤ 9223372036854775807) (hi : i ≤ 9223372036854775807) : ∃ (p : List UInt8) (e : Int), ((e = 0 ∧ tOK h l i n ∧ p = pathI h l i n) ∨ (e = 2 ∧ ¬ tOK h l i n ∧ p = [])) ∧
    ∀ w : World, PT w → Calls Tryd.prog 5 #[.agg (c4 h l i n).toArray] w fun r w' => r = .returned (.tuple #[.string (bA p), .int .i64 e]) ∧ Below w.heap.size w w' := by
  by_cases k : tOK h l i n
  · obtain ⟨H, L, I, N, rfl, rfl, rfl, rfl, hH, h1, h2, h3, h4⟩ := k.nats
    refine ⟨_, 0, .inl ⟨rfl, k, rfl⟩, fun w ht => ?_⟩
    have := path_ok H L I N w hH h1 h2 h3 h4 k ht
    unfold pathI
    simp only [Int.toNat_natCast]
    exact this
  · exact ⟨_, 2, .inr ⟨rfl, k, rfl⟩, fun w ht => path_no h l i n w hl hi k⟩
theorem g_bd (s : List UInt8) : gL s ≤ 9223372036854775807 ∧ gI s ≤ 9223372036854775807 := ⟨(nuF_bd _).2, (nuF_bd _).2⟩
/-- What Parse tells of any text. -/
def PrR (s : List UInt8) (h l i n e : Int) : Prop := (e = 0 ∧ tOK h l i n ∧ pathI h l i n = s) ∨ (e = 100 ∧ h = 0 ∧ l = 0 ∧ i = 0 ∧ n = 0 ∧ ¬ ∃ h l i n, tOK h l i n ∧ pathI h l i n = s)
theorem pathI_inj {h l i n h' l' i' n' : Int} (k : tOK h l i n) (k' : tOK h' l' i' n') (e : pathI h l i n = pathI h' l' i' n') : h = h' ∧ l = l' ∧ i = i' ∧ n = n' := by
  obtain ⟨a1, a2, a3, a4⟩ := pathI_g k
  obtain ⟨b1, b2, b3, b4⟩ := pathI_g k'
  rw [e] at a1 a2 a3 a4
  exact ⟨a1.symm.trans b1, a2.symm.trans b2, a3.symm.trans b3, a4.symm.trans b4⟩
theorem PrR.uniq {s : List UInt8} {h l i n e h' l' i' n' e' : Int} (k : PrR s h l i n e) (k' : PrR s h' l' i' n' e') : h = h' ∧ l = l' ∧ i = i' ∧ n = n' ∧ e = e' := by
  rcases k with ⟨rfl, k, q⟩ | ⟨rfl, rfl, rfl, rfl, rfl, k⟩ <;> rcases k' with ⟨rfl, k', q'⟩ | ⟨rfl, rfl, rfl, rfl, rfl, k'⟩
  · obtain ⟨a, b, c, d⟩ := pathI_inj k k' (q.trans q'.symm)
    exact ⟨a, b, c, d, rfl⟩
  · exact absurd ⟨_, _, _, _, k, q⟩ k'
  · exact absurd ⟨_, _, _, _, k', q'⟩ k
  · exact ⟨rfl, rfl, rfl, rfl, rfl⟩
theorem zT0 : (c4 0 0 0 0 : List Value) = [.int .i64 0, .int .i64 0, .int .i64 0, .int .i64 0] := rfl
set_option maxRecDepth 100000 in
set_option maxHeartbeats 1000000 in
theorem parse_any (s : List UInt8) (hs : s.length ≤ 1048576) : ∃ h l i n e : Int, PrR s h l i n e ∧ ∀ w : World, EV w → Calls Tryd.prog 7 #[.string (bA s)] w fun r w' => r = .returned (.tuple #[.agg (c4 h l i n).toArray, .int .i64 e]) ∧ Below w.heap.size w w' := by
  have hg := g_bd s
  obtain ⟨p, e, hp, hc⟩ := path_any (gH s) (gL s) (gI s) (gW s) hg.1 hg.2
  have HGu := hide (fun v hv => guess_any s v hs hv)
  have HPt := hide hc
  by_cases hk : tOK (gH s) (gL s) (gI s) (gW s) ∧ pathI (gH s) (gL s) (gI s) (gW s) = s
  · obtain ⟨rfl, rfl⟩ : e = 0 ∧ p = s := by
      rcases hp with ⟨h1, h2, h3⟩ | ⟨h1, h2, h3⟩
      · exact ⟨h1, h3.trans hk.2⟩
      · exact absurd hk.1 h2
    refine ⟨_, _, _, _, 0, .inl ⟨rfl, hk⟩, fun w hv => ?_⟩
    have HV := hide hv
    clear hv hp hc hk hg
    generalize gH p = t1 at *
    generalize gL p = t2 at *
    generalize gI p = t3 at *
    generalize gW p = t4 at *
    go_enter Tryd.func7, Tryd.ntmps7
    go_wp2_with (refine step_alloc zT rfl ?_)
    intro w0 g2 hg hle hb
    have G0 := hide hg
    have B0 := hide hb
    have LE := hide hle
    clear hg hb hle
    go_wp2_with fail
    refine (HGu.out _ (HV.out.below B0.out)).mono ?_
    rintro r w1 ⟨rfl, hb1⟩
    have G1 := hide (G0.out.on hb1)
    have B1 := hide (on_below B0.out hb1)
    clear hb1 G0 B0 HGu
    go_wp2_with (first | (refine step_alloc zT rfl ?_; intro wa ga hga hlea hba; have HGA := hide hga; clear hga) | (refine step_storeA wT rfl rfl rfl HGA.out rfl (One.c4 t1 t2 t3 t4) rfl ?_))
    intro wb hgb hbutb
    have hbb : Below w1.heap.size w1 wb := hba.trans (hbutb.below hlea)
    have Gb := hide (G1.out.on hbb)
    have Bb := hide (on_below B1.out hbb)
    have Tb := hide hgb
    clear hbb hba hbutb hlea HGA hgb G1 B1
    go_wp2_with (refine step_loadA wT rfl rfl Tb.out rfl ?_)
    refine (HPt.out _ (HV.out.below Bb.out).pt).mono ?_
    rintro r wc ⟨rfl, hbc⟩
    have Gc := hide (Gb.out.on hbc)
    have Tc := hide (Tb.out.on hbc)
    have Bc := hide (on_below Bb.out hbc)
    clear Gb Tb Bb hbc HPt HV
    go_wp2_with (first | (refine step_neL (p := p) (q := p) false (by simp) rfl rfl rfl ?_) | (refine step_loadA wT rfl rfl Tc.out rfl ?_) | (refine step_storeA wT rfl rfl rfl Gc.out rfl (One.c4 t1 t2 t3 t4) rfl ?_))
    intro wd hgd hbutd
    have BE := hide (Bc.out.trans (hbutd.below LE.out))
    go_wp2
    refine bodyPost_ret (results_wide2 rfl wT _ _ rfl hgd rfl) rfl ⟨rfl, BE.out⟩
  · refine ⟨0, 0, 0, 0, 100, .inr ⟨rfl, rfl, rfl, rfl, rfl, fun ⟨a, b, c, d, k1, k2⟩ => hk ?_⟩, fun w hv => ?_⟩
    · obtain ⟨e1, e2, e3, e4⟩ := pathI_g k1
      rw [k2] at e1 e2 e3 e4
      rw [e1, e2, e3, e4]
      exact ⟨k1, k2⟩
    · have HV := hide hv
      by_cases he : e = 0
      · subst he
        have hne : p ≠ s := by
          rcases hp with ⟨_, h2, h3⟩ | ⟨h1, _, _⟩
          · exact fun h => hk ⟨h2, h3.symm.trans h⟩
          · cases h1
        clear hv hp hc hk hg
        generalize gH s = t1 at *
        generalize gL s = t2 at *
        generalize gI s = t3 at *
        generalize gW s = t4 at *
        go_enter Tryd.func7, Tryd.ntmps7
        go_wp2_with (refine step_alloc zT rfl ?_)
        intro w0 g2 hg hle hb
        have G0 := hide hg
        have B0 := hide hb
        have LE := hide hle
        clear hg hb hle
        go_wp2_with fail
        refine (HGu.out _ (HV.out.below B0.out)).mono ?_
        rintro r w1 ⟨rfl, hb1⟩
        have G1 := hide (G0.out.on hb1)
        have B1 := hide (on_below B0.out hb1)
        clear hb1 G0 B0 HGu
        go_wp2_with (first | (refine step_alloc zT rfl ?_; intro wa ga hga hlea hba; have HGA := hide hga; clear hga) | (refine step_storeA wT rfl rfl rfl HGA.out rfl (One.c4 t1 t2 t3 t4) rfl ?_))
        intro wb hgb hbutb
        have hbb : Below w1.heap.size w1 wb := hba.trans (hbutb.below hlea)
        have Gb := hide (G1.out.on hbb)
        have Bb := hide (on_below B1.out hbb)
        have Tb := hide hgb
        clear hbb hba hbutb hlea HGA hgb G1 B1
        go_wp2_with (refine step_loadA wT rfl rfl Tb.out rfl ?_)
        refine (HPt.out _ (HV.out.below Bb.out).pt).mono ?_
        rintro r wc ⟨rfl, hbc⟩
        have Gc := hide (Gb.out.on hbc)
        have Tc := hide (Tb.out.on hbc)
        have Bc := hide (on_below Bb.out hbc)
        clear Gb Tb Bb hbc HPt HV
        go_wp2_with (first | (refine step_neL (p := p) (q := s) true (by simp [hne]) rfl rfl rfl ?_) | (refine step_storeA wT rfl rfl (vs := c4 0 0 0 0) rfl Gc.out rfl (One.c4 0 0 0 0) rfl ?_))
        intro wd hgd hbutd
        have BE := hide (Bc.out.trans (hbutd.below LE.out))
        go_wp2
        refine bodyPost_ret (results_wide2 rfl wT _ _ rfl hgd rfl) rfl ⟨rfl, BE.out⟩
      · have heb : ¬ e = 0 := he
        have he2 : e = 2 := by
          rcases hp with ⟨h1, _, _⟩ | ⟨h1, _, _⟩
          · exact absurd h1 he
          · exact h1
        subst he2
        clear hv hp hc hk hg he heb
        generalize gH s = t1 at *
        generalize gL s = t2 at *
        generalize gI s = t3 at *
        generalize gW s = t4 at *
        go_enter Tryd.func7, Tryd.ntmps7
        go_wp2_with (refine step_alloc zT rfl ?_)
        intro w0 g2 hg hle hb
        have G0 := hide hg
        have B0 := hide hb
        have LE := hide hle
        clear hg hb hle
        go_wp2_with fail
        refine (HGu.out _ (HV.out.below B0.out)).mono ?_
        rintro r w1 ⟨rfl, hb1⟩
        have G1 := hide (G0.out.on hb1)
        have B1 := hide (on_below B0.out hb1)
        clear hb1 G0 B0 HGu
        go_wp2_with (first | (refine step_alloc zT rfl ?_; intro wa ga hga hlea hba; have HGA := hide hga; clear hga) | (refine step_storeA wT rfl rfl rfl HGA.out rfl (One.c4 t1 t2 t3 t4) rfl ?_))
        intro wb hgb hbutb
        have hbb : Below w1.heap.size w1 wb := hba.trans (hbutb.below hlea)
        have Gb := hide (G1.out.on hbb)
        have Bb := hide (on_below B1.out hbb)
        have Tb := hide hgb
        clear hbb hba hbutb hlea HGA hgb G1 B1
        go_wp2_with (refine step_loadA wT rfl rfl Tb.out rfl ?_)
        refine (HPt.out _ (HV.out.below Bb.out).pt).mono ?_
        rintro r wc ⟨rfl, hbc⟩
        have Gc := hide (Gb.out.on hbc)
        have Tc := hide (Tb.out.on hbc)
        have Bc := hide (on_below Bb.out hbc)
        clear Gb Tb Bb hbc HPt HV
        go_wp2_with (refine step_storeA wT rfl rfl (vs := c4 0 0 0 0) rfl Gc.out rfl (One.c4 0 0 0 0) rfl ?_)
        intro wd hgd hbutd
        have BE := hide (Bc.out.trans (hbutd.below LE.out))
        go_wp2
        refine bodyPost_ret (results_wide2 rfl wT _ _ rfl hgd rfl) rfl ⟨rfl, BE.out⟩
end Go.Proofs.YtnlpgkfmjlljdaaDoor

/-
  What the document reads out of a text, and out of a tile's path. No program here.
-/
namespace Go.Proofs.YtnlpgkfmjlljdaaDoor
open Go.RowKit
set_option linter.unusedVariables false
set_option linter.unusedSimpArgs false

def tileW : List UInt8 := [116, 105, 108, 101]
/-- A group without its letter x. -/
def rqX : List UInt8 → List UInt8
  | [] => []
  | a :: t => if a = 120 then t else a :: t
/-- Is there a width? The groups, the last one without its mark. -/
def rqP (rest : List (List UInt8)) : Bool := decide (2 ≤ rest.length) && (decide (2 < (rest.getD (rest.length - 2) []).length) && decide ((rest.getD (rest.length - 2) []).drop ((rest.getD (rest.length - 2) []).length - 2) = [46, 112]))
def rqG (rest : List (List UInt8)) : List (List UInt8) := rest.take (rest.length - 2) ++ [(rest.getD (rest.length - 2) []).take ((rest.getD (rest.length - 2) []).length - 2)]
def rqE (h l w : Nat) (ds : List (List UInt8)) : Option (Nat × Nat × Nat × Nat) := if ∀ x ∈ ds, (rqX x).length ≤ 3 then (nmO (stz (ds.flatMap rqX))).map fun i => (h, l, i, w) else none
def rqT (h l : Nat) (rest : List (List UInt8)) : Option (Nat × Nat × Nat × Nat) := if rqP rest = true then (nmO (stz (rest.getD (rest.length - 1) []))).bind fun w => rqE h l w (rqG rest) else rqE h l (2 ^ h) rest
def rqR (s : List UInt8) : Option (Nat × Nat × Nat × Nat) := match splitS s with
  | p0 :: p1 :: p2 :: p3 :: rest => if p0 = tileW then (nmO (stz p1)).bind fun h => (nmO (stz p2)).bind fun l => if 1 ≤ h ∧ h ≤ 8 then rqT h l (p3 :: rest) else none else none
  | _ => none
/-- The groups of an index. -/
def gX : Nat → Nat → List (List UInt8)
  | 0, _ => []
  | k + 1, r => if r = 0 then [] else gX k (r / 1000) ++ [120 :: d3 (r % 1000)]
theorem split_ix : ∀ (k r : Nat) (Y : List UInt8), splitS (ixF k r ++ Y) = gX k r ++ splitS Y
  | 0, r, Y => rfl
  | k + 1, r, Y => by
    unfold ixF gX
    split
    · rfl
    · rw [List.append_assoc, split_ix k (r / 1000), List.append_assoc (gX k (r / 1000))]
      apply congrArg
      rw [show (120 :: d3 (r % 1000) ++ [47] ++ Y : List UInt8) = (120 :: d3 (r % 1000)) ++ 47 :: Y by simp, splitS_app _ (fun b hb => by
        rcases List.mem_cons.1 hb with rfl | hb
        · decide
        · exact (d3_dg (Nat.mod_lt _ (by decide)) b hb).ne.2.1)]
      rfl
theorem gX_x : ∀ (k r : Nat), ∀ x ∈ gX k r, ∃ m, m < 1000 ∧ x = 120 :: d3 m
  | 0, r, x, hx => by simp [gX] at hx
  | k + 1, r, x, hx => by
    unfold gX at hx
    split at hx
    · simp at hx
    · rcases List.mem_append.1 hx with hx | hx
      · exact gX_x k _ x hx
      · exact ⟨r % 1000, Nat.mod_lt _ (by decide), by simpa using hx⟩
theorem gX_flat : ∀ (k r : Nat), (gX k r).flatMap rqX = gD k r
  | 0, r => rfl
  | k + 1, r => by
    unfold gX gD
    split
    · rfl
    · rw [List.flatMap_append, gX_flat k (r / 1000)]
      simp [rqX]
theorem rqX_d3 {m : Nat} (h : m < 1000) : rqX (d3 m) = d3 m := by
  have := (d3_dg h _ (List.mem_cons_self)).ne.2.2.1
  unfold d3 at this ⊢
  show (if UInt8.ofNat (48 + m / 100) = 120 then _ else _) = _
  rw [if_neg this]
theorem rqE_ix {h l w i : Nat} (hi : i ≤ 281474976710656) : rqE h l w (gX 5 (i / 1000) ++ [d3 (i % 1000)]) = some (h, l, i, w) := by
  have hm : i % 1000 < 1000 := Nat.mod_lt _ (by decide)
  have e : (gX 5 (i / 1000) ++ [d3 (i % 1000)]).flatMap rqX = ixD i := by
    rw [List.flatMap_append, gX_flat]
    simp [rqX_d3 hm, ixD]
  have hd : Lib.decFrom 0 (ixD i) = some i := by
    unfold ixD
    rw [decFrom_app, gD_dec 5 (i / 1000) (by omega), Option.bind_some, d3_dec hm]
    congr 1
    omega
  unfold rqE
  rw [e, if_pos (fun x hx => ?_), stz_num (by simp [ixD, d3]) hd hi]
  · rfl
  · rcases List.mem_append.1 hx with hx | hx
    · obtain ⟨m, _, rfl⟩ := gX_x _ _ x hx
      simp [rqX, d3]
    · rw [show x = d3 (i % 1000) by simpa using hx, rqX_d3 hm]
      simp [d3]
theorem getD_end2 (A : List (List UInt8)) (x y : List UInt8) : (A ++ [x, y]).getD ((A ++ [x, y]).length - 2) [] = x ∧ (A ++ [x, y]).getD ((A ++ [x, y]).length - 1) [] = y ∧ (A ++ [x, y]).take ((A ++ [x, y]).length - 2) = A := by
  have h2 : (A ++ [x, y]).length - 2 = A.length := by simp
  have h1 : (A ++ [x, y]).length - 1 = A.length + 1 := by simp
  refine ⟨?_, ?_, ?_⟩
  · rw [h2, List.getD_eq_getElem?_getD, List.getElem?_append_right (Nat.le_refl _), Nat.sub_self]
    rfl
  · rw [h1, List.getD_eq_getElem?_getD, List.getElem?_append_right (by omega), show A.length + 1 - A.length = 1 by omega]
    rfl
  · rw [h2, List.take_left]
theorem rqT_full {h l i : Nat} (hi : i ≤ 281474976710656) : rqT h l (gX 5 (i / 1000) ++ [d3 (i % 1000)]) = some (h, l, i, 2 ^ h) := by
  have hp : rqP (gX 5 (i / 1000) ++ [d3 (i % 1000)]) = false := by
    rcases List.eq_nil_or_concat (gX 5 (i / 1000)) with e | ⟨A, x, e⟩
    · rw [e]
      rfl
    · obtain ⟨m, hm, rfl⟩ := gX_x 5 (i / 1000) x (by rw [e]; simp)
      rw [e, List.concat_eq_append, List.append_assoc, show ([120 :: d3 m] ++ [d3 (i % 1000)] : List (List UInt8)) = [120 :: d3 m, d3 (i % 1000)] from rfl]
      unfold rqP
      rw [(getD_end2 A (120 :: d3 m) (d3 (i % 1000))).1]
      have hne : (120 :: d3 m : List UInt8).drop ((120 :: d3 m : List UInt8).length - 2) ≠ [46, 112] := by
        intro h
        have h1 := (d3_dg hm (UInt8.ofNat (48 + m / 10 % 10)) (by simp [d3])).ne.1
        simp [d3] at h
        exact h1 (by simpa using h.1)
      rw [decide_eq_false hne]
      simp
  unfold rqT
  rw [hp, if_neg (by decide), rqE_ix hi]
theorem rqT_part {h l i n : Nat} (hi : i ≤ 281474976710656) (hn : n ≤ 281474976710656) : rqT h l (gX 5 (i / 1000) ++ [d3 (i % 1000) ++ [46, 112], Lib.decDigits n]) = some (h, l, i, n) := by
  obtain ⟨e1, e2, e3⟩ := getD_end2 (gX 5 (i / 1000)) (d3 (i % 1000) ++ [46, 112]) (Lib.decDigits n)
  have hp : rqP (gX 5 (i / 1000) ++ [d3 (i % 1000) ++ [46, 112], Lib.decDigits n]) = true := by
    unfold rqP
    rw [e1]
    simp [d3]
  have hg : rqG (gX 5 (i / 1000) ++ [d3 (i % 1000) ++ [46, 112], Lib.decDigits n]) = gX 5 (i / 1000) ++ [d3 (i % 1000)] := by
    unfold rqG
    rw [e1, e3]
    simp [d3]
  unfold rqT
  rw [hp, if_pos rfl, e2, stz_num (dec_ne n) (dec_of n n (Nat.le_refl _)) hn, Option.bind_some, hg, rqE_ix hi]
theorem rq_path {h l i n : Nat} (hh : isH h) (hl : l ≤ 48) (hi : i < 281474976710656) (hn : n ≤ 2 ^ h) : rqR (pU h l i n) = some (h, l, i, n) := by
  have h8 := hh.2
  have hp := hh.pow
  have d1 : ∀ b ∈ Lib.decDigits h, b ≠ 47 := fun b hb => (dec_dg h h (Nat.le_refl _) b hb).ne.2.1
  have d2 : ∀ b ∈ Lib.decDigits l, b ≠ 47 := fun b hb => (dec_dg l l (Nat.le_refl _) b hb).ne.2.1
  have d4 : ∀ b ∈ Lib.decDigits n, b ≠ 47 := fun b hb => (dec_dg n n (Nat.le_refl _) b hb).ne.2.1
  have hm : i % 1000 < 1000 := Nat.mod_lt _ (by decide)
  have d3' : ∀ b ∈ d3 (i % 1000), b ≠ 47 := fun b hb => (d3_dg hm b hb).ne.2.1
  have key : ∀ Y : List UInt8, splitS (tileB ++ (Lib.decDigits h ++ [47] ++ (Lib.decDigits l ++ [47] ++ (ixF 5 (i / 1000) ++ Y)))) = tileW :: Lib.decDigits h :: Lib.decDigits l :: (gX 5 (i / 1000) ++ splitS Y) := by
    intro Y
    rw [show tileB ++ (Lib.decDigits h ++ [47] ++ (Lib.decDigits l ++ [47] ++ (ixF 5 (i / 1000) ++ Y))) = tileW ++ 47 :: (Lib.decDigits h ++ 47 :: (Lib.decDigits l ++ 47 :: (ixF 5 (i / 1000) ++ Y))) by simp [tileB, tileW]]
    rw [splitS_app _ (by decide), splitS_app _ d1, splitS_app _ d2, split_ix]
  have hrest : ∀ R : List (List UInt8), splitS (pU h l i n) = tileW :: Lib.decDigits h :: Lib.decDigits l :: (gX 5 (i / 1000) ++ R) → R ≠ [] → rqT h l (gX 5 (i / 1000) ++ R) = some (h, l, i, n) → rqR (pU h l i n) = some (h, l, i, n) := by
    intro R hsp hR ht
    unfold rqR
    rw [hsp]
    obtain ⟨p3, rest, hc⟩ : ∃ p3 rest, gX 5 (i / 1000) ++ R = p3 :: rest := by
      cases hg : gX 5 (i / 1000) ++ R with
      | nil => exact absurd (List.append_eq_nil_iff.1 hg).2 hR
      | cons a b => exact ⟨a, b, rfl⟩
    rw [hc] at ht ⊢
    simp only [if_true, stz_num (dec_ne h) (dec_of h h (Nat.le_refl _)) (by omega), stz_num (dec_ne l) (dec_of l l (Nat.le_refl _)) (by omega), Option.bind_some]
    rw [if_pos ⟨hh.1, h8⟩]
    exact ht
  by_cases hw : n < 2 ^ h
  · have e : pU h l i n = tileB ++ (Lib.decDigits h ++ [47] ++ (Lib.decDigits l ++ [47] ++ (ixF 5 (i / 1000) ++ ((d3 (i % 1000) ++ [46, 112]) ++ 47 :: Lib.decDigits n)))) := by
      unfold pU nmU ixP
      rw [if_pos hw]
      simp [markB]
    refine hrest [d3 (i % 1000) ++ [46, 112], Lib.decDigits n] ?_ (by simp) (rqT_part (by omega) (by omega))
    rw [e, key, splitS_app _ (fun b hb => ?_), splitS_no d4]
    rcases List.mem_append.1 hb with hb | hb
    · exact d3' b hb
    · simp at hb; rcases hb with rfl | rfl <;> decide
  · have e : pU h l i n = tileB ++ (Lib.decDigits h ++ [47] ++ (Lib.decDigits l ++ [47] ++ (ixF 5 (i / 1000) ++ d3 (i % 1000)))) := by
      unfold pU nmU ixP
      rw [if_neg hw]
    have e2 : n = 2 ^ h := by omega
    refine hrest [d3 (i % 1000)] ?_ (by simp) (by rw [rqT_full (by omega), ← e2])
    rw [e, key, splitS_no d3']
/-- A text out of which nothing is read is no tile's path. -/
theorem rq_none {s : List UInt8} (h : rqR s = none) : ¬ ∃ h l i n, tOK h l i n ∧ pathI h l i n = s := by
  rintro ⟨a, b, c, d, k, rfl⟩
  obtain ⟨H, L, I, N, rfl, rfl, rfl, rfl, hH, h1, h2, h3, h4⟩ := k.nats
  unfold pathI at h
  simp only [Int.toNat_natCast] at h
  rw [rq_path hH h1 h2 h4] at h
  cases h
theorem rq_some {s : List UInt8} {h l i n : Nat} (hr : rqR s = some (h, l, i, n)) {a b c d : Int} (k : tOK a b c d) (e : pathI a b c d = s) : a = h ∧ b = l ∧ c = i ∧ d = n := by
  obtain ⟨H, L, I, N, rfl, rfl, rfl, rfl, hH, h1, h2, h3, h4⟩ := k.nats
  subst e
  unfold pathI at hr
  simp only [Int.toNat_natCast] at hr
  rw [rq_path hH h1 h2 h4] at hr
  simp only [Option.some.injEq, Prod.mk.injEq] at hr
  omega
end Go.Proofs.YtnlpgkfmjlljdaaDoor
