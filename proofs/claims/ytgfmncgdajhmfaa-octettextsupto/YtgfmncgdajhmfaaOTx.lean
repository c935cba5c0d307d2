/-
  Texts to the base 16 and 64, read back: plain facts. No program here.
-/
import Derived.Test.YtgfmncgdajhmfaaOB64
import Derived.Test.YtgfmncgdajhmfaaOHex
import Derived.Test.YtgfmncgdajhmfaaOHex2
namespace Go.Proofs.Ytgfmncgdajhmfaa
open Go.RowKit
set_option linter.unusedVariables false

/-- Numbers as letters, letters as numbers. -/
def tx (xs : List Int) : List UInt8 := xs.map fun x => x.toNat.toUInt8
def nums (S : List UInt8) : List Int := S.map fun c => (c.toNat : Int)
theorem tx_nums : ∀ S : List UInt8, tx (nums S) = S
  | [] => rfl
  | c :: S => by
    show (c.toNat : Int).toNat.toUInt8 :: tx (nums S) = c :: S
    rw [tx_nums S]
    simp
theorem nums_length (S : List UInt8) : (nums S).length = S.length := by simp [nums]
theorem tx_length (xs : List Int) : (tx xs).length = xs.length := by simp [tx]
theorem tx_app (xs ys : List Int) : tx (xs ++ ys) = tx xs ++ tx ys := by simp [tx]
theorem str_data (xs : List Int) : (str xs).data.toList = tx xs := by
  simp [str, strOfNums, tx]
theorem str_of {xs : List Int} {s : ByteArray} (h : xs = nums s.data.toList) : str xs = s := by
  apply ByteArray.ext
  apply Array.toList_inj.1
  rw [str_data, h, tx_nums]

theorem fb_all (A S : List UInt8) : ¬ fb A S < S.length ↔ ∀ c ∈ S, 0 ≤ pl A c := by
  have hle := List.findIdx_le_length (p := fun c => decide (pl A c < 0)) (xs := S)
  constructor
  · intro h c hc
    have hlen : fb A S = S.length := by unfold fb at h ⊢; omega
    unfold fb at hlen
    have := List.findIdx_eq_length.1 hlen c hc
    simpa using this
  · intro h hlt
    have hlen : fb A S = S.length := by
      unfold fb
      exact List.findIdx_eq_length.2 (fun c hc => by have := h c hc; simpa using this)
    omega

/- Base 16. -/
theorem hd_hv_fin : ∀ y : Fin 16, hv ((hd (y.val : Int)).toNat.toUInt8) = (y.val : Int) := by decide +kernel
theorem hv_hd_fin : ∀ c : Fin 256, 0 ≤ hv (c.val.toUInt8) → hd (hv (c.val.toUInt8)) = (c.val : Int) ∧ hv (c.val.toUInt8) ≤ 15 := by decide +kernel
theorem hv_hd (c : UInt8) (h : 0 ≤ hv c) : hd (hv c) = (c.toNat : Int) ∧ hv c ≤ 15 := by
  have := hv_hd_fin ⟨c.toNat, c.toNat_lt⟩
  simp only [UInt8.ofNat_toNat, Nat.toUInt8_eq] at this
  exact this h
theorem hd_hv (y : Int) (h0 : 0 ≤ y) (h1 : y < 16) : hv ((hd y).toNat.toUInt8) = y := by
  have := hd_hv_fin ⟨y.toNat, by omega⟩
  rw [show ((⟨y.toNat, by omega⟩ : Fin 16).val : Int) = y from by simp; omega] at this
  exact this
theorem unhexB_cons (a b : UInt8) (S : List UInt8) : unhexB (a :: b :: S) = (hv a * 16 + hv b) :: unhexB S := by
  unfold unhexB
  rw [show (a :: b :: S).length / 2 = S.length / 2 + 1 by simp; omega, List.range_succ_eq_map, List.map_cons, List.map_map]
  congr 1
theorem hex_back : ∀ S : List UInt8, S.length % 2 = 0 → (∀ c ∈ S, 0 ≤ hv c) → hexB (unhexB S) = nums S
  | [], _, _ => rfl
  | [a], h, _ => by simp at h
  | a :: b :: S, h, hc => by
    have ha := hv_hd a (hc a (by simp))
    have hb := hv_hd b (hc b (by simp))
    have h0 := hc a (by simp)
    have h1 := hc b (by simp)
    have ih := hex_back S (by simp at h; omega) (fun c hc' => hc c (by simp [hc']))
    rw [unhexB_cons]
    show hexB ((hv a * 16 + hv b) :: unhexB S) = (a.toNat : Int) :: (b.toNat : Int) :: nums S
    have e : hexB ((hv a * 16 + hv b) :: unhexB S) = [hd ((hv a * 16 + hv b) / 16), hd ((hv a * 16 + hv b) % 16)] ++ hexB (unhexB S) := by simp [hexB]
    rw [e, ih, show (hv a * 16 + hv b) / 16 = hv a by omega, show (hv a * 16 + hv b) % 16 = hv b by omega, ha.1, hb.1]
    rfl
theorem hex_forth : ∀ xs : List Int, isB xs → (∀ c ∈ tx (hexB xs), 0 ≤ hv c) ∧ unhexB (tx (hexB xs)) = xs
  | [], _ => ⟨by intro c hc; simp [hexB, tx] at hc, rfl⟩
  | x :: xs, h => by
    have hx := h x (by simp)
    obtain ⟨i1, i2⟩ := hex_forth xs (fun y hy => h y (by simp [hy]))
    have e : tx (hexB (x :: xs)) = (hd (x / 16)).toNat.toUInt8 :: (hd (x % 16)).toNat.toUInt8 :: tx (hexB xs) := by simp [hexB, tx]
    rw [e]
    refine ⟨?_, ?_⟩
    · intro c hc
      rcases List.mem_cons.1 hc with rfl | hc
      · rw [hd_hv _ (by omega) (by omega)]; omega
      rcases List.mem_cons.1 hc with rfl | hc
      · rw [hd_hv _ (by omega) (by omega)]; omega
      · exact i1 c hc
    · rw [unhexB_cons, hd_hv _ (by omega) (by omega), hd_hv _ (by omega) (by omega), i2]
      congr 1
      omega

/- Base 64. -/
def lv (c : UInt8) : Int := pl b64L c
theorem sx_lv_fin : ∀ y : Fin 64, lv ((sx (y.val : Int)).toNat.toUInt8) = (y.val : Int) := by decide +kernel
theorem lv_sx_fin : ∀ c : Fin 256, 0 ≤ lv (c.val.toUInt8) → sx (lv (c.val.toUInt8)) = (c.val : Int) ∧ lv (c.val.toUInt8) ≤ 63 := by decide +kernel
theorem lv_sx (c : UInt8) (h : 0 ≤ lv c) : sx (lv c) = (c.toNat : Int) ∧ lv c ≤ 63 := by
  have := lv_sx_fin ⟨c.toNat, c.toNat_lt⟩
  simp only [UInt8.ofNat_toNat, Nat.toUInt8_eq] at this
  exact this h
theorem sx_lv (y : Int) (h0 : 0 ≤ y) (h1 : y < 64) : lv ((sx y).toNat.toUInt8) = y := by
  have := sx_lv_fin ⟨y.toNat, by omega⟩
  rw [show ((⟨y.toNat, by omega⟩ : Fin 64).val : Int) = y from by simp; omega] at this
  exact this
theorem lv_61 : lv 61 = -1 := by decide +kernel

/-- Digits packed into bytes. -/
def pk (ds : List Int) : Int × Nat × List Int := ds.foldl stp (0, 0, [])
theorem stp_acc (v : Int) (h : Nat) (o p : List Int) (d : Int) : stp (v, h, o ++ p) d = ((stp (v, h, p) d).1, (stp (v, h, p) d).2.1, o ++ (stp (v, h, p) d).2.2) := by
  simp only [stp]
  split <;> simp
theorem fold_acc : ∀ (ds : List Int) (v : Int) (h : Nat) (o p : List Int), ds.foldl stp (v, h, o ++ p) = ((ds.foldl stp (v, h, p)).1, (ds.foldl stp (v, h, p)).2.1, o ++ (ds.foldl stp (v, h, p)).2.2)
  | [], _, _, _, _ => rfl
  | d :: ds, v, h, o, p => by
    rw [List.foldl_cons, List.foldl_cons, stp_acc]
    exact fold_acc ds _ _ o _
theorem pk_four (d0 d1 d2 d3 : Int) (ds : List Int) (h0 : 0 ≤ d0 ∧ d0 ≤ 63) (h1 : 0 ≤ d1 ∧ d1 ≤ 63) (h2 : 0 ≤ d2 ∧ d2 ≤ 63) (h3 : 0 ≤ d3 ∧ d3 ≤ 63) :
    pk (d0 :: d1 :: d2 :: d3 :: ds) = ((pk ds).1, (pk ds).2.1, [d0 * 4 + d1 / 16, d1 % 16 * 16 + d2 / 4, d2 % 4 * 64 + d3] ++ (pk ds).2.2) := by
  unfold pk
  rw [List.foldl_cons, stp0, List.foldl_cons, stp6, List.foldl_cons, stp4, List.foldl_cons, stp2]
  have e : ([] : List Int) ++ [((0 * 64 + d0) * 64 + d1) / 16 % 256] ++ [(((0 * 64 + d0) * 64 + d1) % 16 * 64 + d2) / 4 % 256] ++ [((((0 * 64 + d0) * 64 + d1) % 16 * 64 + d2) % 4 * 64 + d3) % 256] = [d0 * 4 + d1 / 16, d1 % 16 * 16 + d2 / 4, d2 % 4 * 64 + d3] ++ [] := by
    simp only [List.nil_append, List.cons_append, List.append_nil, List.cons.injEq, and_true]
    refine ⟨by omega, by omega, by omega⟩
  rw [e, fold_acc]
theorem grpAt_succ (a b c : Int) (xs : List Int) (i : Nat) : grpAt (a :: b :: c :: xs) (i + 1) = grpAt xs i := by
  have e1 : List.drop (3 * (i + 1)) (a :: b :: c :: xs) = List.drop (3 * i) xs := by
    rw [show 3 * (i + 1) = 3 * i + 3 by omega]; rfl
  have e2 : (a :: b :: c :: xs).length - 3 * (i + 1) = xs.length - 3 * i := by simp only [List.length_cons]; omega
  unfold grpAt
  rw [e1, e2]
theorem grpAt_zero (a b c : Int) (xs : List Int) : grpAt (a :: b :: c :: xs) 0 = four (num [a, b, c]) 3 := by
  have e2 : min 3 ((a :: b :: c :: xs).length - 3 * 0) = 3 := by simp only [List.length_cons]; omega
  unfold grpAt
  rw [e2]
  rfl
theorem b64B_cons (a b c : Int) (xs : List Int) : b64B (a :: b :: c :: xs) = four (num [a, b, c]) 3 ++ b64B xs := by
  have e : ((a :: b :: c :: xs).length + 2) / 3 = (xs.length + 2) / 3 + 1 := by simp only [List.length_cons]; omega
  unfold b64B b64To
  rw [e, List.range_succ_eq_map, List.flatMap_cons, grpAt_zero, List.flatMap_map]
  congr 1
  have : (fun i => grpAt (a :: b :: c :: xs) (Nat.succ i)) = grpAt xs := funext fun i => grpAt_succ a b c xs i
  rw [this]
theorem b64B_two (a b : Int) : b64B [a, b] = four (num [a, b]) 2 := by
  have e : ([a, b].length + 2) / 3 = 1 := by simp
  have g : grpAt [a, b] 0 = four (num [a, b]) 2 := by simp [grpAt]
  unfold b64B b64To
  rw [e, show List.range 1 = [0] from rfl]
  simp [g]
theorem b64B_one (a : Int) : b64B [a] = four (num [a]) 1 := by
  have e : ([a].length + 2) / 3 = 1 := by simp
  have g : grpAt [a] 0 = four (num [a]) 1 := by simp [grpAt]
  unfold b64B b64To
  rw [e, show List.range 1 = [0] from rfl]
  simp [g]

theorem four3 (x y z t : Int) (hx : 0 ≤ x ∧ x ≤ 63) (hy : 0 ≤ y ∧ y ≤ 63) (hz : 0 ≤ z ∧ z ≤ 63) (ht : 0 ≤ t ∧ t ≤ 63) : four (num [x * 4 + y / 16, y % 16 * 16 + z / 4, z % 4 * 64 + t]) 3 = [sx x, sx y, sx z, sx t] := by
  have e : num [x * 4 + y / 16, y % 16 * 16 + z / 4, z % 4 * 64 + t] = x * 262144 + y * 4096 + z * 64 + t := by
    show (x * 4 + y / 16) * 65536 + (y % 16 * 16 + z / 4) * 256 + (z % 4 * 64 + t) = _
    omega
  unfold four
  rw [e, show (x * 262144 + y * 4096 + z * 64 + t) / 262144 % 64 = x by omega, show (x * 262144 + y * 4096 + z * 64 + t) / 4096 % 64 = y by omega, show (x * 262144 + y * 4096 + z * 64 + t) / 64 % 64 = z by omega, show (x * 262144 + y * 4096 + z * 64 + t) % 64 = t by omega]
  rfl
theorem four2 (x y z : Int) (hx : 0 ≤ x ∧ x ≤ 63) (hy : 0 ≤ y ∧ y ≤ 63) (hz : 0 ≤ z ∧ z ≤ 63) (hl : ((x * 64 + y) % 16 * 64 + z) % 4 = 0) : four (num [(x * 64 + y) / 16 % 256, ((x * 64 + y) % 16 * 64 + z) / 4 % 256]) 2 = [sx x, sx y, sx z, 61] := by
  have e : num [(x * 64 + y) / 16 % 256, ((x * 64 + y) % 16 * 64 + z) / 4 % 256] = x * 262144 + y * 4096 + z * 64 := by
    show (x * 64 + y) / 16 % 256 * 65536 + ((x * 64 + y) % 16 * 64 + z) / 4 % 256 * 256 + 0 = _
    omega
  unfold four
  rw [e, show (x * 262144 + y * 4096 + z * 64) / 262144 % 64 = x by omega, show (x * 262144 + y * 4096 + z * 64) / 4096 % 64 = y by omega, show (x * 262144 + y * 4096 + z * 64) / 64 % 64 = z by omega]
  rfl
theorem four1 (x y : Int) (hx : 0 ≤ x ∧ x ≤ 63) (hy : 0 ≤ y ∧ y ≤ 63) (hl : (x * 64 + y) % 16 = 0) : four (num [(x * 64 + y) / 16 % 256]) 1 = [sx x, sx y, 61, 61] := by
  have e : num [(x * 64 + y) / 16 % 256] = x * 262144 + y * 4096 := by
    show (x * 64 + y) / 16 % 256 * 65536 + 0 * 256 + 0 = _
    omega
  unfold four
  rw [e, show (x * 262144 + y * 4096) / 262144 % 64 = x by omega, show (x * 262144 + y * 4096) / 4096 % 64 = y by omega]
  rfl
theorem pk_two (x y : Int) : pk [x, y] = ((x * 64 + y) % 16, 4, [(x * 64 + y) / 16 % 256]) := by
  show List.foldl stp (0, 0, []) [x, y] = _
  rw [List.foldl_cons, stp0, List.foldl_cons, stp6]
  simp
theorem pk_three (x y z : Int) : pk [x, y, z] = (((x * 64 + y) % 16 * 64 + z) % 4, 2, [(x * 64 + y) / 16 % 256, ((x * 64 + y) % 16 * 64 + z) / 4 % 256]) := by
  show List.foldl stp (0, 0, []) [x, y, z] = _
  rw [List.foldl_cons, stp0, List.foldl_cons, stp6, List.foldl_cons, stp4]
  simp

/-- What was read is written again: over the digits' values. -/
theorem b64_vals : ∀ (n : Nat) (ds : List Int) (p : Nat), ds.length ≤ n → (∀ d ∈ ds, 0 ≤ d ∧ d ≤ 63) → (ds.length + p) % 4 = 0 → p ≤ 2 → (pk ds).1 = 0 → b64B (pk ds).2.2 = ds.map sx ++ List.replicate p 61 := by
  intro n
  induction n with
  | zero =>
    intro ds p hn _ h hp _
    obtain rfl : ds = [] := List.eq_nil_of_length_eq_zero (by omega)
    have : p = 0 := by simp at h; omega
    subst this
    rfl
  | succ n ih =>
    intro ds p hn hd h hp hl
    match ds, hn, hd, h, hl with
    | [], _, _, h, _ =>
      have : p = 0 := by simp at h; omega
      subst this
      rfl
    | [a], _, _, h, _ => simp at h; omega
    | [a, b], _, hd, h, hl =>
      have : p = 2 := by simp at h; omega
      subst this
      rw [pk_two] at hl ⊢
      simp only
      rw [b64B_one, four1 a b (hd a (by simp)) (hd b (by simp)) hl]
      rfl
    | [a, b, c], _, hd, h, hl =>
      have : p = 1 := by simp at h; omega
      subst this
      rw [pk_three] at hl ⊢
      simp only
      rw [b64B_two, four2 a b c (hd a (by simp)) (hd b (by simp)) (hd c (by simp)) hl]
      rfl
    | a :: b :: c :: d :: ds, hn, hd, h, hl =>
      have e := pk_four a b c d ds (hd a (by simp)) (hd b (by simp)) (hd c (by simp)) (hd d (by simp))
      rw [e] at hl ⊢
      have i := ih ds p (by simp only [List.length_cons] at hn; omega) (fun x hx => hd x (by simp [hx])) (by simp only [List.length_cons] at h; omega) hp hl
      simp only [List.cons_append, List.nil_append]
      rw [b64B_cons, i, four3 a b c d (hd a (by simp)) (hd b (by simp)) (hd c (by simp)) (hd d (by simp))]
      rfl
theorem map_sx_lv : ∀ D : List UInt8, (∀ c ∈ D, 0 ≤ lv c) → (D.map lv).map sx = nums D
  | [], _ => rfl
  | c :: D, h => by
    rw [List.map_cons, List.map_cons, (lv_sx c (h c (by simp))).1, map_sx_lv D (fun x hx => h x (by simp [hx]))]
    rfl
theorem b64_back (D : List UInt8) (p : Nat) (hc : ∀ c ∈ D, 0 ≤ lv c) (h : (D.length + p) % 4 = 0) (hp : p ≤ 2) (hl : (pk (D.map lv)).1 = 0) : b64B (pk (D.map lv)).2.2 = nums D ++ List.replicate p 61 := by
  have hm := map_sx_lv D hc
  have hb : ∀ d ∈ D.map lv, 0 ≤ d ∧ d ≤ 63 := fun d hd => by
    obtain ⟨c, hc', e⟩ := List.mem_map.1 hd
    subst e
    exact ⟨hc c hc', (lv_sx c (hc c hc')).2⟩
  have hn : (D.map lv).length = D.length := List.length_map _
  revert hm hb hn hl
  generalize D.map lv = ds
  intro hl hm hb hn
  have e := b64_vals ds.length ds p (Nat.le_refl _) hb (by rw [hn]; exact h) hp hl
  rw [hm] at e
  exact e

set_option maxHeartbeats 1000000 in
/-- What is written is read again: its digits, and how many letters fill. -/
theorem b64_forth : ∀ xs : List Int, isB xs → ∃ (D : List UInt8) (p : Nat), tx (b64B xs) = D ++ List.replicate p 61 ∧ p ≤ 2 ∧ (D.length + p) % 4 = 0 ∧ (∀ c ∈ D, 0 ≤ lv c) ∧ (pk (D.map lv)).1 = 0 ∧ (pk (D.map lv)).2.2 = xs
  | [], _ => ⟨[], 0, rfl, by omega, rfl, by simp, rfl, rfl⟩
  | [a], h => by
    have ha := h a (by simp)
    have q0 := sx_lv (a * 65536 / 262144 % 64) (by omega) (by omega)
    have q1 := sx_lv (a * 65536 / 4096 % 64) (by omega) (by omega)
    refine ⟨[(sx (a * 65536 / 262144 % 64)).toNat.toUInt8, (sx (a * 65536 / 4096 % 64)).toNat.toUInt8], 2, ?_, by omega, by simp, ?_, ?_, ?_⟩
    · rw [b64B_one]
      unfold four num
      simp [tx, List.replicate]
    · intro c hc
      simp only [List.mem_cons, List.not_mem_nil, or_false] at hc
      rcases hc with rfl | rfl
      · rw [q0]; omega
      · rw [q1]; omega
    · simp only [List.map_cons, List.map_nil, q0, q1]
      unfold pk
      rw [List.foldl_cons, stp0, List.foldl_cons, stp6]
      simp only [List.foldl_nil]
      omega
    · simp only [List.map_cons, List.map_nil, q0, q1]
      unfold pk
      rw [List.foldl_cons, stp0, List.foldl_cons, stp6]
      simp only [List.foldl_nil, List.nil_append, List.cons.injEq, and_true]
      omega
  | [a, b], h => by
    have ha := h a (by simp)
    have hb := h b (by simp)
    have q0 := sx_lv ((a * 65536 + b * 256) / 262144 % 64) (by omega) (by omega)
    have q1 := sx_lv ((a * 65536 + b * 256) / 4096 % 64) (by omega) (by omega)
    have q2 := sx_lv ((a * 65536 + b * 256) / 64 % 64) (by omega) (by omega)
    refine ⟨[(sx ((a * 65536 + b * 256) / 262144 % 64)).toNat.toUInt8, (sx ((a * 65536 + b * 256) / 4096 % 64)).toNat.toUInt8, (sx ((a * 65536 + b * 256) / 64 % 64)).toNat.toUInt8], 1, ?_, by omega, by simp, ?_, ?_, ?_⟩
    · rw [b64B_two]
      unfold four num
      simp [tx, List.replicate]
    · intro c hc
      simp only [List.mem_cons, List.not_mem_nil, or_false] at hc
      rcases hc with rfl | rfl | rfl
      · rw [q0]; omega
      · rw [q1]; omega
      · rw [q2]; omega
    · simp only [List.map_cons, List.map_nil, q0, q1, q2]
      unfold pk
      rw [List.foldl_cons, stp0, List.foldl_cons, stp6, List.foldl_cons, stp4]
      simp only [List.foldl_nil]
      omega
    · simp only [List.map_cons, List.map_nil, q0, q1, q2]
      unfold pk
      rw [List.foldl_cons, stp0, List.foldl_cons, stp6, List.foldl_cons, stp4]
      simp only [List.foldl_nil, List.nil_append, List.cons_append, List.cons.injEq, and_true]
      omega
  | a :: b :: c :: xs, h => by
    have ha := h a (by simp)
    have hb := h b (by simp)
    have hc := h c (by simp)
    obtain ⟨D, p, e1, e2, e3, e4, e5, e6⟩ := b64_forth xs (fun y hy => h y (by simp [hy]))
    have q0 := sx_lv ((a * 65536 + b * 256 + c) / 262144 % 64) (by omega) (by omega)
    have q1 := sx_lv ((a * 65536 + b * 256 + c) / 4096 % 64) (by omega) (by omega)
    have q2 := sx_lv ((a * 65536 + b * 256 + c) / 64 % 64) (by omega) (by omega)
    have q3 := sx_lv ((a * 65536 + b * 256 + c) % 64) (by omega) (by omega)
    refine ⟨(sx ((a * 65536 + b * 256 + c) / 262144 % 64)).toNat.toUInt8 :: (sx ((a * 65536 + b * 256 + c) / 4096 % 64)).toNat.toUInt8 :: (sx ((a * 65536 + b * 256 + c) / 64 % 64)).toNat.toUInt8 :: (sx ((a * 65536 + b * 256 + c) % 64)).toNat.toUInt8 :: D, p, ?_, e2, by simp only [List.length_cons]; omega, ?_, ?_, ?_⟩
    · rw [b64B_cons, tx_app, e1]
      unfold four num
      simp [tx]
    · intro x hx
      simp only [List.mem_cons] at hx
      rcases hx with rfl | rfl | rfl | rfl | hx
      · rw [q0]; omega
      · rw [q1]; omega
      · rw [q2]; omega
      · rw [q3]; omega
      · exact e4 x hx
    · simp only [List.map_cons, q0, q1, q2, q3]
      rw [pk_four _ _ _ _ _ (by omega) (by omega) (by omega) (by omega)]
      exact e5
    · simp only [List.map_cons, q0, q1, q2, q3]
      rw [pk_four _ _ _ _ _ (by omega) (by omega) (by omega) (by omega), e6]
      simp only [List.cons_append, List.nil_append, List.cons.injEq, and_true]
      refine ⟨by omega, by omega, by omega⟩

end Go.Proofs.Ytgfmncgdajhmfaa
