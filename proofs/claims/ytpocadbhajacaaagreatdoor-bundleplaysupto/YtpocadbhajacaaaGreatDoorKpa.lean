/-
  Raw writes and what they make, without any program: files as a function, pieces of what is appended, entries and their raw writes.
-/
import Derived.Test.YtpocadbhajacaaaGreatDoorKna
namespace Go.Proofs.YtpocadbhajacaaaGreatDoor
open Go.RowKit
set_option linter.unusedVariables false

/-- A raw write. -/
structure Rw where
  k : Int
  n : ByteArray
  b : List Int
  s : Int
  t : ByteArray
def rCr (n : ByteArray) : Rw := ⟨1, n, [], 0, ByteArray.empty⟩
def rAp (n : ByteArray) (b : List Int) : Rw := ⟨2, n, b, 0, ByteArray.empty⟩
def rCu (n : ByteArray) (s : Int) : Rw := ⟨3, n, [], s, ByteArray.empty⟩
def rRm (n : ByteArray) : Rw := ⟨4, n, [], 0, ByteArray.empty⟩
def rRn (n t : ByteArray) : Rw := ⟨5, n, [], 0, t⟩

/-- Files by their names; one of them turned. -/
def upd (f : (ByteArray → Option (List Int))) (n : ByteArray) (v : Option (List Int)) : (ByteArray → Option (List Int)) := fun x => if x = n then v else f x
def fl (f : (ByteArray → Option (List Int))) (n : ByteArray) : List Int := (f n).getD []
theorem upd_same (f : (ByteArray → Option (List Int))) (n : ByteArray) (v : Option (List Int)) : upd f n v n = v := by simp [upd]
theorem upd_ne (f : (ByteArray → Option (List Int))) {n m : ByteArray} (v : Option (List Int)) (h : m ≠ n) : upd f n v m = f m := by simp [upd, h]
theorem upd_self (f : (ByteArray → Option (List Int))) (n : ByteArray) : upd f n (f n) = f := by
  funext x
  unfold upd
  split
  · rename_i h; rw [h]
  · rfl
theorem upd_upd (f : (ByteArray → Option (List Int))) (n : ByteArray) (v u : Option (List Int)) : upd (upd f n v) n u = upd f n u := by
  funext x
  unfold upd
  split <;> rfl
def doR (f : (ByteArray → Option (List Int))) (r : Rw) : (ByteArray → Option (List Int)) :=
  if r.k = 1 then upd f r.n (some [])
  else if r.k = 2 then upd f r.n (some (fl f r.n ++ r.b))
  else if r.k = 3 then upd f r.n (some ((fl f r.n).take r.s.toNat))
  else if r.k = 4 then upd f r.n none
  else if r.k = 5 then upd (upd f r.t (some (fl f r.n))) r.n none
  else f
theorem do_cr (f : (ByteArray → Option (List Int))) (n : ByteArray) : doR f (rCr n) = upd f n (some []) := rfl
theorem do_ap (f : (ByteArray → Option (List Int))) (n : ByteArray) (b : List Int) : doR f (rAp n b) = upd f n (some (fl f n ++ b)) := rfl
theorem do_cu (f : (ByteArray → Option (List Int))) (n : ByteArray) (s : Int) : doR f (rCu n s) = upd f n (some ((fl f n).take s.toNat)) := rfl
theorem do_rm (f : (ByteArray → Option (List Int))) (n : ByteArray) : doR f (rRm n) = upd f n none := rfl
theorem do_rn (f : (ByteArray → Option (List Int))) (n t : ByteArray) : doR f (rRn n t) = upd (upd f t (some (fl f n))) n none := rfl
def play (rs : List Rw) : (ByteArray → Option (List Int)) := rs.foldl doR (fun _ => none)
theorem play_app (a b : List Rw) : play (a ++ b) = b.foldl doR (play a) := by simp [play]
theorem play_snoc (a : List Rw) (r : Rw) : play (a ++ [r]) = doR (play a) r := by simp [play]

/-- A call that may be done. -/
def Leg (f : (ByteArray → Option (List Int))) (r : Rw) : Prop :=
  (∃ n, r = rCr n ∧ nmB n = true ∧ f n = none) ∨
  (∃ n b xs, r = rAp n b ∧ nmB n = true ∧ f n = some xs ∧ b ≠ [] ∧ isB b) ∨
  (∃ n k xs, r = rCu n k ∧ nmB n = true ∧ f n = some xs ∧ 0 ≤ k ∧ k < xs.length) ∨
  (∃ n xs, r = rRm n ∧ nmB n = true ∧ f n = some xs) ∨
  (∃ n t xs, r = rRn n t ∧ nmB n = true ∧ nmB t = true ∧ f n = some xs ∧ n ≠ t)
/-- A raw write that may be done. -/
def Lraw (s : Nat) (f : (ByteArray → Option (List Int))) (r : Rw) : Prop := Leg f r ∧ (r.k = 2 → (fl f r.n).length % s + r.b.length ≤ s)
theorem Leg.nm {f : (ByteArray → Option (List Int))} {r : Rw} (h : Leg f r) : nmB r.n = true := by
  rcases h with ⟨n, rfl, h, _⟩ | ⟨n, b, xs, rfl, h, _⟩ | ⟨n, k, xs, rfl, h, _⟩ | ⟨n, xs, rfl, h, _⟩ | ⟨n, t, xs, rfl, h, _⟩ <;> exact h
theorem Leg.b0 {f : (ByteArray → Option (List Int))} {r : Rw} (h : Leg f r) (hk : r.k ≠ 2) : r.b = [] := by
  rcases h with ⟨n, rfl, _⟩ | ⟨n, b, xs, rfl, _⟩ | ⟨n, k, xs, rfl, _⟩ | ⟨n, xs, rfl, _⟩ | ⟨n, t, xs, rfl, _⟩
  · rfl
  · exact absurd rfl hk
  · rfl
  · rfl
  · rfl
/-- Raw writes each of which may be done behind those ahead of it. -/
def Val (s : Nat) : (ByteArray → Option (List Int)) → List Rw → Prop
  | _, [] => True
  | f, r :: t => Lraw s f r ∧ Val s (doR f r) t
theorem Val_app (s : Nat) : ∀ (a b : List Rw) (f : (ByteArray → Option (List Int))), Val s f (a ++ b) ↔ Val s f a ∧ Val s (a.foldl doR f) b
  | [], b, f => by simp [Val]
  | r :: t, b, f => by simp [Val, Val_app s t b (doR f r), and_assoc]
/-! ### pieces -/
def edgeN (s had len k : Nat) : Nat := min (k * s - had % s) len
def cntN (s had len : Nat) : Nat := (had % s + len + s - 1) / s
theorem edge_zero (s had len : Nat) : edgeN s had len 0 = 0 := by simp [edgeN]
theorem edge_mono (s had len : Nat) {j k : Nat} (h : j ≤ k) : edgeN s had len j ≤ edgeN s had len k := by
  have h2 : j * s ≤ k * s := Nat.mul_le_mul_right _ h
  unfold edgeN
  omega
theorem edge_cut (s had len : Nat) {j k : Nat} (h : j ≤ k) : edgeN s had (edgeN s had len k) j = edgeN s had len j := by
  have h2 : j * s ≤ k * s := Nat.mul_le_mul_right _ h
  unfold edgeN
  omega
section
variable {s had len : Nat} (hs : 1 ≤ s)
include hs
theorem cnt_le : had % s + len ≤ cntN s had len * s := by
  have h1 : (had % s + len + s - 1) % s < s := Nat.mod_lt _ hs
  have h2 := Nat.div_add_mod (had % s + len + s - 1) s
  have h3 : cntN s had len * s = s * ((had % s + len + s - 1) / s) := Nat.mul_comm _ _
  omega
theorem cnt_lt {k : Nat} (hk : k < cntN s had len) : k * s < had % s + len := by
  have h1 : cntN s had len * s ≤ had % s + len + s - 1 := Nat.div_mul_le_self _ _
  have h2 : (k + 1) * s ≤ cntN s had len * s := Nat.mul_le_mul_right _ hk
  rw [Nat.add_mul] at h2
  omega
theorem edge_cnt {k : Nat} (hk : cntN s had len ≤ k) : edgeN s had len k = len := by
  have h1 := cnt_le (had := had) (len := len) hs
  have h2 : cntN s had len * s ≤ k * s := Nat.mul_le_mul_right _ hk
  unfold edgeN
  omega
theorem edge_mid {k : Nat} (h0 : 1 ≤ k) (hk : k < cntN s had len) : edgeN s had len k = k * s - had % s ∧ edgeN s had len k < len ∧ had % s < k * s := by
  have h1 := cnt_lt (had := had) (len := len) hs hk
  have h2 : 1 * s ≤ k * s := Nat.mul_le_mul_right _ h0
  have h3 : had % s < s := Nat.mod_lt _ hs
  unfold edgeN
  omega
theorem edge_step {k : Nat} (hl : 0 < len) (hk : k < cntN s had len) : edgeN s had len k < edgeN s had len (k + 1) := by
  have h1 := cnt_lt (had := had) (len := len) hs hk
  have h3 : had % s < s := Nat.mod_lt _ hs
  have h4 : (k + 1) * s = k * s + s := by rw [Nat.add_mul, Nat.one_mul]
  unfold edgeN
  omega
theorem edge_fits {k : Nat} (hk : k < cntN s had len) : (had + edgeN s had len k) % s + (edgeN s had len (k + 1) - edgeN s had len k) ≤ s := by
  have h4 : (k + 1) * s = k * s + s := by rw [Nat.add_mul, Nat.one_mul]
  have h3 : had % s < s := Nat.mod_lt _ hs
  by_cases h0 : k = 0
  · subst h0
    rw [edge_zero]
    unfold edgeN
    rw [Nat.add_zero]
    omega
  · obtain ⟨e1, e2, e3⟩ := edge_mid hs (by omega : 1 ≤ k) hk
    have e5 : had + (k * s - had % s) = (had / s + k) * s := by
      have := Nat.div_add_mod had s
      rw [Nat.add_mul, Nat.mul_comm (had / s) s]
      omega
    rw [e1, e5, Nat.mul_mod_left]
    unfold edgeN
    omega
theorem cnt_pos (hl : 0 < len) : 1 ≤ cntN s had len := by
  have h1 := cnt_le (had := had) (len := len) hs
  rcases Nat.eq_zero_or_pos (cntN s had len) with h | h
  · rw [h] at h1
    omega
  · exact h
theorem cnt_cut {k : Nat} (h0 : 1 ≤ k) : cntN s had (edgeN s had len k) = min k (cntN s had len) := by
  by_cases hk : cntN s had len ≤ k
  · rw [edge_cnt hs hk]
    omega
  · obtain ⟨e1, e2, e3⟩ := edge_mid hs h0 (by omega : k < cntN s had len)
    rw [e1]
    unfold cntN at hk ⊢
    have e : had % s + (k * s - had % s) + s - 1 = s - 1 + k * s := by omega
    rw [e, Nat.add_mul_div_right _ _ hs, Nat.div_eq_of_lt (by omega)]
    omega
theorem cnt_bd : cntN s had len ≤ len + 1 := by
  by_cases hc : cntN s had len ≤ len + 1
  · exact hc
  · have h1 := cnt_lt (had := had) (len := len) hs (k := len + 1) (by omega)
    have h3 : had % s < s := Nat.mod_lt _ hs
    have h4 : (len + 1) * s = len * s + s := by rw [Nat.add_mul, Nat.one_mul]
    have h5 : len * 1 ≤ len * s := Nat.mul_le_mul_left _ hs
    omega
end

end Go.Proofs.YtpocadbhajacaaaGreatDoor
