/-
  Texts one behind the other: Skb Skd Ske Frg Jrg Skf Fkr Sck Skr Scu Spu Skc Tpc.
-/
import Derived.Test.YtlgcjdgcgnlcaaaGreatDoorSka
import Derived.Test.YtlgcjdgcgnlcaaaGreatDoorKmh
import Derived.Test.YtlgcjdgcgnlcaaaGreatDoorTpb
import Derived.Test.YtlgcjdgcgnlcaaaGreatDoorKql
import Derived.Test.YtlgcjdgcgnlcaaaGreatDoorIs
import Derived.Test.YtlgcjdgcgnlcaaaGreatDoorSdg
import Derived.Test.YtlgcjdgcgnlcaaaGreatDoorOu
import Derived.Deep.Cut

/-
  What Put leaves of a level, without any program: a level that was filled from nothing, digest by digest; what a loss of power leaves of it.
-/
namespace Go.Proofs.YtlgcjdgcgnlcaaaGreatDoor
open Go.RowKit
set_option linter.unusedVariables false
set_option linter.unusedSimpArgs false

/-- What Put writes: a file where there is none, and a digest. -/
def puW (s : Nat) (rs : List Rw) (n : ByteArray) (x : List Int) : List Rw := apS s (crS rs n) n x
/-- The level 0 has just these digests, and there is no other file. -/
structure FS (F : ByteArray → Option (List Int)) (h : Nat) (xs : List (List Int)) : Prop where
  at' : ∀ i, i * 2 ^ h < xs.length → F (sN h 0 i) = some (((xs.drop (i * 2 ^ h)).take (2 ^ h)).flatten)
  no : ∀ n, (∀ i, i * 2 ^ h < xs.length → n ≠ sN h 0 i) → F n = none
/-- Digests have 32 bytes each. -/
def D32 (xs : List (List Int)) : Prop := ∀ x ∈ xs, x.length = 32
theorem D32.flat : ∀ {xs : List (List Int)}, D32 xs → xs.flatten.length = 32 * xs.length
  | [], _ => rfl
  | x :: t, k => by
    have h1 := k x (by simp)
    have h2 : t.flatten.length = 32 * t.length := D32.flat (fun y hy => k y (List.mem_cons_of_mem _ hy))
    rw [List.flatten_cons, List.length_append, List.length_cons, h1, h2]
    omega
theorem D32.take {xs : List (List Int)} (k : D32 xs) (n : Nat) : D32 (xs.take n) := fun x hx => k x (List.mem_of_mem_take hx)
theorem D32.drop {xs : List (List Int)} (k : D32 xs) (n : Nat) : D32 (xs.drop n) := fun x hx => k x (List.mem_of_mem_drop hx)
/-- The first tiles of the level 0 may be. -/
theorem tFB_low {h i : Nat} (hh : isH h) (k : (i + 1) * 2 ^ h ≤ 281474976710656) : tFB h 0 i = true := by
  rw [tFB_iff hh, tOv_zero]
  exact k
theorem tFB_in {h i m : Nat} (hh : isH h) (k : i * 2 ^ h ≤ m) (hm : m ≤ 1099511627776) : tFB h 0 i = true := by
  have := hh.pow.2
  refine tFB_low hh ?_
  rw [Nat.add_mul, Nat.one_mul]
  omega
theorem FS.nil (h : Nat) : FS (fun _ => none) h [] := ⟨fun i hi => by simp at hi, fun n _ => rfl⟩
theorem FS.ext {F G : ByteArray → Option (List Int)} {h : Nat} {xs : List (List Int)} (a : FS F h xs) (b : FS G h xs) : F = G := by
  funext n
  by_cases k : ∃ i, i * 2 ^ h < xs.length ∧ n = sN h 0 i
  · obtain ⟨i, hi, rfl⟩ := k
    rw [a.at' i hi, b.at' i hi]
  · rw [a.no n (fun i hi e => k ⟨i, hi, e⟩), b.no n (fun i hi e => k ⟨i, hi, e⟩)]
section
variable {F : ByteArray → Option (List Int)} {h : Nat} {xs : List (List Int)}
theorem FS.len (k : FS F h xs) (hx : D32 xs) {i : Nat} (hi : i * 2 ^ h < xs.length) : (fl F (sN h 0 i)).length = 32 * min (2 ^ h) (xs.length - i * 2 ^ h) := by
  have e : fl F (sN h 0 i) = ((xs.drop (i * 2 ^ h)).take (2 ^ h)).flatten := by unfold fl; rw [k.at' i hi]; rfl
  rw [e, ((hx.drop _).take _).flat, List.length_take, List.length_drop]
theorem FS.off (k : FS F h xs) (hh : isH h) (hn : xs.length ≤ 1099511627776) {i : Nat} (hi : xs.length ≤ i * 2 ^ h) : F (sN h 0 i) = none := by
  refine k.no _ (fun j hj e => ?_)
  have e2 := (sN_inj (tFB_in hh (Nat.le_of_lt hj) hn) e.symm).2.2
  subst e2
  omega
theorem quo_lt {n w j : Nat} (hw : 0 < w) (hj : j < n) : j / w * w < n := by
  have := Nat.div_mul_le_self j w
  omega
theorem FS.cn (k : FS F h xs) (hh : isH h) (hx : D32 xs) (hn : xs.length ≤ 1099511627776) : Cn F h 0 xs.length := by
  have hp := Nat.two_pow_pos h
  constructor
  · intro j hj
    have e := Nat.div_add_mod j (2 ^ h)
    have m := Nat.mod_lt j hp
    unfold hasD
    rw [k.len hx (quo_lt hp hj)]
    rw [Nat.mul_comm] at e
    simp only [decide_eq_true_eq]
    omega
  · have e := Nat.div_add_mod xs.length (2 ^ h)
    have m := Nat.mod_lt xs.length hp
    rw [Nat.mul_comm] at e
    unfold hasD
    by_cases h0 : xs.length / 2 ^ h * 2 ^ h < xs.length
    · rw [k.len hx h0]
      simp only [decide_eq_false_iff_not]
      omega
    · rw [fl_none (k.off hh hn (by omega))]
      simp
/-- The file in which the next digest would come. -/
theorem FS.next (k : FS F h xs) (hh : isH h) (hx : D32 xs) (hn : xs.length ≤ 1099511627776) : (fl F (sN h 0 (xs.length / 2 ^ h))).length = 32 * (xs.length % 2 ^ h) ∧ (xs.length % 2 ^ h = 0 → F (sN h 0 (xs.length / 2 ^ h)) = none) ∧ (xs.length % 2 ^ h ≠ 0 → ∃ ys, F (sN h 0 (xs.length / 2 ^ h)) = some ys) := by
  have hp := Nat.two_pow_pos h
  have e := Nat.div_add_mod xs.length (2 ^ h)
  have m := Nat.mod_lt xs.length hp
  rw [Nat.mul_comm] at e
  by_cases h0 : xs.length % 2 ^ h = 0
  · have := k.off hh hn (i := xs.length / 2 ^ h) (by omega)
    exact ⟨by rw [fl_none this, h0]; rfl, fun _ => this, fun h1 => absurd h0 h1⟩
  · have hlt : xs.length / 2 ^ h * 2 ^ h < xs.length := by omega
    refine ⟨?_, fun h1 => absurd h1 h0, fun _ => ⟨_, k.at' _ hlt⟩⟩
    rw [k.len hx hlt]
    omega
/-- A digest more. -/
theorem FS.snoc (k : FS F h xs) (hh : isH h) (hx : D32 xs) (hn : xs.length + 1 ≤ 1099511627776) (x : List Int) : FS (upd F (sN h 0 (xs.length / 2 ^ h)) (some (fl F (sN h 0 (xs.length / 2 ^ h)) ++ x))) h (xs ++ [x]) := by
  have hp := Nat.two_pow_pos h
  have e := Nat.div_add_mod xs.length (2 ^ h)
  have m := Nat.mod_lt xs.length hp
  rw [Nat.mul_comm] at e
  have hq : tFB h 0 (xs.length / 2 ^ h) = true := tFB_in hh (m := xs.length) (by omega) (by omega)
  constructor
  · intro i hi
    rw [List.length_append, List.length_cons, List.length_nil] at hi
    by_cases hi2 : i = xs.length / 2 ^ h
    · subst hi2
      rw [upd_same]
      by_cases h0 : xs.length % 2 ^ h = 0
      · have hoff := k.off hh (by omega) (i := xs.length / 2 ^ h) (by omega)
        rw [fl_none hoff, show xs.length / 2 ^ h * 2 ^ h = xs.length by omega, List.drop_left]
        rw [List.take_of_length_le (by simp; omega)]
        simp
      · have hlt : xs.length / 2 ^ h * 2 ^ h < xs.length := by omega
        have e1 : fl F (sN h 0 (xs.length / 2 ^ h)) = ((xs.drop (xs.length / 2 ^ h * 2 ^ h)).take (2 ^ h)).flatten := by unfold fl; rw [k.at' _ hlt]; rfl
        rw [e1, List.drop_append_of_le_length (by omega), List.take_of_length_le (l := xs.drop _) (by rw [List.length_drop]; omega), List.take_of_length_le (by rw [List.length_append, List.length_drop]; simp; omega)]
        simp
    · have hlt : i < xs.length / 2 ^ h := by
        have h1 : i ≤ xs.length / 2 ^ h := by
          rw [Nat.le_div_iff_mul_le hp]
          omega
        omega
      have h2 := Nat.mul_le_mul_right (2 ^ h) (show i + 1 ≤ xs.length / 2 ^ h from hlt)
      rw [Nat.add_mul, Nat.one_mul] at h2
      rw [upd_ne _ _ (fun e => hi2 (sN_inj (tFB_in hh (m := xs.length) (by omega) (by omega)) e).2.2), k.at' i (by omega), List.drop_append_of_le_length (by omega), List.take_append_of_le_length (by rw [List.length_drop]; omega)]
  · intro n hne
    rw [upd_ne _ _ (hne _ (by rw [List.length_append]; simp; omega))]
    exact k.no n (fun i hi => hne i (by rw [List.length_append]; omega))
theorem FS.nmd (k : FS F h xs) (hh : isH h) (hn : xs.length ≤ 1099511627776) : Nmd F := by
  intro n hn2
  refine k.no n (fun i hi e => ?_)
  rw [e, sN_nm (tFB_in hh (Nat.le_of_lt hi) hn)] at hn2
  cases hn2
/-- The digest j. -/
theorem flat_at : ∀ (ys : List (List Int)) (j : Nat), D32 ys → j < ys.length → (ys.flatten.drop (j * 32)).take 32 = ys.getD j []
  | [], j, _, hj => by simp at hj
  | y :: t, 0, k, _ => by
    have h1 := k y (by simp)
    simp [List.take_append_of_le_length (Nat.le_of_eq h1.symm), List.take_of_length_le (Nat.le_of_eq h1)]
  | y :: t, j + 1, k, hj => by
    have h1 := k y (by simp)
    have ih := flat_at t j (fun z hz => k z (List.mem_cons_of_mem _ hz)) (by simpa using hj)
    rw [List.flatten_cons, Nat.add_mul, Nat.one_mul, List.drop_append, List.drop_of_length_le (by omega), List.nil_append, show j * 32 + 32 - y.length = j * 32 by omega, ih]
    simp
theorem FS.dg (k : FS F h xs) (hx : D32 xs) {j : Nat} (hj : j < xs.length) : Go.Proofs.YtlgcjdgcgnlcaaaGreatDoor.dg F h 0 j = xs.getD j [] := by
  have hp := Nat.two_pow_pos h
  have e := Nat.div_add_mod j (2 ^ h)
  have m := Nat.mod_lt j hp
  rw [Nat.mul_comm] at e
  have e1 : fl F (sN h 0 (j / 2 ^ h)) = ((xs.drop (j / 2 ^ h * 2 ^ h)).take (2 ^ h)).flatten := by unfold fl; rw [k.at' _ (quo_lt hp hj)]; rfl
  unfold Go.Proofs.YtlgcjdgcgnlcaaaGreatDoor.dg
  rw [e1, flat_at _ _ ((hx.drop _).take _) (by rw [List.length_take, List.length_drop]; omega)]
  simp only [List.getD, List.getElem?_take, List.getElem?_drop]
  rw [if_pos m, e]
end

/-! ### the raw writes of a Put -/
theorem crS_is {rs : List Rw} {n : ByteArray} (hn : nmB n = true) : crS rs n = if play rs n = none then rs ++ [rCr n] else rs := by
  unfold crS crE
  rw [if_pos hn]
  cases hf : play rs n with
  | none => simp
  | some xs => simp
/-- What Put's raw writes make, and those of a beginning of them. -/
theorem puW_play {s : Nat} {rs : List Rw} (hs : 1 ≤ s) (hv : Val s (fun _ => none) rs) {n : ByteArray} (hn : nmB n = true) {x : List Int} (h0 : x ≠ []) (hB : isB x) :
    Val s (fun _ => none) (puW s rs n x) ∧ play (puW s rs n x) = upd (play rs) n (some (fl (play rs) n ++ x)) ∧ wt (puW s rs n x) ≤ wt rs + 2 * x.length + 2 := by
  have key : ∀ qs : List Rw, Val s (fun _ => none) qs → (∃ ys, play qs n = some ys) → Val s (fun _ => none) (apS s qs n x) ∧ play (apS s qs n x) = upd (play qs) n (some (fl (play qs) n ++ x)) ∧ wt (apS s qs n x) ≤ wt qs + 2 * x.length + 1 := by
    rintro qs hq ⟨ys, hys⟩
    have e0 : fE qs n = 0 := by simp [fE, hn, hys]
    have e1 : apS s qs n x = qs ++ expd s ⟨rAp n x, qs.length, (fl (play qs) n).length⟩ := by unfold apS; rw [if_pos ⟨e0, h0⟩]
    have hl : Leg (play qs) (rAp n x) := .inr (.inl ⟨n, x, ys, rfl, hn, hys, h0, hB⟩)
    obtain ⟨d1, d2⟩ := expd_does hs (e := ⟨rAp n x, qs.length, (fl (play qs) n).length⟩) hl rfl
    rw [e1]
    refine ⟨(Val_app s qs _ _).2 ⟨hq, d2⟩, ?_, ?_⟩
    · rw [play_app]
      show List.foldl doR (play qs) _ = _
      rw [d1]
      exact do_ap _ _ _
    · rw [wt_app]
      have := expd_wt hs ⟨rAp n x, qs.length, (fl (play qs) n).length⟩
      change _ ≤ 2 * x.length + 1 at this
      omega
  unfold puW
  rw [crS_is hn]
  by_cases hf : play rs n = none
  · rw [if_pos hf]
    have e2 : play (rs ++ [rCr n]) = upd (play rs) n (some []) := by rw [play_snoc, do_cr]
    have hv2 : Val s (fun _ => none) (rs ++ [rCr n]) := (Val_app s rs _ _).2 ⟨hv, ⟨.inl ⟨n, rfl, hn, hf⟩, fun h => by simp [rCr] at h⟩, trivial⟩
    obtain ⟨a, b, c⟩ := key _ hv2 ⟨[], by rw [e2, upd_same]⟩
    refine ⟨a, ?_, ?_⟩
    · rw [b, e2, upd_upd, fl_upS]
      simp [fl_none hf]
    · rw [wt_app] at c
      have e : wt [rCr n] = 1 := rfl
      omega
  · rw [if_neg hf]
    obtain ⟨ys, hys⟩ : ∃ ys, play rs n = some ys := by
      cases h : play rs n with
      | none => exact absurd h hf
      | some ys => exact ⟨ys, rfl⟩
    obtain ⟨a, b, c⟩ := key _ hv ⟨ys, hys⟩
    exact ⟨a, b, by omega⟩

end Go.Proofs.YtlgcjdgcgnlcaaaGreatDoor

/-
  The names of tiles' files: the program's Name; isMade, check.
-/
namespace Go.Proofs.YtlgcjdgcgnlcaaaGreatDoor
open Go.RowKit
set_option linter.unusedVariables false
set_option linter.unusedSimpArgs false

/-- May the full tile of these numbers be? -/
def smB (h l i : Int) : Bool := decide (0 ≤ h) && decide (0 ≤ l) && decide (0 ≤ i) && tFB h.toNat l.toNat i.toNat
def smP (h l i : Int) : List UInt8 := if smB h l i = true then sP h.toNat l.toNat i.toNat else []
def smE (h l i : Int) : Int := if smB h l i = true then 0 else 2
theorem smB_nat (h l i : Nat) : smB (h : Int) (l : Int) (i : Int) = tFB h l i := by
  unfold smB
  simp only [Int.toNat_natCast]
  have a : decide ((0 : Int) ≤ (h : Int)) = true := by simp
  have b : decide ((0 : Int) ≤ (l : Int)) = true := by simp
  have c : decide ((0 : Int) ≤ (i : Int)) = true := by simp
  rw [a, b, c]
  simp
theorem smP_nat (h l i : Nat) : bA (smP (h : Int) (l : Int) (i : Int)) = sN h l i := by
  unfold smP sN
  rw [smB_nat]
  simp only [Int.toNat_natCast]
  by_cases k : tFB h l i = true
  · rw [if_pos k]
  · rw [if_neg k, sP_no (by simpa using k)]
theorem smB_nats {h l i : Int} (k : smB h l i = true) : ∃ H L I : Nat, h = H ∧ l = L ∧ i = I ∧ tFB H L I = true := by
  unfold smB at k
  simp only [Bool.and_eq_true, decide_eq_true_eq] at k
  exact ⟨h.toNat, l.toNat, i.toNat, by omega, by omega, by omega, k.2⟩
theorem smB_tOK {h l i : Int} {H : Nat} (e : h = (H : Int)) : smB h l i = true ↔ tOK h l i ((2 ^ H : Nat) : Int) := by
  constructor
  · intro k
    obtain ⟨H', L, I, e1, rfl, rfl, k⟩ := smB_nats k
    obtain rfl : H = H' := by omega
    rw [e]
    exact tFB_ok k
  · intro k
    obtain ⟨H', L, I, N, e1, rfl, rfl, e4, k1, k2, k3⟩ := k
    obtain rfl : H = H' := by omega
    rw [e, smB_nat]
    refine tFB_of k1 ?_
    have : 2 ^ H = N := Int.ofNat.inj e4
    omega
theorem smB_h {h l i : Int} (k : h < 1 ∨ 8 < h) : smB h l i = false := by
  cases e : smB h l i with
  | false => rfl
  | true =>
    obtain ⟨H, L, I, rfl, _, _, q⟩ := smB_nats e
    have := (tFB_is q).1
    have := this.1
    have := (tFB_is q).1.2
    omega
section
variable {dst : Option Tmp} {ty : TypeId} {pos : String} {aft : Array Edge} {gd : Option (Nat × Bool)} {ops : Array Oper} {rest : List Oper} {a : Act} {w : World} {Q : Exit → Act → World → Prop}
theorem step_buildT4 {x y z u : Operand} {h l i n : Int} (hw : Region.wanted ⟨dst, .build 43 #[(0, x), (1, y), (2, z), (3, u)], ty, pos, aft, gd⟩ (yielded ops a.tmps) = true) (hx : a.eval x = .int .i64 h) (hy : a.eval y = .int .i64 l) (hz : a.eval z = .int .i64 i) (hu : a.eval u = .int .i64 n)
    (k : wpList Tryz.prog ops Q rest (a.put dst (.agg (c4 h l i n).toArray)) w) : wpList Tryz.prog ops Q (⟨dst, .build 43 #[(0, x), (1, y), (2, z), (3, u)], ty, pos, aft, gd⟩ :: rest) a w :=
  step_run hw _ w (run_op (M := Instr.build 43 #[(0, .int .i64 h), (1, .int .i64 l), (2, .int .i64 i), (3, .int .i64 n)]) (by simp [execOp, hx, hy, hz, hu]) (by kernel_rfl)) k
end
theorem wrap_pow {H P : Nat} (hh : isH H) (hP : 2 ^ H = P) : wrap64 (2 ^ H) = (P : Int) := by
  have e : ((2 : Int) ^ H) = (P : Int) := by rw [← hP]; simp [Int.natCast_pow]
  have := hh.pow
  rw [e]
  unfold wrap64
  omega
set_option maxHeartbeats 1000000 in
theorem fullT_any (H P : Nat) (l i : Int) (w : World) (hh : isH H) (hP : 2 ^ H = P) : Calls Tryz.prog 67 #[.int .i64 (H : Int), .int .i64 l, .int .i64 i] w fun r w' => r = .returned (.agg (c4 (H : Int) l i (P : Int)).toArray) ∧ Below w.heap.size w w' := by
  obtain ⟨h1, h8⟩ := hh.ints
  have HW := hide (wrap_pow hh hP)
  clear hP hh
  go_enter Tryz.func67, Tryz.ntmps67
  go_wp2_with (refine step_alloc zT rfl ?_)
  intro w1 g1 hg1 hle1 hb1
  have HG := hide hg1
  clear hg1
  go_wp2_with (first | (rw [HW.out]) | (refine step_buildT4 rfl rfl rfl rfl rfl ?_) | (refine step_storeA wT rfl rfl rfl HG.out rfl (One.c4 _ _ _ _) rfl ?_; intro w2 hg2 hbut))
  refine bodyPost_ret (results_wide rfl wT _ _ rfl hg2 rfl) rfl ⟨rfl, ?_⟩
  exact hb1.trans (hbut.below hle1)
theorem empB : (.string { data := #[] } : Value) = .string (bA []) := rfl
set_option maxHeartbeats 1000000 in
theorem sname_any (h l i : Int) (w : World) (hl : l ≤ 9223372036854775807) (hi : i ≤ 9223372036854775807) (ht : PT w) :
    Calls Tryz.prog 32 #[.int .i64 h, .int .i64 l, .int .i64 i] w fun r w' => r = .returned (.tuple #[.string (bA (smP h l i)), .int .i64 (smE h l i)]) ∧ Below w.heap.size w w' := by
  by_cases hb : h < 1 ∨ 8 < h
  · have e1 : smP h l i = [] := by unfold smP; rw [smB_h hb]; rfl
    have e2 : smE h l i = 2 := by unfold smE; rw [smB_h hb]; rfl
    rw [e1, e2]
    clear e1 e2 ht
    by_cases h1 : h < 1
    · clear hb
      go_enter Tryz.func32, Tryz.ntmps32
      go_wp2
      go_ret2
      exact ⟨rfl, Below.refl _ _⟩
    · have h8 : 8 < h := by omega
      clear hb
      go_enter Tryz.func32, Tryz.ntmps32
      go_wp2
      go_ret2
      exact ⟨rfl, Below.refl _ _⟩
  · obtain ⟨H, hH⟩ : ∃ H : Nat, h = (H : Int) := ⟨h.toNat, by omega⟩
    have hh : isH H := ⟨by omega, by omega⟩
    have hf1 : ¬ h < 1 := by omega
    have hf8 : ¬ 8 < h := by omega
    have hf : ∀ W : World, Calls Tryz.prog 67 #[.int .i64 h, .int .i64 l, .int .i64 i] W fun r w' => r = .returned (.agg (c4 h l i ((2 ^ H : Nat) : Int)).toArray) ∧ Below W.heap.size W w' := fun W => by
      rw [hH]
      exact fullT_any H (2 ^ H) l i W hh rfl
    obtain ⟨p, e, hpe, hp⟩ := path_any h l i ((2 ^ H : Nat) : Int) hl hi
    have e1 : p = smP h l i ∧ e = smE h l i := by
      rcases hpe with ⟨rfl, k, rfl⟩ | ⟨rfl, k, rfl⟩
      · have kb := (smB_tOK hH).2 k
        unfold smP smE
        rw [if_pos kb, if_pos kb]
        obtain ⟨H', L, I, e1, rfl, rfl, k2⟩ := smB_nats kb
        obtain rfl : H = H' := by omega
        refine ⟨?_, rfl⟩
        rw [hH]
        simp only [Int.toNat_natCast]
        rw [sP_ok k2]
      · have kb : ¬ smB h l i = true := fun kb => k ((smB_tOK hH).1 kb)
        unfold smP smE
        rw [if_neg kb, if_neg kb]
        exact ⟨rfl, rfl⟩
    obtain ⟨rfl, rfl⟩ := e1
    have HF := hide hf
    have HP := hide hp
    have HT := hide ht
    clear hf hp ht hpe hb hl hi hH
    generalize smP h l i = p at *
    generalize smE h l i = e at *
    generalize ((2 ^ H : Nat) : Int) = q at *
    go_enter Tryz.func32, Tryz.ntmps32
    go_wp2_with fail
    refine (HF.out _).mono ?_
    rintro r w1 ⟨rfl, hb1⟩
    have T1 := HT.out.below hb1
    go_wp2_with fail
    refine (HP.out _ T1).mono ?_
    rintro r w2 ⟨rfl, hb2⟩
    have q2 := on_below hb1 hb2
    clear hb1 hb2 T1
    go_wp2
    go_ret2
    exact ⟨rfl, q2⟩
section
variable (d s : Nat) (rs : List Rw) (D : Dm) (w : World) (hd : DkAt w d s rs D)
include hd
theorem madeS_any : Calls Tryz.prog 45 #[.pointer (some ⟨d, 0, none⟩)] w fun r w' => r = .returned (.bool true) ∧ w' = w := by
  have HH := hide hd
  have h1 : (0 : Int) < (s : Int) := by have := hd.s1; omega
  clear hd
  go_enter Tryz.func45, Tryz.ntmps45
  go_wp2_with (go_at_call 77; refine (sector_any d s rs D _ HH.out).mono ?_; rintro e w ⟨rfl, rfl⟩)
  go_ret
  exact ⟨by simp; omega, rfl⟩
theorem scheck_any (h l : Int) (hl : l ≤ 9223372036854775807) (ht : PT w) : Calls Tryz.prog 51 #[.pointer (some ⟨d, 0, none⟩), .int .i64 h, .int .i64 l] w fun r w' => r = .returned (.int .i64 (smE h l 0)) ∧ Below w.heap.size w w' := by
  have HM := hide (madeS_any d s rs D w hd)
  have HN := hide (sname_any h l 0 w hl (by decide) ht)
  clear hd ht hl
  generalize smE h l 0 = e at *
  generalize smP h l 0 = p at *
  go_enter Tryz.func51, Tryz.ntmps51
  go_wp2_with (go_at_call 45; refine HM.out.mono ?_; rintro r w' ⟨rfl, rfl⟩)
  refine HN.out.mono ?_
  rintro r w1 ⟨rfl, hb1⟩
  go_wp2
  go_ret
  exact ⟨rfl, hb1⟩
end

end Go.Proofs.YtlgcjdgcgnlcaaaGreatDoor

/-
  A digest read, a file made ready; Put where the number of digests is known.
-/
namespace Go.Proofs.YtlgcjdgcgnlcaaaGreatDoor
open Go.RowKit
set_option linter.unusedVariables false
set_option linter.unusedSimpArgs false
set_option maxRecDepth 100000

theorem zDs : Zeroed 32 (u8s (zer 32)) := fun _ _ _ _ _ _ _ => by kernel_rfl
theorem wDs : Wide 32 32 := ⟨by kernel_rfl, by kernel_rfl⟩
theorem slice_Ds (g : Nat) (v : World) : (Instr.sliceAt 32 (.pointer (some ⟨g, 0, none⟩)) none none none).run Tryz.prog v = .ok (.slice (some ⟨g, 0, none⟩) 32 32) v := by kernel_rfl
theorem spl_fullS {cs vs : List Value} (h : vs.length = cs.length) : spl cs vs 0 = vs := by
  unfold spl
  rw [List.drop_of_length_le (by omega)]
  simp
theorem DkAt.valS {w : World} {d s : Nat} {rs : List Rw} {D : Dm} (h : DkAt w d s rs D) : Val s (fun _ => none) rs := by
  have := h.rok.val h.s1 (D.es.map (·.1)).length (Nat.le_refl _)
  rwa [List.take_length, h.raw] at this
theorem DkAt.byB {w : World} {d s : Nat} {rs : List Rw} {D : Dm} (h : DkAt w d s rs D) (n : ByteArray) : isB (fl (play rs) n) := by
  cases hf : play rs n with
  | none => simp only [fl, hf]; intro x hx; cases hx
  | some xs =>
    obtain ⟨v, _, _, hb⟩ := h.fil.get hf
    simp only [fl, hf]
    exact hb
theorem isB.dropS {xs : List Int} (h : isB xs) (n : Nat) : isB (xs.drop n) := fun x hx => h x (List.mem_of_mem_drop hx)
theorem isB.takeS {xs : List Int} (h : isB xs) (n : Nat) : isB (xs.take n) := fun x hx => h x (List.mem_of_mem_take hx)
section
variable (d s : Nat) (rs : List Rw) (D : Dm) (w : World) (hd : DkAt w d s rs D)
include hd
set_option maxHeartbeats 1000000 in
theorem digest_any (n : ByteArray) (p : Nat) (hn : nmB n = true) (hp : p + 32 ≤ (fl (play rs) n).length) (hwt : wt rs ≤ 1099511000000) :
    Calls Tryz.prog 54 #[.pointer (some ⟨d, 0, none⟩), .string n, .int .i64 (p : Int)] w fun r w' => r = .returned (.agg (u8s (((fl (play rs) n).drop p).take 32)).toArray) ∧ Below w.heap.size w w' := by
  have hex : ∃ xs, play rs n = some xs := by
    cases hf : play rs n with
    | none => simp [fl, hf] at hp
    | some xs => exact ⟨xs, rfl⟩
  obtain ⟨xs, hxs⟩ := hex
  have hfe : fE rs n = 0 := by simp [fE, hn, hxs]
  have e1 : rqE rs n (p : Int) 32 = 0 := by unfold rqE; rw [if_pos hfe, if_neg (by omega)]
  have e2 : rqB rs n (p : Int) 32 = ((fl (play rs) n).drop p).take 32 := by
    unfold rqB
    rw [if_pos e1]
    show ((fl (play rs) n).drop p).take (min 32 ((fl (play rs) n).length - p)) = _
    rw [Nat.min_eq_left (by omega)]
  have hB : isB (((fl (play rs) n).drop p).take 32) := ((hd.byB n).dropS p).takeS 32
  have hL : (((fl (play rs) n).drop p).take 32).length = 32 := by rw [List.length_take, List.length_drop]; omega
  have HH := hide hd
  have HW := hide hwt
  have hrd := fun (W : World) (hW : DkAt W d s rs D) => read_any d s rs D W hW n (p : Int) 32 hwt
  rw [e1, e2] at hrd
  have HR := hide hrd
  generalize ((fl (play rs) n).drop p).take 32 = ys at *
  have HB := hide hB
  have HL := hide hL
  have HUL : Hid ((u8s ys).length = 32) := hide (by rw [u8s_length, hL])
  clear hrd hd hB hL e1 e2 hfe hxs hp hwt hn
  go_enter Tryz.func54, Tryz.ntmps54
  go_wp2_with (refine step_alloc zDs rfl ?_)
  intro w1 g1 hg1 hle1 hb1
  have HG1 := hide hg1
  have HB1 := hide hb1
  clear hg1
  go_wp2_with fail
  refine (HR.out _ (HH.out.below hb1)).mono ?_
  rintro r w2 ⟨v, rfl, ho2, hb2⟩
  obtain ⟨va, vc, rfl, hs2⟩ := ho2.sl' HB.out (by rw [HL.out]; omega)
  rw [HL.out] at hs2 ⊢
  have HS2 := hide hs2
  have HG2 := hide (HG1.out.on hb2)
  have HB2 := hide (on_below HB1.out hb2)
  have hsa := slice_Ds g1
  have hle2 : w.heap.size ≤ g1 := hle1
  clear hs2 ho2 hb2 hb1 HG1 HB1
  go_wp2_with (first | (refine step_copy rfl rfl rfl HS2.out g1 0 32 rfl HG2.out (fun _ => rfl) (by rw [u8s_length, zer_length]; decide) ?_; intro w3 hg3 hbut3; rw [List.take_of_length_le (Nat.le_of_eq HL.out), spl_fullS (by rw [HUL.out, u8s_length, zer_length])] at hg3; have HG3 := hide hg3; clear hg3) | (refine step_loadA wDs rfl rfl HG3.out HUL.out ?_) | (refine step_storeA wDs rfl rfl rfl HG3.out HUL.out (One.u8 _) HUL.out ?_; intro w4 hg4 hbut4))
  refine bodyPost_ret (results_wide rfl wDs _ _ rfl hg4 HUL.out) rfl ⟨rfl, ?_⟩
  exact (HB2.out.trans (hbut3.below hle2)).trans (hbut4.below hle2)
/-- Is something torn at the end of a file? -/
def reE (rs : List Rw) (n : ByteArray) : Int := if (fl (play rs) n).length % 32 = 0 then 0 else 130
def reS (rs : List Rw) (n : ByteArray) : List Rw := if (fl (play rs) n).length % 32 = 0 then crS rs n else rs
omit hd in
theorem crS_some {rs : List Rw} {n : ByteArray} {xs : List Int} (hn : nmB n = true) (h : play rs n = some xs) : crS rs n = rs := by
  have e : crE rs n = 120 := by simp [crE, hn, h]
  simp [crS, e]
set_option maxHeartbeats 1000000 in
theorem ready_any (n : ByteArray) (hn : nmB n = true) (hwt : wt rs + 1 ≤ 1099511000000) :
    Calls Tryz.prog 33 #[.pointer (some ⟨d, 0, none⟩), .string n] w fun r w' => r = .returned (.int .i64 (reE rs n)) ∧ OpR w w' d s D (reS rs n) := by
  have HH := hide hd
  have HSZ := hide (size_any d s rs D w hd n)
  cases hf : play rs n with
  | none =>
    have hfe : fE rs n = 121 := by simp [fE, hn, hf]
    have hcr : crE rs n = 0 := by simp [crE, hn, hf]
    have hfl : fl (play rs) n = [] := by simp [fl, hf]
    have e1 : reE rs n = 0 := by simp [reE, hfl]
    have e2 : reS rs n = crS rs n := by simp [reS, hfl]
    have hc := create_any d s rs D w hd n hwt
    rw [hcr] at hc
    have HC := hide hc
    rw [e1, e2]
    rw [hfe] at HSZ
    clear hd hc hfe hcr hfl e1 e2 hf hwt hn
    go_enter Tryz.func33, Tryz.ntmps33
    go_wp2_with (go_at_call 68; refine HSZ.out.mono ?_; rintro r w' ⟨rfl, rfl⟩; simp only [show ¬ ((121 : Int) = 0) by decide, if_false])
    refine HC.out.mono ?_
    rintro r w1 ⟨rfl, ho⟩
    go_wp2
    go_ret
    exact ⟨rfl, ho⟩
  | some xs =>
    have hfe : fE rs n = 0 := by simp [fE, hn, hf]
    have hfl : fl (play rs) n = xs := by simp [fl, hf]
    rw [hfe, hfl] at HSZ
    have hxl : xs.length ≤ 1099511000000 := by
      have := play_wt rs n
      rw [hfl] at this
      omega
    have hm : ((xs.length : Int).tmod 32) = ((xs.length % 32 : Nat) : Int) := by rw [Int.tmod_eq_emod_of_nonneg (by omega)]; omega
    have hm2 : ((xs.length : Int) % 32) = ((xs.length % 32 : Nat) : Int) := by omega
    by_cases h0 : xs.length % 32 = 0
    · have e1 : reE rs n = 0 := by simp [reE, hfl, h0]
      have e2 : reS rs n = rs := by simp [reS, hfl, h0, crS_some hn hf]
      rw [e1, e2]
      rw [h0] at hm hm2
      generalize xs.length = L at *
      clear hd hfe hfl e1 e2 hf hwt hn h0
      go_enter Tryz.func33, Tryz.ntmps33
      go_wp2_with (go_at_call 68; refine HSZ.out.mono ?_; rintro r w' ⟨rfl, rfl⟩; simp only [if_true])
      go_ret
      exact ⟨rfl, OpR.refl HH.out⟩
    · have e1 : reE rs n = 130 := by simp [reE, hfl, h0]
      have e2 : reS rs n = rs := by simp [reS, hfl, h0]
      rw [e1, e2]
      have h0' : ¬ ((xs.length % 32 : Nat) : Int) = 0 := by omega
      generalize xs.length % 32 = q at *
      generalize xs.length = L at *
      clear hd hfe hfl e1 e2 hf hwt hn h0
      go_enter Tryz.func33, Tryz.ntmps33
      go_wp2_with (go_at_call 68; refine HSZ.out.mono ?_; rintro r w' ⟨rfl, rfl⟩; simp only [if_true])
      go_ret
      exact ⟨rfl, OpR.refl HH.out⟩
end

end Go.Proofs.YtlgcjdgcgnlcaaaGreatDoor

/-
  A range over a function that hands out what lies in memory: at each round the body is told what lies there, and the function what the body has left as it was.
-/
namespace Go.Proofs.YtlgcjdgcgnlcaaaGreatDoor
open Go.RowKit Go.Shelf
set_option linter.unusedVariables false

section
variable {F : Fence} {n : Nat} {P : Program}
/-- What a function that is ranged over does: R: what it sees to when it hands out x behind pre; Kp: what it asks of a round that goes on. -/
def SeqR {α : Type} (F : Fence) (n : Nat) (P : Program) (g : Nat) (lb : Array Value) (encs : α → Array Value) (R : List α → α → World → Prop) (Kp : α → World → World → Prop) (S Sp : List α → Prop) (w : World) : Prop :=
  ∀ (l : Nat) (J Jx : List α → World → Prop) (W : World), Below w.heap.size w W → AbidesFrom W.heap.size J → AbidesFrom W.heap.size Jx →
    (∀ pre x W1, J pre W1 → R pre x W1 → YieldAt F (n - 1) P l (encs x) W1 fun e W' => (e = .returned (.bool true) ∧ J (pre ++ [x]) W' ∧ Kp x W1 W') ∨ (e = .returned (.bool false) ∧ Jx (pre ++ [x]) W')) →
    J [] W → CallsIn F n P g (#[.func (.yield l) #[] #[]] ++ lb) W fun e W' => (∃ v, e = .returned v) ∧ ((∃ xs, S xs ∧ J xs W') ∨ (∃ pre, Sp pre ∧ Jx pre W'))

/-- The loop's record. -/
def lrec (fn : FuncId) (tmps : Array Value) (ps : Array Tmp) (assign body : Code) (D : Nat) (st : LoopState) (pe : Option Code) : Loop :=
  { state := st, pending := pe, fn := fn, tmps := tmps, params := ps, assign := assign, body := body, defers := D }
/-- The record lies behind the block for what is deferred. -/
structure Bk (r : Loop) (D : Nat) (W : World) : Prop where
  loop : W.heap[D + 1]? = some (.loop r)
  mark : W.heap[D]? = some (.deferred (some []))
theorem Bk.keep {r : Loop} {D : Nat} {W W' : World} (h : Bk r D W) (k : KeepsFrom D W W') : Bk r D W' :=
  ⟨k.same _ _ (by omega) h.loop rfl, k.same _ _ (Nat.le_refl _) h.mark rfl⟩
theorem Bk.put {r : Loop} {D : Nat} {W : World} (h : Bk r D W) (r' : Loop) : Bk r' D (W.putObj (D + 1) (.loop r')) :=
  ⟨World.putObj_heap_same (Array.getElem?_eq_some_iff.1 h.loop).1, (World.putObj_heap_other (by omega)).trans h.mark⟩
theorem Bk.abide {r : Loop} {D B : Nat} {W W' : World} {row : Option Nat} (h : Bk r D W) (hg : W.grownBy W' row) (hr : ∀ q, row = some q → B ≤ q ∧ ∃ o : Obj, W.heap[q]? = some o ∧ o.isWalk = true) : Bk r D W' :=
  ⟨(grownBy_keeps hg (fun q e => (hr q e).2) h.loop rfl).trans h.loop, (grownBy_keeps hg (fun q e => (hr q e).2) h.mark rfl).trans h.mark⟩
theorem Bk.new (w : World) (r : Loop) : Bk r w.heap.size ((w.alloc (.deferred (some []))).alloc (.loop r)) := by
  constructor
  · have := World.alloc_heap_new (w.alloc (.deferred (some []))) (.loop r)
    rwa [World.size_alloc] at this
  · exact (Below.heap_alloc _ _ _ (by simp)).trans (World.alloc_heap_new w _)

/-- One round: what the body leaves is what yield hands back. -/
theorem round_R {m : Nat} {fn : FuncId} {tmps : Array Value} {ps : Array Tmp} {assign body : Code} {D : Nat} (hfn : F.fn fn) {args : Array Value} (hps : args.size = ps.size) {W : World} (hB : Bk (lrec fn tmps ps assign body D .ready none) D W) {a' : Act} {Post : Ending → World → Prop}
    (hassign : ∀ K : Act → World → Prop, K a' W → assign.wpIn (F.inRound (D + 1)) m P (Exit.then K (fun _ _ _ => False)) { tmps := (ps.zip args).foldl (fun t (p, v) => t.setIfInBounds p v) tmps, defers := [] } W)
    (hbody : body.wpIn (F.inRound (D + 1)) m P (fun e _ W' => match e with
      | .normal => Bk (lrec fn tmps ps assign body D .busy none) D W' ∧ Post (.returned (.bool true)) (W'.putObj (D + 1) (.loop (lrec fn tmps ps assign body D .ready none)))
      | .ret => Bk (lrec fn tmps ps assign body D .busy none) D W' ∧ Post (.returned (.bool false)) (W'.putObj (D + 1) (.loop (lrec fn tmps ps assign body D .done (some .ret))))
      | .exit id => Bk (lrec fn tmps ps assign body D .busy none) D W' ∧ Post (.returned (.bool false)) (W'.putObj (D + 1) (.loop (lrec fn tmps ps assign body D .done (some (.exit id)))))
      | .goto u => Bk (lrec fn tmps ps assign body D .busy none) D W' ∧ Post (.returned (.bool false)) (W'.putObj (D + 1) (.loop (lrec fn tmps ps assign body D .done (some (.goto u)))))
      | _ => False) a' (W.putObj (D + 1) (.loop (lrec fn tmps ps assign body D .busy none)))) :
    YieldAt F m P (D + 1) args W Post := by
  refine ⟨fn, _, assign, body, run_yield (P := P) (args := args) hB.loop hps, roundIn_of_wpIn hfn (hassign _ ?_)⟩
  refine ⟨_, run_beginRound hB.loop rfl, wpIn_mono hbody ?_⟩
  intro e a3 W3 hp
  cases e with
  | normal => exact ⟨_, _, run_endRound none hp.1.loop, hp.2⟩
  | ret => exact ⟨_, _, run_endRound (some .ret) hp.1.loop, hp.2⟩
  | exit id => exact ⟨_, _, run_endRound (some (.exit id)) hp.1.loop, hp.2⟩
  | goto u => exact ⟨_, _, run_endRound (some (.goto u)) hp.1.loop, hp.2⟩
  | panic ch => exact hp.elim
  | outgrown => exact hp.elim

theorem rangeR {α : Type} {g : Operand} {ps : Array Tmp} {assign body : Code} {Q : Exit → Act → World → Prop} {a : Act} {w : World}
    (hro : F.round = none) (h1 : 1 ≤ n) {gf : Nat} {lb : Array Value} (hg : a.eval g = .func (.func gf) #[] lb) (hFg : F.fn gf) (eg : ∀ args w, (callFunc gf args).run P w = .ok (.enter gf args) w)
    {encs : α → Array Value} {R : List α → α → World → Prop} {Kp : α → World → World → Prop} {S Sp : List α → Prop} (hseq : SeqR F (n - 1) P gf lb encs R Kp S Sp w)
    (hKt : ∀ {x : α} {A B C : World}, Kp x A B → Kp x B C → Kp x A C) (hKb : ∀ (x : α) (W : World) (l : Nat) (o o' : Obj), w.heap.size ≤ l → W.heap[l]? = some o → o.isCells = false → Kp x W (W.putObj l o')) (hps : ∀ x, (encs x).size = ps.size)
    (hR : ∀ pre x, OwnFrom w.heap.size (fun (_ : Unit) W => R pre x W))
    (I : List α → World → Prop) (Ix : Code → List α → World → Prop) (hI : OwnFrom w.heap.size I) (hIx : ∀ c, OwnFrom w.heap.size (Ix c)) (h0 : I [] w) (a₁ : α → Act)
    (hassign : ∀ (l : Nat) (x : α) (W : World) (K : Act → World → Prop), K (a₁ x) W →
      assign.wpIn (F.inRound l) (n - 1 - 1) P (Exit.then K (fun _ _ _ => False)) { tmps := (ps.zip (encs x)).foldl (fun t (p, v) => t.setIfInBounds p v) a.tmps, defers := [] } W)
    (hbody : ∀ (l : Nat) (pre : List α) (x : α) (W : World), I pre W → R pre x W → body.wpIn (F.inRound l) (n - 1 - 1) P (ownPostG w.heap.size (Kp x) I Ix (pre ++ [x]) W) (a₁ x) W)
    (hdone : ∀ (D : Nat) (xs : List α) (W : World), w.heap.size ≤ D → S xs → I xs W → W.heap[D]? = some (.deferred (some [])) → Q .normal { a with defers := { target := .collected D, args := #[] } :: a.defers } W)
    (hstop : ∀ (D : Nat) (c : Code) (pre : List α) (W : World), w.heap.size ≤ D → Sp pre → Ix c pre W → W.heap[D]? = some (.deferred (some [])) → c.wpIn F n P Q { a with defers := { target := .collected D, args := #[] } :: a.defers } W) :
    (Code.rangeFunc g ps assign body).wpIn F n P Q a w := by
  refine wpIn_rangeFunc fun fn hfn => ?_
  rw [hro]
  obtain ⟨W1, hW1⟩ : ∃ W1, (w.alloc (.deferred (some []))).alloc (.loop (lrec fn a.tmps ps assign body w.heap.size .ready none)) = W1 := ⟨_, rfl⟩
  have B1 : Bk (lrec fn a.tmps ps assign body w.heap.size .ready none) w.heap.size W1 := by rw [← hW1]; exact Bk.new w _
  have b1 : Below w.heap.size w W1 := by rw [← hW1]; exact ((Below.refl _ w).alloc (Nat.le_refl _) _).alloc (by simp) _
  have s1 : w.heap.size ≤ W1.heap.size := b1.size
  have far : ∀ {A : World} {row : Option Nat}, (∀ r, row = some r → W1.heap.size ≤ r ∧ ∃ o : Obj, A.heap[r]? = some o ∧ o.isWalk = true) → ∀ r, row = some r → w.heap.size ≤ r ∧ ∃ o : Obj, A.heap[r]? = some o ∧ o.isCells = false :=
    fun hr r e => by obtain ⟨hb, o, ho, hw⟩ := hr r e; exact ⟨by omega, o, ho, Obj.not_cells_of_walk hw⟩
  refine ⟨w.heap.size + 1, [{ target := .collected w.heap.size, args := #[] }], W1, { target := .fn (.func gf) lb, args := #[.func (.yield (w.heap.size + 1)) #[] #[]] }, W1, gf,
    #[.func (.yield (w.heap.size + 1)) #[] #[]] ++ lb, W1, by rw [← hW1]; exact run_enterLoop_outer _ _ _ _ _, by simp only [resolve, hg]; simp [go_sem], fun f' hf' => by simp [Target.leads] at hf'; subst hf'; exact hFg, by simp [invoke, go_sem, eg], fun _ => h1, ?_⟩
  refine (hseq (w.heap.size + 1) (fun pre W => I pre W ∧ Bk (lrec fn a.tmps ps assign body w.heap.size .ready none) w.heap.size W) (fun pre W => ∃ c, Ix c pre W ∧ Bk (lrec fn a.tmps ps assign body w.heap.size .done (some c)) w.heap.size W) W1 b1
    (fun s A B row hs hg' hr => ⟨hI s A B row hs.1 hg' (far hr), hs.2.abide hg' hr⟩)
    (fun s A B row hs hg' hr => by obtain ⟨c, hc, hb⟩ := hs; exact ⟨c, hIx c s A B row hc hg' (far hr), hb.abide hg' hr⟩) ?_
    ⟨by rw [← hW1]; exact hI.alloc _ (hI.alloc _ h0), B1⟩).mono ?_
  · rintro pre x W ⟨hi, hB⟩ hr
    refine round_R hfn (hps x) hB (hassign _ x W) ?_
    have hB2 := hB.put (lrec fn a.tmps ps assign body w.heap.size .busy none)
    have hK2 : Kp x W (W.putObj (w.heap.size + 1) (.loop (lrec fn a.tmps ps assign body w.heap.size .busy none))) := hKb x _ _ _ _ (by omega) hB.loop rfl
    refine wpIn_mono (hbody _ pre x _ (hI.putObj _ hi (by omega) hB.loop rfl) ((hR pre x).putObj (s := ()) _ hr (by omega) hB.loop rfl)) ?_
    intro e a3 W3 hp
    cases e with
    | normal =>
      have hB3 := hB2.keep hp.1
      exact ⟨hB3, .inl ⟨rfl, ⟨hI.putObj _ hp.2.2 (by omega) hB3.loop rfl, hB3.put _⟩, hKt hK2 (hKt hp.2.1 (hKb x _ _ _ _ (by omega) hB3.loop rfl))⟩⟩
    | ret =>
      have hB3 := hB2.keep hp.1
      exact ⟨hB3, .inr ⟨rfl, .ret, (hIx _).putObj _ hp.2 (by omega) hB3.loop rfl, hB3.put _⟩⟩
    | exit id =>
      have hB3 := hB2.keep hp.1
      exact ⟨hB3, .inr ⟨rfl, .exit id, (hIx _).putObj _ hp.2 (by omega) hB3.loop rfl, hB3.put _⟩⟩
    | goto u =>
      have hB3 := hB2.keep hp.1
      exact ⟨hB3, .inr ⟨rfl, .goto u, (hIx _).putObj _ hp.2 (by omega) hB3.loop rfl, hB3.put _⟩⟩
    | panic ch => exact hp.elim
    | outgrown => exact hp.elim
  · rintro e W2 ⟨⟨v, rfl⟩, (⟨xs, hS, hi, hB⟩ | ⟨pre, hSp, c, hi, hB⟩)⟩
    · exact ⟨none, _, run_endLoop (P := P) hB.loop (by simp [lrec]), hdone _ xs _ (Nat.le_refl _) hS (hI.putObj _ hi (by omega) hB.loop rfl) ((World.putObj_heap_other (by omega)).trans hB.mark)⟩
    · exact ⟨some c, _, run_endLoop (P := P) hB.loop (by simp [lrec]), hstop _ c pre _ (Nat.le_refl _) hSp ((hIx c).putObj _ hi (by omega) hB.loop rfl) ((World.putObj_heap_other (by omega)).trans hB.mark)⟩
end

end Go.Proofs.YtlgcjdgcgnlcaaaGreatDoor

/-
  A range over a function that hands out what lies in memory: the body is told besides where the last round left the world.
-/
namespace Go.Proofs.YtlgcjdgcgnlcaaaGreatDoor
open Go.RowKit Go.Shelf
set_option linter.unusedVariables false

section
variable {F : Fence} {n : Nat} {P : Program}
/-- What a function that is ranged over does: R: what it sees to when it hands out x behind pre, with the world as the last round left it; Kp: what it asks of a round that goes on. -/
def SeqQ {α : Type} (F : Fence) (n : Nat) (P : Program) (g : Nat) (lb : Array Value) (encs : α → Array Value) (R : List α → α → World → World → Prop) (Kp : α → World → World → Prop) (S Sp : List α → Prop) (w : World) : Prop :=
  ∀ (l : Nat) (J Jx : List α → World → Prop) (W : World), Below w.heap.size w W → AbidesFrom W.heap.size J → AbidesFrom W.heap.size Jx →
    (∀ pre x W0 W1, J pre W0 → Below W0.heap.size W0 W1 → J pre W1 → R pre x W0 W1 → YieldAt F (n - 1) P l (encs x) W1 fun e W' => (e = .returned (.bool true) ∧ J (pre ++ [x]) W' ∧ Kp x W1 W') ∨ (e = .returned (.bool false) ∧ Jx (pre ++ [x]) W')) →
    J [] W → CallsIn F n P g (#[.func (.yield l) #[] #[]] ++ lb) W fun e W' => (∃ v, e = .returned v) ∧ ((∃ xs, S xs ∧ J xs W') ∨ (∃ pre, Sp pre ∧ Jx pre W'))

theorem rangeQ {α : Type} {g : Operand} {ps : Array Tmp} {assign body : Code} {Q : Exit → Act → World → Prop} {a : Act} {w : World}
    (hro : F.round = none) (h1 : 1 ≤ n) {gf : Nat} {lb : Array Value} (hg : a.eval g = .func (.func gf) #[] lb) (hFg : F.fn gf) (eg : ∀ args w, (callFunc gf args).run P w = .ok (.enter gf args) w)
    {encs : α → Array Value} {R : List α → α → World → World → Prop} {Kp : α → World → World → Prop} {S Sp : List α → Prop} (hseq : SeqQ F (n - 1) P gf lb encs R Kp S Sp w)
    (hKt : ∀ {x : α} {A B C : World}, Kp x A B → Kp x B C → Kp x A C) (hKb : ∀ (x : α) (W : World) (l : Nat) (o o' : Obj), w.heap.size ≤ l → W.heap[l]? = some o → o.isCells = false → Kp x W (W.putObj l o')) (hps : ∀ x, (encs x).size = ps.size)
    (hR : ∀ pre x W0, OwnFrom w.heap.size (fun (_ : Unit) W => R pre x W0 W))
    (I : List α → World → Prop) (Ix : Code → List α → World → Prop) (hI : OwnFrom w.heap.size I) (hIx : ∀ c, OwnFrom w.heap.size (Ix c)) (h0 : I [] w) (a₁ : α → Act)
    (hassign : ∀ (l : Nat) (x : α) (W : World) (K : Act → World → Prop), K (a₁ x) W →
      assign.wpIn (F.inRound l) (n - 1 - 1) P (Exit.then K (fun _ _ _ => False)) { tmps := (ps.zip (encs x)).foldl (fun t (p, v) => t.setIfInBounds p v) a.tmps, defers := [] } W)
    (hbody : ∀ (l : Nat) (pre : List α) (x : α) (W0 W : World), I pre W0 → (∀ (k : Nat) (o : Obj), W0.heap[k]? = some o → o.isCells = true → W.heap[k]? = some o) → W0.heap.size ≤ W.heap.size → I pre W → R pre x W0 W → body.wpIn (F.inRound l) (n - 1 - 1) P (ownPostG w.heap.size (Kp x) I Ix (pre ++ [x]) W) (a₁ x) W)
    (hdone : ∀ (D : Nat) (xs : List α) (W : World), w.heap.size ≤ D → S xs → I xs W → W.heap[D]? = some (.deferred (some [])) → Q .normal { a with defers := { target := .collected D, args := #[] } :: a.defers } W)
    (hstop : ∀ (D : Nat) (c : Code) (pre : List α) (W : World), w.heap.size ≤ D → Sp pre → Ix c pre W → W.heap[D]? = some (.deferred (some [])) → c.wpIn F n P Q { a with defers := { target := .collected D, args := #[] } :: a.defers } W) :
    (Code.rangeFunc g ps assign body).wpIn F n P Q a w := by
  refine wpIn_rangeFunc fun fn hfn => ?_
  rw [hro]
  obtain ⟨W1, hW1⟩ : ∃ W1, (w.alloc (.deferred (some []))).alloc (.loop (lrec fn a.tmps ps assign body w.heap.size .ready none)) = W1 := ⟨_, rfl⟩
  have B1 : Bk (lrec fn a.tmps ps assign body w.heap.size .ready none) w.heap.size W1 := by rw [← hW1]; exact Bk.new w _
  have b1 : Below w.heap.size w W1 := by rw [← hW1]; exact ((Below.refl _ w).alloc (Nat.le_refl _) _).alloc (by simp) _
  have s1 : w.heap.size ≤ W1.heap.size := b1.size
  have far : ∀ {A : World} {row : Option Nat}, (∀ r, row = some r → W1.heap.size ≤ r ∧ ∃ o : Obj, A.heap[r]? = some o ∧ o.isWalk = true) → ∀ r, row = some r → w.heap.size ≤ r ∧ ∃ o : Obj, A.heap[r]? = some o ∧ o.isCells = false :=
    fun hr r e => by obtain ⟨hb, o, ho, hw⟩ := hr r e; exact ⟨by omega, o, ho, Obj.not_cells_of_walk hw⟩
  refine ⟨w.heap.size + 1, [{ target := .collected w.heap.size, args := #[] }], W1, { target := .fn (.func gf) lb, args := #[.func (.yield (w.heap.size + 1)) #[] #[]] }, W1, gf,
    #[.func (.yield (w.heap.size + 1)) #[] #[]] ++ lb, W1, by rw [← hW1]; exact run_enterLoop_outer _ _ _ _ _, by simp only [resolve, hg]; simp [go_sem], fun f' hf' => by simp [Target.leads] at hf'; subst hf'; exact hFg, by simp [invoke, go_sem, eg], fun _ => h1, ?_⟩
  refine (hseq (w.heap.size + 1) (fun pre W => I pre W ∧ Bk (lrec fn a.tmps ps assign body w.heap.size .ready none) w.heap.size W) (fun pre W => ∃ c, Ix c pre W ∧ Bk (lrec fn a.tmps ps assign body w.heap.size .done (some c)) w.heap.size W) W1 b1
    (fun s A B row hs hg' hr => ⟨hI s A B row hs.1 hg' (far hr), hs.2.abide hg' hr⟩)
    (fun s A B row hs hg' hr => by obtain ⟨c, hc, hb⟩ := hs; exact ⟨c, hIx c s A B row hc hg' (far hr), hb.abide hg' hr⟩) ?_
    ⟨by rw [← hW1]; exact hI.alloc _ (hI.alloc _ h0), B1⟩).mono ?_
  · rintro pre x W0 W ⟨hi0, hB0⟩ hb0 ⟨hi, hB⟩ hr
    refine round_R hfn (hps x) hB (hassign _ x W) ?_
    have hB2 := hB.put (lrec fn a.tmps ps assign body w.heap.size .busy none)
    have hK2 : Kp x W (W.putObj (w.heap.size + 1) (.loop (lrec fn a.tmps ps assign body w.heap.size .busy none))) := hKb x _ _ _ _ (by omega) hB.loop rfl
    refine wpIn_mono (hbody _ pre x W0 _ hi0 (fun k o ho hc => ?_) (Nat.le_trans hb0.size (grownBy_putObj' W _ _).size) (hI.putObj _ hi (by omega) hB.loop rfl) ((hR pre x W0).putObj (s := ()) _ hr (by omega) hB.loop rfl)) ?_
    · have hk : W.heap[k]? = some o := (hb0.block k (Array.getElem?_eq_some_iff.1 ho).1).trans ho
      rw [World.putObj_heap_other (fun e => by
        subst e
        rw [hB.loop] at hk
        injection hk with hk
        subst hk
        cases hc)]
      exact hk
    intro e a3 W3 hp
    cases e with
    | normal =>
      have hB3 := hB2.keep hp.1
      exact ⟨hB3, .inl ⟨rfl, ⟨hI.putObj _ hp.2.2 (by omega) hB3.loop rfl, hB3.put _⟩, hKt hK2 (hKt hp.2.1 (hKb x _ _ _ _ (by omega) hB3.loop rfl))⟩⟩
    | ret =>
      have hB3 := hB2.keep hp.1
      exact ⟨hB3, .inr ⟨rfl, .ret, (hIx _).putObj _ hp.2 (by omega) hB3.loop rfl, hB3.put _⟩⟩
    | exit id =>
      have hB3 := hB2.keep hp.1
      exact ⟨hB3, .inr ⟨rfl, .exit id, (hIx _).putObj _ hp.2 (by omega) hB3.loop rfl, hB3.put _⟩⟩
    | goto u =>
      have hB3 := hB2.keep hp.1
      exact ⟨hB3, .inr ⟨rfl, .goto u, (hIx _).putObj _ hp.2 (by omega) hB3.loop rfl, hB3.put _⟩⟩
    | panic ch => exact hp.elim
    | outgrown => exact hp.elim
  · rintro e W2 ⟨⟨v, rfl⟩, (⟨xs, hS, hi, hB⟩ | ⟨pre, hSp, c, hi, hB⟩)⟩
    · exact ⟨none, _, run_endLoop (P := P) hB.loop (by simp [lrec]), hdone _ xs _ (Nat.le_refl _) hS (hI.putObj _ hi (by omega) hB.loop rfl) ((World.putObj_heap_other (by omega)).trans hB.mark)⟩
    · exact ⟨some c, _, run_endLoop (P := P) hB.loop (by simp [lrec]), hstop _ c pre _ (Nat.le_refl _) hSp ((hIx c).putObj _ hi (by omega) hB.loop rfl) ((World.putObj_heap_other (by omega)).trans hB.mark)⟩
end

end Go.Proofs.YtlgcjdgcgnlcaaaGreatDoor

/-
  The way through a level's places: places and what it hands out.
-/
namespace Go.Proofs.YtlgcjdgcgnlcaaaGreatDoor
open Go.RowKit Go.Shelf
set_option linter.unusedVariables false
set_option linter.unusedSimpArgs false
set_option maxRecDepth 100000

/-- Some blocks are left as they were. -/
structure KF (F : Nat → Prop) (A C : World) : Prop where
  size : A.heap.size ≤ C.heap.size
  keep : ∀ k, F k → C.heap[k]? = A.heap[k]?
theorem KF.refl (F : Nat → Prop) (A : World) : KF F A A := ⟨Nat.le_refl _, fun _ _ => rfl⟩
theorem KF.trans {F : Nat → Prop} {A C D : World} (h : KF F A C) (k : KF F C D) : KF F A D := ⟨Nat.le_trans h.size k.size, fun i hi => (k.keep i hi).trans (h.keep i hi)⟩
theorem KF.book {F : Nat → Prop} {B : Nat} (hF : ∀ k, F k → k < B) (W : World) (l : Nat) (o' : Obj) (hl : B ≤ l) : KF F W (W.putObj l o') :=
  ⟨(grownBy_putObj' W l o').size, fun k hk => World.putObj_heap_other (by have := hF k hk; omega)⟩
theorem KF.under {F : Nat → Prop} {B : Nat} (hF : ∀ k, F k → k < B) {A C : World} (h : Below B A C) : KF F A C := ⟨h.size, fun k hk => h.block k (hF k hk)⟩
theorem PT.sameS {w w' : World} (h : PT w) (hb : w'.heap[0]? = w.heap[0]?) : PT w' := by
  unfold PT Lib.TabIs World.var? at *
  rw [gPT] at h ⊢
  simp only [Option.bind_some] at h ⊢
  rw [hb]
  exact h
/-- The blocks that a walk over a level looks at. -/
def FP (d : Nat) (D : Dm) (gd gh gl k : Nat) : Prop := D.own d k ∨ D.ro k ∨ k = gd ∨ k = gh ∨ k = gl ∨ k = 0
/-- What stands when a level is walked over. -/
structure PAt (w : World) (d s : Nat) (rs : List Rw) (D : Dm) (gd gh gl H L : Nat) : Prop where
  dk : DkAt w d s rs D
  pt : PT w
  bd : Blk w gd 26 [.pointer (some ⟨d, 0, none⟩)]
  bh : Blk w gh 3 [.int .i64 (H : Int)]
  bl : Blk w gl 3 [.int .i64 (L : Int)]
section
variable {w w' : World} {d s : Nat} {rs : List Rw} {D : Dm} {gd gh gl H L : Nat}
theorem PAt.lt (h : PAt w d s rs D gd gh gl H L) {k : Nat} (hk : FP d D gd gh gl k) : k < w.heap.size := by
  rcases hk with hk | hk | rfl | rfl | rfl | rfl
  · exact h.dk.lt (.inl hk)
  · exact h.dk.lt (.inr hk)
  · exact h.bd.lt
  · exact h.bh.lt
  · exact h.bl.lt
  · exact h.pt.lt
theorem PAt.same (h : PAt w d s rs D gd gh gl H L) (hk : ∀ k, FP d D gd gh gl k → w'.heap[k]? = w.heap[k]?) : PAt w' d s rs D gd gh gl H L :=
  ⟨h.dk.same (fun k hq => hk k (by rcases hq with hq | hq; exact .inl hq; exact .inr (.inl hq))), h.pt.sameS (hk _ (.inr (.inr (.inr (.inr (.inr rfl)))))),
    h.bd.same (hk gd (.inr (.inr (.inl rfl)))), h.bh.same (hk gh (.inr (.inr (.inr (.inl rfl))))), h.bl.same (hk gl (.inr (.inr (.inr (.inr (.inl rfl))))))⟩
theorem PAt.below (h : PAt w d s rs D gd gh gl H L) (hb : Below w.heap.size w w') : PAt w' d s rs D gd gh gl H L := h.same (fun k hk => hb.block k (h.lt hk))
theorem PAt.kf (h : PAt w d s rs D gd gh gl H L) (hb : KF (FP d D gd gh gl) w w') : PAt w' d s rs D gd gh gl H L := h.same hb.keep
end
/-- What is handed out: a file's name and a place in it. -/
abbrev Px := ByteArray × Nat
def encP (x : Px) : Array Value := #[.string x.1, .int .i64 (x.2 : Int)]
def plP (H L j : Nat) : Px := (sN H L (j / 2 ^ H), j % 2 ^ H * 32)
def pls (H L n : Nat) : List Px := (List.range n).map (plP H L)
theorem pls_len (H L n : Nat) : (pls H L n).length = n := by simp [pls]
theorem pls_succ (H L n : Nat) : pls H L (n + 1) = pls H L n ++ [plP H L n] := by simp [pls, List.range_succ]
def RP (H L n : Nat) (pre : List Px) (x : Px) (W0 W : World) : Prop := pre.length < n ∧ pre = pls H L pre.length ∧ x = plP H L pre.length
theorem rp_own (H L n B0 : Nat) (pre : List Px) (x : Px) (W0 : World) : OwnFrom B0 (fun (_ : Unit) W => RP H L n pre x W0 W) := fun _ W W' row h hg hr => h
theorem size_is {w : World} {d s : Nat} {rs : List Rw} {D : Dm} (h : DkAt w d s rs D) (n : ByteArray) : (if fE rs n = 0 then ((fl (play rs) n).length : Int) else 0) = ((fl (play rs) n).length : Int) := by
  by_cases hf : fE rs n = 0
  · rw [if_pos hf]
  · rw [if_neg hf]
    have hnone : play rs n = none := by
      by_cases hn : nmB n = true
      · cases hp : play rs n with
        | none => rfl
        | some xs => simp [fE, hn, hp] at hf
      · exact Nmd.play h.valS n (by simpa using hn)
    simp [fl, hnone]
set_option maxHeartbeats 4000000 in
theorem places_seq (d s : Nat) (rs : List Rw) (D : Dm) (gd gh gl H L n : Nat) (w : World) (h : PAt w d s rs D gd gh gl H L) (hl : tFB H L 0 = true) (hn : Cn (play rs) H L n) (hwt : wt rs ≤ 1099511000000) :
    SeqQ Fence.wide 3 Tryz.prog 83 #[.pointer (some ⟨gh, 0, none⟩), .pointer (some ⟨gl, 0, none⟩), .pointer (some ⟨gd, 0, none⟩)] encP (RP H L n) (fun _ => KF (FP d D gd gh gl)) (fun ys => ys = pls H L n) (fun ys => ∃ k, k ≤ n ∧ ys = pls H L k) w := by
  intro l0 J Jx W hW hJ hJx hY h0
  have H0 := hide (h.below hW)
  have HJ0 := hide h0
  have HN := hide hn
  have hh := (tFB_is hl).1
  have hLb := (tFB_bd hl).2.2.1
  have hnb : n ≤ 281474976710656 := hn.le (Nmd.play h.dk.valS)
  have HNF : Hid (Nmd (play rs)) := hide (Nmd.play h.dk.valS)
  have HLT : Hid (∀ k, FP d D gd gh gl k → k < W.heap.size) := hide (fun k hk => (h.below hW).lt hk)
  obtain ⟨P, HP⟩ : ∃ P, Hid (2 ^ H = P) := ⟨_, hide rfl⟩
  have HWP := hide (wrap_pow hh HP.out)
  have hP := hh.pow
  rw [HP.out] at hP
  obtain ⟨hPlo, hPhi⟩ := hP
  have hH8 := hh.2
  have hHi : (H : Int) ≤ 8 := by omega
  have HW := hide hwt
  clear h hn hW h0 hl hh hwt
  refine callsIn_of_wp Tryz.func83 rfl trivial ?_ rfl
  simp only [Tryz.ntmps83, List.size_toArray, List.length_cons, List.length_nil, Nat.reduceAdd, Nat.reduceSub, Array.replicate_succ, Array.replicate_zero, List.push_toArray, List.append_toArray, List.nil_append, List.cons_append]
  refine wpIn_wide.2 ?_
  go_wp2_with fail
  go_step3
  go_wp2_with fail
  go_step3
  go_wp2_with fail
  try simp only [Act.put]
  refine (wpIn_wide (n := 3)).1 ?_
  gi_loopw [5] (fun p wr => ∃ (i : Nat) (pre : List Px), i * P ≤ n ∧ p = .int .i64 (i : Int) ∧ Hid (pre = pls H L (i * P)) ∧ Hid (J pre wr) ∧ Hid (PAt wr d s rs D gd gh gl H L)) (fun p _ => n + 1 - (intOf p).toNat)
  case atStart => exact ⟨0, [], by omega, rfl, hide (by rw [Nat.zero_mul]; rfl), HJ0, H0⟩
  case round =>
    obtain ⟨i, pre, hi, rfl, HPR, HJ, HA⟩ := hrel
    have hin : i ≤ n := by
      have := Nat.mul_le_mul_left i (show 1 ≤ P by omega)
      omega
    have hc1 : wr.cell? ⟨gh, 0, none⟩ = some (.int .i64 (H : Int)) := by rw [HA.out.bh.cell]; rfl
    have hc2 : wr.cell? ⟨gl, 0, none⟩ = some (.int .i64 (L : Int)) := by rw [HA.out.bl.cell]; rfl
    have HNM := hide (sname_any (H : Int) (L : Int) (i : Int) wr (by omega) (by omega) HA.out.pt)
    gi_wp2_with fail
    refine ⟨trivial, (callsIn_wide.2 HNM.out).mono ?_⟩
    rintro e w1 ⟨rfl, hb1⟩
    have HA1 := hide (HA.out.below hb1)
    have HJ1 := hide (hJ _ wr w1 none HJ.out ⟨hb1.os, hb1.tape, hb1.output, hb1.size, fun i hi _ => hb1.block i hi⟩ (fun r e => by cases e))
    rw [smP_nat]
    have hc3 : w1.cell? ⟨gd, 0, none⟩ = some (.pointer (some ⟨d, 0, none⟩)) := by rw [HA1.out.bd.cell]; rfl
    have hc4 : w1.cell? ⟨gh, 0, none⟩ = some (.int .i64 (H : Int)) := by rw [HA1.out.bh.cell]; rfl
    have hsz := size_any d s rs D w1 HA1.out.dk (sN H L i)
    rw [size_is HA1.out.dk] at hsz
    obtain ⟨sz, HSZ⟩ : ∃ sz, Hid ((fl (play rs) (sN H L i)).length = sz) := ⟨_, hide rfl⟩
    rw [HSZ.out] at hsz
    have HSC := hide hsz
    have HSZ1 : Hid (sz ≤ 1099511000000) := hide (by rw [← HSZ.out]; exact Nat.le_trans (play_wt _ _) HW.out)
    have HHAS : Hid (∀ k, k < P → hasD (play rs) H L (i * P + k) = decide ((k + 1) * 32 ≤ sz)) := hide (fun k hk => by
      unfold hasD
      rw [HP.out, Nat.mul_comm i P, Nat.mul_add_mod, Nat.mul_add_div (by omega), Nat.mod_eq_of_lt hk, Nat.div_eq_of_lt hk]
      simp only [Nat.add_zero]
      exact decide_eq_decide.2 (by rw [HSZ.out]))
    have HPL : Hid (∀ k, k < P → plP H L (i * P + k) = (sN H L i, k * 32)) := hide (fun k hk => by
      unfold plP
      rw [HP.out, Nat.mul_comm i P, Nat.mul_add_mod, Nat.mul_add_div (by omega), Nat.mod_eq_of_lt hk, Nat.div_eq_of_lt hk]
      simp only [Nat.add_zero])
    generalize smE (H : Int) (L : Int) (i : Int) = er at *
    generalize sN H L i = nm at *
    clear hb1 hc1 hc2 HNM hsz HJ HA
    gi_wp2_with fail
    refine ⟨trivial, (callsIn_wide.2 HSC.out).mono ?_⟩
    rintro e w2 ⟨rfl, rfl⟩
    gi_wp2_with (first | (rw [HWP.out]))
    try simp only [Act.put]
    gi_loopw [28] (fun p wr => ∃ (k : Nat) (pre : List Px), k ≤ P ∧ i * P + k ≤ n ∧ p = .int .i64 (k : Int) ∧ Hid (pre = pls H L (i * P + k)) ∧ Hid (J pre wr) ∧ Hid (PAt wr d s rs D gd gh gl H L)) (fun p _ => P - (intOf p).toNat)
    case atStart => exact ⟨0, pre, by omega, by omega, rfl, HPR, HJ1, HA1⟩
    case round =>
      clear HPR HJ1 HA1 HSC hc3 hc4
      obtain ⟨k, pre, hk, hik, rfl, HPR, HJ, HA⟩ := hrel
      by_cases hkP : k < P
      · have hkPi : (k : Int) < (P : Int) := by omega
        have HH := hide (HHAS.out k hkP)
        by_cases hs : (k + 1) * 32 ≤ sz
        · have hsi : ¬ (sz : Int) < ((k : Int) + 1) * 32 := by omega
          have hlt : i * P + k < n := by
            rcases Nat.lt_or_ge (i * P + k) n with h | h
            · exact h
            · exfalso
              have e1 : i * P + k = n := by omega
              have h2 := HN.out.2
              rw [← e1, HH.out] at h2
              simp at h2
              omega
          have HR : Hid (RP H L n pre (nm, k * 32) wr wr) := hide (by
            have hpl : pre.length = i * P + k := by rw [HPR.out, pls_len]
            exact ⟨by rw [hpl]; exact hlt, by rw [hpl]; exact HPR.out, by rw [hpl, HPL.out k hkP]⟩)
          have HM : Hid (pre ++ [(nm, k * 32)] = pls H L (i * P + (k + 1))) := hide (by rw [HPR.out, ← Nat.add_assoc, pls_succ, HPL.out k hkP])
          obtain ⟨fn, tmps, assign, body, hy, hR⟩ := hY pre (nm, k * 32) wr wr HJ.out (Below.refl _ _) HJ.out HR.out
          simp only [encP] at hy
          have e32 : ((k * 32 : Nat) : Int) = (k : Int) * 32 := by omega
          rw [e32] at hy
          gi_wp2_with fail
          refine hR.mono ?_
          rintro r W7 (⟨rfl, hJ7, hk7⟩ | ⟨rfl, hJx7⟩)
          · have HJ7 := hide hJ7
            have HA7 := hide (HA.out.kf hk7)
            clear hJ7 hk7 hy hR HR HA HJ HPR
            gi_wp2
            go_roundw
            case rel => exact ⟨k + 1, _, by omega, by omega, by go_num, HM, HJ7, HA7⟩
            case measure => simp only [intOf]; omega
          · have HJx7 := hide hJx7
            clear hJx7 hy hR HR HA HJ HPR
            gi_wp2
            rw [Exit.noGoto_normal]
            go_end0
            exact ⟨⟨_, rfl⟩, .inr ⟨_, ⟨i * P + (k + 1), by omega, HM.out⟩, HJx7.out⟩⟩
        · have hsi : (sz : Int) < ((k : Int) + 1) * 32 := by omega
          have he : i * P + k = n := by
            rcases Nat.lt_or_ge (i * P + k) n with h | h
            · exfalso
              have h2 := HN.out.1 _ h
              rw [HH.out] at h2
              simp at h2
              omega
            · omega
          have HFIN : Hid (pre = pls H L n) := hide (by rw [HPR.out, he])
          clear HH
          gi_wp2
          refine ⟨(fun f h => by cases h), ?_⟩
          gi_wp2
          rw [Exit.noGoto_normal]
          go_end0
          exact ⟨⟨_, rfl⟩, .inl ⟨_, HFIN.out, HJ.out⟩⟩
      · have hkPi : ¬ (k : Int) < (P : Int) := by omega
        obtain rfl : k = P := by omega
        have hn1 : (i + 1) * k ≤ n := by rw [Nat.add_mul, Nat.one_mul]; exact hik
        have hn2 : i + 1 ≤ n := by
          have := Nat.mul_le_mul_left (i + 1) (show 1 ≤ k by omega)
          omega
        have HPR2 : Hid (pre = pls H L ((i + 1) * k)) := hide (by rw [HPR.out, Nat.add_mul, Nat.one_mul])
        gi_wp2
        go_roundw
        case rel => exact ⟨i + 1, pre, hn1, by go_num, HPR2, HJ, HA⟩
        case measure => simp only [intOf]; omega

end Go.Proofs.YtlgcjdgcgnlcaaaGreatDoor

/-
  A region that draws its order and only reads, inside a round of a range over a function (the text of Km, for seats that keep other things).
-/

namespace Go.Proofs.YtlgcjdgcgnlcaaaGreatDoor
open Go.RowKit Go.Shelf
set_option linter.unusedVariables false

/-- A region that draws its order and only reads, inside a round: one walk serves every order. -/
def noDefer (o : Oper) : Bool := match o.op with
  | .defer _ => false
  | _ => true
section
variable {F : Fence} {n : Nat} {P : Program} {ops : Array Oper} {md : Region.Mode} {C : World → Prop}
theorem wpOpIn_of_qOp (hF : WideF F) (hd : ops.all noDefer = true) {i : Nat} {a : Act} {K : Act → Prop} {K' : Act → World → Prop} {Q' : Exit → Act → World → Prop} {w : World} (hC : C w) (h : ∀ a w', C w' → K a → K' a w') (hh : qOp P ops C i K a) : wpOpIn F n P ops Q' i K' a w := by
  unfold qOp at hh
  unfold wpOpIn
  split
  · rename_i ho; simp only [ho] at hh; exact h _ _ hC hh
  · rename_i o ho
    simp only [ho] at hh
    split
    · rename_i hw
      simp only [hw, if_true] at hh
      refine lift_op hF (fun c hc => ?_) (Oper.wp_of_quiet hC h hh)
      have h1 := Array.all_eq_true.1 hd
      obtain ⟨hi, he⟩ := Array.getElem?_eq_some_iff.1 ho
      have h2 := h1 i hi
      rw [he] at h2
      simp [noDefer, hc] at h2
    · rename_i hw; simp only [hw] at hh; exact ⟨fun f _ => hF.fn f, h _ _ hC hh⟩
theorem wpAnyIn_of_quiet (hF : WideF F) (hd : ops.all noDefer = true) {Q : Act → Prop} {Q' : Exit → Act → World → Prop} (hQ : ∀ a w, C w → Q a → Q' .normal a w) : ∀ (fuel : Nat) (listed : Array Bool) (a : Act) (w : World), C w →
    wpAnyQ P md ops C Q fuel listed a → wpAnyIn F n P md ops Q' fuel listed a w
  | 0, _, _, _, hw, h => ⟨h.1, hQ _ _ hw h.2⟩
  | fuel + 1, _, _, _, hw, h => ⟨fun h0 => hQ _ _ hw (h.1 h0), fun i hi => wpOpIn_of_qOp hF hd hw (fun a' w' hw' => wpAnyIn_of_quiet hF hd hQ fuel _ a' w' hw') (h.2 i hi)⟩
theorem wpIn_region_round {l : List Oper} {id : Nat} {Q : Exit → Act → World → Prop} {a : Act} {w : World} (hF : WideF F) (hm : P.follows .mixedOrders = true) (hB : Region.lexB .any l.toArray = true) (hd : l.toArray.all noDefer = true)
    (h : wpQuiet P l.toArray (fun w' => ∃ n, w' = w.drewN n) (fun a' => ∀ w', (∃ n, w' = w.drewN n) → Q .normal a' w') l a) : (Code.region id l.toArray true).wpIn F n P Q a w := by
  simp only [Region.lexB, Bool.and_eq_true] at hB
  refine wpIn_region_any hm (wpAnyIn_of_quiet hF hd (C := fun w' => ∃ n, w' = w.drewN n) (Q := fun a' => ∀ w', (∃ n, w' = w.drewN n) → Q .normal a' w') (fun _ w' hw' h => h w' hw') _ _ _ _ ⟨1, rfl⟩ ?_)
  have := wpAnyQ_lex (P := P) (C := fun w' => ∃ n, w' = w.drewN n) (md := .any) hB.1 l 0 (Array.replicate l.toArray.size false) a (by simp) (by simpa using hB.2) h
  simpa using this
end

end Go.Proofs.YtlgcjdgcgnlcaaaGreatDoor

/-
  Worlds in which all cells are kept; stores that change nothing; what is kept beside the cells (out of Jck).
-/
namespace Go.Proofs.YtlgcjdgcgnlcaaaGreatDoor
open Go.RowKit Go.Shelf
set_option linter.unusedVariables false
set_option maxRecDepth 100000

/-- All cells are kept. -/
structure CK (A C : World) : Prop where
  size : A.heap.size ≤ C.heap.size
  keep : ∀ (k : Nat) (o : Obj), A.heap[k]? = some o → o.isCells = true → C.heap[k]? = some o
theorem CK.of_grown {A C : World} {row : Option Nat} (hg : A.grownBy C row) (hr : ∀ r, row = some r → ∃ o : Obj, A.heap[r]? = some o ∧ o.isCells = false) : CK A C :=
  ⟨hg.size, fun k o ho hc => by
    rw [hg.block k (Array.getElem?_eq_some_iff.1 ho).1 (fun e => by
      obtain ⟨q, hq, hn⟩ := hr k e.symm
      rw [ho] at hq
      injection hq with hq
      subst hq
      rw [hc] at hn
      cases hn)]
    exact ho⟩
theorem CK.below {A C : World} (h : Below A.heap.size A C) : CK A C := ⟨h.size, fun k o ho _ => (h.block k (Array.getElem?_eq_some_iff.1 ho).1).trans ho⟩
theorem CK.put {V : World} {D : Nat} {o : Obj} (o' : Obj) (h : V.heap[D]? = some o) (hc : o.isCells = false) : CK V (V.putObj D o') :=
  ⟨(grownBy_putObj' V D o').size, fun k q hq hcq => by
    rw [World.putObj_heap_other (fun e => by
      subst e
      rw [h] at hq
      injection hq with hq
      subst hq
      rw [hc] at hcq
      cases hcq)]
    exact hq⟩
theorem Blk.ck {A C : World} {g : Nat} {t : TypeId} {cs : List Value} (h : Blk A g t cs) (hk : CK A C) : Blk C g t cs := hk.keep g _ h rfl
theorem Own.ck {A C : World} {B : Nat} {v : Value} {xs : List Int} (h : Own A B v xs) (hk : CK A C) : Own C B v xs := h.same (fun k e => by
  obtain ⟨cs, hc⟩ := h.lies e
  exact (hc.ck hk).trans hc.symm)
/-- A store of what is there. -/
theorem set_id {w : World} {g i : Nat} {t : TypeId} {cs : List Value} {v : Value} (h : Blk w g t cs) (hv : cs[i]? = some v) : w.setCell ⟨g, i, none⟩ v = w := by
  have e : w.heap.modify g (fun
      | .cells c elem frozen => .cells (if (⟨g, i, none⟩ : Addr).spot.isSome then c else c.setIfInBounds i v) elem frozen
      | o => o) = w.heap := by
    apply Array.ext_getElem?
    intro k
    rw [Array.getElem?_modify]
    split
    · rename_i hk
      subst hk
      have h' : w.heap[g]? = some (.cells cs.toArray t) := h
      rw [h']
      obtain ⟨hi, rfl⟩ := List.getElem?_eq_some_iff.1 hv
      simp
    · rfl
  exact congrArg (fun H => ({ w with heap := H } : World)) e
theorem keepsO_below {A B : World} (h : Below A.heap.size A B) : KeepsOthers A B := ⟨h.size, fun k o hk _ => (h.block k (Array.getElem?_eq_some_iff.1 hk).1).trans hk⟩
theorem keepsO_but {A B : World} {g : Nat} {t : TypeId} {cs : List Value} (h : But g A B) (hg : Blk A g t cs) : KeepsOthers A B := ⟨Nat.le_of_eq h.size.symm, fun k o hk hc => (h.block k (fun e => by
  subst e
  rw [hg] at hk
  injection hk with hk
  subst hk
  cases hc)).trans hk⟩
theorem keepsO_grown {A B : World} {row : Option Nat} (h : A.grownBy B row) (hr : ∀ g, row = some g → ∃ t cs, Blk A g t cs) : KeepsOthers A B := ⟨h.size, fun k o hk hc => (h.block k (Array.getElem?_eq_some_iff.1 hk).1 (fun e => by
  obtain ⟨t, cs, hg⟩ := hr k e.symm
  rw [hg] at hk
  injection hk with hk
  subst hk
  cases hc)).trans hk⟩

/-- What is to be deferred is left. -/
def MarksFrom (B : Nat) (A C : World) : Prop := ∀ k : Nat, B ≤ k → A.heap[k]? = some (.deferred (some [])) → C.heap[k]? = some (.deferred (some []))
theorem marks_round {B q : Nat} {W W3 : World} {r r2 : Loop} {o o' : Obj} (hl : W.heap[q]? = some (.loop r)) (hk : KeepsFrom B (W.putObj q o) W3) (h3 : W3.heap[q]? = some (.loop r2)) : MarksFrom B W (W3.putObj q o') := fun k hB hq => by
  have hne : k ≠ q := fun e => by
    subst e
    rw [hq] at hl
    injection hl with hl
    cases hl
  rw [World.putObj_heap_other hne]
  exact hk.same k _ hB ((World.putObj_heap_other hne).trans hq) rfl
theorem Bk.own {r : Loop} {D : Nat} {W W' : World} {row : Option Nat} (h : Bk r D W) (hg : W.grownBy W' row) (hr : ∀ q, row = some q → D + 1 < q) : Bk r D W' :=
  ⟨(hg.block _ (Array.getElem?_eq_some_iff.1 h.loop).1 (fun e => by have := hr _ e.symm; omega)).trans h.loop, (hg.block _ (Array.getElem?_eq_some_iff.1 h.mark).1 (fun e => by have := hr _ e.symm; omega)).trans h.mark⟩
section
variable {F : Fence} {n : Nat} {P : Program}
/-- As SeqQ; of a round it knows besides that what is to be deferred is left. -/
def SeqL {α : Type} (F : Fence) (n : Nat) (P : Program) (g : Nat) (lb : Array Value) (encs : α → Array Value) (R : List α → α → World → World → Prop) (Kp : α → World → World → Prop) (S Sp : List α → Prop) (w : World) : Prop :=
  ∀ (l : Nat) (J Jx : List α → World → Prop) (W : World), Below w.heap.size w W → OwnFrom W.heap.size J → OwnFrom W.heap.size Jx →
    (∀ pre x W0 W1, J pre W0 → Below W0.heap.size W0 W1 → J pre W1 → R pre x W0 W1 → YieldAt F (n - 1) P l (encs x) W1 fun e W' => (e = .returned (.bool true) ∧ J (pre ++ [x]) W' ∧ Kp x W1 W' ∧ MarksFrom w.heap.size W1 W') ∨ (e = .returned (.bool false) ∧ Jx (pre ++ [x]) W' ∧ MarksFrom w.heap.size W1 W')) →
    J [] W → CallsIn F n P g (#[.func (.yield l) #[] #[]] ++ lb) W fun e W' => (∃ v, e = .returned v) ∧ ((∃ xs, S xs ∧ J xs W') ∨ (∃ pre, Sp pre ∧ Jx pre W'))

theorem rangeL {α : Type} {g : Operand} {ps : Array Tmp} {assign body : Code} {Q : Exit → Act → World → Prop} {a : Act} {w : World}
    (hro : F.round = none) (h1 : 1 ≤ n) {gf : Nat} {lb : Array Value} (hg : a.eval g = .func (.func gf) #[] lb) (hFg : F.fn gf) (eg : ∀ args w, (callFunc gf args).run P w = .ok (.enter gf args) w)
    {encs : α → Array Value} {R : List α → α → World → World → Prop} {Kp : α → World → World → Prop} {S Sp : List α → Prop} (hseq : SeqL F (n - 1) P gf lb encs R Kp S Sp w)
    (hKt : ∀ {x : α} {A B C : World}, Kp x A B → Kp x B C → Kp x A C) (hKb : ∀ (x : α) (W : World) (l : Nat) (o o' : Obj), w.heap.size ≤ l → W.heap[l]? = some o → o.isCells = false → Kp x W (W.putObj l o')) (hps : ∀ x, (encs x).size = ps.size)
    (hR : ∀ pre x W0, OwnFrom w.heap.size (fun (_ : Unit) W => R pre x W0 W))
    (I : List α → World → Prop) (Ix : Code → List α → World → Prop) (hI : OwnFrom w.heap.size I) (hIx : ∀ c, OwnFrom w.heap.size (Ix c)) (h0 : I [] w) (a₁ : α → Act)
    (hassign : ∀ (l : Nat) (x : α) (W : World) (K : Act → World → Prop), K (a₁ x) W →
      assign.wpIn (F.inRound l) (n - 1 - 1) P (Exit.then K (fun _ _ _ => False)) { tmps := (ps.zip (encs x)).foldl (fun t (p, v) => t.setIfInBounds p v) a.tmps, defers := [] } W)
    (hbody : ∀ (l : Nat) (pre : List α) (x : α) (W0 W : World), I pre W0 → (∀ (k : Nat) (o : Obj), W0.heap[k]? = some o → o.isCells = true → W.heap[k]? = some o) → W0.heap.size ≤ W.heap.size → I pre W → R pre x W0 W → body.wpIn (F.inRound l) (n - 1 - 1) P (ownPostG w.heap.size (Kp x) I Ix (pre ++ [x]) W) (a₁ x) W)
    (hdone : ∀ (D : Nat) (xs : List α) (W : World), w.heap.size ≤ D → S xs → I xs W → W.heap[D]? = some (.deferred (some [])) → Q .normal { a with defers := { target := .collected D, args := #[] } :: a.defers } W)
    (hstop : ∀ (D : Nat) (c : Code) (pre : List α) (W : World), w.heap.size ≤ D → Sp pre → Ix c pre W → W.heap[D]? = some (.deferred (some [])) → c.wpIn F n P Q { a with defers := { target := .collected D, args := #[] } :: a.defers } W) :
    (Code.rangeFunc g ps assign body).wpIn F n P Q a w := by
  refine wpIn_rangeFunc fun fn hfn => ?_
  rw [hro]
  obtain ⟨W1, hW1⟩ : ∃ W1, (w.alloc (.deferred (some []))).alloc (.loop (lrec fn a.tmps ps assign body w.heap.size .ready none)) = W1 := ⟨_, rfl⟩
  have B1 : Bk (lrec fn a.tmps ps assign body w.heap.size .ready none) w.heap.size W1 := by rw [← hW1]; exact Bk.new w _
  have b1 : Below w.heap.size w W1 := by rw [← hW1]; exact ((Below.refl _ w).alloc (Nat.le_refl _) _).alloc (by simp) _
  have s1 : w.heap.size ≤ W1.heap.size := b1.size
  have far : ∀ {A : World} {row : Option Nat}, (∀ r, row = some r → W1.heap.size ≤ r ∧ ∃ o : Obj, A.heap[r]? = some o ∧ o.isCells = false) → ∀ r, row = some r → w.heap.size ≤ r ∧ ∃ o : Obj, A.heap[r]? = some o ∧ o.isCells = false :=
    fun hr r e => by obtain ⟨hb, o, ho, hw⟩ := hr r e; exact ⟨by omega, o, ho, hw⟩
  have z1 : W1.heap.size = w.heap.size + 2 := by rw [← hW1, World.size_alloc, World.size_alloc]
  refine ⟨w.heap.size + 1, [{ target := .collected w.heap.size, args := #[] }], W1, { target := .fn (.func gf) lb, args := #[.func (.yield (w.heap.size + 1)) #[] #[]] }, W1, gf,
    #[.func (.yield (w.heap.size + 1)) #[] #[]] ++ lb, W1, by rw [← hW1]; exact run_enterLoop_outer _ _ _ _ _, by simp only [resolve, hg]; simp [go_sem], fun f' hf' => by simp [Target.leads] at hf'; subst hf'; exact hFg, by simp [invoke, go_sem, eg], fun _ => h1, ?_⟩
  refine (hseq (w.heap.size + 1) (fun pre W => I pre W ∧ Bk (lrec fn a.tmps ps assign body w.heap.size .ready none) w.heap.size W) (fun pre W => ∃ c, Ix c pre W ∧ Bk (lrec fn a.tmps ps assign body w.heap.size .done (some c)) w.heap.size W) W1 b1
    (fun s A B row hs hg' hr => ⟨hI s A B row hs.1 hg' (far hr), hs.2.own hg' (fun q e => by have := (hr q e).1; omega)⟩)
    (fun s A B row hs hg' hr => by obtain ⟨c, hc, hb⟩ := hs; exact ⟨c, hIx c s A B row hc hg' (far hr), hb.own hg' (fun q e => by have := (hr q e).1; omega)⟩) ?_
    ⟨by rw [← hW1]; exact hI.alloc _ (hI.alloc _ h0), B1⟩).mono ?_
  · rintro pre x W0 W ⟨hi0, hB0⟩ hb0 ⟨hi, hB⟩ hr
    refine round_R hfn (hps x) hB (hassign _ x W) ?_
    have hB2 := hB.put (lrec fn a.tmps ps assign body w.heap.size .busy none)
    have hK2 : Kp x W (W.putObj (w.heap.size + 1) (.loop (lrec fn a.tmps ps assign body w.heap.size .busy none))) := hKb x _ _ _ _ (by omega) hB.loop rfl
    refine wpIn_mono (hbody _ pre x W0 _ hi0 (fun k o ho hc => ?_) (Nat.le_trans hb0.size (grownBy_putObj' W _ _).size) (hI.putObj _ hi (by omega) hB.loop rfl) ((hR pre x W0).putObj (s := ()) _ hr (by omega) hB.loop rfl)) ?_
    · have hk : W.heap[k]? = some o := (hb0.block k (Array.getElem?_eq_some_iff.1 ho).1).trans ho
      rw [World.putObj_heap_other (fun e => by
        subst e
        rw [hB.loop] at hk
        injection hk with hk
        subst hk
        cases hc)]
      exact hk
    intro e a3 W3 hp
    cases e with
    | normal =>
      have hB3 := hB2.keep hp.1
      exact ⟨hB3, .inl ⟨rfl, ⟨hI.putObj _ hp.2.2 (by omega) hB3.loop rfl, hB3.put _⟩, hKt hK2 (hKt hp.2.1 (hKb x _ _ _ _ (by omega) hB3.loop rfl)), marks_round hB.loop hp.1 hB3.loop⟩⟩
    | ret =>
      have hB3 := hB2.keep hp.1
      exact ⟨hB3, .inr ⟨rfl, ⟨.ret, (hIx _).putObj _ hp.2 (by omega) hB3.loop rfl, hB3.put _⟩, marks_round hB.loop hp.1 hB3.loop⟩⟩
    | exit id =>
      have hB3 := hB2.keep hp.1
      exact ⟨hB3, .inr ⟨rfl, ⟨.exit id, (hIx _).putObj _ hp.2 (by omega) hB3.loop rfl, hB3.put _⟩, marks_round hB.loop hp.1 hB3.loop⟩⟩
    | goto u =>
      have hB3 := hB2.keep hp.1
      exact ⟨hB3, .inr ⟨rfl, ⟨.goto u, (hIx _).putObj _ hp.2 (by omega) hB3.loop rfl, hB3.put _⟩, marks_round hB.loop hp.1 hB3.loop⟩⟩
    | panic ch => exact hp.elim
    | outgrown => exact hp.elim
  · rintro e W2 ⟨⟨v, rfl⟩, (⟨xs, hS, hi, hB⟩ | ⟨pre, hSp, c, hi, hB⟩)⟩
    · exact ⟨none, _, run_endLoop (P := P) hB.loop (by simp [lrec]), hdone _ xs _ (Nat.le_refl _) hS (hI.putObj _ hi (by omega) hB.loop rfl) ((World.putObj_heap_other (by omega)).trans hB.mark)⟩
    · exact ⟨some c, _, run_endLoop (P := P) hB.loop (by simp [lrec]), hstop _ c pre _ (Nat.le_refl _) hSp ((hIx c).putObj _ hi (by omega) hB.loop rfl) ((World.putObj_heap_other (by omega)).trans hB.mark)⟩
end
/-- Blocks of digests are left. -/
structure KD (A C : World) : Prop where
  size : A.heap.size ≤ C.heap.size
  keep : ∀ (k : Nat) (cs : List Value), Blk A k 32 cs → Blk C k 32 cs
theorem KD.refl (A : World) : KD A A := ⟨Nat.le_refl _, fun _ _ h => h⟩
theorem KD.trans {A C D : World} (h : KD A C) (k : KD C D) : KD A D := ⟨Nat.le_trans h.size k.size, fun i cs ho => k.keep i cs (h.keep i cs ho)⟩
theorem KD.book (W : World) (l : Nat) (o o' : Obj) (h : W.heap[l]? = some o) (hc : o.isCells = false) : KD W (W.putObj l o') :=
  ⟨(grownBy_putObj' W l o').size, fun k cs hq => by
    have hne : k ≠ l := fun e => by
      subst e
      rw [hq] at h
      injection h with h
      subst h
      cases hc
    unfold Blk
    rw [World.putObj_heap_other hne]
    exact hq⟩
theorem KD.below {A C : World} (h : Below A.heap.size A C) : KD A C := ⟨h.size, fun k cs hk => hk.on h⟩

end Go.Proofs.YtlgcjdgcgnlcaaaGreatDoor

/-
  A region that draws its order inside a round of a range over a function: walked by hand, as outside (as Kr), and what is held only till a given operation comes (as Ou).
-/

namespace Go.Proofs.YtlgcjdgcgnlcaaaGreatDoor
open Go.RowKit Go.Shelf
set_option linter.unusedVariables false

section
variable {F : Fence} {n : Nat} {P : Program} {ops : Array Oper} {md : Region.Mode}
theorem wpOpIn_of_wpOp (hF : WideF F) (hd : ops.all noDefer = true) {i : Nat} {a : Act} {K K' : Act → World → Prop} {Q : Exit → Act → World → Prop} {w : World} (hL : ¬ LetsOut Q) (h : ∀ a w', K a w' → K' a w') (hh : wpOp P ops Q i K a w) : wpOpIn F n P ops Q i K' a w := by
  unfold wpOp at hh
  unfold wpOpIn
  split
  · rename_i ho; simp only [ho] at hh; exact h _ _ hh
  · rename_i o ho
    simp only [ho] at hh
    split
    · rename_i hw
      simp only [hw, if_true] at hh
      rcases hh with hh | ⟨_, hh⟩
      · refine lift_op hF (fun c hc => ?_) (Oper.wp_mono h hh)
        have h1 := Array.all_eq_true.1 hd
        obtain ⟨hi, he⟩ := Array.getElem?_eq_some_iff.1 ho
        have h2 := h1 i hi
        rw [he] at h2
        simp [noDefer, hc] at h2
      · exact absurd hh hL
    · rename_i hw; simp only [hw] at hh; exact ⟨fun f _ => hF.fn f, h _ _ hh⟩
theorem wpAnyIn_of_any (hF : WideF F) (hd : ops.all noDefer = true) {Q : Exit → Act → World → Prop} (hL : ¬ LetsOut Q) : ∀ (fuel : Nat) (listed : Array Bool) (a : Act) (w : World), wpAny P md ops Q fuel listed a w → wpAnyIn F n P md ops Q fuel listed a w
  | 0, _, _, _, h => h
  | fuel + 1, _, _, _, h => ⟨h.1, fun i hi => wpOpIn_of_wpOp hF hd hL (fun a' w' h' => wpAnyIn_of_any hF hd hL fuel _ a' w' h') (h.2 i hi)⟩
/-- Only the normal way out. -/
def Only (R : Act → World → Prop) : Exit → Act → World → Prop
  | .normal, a, w => R a w
  | _, _, _ => False
theorem Only.imp {Q : Exit → Act → World → Prop} : ∀ (e : Exit) (a : Act) (w : World), Only (fun a w => Q .normal a w) e a w → Q e a w := fun e a w h => by
  cases e <;> first | exact h | exact (h : False).elim
theorem Only.normal {Q : Exit → Act → World → Prop} {a : Act} {w : World} (h : Q .normal a w) : Only (fun a w => Q .normal a w) .normal a w := h
theorem Only.out (R : Act → World → Prop) : ¬ LetsOut (Only R) := by rintro ⟨a, w, h⟩; exact h
theorem wpIn_region_held {S : World → Prop} {id : Nat} {Q : Exit → Act → World → Prop} {a : Act} {w : World} (hF : WideF F) (hm : P.follows .mixedOrders = true) (hd : ops.all noDefer = true) (hS : S w.drew)
    (h : S w.drew → wpAnyH P .any ops (Only (fun a w => Q .normal a w)) S ops.size (Array.replicate ops.size false) a w.drew) : (Code.region id ops true).wpIn F n P Q a w :=
  Code.wpIn_mono Only.imp (wpIn_region_any hm (wpAnyIn_of_any hF hd (Only.out _) _ _ _ _ (wpAny_of_held _ _ _ _ (h hS))))
theorem wpIn_region_U {S : World → Prop} {q id : Nat} {Q : Exit → Act → World → Prop} {a : Act} {w : World} (hF : WideF F) (hm : P.follows .mixedOrders = true) (hd : ops.all noDefer = true)
    (h : wpAnyU P .any ops (Only (fun a w => Q .normal a w)) S q ops.size (Array.replicate ops.size false) a w.drew) : (Code.region id ops true).wpIn F n P Q a w :=
  Code.wpIn_mono Only.imp (wpIn_region_any hm (wpAnyIn_of_any hF hd (Only.out _) _ _ _ _ (wpAny_of_U _ _ _ _ h)))
end

end Go.Proofs.YtlgcjdgcgnlcaaaGreatDoor

/-
  How many digests a level has: Count.
-/
namespace Go.Proofs.YtlgcjdgcgnlcaaaGreatDoor
open Go.RowKit Go.Shelf
set_option linter.unusedVariables false
set_option linter.unusedSimpArgs false
set_option maxRecDepth 100000

theorem places_mk (d : Nat) (h l : Int) (w : World) : Calls Tryz.prog 52 #[.pointer (some ⟨d, 0, none⟩), .int .i64 h, .int .i64 l] w fun r w' => ∃ gd gh gl, r = .returned (.func (.func 83) #[] #[.pointer (some ⟨gh, 0, none⟩), .pointer (some ⟨gl, 0, none⟩), .pointer (some ⟨gd, 0, none⟩)]) ∧
    Blk w' gd 26 [.pointer (some ⟨d, 0, none⟩)] ∧ Blk w' gh 3 [.int .i64 h] ∧ Blk w' gl 3 [.int .i64 l] ∧ w.heap.size ≤ gd ∧ w.heap.size ≤ gh ∧ w.heap.size ≤ gl ∧ Below w.heap.size w w' := by
  go_enter Tryz.func52, Tryz.ntmps52
  go_wp2
  go_ret
  have b1 : Below w.heap.size w (w.alloc (.cells #[.pointer (some ⟨d, 0, none⟩)] 26)) := (Below.refl _ _).alloc (Nat.le_refl _) _
  have B1 : Blk (w.alloc (.cells #[.pointer (some ⟨d, 0, none⟩)] 26)) w.heap.size 26 [.pointer (some ⟨d, 0, none⟩)] := Blk.made _ _ _
  generalize hW1 : w.alloc (.cells #[.pointer (some ⟨d, 0, none⟩)] 26) = W1 at *
  have s1 := b1.size
  have b2 : Below W1.heap.size W1 (W1.alloc (.cells #[.int .i64 h] 3)) := (Below.refl _ _).alloc (Nat.le_refl _) _
  have B2 : Blk (W1.alloc (.cells #[.int .i64 h] 3)) W1.heap.size 3 [.int .i64 h] := Blk.made _ _ _
  generalize hW2 : W1.alloc (.cells #[.int .i64 h] 3) = W2 at *
  have s2 := b2.size
  have b3 : Below W2.heap.size W2 (W2.alloc (.cells #[.int .i64 l] 3)) := (Below.refl _ _).alloc (Nat.le_refl _) _
  have B3 : Blk (W2.alloc (.cells #[.int .i64 l] 3)) W2.heap.size 3 [.int .i64 l] := Blk.made _ _ _
  generalize hW3 : W2.alloc (.cells #[.int .i64 l] 3) = W3 at *
  have z1 : W1.heap.size = w.heap.size + 1 := by rw [← hW1]; exact World.size_alloc _ _
  have z2 : W2.heap.size = w.heap.size + 1 + 1 := by rw [← hW2, World.size_alloc, z1]
  exact ⟨w.heap.size, w.heap.size + 1, w.heap.size + 1 + 1, rfl, (B1.on b2).on b3, by rw [← z1]; exact B2.on b3, by rw [← z2]; exact B3, Nat.le_refl _, by omega, by omega, on_below (on_below b1 b2) b3⟩
/-- What stands while digests are counted. -/
structure ZC (w W : World) (b9 d s : Nat) (rs : List Rw) (D : Dm) (gd gh gl H L k : Nat) : Prop where
  c9 : Blk W b9 3 [.int .i64 (k : Int)]
  n9 : w.heap.size ≤ b9
  bel : Below w.heap.size w W
section
variable {w W W' : World} {b9 d s : Nat} {rs : List Rw} {D : Dm} {gd gh gl H L k : Nat}
theorem ZC.ck (h : ZC w W b9 d s rs D gd gh gl H L k) (hk : CK W W') (hb : Below w.heap.size w W') : ZC w W' b9 d s rs D gd gh gl H L k := ⟨h.c9.ck hk, h.n9, hb⟩
end
section
variable (d s : Nat) (rs : List Rw) (D : Dm) (w : World) (hd : DkAt w d s rs D)
include hd
theorem count_bad (h l : Int) (hl : l ≤ 9223372036854775807) (ht : PT w) (he : smE h l 0 ≠ 0) : Calls Tryz.prog 17 #[.pointer (some ⟨d, 0, none⟩), .int .i64 h, .int .i64 l] w fun r w' => r = .returned (.tuple #[.int .i64 0, .int .i64 2]) ∧ Below w.heap.size w w' := by
  have e2 : smE h l 0 = 2 := by unfold smE at *; split at he <;> simp_all
  have HC := hide (scheck_any d s rs D w hd h l hl ht)
  rw [e2] at HC
  clear hd hl ht he e2
  refine (callsIn_wide (n := 4)).1 ?_
  refine callsIn_of_wp_marks Tryz.func17 rfl trivial ?_ rfl
  refine wpIn_wide.2 ?_
  simp only [Tryz.ntmps17, List.size_toArray, List.length_cons, List.length_nil, Nat.reduceAdd, Nat.reduceSub, Array.replicate_succ, Array.replicate_zero, List.push_toArray, List.append_toArray, List.nil_append, List.cons_append]
  go_wp2_with fail
  refine HC.out.mono ?_
  rintro r w1 ⟨rfl, hb1⟩
  go_wp2
  exact ⟨.tuple #[.int .i64 0, .int .i64 2], by simp [results, Tryz.f17, go_sem], rfl, hb1⟩
set_option maxHeartbeats 2000000 in
theorem count_ok (H L n : Nat) (hl : tFB H L 0 = true) (hn : Cn (play rs) H L n) (ht : PT w) (hwt : wt rs ≤ 1099511000000) : Calls Tryz.prog 17 #[.pointer (some ⟨d, 0, none⟩), .int .i64 (H : Int), .int .i64 (L : Int)] w fun r w' => r = .returned (.tuple #[.int .i64 (n : Int), .int .i64 0]) ∧ Below w.heap.size w w' := by
  have hLb := (tFB_bd hl).2.2.1
  have e0 : smE (H : Int) (L : Int) 0 = 0 := by
    show (if smB (H : Int) (L : Int) ((0 : Nat) : Int) = true then (0 : Int) else 2) = 0
    rw [smB_nat, if_pos hl]
  have HC := hide (scheck_any d s rs D w hd H L (by omega) ht)
  rw [e0] at HC
  have hnb : n ≤ 281474976710656 := hn.le (Nmd.play hd.valS)
  have HD := hide hd
  have HT := hide ht
  have HL := hide hl
  have HN := hide hn
  have HW := hide hwt
  clear hd ht hl hn hwt e0
  refine (callsIn_wide (n := 4)).1 ?_
  refine callsIn_of_wp_marks Tryz.func17 rfl trivial ?_ rfl
  refine wpIn_wide.2 ?_
  simp only [Tryz.ntmps17, List.size_toArray, List.length_cons, List.length_nil, Nat.reduceAdd, Nat.reduceSub, Array.replicate_succ, Array.replicate_zero, List.push_toArray, List.append_toArray, List.nil_append, List.cons_append]
  go_wp2_with fail
  refine HC.out.mono ?_
  rintro r w1 ⟨rfl, hb1⟩
  have HB1 := hide hb1
  have HD1 := hide (HD.out.below hb1)
  have HT1 := hide (HT.out.below hb1)
  clear hb1 HC HD HT
  go_wp2_with fail
  have C9 : Blk (w1.alloc (.cells #[.int .i64 0] 3)) w1.heap.size 3 [.int .i64 0] := Blk.made w1 3 [.int .i64 0]
  have hb9 : Below w1.heap.size w1 (w1.alloc (.cells #[.int .i64 0] 3)) := (Below.refl _ _).alloc (Nat.le_refl _) _
  have hs1 : w.heap.size ≤ w1.heap.size := HB1.out.size
  have D2 := hide (HD1.out.below hb9)
  have T2 := hide (HT1.out.below hb9)
  have B2 := hide (on_below HB1.out hb9)
  revert C9 D2 T2 B2
  have HLO : Hid (∀ k, D.own d k ∨ D.ro k ∨ k = 0 → k < w1.heap.size) := hide (fun k hk => by
    rcases hk with hk | hk | rfl
    · exact HD1.out.lt (.inl hk)
    · exact HD1.out.lt (.inr hk)
    · exact HT1.out.lt)
  clear hb9 HD1 HT1 HB1
  generalize hw2 : w1.alloc (.cells #[.int .i64 0] 3) = w2
  clear hw2
  generalize w1.heap.size = b9 at *
  intro C9 D2 T2 B2
  have hs9 : w.heap.size ≤ b9 := hs1
  go_wp2_with fail
  refine (places_mk _ _ _ _).mono ?_
  rintro r w3 ⟨gd, gh, gl, rfl, BD, BH, BL, hgd, hgh, hgl, hb3⟩
  have HSQ := hide (places_seq d s rs D gd gh gl H L n w3 ⟨D2.out.below hb3, T2.out.below hb3, BD, BH, BL⟩ HL.out HN.out HW.out)
  have HJL : Hid (∀ k, FP d D gd gh gl k → k < w3.heap.size) := hide (fun k hk => PAt.lt (H := H) (L := L) ⟨D2.out.below hb3, T2.out.below hb3, BD, BH, BL⟩ hk)
  have C3 := hide (C9.on hb3)
  have B3 := hide (on_below B2.out hb3)
  have HF9 : Hid (∀ k, FP d D gd gh gl k → k ≠ b9) := hide (fun k hk => by
    have h9 := C9.lt
    rcases hk with hk | hk | rfl | rfl | rfl | hk
    · have := HLO.out k (.inl hk); omega
    · have := HLO.out k (.inr (.inl hk)); omega
    · omega
    · omega
    · omega
    · have := HLO.out k (.inr (.inr hk)); omega)
  have hs3 : w.heap.size ≤ w3.heap.size := B3.out.size
  clear hb3 BD BH BL D2 T2 B2 C9 HLO hgd hgh hgl
  go_wp2_with fail
  refine (wpIn_wide (n := 4)).1 ?_
  refine rangeQ rfl (by decide) (gf := 83) (lb := #[.pointer (some ⟨gh, 0, none⟩), .pointer (some ⟨gl, 0, none⟩), .pointer (some ⟨gd, 0, none⟩)]) rfl trivial (enters_of Tryz.func83 (by kernel_rfl) rfl)
    HSQ.out KF.trans (fun x W l o o' hl h hc => KF.book (B := w3.heap.size) HJL.out W l o' hl) (fun _ => rfl) (fun pre x W0 => rp_own _ _ _ _ pre x W0)
    (fun pre W => Blk W b9 3 [.int .i64 (pre.length : Int)] ∧ Below w.heap.size w W) (fun _ _ _ => False)
    (fun _ A C row h hg hr => ⟨h.1.ck (CK.of_grown hg (fun r e => (hr r e).2)), h.2.grown hg h.2.size (fun r e => by have := (hr r e).1; omega)⟩)
    (fun c _ A C row h hg hr => h) ⟨C3.out, B3.out⟩ ?act ?assign ?body ?done ?stop
  case assign =>
    rintro l x W K hK
    have hsem := Oper.semAt_some
    simp only [encP]
    gi_wp2
    simp only [List.zip_toArray, List.zip_cons_cons, List.zip_nil_left, List.foldl_toArray, List.foldl_cons, List.foldl_nil, List.setIfInBounds_toArray, List.set_cons_succ, List.set_cons_zero]
    exact hK
  case stop =>
    rintro D0 c pre W hD hSp h hK
    exact h.elim
  case body =>
    rintro l pre ⟨x, y⟩ W0 W _ hck hsz ⟨hc9, hbel⟩ ⟨h1, h2, h3⟩
    have hsem := Oper.semAt_some
    have d9 : W.cell? ⟨b9, 0, none⟩ = some (.int .i64 (pre.length : Int)) := by rw [hc9.cell]; rfl
    have f9 := hc9.free 0
    have HC9 := hide hc9
    have HBL := hide hbel
    have HFN : Hid (FP d D gd gh gl = FP d D gd gh gl) := hide rfl
    have hpn : pre.length < n := h1
    obtain ⟨i, HI⟩ : ∃ i, Hid (pre.length = i) := ⟨_, hide rfl⟩
    rw [HI.out] at d9 HC9 hpn
    have HP1 : Hid ((pre ++ [(x, y)]).length = i + 1) := hide (by rw [List.length_append, HI.out]; rfl)
    clear hc9 hbel hck hsz h1 h2 h3
    gi_wp2
    have hbut := But.setCell W b9 0 (.int .i64 ((i + 1 : Nat) : Int))
    refine ⟨(keepsO_but hbut HC9.out).from _, ⟨Nat.le_of_eq hbut.size.symm, fun k hk => hbut.block k (HF9.out k hk)⟩, ?_⟩
    show Blk _ b9 3 [.int .i64 ((pre ++ [(x, y)]).length : Int)] ∧ _
    rw [HP1.out]
    exact ⟨HC9.out.set 0 _, HBL.out.trans (hbut.below hs9)⟩
  case done =>
    rintro Dk ys W hD hS ⟨hc9, hbel⟩ hK2
    obtain rfl : ys = pls H L n := hS
    rw [pls_len] at hc9
    have d9 : W.cell? ⟨b9, 0, none⟩ = some (.int .i64 (n : Int)) := by rw [hc9.cell]; rfl
    have HDK := hide hK2
    have HBL := hide hbel
    clear hK2 hc9 hbel
    go_wp2
    refine ⟨by simp, .inl ⟨_, _, rfl, run_takeDeferred HDK.out, ?_⟩⟩
    refine ⟨.tuple #[.int .i64 (n : Int), .int .i64 0], by simp [results, Tryz.f17, go_sem], ?_⟩
    exact ⟨rfl, HBL.out.trans (belowK_b (w := w) (Nat.le_refl _) _ Dk _ (.deferred none) (by omega) HDK.out rfl rfl)⟩
end

end Go.Proofs.YtlgcjdgcgnlcaaaGreatDoor

/-
  Put.
-/
namespace Go.Proofs.YtlgcjdgcgnlcaaaGreatDoor
open Go.RowKit Go.Shelf
set_option linter.unusedVariables false
set_option linter.unusedSimpArgs false
set_option maxRecDepth 100000

/-- What Put answers on a level of n digests. -/
def puE (rs : List Rw) (h l i : Int) (n : Nat) : Int := if smE h l 0 = 0 then (if smE h l (i / 2 ^ h.toNat) = 0 then (if i = (n : Int) then reE rs (bA (smP h l (i / 2 ^ h.toNat))) else 40) else 2) else 2
def puS (s : Nat) (rs : List Rw) (h l i : Int) (n : Nat) (x : List Int) : List Rw := if puE rs h l i n = 0 then puW s rs (bA (smP h l (i / 2 ^ h.toNat))) x else rs
theorem OpR.pre {w w0 w1 : World} {d s : Nat} {D : Dm} {rs : List Rw} (hb : Below w.heap.size w w0) (h : OpR w0 w1 d s D rs) : OpR w w1 d s D rs := by
  obtain ⟨D', h1, h2, h3, h4⟩ := h
  have hs := hb.size
  exact ⟨D', h1, (Chs.of_below _ hb).after h2 (fun k hk => .inl hk), fun k hk => (h3 k hk).imp id (fun h => Nat.le_trans hs h), fun k hk => (h4 k hk).imp id (fun h => Nat.le_trans hs h)⟩
theorem OpR.comp {w w1 w2 : World} {d s : Nat} {D D1 : Dm} {rs2 : List Rw} (a2 : Chs (D.own d) w w1) (a3 : ∀ k, D1.own d k → D.own d k ∨ w.heap.size ≤ k) (a4 : ∀ k, D1.ro k → D.ro k ∨ w.heap.size ≤ k) (h : OpR w1 w2 d s D1 rs2) : OpR w w2 d s D rs2 := by
  obtain ⟨D', h1, h2, h3, h4⟩ := h
  have hs := a2.size
  refine ⟨D', h1, a2.after h2 a3, fun k hk => ?_, fun k hk => ?_⟩
  · rcases h3 k hk with h | h
    · exact a3 k h
    · exact .inr (Nat.le_trans hs h)
  · rcases h4 k hk with h | h
    · exact a4 k h
    · exact .inr (Nat.le_trans hs h)
theorem OpR.post {w w1 w2 : World} {d s : Nat} {D : Dm} {rs : List Rw} (h : OpR w w1 d s D rs) (hb : Below w1.heap.size w1 w2) : OpR w w2 d s D rs := by
  obtain ⟨D', h1, h2, h3, h4⟩ := h
  exact ⟨D', h1.below hb, h2.after (Chs.of_below (fun _ => False) hb) (fun k hk => hk.elim), h3, h4⟩
theorem smE_bin (h l i : Int) : smE h l i = 0 ∨ smE h l i = 2 := by unfold smE; split <;> simp
theorem smE_nm {h l i : Int} (k : smE h l i = 0) : nmB (bA (smP h l i)) = true := by
  have hb : smB h l i = true := by
    unfold smE at k
    split at k
    · assumption
    · cases k
  obtain ⟨H, L, I, rfl, rfl, rfl, q⟩ := smB_nats hb
  rw [smP_nat]
  exact sN_nm q
theorem shr_bd (i : Int) (h : Nat) (hi : i ≤ 9223372036854775807) : i / 2 ^ h ≤ 9223372036854775807 := by
  have hp : (0 : Int) < 2 ^ h := by
    have := Nat.two_pow_pos h
    have e : ((2 : Int) ^ h) = ((2 ^ h : Nat) : Int) := by simp [Int.natCast_pow]
    omega
  rcases Int.lt_or_le i 0 with h0 | h0
  · have := Int.ediv_neg_of_neg_of_pos h0 hp
    omega
  · have := Int.ediv_le_self (2 ^ h) h0
    omega
section
variable (d s : Nat) (rs : List Rw) (D : Dm) (w : World) (hd : DkAt w d s rs D)
include hd
/-- Count, whatever the level. -/
theorem scount_any (h l : Int) (n : Nat) (hl : l ≤ 9223372036854775807) (ht : PT w) (hn : smE h l 0 = 0 → Cn (play rs) h.toNat l.toNat n) (hwt : wt rs ≤ 1099511000000) : Calls Tryz.prog 17 #[.pointer (some ⟨d, 0, none⟩), .int .i64 h, .int .i64 l] w fun r w' =>
    r = .returned (.tuple #[.int .i64 (if smE h l 0 = 0 then (n : Int) else 0), .int .i64 (smE h l 0)]) ∧ Below w.heap.size w w' := by
  by_cases he : smE h l 0 = 0
  · have hb : smB h l 0 = true := by
      unfold smE at he
      split at he
      · assumption
      · cases he
    obtain ⟨H, L, I, rfl, rfl, e0, q⟩ := smB_nats hb
    obtain rfl : I = 0 := by omega
    rw [if_pos he, he]
    exact count_ok d s rs D w hd H L n q (hn he) ht hwt
  · have e2 : smE h l 0 = 2 := by rcases smE_bin h l 0 with h | h; exact absurd h he; exact h
    rw [if_neg he, e2]
    exact count_bad d s rs D w hd h l hl ht he
set_option maxHeartbeats 2000000 in
theorem put_any (h l i : Int) (n : Nat) (x : List Int) (hl : l ≤ 9223372036854775807) (hi : i ≤ 9223372036854775807) (hx : x.length = 32) (hxb : isB x) (ht : PT w) (hn : smE h l 0 = 0 → Cn (play rs) h.toNat l.toNat n) (hwt : wt rs + 80 ≤ 1099511000000) :
    Calls Tryz.prog 9 #[.pointer (some ⟨d, 0, none⟩), .int .i64 h, .int .i64 l, .int .i64 i, .agg (u8s x).toArray] w fun r w' => r = .returned (.int .i64 (puE rs h l i n)) ∧ OpR w w' d s D (puS s rs h l i n x) := by
  have HD := hide hd
  have HT := hide ht
  have HW := hide hwt
  have HCU : Hid (∀ W : World, DkAt W d s rs D → PT W → Calls Tryz.prog 17 #[.pointer (some ⟨d, 0, none⟩), .int .i64 h, .int .i64 l] W fun r w' => r = .returned (.tuple #[.int .i64 (if smE h l 0 = 0 then (n : Int) else 0), .int .i64 (smE h l 0)]) ∧ Below W.heap.size W w') := hide (fun W h1 h2 => scount_any d s rs D W h1 h l n hl h2 hn (by omega))
  have hib := shr_bd i h.toNat hi
  have HNM : Hid (∀ W : World, PT W → Calls Tryz.prog 32 #[.int .i64 h, .int .i64 l, .int .i64 (i / 2 ^ h.toNat)] W fun r w' => r = .returned (.tuple #[.string (bA (smP h l (i / 2 ^ h.toNat))), .int .i64 (smE h l (i / 2 ^ h.toNat))]) ∧ Below W.heap.size W w') := hide (fun W h2 => sname_any h l _ W hl hib h2)
  have HXL : Hid ((u8s x).length = 32) := hide (by rw [u8s_length, hx])
  by_cases he : smE h l 0 = 0
  · have hh : 1 ≤ h ∧ h ≤ 8 := by
      rcases Int.lt_or_le h 1 with hlt | hge
      · have := smB_h (h := h) (l := l) (i := 0) (.inl hlt)
        unfold smE at he
        rw [this] at he
        simp at he
      · rcases Int.lt_or_le 8 h with hlt | hle
        · have := smB_h (h := h) (l := l) (i := 0) (.inr hlt)
          unfold smE at he
          rw [this] at he
          simp at he
        · exact ⟨hge, hle⟩
    obtain ⟨hh1, hh8⟩ := hh
    rw [he, if_pos rfl] at HCU
    by_cases he2 : smE h l (i / 2 ^ h.toNat) = 0
    · rw [he2] at HNM
      have hnm := smE_nm he2
      have e1 : puE rs h l i n = if i = (n : Int) then reE rs (bA (smP h l (i / 2 ^ h.toNat))) else 40 := by unfold puE; rw [if_pos he, if_pos he2]
      obtain ⟨q, HQ⟩ : ∃ q, Hid (i / 2 ^ h.toNat = q) := ⟨_, hide rfl⟩
      have hq := HQ.out
      unfold puS
      rw [e1]
      rw [HQ.out] at HNM hnm ⊢
      generalize bA (smP h l q) = nm at *
      clear hd ht hn hwt hl hi hib he he2 e1
      by_cases hin : i = (n : Int)
      · rw [if_pos hin]
        have HRD : Hid (∀ W : World, DkAt W d s rs D → Calls Tryz.prog 33 #[.pointer (some ⟨d, 0, none⟩), .string nm] W fun r w' => r = .returned (.int .i64 (reE rs nm)) ∧ OpR W w' d s D (reS rs nm)) := hide (fun W hW => ready_any d s rs D W hW nm hnm (by have := HW.out; omega))
        by_cases hr : reE rs nm = 0
        · have e2 : reS rs nm = crS rs nm := by unfold reE at hr; unfold reS; split at hr; rename_i h0; rw [if_pos h0]; cases hr
          rw [hr, e2] at HRD
          rw [hr, if_pos rfl]
          have hfe : fE (crS rs nm) nm = 0 := by
            rw [crS_is hnm]
            split
            · have e3 : play (rs ++ [rCr nm]) = upd (play rs) nm (some []) := by rw [play_snoc, do_cr]
              simp [fE, hnm, e3, upd_same]
            · rename_i h0
              cases hp : play rs nm with
              | none => exact absurd hp h0
              | some ys => simp [fE, hnm, hp]
          have hwc : wt (crS rs nm) ≤ wt rs + 1 := by
            rw [crS_is hnm]
            split
            · rw [wt_app]; simp [wt, rCr]
            · omega
          have HAP : Hid (∀ (W : World) (D1 : Dm) (a : Option Addr), DkAt W d s (crS rs nm) D1 → Sl W a 32 32 x → Calls Tryz.prog 28 #[.pointer (some ⟨d, 0, none⟩), .string nm, .slice a 32 32] W fun r w' => r = .returned (.int .i64 0) ∧ OpR W w' d s D1 (puW s rs nm x)) := hide (fun W D1 a hW hS => by
            have := append_any d s (crS rs nm) D1 W hW nm a 32 32 x hS (by have := HW.out; omega)
            rw [hfe] at this
            exact this)
          have HX := hide hx
          have HXB := hide hxb
          subst hin
          clear hr e2 hfe hwc hnm hx hxb
          go_enter Tryz.func9, Tryz.ntmps9
          go_wp2_with (refine step_box (cs := u8s x) rfl rfl ?_; intro w1 g1 hg1 hle1 hb1; have HG1 := hide (And.intro hg1 hle1); have HB1 := hide hb1; clear hg1 hle1 hb1)
          refine (HCU.out _ (HD.out.below HB1.out) (HT.out.below HB1.out)).mono ?_
          rintro r w2 ⟨rfl, hb2⟩
          have HB2 := hide (on_below HB1.out hb2)
          have HG2 := hide (HG1.out.1.on hb2)
          clear hb2
          go_wp2_with fail
          refine (HNM.out _ (HT.out.below HB2.out)).mono ?_
          rintro r w3 ⟨rfl, hb3⟩
          have HB3 := hide (on_below HB2.out hb3)
          have HG3 := hide (HG2.out.on hb3)
          clear hb3
          go_wp2_with fail
          refine (HRD.out _ (HD.out.below HB3.out)).mono ?_
          rintro r w4 ⟨rfl, ho⟩
          have hsa := slice_Ds g1
          obtain ⟨D1, a1, a2, a3, a4⟩ := ho
          have hown : ¬ D.own d g1 := fun hk => by
            have h1 := HD.out.lt (.inl hk)
            have h2 := HG1.out.2
            omega
          have hg4 := HG3.out.chs a2 (fun hk => hown hk)
          have hsl := hg4.sl0 HXB.out (by rw [HX.out]; decide)
          rw [HX.out] at hsl
          have HSL := hide hsl
          have HA1 := hide a1
          have HOC : Hid (∀ w5 : World, OpR w4 w5 d s D1 (puW s rs nm x) → OpR w w5 d s D (puW s rs nm x)) := hide (fun w5 h5 => OpR.pre HB3.out (OpR.comp a2 a3 a4 h5))
          clear a1 a2 a3 a4 hown hg4 hsl
          go_wp2_with fail
          refine (HAP.out _ _ _ HA1.out HSL.out).mono ?_
          rintro r w5 ⟨rfl, ho5⟩
          go_wp2
          go_ret
          exact ⟨rfl, HOC.out _ ho5⟩
        · have e2 : reS rs nm = rs := by unfold reE at hr; unfold reS; split at hr; exact absurd rfl hr; rename_i h0; rw [if_neg h0]
          rw [e2] at HRD
          rw [if_neg hr]
          subst hin
          have HX := hide hx
          have HXB := hide hxb
          clear e2 hnm hx hxb
          generalize reE rs nm = er at *
          go_enter Tryz.func9, Tryz.ntmps9
          go_wp2_with (refine step_box (cs := u8s x) rfl rfl ?_; intro w1 g1 hg1 hle1 hb1; have HG1 := hide (And.intro hg1 hle1); have HB1 := hide hb1; clear hg1 hle1 hb1)
          refine (HCU.out _ (HD.out.below HB1.out) (HT.out.below HB1.out)).mono ?_
          rintro r w2 ⟨rfl, hb2⟩
          have HB2 := hide (on_below HB1.out hb2)
          have HG2 := hide (HG1.out.1.on hb2)
          clear hb2
          go_wp2_with fail
          refine (HNM.out _ (HT.out.below HB2.out)).mono ?_
          rintro r w3 ⟨rfl, hb3⟩
          have HB3 := hide (on_below HB2.out hb3)
          have HG3 := hide (HG2.out.on hb3)
          clear hb3
          go_wp2_with fail
          refine (HRD.out _ (HD.out.below HB3.out)).mono ?_
          rintro r w4 ⟨rfl, ho⟩
          go_wp2
          go_ret
          exact ⟨rfl, ho.pre HB3.out⟩
      · rw [if_neg hin, if_neg (by decide)]
        clear hnm hx hxb
        go_enter Tryz.func9, Tryz.ntmps9
        go_wp2_with (refine step_box (cs := u8s x) rfl rfl ?_; intro w1 g1 hg1 hle1 hb1; have HG1 := hide (And.intro hg1 hle1); have HB1 := hide hb1; clear hg1 hle1 hb1)
        refine (HCU.out _ (HD.out.below HB1.out) (HT.out.below HB1.out)).mono ?_
        rintro r w2 ⟨rfl, hb2⟩
        have HB2 := hide (on_below HB1.out hb2)
        have HG2 := hide (HG1.out.1.on hb2)
        clear hb2
        go_wp2_with fail
        refine (HNM.out _ (HT.out.below HB2.out)).mono ?_
        rintro r w3 ⟨rfl, hb3⟩
        have HB3 := hide (on_below HB2.out hb3)
        have HG3 := hide (HG2.out.on hb3)
        clear hb3
        go_wp2
        go_ret
        exact ⟨rfl, OpR.below HD.out HB3.out⟩
    · have e1 : puE rs h l i n = 2 := by unfold puE; rw [if_pos he, if_neg he2]
      unfold puS
      rw [e1, if_neg (by decide)]
      have e3 : smE h l (i / 2 ^ h.toNat) = 2 := by rcases smE_bin h l (i / 2 ^ h.toNat) with h | h; exact absurd h he2; exact h
      rw [e3] at HNM
      generalize smP h l (i / 2 ^ h.toNat) = p at *
      obtain ⟨q, HQ⟩ : ∃ q, Hid (i / 2 ^ h.toNat = q) := ⟨_, hide rfl⟩
      have hq := HQ.out
      rw [HQ.out] at HNM
      clear hd ht hn hwt hl hi hib he he2 e1 e3 hx hxb
      go_enter Tryz.func9, Tryz.ntmps9
      go_wp2_with (refine step_box (cs := u8s x) rfl rfl ?_; intro w1 g1 hg1 hle1 hb1; have HG1 := hide (And.intro hg1 hle1); have HB1 := hide hb1; clear hg1 hle1 hb1)
      refine (HCU.out _ (HD.out.below HB1.out) (HT.out.below HB1.out)).mono ?_
      rintro r w2 ⟨rfl, hb2⟩
      have HB2 := hide (on_below HB1.out hb2)
      have HG2 := hide (HG1.out.1.on hb2)
      clear hb2
      go_wp2_with fail
      refine (HNM.out _ (HT.out.below HB2.out)).mono ?_
      rintro r w3 ⟨rfl, hb3⟩
      have HB3 := hide (on_below HB2.out hb3)
      have HG3 := hide (HG2.out.on hb3)
      clear hb3
      go_wp2
      go_ret
      exact ⟨rfl, OpR.below HD.out HB3.out⟩
  · have e1 : puE rs h l i n = 2 := by unfold puE; rw [if_neg he]
    unfold puS
    rw [e1, if_neg (by decide)]
    have e3 : smE h l 0 = 2 := by rcases smE_bin h l 0 with h | h; exact absurd h he; exact h
    rw [e3, if_neg (by decide)] at HCU
    clear hd ht hn hwt hl hi hib he e1 e3 hx hxb HNM
    go_enter Tryz.func9, Tryz.ntmps9
    go_wp2_with (refine step_box (cs := u8s x) rfl rfl ?_; intro w1 g1 hg1 hle1 hb1; have HG1 := hide (And.intro hg1 hle1); have HB1 := hide hb1; clear hg1 hle1 hb1)
    refine (HCU.out _ (HD.out.below HB1.out) (HT.out.below HB1.out)).mono ?_
    rintro r w2 ⟨rfl, hb2⟩
    have HB2 := hide (on_below HB1.out hb2)
    have HG2 := hide (HG1.out.1.on hb2)
    clear hb2
    go_wp2
    go_ret
    exact ⟨rfl, OpR.below HD.out HB2.out⟩
end

end Go.Proofs.YtlgcjdgcgnlcaaaGreatDoor

/-
  What a loss of power leaves of a level that was filled, and what Trim makes of it. No program here.
-/
namespace Go.Proofs.YtlgcjdgcgnlcaaaGreatDoor
open Go.RowKit
set_option linter.unusedVariables false
set_option linter.unusedSimpArgs false

/-- The raw writes of a level that was filled, the last digest first. -/
def rsR (s h : Nat) : List (List Int) → List Rw
  | [] => []
  | x :: t => puW s (rsR s h t) (sN h 0 (t.length / 2 ^ h)) x
/-- Digests as bytes. -/
def DB (xs : List (List Int)) : Prop := ∀ x ∈ xs, x.length = 32 ∧ isB x
theorem DB.d32 {xs : List (List Int)} (k : DB xs) : D32 xs := fun x hx => (k x hx).1
theorem rsR_is {s h : Nat} (hs : 1 ≤ s) (hh : isH h) : ∀ t : List (List Int), DB t → t.length ≤ 1099511627776 → Val s (fun _ => none) (rsR s h t) ∧ FS (play (rsR s h t)) h t.reverse ∧ wt (rsR s h t) ≤ 66 * t.length
  | [], _, _ => ⟨trivial, FS.nil h, Nat.le_refl _⟩
  | x :: t, k, hn => by
    have hx := k x (by simp)
    rw [List.length_cons] at hn
    have kt : DB t := fun y hy => k y (List.mem_cons_of_mem _ hy)
    obtain ⟨h1, h2, h3⟩ := rsR_is hs hh t kt (by omega)
    have hq : tFB h 0 (t.length / 2 ^ h) = true := tFB_in hh (m := t.length) (Nat.div_mul_le_self _ _) (by omega)
    have h32 : D32 t.reverse := fun y hy => (kt y (List.mem_reverse.1 hy)).1
    obtain ⟨a, b, c⟩ := puW_play hs h1 (sN_nm hq) (x := x) (fun e => by rw [e] at hx; simp at hx) hx.2
    refine ⟨a, ?_, ?_⟩
    · show FS (play (puW s (rsR s h t) (sN h 0 (t.length / 2 ^ h)) x)) h (x :: t).reverse
      rw [b, List.reverse_cons]
      have := h2.snoc hh h32 (by rw [List.length_reverse]; omega) x
      rwa [List.length_reverse] at this
    · show wt (puW s (rsR s h t) (sN h 0 (t.length / 2 ^ h)) x) ≤ _
      rw [List.length_cons]
      omega
/-- What a loss of power leaves of a level that was filled: a beginning of it, and perhaps something torn. -/
def TS (F : ByteArray → Option (List Int)) (h : Nat) (ys : List (List Int)) : Prop :=
  ∃ F0, FS F0 h ys ∧ (F = F0 ∨ ∃ t : List Int, t.length < 32 ∧ F = upd F0 (sN h 0 (ys.length / 2 ^ h)) (some (fl F0 (sN h 0 (ys.length / 2 ^ h)) ++ t)))
theorem ap_take {s : Nat} (hs : 1 ≤ s) {F : ByteArray → Option (List Int)} {n : ByteArray} (hn : nmB n = true) {x : List Int} (h0 : x ≠ []) (hB : isB x) (hf : ∃ ys, F n = some ys) (first : Nat) (m : Nat) :
    ∃ e, e ≤ x.length ∧ ((expd s ⟨rAp n x, first, (fl F n).length⟩).take m).foldl doR F = upd F n (some (fl F n ++ x.take e)) := by
  obtain ⟨ys, hys⟩ := hf
  have e0 : fl F n = ys := by simp [fl, hys]
  cases m with
  | zero =>
    refine ⟨0, Nat.zero_le _, ?_⟩
    rw [List.take_zero, List.take_zero, List.append_nil, e0, ← hys, upd_self]
    rfl
  | succ m =>
    have hl : Leg F (rAp n x) := .inr (.inl ⟨n, x, ys, rfl, hn, hys, h0, hB⟩)
    obtain ⟨c1, c2⟩ := expd_cut hs (e := ⟨rAp n x, first, (fl F n).length⟩) hl (k := m + 1) (by omega) first
    rw [← c1]
    obtain ⟨d1, _⟩ := expd_does hs (e := ⟨pieces s ⟨rAp n x, first, (fl F n).length⟩ 0 (m + 1), first, (fl F n).length⟩) c2 rfl
    rw [d1]
    refine ⟨min (edge s ⟨rAp n x, first, (fl F n).length⟩ (m + 1)) x.length, Nat.min_le_right _ _, ?_⟩
    have e1 : edge s ⟨rAp n x, first, (fl F n).length⟩ 0 = 0 := edge_zero _ _ _
    have e2 : pieces s ⟨rAp n x, first, (fl F n).length⟩ 0 (m + 1) = rAp n (x.take (edge s ⟨rAp n x, first, (fl F n).length⟩ (m + 1))) := by
      unfold pieces
      rw [e1, List.drop_zero, Nat.sub_zero]
      rfl
    rw [e2, do_ap]
    congr 3
    by_cases hq : edge s ⟨rAp n x, first, (fl F n).length⟩ (m + 1) ≤ x.length
    · rw [Nat.min_eq_left hq]
    · rw [Nat.min_eq_right (by omega), List.take_of_length_le (by omega), List.take_of_length_le (Nat.le_refl _)]
theorem rsR_take {s h : Nat} (hs : 1 ≤ s) (hh : isH h) : ∀ (t : List (List Int)), DB t → t.length ≤ 1099511627776 → ∀ k, ∃ j, TS (play ((rsR s h t).take k)) h (t.drop j).reverse
  | [], _, _, k => ⟨0, _, FS.nil h, .inl (by simp [rsR, play_nil])⟩
  | x :: t, kb, hn, k => by
    have hx := kb x (by simp)
    rw [List.length_cons] at hn
    have kt : DB t := fun y hy => kb y (List.mem_cons_of_mem _ hy)
    obtain ⟨h1, h2, h3⟩ := rsR_is hs hh t kt (by omega)
    have hq : tFB h 0 (t.length / 2 ^ h) = true := tFB_in hh (m := t.length) (Nat.div_mul_le_self _ _) (by omega)
    have h32 : D32 t.reverse := fun y hy => (kt y (List.mem_reverse.1 hy)).1
    have hx0 : x ≠ [] := fun e => by rw [e] at hx; simp at hx
    have hnm := sN_nm hq
    -- what a beginning of the digest's own raw writes leaves
    have key : ∀ (qs : List Rw) (m : Nat), (∃ ys, play qs (sN h 0 (t.length / 2 ^ h)) = some ys) → upd (play qs) (sN h 0 (t.length / 2 ^ h)) (some (fl (play qs) (sN h 0 (t.length / 2 ^ h)))) = upd (play (rsR s h t)) (sN h 0 (t.length / 2 ^ h)) (some (fl (play (rsR s h t)) (sN h 0 (t.length / 2 ^ h)))) →
        fl (play qs) (sN h 0 (t.length / 2 ^ h)) = fl (play (rsR s h t)) (sN h 0 (t.length / 2 ^ h)) →
        ∃ j, TS (play (qs ++ (expd s ⟨rAp (sN h 0 (t.length / 2 ^ h)) x, qs.length, (fl (play qs) (sN h 0 (t.length / 2 ^ h))).length⟩).take m)) h ((x :: t).drop j).reverse := by
      intro qs m hex heq hfl
      obtain ⟨e, he, hp⟩ := ap_take hs hnm hx0 hx.2 hex qs.length m
      have hpl : play (qs ++ (expd s ⟨rAp (sN h 0 (t.length / 2 ^ h)) x, qs.length, (fl (play qs) (sN h 0 (t.length / 2 ^ h))).length⟩).take m) = upd (play (rsR s h t)) (sN h 0 (t.length / 2 ^ h)) (some (fl (play (rsR s h t)) (sN h 0 (t.length / 2 ^ h)) ++ x.take e)) := by
        rw [play_app, hp]
        have := congrArg (fun f => upd f (sN h 0 (t.length / 2 ^ h)) (some (fl (play (rsR s h t)) (sN h 0 (t.length / 2 ^ h)) ++ x.take e))) heq
        simp only [upd_upd] at this
        rw [hfl]
        exact this
      rw [hpl]
      by_cases h32e : e < 32
      · refine ⟨1, play (rsR s h t), h2, .inr ⟨x.take e, by rw [List.length_take]; omega, ?_⟩⟩
        rw [List.drop_succ_cons, List.drop_zero, List.length_reverse]
      · refine ⟨0, _, ?_, .inl rfl⟩
        rw [List.take_of_length_le (by omega), List.drop_zero, List.reverse_cons]
        have := h2.snoc hh h32 (by rw [List.length_reverse]; omega) x
        rwa [List.length_reverse] at this
    show ∃ j, TS (play ((puW s (rsR s h t) (sN h 0 (t.length / 2 ^ h)) x).take k)) h ((x :: t).drop j).reverse
    by_cases hk : k ≤ (rsR s h t).length
    · obtain ⟨j, hj⟩ := rsR_take hs hh t kt (by omega) k
      refine ⟨j + 1, ?_⟩
      rw [List.drop_succ_cons]
      have e : (puW s (rsR s h t) (sN h 0 (t.length / 2 ^ h)) x).take k = (rsR s h t).take k := by
        have : ∃ z, puW s (rsR s h t) (sN h 0 (t.length / 2 ^ h)) x = rsR s h t ++ z := by
          unfold puW apS
          rw [crS_is hnm]
          split
          · split
            · exact ⟨_, List.append_assoc _ _ _⟩
            · exact ⟨_, rfl⟩
          · split
            · exact ⟨_, rfl⟩
            · exact ⟨[], by simp⟩
        obtain ⟨z, hz⟩ := this
        rw [hz, List.take_append_of_le_length hk]
      rw [e]
      exact hj
    · unfold puW
      rw [crS_is hnm]
      by_cases hf : play (rsR s h t) (sN h 0 (t.length / 2 ^ h)) = none
      · rw [if_pos hf]
        have e2 : play (rsR s h t ++ [rCr (sN h 0 (t.length / 2 ^ h))]) = upd (play (rsR s h t)) (sN h 0 (t.length / 2 ^ h)) (some []) := by rw [play_snoc, do_cr]
        have hex : ∃ ys, play (rsR s h t ++ [rCr (sN h 0 (t.length / 2 ^ h))]) (sN h 0 (t.length / 2 ^ h)) = some ys := ⟨[], by rw [e2, upd_same]⟩
        have e0 : fE (rsR s h t ++ [rCr (sN h 0 (t.length / 2 ^ h))]) (sN h 0 (t.length / 2 ^ h)) = 0 := by simp [fE, hnm, hex]; obtain ⟨ys, hy⟩ := hex; simp [hy]
        have e1 : apS s (rsR s h t ++ [rCr (sN h 0 (t.length / 2 ^ h))]) (sN h 0 (t.length / 2 ^ h)) x = (rsR s h t ++ [rCr (sN h 0 (t.length / 2 ^ h))]) ++ expd s ⟨rAp (sN h 0 (t.length / 2 ^ h)) x, (rsR s h t ++ [rCr (sN h 0 (t.length / 2 ^ h))]).length, (fl (play (rsR s h t ++ [rCr (sN h 0 (t.length / 2 ^ h))])) (sN h 0 (t.length / 2 ^ h))).length⟩ := by
          unfold apS; rw [if_pos ⟨e0, hx0⟩]
        rw [e1]
        have hlen : (rsR s h t ++ [rCr (sN h 0 (t.length / 2 ^ h))]).length ≤ k := by rw [List.length_append]; simp; omega
        rw [List.take_append, List.take_of_length_le hlen]
        refine key _ _ hex ?_ ?_
        · rw [e2, fl_upS, upd_upd, fl_none hf]; rfl
        · rw [e2, fl_upS, fl_none hf]; rfl
      · rw [if_neg hf]
        have hex : ∃ ys, play (rsR s h t) (sN h 0 (t.length / 2 ^ h)) = some ys := by
          cases h : play (rsR s h t) (sN h 0 (t.length / 2 ^ h)) with
          | none => exact absurd h hf
          | some ys => exact ⟨ys, rfl⟩
        have e0 : fE (rsR s h t) (sN h 0 (t.length / 2 ^ h)) = 0 := by obtain ⟨ys, hy⟩ := hex; simp [fE, hnm, hy]
        have e1 : apS s (rsR s h t) (sN h 0 (t.length / 2 ^ h)) x = rsR s h t ++ expd s ⟨rAp (sN h 0 (t.length / 2 ^ h)) x, (rsR s h t).length, (fl (play (rsR s h t)) (sN h 0 (t.length / 2 ^ h))).length⟩ := by
          unfold apS; rw [if_pos ⟨e0, hx0⟩]
        rw [e1, List.take_append, List.take_of_length_le (by omega)]
        exact key _ _ hex rfl rfl
section
variable {F : ByteArray → Option (List Int)} {h : Nat} {ys : List (List Int)}
theorem TS.cn (k : TS F h ys) (hh : isH h) (hx : D32 ys) (hn : ys.length ≤ 1099511627776) : Cn F h 0 ys.length := by
  obtain ⟨F0, hF, hc⟩ := k
  have h0 := hF.cn hh hx hn
  rcases hc with rfl | ⟨t, ht, rfl⟩
  · exact h0
  · have hp := Nat.two_pow_pos h
    obtain ⟨g1, g2, g3⟩ := hF.next hh hx hn
    have hq : tFB h 0 (ys.length / 2 ^ h) = true := tFB_in hh (m := ys.length) (Nat.div_mul_le_self _ _) hn
    constructor
    · intro j hj
      have := h0.1 j hj
      unfold hasD at *
      simp only [decide_eq_true_eq] at *
      by_cases e : sN h 0 (j / 2 ^ h) = sN h 0 (ys.length / 2 ^ h)
      · rw [e] at this ⊢
        rw [fl_upS, Option.getD_some, List.length_append]
        omega
      · rw [fl_upN _ _ e]; exact this
    · unfold hasD
      rw [fl_upS, Option.getD_some, List.length_append, g1]
      simp only [decide_eq_false_iff_not]
      omega
theorem TS.nmd (k : TS F h ys) (hh : isH h) (hn : ys.length ≤ 1099511627776) : Nmd F := by
  obtain ⟨F0, hF, hc⟩ := k
  have h0 := hF.nmd hh hn
  rcases hc with rfl | ⟨t, ht, rfl⟩
  · exact h0
  · intro n hn2
    rw [upd_ne _ _ (fun e => by rw [e, sN_nm (tFB_in hh (m := ys.length) (Nat.div_mul_le_self _ _) hn)] at hn2; cases hn2)]
    exact h0 n hn2
end

/-! ### Trim -/
/-- The tiles that Trim takes away, the greatest index first. -/
structure TrI (F : ByteArray → Option (List Int)) (h l n : Nat) (is : List Nat) : Prop where
  desc : is.Pairwise fun a b => b < a
  mem : ∀ i, i ∈ is ↔ (tFB h l i = true ∧ (F (sN h l i)).isSome = true ∧ n ≤ i * 2 ^ h)
theorem desc_ext : ∀ (a b : List Nat), (a.Pairwise fun x y => y < x) → (b.Pairwise fun x y => y < x) → (∀ i, i ∈ a ↔ i ∈ b) → a = b
  | [], [], _, _, _ => rfl
  | [], y :: t, _, _, hm => by have := (hm y).2 (by simp); simp at this
  | x :: t, [], _, _, hm => by have := (hm x).1 (by simp); simp at this
  | x :: t, y :: u, ha, hb, hm => by
    obtain ⟨a1, a2⟩ := List.pairwise_cons.1 ha
    obtain ⟨b1, b2⟩ := List.pairwise_cons.1 hb
    have e : x = y := by
      rcases List.mem_cons.1 ((hm x).1 (by simp)) with e | e
      · exact e
      · rcases List.mem_cons.1 ((hm y).2 (by simp)) with e2 | e2
        · exact e2.symm
        · have h1 := b1 x e
          have h2 := a1 y e2
          omega
    subst e
    congr 1
    refine desc_ext t u a2 b2 (fun i => ⟨fun hi => ?_, fun hi => ?_⟩)
    · rcases List.mem_cons.1 ((hm i).1 (List.mem_cons_of_mem _ hi)) with e | e
      · subst e; have := a1 i hi; omega
      · exact e
    · rcases List.mem_cons.1 ((hm i).2 (List.mem_cons_of_mem _ hi)) with e | e
      · subst e; have := b1 i hi; omega
      · exact e
theorem TrI.uniq {F : ByteArray → Option (List Int)} {h l n : Nat} {is js : List Nat} (a : TrI F h l n is) (b : TrI F h l n js) : is = js :=
  desc_ext is js a.desc b.desc (fun i => (a.mem i).trans (b.mem i).symm)
/-- The raw writes ahead of the cut. -/
def trR (h l : Nat) (rs : List Rw) (is : List Nat) : List Rw := rs ++ is.map fun i => rRm (sN h l i)
/-- The raw writes of a Trim to n. -/
def trS (h l n : Nat) (rs : List Rw) (is : List Nat) : List Rw := if n % 2 ^ h = 0 then trR h l rs is else cuS (trR h l rs is) (sN h l (n / 2 ^ h)) (((n % 2 ^ h) * 32 : Nat) : Int)
theorem trR_snoc (h l : Nat) (rs : List Rw) (is : List Nat) (i : Nat) : trR h l rs (is ++ [i]) = trR h l rs is ++ [rRm (sN h l i)] := by simp [trR]
theorem trR_nil (h l : Nat) (rs : List Rw) : trR h l rs [] = rs := by simp [trR]
theorem rm_play (h l : Nat) : ∀ (is : List Nat) (f : ByteArray → Option (List Int)) (n : ByteArray), (n ∈ is.map (sN h l) → ((is.map fun i => rRm (sN h l i)).foldl doR f) n = none) ∧ (n ∉ is.map (sN h l) → ((is.map fun i => rRm (sN h l i)).foldl doR f) n = f n)
  | [], f, n => ⟨fun h => by simp at h, fun _ => rfl⟩
  | i :: t, f, n => by
    obtain ⟨h1, h2⟩ := rm_play h l t (upd f (sN h l i) none) n
    simp only [List.map_cons, List.foldl_cons, do_rm]
    by_cases hm : n ∈ t.map (sN h l)
    · exact ⟨fun _ => h1 hm, fun hn => absurd (List.mem_cons_of_mem _ hm) hn⟩
    · by_cases h3 : n = sN h l i
      · exact ⟨fun _ => by rw [h2 hm, h3, upd_same], fun hn => absurd (by rw [h3]; simp) hn⟩
      · exact ⟨fun hh => absurd hh (fun hh => by rcases List.mem_cons.1 hh with e | e; exact h3 e; exact hm e), fun _ => by rw [h2 hm, upd_ne _ _ h3]⟩
theorem trR_play (h l : Nat) (rs : List Rw) (is : List Nat) (n : ByteArray) : (n ∈ is.map (sN h l) → play (trR h l rs is) n = none) ∧ (n ∉ is.map (sN h l) → play (trR h l rs is) n = play rs n) := by
  unfold trR
  rw [play_app]
  exact rm_play h l is _ n
/-- Cutting off what is torn makes the level whole. -/
theorem TS.trim {h : Nat} {ys : List (List Int)} {rs : List Rw} {is : List Nat} (k : TS (play rs) h ys) (hh : isH h) (hx : D32 ys) (hn : ys.length ≤ 1099511627776) (hi : TrI (play rs) h 0 ys.length is) : FS (play (trS h 0 ys.length rs is)) h ys := by
  have hp := Nat.two_pow_pos h
  have e := Nat.div_add_mod ys.length (2 ^ h)
  have m := Nat.mod_lt ys.length hp
  rw [Nat.mul_comm] at e
  obtain ⟨F0, hF, hc⟩ := k
  obtain ⟨g1, g2, g3⟩ := hF.next hh hx hn
  have hq : tFB h 0 (ys.length / 2 ^ h) = true := tFB_in hh (m := ys.length) (Nat.div_mul_le_self _ _) hn
  have hne : ∀ i, i ∈ is → F0 (sN h 0 i) = none := fun i hm => hF.off hh hn ((hi.mem i).1 hm).2.2
  have hps : ∀ i, ys.length ≤ i * 2 ^ h → i ≠ ys.length / 2 ^ h → play rs (sN h 0 i) = none := by
    intro i h1 h2
    have h3 := hF.off hh hn h1
    rcases hc with hc | ⟨t, ht, hc⟩
    · rw [hc]; exact h3
    · by_cases e2 : sN h 0 i = sN h 0 (ys.length / 2 ^ h)
      · exact absurd (sN_inj hq e2.symm).2.2.symm h2
      · rw [hc, upd_ne _ _ e2]; exact h3
  by_cases h0 : ys.length % 2 ^ h = 0
  · have : play (trS h 0 ys.length rs is) = F0 := by
      unfold trS
      rw [if_pos h0]
      funext n
      by_cases hm : n ∈ is.map (sN h 0)
      · rw [(trR_play h 0 rs is n).1 hm]
        obtain ⟨i, h1, rfl⟩ := List.mem_map.1 hm
        exact (hne i h1).symm
      · rw [(trR_play h 0 rs is n).2 hm]
        rcases hc with hc | ⟨t, ht, hc⟩
        · rw [hc]
        · by_cases e2 : n = sN h 0 (ys.length / 2 ^ h)
          · refine absurd ?_ hm
            rw [e2]
            refine List.mem_map_of_mem ((hi.mem _).2 ⟨hq, ?_, by omega⟩)
            rw [hc, upd_same]
            rfl
          · rw [hc, upd_ne _ _ e2]
    rw [this]
    exact hF
  · have hi0 : is = [] := by
      cases is with
      | nil => rfl
      | cons i t =>
        obtain ⟨h1, h2, h3⟩ := (hi.mem i).1 (by simp)
        rw [hps i h3 (fun e2 => by subst e2; omega)] at h2
        cases h2
    subst hi0
    obtain ⟨zs, hz⟩ := g3 h0
    have hfl : fl F0 (sN h 0 (ys.length / 2 ^ h)) = zs := by simp [fl, hz]
    have : play (trS h 0 ys.length rs []) = F0 := by
      unfold trS
      rw [if_neg h0, trR_nil]
      have hsome : ∃ t : List Int, play rs = upd F0 (sN h 0 (ys.length / 2 ^ h)) (some (zs ++ t)) := by
        rcases hc with hc | ⟨t, ht, hc⟩
        · exact ⟨[], by rw [List.append_nil, ← hz, upd_self, hc]⟩
        · exact ⟨t, by rw [hc, hfl]⟩
      obtain ⟨t, ht⟩ := hsome
      have hfl2 : fl (play rs) (sN h 0 (ys.length / 2 ^ h)) = zs ++ t := by rw [ht, fl_upS]; rfl
      have hfe : fE rs (sN h 0 (ys.length / 2 ^ h)) = 0 := by simp [fE, sN_nm hq, ht, upd_same]
      have hzl : zs.length = 32 * (ys.length % 2 ^ h) := by rw [← hfl]; exact g1
      have hcu : cuE rs (sN h 0 (ys.length / 2 ^ h)) (((ys.length % 2 ^ h) * 32 : Nat) : Int) = 0 := by
        unfold cuE
        rw [if_pos hfe, hfl2, List.length_append, if_neg (by omega)]
      unfold cuS
      rw [hcu, hfl2, List.length_append]
      by_cases htl : t = []
      · subst htl
        rw [if_neg (fun hh => by have := hh.2; simp only [List.length_nil] at this; omega), ht, List.append_nil, ← hz, upd_self]
      · have := List.length_pos_iff.2 htl
        rw [if_pos ⟨rfl, by omega⟩, play_snoc, do_cu, hfl2, ht, upd_upd, Int.toNat_natCast, List.take_left' (by omega), ← hz, upd_self]
    rw [this]
    exact hF

end Go.Proofs.YtlgcjdgcgnlcaaaGreatDoor

/-
  A text read as a tile's path, as the program does: number, guess.
-/
namespace Go.Proofs.YtlgcjdgcgnlcaaaGreatDoor
open Go.RowKit
set_option linter.unusedVariables false
set_option linter.unusedSimpArgs false

set_option maxRecDepth 100000 in
theorem number_any (s : List UInt8) (w : World) (hs : s.length ≤ 1048576) (hv : EV w) : Calls Tryz.prog 109 #[.string (bA s)] w fun r w' => r = .returned (.int .i64 (nuF s)) ∧ Below w.heap.size w w' := by
  by_cases h : ∃ v, Lib.atoiAll s = .ok v
  · obtain ⟨v, h⟩ := h
    have e : nuF s = v := by unfold nuF; rw [h]
    rw [e]
    have HA := hide (atoi_ok s v w hs h)
    clear e h hv
    go_enter Tryz.func109, Tryz.ntmps109
    go_wp2_with fail
    refine HA.out.mono ?_
    rintro r w1 ⟨rfl, hb⟩
    have HB := hide hb
    clear hb HA
    go_wp2
    go_ret
    exact ⟨rfl, HB.out⟩
  · have e : nuF s = -1 := by
      unfold nuF
      split
      · rename_i v hv2; exact absurd ⟨v, hv2⟩ h
      · rfl
    rw [e]
    have HA := hide (atoi_no s w hs hv (fun v hv2 => h ⟨v, hv2⟩))
    clear e h hv
    go_enter Tryz.func109, Tryz.ntmps109
    go_wp2_with fail
    refine HA.out.mono ?_
    rintro r w1 ⟨x, tp, p, rfl, hb⟩
    have HB := hide hb
    clear hb HA
    go_wp2
    go_ret
    exact ⟨rfl, HB.out⟩
theorem cut_le (s sep : List UInt8) : (Lib.cut s sep).1.length ≤ s.length ∧ (Lib.cut s sep).2.1.length ≤ s.length := by
  unfold Lib.cut
  split
  · simp only [List.length_take, List.length_drop]; omega
  · simp
theorem trim_le (s p : List UInt8) : (Lib.trimPrefix s p).length ≤ s.length := by
  unfold Lib.trimPrefix
  split
  · simp
  · exact Nat.le_refl _
theorem rep_le (s : List UInt8) (c : UInt8) : (Lib.replaceAll s [c] []).length ≤ s.length := by
  rw [repAll_filter]
  exact List.length_filter_le _ _
theorem tileS : (Value.string { data := #[116, 105, 108, 101, 47] }) = .string (bA tileB) := rfl
set_option maxRecDepth 100000 in
set_option maxHeartbeats 1000000 in
theorem guess_any (s : List UInt8) (w : World) (hs : s.length ≤ 1048576) (hv : EV w) : Calls Tryz.prog 93 #[.string (bA s)] w fun r w' => r = .returned (.agg (c4 (gH s) (gL s) (gI s) (gW s)).toArray) ∧ Below w.heap.size w w' := by
  have HV := hide hv
  obtain ⟨s0, hs0⟩ : ∃ x, Lib.trimPrefix s tileB = x := ⟨_, rfl⟩
  have l0 : s0.length ≤ 1048576 := by rw [← hs0]; exact Nat.le_trans (trim_le _ _) hs
  obtain ⟨c1, h1⟩ : ∃ x, gName s = x := ⟨_, rfl⟩
  have k1 : Lib.cut s0 markB = c1 := by rw [← h1, ← hs0]; rfl
  obtain ⟨c2, h2⟩ : ∃ x, gHt s = x := ⟨_, rfl⟩
  have k2 : Lib.cut c1.1 [47] = c2 := by rw [← h2, ← h1]; rfl
  obtain ⟨c3, h3⟩ : ∃ x, gLv s = x := ⟨_, rfl⟩
  have k3 : Lib.cut c2.2.1 [47] = c3 := by rw [← h3, ← h2]; rfl
  have m1 := cut_le s0 markB
  rw [k1] at m1
  have m2 := cut_le c1.1 [47]
  rw [k2] at m2
  have m3 := cut_le c2.2.1 [47]
  rw [k3] at m3
  obtain ⟨x1, hx1⟩ : ∃ x, Lib.replaceAll c3.2.1 [120] [] = x := ⟨_, rfl⟩
  obtain ⟨x2, hx2⟩ : ∃ x, Lib.replaceAll x1 [47] [] = x := ⟨_, rfl⟩
  have m4 := rep_le c3.2.1 120
  rw [hx1] at m4
  have m5 := rep_le x1 47
  rw [hx2] at m5
  have g1 : gH s = nuF c2.1 := by unfold gH; rw [h2]
  have g2 : gL s = nuF c3.1 := by unfold gL; rw [h3]
  have g3 : gI s = nuF x2 := by unfold gI gDg; rw [h3, hx1, hx2]
  have g4 : gW s = if c1.2.2 = false ∧ 1 ≤ gH s ∧ gH s ≤ 8 then 2 ^ (gH s).toNat else nuF c1.2.1 := by unfold gW; rw [h1]
  rw [g4, g1, g2, g3]
  obtain ⟨c11, c12, c13⟩ := c1
  obtain ⟨c21, c22, c23⟩ := c2
  obtain ⟨c31, c32, c33⟩ := c3
  simp only at *
  have HT := hide (fun v => trim_any s tileB v)
  rw [hs0] at HT
  have HC1 := hide (fun v hv => cutS_any s0 markB v l0 hv)
  rw [k1] at HC1
  have HC2 := hide (fun v hv => cutS_any c11 [47] v (by omega) hv)
  rw [k2] at HC2
  have HC3 := hide (fun v hv => cutS_any c22 [47] v (by omega) hv)
  rw [k3] at HC3
  have HR1 := hide (fun v hv => repl_any c32 120 v (by omega) hv)
  rw [hx1] at HR1
  have HR2 := hide (fun v hv => repl_any x1 47 v (by omega) hv)
  rw [hx2] at HR2
  have N1 := hide (fun v hv => number_any c21 v (by omega) hv)
  have N2 := hide (fun v hv => number_any c31 v (by omega) hv)
  have N3 := hide (fun v hv => number_any x2 v (by omega) hv)
  have N4 := hide (fun v hv => number_any c12 v (by omega) hv)
  have b1 := nuF_bd c21
  generalize nuF c21 = n1 at *
  generalize nuF c31 = n2 at *
  generalize nuF x2 = n3 at *
  generalize nuF c12 = n4 at *
  clear hs0 h1 k1 h2 k2 h3 k3 hx1 hx2 m1 m2 m3 m4 m5 g1 g2 g3 g4 l0 hv hs
  obtain ⟨RW, HRW⟩ : ∃ x, Hid ((if c13 = false ∧ 1 ≤ n1 ∧ n1 ≤ 8 then 2 ^ n1.toNat else n4) = x) := ⟨_, hide rfl⟩
  rw [HRW.out]
  go_enter Tryz.func93, Tryz.ntmps93
  go_wp2_with (refine step_alloc zT rfl ?_)
  intro w0 g2 hg hle hb
  have G0 := hide hg
  have B0 := hide hb
  have LE := hide hle
  clear hg hb hle
  go_wp2_with fail
  refine (HT.out _).mono ?_
  rintro r w0' ⟨rfl, e0⟩
  subst e0
  clear HT
  go_wp2_with fail
  refine (HC1.out _ (HV.out.below B0.out)).mono ?_
  rintro r w1 ⟨rfl, hb⟩
  have G1 := hide (G0.out.on hb)
  have B1 := hide (on_below B0.out hb)
  clear hb G0 B0 HC1
  go_wp2_with fail
  refine (HC2.out _ (HV.out.below B1.out)).mono ?_
  rintro r w2 ⟨rfl, hb⟩
  have G2 := hide (G1.out.on hb)
  have B2 := hide (on_below B1.out hb)
  clear hb G1 B1 HC2
  go_wp2_with fail
  refine (HC3.out _ (HV.out.below B2.out)).mono ?_
  rintro r w3 ⟨rfl, hb⟩
  have G3 := hide (G2.out.on hb)
  have B3 := hide (on_below B2.out hb)
  clear hb G2 B2 HC3
  go_wp2_with fail
  refine (HR1.out _ (HV.out.below B3.out)).mono ?_
  rintro r w4 ⟨rfl, hb⟩
  have G4 := hide (G3.out.on hb)
  have B4 := hide (on_below B3.out hb)
  clear hb G3 B3 HR1
  go_wp2_with fail
  refine (HR2.out _ (HV.out.below B4.out)).mono ?_
  rintro r w5 ⟨rfl, hb⟩
  have G5 := hide (G4.out.on hb)
  have B5 := hide (on_below B4.out hb)
  clear hb G4 B4 HR2
  go_wp2_with fail
  refine (N1.out _ (HV.out.below B5.out)).mono ?_
  rintro r w6 ⟨rfl, hb⟩
  have G6 := hide (G5.out.on hb)
  have B6 := hide (on_below B5.out hb)
  clear hb G5 B5 N1
  go_wp2_with fail
  refine (N2.out _ (HV.out.below B6.out)).mono ?_
  rintro r w7 ⟨rfl, hb⟩
  have G7 := hide (G6.out.on hb)
  have B7 := hide (on_below B6.out hb)
  clear hb G6 B6 N2
  go_wp2_with fail
  refine (N3.out _ (HV.out.below B7.out)).mono ?_
  rintro r w8 ⟨rfl, hb⟩
  have G8 := hide (G7.out.on hb)
  have B8 := hide (on_below B7.out hb)
  clear hb G7 B7 N3
  go_wp2_with fail
  refine (N4.out _ (HV.out.below B8.out)).mono ?_
  rintro r w9 ⟨rfl, hb⟩
  have G9 := hide (G8.out.on hb)
  have B9 := hide (on_below B8.out hb)
  clear hb G8 B8 N4
  go_wp2_with (first | (refine step_alloc zT rfl ?_; intro wa ga hga hlea hba; have HGA := hide hga; clear hga) | (refine step_storeA wT rfl rfl rfl HGA.out rfl (One.c4 n1 n2 n3 n4) rfl ?_))
  intro wb hgb hbutb
  have hbb : Below w9.heap.size w9 wb := hba.trans (hbutb.below hlea)
  have Gb := hide (G9.out.on hbb)
  have Bb := hide (on_below B9.out hbb)
  have Tb := hide hgb
  have hne : g2 ≠ ga := by have := G9.out.lt; omega
  have LA := hide (Nat.le_trans B9.out.size hlea)
  clear hbb hba hbutb hlea HGA hgb G9 B9 HV
  obtain ⟨t0, t1, t2, t3⟩ := Tb.out.four
  cases c13 with
  | true =>
    obtain rfl : n4 = RW := by rw [← HRW.out, if_neg (by simp)]
    go_wp2_with (first | (refine step_loadA wT rfl rfl Tb.out rfl ?_) | (refine step_storeA wT rfl rfl rfl Gb.out rfl (One.c4 n1 n2 n3 n4) rfl ?_))
    intro wc hgc hbutc
    have BE := hide (Bb.out.trans (hbutc.below LE.out))
    go_wp2
    refine bodyPost_ret (results_wide rfl wT _ _ rfl hgc rfl) rfl ⟨rfl, BE.out⟩
  | false =>
    by_cases hh : 1 ≤ n1 ∧ n1 ≤ 8
    · obtain ⟨H, rfl⟩ : ∃ H : Nat, n1 = (H : Int) := ⟨n1.toNat, by omega⟩
      have hH : isH H := ⟨by omega, by omega⟩
      have HH := hide (fun v => isHeight_yes H v hH)
      obtain ⟨P, hP⟩ : ∃ P, 2 ^ H = P := ⟨_, rfl⟩
      obtain ⟨p1, p2, p3, p4⟩ := pow_w hP hH
      have HPW := hide p1
      have eP : (2 : Int) ^ ((H : Int).toNat) = (P : Int) := by rw [Int.toNat_natCast, ← hP]; simp [Int.natCast_pow]
      obtain rfl : (P : Int) = RW := by rw [← HRW.out, if_pos ⟨rfl, hh⟩, eP]
      clear p1 p2 hP eP hH b1 HRW
      have f3 := Tb.out.free 3
      go_upto_region 8 with (first | (go_at_call 98; refine (HH.out _).mono ?_; rintro r w' ⟨rfl, hv⟩; replace hv := hv.symm; subst hv) | (simp only [HPW.out]))
      obtain ⟨wx, hwx⟩ : ∃ v : World, v = wb.setCell ⟨ga, 3, none⟩ (.int .i64 (P : Int)) := ⟨_, rfl⟩
      have Tx : Hid (Blk wx ga 43 (c4 (H : Int) n2 n3 (P : Int))) := hide (by rw [hwx]; exact Tb.out.set 3 _)
      have hbutx : But ga wb wx := by rw [hwx]; exact But.setCell _ _ _ _
      have Gx := hide (Gb.out.but hbutx hne)
      have Bx := hide (Bb.out.trans (hbutx.below LA.out))
      rw [← hwx]
      clear hwx hbutx Tb Gb Bb t0 t1 t2 t3 f3
      go_wp2_with (first | (refine step_loadA wT rfl rfl Tx.out rfl ?_) | (refine step_storeA wT rfl rfl rfl Gx.out rfl (One.c4 (H : Int) n2 n3 (P : Int)) rfl ?_))
      intro wc hgc hbutc
      have BE := hide (Bx.out.trans (hbutc.below LE.out))
      go_wp2
      refine bodyPost_ret (results_wide rfl wT _ _ rfl hgc rfl) rfl ⟨rfl, BE.out⟩
    · obtain rfl : n4 = RW := by rw [← HRW.out, if_neg (fun h => hh h.2)]
      have HH := hide (fun v => isHeight_no n1 v (by omega))
      go_wp2_with (first | (go_at_call 98; refine (HH.out _).mono ?_; rintro r w' ⟨rfl, rfl⟩) | (refine step_loadA wT rfl rfl Tb.out rfl ?_) | (refine step_storeA wT rfl rfl rfl Gb.out rfl (One.c4 n1 n2 n3 n4) rfl ?_))
      intro wc hgc hbutc
      have BE := hide (Bb.out.trans (hbutc.below LE.out))
      go_wp2
      refine bodyPost_ret (results_wide rfl wT _ _ rfl hgc rfl) rfl ⟨rfl, BE.out⟩
end Go.Proofs.YtlgcjdgcgnlcaaaGreatDoor
