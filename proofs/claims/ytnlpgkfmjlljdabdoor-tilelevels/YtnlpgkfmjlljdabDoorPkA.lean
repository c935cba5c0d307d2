/-
  Texts one behind the other: Krk Tla Tlb Tld Tlc TlvLaw.
-/
import Derived.Test.YtnlpgkfmjlljdabDoorKm
import Derived.Test.YtnlpgkfmjlljdabDoorTu
import Derived.Test.YtnlpgkfmjlljdabDoorTr0
import Derived.Test.YtnlpgkfmjlljdabDoorTs
import Derived.Test.YtnlpgkfmjlljdabDoorTx
import Derived.Deep.Cut

/-
  A region that draws its order inside a round of a range over a function: walked by hand, as outside (as Kr, for seats that have no ranges of digests).
-/
namespace Go.Proofs.YtnlpgkfmjlljdabDoor
open Go.RowKit Go.Shelf
set_option linter.unusedVariables false

section
variable {F : Fence} {n : Nat} {P : Program} {ops : Array Oper} {md : Region.Mode}
theorem wpOpIn_of_wpOp (hF : WideF F) (hd : ops.all noDefer = true) {i : Nat} {a : Act} {K K' : Act → World → Prop} {Q : Exit → Act → World → Prop} {w : World} (hL : ¬ LetsOut Q) (h : ∀ a w', K a w' → K' a w') (hh : wpOp P ops Q i K a w) : wpOpIn F n P ops Q i K' a w := by
  unfold wpOp at hh
  unfold wpOpIn
  split
  · rename_i ho; simp only [ho] at hh; exact h _ _ hh
  · rename_i o ho
    simp only [ho] at hh
    split
    · rename_i hw
      simp only [hw, if_true] at hh
      rcases hh with hh | ⟨_, hh⟩
      · refine lift_op hF (fun c hc => ?_) (Oper.wp_mono h hh)
        have h1 := Array.all_eq_true.1 hd
        obtain ⟨hi, he⟩ := Array.getElem?_eq_some_iff.1 ho
        have h2 := h1 i hi
        rw [he] at h2
        simp [noDefer, hc] at h2
      · exact absurd hh hL
    · rename_i hw; simp only [hw] at hh; exact ⟨fun f _ => hF.fn f, h _ _ hh⟩
theorem wpAnyIn_of_any (hF : WideF F) (hd : ops.all noDefer = true) {Q : Exit → Act → World → Prop} (hL : ¬ LetsOut Q) : ∀ (fuel : Nat) (listed : Array Bool) (a : Act) (w : World), wpAny P md ops Q fuel listed a w → wpAnyIn F n P md ops Q fuel listed a w
  | 0, _, _, _, h => h
  | fuel + 1, _, _, _, h => ⟨h.1, fun i hi => wpOpIn_of_wpOp hF hd hL (fun a' w' h' => wpAnyIn_of_any hF hd hL fuel _ a' w' h') (h.2 i hi)⟩
/-- Only the normal way out. -/
def Only (R : Act → World → Prop) : Exit → Act → World → Prop
  | .normal, a, w => R a w
  | _, _, _ => False
theorem Only.imp {Q : Exit → Act → World → Prop} : ∀ (e : Exit) (a : Act) (w : World), Only (fun a w => Q .normal a w) e a w → Q e a w := fun e a w h => by
  cases e <;> first | exact h | exact (h : False).elim
theorem Only.normal {Q : Exit → Act → World → Prop} {a : Act} {w : World} (h : Q .normal a w) : Only (fun a w => Q .normal a w) .normal a w := h
theorem Only.out (R : Act → World → Prop) : ¬ LetsOut (Only R) := by rintro ⟨a, w, h⟩; exact h
theorem wpIn_region_held {S : World → Prop} {id : Nat} {Q : Exit → Act → World → Prop} {a : Act} {w : World} (hF : WideF F) (hm : P.follows .mixedOrders = true) (hd : ops.all noDefer = true) (hS : S w.drew)
    (h : S w.drew → wpAnyH P .any ops (Only (fun a w => Q .normal a w)) S ops.size (Array.replicate ops.size false) a w.drew) : (Code.region id ops true).wpIn F n P Q a w :=
  Code.wpIn_mono Only.imp (wpIn_region_any hm (wpAnyIn_of_any hF hd (Only.out _) _ _ _ _ (wpAny_of_held _ _ _ _ (h hS))))
end

end Go.Proofs.YtnlpgkfmjlljdabDoor

/-
  How many digests the tiles of a log have, level by level, and how many of them are full; a full tile's root. No program here.
-/
namespace Go.Proofs.YtnlpgkfmjlljdabDoor
open Go.RowKit
set_option linter.unusedVariables false

def lS (f : Nat × Nat → Nat) (pre : List (Nat × Nat)) (l : Nat) : Nat := ((pre.filter (fun x => decide (x.1 = l))).map f).sum
theorem lS_app (f : Nat × Nat → Nat) (p q : List (Nat × Nat)) (l : Nat) : lS f (p ++ q) l = lS f p l + lS f q l := by
  unfold lS
  rw [List.filter_append, List.map_append, List.sum_append]
theorem lS_one (f : Nat × Nat → Nat) (x : Nat × Nat) (l : Nat) : lS f [x] l = if x.1 = l then f x else 0 := by
  unfold lS
  by_cases h : x.1 = l
  · simp [h]
  · simp [h]
theorem lS_snoc (f : Nat × Nat → Nat) (pre : List (Nat × Nat)) (x : Nat × Nat) (l : Nat) : lS f (pre ++ [x]) l = lS f pre l + if x.1 = l then f x else 0 := by
  rw [lS_app, lS_one]
/-- The first k of a level. -/
def rS (f : Nat × Nat → Nat) (l k : Nat) : Nat := ((List.range k).map fun i => f (l, i)).sum
theorem rS_succ (f : Nat × Nat → Nat) (l k : Nat) : rS f l (k + 1) = rS f l k + f (l, k) := by
  unfold rS
  rw [List.range_succ, List.map_append, List.sum_append]
  simp
theorem lS_map (f : Nat × Nat → Nat) (m l : Nat) : ∀ k : Nat, lS f ((List.range k).map fun i => (m, i)) l = if m = l then rS f m k else 0
  | 0 => by simp [lS, rS]
  | k + 1 => by
    rw [List.range_succ, List.map_append, List.map_cons, List.map_nil, lS_snoc, lS_map f m l k, rS_succ]
    by_cases h : m = l
    · simp [h]
    · simp [h]
theorem lS_rows (f : Nat × Nat → Nat) (h n l : Nat) : ∀ m : Nat, lS f ((List.range m).flatMap (tRow h n)) l = if l < m then rS f l (tCt h l n) else 0
  | 0 => by simp [lS]
  | m + 1 => by
    rw [List.range_succ, List.flatMap_append, lS_app, lS_rows f h n l m]
    have e : lS f ([m].flatMap (tRow h n)) l = if m = l then rS f m (tCt h m n) else 0 := by
      rw [← lS_map]
      simp [tRow]
    rw [e]
    by_cases h1 : l < m
    · rw [if_pos h1, if_neg (by omega), if_pos (by omega)]; omega
    · by_cases h2 : m = l
      · subst h2
        rw [if_neg h1, if_pos rfl, if_pos (by omega)]; omega
      · rw [if_neg h1, if_neg h2, if_neg (by omega)]
theorem lS_all (f : Nat × Nat → Nat) (h n l : Nat) : lS f (tAll h n) l = if l < tLv h n then rS f l (tCt h l n) else 0 := lS_rows f h n l _
theorem lS_pre (f : Nat × Nat → Nat) (h n l i : Nat) : lS f (tPre h n l i) l = rS f l i := by
  unfold tPre
  rw [lS_app, lS_rows, lS_map, if_neg (by omega), if_pos rfl]
  omega
/-- Their widths; are they full? -/
def fW (h n : Nat) : Nat × Nat → Nat := fun x => tW h x.1 x.2 n
def fF (h n : Nat) : Nat × Nat → Nat := fun x => if tW h x.1 x.2 n = 2 ^ h then 1 else 0
theorem rS_W (h n l : Nat) : ∀ k : Nat, rS (fW h n) l k = min (k * 2 ^ h) (tOv h l n)
  | 0 => by simp [rS]
  | k + 1 => by
    rw [rS_succ, rS_W h n l k]
    show _ + tW h l k n = _
    unfold tW
    rw [Nat.add_mul, Nat.one_mul]
    generalize tOv h l n = D
    generalize k * 2 ^ h = X
    generalize 2 ^ h = P
    omega
theorem rS_F (h n l : Nat) : ∀ k : Nat, rS (fF h n) l k = min k (tOv h l n / 2 ^ h)
  | 0 => by simp [rS]
  | k + 1 => by
    rw [rS_succ, rS_F h n l k]
    have hp := Nat.two_pow_pos h
    have e : tW h l k n = 2 ^ h ↔ k + 1 ≤ tOv h l n / 2 ^ h := by
      rw [Nat.le_div_iff_mul_le hp, Nat.add_mul, Nat.one_mul]
      unfold tW
      generalize tOv h l n = D
      generalize k * 2 ^ h = X
      generalize 2 ^ h = P at *
      omega
    show _ + (if tW h l k n = 2 ^ h then 1 else 0) = _
    generalize tOv h l n / 2 ^ h = D at *
    by_cases hq : tW h l k n = 2 ^ h
    · rw [if_pos hq]; have := e.1 hq; omega
    · rw [if_neg hq]; have : ¬ k + 1 ≤ D := fun h => hq (e.2 h); omega
theorem tOv_past {h n : Nat} (hh : isH h) (hn : n ≤ 281474976710656) {l : Nat} (hl : tLv h n ≤ l) : tOv h l n = 0 := by
  have h0 := tLv_top hh hn
  obtain ⟨d, rfl⟩ : ∃ d, l = tLv h n + d := ⟨l - tLv h n, by omega⟩
  clear hl
  induction d with
  | zero => exact h0
  | succ d ih => rw [← Nat.add_assoc, tOv_succ, ih]; simp
theorem tCt_top (h l n : Nat) : tOv h l n ≤ tCt h l n * 2 ^ h ∧ tOv h l n / 2 ^ h ≤ tCt h l n := by
  have hp := Nat.two_pow_pos h
  have h1 : tOv h l n ≤ tCt h l n * 2 ^ h := by
    have hz := (tW_zero (h := h) (l := l) (i := tCt h l n) (n := n)).2 (Nat.le_refl _)
    unfold tW at hz
    generalize tOv h l n = D at *
    generalize tCt h l n * 2 ^ h = X at *
    generalize 2 ^ h = P at *
    omega
  refine ⟨h1, ?_⟩
  have := Nat.div_le_div_right (c := 2 ^ h) h1
  rwa [Nat.mul_div_cancel _ hp] at this
theorem all_W {h n : Nat} (hh : isH h) (hn : n ≤ 281474976710656) (l : Nat) : lS (fW h n) (tAll h n) l = tOv h l n := by
  rw [lS_all]
  by_cases hl : l < tLv h n
  · rw [if_pos hl, rS_W]
    have := (tCt_top h l n).1
    omega
  · rw [if_neg hl, tOv_past hh hn (by omega)]
theorem all_F {h n : Nat} (hh : isH h) (hn : n ≤ 281474976710656) (l : Nat) : lS (fF h n) (tAll h n) l = tOv h (l + 1) n := by
  rw [lS_all]
  by_cases hl : l < tLv h n
  · rw [if_pos hl, rS_F, tOv_succ]
    have := (tCt_top h l n).2
    omega
  · rw [if_neg hl, tOv_past hh hn (by omega)]
theorem F_le_W (h n : Nat) (pre : List (Nat × Nat)) (l : Nat) : lS (fF h n) pre l ≤ lS (fW h n) pre l := by
  unfold lS
  induction pre.filter (fun x => decide (x.1 = l)) with
  | nil => simp
  | cons x xs ih =>
    simp only [List.map_cons, List.sum_cons]
    have : fF h n x ≤ fW h n x := by
      show (if tW h x.1 x.2 n = 2 ^ h then 1 else 0) ≤ tW h x.1 x.2 n
      have := Nat.two_pow_pos h
      split <;> omega
    omega
/-- Of a beginning of a level. -/
theorem pre_map {m C : Nat} : ∀ {r : List (Nat × Nat)} {x : Nat × Nat}, r ++ [x] <+: (List.range C).map (fun i => (m, i)) → ∃ i, i < C ∧ x = (m, i) ∧ r = (List.range i).map fun i => (m, i) := by
  intro r x hp
  have h1 : ((List.range C).map fun i => (m, i))[r.length]? = some x := next_of hp
  rw [List.getElem?_map] at h1
  obtain ⟨i, hi, e⟩ := Option.map_eq_some_iff.1 h1
  have hlt : r.length < C := by
    have := (List.getElem?_eq_some_iff.1 hi).1
    simpa using this
  rw [List.getElem?_range hlt] at hi
  injection hi with hi
  subst hi
  refine ⟨r.length, hlt, e.symm, ?_⟩
  have h2 : r <+: (List.range C).map (fun i => (m, i)) := (List.prefix_append r [x]).trans hp
  have h3 := (List.prefix_iff_eq_take.1 h2)
  rw [← List.map_take, List.take_range, Nat.min_eq_left (Nat.le_of_lt hlt)] at h3
  exact h3
theorem pre_rows {h n : Nat} : ∀ {m : Nat} {pre : List (Nat × Nat)} {x : Nat × Nat}, pre ++ [x] <+: (List.range m).flatMap (tRow h n) → ∃ l i, x = (l, i) ∧ pre = tPre h n l i ∧ l < m ∧ i < tCt h l n
  | 0, pre, x, hp => by
    have := hp.length_le
    simp at this
  | m + 1, pre, x, hp => by
    rw [List.range_succ, List.flatMap_append] at hp
    have e : ([m].flatMap (tRow h n)) = (List.range (tCt h m n)).map fun i => (m, i) := by simp [tRow]
    rw [e] at hp
    rcases List.prefix_or_prefix_of_prefix hp (List.prefix_append ((List.range m).flatMap (tRow h n)) _) with h1 | ⟨r, hr⟩
    · obtain ⟨l, i, e1, e2, e3, e4⟩ := pre_rows h1
      exact ⟨l, i, e1, e2, by omega, e4⟩
    · rcases List.eq_nil_or_concat r with rfl | ⟨r', y, rfl⟩
      · rw [List.append_nil] at hr
        obtain ⟨l, i, e1, e2, e3, e4⟩ := pre_rows (m := m) (pre := pre) (x := x) (by rw [hr]; exact List.prefix_refl _)
        exact ⟨l, i, e1, e2, by omega, e4⟩
      · rw [List.concat_eq_append, ← List.append_assoc] at hr
        obtain ⟨q1, q2⟩ := List.append_inj' hr rfl
        injection q2 with q2 _
        subst q1 q2
        rw [List.append_assoc, List.prefix_append_right_inj] at hp
        obtain ⟨i, hi, rfl, rfl⟩ := pre_map hp
        exact ⟨m, i, rfl, rfl, by omega, hi⟩
/-- What is known of the next tile. -/
theorem pre_W {h n : Nat} (hh : isH h) (hn : n ≤ 281474976710656) {pre : List (Nat × Nat)} {x : Nat × Nat} (hp : pre ++ [x] <+: tAll h n) : x.2 * 2 ^ h = lS (fW h n) pre x.1 ∧ x.1 ≤ 48 ∧ 0 < tW h x.1 x.2 n := by
  obtain ⟨l, i, rfl, rfl, hl, hi⟩ := pre_rows hp
  have h0 : ¬ tW h l i n = 0 := fun h => by have := tW_zero.1 h; omega
  have := tLv_le hh hn
  refine ⟨?_, by show l ≤ 48; omega, by show 0 < tW h l i n; omega⟩
  show i * 2 ^ h = lS (fW h n) (tPre h n l i) l
  rw [lS_pre, rS_W]
  unfold tW at h0
  generalize tOv h l n = D at *
  generalize i * 2 ^ h = X at *
  generalize 2 ^ h = P at *
  omega
/-- A full tile's root, and the digest of it in the tile above. -/
structure UpF (h l i N : Nat) (xs : List Int) (P M s X M2 s2 X2 wd : Nat) (R : List Int) : Prop where
  hM : h * l = M
  hM48 : M ≤ 48
  hS : 2 ^ M = s
  hX : i * 2 ^ h = X
  hle : (X + P) * s ≤ N
  hM2 : h * (l + 1) = M2
  hM248 : M2 ≤ 48
  hS2 : 2 ^ M2 = s2
  hX2 : i / P * 2 ^ h = X2
  hwd : i % P + 1 = wd
  hwd256 : wd ≤ P
  hle2 : (X2 + wd) * s2 ≤ N
  hV : V (M2 : Int) (i : Int)
  ok1 : tOK (h : Int) (l : Int) (i : Int) (P : Int)
  ok2 : tOK (h : Int) ((l + 1 : Nat) : Int) ((i / P : Nat) : Int) (wd : Int)
  inT' : inT (h : Int) ((l + 1 : Nat) : Int) ((i / P : Nat) : Int) (wd : Int) (M2 : Int) (i : Int)
  r1 : root (chk xs s (X * s) P) = R
  r2 : root (ovr (h : Int) (M2 : Int) (i : Int) (chk xs s2 (X2 * s2) wd)) = R
  hR : R.length = 32
theorem up_of {h l i N P : Nat} {xs : List Int} (hx : xs.length = 32 * N) (hb : isB xs) (hN : N ≤ 4398046511104) (hh : isH h) (hP : 2 ^ h = P) (hw : tW h l i N = P) : ∃ M s X M2 s2 X2 wd R, UpF h l i N xs P M s X M2 s2 X2 wd R := by
  subst hP
  have hp := hh.pow
  have hin := width_in (h := h) (l := l) (i := i) (n := N) (by rw [hw]; omega)
  have hbd := tW_bd hh (show N ≤ 281474976710656 by omega) (show 0 < tW h l i N by rw [hw]; omega)
  rw [hw] at hin
  have eL : (i + 1) * 2 ^ (h * (l + 1)) ≤ N := by
    rw [Nat.mul_succ, Nat.pow_add, Nat.mul_comm (2 ^ (h * l)), ← Nat.mul_assoc, Nat.add_mul, Nat.one_mul]
    exact hin
  have hL48 : h * (l + 1) ≤ 48 := by
    rcases Nat.lt_or_ge 48 (h * (l + 1)) with hg | hg
    · have := Nat.pow_le_pow_right (n := 2) (by decide) (show 49 ≤ h * (l + 1) from hg)
      have h2 := Nat.mul_le_mul_right (2 ^ (h * (l + 1))) (show 1 ≤ i + 1 by omega)
      omega
    · exact hg
  have hmod : h * (l + 1) % h = 0 := Nat.mul_mod_right h (l + 1)
  have hdiv : h * (l + 1) / h = l + 1 := Nat.mul_div_cancel_left _ (by have := hh.1; omega)
  have hX : oX h (h * (l + 1)) i = i / 2 ^ h := by unfold oX oA; rw [hmod]; simp
  have hF : oF h (h * (l + 1)) i = i % 2 ^ h := by unfold oF oA; rw [hmod]; simp
  have hT : oT h (h * (l + 1)) i = i % 2 ^ h + 1 := by unfold oT; rw [hF, hmod]
  have hIN : i < N / 2 ^ (h * (l + 1)) := (Nat.le_div_iff_mul_le (Nat.two_pow_pos _)).2 eL
  have hwg := (width_ge hh hIN).1
  rw [hX, hT, hdiv] at hwg
  have hml := Nat.mod_lt i (show 0 < 2 ^ h by omega)
  have e2 : i / 2 ^ h * 2 ^ h + (i % 2 ^ h + 1) = i + 1 := by
    have := Nat.div_add_mod i (2 ^ h)
    rw [Nat.mul_comm] at this
    omega
  have hle2 : (i / 2 ^ h * 2 ^ h + (i % 2 ^ h + 1)) * 2 ^ (h * (l + 1)) ≤ N := by rw [e2]; exact eL
  have hr2 := node_root (h := h) (L := h * (l + 1)) (I := i) (w := i % 2 ^ h + 1) hx hb (by omega) hL48 (by rw [hT]; exact Nat.le_refl _) (by rw [hX, hdiv]; exact hle2)
  rw [hX, hF, hT, hdiv] at hr2
  have hsub := sub_length hx (show i * 2 ^ (h * (l + 1)) ≤ (i + 1) * 2 ^ (h * (l + 1)) from Nat.mul_le_mul_right _ (by omega)) eL
  refine ⟨_, _, _, _, _, _, _, root (sub xs (i * 2 ^ (h * (l + 1))) ((i + 1) * 2 ^ (h * (l + 1)))), rfl, hbd.1, rfl, rfl, hin, rfl, hL48, rfl, rfl, rfl, by omega, hle2, ?_, ?_, ?_, ?_, ?_, ?_, root_length hsub (sub_isB hb _ _)⟩
  · refine ⟨by omega, by omega, by omega, ?_⟩
    have e1 := pow_int 281474976710656 (h * (l + 1))
    have e3 : N / 2 ^ (h * (l + 1)) ≤ 281474976710656 / 2 ^ (h * (l + 1)) := Nat.div_le_div_right (by omega)
    rw [show ((281474976710656 : Nat) : Int) = 281474976710656 from rfl] at e1
    rw [show ((h * (l + 1) : Nat) : Int).toNat = h * (l + 1) from Int.toNat_natCast _, e1]
    omega
  · exact ⟨h, l, i, 2 ^ h, rfl, rfl, rfl, by simp, hh, by omega, by rw [← hw]; exact tW_mono (by omega)⟩
  · exact ⟨h, l + 1, i / 2 ^ h, i % 2 ^ h + 1, rfl, rfl, rfl, rfl, hh, by omega, Nat.le_trans hwg (tW_mono (by omega))⟩
  · unfold inT
    simp only [Int.toNat_natCast]
    rw [hdiv, hX, hT]
    exact ⟨rfl, rfl, Int.le_refl _⟩
  · rw [chk_root hx hb (by omega) h (i * 2 ^ h * 2 ^ (h * l)) (by have := hh.2; omega) (by rw [← Nat.add_mul]; exact hin)]
    have z1 : i * 2 ^ h * 2 ^ (h * l) = i * 2 ^ (h * (l + 1)) := by rw [Nat.mul_assoc, ← Nat.pow_add, Nat.mul_succ, Nat.add_comm h]
    have z2 : h + h * l = h * (l + 1) := by rw [Nat.mul_succ]; omega
    rw [z1, z2, Nat.add_mul, Nat.one_mul]
  · unfold ovr
    simp only [Int.toNat_natCast]
    rw [hF, hT]
    exact hr2

end Go.Proofs.YtnlpgkfmjlljdabDoor

/-
  What TileLevels keeps: the counts of digests and of full tiles, level by level.
-/
namespace Go.Proofs.YtnlpgkfmjlljdabDoor
open Go.RowKit Go.Shelf
set_option linter.unusedVariables false

def lC (f : Nat × Nat → Nat) (pre : List (Nat × Nat)) : List Value := (List.range 50).map fun l => Value.int .i64 ((lS f pre l : Nat) : Int)
theorem lC_length (f : Nat × Nat → Nat) (pre : List (Nat × Nat)) : (lC f pre).length = 50 := by simp [lC]
theorem lC_nil (f : Nat × Nat → Nat) : lC f [] = List.replicate 50 (.int .i64 0) := by
  unfold lC lS
  rfl
theorem lC_get (f : Nat × Nat → Nat) (pre : List (Nat × Nat)) {l : Nat} (hl : l < 50) : (lC f pre)[l]? = some (.int .i64 ((lS f pre l : Nat) : Int)) := by
  unfold lC
  rw [List.getElem?_map, List.getElem?_range hl]
  rfl
theorem lC_set (f : Nat × Nat → Nat) (pre : List (Nat × Nat)) (x : Nat × Nat) (n : Nat) (hl : x.1 < 50) (hn : lS f pre x.1 + f x = n) : (lC f pre).set x.1 (.int .i64 (n : Int)) = lC f (pre ++ [x]) := by
  apply List.ext_getElem?
  intro i
  by_cases hi : i < 50
  · rw [lC_get _ _ hi, lS_snoc]
    by_cases e : x.1 = i
    · subst e
      rw [List.getElem?_set_self (by rw [lC_length]; exact hi), if_pos rfl, hn]
    · rw [List.getElem?_set_ne e, lC_get _ _ hi, if_neg e]
      rfl
  · rw [List.getElem?_eq_none (by rw [List.length_set, lC_length]; omega), List.getElem?_eq_none (by rw [lC_length]; omega)]
theorem lC_same (f : Nat × Nat → Nat) (pre : List (Nat × Nat)) (x : Nat × Nat) (h : f x = 0) : lC f (pre ++ [x]) = lC f pre := by
  apply List.ext_getElem?
  intro i
  by_cases hi : i < 50
  · rw [lC_get _ _ hi, lC_get _ _ hi, lS_snoc, h]
    simp
  · rw [List.getElem?_eq_none (by rw [lC_length]; omega), List.getElem?_eq_none (by rw [lC_length]; omega)]
theorem Blk.apart {W : World} {g g' : Nat} {t t' : TypeId} {cs cs' : List Value} (h : Blk W g t cs) (h' : Blk W g' t' cs') (hl : cs.length ≠ cs'.length) : g ≠ g' := by
  rintro rfl
  unfold Blk at h h'
  rw [h] at h'
  injection h' with h'
  injection h' with h' _ _
  exact hl (by have := congrArg Array.size h'; simpa using this)
theorem Blk.apartV {W : World} {g g' : Nat} {t t' : TypeId} {cs cs' : List Value} (h : Blk W g t cs) (h' : Blk W g' t' cs') (hl : cs ≠ cs') : g ≠ g' := by
  rintro rfl
  unfold Blk at h h'
  rw [h] at h'
  injection h' with h'
  injection h' with h' _ _
  exact hl (by have := congrArg Array.toList h'; simpa using this)
theorem atI (b n cap i : Nat) (I : Int) (hI : I = (i : Int)) (hi : i < n) (v : World) : (Instr.indexAt 49 (.slice (some ⟨b, 0, none⟩) n cap) (.int .i64 I)).run Tryd.prog v = .ok (.pointer (some ⟨b, i, none⟩)) v := by
  subst hI
  have u1 : Tryd.prog.underlying 49 = some (.slice (Tryd.prog.elem 49)) := by kernel_rfl
  have u2 : Tryd.prog.elem 49 = 3 := by kernel_rfl
  have u3 : (sizeOf 3).run Tryd.prog v = .ok 1 v := by kernel_rfl
  rw [run_indexAt_slice v _ _ _ _ .i64 i u1, if_pos ⟨by omega, by omega⟩, u2, u3]
  simp only [Result.andThen_ok, Int.toNat_natCast]
  rw [Addr.add_lit, Nat.zero_add, Nat.mul_one]
theorem make50 (w : World) : (Instr.makeSlice 49 (.int .i64 50) (.int .i64 50)).run Tryd.prog w = .ok (.slice (some ⟨w.heap.size, 0, none⟩) 50 50) (w.alloc (.cells (List.replicate 50 (.int .i64 0)).toArray 3)) := by kernel_rfl
section
variable {dst : Option Tmp} {ty : TypeId} {pos : String} {aft : Array Edge} {gd : Option (Nat × Bool)} {ops : Array Oper} {rest : List Oper} {a : Act} {w : World} {Q : Exit → Act → World → Prop}
theorem step_mk50 {l c : Operand} (hw : Region.wanted ⟨dst, .makeSlice 49 l c, ty, pos, aft, gd⟩ (yielded ops a.tmps) = true)
    (hl : a.eval l = .int .i64 50) (hc : a.eval c = .int .i64 50)
    (h : ∀ w1 g, Blk w1 g 3 (List.replicate 50 (.int .i64 0)) → w.heap.size ≤ g → Below w.heap.size w w1 → wpList Tryd.prog ops Q rest (a.put dst (.slice (some ⟨g, 0, none⟩) 50 50)) w1) :
    wpList Tryd.prog ops Q (⟨dst, .makeSlice 49 l c, ty, pos, aft, gd⟩ :: rest) a w := by
  refine step_run hw (.slice (some ⟨w.heap.size, 0, none⟩) 50 50) (w.alloc (.cells (List.replicate 50 (.int .i64 0)).toArray 3)) ?_ (h _ _ (Blk.made _ _ _) (Nat.le_refl _) ((Below.refl _ _).alloc (Nat.le_refl _) _))
  unfold execOp
  simp only [hl, hc, Sem.run_bind, make50, Result.andThen_ok, Sem.run_pure]
end
/-- What the law's own variables hold. -/
structure LV (w W : World) (b2 b3 b4 b5 b6 b7 gc gw : Nat) (h P N cap : Nat) (a : Option Addr) (pc pw : List (Nat × Nat)) : Prop where
  c2 : Blk W b2 3 [.int .i64 (h : Int)]
  c3 : Blk W b3 31 [.slice a N cap]
  c4 : Blk W b4 4 [.bool false]
  c5 : Blk W b5 3 [.int .i64 (P : Int)]
  c6 : Blk W b6 49 [.slice (some ⟨gc, 0, none⟩) 50 50]
  c7 : Blk W b7 49 [.slice (some ⟨gw, 0, none⟩) 50 50]
  kc : Blk W gc 3 (lC (fW h N) pc)
  kw : Blk W gw 3 (lC (fF h N) pw)
  bel : Below w.heap.size w W
  ne : gc ≠ gw
  l4 : w.heap.size ≤ b4
  lc : w.heap.size ≤ gc
  lw : w.heap.size ≤ gw
  le : ∀ l, lS (fW h N) pc l ≤ N
section
variable {w W W' : World} {b2 b3 b4 b5 b6 b7 gc gw h P N cap : Nat} {a : Option Addr} {pc pw : List (Nat × Nat)}
theorem LV.on (k : LV w W b2 b3 b4 b5 b6 b7 gc gw h P N cap a pc pw) (hb : Below W.heap.size W W') : LV w W' b2 b3 b4 b5 b6 b7 gc gw h P N cap a pc pw :=
  ⟨k.c2.on hb, k.c3.on hb, k.c4.on hb, k.c5.on hb, k.c6.on hb, k.c7.on hb, k.kc.on hb, k.kw.on hb, on_below k.bel hb, k.ne, k.l4, k.lc, k.lw, k.le⟩
theorem LV.kept {row : Option Nat} (k : LV w W b2 b3 b4 b5 b6 b7 gc gw h P N cap a pc pw) (hg : W.grownBy W' row) (hr : ∀ r, row = some r → w.heap.size ≤ r ∧ ∃ o : Obj, W.heap[r]? = some o ∧ o.isCells = false) : LV w W' b2 b3 b4 b5 b6 b7 gc gw h P N cap a pc pw :=
  ⟨k.c2.kept hg (fun r e => (hr r e).2), k.c3.kept hg (fun r e => (hr r e).2), k.c4.kept hg (fun r e => (hr r e).2), k.c5.kept hg (fun r e => (hr r e).2), k.c6.kept hg (fun r e => (hr r e).2), k.c7.kept hg (fun r e => (hr r e).2), k.kc.kept hg (fun r e => (hr r e).2), k.kw.kept hg (fun r e => (hr r e).2), k.bel.grown hg k.bel.size (fun r e => (hr r e).1), k.ne, k.l4, k.lc, k.lw, k.le⟩
theorem lC_ne1 (f : Nat × Nat → Nat) (pre : List (Nat × Nat)) (v : Value) : [v].length ≠ (lC f pre).length := by rw [lC_length]; simp
theorem LV.setc (k : LV w W b2 b3 b4 b5 b6 b7 gc gw h P N cap a pc pw) (x : Nat × Nat) (n : Nat) (hl : x.1 < 50) (hn : lS (fW h N) pc x.1 + fW h N x = n) (hN : n ≤ N) : LV w (W.setCell ⟨gc, x.1, none⟩ (.int .i64 (n : Int))) b2 b3 b4 b5 b6 b7 gc gw h P N cap a (pc ++ [x]) pw := by
  have hb := But.setCell W gc x.1 (.int .i64 (n : Int))
  refine ⟨k.c2.but hb (k.c2.apart k.kc (lC_ne1 _ _ _)), k.c3.but hb (k.c3.apart k.kc (lC_ne1 _ _ _)), k.c4.but hb (k.c4.apart k.kc (lC_ne1 _ _ _)), k.c5.but hb (k.c5.apart k.kc (lC_ne1 _ _ _)), k.c6.but hb (k.c6.apart k.kc (lC_ne1 _ _ _)), k.c7.but hb (k.c7.apart k.kc (lC_ne1 _ _ _)), ?_, k.kw.but hb (Ne.symm k.ne), k.bel.trans (hb.below k.lc), k.ne, k.l4, k.lc, k.lw, fun l => ?_⟩
  · have := k.kc.set x.1 (.int .i64 (n : Int))
    rwa [lC_set _ _ _ _ hl hn] at this
  · rw [lS_snoc]
    have := k.le l
    by_cases e : x.1 = l
    · subst e
      rw [if_pos rfl, hn]; exact hN
    · rw [if_neg e]; omega
theorem LV.setw (k : LV w W b2 b3 b4 b5 b6 b7 gc gw h P N cap a pc pw) (x : Nat × Nat) (n : Nat) (hl : x.1 < 50) (hn : lS (fF h N) pw x.1 + fF h N x = n) : LV w (W.setCell ⟨gw, x.1, none⟩ (.int .i64 (n : Int))) b2 b3 b4 b5 b6 b7 gc gw h P N cap a pc (pw ++ [x]) := by
  have hb := But.setCell W gw x.1 (.int .i64 (n : Int))
  refine ⟨k.c2.but hb (k.c2.apart k.kw (lC_ne1 _ _ _)), k.c3.but hb (k.c3.apart k.kw (lC_ne1 _ _ _)), k.c4.but hb (k.c4.apart k.kw (lC_ne1 _ _ _)), k.c5.but hb (k.c5.apart k.kw (lC_ne1 _ _ _)), k.c6.but hb (k.c6.apart k.kw (lC_ne1 _ _ _)), k.c7.but hb (k.c7.apart k.kw (lC_ne1 _ _ _)), k.kc.but hb k.ne, ?_, k.bel.trans (hb.below k.lw), k.ne, k.l4, k.lc, k.lw, k.le⟩
  have := k.kw.set x.1 (.int .i64 (n : Int))
  rwa [lC_set _ _ _ _ hl hn] at this
theorem LV.pass (k : LV w W b2 b3 b4 b5 b6 b7 gc gw h P N cap a pc pw) (x : Nat × Nat) (hx : fF h N x = 0) : LV w W b2 b3 b4 b5 b6 b7 gc gw h P N cap a pc (pw ++ [x]) :=
  ⟨k.c2, k.c3, k.c4, k.c5, k.c6, k.c7, k.kc, by rw [lC_same _ _ _ hx]; exact k.kw, k.bel, k.ne, k.l4, k.lc, k.lw, k.le⟩
end
/-- The two blocks that the loop's body turns. -/
def M2 (g g' : Nat) : World → Nat → Prop := fun A k => (k = g ∨ k = g') ∧ k < A.heap.size
theorem Mine.two {n₀ g g' : Nat} (h : g < n₀) (h' : g' < n₀) : Mine n₀ (M2 g g') :=
  ⟨fun A B hn _ k hk hm => ⟨hm.1, hk⟩, fun A l o hl hlt k hk hm => ⟨hm.1, hk⟩⟩
theorem km_two1 {g g' : Nat} {A B : World} (h : But g A B) (hlt : g < A.heap.size) : KM (M2 g g') A B :=
  ⟨Nat.le_of_eq h.size.symm, fun k o hk _ hm => (h.block k (fun e => hm ⟨.inl e, by omega⟩)).trans hk, fun k hk hm => ⟨hm.1, hk⟩⟩
theorem km_two2 {g g' : Nat} {A B : World} (h : But g' A B) (hlt : g' < A.heap.size) : KM (M2 g g') A B :=
  ⟨Nat.le_of_eq h.size.symm, fun k o hk _ hm => (h.block k (fun e => hm ⟨.inr e, by omega⟩)).trans hk, fun k hk hm => ⟨hm.1, hk⟩⟩
theorem joinR {F : Fence} {n : Nat} {T : Program} {c : Code} {a : Act} {w : World} {Q : Exit → Act → World → Prop} {K : Act → World → Prop} (P : Nat → World → Prop) (act : Nat → Act) (h1 : ∀ g W, P g W → K (act g) W) (h2 : (∀ g W, P g W → K (act g) W) → Code.wpIn F n T c (Exit.then K Q) a w) : Code.wpIn F n T c (Exit.then K Q) a w := h2 h1
theorem joinR3 {F : Fence} {n : Nat} {T : Program} {c : Code} {a : Act} {w : World} {Q : Exit → Act → World → Prop} {K : Act → World → Prop} (P : Nat → World → Prop) (act : Nat → Option Addr → Nat → Act) (h1 : ∀ g x y W, P g W → K (act g x y) W) (h2 : (∀ g x y W, P g W → K (act g x y) W) → Code.wpIn F n T c (Exit.then K Q) a w) : Code.wpIn F n T c (Exit.then K Q) a w := h2 h1
section
variable {dst : Option Tmp} {ty : TypeId} {pos : String} {aft : Array Edge} {gd : Option (Nat × Bool)} {a : Act} {w : World} {K : Act → World → Prop} {Q : Exit → Act → World → Prop}
theorem wp_runT {P : Program} {o : Oper} (v : Value) (w' : World) (hrun : (execOp a.eval o).run P w = .ok (.value v) w') (h : K (a.put o.dst v) w') : Oper.wp P o a w K Q := by
  unfold Oper.wp
  rw [hrun, Oper.upon_value]
  exact h
set_option maxRecDepth 100000 in
theorem wp_allocGT {T : TypeId} {cs : List Value} (hz : Zeroed T cs) (h : ∀ w1 g, Blk w1 g T cs → w.heap.size ≤ g → Below w.heap.size w w1 → K (a.put dst (.pointer (some ⟨g, 0, none⟩))) w1) :
    Oper.wp Tryd.prog ⟨dst, .alloc T, ty, pos, aft, gd⟩ a w K Q :=
  wp_runT _ _ (hz a.eval dst ty pos aft gd w) (h _ _ (Blk.made _ _ _) (Nat.le_refl _) ((Below.refl _ _).alloc (Nat.le_refl _) _))
theorem wp_storeGT {T : TypeId} {n : Nat} (hT : Wide T n) {x y : Operand} {g : Nat} {t : TypeId} {cs vs : List Value} (hx : a.eval x = .pointer (some ⟨g, 0, none⟩)) (hy : a.eval y = .agg vs.toArray) (hg : Blk w g t cs) (hn : vs.length = n) (h1 : One vs) (hl : cs.length = n)
    (h : ∀ w1, Blk w1 g t vs → But g w w1 → K (a.put dst undef) w1) : Oper.wp Tryd.prog ⟨dst, .store T x y, ty, pos, aft, gd⟩ a w K Q :=
  wp_storeW hT rfl hx hy hg hn h1 (by omega) fun w1 hb hbut => h w1 (by
    have e : spl cs vs 0 = vs := by
      unfold spl
      rw [List.drop_of_length_le (by omega)]
      simp
    rwa [e] at hb) hbut
end
section
variable {F : Fence} {n : Nat} {dst : Option Tmp} {ty : TypeId} {pos : String} {aft : Array Edge} {gd : Option (Nat × Bool)} {ops : Array Oper} {rest : List Oper} {a : Act} {w : World} {Q : Exit → Act → World → Prop}
theorem istep_neD (hF : WideF F) {t' : TypeId} {x y : Operand} {R : List Int} (hw : Region.wanted ⟨dst, .binOp .neq 40 x y t', ty, pos, aft, gd⟩ (yielded ops a.tmps) = true)
    (hx : a.eval x = .agg (u8s R).toArray) (hy : a.eval y = .agg (u8s R).toArray) (hl : (u8s R).length = 32) (h : wpListIn F n Tryd.prog ops Q rest (a.put dst (.bool false)) w) :
    wpListIn F n Tryd.prog ops Q (⟨dst, .binOp .neq 40 x y t', ty, pos, aft, gd⟩ :: rest) a w := by
  rw [u8s_length] at hl
  have := run_neA (dst := dst) (ty := ty) (pos := pos) (aft := aft) (gd := gd) (w := w) aD t' hx hy hl hl
  rw [show (!decide (R = R)) = false by simp] at this
  exact istep_run hF (fun c => by simp) hw _ w this h
end
/-- What region 17 reckons. -/
theorem up_nums {l i P j m wu : Nat} (hl : l ≤ 48) (hi : i ≤ 4398046511104) (hP : 2 ≤ P) (hP2 : P ≤ 256) (hj : i / P = j) (hm : i % P = m) (hu : m + 1 = wu) :
    (IntKind.i64.wrap ((l : Int) + 1) = (l : Int) + 1) ∧ ((i : Int).tdiv (P : Int) = (j : Int) ∧ IntKind.i64.wrap (j : Int) = (j : Int)) ∧ ((i : Int).tmod (P : Int) = (m : Int) ∧ IntKind.i64.wrap (m : Int) = (m : Int)) ∧ ((m : Int) + 1 = (wu : Int) ∧ IntKind.i64.wrap (wu : Int) = (wu : Int)) ∧ (¬ (P : Int) = 0 ∧ ((P : Int) == 0) = false) := by
  have h1 : i / P ≤ i := Nat.div_le_self _ _
  have h2 : i % P < P := Nat.mod_lt _ (by omega)
  refine ⟨by rw [IntKind.wrap_i64]; omega, ⟨?_, by rw [IntKind.wrap_i64]; omega⟩, ⟨?_, by rw [IntKind.wrap_i64]; omega⟩, ⟨by omega, by rw [IntKind.wrap_i64]; omega⟩, by omega, by simp; omega⟩
  · rw [Int.tdiv_eq_ediv_of_nonneg (by omega), ← hj, Int.natCast_ediv]
  · rw [Int.tmod_eq_emod_of_nonneg (by omega), ← hm, Int.natCast_emod]
end Go.Proofs.YtnlpgkfmjlljdabDoor

/-
  What is told of a full tile and of the tile above it: the four calls that TileLevels makes.
-/
namespace Go.Proofs.YtnlpgkfmjlljdabDoor
open Go.RowKit
set_option linter.unusedVariables false

theorem up_calls (h l i N cap P : Nat) (a : Option Addr) (xs : List Int) (w : World) (hs : Ds w a N cap xs) (hk : KT w) (hh : isH h) (hP : 2 ^ h = P) (hw : tW h l i N = P) : ∃ (wd j M : Nat) (R Y1 Y2 : List Int),
    (i % P + 1 = wd ∧ i / P = j ∧ h * (l + 1) = M ∧ M ≤ 48 ∧ wd ≤ 256 ∧ (u8s R).length = 32) ∧
    (∀ v : World, Below w.heap.size w v → Calls Tryd.prog 12 #[.slice a N cap, .agg (c4 (h : Int) (l : Int) (i : Int) (P : Int)).toArray] v fun r w' => ∃ bs bc, r = .returned (.slice bs (32 * P) bc) ∧ Sl w' bs (32 * P) bc Y1 ∧ Below v.heap.size v w') ∧
    (∀ v : World, Below w.heap.size w v → ∀ (bs : Option Addr) (bc : Nat), Sl v bs (32 * P) bc Y1 → Calls Tryd.prog 15 #[.agg (c4 (h : Int) (l : Int) (i : Int) (P : Int)).toArray, .slice bs (32 * P) bc] v fun r w' => r = .returned (.tuple #[.agg (u8s R).toArray, .int .i64 0]) ∧ Below v.heap.size v w') ∧
    (∀ v : World, Below w.heap.size w v → Calls Tryd.prog 12 #[.slice a N cap, .agg (c4 (h : Int) ((l + 1 : Nat) : Int) (j : Int) (wd : Int)).toArray] v fun r w' => ∃ bs bc, r = .returned (.slice bs (32 * wd) bc) ∧ Sl w' bs (32 * wd) bc Y2 ∧ Below v.heap.size v w') ∧
    (∀ v : World, Below w.heap.size w v → ∀ (bs : Option Addr) (bc : Nat), Sl v bs (32 * wd) bc Y2 → Calls Tryd.prog 11 #[.agg (c4 (h : Int) ((l + 1 : Nat) : Int) (j : Int) (wd : Int)).toArray, .slice bs (32 * wd) bc, .agg (c2 (M : Int) (i : Int)).toArray] v fun r w' => r = .returned (.tuple #[.agg (u8s R).toArray, .int .i64 0]) ∧ Below v.heap.size v w') := by
  have hN := hs.hreach
  obtain ⟨M, s, X, M2, s2, X2, wd, R, uf⟩ := up_of hs.hlen hs.hbyte hN hh hP hw
  have hp := hh.pow
  rw [hP] at hp
  have hbd := tW_bd hh (show N ≤ 281474976710656 by omega) (show 0 < tW h l i N by rw [hw]; omega)
  have hwd := uf.hwd256
  have hjl : i / P ≤ i := Nat.div_le_self _ _
  have c1 := chk_length (s := s) (b := X * s) (w := P) hs.hlen hs.hbyte (by rw [← Nat.add_mul]; exact uf.hle)
  have i1 := chk_isB (s := s) (b := X * s) (w := P) hs.hlen hs.hbyte (by rw [← Nat.add_mul]; exact uf.hle)
  have c2 := chk_length (s := s2) (b := X2 * s2) (w := wd) hs.hlen hs.hbyte (by rw [← Nat.add_mul]; exact uf.hle2)
  have i2 := chk_isB (s := s2) (b := X2 * s2) (w := wd) hs.hlen hs.hbyte (by rw [← Nat.add_mul]; exact uf.hle2)
  refine ⟨wd, i / P, M2, R, chk xs s (X * s) P, chk xs s2 (X2 * s2) wd, ⟨uf.hwd, rfl, uf.hM2, uf.hM248, by omega, by rw [u8s_length, uf.hR]⟩, fun v hv => ?_, fun v hv bs bc hsl => ?_, fun v hv => ?_, fun v hv bs bc hsl => ?_⟩
  · refine (bytesL_any a N cap xs h l i P M s X v (hs.below hv) (hk.below hv hk.lt) hh uf.hM uf.hM48 uf.hS uf.hX hp.2 uf.hle).mono (fun r w' hr => ?_)
    obtain ⟨bv, e1, e2, e3⟩ := hr
    obtain ⟨bs, bc, e4, e5⟩ := e2.sl' i1 (by rw [c1]; omega)
    rw [c1] at e4 e5
    exact ⟨bs, bc, by rw [e1, e4], e5, e3⟩
  · obtain ⟨ds, e, hr, hc⟩ := rootT_any (h : Int) (l : Int) (i : Int) (P : Int) (by omega) (by omega) (32 * P) _ c1 (by omega) i1
    have hres : ds = R ∧ e = 0 := by
      obtain ⟨q1, q2⟩ := hr
      have e0 : e = 0 := by
        rcases q1 with ⟨e1, k⟩ | ⟨k, ⟨e1, k2⟩ | ⟨e1, k2⟩⟩
        · exact absurd uf.ok1 k
        · exact absurd (show ((32 * P : Nat) : Int) = (P : Int) * 32 by omega) k2
        · exact e1
      subst e0
      rcases q2 with ⟨q, _⟩ | ⟨_, q⟩
      · exact absurd rfl q
      · exact ⟨by rw [q]; exact uf.r1, rfl⟩
    obtain ⟨rfl, rfl⟩ := hres
    exact hc bs bc v hsl (hk.below hv hk.lt)
  · refine (bytesL_any a N cap xs h (l + 1) (i / P) wd M2 s2 X2 v (hs.below hv) (hk.below hv hk.lt) hh uf.hM2 uf.hM248 uf.hS2 uf.hX2 (by omega) uf.hle2).mono (fun r w' hr => ?_)
    obtain ⟨bv, e1, e2, e3⟩ := hr
    obtain ⟨bs, bc, e4, e5⟩ := e2.sl' i2 (by rw [c2]; omega)
    rw [c2] at e4 e5
    exact ⟨bs, bc, by rw [e1, e4], e5, e3⟩
  · obtain ⟨ds, e, hr, hc⟩ := digestT_any (h : Int) ((l + 1 : Nat) : Int) ((i / P : Nat) : Int) (wd : Int) (by omega) (by omega) (32 * wd) _ c2 (by omega) i2 (M2 : Int) (i : Int)
    have hgood : DgR (h : Int) ((l + 1 : Nat) : Int) ((i / P : Nat) : Int) (wd : Int) (32 * wd) (chk xs s2 (X2 * s2) wd) (M2 : Int) (i : Int) R 0 := .inr ⟨uf.hV, uf.ok2, .inr ⟨by omega, .inr ⟨rfl, uf.inT', uf.r2.symm⟩⟩⟩
    obtain ⟨rfl, rfl⟩ := hr.uniq hgood
    exact hc bs bc v hsl (hk.below hv hk.lt)

end Go.Proofs.YtnlpgkfmjlljdabDoor

/-
  The walk of TileLevels.
-/
namespace Go.Proofs.YtnlpgkfmjlljdabDoor
open Go.RowKit Go.Shelf
set_option linter.unusedVariables false
set_option linter.unusedSimpArgs false

theorem blocks4 (w : World) (v1 v2 v3 v4 : Value) (t1 t2 t3 t4 : TypeId) : ∃ W b2 b3 b4 b5, W = (((w.alloc (.cells #[v1] t1)).alloc (.cells #[v2] t2)).alloc (.cells #[v3] t3)).alloc (.cells #[v4] t4) ∧ b2 = w.heap.size ∧ b3 = w.heap.size + 1 ∧ b4 = w.heap.size + 1 + 1 ∧ b5 = w.heap.size + 1 + 1 + 1 ∧
    Blk W b2 t1 [v1] ∧ Blk W b3 t2 [v2] ∧ Blk W b4 t3 [v3] ∧ Blk W b5 t4 [v4] ∧ Below w.heap.size w W ∧ w.heap.size ≤ b4 := by
  refine ⟨_, _, _, _, _, rfl, rfl, rfl, rfl, rfl, ?_, ?_, ?_, ?_, ?_, by omega⟩
  · exact (((Blk.made w t1 [v1]).on ((Below.refl _ _).alloc (Nat.le_refl _) _)).on ((Below.refl _ _).alloc (Nat.le_refl _) _)).on ((Below.refl _ _).alloc (Nat.le_refl _) _)
  · have := Blk.made (w.alloc (.cells #[v1] t1)) t2 [v2]
    rw [World.size_alloc] at this
    exact (this.on ((Below.refl _ _).alloc (Nat.le_refl _) _)).on ((Below.refl _ _).alloc (Nat.le_refl _) _)
  · have := Blk.made ((w.alloc (.cells #[v1] t1)).alloc (.cells #[v2] t2)) t3 [v3]
    rw [World.size_alloc, World.size_alloc] at this
    exact this.on ((Below.refl _ _).alloc (Nat.le_refl _) _)
  · have := Blk.made (((w.alloc (.cells #[v1] t1)).alloc (.cells #[v2] t2)).alloc (.cells #[v3] t3)) t4 [v4]
    rw [World.size_alloc, World.size_alloc, World.size_alloc] at this
    exact this
  · have h1 : Below w.heap.size w (w.alloc (.cells #[v1] t1)) := (Below.refl _ _).alloc (Nat.le_refl _) _
    have h2 := h1.alloc h1.size (.cells #[v2] t2)
    have h3 := h2.alloc h2.size (.cells #[v3] t3)
    exact h3.alloc h3.size (.cells #[v4] t4)

theorem wrapN (y N : Nat) (h : y ≤ N) (hN : N ≤ 4398046511104) : IntKind.i64.wrap (y : Int) = (y : Int) ∧ wrap64 ((y : Int) + 1) = ((y + 1 : Nat) : Int) := ⟨by rw [IntKind.wrap_i64]; omega, by unfold wrap64; omega⟩
theorem block1 (w : World) (v : Value) (t : TypeId) : ∃ W b, W = w.alloc (.cells #[v] t) ∧ b = w.heap.size ∧ Blk W b t [v] ∧ Below w.heap.size w W :=
  ⟨_, _, rfl, rfl, Blk.made w t [v], (Below.refl _ _).alloc (Nat.le_refl _) _⟩
set_option maxRecDepth 100000 in
set_option maxHeartbeats 2000000 in
theorem tileLevels_main (h N cap : Nat) (a : Option Addr) (xs : List Int) (w : World) (hh : isH h) (hs : Ds w a N cap xs) (hk : KT w) :
    Calls Tryd.prog 5 #[.int .i64 (h : Int), .slice a N cap] w fun e w' => e = .returned (.bool true) ∧ Below w.heap.size w w' := by
  obtain ⟨h1, h8⟩ := hh.ints
  have hN := hs.hreach
  have HS := hide hs
  have HK := hide hk
  have HH := hide hh
  obtain ⟨P, hP⟩ : ∃ P, 2 ^ h = P := ⟨_, rfl⟩
  obtain ⟨p1, p2, p3, p4⟩ := pow_w hP hh
  have HPW := hide p1
  have HP := hide hP
  clear p1 p2 hs hk hh hP
  refine (callsIn_wide (n := 3)).1 ?_
  refine callsIn_of_wp_marks Tryd.func5 rfl trivial ?_ rfl
  refine wpIn_wide.2 ?_
  simp only [Tryd.ntmps5, List.size_toArray, List.length_cons, List.length_nil, Nat.reduceAdd, Nat.reduceSub, Array.replicate_succ, Array.replicate_zero, List.push_toArray, List.append_toArray, List.nil_append, List.cons_append]
  go_wp2_with (first | (simp only [HPW.out]) | (refine step_mk50 rfl rfl rfl ?_))
  obtain ⟨W0, b2, b3, b4, b5, eW, e2, e3, e4, e5, B2, B3, B4, B5, BB, l4⟩ := blocks4 w (.int .i64 (h : Int)) (.slice a N cap) (.bool false) (.int .i64 (P : Int)) 3 31 4 3
  rw [← eW]
  rw [← e5, ← e4, ← e3, ← e2]
  clear eW e2 e3 e4 e5
  intro W1 gc hgc hlc hb1
  have C2 := hide (B2.on hb1)
  have C3 := hide (B3.on hb1)
  have C4 := hide (B4.on hb1)
  have C5 := hide (B5.on hb1)
  have CB := hide (on_below BB hb1)
  have KC := hide hgc
  have LC := hide (Nat.le_trans BB.size hlc)
  clear B2 B3 B4 B5 BB hgc hlc hb1
  go_wp2_with (refine step_mk50 rfl rfl rfl ?_)
  obtain ⟨W2, b6, eW, e6, B6, BB⟩ := block1 W1 (.slice (some ⟨gc, 0, none⟩) 50 50) 49
  rw [← eW, ← e6]
  clear eW e6
  intro W3 gw hgw hlw hb3
  replace C2 := hide ((C2.out.on BB).on hb3)
  replace C3 := hide ((C3.out.on BB).on hb3)
  replace C4 := hide ((C4.out.on BB).on hb3)
  replace C5 := hide ((C5.out.on BB).on hb3)
  have C6 := hide (B6.on hb3)
  have HNE : Hid (gc ≠ gw) := hide (by have := KC.out.lt; have := BB.size; omega)
  replace KC := hide ((KC.out.on BB).on hb3)
  have KW := hide hgw
  have LW := hide (Nat.le_trans (on_below CB.out BB).size hlw)
  replace CB := hide (on_below (on_below CB.out BB) hb3)
  clear B6 BB hgw hlw hb3
  go_upto_region 6 with fail
  obtain ⟨W4, b7, eW, e7, B7, BB⟩ := block1 W3 (.slice (some ⟨gw, 0, none⟩) 50 50) 49
  rw [← eW, ← e7]
  clear eW e7
  have L4 : Hid (LV w W4 b2 b3 b4 b5 b6 b7 gc gw h P N cap a [] []) := hide ⟨C2.out.on BB, C3.out.on BB, C4.out.on BB, C5.out.on BB, C6.out.on BB, B7, by rw [lC_nil]; exact KC.out.on BB, by rw [lC_nil]; exact KW.out.on BB, on_below CB.out BB, HNE.out, l4, LC.out, LW.out, fun l => by simp [lS]⟩
  clear C2 C3 C4 C5 C6 B7 KC KW CB BB HNE LC LW l4
  have d2 : W4.cell? ⟨b2, 0, none⟩ = some (.int .i64 (h : Int)) := by rw [L4.out.c2.cell]; rfl
  have d3 : W4.cell? ⟨b3, 0, none⟩ = some (.slice a N cap) := by rw [L4.out.c3.cell]; rfl
  go_wp2_with fail
  refine (all_any (h : Int) (N : Int) _).mono ?_
  rintro r W5 ⟨b8, b9, rfl, k1, k2, e1, e2, hb5⟩
  have L5 := hide (L4.out.on hb5)
  have U5 : Hid (TK (M2 gc gw) b8 b9 (h : Int) (N : Int) W5) := hide ⟨k1, k2, fun hk => by have := L4.out.kc.lt; have := L4.out.kw.lt; have := hk.1; omega, fun hk => by have := L4.out.kc.lt; have := L4.out.kw.lt; have := hk.1; omega⟩
  clear k1 k2 e1 e2 hb5 L4 d2 d3
  have heq : ∀ v : World, (binOp BinOp.eql 51 (.func (.func 27) #[] #[.pointer (some ⟨b8, 0, none⟩), .pointer (some ⟨b9, 0, none⟩)]) .nilFunc).run Tryd.prog v = .ok (.bool false) v := fun v => by kernel_rfl
  go_wp2_with fail
  clear heq
  have hgcs : gc < W5.heap.size := L5.out.kc.lt
  have hgws : gw < W5.heap.size := L5.out.kw.lt
  have hws : w.heap.size ≤ W5.heap.size := L5.out.bel.size
  have hN48 : N ≤ 281474976710656 := by omega
  have HST := hide (all_stops_in W5.heap.size (M2 gc gw) (Mine.two hgcs hgws) b8 b9 h N W5 (Nat.le_refl _) U5.out HH.out hN48)
  have MT := hide (Mine.two hgcs hgws)
  clear U5
  refine (wpIn_wide (n := 3)).1 ?_
  refine range1 rfl (by decide) (gf := 27) (lb := #[.pointer (some ⟨b8, 0, none⟩), .pointer (some ⟨b9, 0, none⟩)]) rfl trivial (enters_of Tryd.func27 (by kernel_rfl) rfl)
    HST.out KM.trans (KM.book MT.out (Nat.le_refl _)) (fun A B h hb => km_below MT.out h hb) (fun _ => rfl)
    (fun pre W => LV w W b2 b3 b4 b5 b6 b7 gc gw h P N cap a pre pre ∧ W5.heap.size ≤ W.heap.size)
    (fun c pre W => c = .ret ∧ ¬ pre <+: tAll h N)
    (fun _ A B row h hg hr => ⟨h.1.kept hg (fun r e => ⟨by have := (hr r e).1; omega, (hr r e).2⟩), Nat.le_trans h.2 hg.size⟩)
    (fun _ _ h => h.2) (fun c _ A B row h hg hr => h)
    ⟨L5.out, Nat.le_refl _⟩ 23 (fun x => tC (tT h N x)) ?act ?assign ?body ?done ?stop
  case assign =>
    rintro l x W K hK
    have hsem := Oper.semAt_some
    gi_wp2_with (refine istep_alloc (.round l) zT rfl ?_)
    intro V1 g9 hg9 hle9 hb9
    gi_wp2_with (refine istep_storeA (.round l) wT rfl rfl rfl hg9 rfl (One.tC _) rfl ?_)
    intro V2 hg92 hbut9
    have hb92 : Below W.heap.size W V2 := hb9.trans (hbut9.below hle9)
    have hK2 := hK g9 V2 hb92 hg92
    clear hK
    gi_wp2
    exact hK2
  case stop =>
    rintro D c pre W hD hSp hIx hKd
    exact absurd hSp hIx.2
  case done =>
    rintro D ys W hD hys ⟨hL, hsz⟩ hKd
    subst hys
    have HL := hide hL
    have HCW : Hid (∀ k, k < 50 → W.cell? ⟨gc, k, none⟩ = some (.int .i64 ((tOv h k N : Nat) : Int))) := hide (fun k hk => by rw [HL.out.kc.cell, lC_get _ _ hk, all_W HH.out hN48])
    have HCF : Hid (∀ k, k < 50 → W.cell? ⟨gw, k, none⟩ = some (.int .i64 ((tOv h (k + 1) N : Nat) : Int))) := hide (fun k hk => by rw [HL.out.kw.cell, lC_get _ _ hk, all_F HH.out hN48])
    have HKD := hide hKd
    have d3 : W.cell? ⟨b3, 0, none⟩ = some (.slice a N cap) := by rw [hL.c3.cell]; rfl
    have d6 : W.cell? ⟨b6, 0, none⟩ = some (.slice (some ⟨gc, 0, none⟩) 50 50) := by rw [hL.c6.cell]; rfl
    have d7 : W.cell? ⟨b7, 0, none⟩ = some (.slice (some ⟨gw, 0, none⟩) 50 50) := by rw [hL.c7.cell]; rfl
    clear hL hKd
    go_wp2_with fail
    try simp only [Act.put]
    go_loopw [16] (fun s wr => ∃ i q : Nat, s = .int .i64 (i : Int) ∧ i ≤ 49 ∧ wr = W.drewN q) (fun s _ => 49 - (intOf s).toNat)
    case atStart => exact ⟨0, 0, rfl, Nat.zero_le _, rfl⟩
    case round =>
      obtain ⟨i, q, rfl, hi, rfl⟩ := hrel
      by_cases hlt : i < 49
      · have hlt' : (i : Int) < 49 := by omega
        have x1 := atI gc 50 50 (i + 1) ((i : Int) + 1) (by simp) (by omega)
        have x2 := atI gw 50 50 i (i : Int) rfl (by omega)
        have y1 := HCW.out (i + 1) (by omega)
        have y2 := HCF.out i (by omega)
        generalize ((tOv h (i + 1) N : Nat) : Int) = z at y1 y2
        go_wp2_with fail
        go_quiet (fail)
        go_wp2_with fail
        exact ⟨⟨i + 1, _, by simp, hlt, rfl⟩, by simp only [intOf]; omega⟩
      · obtain rfl : i = 49 := by omega
        obtain ⟨V, hV⟩ : ∃ V : World, V = (W.drewN q).drew := ⟨_, rfl⟩
        have BV : Hid (Below W.heap.size W V) := hide (by rw [hV]; exact (below_drews (Below.refl _ _) q).drew)
        have LVv := hide (HL.out.on BV.out)
        have y1 := HCW.out 0 (by decide)
        rw [tOv_zero] at y1
        have v3 : V.cell? ⟨b3, 0, none⟩ = some (.slice a N cap) := by rw [LVv.out.c3.cell]; rfl
        have v6 : V.cell? ⟨b6, 0, none⟩ = some (.slice (some ⟨gc, 0, none⟩) 50 50) := by rw [LVv.out.c6.cell]; rfl
        have vc : V.cell? ⟨gc, 0, none⟩ = some (.int .i64 (N : Int)) := by rw [hV]; exact y1
        have hKv : V.heap[D]? = some (.deferred (some [])) := by rw [hV]; exact HKD.out
        have f4 := LVv.out.c4.free 0
        have v4 : V.cell? ⟨b4, 0, none⟩ = some (.bool false) := by rw [LVv.out.c4.cell]; rfl
        have x0 := atI gc 50 50 0 0 rfl (by omega)
        have k1 := (KeepsOthers.setCell V ⟨b4, 0, none⟩ (.bool true)).same D _ hKv rfl
        have hbutR := But.setCell V b4 0 (.bool true)
        have CB6 := LVv.out.c4.set 0 (.bool true)
        have CB7 := CB6.kept (grownBy_putObj' _ D (.deferred none)) (fun r e => by cases e; exact ⟨_, k1, rfl⟩)
        have BA := (LVv.out.bel.trans (hbutR.below LVv.out.l4)).trans (belowK_b (w := w) (Nat.le_refl _) _ D _ (.deferred none) (by omega) k1 rfl rfl)
        have hcC : ((V.setCell ⟨b4, 0, none⟩ (.bool true)).putObj D (.deferred none)).cell? ⟨b4, 0, none⟩ = some (.bool true) := by rw [CB7.cell]; rfl
        have s6 : (V.setCell ⟨b4, 0, none⟩ (.bool true)).cell? ⟨b6, 0, none⟩ = some (.slice (some ⟨gc, 0, none⟩) 50 50) := by rw [(LVv.out.c6.but hbutR (LVv.out.c6.apartV LVv.out.c4 (by simp))).cell]; rfl
        have s3 : (V.setCell ⟨b4, 0, none⟩ (.bool true)).cell? ⟨b3, 0, none⟩ = some (.slice a N cap) := by rw [(LVv.out.c3.but hbutR (LVv.out.c3.apartV LVv.out.c4 (by simp))).cell]; rfl
        have sc : (V.setCell ⟨b4, 0, none⟩ (.bool true)).cell? ⟨gc, 0, none⟩ = some (.int .i64 (N : Int)) := by
          have z := LVv.out.kc.but hbutR (Ne.symm (LVv.out.c4.apart LVv.out.kc (lC_ne1 _ _ _)))
          rw [z.cell, lC_get _ _ (by decide), all_W HH.out hN48, tOv_zero]
        have HS3 : Hid ((V.setCell ⟨b4, 0, none⟩ (.bool true)).cell? ⟨b6, 0, none⟩ = some (.slice (some ⟨gc, 0, none⟩) 50 50) ∧ (V.setCell ⟨b4, 0, none⟩ (.bool true)).cell? ⟨gc, 0, none⟩ = some (.int .i64 (N : Int)) ∧ (V.setCell ⟨b4, 0, none⟩ (.bool true)).cell? ⟨b3, 0, none⟩ = some (.slice a N cap)) := hide ⟨s6, sc, s3⟩
        clear s6 s3 sc CB6 CB7 hbutR hKv y1
        go_wp2_with fail
        refine wp_region_noPanic ?_
        refine wp_region_held_drew (S := fun v => v.cell? ⟨b6, 0, none⟩ = some (.slice (some ⟨gc, 0, none⟩) 50 50) ∧ v.cell? ⟨gc, 0, none⟩ = some (.int .i64 (N : Int)) ∧ v.cell? ⟨b3, 0, none⟩ = some (.slice a N cap)) (by kernel_rfl) (by rw [← hV]; exact ⟨v6, vc, v3⟩) (fun hHeld => ?_)
        rw [← hV] at hHeld ⊢
        clear hV
        refine takeH 0 159 (.slice (some ⟨gc, 0, none⟩) 50 50) hHeld rfl rfl (by kernel_rfl) (by kernel_rfl) (by kernel_rfl) (fun _ _ _ h => h) (Or.inl ⟨by rfl, fun w hw => by have hw' : w.cell? ⟨b6, 0, none⟩ = some (.slice (some ⟨gc, 0, none⟩) 50 50) := (fun h => h.1) hw; go_simp⟩) ?_
        simp only [Act.put, List.setIfInBounds_toArray, List.set_cons_zero, List.set_cons_succ]
        refine takeH 1 160 (.pointer (some ⟨gc, 0, none⟩)) hHeld rfl rfl (by kernel_rfl) (by kernel_rfl) (by kernel_rfl) (fun _ _ _ h => h) (Or.inl ⟨by rfl, fun w _ => run_op rfl (x0 w)⟩) ?_
        simp only [Act.put, List.setIfInBounds_toArray, List.set_cons_zero, List.set_cons_succ]
        refine takeH 2 161 (.int .i64 (N : Int)) hHeld rfl rfl (by kernel_rfl) (by kernel_rfl) (by kernel_rfl) (fun _ _ _ h => h) (Or.inl ⟨by rfl, fun w hw => by have hw' : w.cell? ⟨gc, 0, none⟩ = some (.int .i64 (N : Int)) := (fun h => h.2.1) hw; go_simp⟩) ?_
        simp only [Act.put, List.setIfInBounds_toArray, List.set_cons_zero, List.set_cons_succ]
        refine takeH 3 162 (.slice a N cap) hHeld rfl rfl (by kernel_rfl) (by kernel_rfl) (by kernel_rfl) (fun _ _ _ h => h) (Or.inl ⟨by rfl, fun w hw => by have hw' : w.cell? ⟨b3, 0, none⟩ = some (.slice a N cap) := (fun h => h.2.2) hw; go_simp⟩) ?_
        simp only [Act.put, List.setIfInBounds_toArray, List.set_cons_zero, List.set_cons_succ]
        refine takeH 4 163 (.int .i64 (N : Int)) hHeld rfl rfl (by kernel_rfl) (by kernel_rfl) (by kernel_rfl) (fun _ _ _ h => h) (Or.inl ⟨by rfl, fun w _ => by go_simp⟩) ?_
        simp only [Act.put, List.setIfInBounds_toArray, List.set_cons_zero, List.set_cons_succ]
        refine takeH 5 164 (.bool true) hHeld rfl rfl (by kernel_rfl) (by kernel_rfl) (by kernel_rfl) (fun _ _ _ h => h) (Or.inl ⟨by rfl, fun w _ => by go_simp⟩) ?_
        simp only [Act.put, List.setIfInBounds_toArray, List.set_cons_zero, List.set_cons_succ]
        refine wpAnyH_ready (rs := [6]) (by kernel_rfl) (by simp) (AllReadyH.cons rfl (fun K hK => ?_) AllReadyH.nil)
        rw [if_pos (by rfl)]
        go_simp
        refine hK.out _ _ HS3.out (fun hHeld => ?_)
        clear hK K
        refine wpAnyH_done (by kernel_rfl) ?_ _
        refine NoPanic.normal ?_
        try simp only [Act.put, List.setIfInBounds_toArray, List.set_cons_zero, List.set_cons_succ]
        go_wp2
        refine ⟨by simp, .inl ⟨_, _, rfl, run_takeDeferred k1, ?_⟩⟩
        refine ⟨.bool true, ?_, rfl, BA⟩
        simp [results, Tryd.f5, go_sem, hcC]
  case body =>
    rintro rd pre ⟨l, i⟩ ga W ⟨hL, hsz⟩ hga hlt
    have hsem := Oper.semAt_some
    obtain ⟨wd, HWD⟩ : ∃ y, Hid (tW h l i N = y) := ⟨_, hide rfl⟩
    have HGA : Hid (Blk W ga 23 (c4 (h : Int) (l : Int) (i : Int) (wd : Int))) := hide (by rw [← HWD.out]; exact hga)
    have hwP : wd ≤ P := by rw [← HWD.out, ← HP.out]; exact tW_le _ _ _ _
    have HL := hide hL
    obtain ⟨n0, n1, n2, n3⟩ := Blk.four HGA.out
    have d2 : W.cell? ⟨b2, 0, none⟩ = some (.int .i64 (h : Int)) := by rw [hL.c2.cell]; rfl
    have d4 : W.cell? ⟨b4, 0, none⟩ = some (.bool false) := by rw [hL.c4.cell]; rfl
    have d5 : W.cell? ⟨b5, 0, none⟩ = some (.int .i64 (P : Int)) := by rw [hL.c5.cell]; rfl
    have d6 : W.cell? ⟨b6, 0, none⟩ = some (.slice (some ⟨gc, 0, none⟩) 50 50) := by rw [hL.c6.cell]; rfl
    have f4 := hL.c4.free 0
    have hbd := fun nq => below_drews (Below.refl W.heap.size W) nq
    clear hL hga
    have g0 : decide ((l : Int) < 0) = false := by simp
    by_cases hl48 : 48 < l
    · have HNP : Hid (¬ pre ++ [(l, i)] <+: tAll h N) := hide (fun hq => by have := (pre_W HH.out hN48 hq).2.1; simp only at this; omega)
      have g1 : decide ((l : Int) > 48) = true := by simp; omega
      have g1b : decide (48 < (l : Int)) = true := by simp; omega
      gi_wp2_with fail
      refine wpIn_region_round (.round rd) (by kernel_rfl) (by kernel_rfl) (by kernel_rfl) ?_
      try simp only [Act.put]
      repeat (go_big_quiet_step (fail))
      refine wpQuiet_nil ?_
      rintro _ ⟨nq, rfl⟩
      gi_wp2
      exact ⟨((keepsO_below (hbd nq)).trans (KeepsOthers.setCell _ _ _)).from _, rfl, HNP.out⟩
    · have g1 : decide ((l : Int) > 48) = false := by simp; omega
      have g1b : decide (48 < (l : Int)) = false := by simp; omega
      by_cases hw0 : wd = 0
      · have HNP : Hid (¬ pre ++ [(l, i)] <+: tAll h N) := hide (fun hq => by have := (pre_W HH.out hN48 hq).2.2; simp only at this; have := HWD.out; omega)
        have g2 : decide ((wd : Int) < 1) = true := by simp; omega
        gi_wp2_with fail
        refine wpIn_region_round (.round rd) (by kernel_rfl) (by kernel_rfl) (by kernel_rfl) ?_
        try simp only [Act.put]
        repeat (go_big_quiet_step (fail))
        refine wpQuiet_nil ?_
        rintro _ ⟨nq, rfl⟩
        gi_wp2
        exact ⟨((keepsO_below (hbd nq)).trans (KeepsOthers.setCell _ _ _)).from _, rfl, HNP.out⟩
      · have g2 : decide ((wd : Int) < 1) = false := by simp; omega
        have g3 : decide ((wd : Int) > (P : Int)) = false := by simp; omega
        have g3b : decide ((P : Int) < (wd : Int)) = false := by simp; omega
        have g3c : decide (P < wd) = false := by simp; omega
        obtain ⟨X, HX⟩ : ∃ y, Hid (i * 2 ^ h = y) := ⟨_, hide rfl⟩
        have hXN : X + wd ≤ N := by
          have h1 := width_in (h := h) (l := l) (i := i) (n := N) (by rw [HWD.out]; omega)
          rw [HWD.out, HX.out] at h1
          exact Nat.le_trans (Nat.le_mul_of_pos_right _ (Nat.two_pow_pos _)) h1
        have hiX : i ≤ X := by rw [← HX.out]; exact Nat.le_mul_of_pos_right _ (Nat.two_pow_pos _)
        have HXI : Hid ((i : Int) * (P : Int) = (X : Int)) := hide (by rw [← HX.out, HP.out, Int.natCast_mul])
        obtain ⟨cn, HCN⟩ : ∃ y, Hid (lS (fW h N) pre l = y) := ⟨_, hide rfl⟩
        have dl : W.cell? ⟨gc, l, none⟩ = some (.int .i64 (cn : Int)) := by rw [HL.out.kc.cell, lC_get _ _ (by omega), HCN.out]
        have x1 := atI gc 50 50 l (l : Int) rfl (by omega)
        have e1 := HXI.out
        by_cases hX : X = cn
        · subst hX
          gi_wp2_with fail
          refine wpIn_region_round (.round rd) (by kernel_rfl) (by kernel_rfl) (by kernel_rfl) ?_
          try simp only [Act.put]
          repeat (go_big_quiet_step (fail))
          refine wpQuiet_nil ?_
          rintro _ ⟨nq, rfl⟩
          obtain ⟨V, hV⟩ : ∃ V : World, V = (W.drewN nq).drew := ⟨_, rfl⟩
          have BV : Hid (Below W.heap.size W V) := hide (by rw [hV]; exact (hbd nq).drew)
          have LV1 := hide (HL.out.on BV.out)
          have GA1 := hide (HGA.out.on BV.out)
          have d6 : V.cell? ⟨b6, 0, none⟩ = some (.slice (some ⟨gc, 0, none⟩) 50 50) := by rw [LV1.out.c6.cell]; rfl
          have dl : V.cell? ⟨gc, l, none⟩ = some (.int .i64 (X : Int)) := by rw [LV1.out.kc.cell, lC_get _ _ (by omega), HCN.out]
          obtain ⟨n0, n1, n2, n3⟩ := Blk.four GA1.out
          have hfz := LV1.out.kc.free l
          have hgane : ga ≠ gc := GA1.out.apart LV1.out.kc (by rw [lC_length]; simp [c4])
          obtain ⟨Y, HY⟩ : ∃ y, Hid (X + wd = y) := ⟨_, hide rfl⟩
          have LV2 : Hid (LV w (V.setCell ⟨gc, l, none⟩ (.int .i64 (Y : Int))) b2 b3 b4 b5 b6 b7 gc gw h P N cap a (pre ++ [(l, i)]) pre) := hide (LV1.out.setc (l, i) Y (by omega) (by show lS (fW h N) pre l + tW h l i N = Y; rw [HCN.out, HWD.out, HY.out]) (by rw [← HY.out]; exact hXN))
          have GA2 := hide (GA1.out.but (But.setCell V gc l (.int .i64 (Y : Int))) hgane)
          have e6 : (X : Int) + (wd : Int) = (Y : Int) := by rw [← HY.out]; omega
          have hYN : Y ≤ N := by rw [← HY.out]; exact hXN
          gi_wp2_with fail
          refine wpIn_region_held (S := fun v => v.cell? ⟨b6, 0, none⟩ = some (.slice (some ⟨gc, 0, none⟩) 50 50) ∧ v.cell? ⟨ga, 1, none⟩ = some (.int .i64 (l : Int)) ∧ v.cell? ⟨ga, 3, none⟩ = some (.int .i64 (wd : Int))) (.round rd) (by kernel_rfl) (by kernel_rfl) (by rw [← hV]; exact ⟨d6, n1, n3⟩) (fun hHeld => ?_)
          rw [← hV] at hHeld ⊢
          clear hV
          refine takeH 0 73 (.slice (some ⟨gc, 0, none⟩) 50 50) hHeld rfl rfl (by kernel_rfl) (by kernel_rfl) (by kernel_rfl) (fun _ _ _ h => h) (Or.inl ⟨by rfl, fun w hw => by have hw' : w.cell? ⟨b6, 0, none⟩ = some (.slice (some ⟨gc, 0, none⟩) 50 50) := (fun h => h.1) hw; go_simp⟩) ?_
          simp only [Act.put, List.setIfInBounds_toArray, List.set_cons_zero, List.set_cons_succ]
          refine takeH 1 74 (.pointer (some ⟨ga, 1, none⟩)) hHeld rfl rfl (by kernel_rfl) (by kernel_rfl) (by kernel_rfl) (fun _ _ _ h => h) (Or.inl ⟨by rfl, fun w _ => by go_simp⟩) ?_
          simp only [Act.put, List.setIfInBounds_toArray, List.set_cons_zero, List.set_cons_succ]
          refine takeH 2 75 (.int .i64 (l : Int)) hHeld rfl rfl (by kernel_rfl) (by kernel_rfl) (by kernel_rfl) (fun _ _ _ h => h) (Or.inl ⟨by rfl, fun w hw => by have hw' : w.cell? ⟨ga, 1, none⟩ = some (.int .i64 (l : Int)) := (fun h => h.2.1) hw; go_simp⟩) ?_
          simp only [Act.put, List.setIfInBounds_toArray, List.set_cons_zero, List.set_cons_succ]
          refine takeH 3 76 (.slice (some ⟨gc, 0, none⟩) 50 50) hHeld rfl rfl (by kernel_rfl) (by kernel_rfl) (by kernel_rfl) (fun _ _ _ h => h) (Or.inl ⟨by rfl, fun w hw => by have hw' : w.cell? ⟨b6, 0, none⟩ = some (.slice (some ⟨gc, 0, none⟩) 50 50) := (fun h => h.1) hw; go_simp⟩) ?_
          simp only [Act.put, List.setIfInBounds_toArray, List.set_cons_zero, List.set_cons_succ]
          refine takeH 4 77 (.pointer (some ⟨ga, 1, none⟩)) hHeld rfl rfl (by kernel_rfl) (by kernel_rfl) (by kernel_rfl) (fun _ _ _ h => h) (Or.inl ⟨by rfl, fun w _ => by go_simp⟩) ?_
          simp only [Act.put, List.setIfInBounds_toArray, List.set_cons_zero, List.set_cons_succ]
          refine takeH 5 78 (.int .i64 (l : Int)) hHeld rfl rfl (by kernel_rfl) (by kernel_rfl) (by kernel_rfl) (fun _ _ _ h => h) (Or.inl ⟨by rfl, fun w hw => by have hw' : w.cell? ⟨ga, 1, none⟩ = some (.int .i64 (l : Int)) := (fun h => h.2.1) hw; go_simp⟩) ?_
          simp only [Act.put, List.setIfInBounds_toArray, List.set_cons_zero, List.set_cons_succ]
          refine takeH 6 79 (.pointer (some ⟨gc, l, none⟩)) hHeld rfl rfl (by kernel_rfl) (by kernel_rfl) (by kernel_rfl) (fun _ _ _ h => h) (Or.inl ⟨by rfl, fun w _ => run_op rfl (x1 w)⟩) ?_
          simp only [Act.put, List.setIfInBounds_toArray, List.set_cons_zero, List.set_cons_succ]
          refine takeH 8 81 (.pointer (some ⟨ga, 3, none⟩)) hHeld rfl rfl (by kernel_rfl) (by kernel_rfl) (by kernel_rfl) (fun _ _ _ h => h) (Or.inl ⟨by rfl, fun w _ => by go_simp⟩) ?_
          simp only [Act.put, List.setIfInBounds_toArray, List.set_cons_zero, List.set_cons_succ]
          refine takeH 9 82 (.int .i64 (wd : Int)) hHeld rfl rfl (by kernel_rfl) (by kernel_rfl) (by kernel_rfl) (fun _ _ _ h => h) (Or.inl ⟨by rfl, fun w hw => by have hw' : w.cell? ⟨ga, 3, none⟩ = some (.int .i64 (wd : Int)) := (fun h => h.2.2) hw; go_simp⟩) ?_
          simp only [Act.put, List.setIfInBounds_toArray, List.set_cons_zero, List.set_cons_succ]
          refine wpAnyH_ready (rs := [7]) (by kernel_rfl) (by simp) (AllReadyH.cons rfl (fun K hK => ?_) AllReadyH.nil)
          rw [if_pos (by rfl)]
          go_simp
          refine hK.out _ _ (⟨d6, n1, n3⟩) (fun hHeld => ?_)
          clear hK K
          try simp only [Act.put, List.setIfInBounds_toArray, List.set_cons_zero, List.set_cons_succ]
          have eY := (wrapN Y N hYN hN).1
          refine takeH 10 83 (.int .i64 (Y : Int)) hHeld rfl rfl (by kernel_rfl) (by kernel_rfl) (by kernel_rfl) (fun _ _ _ h => h) (Or.inl ⟨by rfl, fun w _ => by go_simp⟩) ?_
          simp only [Act.put, List.setIfInBounds_toArray, List.set_cons_zero, List.set_cons_succ]
          clear eY
          refine takeH 11 84 (.pointer (some ⟨gc, l, none⟩)) hHeld rfl rfl (by kernel_rfl) (by kernel_rfl) (by kernel_rfl) (fun _ _ _ h => h) (Or.inl ⟨by rfl, fun w _ => run_op rfl (x1 w)⟩) ?_
          simp only [Act.put, List.setIfInBounds_toArray, List.set_cons_zero, List.set_cons_succ]
          refine wpAnyH_ready (rs := [12]) (by kernel_rfl) (by simp) (AllReadyH.cons rfl (fun K hK => ?_) AllReadyH.nil)
          rw [if_pos (by rfl)]
          go_simp
          obtain ⟨Wc, hWc⟩ : ∃ v : World, v = V.setCell ⟨gc, l, none⟩ (.int .i64 (Y : Int)) := ⟨_, rfl⟩
          rw [← hWc] at LV2 GA2 ⊢
          have KM2 : Hid (KM (M2 gc gw) W Wc) := hide ((km_below MT.out hsz BV.out).trans (by rw [hWc]; exact km_two1 (But.setCell _ _ _ _) LV1.out.kc.lt))
          have KO2 : Hid (KeepsOthers W Wc) := hide ((keepsO_below BV.out).trans (by rw [hWc]; exact KeepsOthers.setCell _ _ _))
          have SZ2 : W.heap.size ≤ Wc.heap.size := by rw [hWc, (But.setCell _ _ _ _).size]; exact BV.out.size
          clear hWc
          refine hK.out _ _ (⟨by rw [LV2.out.c6.cell]; rfl, (Blk.four GA2.out).2.1, (Blk.four GA2.out).2.2.2⟩) (fun hHeld => ?_)
          clear hK K
          refine wpAnyH_done (by kernel_rfl) ?_ _
          refine Only.normal ?_
          clear LV1 GA1 HL HGA BV d6 dl n0 n1 n2 n3 hfz hHeld d2 d4 d5 f4 hbd e6 e1
          try simp only [Act.put, List.setIfInBounds_toArray, List.set_cons_zero, List.set_cons_succ]
          obtain ⟨n0, n1, n2, n3⟩ := Blk.four GA2.out
          have d5 : Wc.cell? ⟨b5, 0, none⟩ = some (.int .i64 (P : Int)) := by rw [LV2.out.c5.cell]; rfl
          by_cases hfull : wd = P
          · replace hfull := hfull.symm
            subst hfull
            obtain ⟨fn, HFN⟩ : ∃ y, Hid (lS (fF h N) pre l = y) := ⟨_, hide rfl⟩
            have hfn : fn ≤ N := by rw [← HFN.out]; exact Nat.le_trans (F_le_W _ _ _ _) (by rw [HCN.out]; omega)
            have d7 : Wc.cell? ⟨b7, 0, none⟩ = some (.slice (some ⟨gw, 0, none⟩) 50 50) := by rw [LV2.out.c7.cell]; rfl
            have dw : Wc.cell? ⟨gw, l, none⟩ = some (.int .i64 (fn : Int)) := by rw [LV2.out.kw.cell, lC_get _ _ (by omega), HFN.out]
            have hfz := LV2.out.kw.free l
            have x2 := atI gw 50 50 l (l : Int) rfl (by omega)
            have hgane2 : ga ≠ gw := GA2.out.apart LV2.out.kw (by rw [lC_length]; simp [c4])
            have LV3 : Hid (LV w (Wc.setCell ⟨gw, l, none⟩ (.int .i64 ((fn + 1 : Nat) : Int))) b2 b3 b4 b5 b6 b7 gc gw h P N cap a (pre ++ [(l, i)]) (pre ++ [(l, i)])) := hide (LV2.out.setw (l, i) (fn + 1) (by omega) (by show lS (fF h N) pre l + (if tW h l i N = 2 ^ h then 1 else 0) = fn + 1; rw [HFN.out, HWD.out, HP.out, if_pos rfl]))
            have GA3 := hide (GA2.out.but (But.setCell Wc gw l (.int .i64 ((fn + 1 : Nat) : Int))) hgane2)
            have E7 := hide (wrapN fn N hfn hN).2
            gi_wp2_with (simp only [E7.out])
            rw [show ((fn + 1 : Nat) : Int) = (fn : Int) + 1 from by simp] at LV3 GA3
            obtain ⟨Wd, hWd⟩ : ∃ v : World, v = Wc.setCell ⟨gw, l, none⟩ (.int .i64 ((fn : Int) + 1)) := ⟨_, rfl⟩
            rw [← hWd] at LV3 GA3 ⊢
            have KM3 : Hid (KM (M2 gc gw) W Wd) := hide (KM2.out.trans (by rw [hWd]; exact km_two2 (But.setCell _ _ _ _) LV2.out.kw.lt))
            have KO3 : Hid (KeepsOthers W Wd) := hide (KO2.out.trans (by rw [hWd]; exact KeepsOthers.setCell _ _ _))
            have SZ3 : W.heap.size ≤ Wd.heap.size := by rw [hWd, (But.setCell _ _ _ _).size]; exact SZ2
            clear hWd KM2 KO2 SZ2 LV2 GA2 n0 n1 n2 n3 d5 d7 dw hfz x1 x2 E7 HFN hfn HCN g0 g1 g1b g2 g3 g3b g3c HX HXI HY hYN
            obtain ⟨wu, j, M, R, Y1, Y2, ⟨q1, q2, q3, q4, q5, q6⟩, DB1, DR, DB2, DD⟩ := up_calls h l i N cap P a xs w HS.out HK.out HH.out HP.out HWD.out
            have Q1 := hide q1
            have Q2 := hide q2
            have Q3 := hide q3
            have HRU := hide q6
            have HB1 := hide DB1
            have HR1 := hide DR
            have HB2 := hide DB2
            have HD2 := hide DD
            clear q1 q2 q3 q6 DB1 DR DB2 DD
            have BW := hide LV3.out.bel
            have Y0 := hide ((Below.refl Wd.heap.size Wd).drew)
            have HI1 : Hid ((Tryd.prog.info? 23).map (·.size) = some (c4 (h : Int) (l : Int) (i : Int) (P : Int)).length) := hide (by rw [wT.size]; rfl)
            have HX0 : Hid (∀ v : World, Below Wd.heap.size Wd v → v.rangeAt ga 0 (c4 (h : Int) (l : Int) (i : Int) (P : Int))) := hide (fun v hv => (GA3.out.on hv).range 0 _ (by simp))
            have HF3 : Hid (∀ v : World, Below Wd.heap.size Wd v → v.cell? ⟨b3, 0, none⟩ = some (.slice a N cap)) := hide (fun v hv => by rw [(LV3.out.c3.on hv).cell]; rfl)
            refine joinR3 (fun g W => Hid (Blk W g 40 (u8s R)) ∧ Hid (Below Wd.heap.size Wd W)) ?act2 ?tail2 (fun hjoin => ?_)
            rotate_left
            rotate_left
            · refine wpIn_region_held (S := fun v => Below Wd.heap.size Wd v) (.round rd) (by kernel_rfl) (by kernel_rfl) Y0.out (fun hHeld => ?_)
              refine takeH 0 97 (.agg (c4 (h : Int) (l : Int) (i : Int) (P : Int)).toArray) hHeld rfl rfl (by kernel_rfl) (by kernel_rfl) (by kernel_rfl) (fun _ _ _ h => h) (yieldsIf_load_mid (by rfl) _ _ rfl ga 0 rfl _ _ (fun w h => HX0.out w h) Tryd.underlying23 rfl HI1.out) ?_
              simp only [Act.put, List.setIfInBounds_toArray, List.set_cons_zero, List.set_cons_succ]
              refine takeH 1 98 (.slice a N cap) hHeld rfl rfl (by kernel_rfl) (by kernel_rfl) (by kernel_rfl) (fun _ _ _ h => h) (Or.inl ⟨by rfl, fun w hw => by have hw' : w.cell? ⟨b3, 0, none⟩ = some (.slice a N cap) := HF3.out _ hw; go_simp⟩) ?_
              simp only [Act.put, List.setIfInBounds_toArray, List.set_cons_zero, List.set_cons_succ]
              refine takeH 2 99 (.agg (c4 (h : Int) (l : Int) (i : Int) (P : Int)).toArray) hHeld rfl rfl (by kernel_rfl) (by kernel_rfl) (by kernel_rfl) (fun _ _ _ h => h) (yieldsIf_load_mid (by rfl) _ _ rfl ga 0 rfl _ _ (fun w h => HX0.out w h) Tryd.underlying23 rfl HI1.out) ?_
              simp only [Act.put, List.setIfInBounds_toArray, List.set_cons_zero, List.set_cons_succ]
              refine wpAnyH_ready (rs := [3, 8]) (by kernel_rfl) (by simp) (AllReadyH.cons rfl (fun K hK => ?_) (AllReadyH.cons rfl (fun K hK => ?_) AllReadyH.nil))
              · rw [if_pos (by rfl)]
                go_simp
                refine (HB1.out _ (on_below BW.out Y0.out)).mono ?_
                rintro r va ⟨bs, bc, rfl, hbo, hv⟩
                have Y1 := hide (on_below Y0.out hv)
                have S1 := hide hbo
                refine hK.out _ _ Y1.out (fun hHeld => ?_)
                clear hK K
                try simp only [Act.put, List.setIfInBounds_toArray, List.set_cons_zero, List.set_cons_succ]
                refine wpAnyH_ready (rs := [4, 8]) (by kernel_rfl) (by simp) (AllReadyH.cons rfl (fun K hK => ?_) (AllReadyH.cons rfl (fun K hK => ?_) AllReadyH.nil))
                · rw [if_pos (by rfl)]
                  go_simp
                  refine (HR1.out _ (on_below BW.out Y1.out) bs bc S1.out).mono ?_
                  rintro r vb ⟨rfl, hv2⟩
                  have Y2 := hide (on_below Y1.out hv2)
                  refine hK.out _ _ Y2.out (fun hHeld => ?_)
                  clear hK K
                  try simp only [Act.put, List.setIfInBounds_toArray, List.set_cons_zero, List.set_cons_succ]
                  refine takeH 5 96 (.tuple #[.agg (u8s R).toArray, .int .i64 0]) hHeld rfl rfl (by kernel_rfl) (by kernel_rfl) (by kernel_rfl) (fun _ _ _ h => h) (Or.inl ⟨by rfl, fun w _ => by go_simp⟩) ?_
                  simp only [Act.put, List.setIfInBounds_toArray, List.set_cons_zero, List.set_cons_succ]
                  refine takeH 6 102 (.agg (u8s R).toArray) hHeld rfl rfl (by kernel_rfl) (by kernel_rfl) (by kernel_rfl) (fun _ _ _ h => h) (Or.inl ⟨by rfl, fun w _ => by go_simp⟩) ?_
                  simp only [Act.put, List.setIfInBounds_toArray, List.set_cons_zero, List.set_cons_succ]
                  refine takeH 7 103 (.int .i64 0) hHeld rfl rfl (by kernel_rfl) (by kernel_rfl) (by kernel_rfl) (fun _ _ _ h => h) (Or.inl ⟨by rfl, fun w _ => by go_simp⟩) ?_
                  simp only [Act.put, List.setIfInBounds_toArray, List.set_cons_zero, List.set_cons_succ]
                  refine wpAnyH_ready (rs := [8]) (by kernel_rfl) (by simp) (AllReadyH.cons rfl (fun K hK => ?_) AllReadyH.nil)
                  rw [if_pos (by rfl)]
                  refine wp_allocGT zD ?_
                  intro vc g12 hgn hln hbn
                  have Y3 := hide (on_below Y2.out hbn)
                  have GB := hide hgn
                  have LE := hide (Nat.le_trans Y2.out.size hln)
                  refine hK.out _ _ Y3.out (fun hHeld => ?_)
                  clear hK K
                  try simp only [Act.put, List.setIfInBounds_toArray, List.set_cons_zero, List.set_cons_succ]
                  refine wpAnyH_ready (rs := [9]) (by kernel_rfl) (by simp) (AllReadyH.cons rfl (fun K hK => ?_) AllReadyH.nil)
                  rw [if_pos (by rfl)]
                  refine wp_storeGT wD rfl rfl GB.out HRU.out (One.u8 _) rfl ?_
                  intro vz hgz hbutz
                  have YZ := hide (Y3.out.trans (hbutz.below LE.out))
                  refine hK.out _ _ YZ.out (fun hHeld => ?_)
                  clear hK K
                  try simp only [Act.put, List.setIfInBounds_toArray, List.set_cons_zero, List.set_cons_succ]
                  refine takeH 10 11 (.int .i64 0) hHeld rfl rfl (by kernel_rfl) (by kernel_rfl) (by kernel_rfl) (fun _ _ _ h => h) (Or.inl ⟨by rfl, fun w _ => by go_simp⟩) ?_
                  simp only [Act.put, List.setIfInBounds_toArray, List.set_cons_zero, List.set_cons_succ]
                  refine wpAnyH_done (by kernel_rfl) ?_ _
                  refine Only.normal ?_
                  exact hjoin g12 bs bc vz ⟨hide hgz, YZ⟩
                · rw [if_pos (by rfl)]
                  refine wp_allocGT zD ?_
                  intro vb g12 hgn hln hbn
                  have Y2 := hide (on_below Y1.out hbn)
                  have GA := hide hgn
                  have S2 := hide (S1.out.below hbn)
                  have LE := hide (Nat.le_trans Y1.out.size hln)
                  refine hK.out _ _ Y2.out (fun hHeld => ?_)
                  clear hK K
                  try simp only [Act.put, List.setIfInBounds_toArray, List.set_cons_zero, List.set_cons_succ]
                  refine wpAnyH_ready (rs := [4]) (by kernel_rfl) (by simp) (AllReadyH.cons rfl (fun K hK => ?_) AllReadyH.nil)
                  rw [if_pos (by rfl)]
                  go_simp
                  refine (HR1.out _ (on_below BW.out Y2.out) bs bc S2.out).mono ?_
                  rintro r vc ⟨rfl, hv2⟩
                  have Y3 := hide (on_below Y2.out hv2)
                  have GB := hide (GA.out.on hv2)
                  refine hK.out _ _ Y3.out (fun hHeld => ?_)
                  clear hK K
                  try simp only [Act.put, List.setIfInBounds_toArray, List.set_cons_zero, List.set_cons_succ]
                  refine takeH 5 96 (.tuple #[.agg (u8s R).toArray, .int .i64 0]) hHeld rfl rfl (by kernel_rfl) (by kernel_rfl) (by kernel_rfl) (fun _ _ _ h => h) (Or.inl ⟨by rfl, fun w _ => by go_simp⟩) ?_
                  simp only [Act.put, List.setIfInBounds_toArray, List.set_cons_zero, List.set_cons_succ]
                  refine takeH 6 102 (.agg (u8s R).toArray) hHeld rfl rfl (by kernel_rfl) (by kernel_rfl) (by kernel_rfl) (fun _ _ _ h => h) (Or.inl ⟨by rfl, fun w _ => by go_simp⟩) ?_
                  simp only [Act.put, List.setIfInBounds_toArray, List.set_cons_zero, List.set_cons_succ]
                  refine takeH 7 103 (.int .i64 0) hHeld rfl rfl (by kernel_rfl) (by kernel_rfl) (by kernel_rfl) (fun _ _ _ h => h) (Or.inl ⟨by rfl, fun w _ => by go_simp⟩) ?_
                  simp only [Act.put, List.setIfInBounds_toArray, List.set_cons_zero, List.set_cons_succ]
                  refine wpAnyH_ready (rs := [9]) (by kernel_rfl) (by simp) (AllReadyH.cons rfl (fun K hK => ?_) AllReadyH.nil)
                  rw [if_pos (by rfl)]
                  refine wp_storeGT wD rfl rfl GB.out HRU.out (One.u8 _) rfl ?_
                  intro vz hgz hbutz
                  have YZ := hide (Y3.out.trans (hbutz.below LE.out))
                  refine hK.out _ _ YZ.out (fun hHeld => ?_)
                  clear hK K
                  try simp only [Act.put, List.setIfInBounds_toArray, List.set_cons_zero, List.set_cons_succ]
                  refine takeH 10 11 (.int .i64 0) hHeld rfl rfl (by kernel_rfl) (by kernel_rfl) (by kernel_rfl) (fun _ _ _ h => h) (Or.inl ⟨by rfl, fun w _ => by go_simp⟩) ?_
                  simp only [Act.put, List.setIfInBounds_toArray, List.set_cons_zero, List.set_cons_succ]
                  refine wpAnyH_done (by kernel_rfl) ?_ _
                  refine Only.normal ?_
                  exact hjoin g12 bs bc vz ⟨hide hgz, YZ⟩
              · rw [if_pos (by rfl)]
                refine wp_allocGT zD ?_
                intro va g12 hgn hln hbn
                have Y1 := hide (on_below Y0.out hbn)
                have G0 := hide hgn
                have LE := hide (Nat.le_trans Y0.out.size hln)
                refine hK.out _ _ Y1.out (fun hHeld => ?_)
                clear hK K
                try simp only [Act.put, List.setIfInBounds_toArray, List.set_cons_zero, List.set_cons_succ]
                refine wpAnyH_ready (rs := [3]) (by kernel_rfl) (by simp) (AllReadyH.cons rfl (fun K hK => ?_) AllReadyH.nil)
                rw [if_pos (by rfl)]
                go_simp
                refine (HB1.out _ (on_below BW.out Y1.out)).mono ?_
                rintro r vb ⟨bs, bc, rfl, hbo, hv⟩
                have Y2 := hide (on_below Y1.out hv)
                have S2 := hide hbo
                have GA := hide (G0.out.on hv)
                refine hK.out _ _ Y2.out (fun hHeld => ?_)
                clear hK K
                try simp only [Act.put, List.setIfInBounds_toArray, List.set_cons_zero, List.set_cons_succ]
                refine wpAnyH_ready (rs := [4]) (by kernel_rfl) (by simp) (AllReadyH.cons rfl (fun K hK => ?_) AllReadyH.nil)
                rw [if_pos (by rfl)]
                go_simp
                refine (HR1.out _ (on_below BW.out Y2.out) bs bc S2.out).mono ?_
                rintro r vc ⟨rfl, hv2⟩
                have Y3 := hide (on_below Y2.out hv2)
                have GB := hide (GA.out.on hv2)
                refine hK.out _ _ Y3.out (fun hHeld => ?_)
                clear hK K
                try simp only [Act.put, List.setIfInBounds_toArray, List.set_cons_zero, List.set_cons_succ]
                refine takeH 5 96 (.tuple #[.agg (u8s R).toArray, .int .i64 0]) hHeld rfl rfl (by kernel_rfl) (by kernel_rfl) (by kernel_rfl) (fun _ _ _ h => h) (Or.inl ⟨by rfl, fun w _ => by go_simp⟩) ?_
                simp only [Act.put, List.setIfInBounds_toArray, List.set_cons_zero, List.set_cons_succ]
                refine takeH 6 102 (.agg (u8s R).toArray) hHeld rfl rfl (by kernel_rfl) (by kernel_rfl) (by kernel_rfl) (fun _ _ _ h => h) (Or.inl ⟨by rfl, fun w _ => by go_simp⟩) ?_
                simp only [Act.put, List.setIfInBounds_toArray, List.set_cons_zero, List.set_cons_succ]
                refine takeH 7 103 (.int .i64 0) hHeld rfl rfl (by kernel_rfl) (by kernel_rfl) (by kernel_rfl) (fun _ _ _ h => h) (Or.inl ⟨by rfl, fun w _ => by go_simp⟩) ?_
                simp only [Act.put, List.setIfInBounds_toArray, List.set_cons_zero, List.set_cons_succ]
                refine wpAnyH_ready (rs := [9]) (by kernel_rfl) (by simp) (AllReadyH.cons rfl (fun K hK => ?_) AllReadyH.nil)
                rw [if_pos (by rfl)]
                refine wp_storeGT wD rfl rfl GB.out HRU.out (One.u8 _) rfl ?_
                intro vz hgz hbutz
                have YZ := hide (Y3.out.trans (hbutz.below LE.out))
                refine hK.out _ _ YZ.out (fun hHeld => ?_)
                clear hK K
                try simp only [Act.put, List.setIfInBounds_toArray, List.set_cons_zero, List.set_cons_succ]
                refine takeH 10 11 (.int .i64 0) hHeld rfl rfl (by kernel_rfl) (by kernel_rfl) (by kernel_rfl) (fun _ _ _ h => h) (Or.inl ⟨by rfl, fun w _ => by go_simp⟩) ?_
                simp only [Act.put, List.setIfInBounds_toArray, List.set_cons_zero, List.set_cons_succ]
                refine wpAnyH_done (by kernel_rfl) ?_ _
                refine Only.normal ?_
                exact hjoin g12 bs bc vz ⟨hide hgz, YZ⟩
            · rintro g12 bs bc We ⟨GE, YE⟩
              clear HB1 HR1 HX0 HF3 HI1 Y0
              have LVe := hide (LV3.out.on YE.out)
              have GAe := hide (GA3.out.on YE.out)
              have KMe := hide (KM3.out.trans (km_below MT.out (Nat.le_trans hsz SZ3) YE.out))
              have KOe := hide (KO3.out.trans (keepsO_below YE.out))
              have SZe := Nat.le_trans SZ3 YE.out.size
              clear LV3 GA3 KM3 KO3 SZ3 YE BW
              obtain ⟨m, HM⟩ : ∃ m, Hid (i % P = m) := ⟨_, hide rfl⟩
              obtain ⟨n1, ⟨n2, n3⟩, ⟨n4, n5⟩, ⟨n6, n7⟩, n8, n9⟩ := up_nums (l := l) (i := i) (P := P) (j := j) (m := m) (wu := wu) (by omega) (by omega) p3 p4 Q2.out HM.out (by rw [← HM.out]; exact Q1.out)
              have Y0 := hide ((Below.refl We.heap.size We).drew)
              have F2 : Hid (∀ v : World, Below We.heap.size We v → v.cell? ⟨b2, 0, none⟩ = some (.int .i64 (h : Int))) := hide (fun v hv => by rw [(LVe.out.c2.on hv).cell]; rfl)
              have F5 : Hid (∀ v : World, Below We.heap.size We v → v.cell? ⟨b5, 0, none⟩ = some (.int .i64 (P : Int))) := hide (fun v hv => by rw [(LVe.out.c5.on hv).cell]; rfl)
              have A1 : Hid (∀ v : World, Below We.heap.size We v → v.cell? ⟨ga, 1, none⟩ = some (.int .i64 (l : Int))) := hide (fun v hv => (Blk.four (GAe.out.on hv)).2.1)
              have A2 : Hid (∀ v : World, Below We.heap.size We v → v.cell? ⟨ga, 2, none⟩ = some (.int .i64 (i : Int))) := hide (fun v hv => (Blk.four (GAe.out.on hv)).2.2.1)
              gi_wp2_with fail
              refine wpIn_region_held (S := fun v => Below We.heap.size We v) (.round rd) (by kernel_rfl) (by kernel_rfl) Y0.out (fun hHeld => ?_)
              refine takeH 0 104 (.int .i64 (h : Int)) hHeld rfl rfl (by kernel_rfl) (by kernel_rfl) (by kernel_rfl) (fun _ _ _ h => h) (Or.inl ⟨by rfl, fun w hw => by have hw' : w.cell? ⟨b2, 0, none⟩ = some (.int .i64 (h : Int)) := F2.out _ hw; go_simp⟩) ?_
              simp only [Act.put, List.setIfInBounds_toArray, List.set_cons_zero, List.set_cons_succ]
              refine takeH 1 105 (.pointer (some ⟨ga, 1, none⟩)) hHeld rfl rfl (by kernel_rfl) (by kernel_rfl) (by kernel_rfl) (fun _ _ _ h => h) (Or.inl ⟨by rfl, fun w _ => by go_simp⟩) ?_
              simp only [Act.put, List.setIfInBounds_toArray, List.set_cons_zero, List.set_cons_succ]
              refine takeH 2 106 (.int .i64 (l : Int)) hHeld rfl rfl (by kernel_rfl) (by kernel_rfl) (by kernel_rfl) (fun _ _ _ h => h) (Or.inl ⟨by rfl, fun w hw => by have hw' : w.cell? ⟨ga, 1, none⟩ = some (.int .i64 (l : Int)) := A1.out _ hw; go_simp⟩) ?_
              simp only [Act.put, List.setIfInBounds_toArray, List.set_cons_zero, List.set_cons_succ]
              refine takeH 3 107 (.int .i64 ((l : Int) + 1)) hHeld rfl rfl (by kernel_rfl) (by kernel_rfl) (by kernel_rfl) (fun _ _ _ h => h) (Or.inl ⟨by rfl, fun w _ => by go_simp⟩) ?_
              simp only [Act.put, List.setIfInBounds_toArray, List.set_cons_zero, List.set_cons_succ]
              refine takeH 4 108 (.pointer (some ⟨ga, 2, none⟩)) hHeld rfl rfl (by kernel_rfl) (by kernel_rfl) (by kernel_rfl) (fun _ _ _ h => h) (Or.inl ⟨by rfl, fun w _ => by go_simp⟩) ?_
              simp only [Act.put, List.setIfInBounds_toArray, List.set_cons_zero, List.set_cons_succ]
              refine takeH 5 109 (.int .i64 (i : Int)) hHeld rfl rfl (by kernel_rfl) (by kernel_rfl) (by kernel_rfl) (fun _ _ _ h => h) (Or.inl ⟨by rfl, fun w hw => by have hw' : w.cell? ⟨ga, 2, none⟩ = some (.int .i64 (i : Int)) := A2.out _ hw; go_simp⟩) ?_
              simp only [Act.put, List.setIfInBounds_toArray, List.set_cons_zero, List.set_cons_succ]
              refine takeH 6 110 (.int .i64 (P : Int)) hHeld rfl rfl (by kernel_rfl) (by kernel_rfl) (by kernel_rfl) (fun _ _ _ h => h) (Or.inl ⟨by rfl, fun w hw => by have hw' : w.cell? ⟨b5, 0, none⟩ = some (.int .i64 (P : Int)) := F5.out _ hw; go_simp⟩) ?_
              simp only [Act.put, List.setIfInBounds_toArray, List.set_cons_zero, List.set_cons_succ]
              refine takeH 7 111 (.int .i64 (j : Int)) hHeld rfl rfl (by kernel_rfl) (by kernel_rfl) (by kernel_rfl) (fun _ _ _ h => h) (Or.inl ⟨by rfl, fun w _ => by go_simp⟩) ?_
              simp only [Act.put, List.setIfInBounds_toArray, List.set_cons_zero, List.set_cons_succ]
              refine takeH 8 112 (.pointer (some ⟨ga, 2, none⟩)) hHeld rfl rfl (by kernel_rfl) (by kernel_rfl) (by kernel_rfl) (fun _ _ _ h => h) (Or.inl ⟨by rfl, fun w _ => by go_simp⟩) ?_
              simp only [Act.put, List.setIfInBounds_toArray, List.set_cons_zero, List.set_cons_succ]
              refine takeH 9 113 (.int .i64 (i : Int)) hHeld rfl rfl (by kernel_rfl) (by kernel_rfl) (by kernel_rfl) (fun _ _ _ h => h) (Or.inl ⟨by rfl, fun w hw => by have hw' : w.cell? ⟨ga, 2, none⟩ = some (.int .i64 (i : Int)) := A2.out _ hw; go_simp⟩) ?_
              simp only [Act.put, List.setIfInBounds_toArray, List.set_cons_zero, List.set_cons_succ]
              refine takeH 10 114 (.int .i64 (P : Int)) hHeld rfl rfl (by kernel_rfl) (by kernel_rfl) (by kernel_rfl) (fun _ _ _ h => h) (Or.inl ⟨by rfl, fun w hw => by have hw' : w.cell? ⟨b5, 0, none⟩ = some (.int .i64 (P : Int)) := F5.out _ hw; go_simp⟩) ?_
              simp only [Act.put, List.setIfInBounds_toArray, List.set_cons_zero, List.set_cons_succ]
              refine takeH 11 115 (.int .i64 (m : Int)) hHeld rfl rfl (by kernel_rfl) (by kernel_rfl) (by kernel_rfl) (fun _ _ _ h => h) (Or.inl ⟨by rfl, fun w _ => by go_simp⟩) ?_
              simp only [Act.put, List.setIfInBounds_toArray, List.set_cons_zero, List.set_cons_succ]
              refine takeH 12 116 (.int .i64 (wu : Int)) hHeld rfl rfl (by kernel_rfl) (by kernel_rfl) (by kernel_rfl) (fun _ _ _ h => h) (Or.inl ⟨by rfl, fun w _ => by go_simp⟩) ?_
              simp only [Act.put, List.setIfInBounds_toArray, List.set_cons_zero, List.set_cons_succ]
              refine takeH 13 117 (.agg (c4 (h : Int) ((l : Int) + 1) (j : Int) (wu : Int)).toArray) hHeld rfl rfl (by kernel_rfl) (by kernel_rfl) (by kernel_rfl) (fun _ _ _ h => h) (Or.inl ⟨by rfl, fun w _ => by go_simp; rfl⟩) ?_
              simp only [Act.put, List.setIfInBounds_toArray, List.set_cons_zero, List.set_cons_succ]
              refine wpAnyH_ready (rs := [14]) (by kernel_rfl) (by simp) (AllReadyH.cons rfl (fun K hK => ?_) AllReadyH.nil)
              rw [if_pos (by rfl)]
              refine wp_allocGT zT ?_
              intro vc gu hgn hln hbn
              have Y3 := hide (on_below Y0.out hbn)
              have GB := hide hgn
              have LE := hide (Nat.le_trans Y0.out.size hln)
              refine hK.out _ _ Y3.out (fun hHeld => ?_)
              clear hK K
              try simp only [Act.put, List.setIfInBounds_toArray, List.set_cons_zero, List.set_cons_succ]
              refine wpAnyH_ready (rs := [15]) (by kernel_rfl) (by simp) (AllReadyH.cons rfl (fun K hK => ?_) AllReadyH.nil)
              rw [if_pos (by rfl)]
              refine wp_storeGT wT rfl rfl GB.out rfl (One.c4 _ _ _ _) rfl ?_
              intro Wf hgz hbutz
              have YZ := hide (Y3.out.trans (hbutz.below LE.out))
              refine hK.out _ _ YZ.out (fun hHeld => ?_)
              clear hK K
              try simp only [Act.put, List.setIfInBounds_toArray, List.set_cons_zero, List.set_cons_succ]
              refine wpAnyH_done (by kernel_rfl) ?_ _
              refine Only.normal ?_
              have LVf := hide (LVe.out.on YZ.out)
              have GAf := hide (GAe.out.on YZ.out)
              have GEf := hide (GE.out.on YZ.out)
              have GUf := hide hgz
              have KMf := hide (KMe.out.trans (km_below MT.out (Nat.le_trans hsz SZe) YZ.out))
              have KOf := hide (KOe.out.trans (keepsO_below YZ.out))
              have SZf := Nat.le_trans SZe YZ.out.size
              clear LVe GAe GE KMe KOe SZe YZ Y0 Y3 GB LE hgz hbutz hgn hln hbn F2 F5 A1 A2 n2 n3 n4 n5 n6 n7 n8 n9 hHeld HM
              rw [show ((l + 1 : Nat) : Int) = (l : Int) + 1 from by simp] at HB2 HD2
              have d3 : Wf.cell? ⟨b3, 0, none⟩ = some (.slice a N cap) := by rw [LVf.out.c3.cell]; rfl
              gi_wp2_with (refine istep_loadA (.round rd) wT rfl rfl GUf.out rfl ?_)
              refine ⟨trivial, (calls_round (.round rd) (HB2.out _ LVf.out.bel)).mono ?_⟩
              rintro r Wg ⟨bs2, bc2, rfl, hsl2, hbg⟩
              have LVg := hide (LVf.out.on hbg)
              have GAg := hide (GAf.out.on hbg)
              have GEg := hide (GEf.out.on hbg)
              have GUg := hide (GUf.out.on hbg)
              have KMg := hide (KMf.out.trans (km_below MT.out (Nat.le_trans hsz SZf) hbg))
              have KOg := hide (KOf.out.trans (keepsO_below hbg))
              have SZg := Nat.le_trans SZf hbg.size
              have SL2 := hide hsl2
              clear LVf GAf GEf GUf KMf KOf SZf hbg hsl2 d3 HB2
              obtain ⟨t0, t1, t2, t3⟩ := Blk.four GUg.out
              obtain ⟨m0, m1, m2, m3⟩ := Blk.four GAg.out
              have d2 : Wg.cell? ⟨b2, 0, none⟩ = some (.int .i64 (h : Int)) := by rw [LVg.out.c2.cell]; rfl
              have e8 : ((l : Int) + 1) * (h : Int) = (M : Int) := by rw [← Q3.out, Int.natCast_mul, Int.mul_comm, Int.natCast_add]; rfl
              gi_wp2_with (refine istep_loadA (.round rd) wT rfl rfl GUg.out rfl ?_)
              refine ⟨trivial, (calls_round (.round rd) (HD2.out _ LVg.out.bel bs2 bc2 SL2.out)).mono ?_⟩
              rintro r Wh ⟨rfl, hbh⟩
              have LVh := hide (LVg.out.on hbh)
              have GEh := hide (GEg.out.on hbh)
              have KMh := hide (KMg.out.trans (km_below MT.out (Nat.le_trans hsz SZg) hbh))
              have KOh := hide (KOg.out.trans (keepsO_below hbh))
              have SZh := Nat.le_trans SZg hbh.size
              clear LVg GAg GEg GUg KMg KOg SZg hbh SL2 HD2 t0 t1 t2 t3 m0 m1 m2 m3 d2 e8
              gi_wp2_with (first | (refine istep_alloc (.round rd) zD rfl ?_; intro Wi gx hgx hlx hbx; have HGX := hide hgx; clear hgx) | (refine istep_storeA (.round rd) wD rfl rfl rfl HGX.out HRU.out (One.u8 _) rfl ?_))
              intro Wj hgj hbutj
              have hbj : Below Wh.heap.size Wh Wj := hbx.trans (hbutj.below hlx)
              have LVj := hide (LVh.out.on hbj)
              have GEj := hide (GEh.out.on hbj)
              have GXj := hide hgj
              have KMj := hide (KMh.out.trans (km_below MT.out (Nat.le_trans hsz SZh) hbj))
              have KOj := hide (KOh.out.trans (keepsO_below hbj))
              have SZj := Nat.le_trans SZh hbj.size
              clear LVh GEh KMh KOh SZh hbj hbx hbutj hlx HGX hgj
              gi_wp2_with (first | (refine istep_loadA (.round rd) wD rfl rfl GEj.out HRU.out ?_) | (refine istep_loadA (.round rd) wD rfl rfl GXj.out HRU.out ?_) | (refine istep_neD (.round rd) rfl rfl rfl HRU.out ?_))
              exact ⟨KOj.out.from _, KMj.out, LVj.out, Nat.le_trans hsz SZj⟩
          · have hlP : (wd : Int) < (P : Int) := by omega
            gi_wp2
            exact ⟨KO2.out.from _, KM2.out, LV2.out.pass (l, i) (by show (if tW h l i N = 2 ^ h then 1 else 0) = 0; rw [HWD.out, HP.out, if_neg hfull]), Nat.le_trans hsz SZ2⟩
        · have HNP : Hid (¬ pre ++ [(l, i)] <+: tAll h N) := hide (fun hq => by have := (pre_W HH.out hN48 hq).1; simp only at this; rw [HX.out, HCN.out] at this; exact hX this)
          have g4 : ((X : Int) == (cn : Int)) = false := by simp; omega
          gi_wp2_with fail
          refine wpIn_region_round (.round rd) (by kernel_rfl) (by kernel_rfl) (by kernel_rfl) ?_
          try simp only [Act.put]
          repeat (go_big_quiet_step (fail))
          refine wpQuiet_nil ?_
          rintro _ ⟨nq, rfl⟩
          gi_wp2
          exact ⟨((keepsO_below (hbd nq)).trans (KeepsOthers.setCell _ _ _)).from _, rfl, HNP.out⟩

end Go.Proofs.YtnlpgkfmjlljdabDoor

/-
  The walk of TileLevels: any height.
-/
namespace Go.Proofs.YtnlpgkfmjlljdabDoor
open Go.RowKit Go.Shelf
set_option linter.unusedVariables false

set_option maxRecDepth 100000 in
set_option maxHeartbeats 2000000 in
theorem tileLevels_walk (h : Int) (a : Option Addr) (N cap : Nat) (xs : List Int) (w : World) (hw : (Lit.int .i64 h).wf = true) (hs : Ds w a N cap xs) (hcp : cap ≤ 4398046510976) (hk : KT w) :
    Calls Tryd.prog 5 #[.int .i64 h, .slice a N cap] w fun e w' => e = .returned (.bool true) ∧ Below w.heap.size w w' := by
  by_cases hh : h < 1 ∨ 8 < h
  · clear hs hk hw hcp
    have hb := fun v1 v2 v3 t1 t2 t3 => (((Below.refl w.heap.size w).alloc (Nat.le_refl _) (.cells #[v1] t1)).alloc (by simp) (.cells #[v2] t2)).alloc (by simp; omega) (.cells #[v3] t3)
    rcases hh with hh | hh
    · go_enter Tryd.func5, Tryd.ntmps5
      go_wp2
      refine bodyPost_ret (v := .bool true) ?_ rfl ⟨rfl, hb _ _ _ _ _ _⟩
      simp [results, Tryd.f5, go_sem]
    · have h1 : ¬ h < 1 := by omega
      have h2 : h > 8 := hh
      go_enter Tryd.func5, Tryd.ntmps5
      go_wp2
      refine bodyPost_ret (v := .bool true) ?_ rfl ⟨rfl, hb _ _ _ _ _ _⟩
      simp [results, Tryd.f5, go_sem]
  · obtain ⟨H, rfl⟩ : ∃ H : Nat, h = (H : Int) := ⟨h.toNat, by omega⟩
    exact tileLevels_main H N cap a xs w ⟨by omega, by omega⟩ hs hk

end Go.Proofs.YtnlpgkfmjlljdabDoor
