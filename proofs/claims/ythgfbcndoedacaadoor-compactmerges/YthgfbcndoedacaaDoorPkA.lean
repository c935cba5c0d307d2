/-
  Texts one behind the other: Plain Rot Mc Me Ty.
-/
import Derived.WalkKit
import Derived.Laws.BitsAllLaws
import Derived.Test.YthgfbcndoedacaaDoorProg
import Derived.WalkSpells
import Derived.WalkLawsBesides
import Derived.Laws.CopyOwn
import Derived.Laws.AppendOwnNone
import Derived.Deep.MidRow
import Derived.Deep.OwnRows
import Derived.Deep.RegionLaw
import Derived.ChangeKeysEq
import Derived.Laws.BytesArg
import Derived.Deep.RegionHeld3
import Derived.Deep.QuietTactic
import Derived.BigQuiet

/-
  Plain facts on lists of bytes and numbers: the number that bytes stand for, the highest first, and how reading at a place answers. No program here.
-/
namespace Go.Proofs.YthgfbcndoedacaaDoor
open Go.RowKit

theorem hide {p : Prop} (h : p) : Hid p := h

/-- Each is a byte. -/
def isB (xs : List Int) : Prop := ∀ x ∈ xs, 0 ≤ x ∧ x ≤ 255

theorem isB.get {xs : List Int} (h : isB xs) (i : Nat) : 0 ≤ xs.getD i 0 ∧ xs.getD i 0 ≤ 255 := by
  by_cases hi : i < xs.length
  · have := h xs[i] (List.getElem_mem hi)
    simpa [List.getD, hi] using this
  · simp [List.getD, List.getElem?_eq_none (Nat.le_of_not_lt hi)]

theorem isB.take {xs : List Int} (h : isB xs) (n : Nat) : isB (xs.take n) := fun x hx => h x (List.mem_of_mem_take hx)
theorem isB.drop {xs : List Int} (h : isB xs) (n : Nat) : isB (xs.drop n) := fun x hx => h x (List.mem_of_mem_drop hx)
theorem isB.append {xs ys : List Int} (h : isB xs) (k : isB ys) : isB (xs ++ ys) := fun x hx => by
  rcases List.mem_append.1 hx with hx | hx
  · exact h x hx
  · exact k x hx

/-- The number whose bytes, the highest first, are these. -/
def beVal (l : List Int) : Int := l.foldl (fun v x => v * 256 + x) 0

theorem beVal_snoc (l : List Int) (x : Int) : beVal (l ++ [x]) = beVal l * 256 + x := by simp [beVal]

theorem beVal_bd (l : List Int) (h : isB l) : 0 ≤ beVal l ∧ beVal l < 256 ^ l.length := by
  have key : ∀ (n : Nat) (l : List Int), l.length = n → isB l → 0 ≤ beVal l ∧ beVal l < 256 ^ n := by
    intro n
    induction n with
    | zero => intro l hl _; have : l = [] := List.eq_nil_of_length_eq_zero hl; subst this; simp [beVal]
    | succ n ih =>
      intro l hl hb
      have hne : l ≠ [] := by intro e; subst e; simp at hl
      have e : l.dropLast ++ [l.getLast hne] = l := List.dropLast_concat_getLast hne
      have h1 := ih l.dropLast (by simp; omega) (fun x hx => hb x ((List.dropLast_sublist l).subset hx))
      have h2 := hb (l.getLast hne) (List.getLast_mem hne)
      rw [← e, beVal_snoc, Int.pow_succ]
      omega
  exact key l.length l rfl h

theorem take_drop_succ (xs : List Int) (p k : Nat) (h : p + k < xs.length) : (xs.drop p).take (k + 1) = (xs.drop p).take k ++ [xs.getD (p + k) 0] := by
  rw [List.take_succ_eq_append_getElem (by simp; omega)]
  simp [List.getD, h]

theorem beVal_step (xs : List Int) (p k : Nat) (h : p + k < xs.length) : beVal ((xs.drop p).take (k + 1)) = beVal ((xs.drop p).take k) * 256 + xs.getD (p + k) 0 := by
  rw [take_drop_succ xs p k h, beVal_snoc]

theorem pow256_le (k : Nat) (h : k ≤ 7) : (256 : Int) ^ k ≤ 72057594037927936 := by
  match k, h with
  | 0, _ => decide
  | 1, _ => decide
  | 2, _ => decide
  | 3, _ => decide
  | 4, _ => decide
  | 5, _ => decide
  | 6, _ => decide
  | 7, _ => decide

theorem beVal_take_bd (xs : List Int) (hb : isB xs) (p k : Nat) (h : p + k ≤ xs.length) (hk : k ≤ 7) : 0 ≤ beVal ((xs.drop p).take k) ∧ beVal ((xs.drop p).take k) < 72057594037927936 := by
  have h1 := beVal_bd _ ((hb.drop p).take k)
  have hl : ((xs.drop p).take k).length = k := by simp; omega
  rw [hl] at h1
  have := pow256_le k hk
  omega

theorem or_step (v x : Int) (h0 : 0 ≤ v) (h1 : v < 72057594037927936) (h2 : 0 ≤ x) (h3 : x ≤ 255) :
    bits BinOp.or IntKind.u64 (IntKind.u64.wrap (v * 256)) (IntKind.u64.wrap x) = v * 256 + x := by
  rw [IntKind.wrap_u64, IntKind.wrap_u64, Int.emod_eq_of_lt (by omega) (by omega), Int.emod_eq_of_lt (by omega) (by omega), u64_or _ _ (by omega) (by omega) (by omega) (by omega)]
  rw [nat_join 8 _ _ (by omega) (by omega)]
  omega

/-- What reading n bytes at a place of bytes of this length answers: the error's number. -/
def rdE (len : Nat) (p : Int) (n : Nat) : Int := if p < 0 ∨ (len : Int) < p then 2 else if (len : Int) - p < n then 10 else 0
/-- The number that is read. -/
def rdV (xs : List Int) (p : Int) (n : Nat) : Int := if 0 ≤ p ∧ p + n ≤ xs.length then beVal ((xs.drop p.toNat).take n) else 0
/-- The place behind it. -/
def rdN (len : Nat) (p : Int) (n : Nat) : Int := if 0 ≤ p ∧ p + n ≤ len then p + n else 0

theorem rdV_bd (xs : List Int) (hb : isB xs) (p : Int) (n : Nat) : 0 ≤ rdV xs p n ∧ rdV xs p n < 256 ^ n := by
  unfold rdV
  split
  · rename_i h
    have h1 := beVal_bd _ ((hb.drop p.toNat).take n)
    have hl : ((xs.drop p.toNat).take n).length = n := by simp; omega
    rwa [hl] at h1
  · exact ⟨Int.le_refl _, Int.pow_pos (by decide)⟩

end Go.Proofs.YthgfbcndoedacaaDoor

/-
  The small functions on words: turning, mixing.
-/
namespace Go.Proofs.YthgfbcndoedacaaDoor
open Go.RowKit
set_option linter.unusedVariables false

/-- x turned right by k bits. -/
def ror (x : Int) (k : Nat) : Int := bits .or .u32 (x / 2 ^ k) (IntKind.u32.wrap (x * 2 ^ (32 - k)))
def xr (a b : Int) : Int := bits .xor .u32 a b
def an (a b : Int) : Int := bits .and .u32 a b
def sg (x : Int) (i j k : Nat) : Int := xr (xr (ror x i) (ror x j)) (ror x k)
def s0 (x : Int) : Int := xr (xr (ror x 7) (ror x 18)) (x / 8)
def s1 (x : Int) : Int := xr (xr (ror x 17) (ror x 19)) (x / 1024)

theorem or_comm32 (a b : Int) : bits .or .u32 a b = bits .or .u32 b a := by
  simp [bits, BitVec.or_comm]

theorem ror_2 (x : Int) : ror x 2 = bits .or .u32 (x / 4) (IntKind.u32.wrap (x * 1073741824)) := rfl
set_option maxHeartbeats 400000 in
theorem rotl2_any (x : Int) (w : World) :
    Calls Tryd.prog 90 #[.int .u32 x, .int .i64 (-2)] w fun e w' => e = .returned (.int .u32 (ror x 2)) ∧ w = w' := by
  rw [ror_2, or_comm32]
  have hb : bits BinOp.and IntKind.u64 (IntKind.u64.wrap (-2)) 31 = 30 := by decide
  go_enter Tryd.func90, Tryd.ntmps90
  go_wp2
  go_ret
  exact ⟨rfl, rfl⟩

theorem ror_6 (x : Int) : ror x 6 = bits .or .u32 (x / 64) (IntKind.u32.wrap (x * 67108864)) := rfl
set_option maxHeartbeats 400000 in
theorem rotl6_any (x : Int) (w : World) :
    Calls Tryd.prog 90 #[.int .u32 x, .int .i64 (-6)] w fun e w' => e = .returned (.int .u32 (ror x 6)) ∧ w = w' := by
  rw [ror_6, or_comm32]
  have hb : bits BinOp.and IntKind.u64 (IntKind.u64.wrap (-6)) 31 = 26 := by decide
  go_enter Tryd.func90, Tryd.ntmps90
  go_wp2
  go_ret
  exact ⟨rfl, rfl⟩

theorem ror_7 (x : Int) : ror x 7 = bits .or .u32 (x / 128) (IntKind.u32.wrap (x * 33554432)) := rfl
set_option maxHeartbeats 400000 in
theorem rotl7_any (x : Int) (w : World) :
    Calls Tryd.prog 90 #[.int .u32 x, .int .i64 (-7)] w fun e w' => e = .returned (.int .u32 (ror x 7)) ∧ w = w' := by
  rw [ror_7, or_comm32]
  have hb : bits BinOp.and IntKind.u64 (IntKind.u64.wrap (-7)) 31 = 25 := by decide
  go_enter Tryd.func90, Tryd.ntmps90
  go_wp2
  go_ret
  exact ⟨rfl, rfl⟩

theorem ror_11 (x : Int) : ror x 11 = bits .or .u32 (x / 2048) (IntKind.u32.wrap (x * 2097152)) := rfl
set_option maxHeartbeats 400000 in
theorem rotl11_any (x : Int) (w : World) :
    Calls Tryd.prog 90 #[.int .u32 x, .int .i64 (-11)] w fun e w' => e = .returned (.int .u32 (ror x 11)) ∧ w = w' := by
  rw [ror_11, or_comm32]
  have hb : bits BinOp.and IntKind.u64 (IntKind.u64.wrap (-11)) 31 = 21 := by decide
  go_enter Tryd.func90, Tryd.ntmps90
  go_wp2
  go_ret
  exact ⟨rfl, rfl⟩

theorem ror_13 (x : Int) : ror x 13 = bits .or .u32 (x / 8192) (IntKind.u32.wrap (x * 524288)) := rfl
set_option maxHeartbeats 400000 in
theorem rotl13_any (x : Int) (w : World) :
    Calls Tryd.prog 90 #[.int .u32 x, .int .i64 (-13)] w fun e w' => e = .returned (.int .u32 (ror x 13)) ∧ w = w' := by
  rw [ror_13, or_comm32]
  have hb : bits BinOp.and IntKind.u64 (IntKind.u64.wrap (-13)) 31 = 19 := by decide
  go_enter Tryd.func90, Tryd.ntmps90
  go_wp2
  go_ret
  exact ⟨rfl, rfl⟩

theorem ror_17 (x : Int) : ror x 17 = bits .or .u32 (x / 131072) (IntKind.u32.wrap (x * 32768)) := rfl
set_option maxHeartbeats 400000 in
theorem rotl17_any (x : Int) (w : World) :
    Calls Tryd.prog 90 #[.int .u32 x, .int .i64 (-17)] w fun e w' => e = .returned (.int .u32 (ror x 17)) ∧ w = w' := by
  rw [ror_17, or_comm32]
  have hb : bits BinOp.and IntKind.u64 (IntKind.u64.wrap (-17)) 31 = 15 := by decide
  go_enter Tryd.func90, Tryd.ntmps90
  go_wp2
  go_ret
  exact ⟨rfl, rfl⟩

theorem ror_18 (x : Int) : ror x 18 = bits .or .u32 (x / 262144) (IntKind.u32.wrap (x * 16384)) := rfl
set_option maxHeartbeats 400000 in
theorem rotl18_any (x : Int) (w : World) :
    Calls Tryd.prog 90 #[.int .u32 x, .int .i64 (-18)] w fun e w' => e = .returned (.int .u32 (ror x 18)) ∧ w = w' := by
  rw [ror_18, or_comm32]
  have hb : bits BinOp.and IntKind.u64 (IntKind.u64.wrap (-18)) 31 = 14 := by decide
  go_enter Tryd.func90, Tryd.ntmps90
  go_wp2
  go_ret
  exact ⟨rfl, rfl⟩

theorem ror_19 (x : Int) : ror x 19 = bits .or .u32 (x / 524288) (IntKind.u32.wrap (x * 8192)) := rfl
set_option maxHeartbeats 400000 in
theorem rotl19_any (x : Int) (w : World) :
    Calls Tryd.prog 90 #[.int .u32 x, .int .i64 (-19)] w fun e w' => e = .returned (.int .u32 (ror x 19)) ∧ w = w' := by
  rw [ror_19, or_comm32]
  have hb : bits BinOp.and IntKind.u64 (IntKind.u64.wrap (-19)) 31 = 13 := by decide
  go_enter Tryd.func90, Tryd.ntmps90
  go_wp2
  go_ret
  exact ⟨rfl, rfl⟩

theorem ror_22 (x : Int) : ror x 22 = bits .or .u32 (x / 4194304) (IntKind.u32.wrap (x * 1024)) := rfl
set_option maxHeartbeats 400000 in
theorem rotl22_any (x : Int) (w : World) :
    Calls Tryd.prog 90 #[.int .u32 x, .int .i64 (-22)] w fun e w' => e = .returned (.int .u32 (ror x 22)) ∧ w = w' := by
  rw [ror_22, or_comm32]
  have hb : bits BinOp.and IntKind.u64 (IntKind.u64.wrap (-22)) 31 = 10 := by decide
  go_enter Tryd.func90, Tryd.ntmps90
  go_wp2
  go_ret
  exact ⟨rfl, rfl⟩

theorem ror_25 (x : Int) : ror x 25 = bits .or .u32 (x / 33554432) (IntKind.u32.wrap (x * 128)) := rfl
set_option maxHeartbeats 400000 in
theorem rotl25_any (x : Int) (w : World) :
    Calls Tryd.prog 90 #[.int .u32 x, .int .i64 (-25)] w fun e w' => e = .returned (.int .u32 (ror x 25)) ∧ w = w' := by
  rw [ror_25, or_comm32]
  have hb : bits BinOp.and IntKind.u64 (IntKind.u64.wrap (-25)) 31 = 7 := by decide
  go_enter Tryd.func90, Tryd.ntmps90
  go_wp2
  go_ret
  exact ⟨rfl, rfl⟩

def turns : List Int := [2, 6, 7, 11, 13, 17, 18, 19, 22, 25]
theorem rotl_any (x v : Int) (h : turns.elem (-v) = true) (w : World) : Calls Tryd.prog 90 #[.int .u32 x, .int .i64 v] w fun e w' => e = .returned (.int .u32 (ror x (-v).toNat)) ∧ w = w' := by
  obtain ⟨u, rfl⟩ : ∃ u, v = -u := ⟨-v, by omega⟩
  rw [Int.neg_neg] at h ⊢
  simp only [turns, List.elem_eq_mem, List.mem_cons, List.not_mem_nil, or_false, decide_eq_true_eq] at h
  rcases h with rfl | rfl | rfl | rfl | rfl | rfl | rfl | rfl | rfl | rfl
  · exact rotl2_any x w
  · exact rotl6_any x w
  · exact rotl7_any x w
  · exact rotl11_any x w
  · exact rotl13_any x w
  · exact rotl17_any x w
  · exact rotl18_any x w
  · exact rotl19_any x w
  · exact rotl22_any x w
  · exact rotl25_any x w

set_option maxHeartbeats 400000 in
theorem late_any (x : Int) (w : World) : Calls Tryd.prog 88 #[.int .u32 x] w fun e w' => e = .returned (.int .u32 (s1 x)) ∧ w = w' := by
  go_enter Tryd.func88, Tryd.ntmps88
  go_wp2_with (go_at_call 90; refine (rotl_any _ _ (by decide) _).mono ?_; rintro e w' ⟨rfl, rfl⟩)
  go_ret
  exact ⟨rfl, rfl⟩

set_option maxHeartbeats 400000 in
theorem early_any (x : Int) (w : World) : Calls Tryd.prog 89 #[.int .u32 x] w fun e w' => e = .returned (.int .u32 (s0 x)) ∧ w = w' := by
  go_enter Tryd.func89, Tryd.ntmps89
  go_wp2_with (go_at_call 90; refine (rotl_any _ _ (by decide) _).mono ?_; rintro e w' ⟨rfl, rfl⟩)
  go_ret
  exact ⟨rfl, rfl⟩

set_option maxHeartbeats 400000 in
theorem turned1_any (x : Int) (w : World) : Calls Tryd.prog 82 #[.int .u32 x, .int .i64 6, .int .i64 11, .int .i64 25] w fun e w' => e = .returned (.int .u32 (sg x 6 11 25)) ∧ w = w' := by
  go_enter Tryd.func82, Tryd.ntmps82
  go_wp2_with (go_at_call 90; refine (rotl_any _ _ (by decide) _).mono ?_; rintro e w' ⟨rfl, rfl⟩)
  go_ret
  exact ⟨rfl, rfl⟩

set_option maxHeartbeats 400000 in
theorem turned0_any (x : Int) (w : World) : Calls Tryd.prog 82 #[.int .u32 x, .int .i64 2, .int .i64 13, .int .i64 22] w fun e w' => e = .returned (.int .u32 (sg x 2 13 22)) ∧ w = w' := by
  go_enter Tryd.func82, Tryd.ntmps82
  go_wp2_with (go_at_call 90; refine (rotl_any _ _ (by decide) _).mono ?_; rintro e w' ⟨rfl, rfl⟩)
  go_ret
  exact ⟨rfl, rfl⟩

end Go.Proofs.YthgfbcndoedacaaDoor

/-
  Laws on blocks of cells, and on arrays of numbers, as the walks meet them: made, boxed, loaded, stored, compared. No slice of the program's here.
-/
namespace Go.Proofs.YthgfbcndoedacaaDoor
open Go.RowKit
set_option linter.unusedVariables false

def u8s (xs : List Int) : List Value := xs.map (Value.int .u8)
def u32s (xs : List Int) : List Value := xs.map (Value.int .u32)
theorem u8s_length (xs : List Int) : (u8s xs).length = xs.length := by simp [u8s]
theorem u32s_length (xs : List Int) : (u32s xs).length = xs.length := by simp [u32s]
theorem u8s_get (xs : List Int) (i : Nat) (h : i < xs.length) : (u8s xs)[i]? = some (.int .u8 (xs.getD i 0)) := by simp [u8s, List.getD, h]
theorem u32s_get (xs : List Int) (i : Nat) (h : i < xs.length) : (u32s xs)[i]? = some (.int .u32 (xs.getD i 0)) := by simp [u32s, List.getD, h]
theorem u8s_set (xs : List Int) (i : Nat) (x : Int) : (u8s xs).set i (.int .u8 x) = u8s (xs.set i x) := by simp [u8s, List.map_set]
theorem u32s_set (xs : List Int) (i : Nat) (x : Int) : (u32s xs).set i (.int .u32 x) = u32s (xs.set i x) := by simp [u32s, List.map_set]
theorem u8s_app (xs ys : List Int) : u8s (xs ++ ys) = u8s xs ++ u8s ys := by simp [u8s]
def zer (n : Nat) : List Int := List.replicate n 0
theorem zer_length (n : Nat) : (zer n).length = n := by simp [zer]
theorem zer_isB (n : Nat) : isB (zer n) := by intro x hx; simp [zer] at hx; omega

/-- Every value takes one cell. -/
def One (cs : List Value) : Prop := ∀ v ∈ cs, v.oneCell' = true
theorem One.u8 (xs : List Int) : One (u8s xs) := ints_oneCell _ _
theorem One.u32 (xs : List Int) : One (u32s xs) := ints_oneCell _ _
theorem One.app {a b : List Value} (h : One a) (k : One b) : One (a ++ b) := fun v hv => by
  rcases List.mem_append.1 hv with hv | hv
  · exact h v hv
  · exact k v hv
theorem One.all {cs : List Value} (h : One cs) : cs.toArray.all (·.oneCell') = true := all_oneCell_toArray h

/-- Block g holds these cells, and may be written. -/
def Blk (w : World) (g : Nat) (t : TypeId) (cs : List Value) : Prop := w.heap[g]? = some (.cells cs.toArray t (0, 0))

/-- Another world in which only block g has turned. -/
structure But (g : Nat) (w w' : World) : Prop where
  os : w'.os = w.os
  tape : w'.tape = w.tape
  output : w'.output = w.output
  size : w'.heap.size = w.heap.size
  block : ∀ k, k ≠ g → w'.heap[k]? = w.heap[k]?
theorem But.refl (g : Nat) (w : World) : But g w w := ⟨rfl, rfl, rfl, rfl, fun _ _ => rfl⟩
theorem But.trans {g : Nat} {a b c : World} (h : But g a b) (k : But g b c) : But g a c :=
  ⟨k.os.trans h.os, k.tape.trans h.tape, k.output.trans h.output, k.size.trans h.size, fun i hi => (k.block i hi).trans (h.block i hi)⟩
theorem But.setCell (w : World) (g i : Nat) (v : Value) : But g w (w.setCell ⟨g, i, none⟩ v) :=
  ⟨rfl, rfl, rfl, by simp [World.setCell], fun k hk => heap_setCell_other w ⟨g, i, none⟩ k v hk⟩
theorem But.setRow (w : World) (g : Nat) (cs : Array Value) : But g w (w.setRow g cs) :=
  ⟨rfl, rfl, rfl, by simp, fun k hk => setRow_other w g k cs hk⟩
theorem But.setCells (g : Nat) : ∀ (vs : List Value) (o : Nat) (w : World), But g w (w.setCells g o vs)
  | [], _, w => But.refl g w
  | v :: r, o, w => (But.setCell w g o v).trans (But.setCells g r (o + 1) _)
theorem But.below {g B : Nat} {w w' : World} (h : But g w w') (hB : B ≤ g) : Below B w w' :=
  ⟨h.os, h.tape, h.output, Nat.le_of_eq h.size.symm, fun k hk => h.block k (by omega)⟩

section
variable {w w' : World} {g : Nat} {t : TypeId} {cs : List Value}
theorem Blk.lt (h : Blk w g t cs) : g < w.heap.size := by
  by_cases hlt : g < w.heap.size
  · exact hlt
  · have hn : w.heap[g]? = none := by simp; omega
    simp [Blk, hn] at h
theorem Blk.cell (h : Blk w g t cs) (i : Nat) : w.cell? ⟨g, i, none⟩ = cs[i]? := by
  rw [cell_of_row w g i _ t _ h]; simp
theorem Blk.free (h : Blk w g t cs) (i : Nat) : w.frozen? ⟨g, i, none⟩ = false := frozen_of_row w g i _ t h
theorem Blk.below {B : Nat} (h : Blk w g t cs) (hb : Below B w w') (hg : g < B) : Blk w' g t cs := by
  unfold Blk; rw [hb.block g hg]; exact h
theorem Blk.but {k : Nat} (h : Blk w g t cs) (hb : But k w w') (hg : g ≠ k) : Blk w' g t cs := by
  unfold Blk; rw [hb.block g hg]; exact h
theorem Blk.set (h : Blk w g t cs) (i : Nat) (v : Value) : Blk (w.setCell ⟨g, i, none⟩ v) g t (cs.set i v) := by
  unfold Blk; rw [heap_setCell_same w g i _ t _ h]; simp
theorem Blk.setRow (h : Blk w g t cs) (ds : List Value) : Blk (w.setRow g ds.toArray) g t ds := setRow_heap w g _ _ t _ h
theorem Blk.made (w : World) (t : TypeId) (cs : List Value) : Blk (w.alloc (.cells cs.toArray t)) w.heap.size t cs := heap_alloc_new w _
theorem Blk.range (h : Blk w g t cs) (o : Nat) (vs : List Value) (e : (cs.drop o).take vs.length = vs) : w.rangeAt g o vs := fun j v hv => by
  rw [h.cell, ← hv]
  have hj : j < vs.length := (List.getElem?_eq_some_iff.1 hv).1
  have : vs[j]? = ((cs.drop o).take vs.length)[j]? := by rw [e]
  rw [this, List.getElem?_take, if_pos hj, List.getElem?_drop]
theorem Blk.there (h : Blk w g t cs) (o n : Nat) (hn : o + n ≤ cs.length) : w.there g o n := fun j hj => by
  refine ⟨?_, h.free _⟩
  rw [h.cell, List.getElem?_eq_getElem (by omega)]; rfl
/-- Cells with others written over them from a place on. -/
def spl (cs vs : List Value) (o : Nat) : List Value := cs.take o ++ vs ++ cs.drop (o + vs.length)
theorem spl_cons (cs : List Value) (v : Value) (r : List Value) (o : Nat) (h : o + (r.length + 1) ≤ cs.length) : spl (cs.set o v) r (o + 1) = spl cs (v :: r) o := by
  have ho : o < cs.length := by omega
  have e1 : (cs.set o v).take (o + 1) = cs.take o ++ [v] := by
    rw [List.take_succ_eq_append_getElem (by simpa using ho), List.take_set_of_le (Nat.le_refl o)]
    simp
  have e2 : (cs.set o v).drop (o + 1 + r.length) = cs.drop (o + (r.length + 1)) := by
    rw [List.drop_set_of_lt (by omega)]
    congr 1; omega
  unfold spl
  rw [e1, e2]
  simp
theorem Blk.setCells {g : Nat} {t : TypeId} : ∀ (vs : List Value) (o : Nat) {w : World} {cs : List Value}, Blk w g t cs → o + vs.length ≤ cs.length → Blk (w.setCells g o vs) g t (spl cs vs o)
  | [], o, w, cs, h, _ => by simpa [spl, World.setCells] using h
  | v :: r, o, w, cs, h, hl => by
    rw [List.length_cons] at hl
    rw [← spl_cons cs v r o hl]
    exact Blk.setCells r (o + 1) (h.set o v) (by simp; omega)
end

/-- A slice of bytes in memory: its bytes are xs. -/
structure Sl (w : World) (a : Option Addr) (len cap : Nat) (xs : List Int) : Prop where
  hlen : xs.length = len
  hcap : len ≤ cap
  hmax : cap ≤ 9223372036854775807
  hreach : len ≤ 140737488355328
  hbyte : isB xs
  hnil : a = none → len = 0 ∧ cap = 0
  hcell : 0 < len → ∃ b off, a = some ⟨b, off, none⟩ ∧ ∀ i, i < len → w.cell? ⟨b, off + i, none⟩ = some (.int .u8 (xs.getD i 0))

theorem Sl.below {w w' : World} {a : Option Addr} {len cap : Nat} {xs : List Int} (h : Sl w a len cap xs) (hb : Below w.heap.size w w') : Sl w' a len cap xs := by
  obtain ⟨h1, h2, h3, h4, h5, h6, h7⟩ := h
  refine ⟨h1, h2, h3, h4, h5, h6, fun h => ?_⟩
  obtain ⟨b, off, e, hc⟩ := h7 h
  refine ⟨b, off, e, fun i hi => ?_⟩
  have := hc i hi
  rw [hb.cell (World.block_lt_of_cell? w _ this)]
  exact this

/-- A slice whose cells lie in no block g. -/
def Apart (g : Nat) (a : Option Addr) : Prop := ∀ x, a = some x → x.block ≠ g
theorem Sl.but {g : Nat} {w w' : World} {a : Option Addr} {len cap : Nat} {xs : List Int} (h : Sl w a len cap xs) (hb : But g w w') (hk : 0 < len → Apart g a) : Sl w' a len cap xs := by
  obtain ⟨h1, h2, h3, h4, h5, h6, h7⟩ := h
  refine ⟨h1, h2, h3, h4, h5, h6, fun h => ?_⟩
  obtain ⟨b, off, e, hc⟩ := h7 h
  refine ⟨b, off, e, fun i hi => ?_⟩
  rw [World.cell?_of_block (w := w) (hb.block b (hk h ⟨b, off, none⟩ e))]
  exact hc i hi
theorem Sl.lt {w : World} {a : Option Addr} {len cap : Nat} {xs : List Int} (h : Sl w a len cap xs) (h0 : 0 < len) : ∀ x, a = some x → x.block < w.heap.size := by
  intro x hx
  obtain ⟨b, off, e, hc⟩ := h.hcell h0
  have := World.block_lt_of_cell? w _ (hc 0 h0)
  rw [e] at hx
  cases hx
  exact this
theorem Sl.apart {w : World} {a : Option Addr} {len cap g : Nat} {xs : List Int} (h : Sl w a len cap xs) (hg : w.heap.size ≤ g) : 0 < len → Apart g a := fun h0 x hx => by
  have := h.lt h0 x hx
  omega
/-- Bytes in the midst of a block, as a slice. -/
theorem Blk.sl {w : World} {g : Nat} {t : TypeId} {cs : List Value} (h : Blk w g t cs) (off cap : Nat) (xs : List Int) (e : (cs.drop off).take xs.length = u8s xs) (hb : isB xs) (hl : xs.length ≤ 140737488355328) (hc : xs.length ≤ cap) (hm : cap ≤ 9223372036854775807) :
    Sl w (some ⟨g, off, none⟩) xs.length cap xs :=
  ⟨rfl, hc, hm, hl, hb, (fun h => by cases h), fun _ => ⟨g, off, rfl, fun i hi => by
    have := h.range off (u8s xs) (by rw [u8s_length]; exact e) i _ (u8s_get xs i hi)
    exact this⟩⟩
/-- A part of a slice. -/
theorem Sl.drop {w : World} {b o len cap : Nat} {xs : List Int} (h : Sl w (some ⟨b, o, none⟩) len cap xs) (k : Nat) (hk : k ≤ len) : Sl w (some ⟨b, o + k, none⟩) (len - k) (cap - k) (xs.drop k) := by
  obtain ⟨h1, h2, h3, h4, h5, h6, h7⟩ := h
  refine ⟨by simp [h1], by omega, by omega, by omega, h5.drop k, (fun e => by cases e), fun h0 => ?_⟩
  obtain ⟨b', o', e, hc⟩ := h7 (by omega)
  cases e
  refine ⟨b, o + k, rfl, fun i hi => ?_⟩
  rw [show o + k + i = o + (k + i) by omega, hc (k + i) (by omega)]
  simp [List.getD, List.getElem?_drop]
theorem Sl.take {w : World} {a : Option Addr} {len cap : Nat} {xs : List Int} (h : Sl w a len cap xs) (k : Nat) (hk : k ≤ len) : Sl w a k cap (xs.take k) := by
  obtain ⟨h1, h2, h3, h4, h5, h6, h7⟩ := h
  refine ⟨by simp; omega, by omega, h3, by omega, h5.take k, fun e => by have := h6 e; omega, fun h0 => ?_⟩
  obtain ⟨b', o', e, hc⟩ := h7 (by omega)
  refine ⟨b', o', e, fun i hi => ?_⟩
  rw [hc i (by omega)]
  simp [List.getD, hi]

/-- An operation whose run is known. -/
theorem step_run {P : Program} {ops : Array Oper} {rest : List Oper} {o : Oper} {a : Act} {w : World} {Q : Exit → Act → World → Prop} (hw : Region.wanted o (yielded ops a.tmps) = true)
    (v : Value) (w' : World) (hrun : (execOp a.eval o).run P w = .ok (.value v) w') (h : wpList P ops Q rest (a.put o.dst v) w') : wpList P ops Q (o :: rest) a w := by
  refine BigFrame.wpList_want hw fun K hK => ?_
  unfold Oper.wp
  rw [hrun, Oper.upon_value]
  exact hK _ _ h

/-- The zero value of a type, in new memory. -/
def Zeroed (T : TypeId) (cs : List Value) : Prop := ∀ (ev : Operand → Value) (dst : Option Tmp) (ty : TypeId) (pos : String) (aft : Array Edge) (gd : Option (Nat × Bool)) (w : World),
  (execOp ev ⟨dst, .alloc T, ty, pos, aft, gd⟩).run Tryd.prog w = .ok (.value (.pointer (some ⟨w.heap.size, 0, none⟩))) (w.alloc (.cells cs.toArray T))

section
variable {dst : Option Tmp} {ty : TypeId} {pos : String} {aft : Array Edge} {gd : Option (Nat × Bool)} {ops : Array Oper} {rest : List Oper} {a : Act} {w : World} {Q : Exit → Act → World → Prop}

theorem step_alloc {T : TypeId} {cs : List Value} (hz : Zeroed T cs) (hw : Region.wanted ⟨dst, .alloc T, ty, pos, aft, gd⟩ (yielded ops a.tmps) = true)
    (h : ∀ w1 g, Blk w1 g T cs → w.heap.size ≤ g → Below w.heap.size w w1 → wpList Tryd.prog ops Q rest (a.put dst (.pointer (some ⟨g, 0, none⟩))) w1) :
    wpList Tryd.prog ops Q (⟨dst, .alloc T, ty, pos, aft, gd⟩ :: rest) a w :=
  step_run hw _ _ (hz a.eval dst ty pos aft gd w) (h _ _ (Blk.made _ _ _) (Nat.le_refl _) ((Below.refl _ _).alloc (Nat.le_refl _) _))

/-- A value of many cells that came by value gets a place of its own. -/
theorem step_box {T : TypeId} {x : Operand} {cs : List Value} (hw : Region.wanted ⟨dst, .box T x, ty, pos, aft, gd⟩ (yielded ops a.tmps) = true) (hx : a.eval x = .agg cs.toArray)
    (h : ∀ w1 g, Blk w1 g T cs → w.heap.size ≤ g → Below w.heap.size w w1 → wpList Tryd.prog ops Q rest (a.put dst (.pointer (some ⟨g, 0, none⟩))) w1) :
    wpList Tryd.prog ops Q (⟨dst, .box T x, ty, pos, aft, gd⟩ :: rest) a w :=
  step_run hw (.pointer (some ⟨w.heap.size, 0, none⟩)) (w.alloc (.cells cs.toArray T))
    (by simp [execOp, hx, Instr.box, newVar, newRow, Result.andThen, Value.cells]) (h _ _ (Blk.made _ _ _) (Nat.le_refl _) ((Below.refl _ _).alloc (Nat.le_refl _) _))

/-- What is known of a type of many cells. -/
structure Wide (T : TypeId) (n : Nat) : Prop where
  row : (Tryd.prog.underlying T).map TypeDesc.isRow = some true
  size : (Tryd.prog.info? T).map (·.size) = some n
theorem Wide.und {T : TypeId} {n : Nat} (h : Wide T n) : ∃ d, Tryd.prog.underlying T = some d ∧ d.isRow = true := by
  have h1 := h.row
  cases hd : Tryd.prog.underlying T with
  | none => simp [hd] at h1
  | some d => exact ⟨d, rfl, by simpa [hd] using h1⟩

theorem wp_loadW {o : Oper} {K : Act → World → Prop} {T : TypeId} {n : Nat} (hT : Wide T n) {x : Operand} (ho : o.op = .load T x) {g off : Nat} {t : TypeId} {cs : List Value} (hx : a.eval x = .pointer (some ⟨g, off, none⟩)) (hg : Blk w g t cs)
    (vs : List Value) (hn : vs.length = n) (he : (cs.drop off).take n = vs) (h : K (a.put o.dst (.agg vs.toArray)) w) : Oper.wp Tryd.prog o a w K Q := by
  subst hn
  obtain ⟨d, hu, hd⟩ := hT.und
  exact wp_load_mid T x ho g off hx vs d (hg.range off vs he) hu hd hT.size h

theorem step_load {T : TypeId} {n : Nat} (hT : Wide T n) {x : Operand} (hw : Region.wanted ⟨dst, .load T x, ty, pos, aft, gd⟩ (yielded ops a.tmps) = true) {g off : Nat} {t : TypeId} {cs : List Value} (hx : a.eval x = .pointer (some ⟨g, off, none⟩)) (hg : Blk w g t cs)
    (vs : List Value) (hn : vs.length = n) (he : (cs.drop off).take n = vs) (h : wpList Tryd.prog ops Q rest (a.put dst (.agg vs.toArray)) w) :
    wpList Tryd.prog ops Q (⟨dst, .load T x, ty, pos, aft, gd⟩ :: rest) a w :=
  BigFrame.wpList_want hw fun _ hK => wp_loadW hT rfl hx hg vs hn he (hK _ _ h)

/-- The whole of a block is loaded. -/
theorem step_loadA {T : TypeId} {n : Nat} (hT : Wide T n) {x : Operand} (hw : Region.wanted ⟨dst, .load T x, ty, pos, aft, gd⟩ (yielded ops a.tmps) = true) {g : Nat} {t : TypeId} {cs : List Value} (hx : a.eval x = .pointer (some ⟨g, 0, none⟩)) (hg : Blk w g t cs)
    (hn : cs.length = n) (h : wpList Tryd.prog ops Q rest (a.put dst (.agg cs.toArray)) w) :
    wpList Tryd.prog ops Q (⟨dst, .load T x, ty, pos, aft, gd⟩ :: rest) a w :=
  step_load hT hw hx hg cs hn (by rw [List.drop_zero, List.take_of_length_le (by omega)]) h

theorem wp_storeW {o : Oper} {K : Act → World → Prop} {T : TypeId} {n : Nat} (hT : Wide T n) {x y : Operand} (ho : o.op = .store T x y) {g off : Nat} {t : TypeId} {cs vs : List Value} (hx : a.eval x = .pointer (some ⟨g, off, none⟩)) (hy : a.eval y = .agg vs.toArray) (hg : Blk w g t cs)
    (hn : vs.length = n) (h1 : One vs) (hl : off + n ≤ cs.length) (h : ∀ w1, Blk w1 g t (spl cs vs off) → But g w w1 → K (a.put o.dst undef) w1) : Oper.wp Tryd.prog o a w K Q := by
  subst hn
  exact wp_store_mid T x y ho g off vs.toArray hx hy (hg.there off _ (by simpa using hl)) (by simpa using hT.size) h1.all (h _ (by simpa using hg.setCells vs off hl) (by simpa using But.setCells g vs off w))

theorem step_store {T : TypeId} {n : Nat} (hT : Wide T n) {x y : Operand} (hw : Region.wanted ⟨dst, .store T x y, ty, pos, aft, gd⟩ (yielded ops a.tmps) = true) {g off : Nat} {t : TypeId} {cs vs : List Value} (hx : a.eval x = .pointer (some ⟨g, off, none⟩)) (hy : a.eval y = .agg vs.toArray) (hg : Blk w g t cs)
    (hn : vs.length = n) (h1 : One vs) (hl : off + n ≤ cs.length) (h : ∀ w1, Blk w1 g t (spl cs vs off) → But g w w1 → wpList Tryd.prog ops Q rest (a.put dst undef) w1) :
    wpList Tryd.prog ops Q (⟨dst, .store T x y, ty, pos, aft, gd⟩ :: rest) a w :=
  BigFrame.wpList_want hw fun _ hK => wp_storeW hT rfl hx hy hg hn h1 hl fun w1 h1 h2 => hK _ _ (h w1 h1 h2)

/-- The whole of a block is stored. -/
theorem step_storeA {T : TypeId} {n : Nat} (hT : Wide T n) {x y : Operand} (hw : Region.wanted ⟨dst, .store T x y, ty, pos, aft, gd⟩ (yielded ops a.tmps) = true) {g : Nat} {t : TypeId} {cs vs : List Value} (hx : a.eval x = .pointer (some ⟨g, 0, none⟩)) (hy : a.eval y = .agg vs.toArray) (hg : Blk w g t cs)
    (hn : vs.length = n) (h1 : One vs) (hl : cs.length = n) (h : ∀ w1, Blk w1 g t vs → But g w w1 → wpList Tryd.prog ops Q rest (a.put dst undef) w1) :
    wpList Tryd.prog ops Q (⟨dst, .store T x y, ty, pos, aft, gd⟩ :: rest) a w :=
  step_store hT hw hx hy hg hn h1 (by omega) fun w1 hb hbut => h w1 (by
    have e : spl cs vs 0 = vs := by
      unfold spl
      rw [List.drop_of_length_le (by omega)]
      simp
    rwa [e] at hb) hbut
end

theorem results_wide {fn : Func} {p : Tmp} {T : TypeId} (h : fn.results = #[.cell p T]) {n : Nat} (hT : Wide T n) (tmps : Array Value) (w : World)
    {g : Nat} {t : TypeId} {cs : List Value} (hp : tmps.getD p undef = .pointer (some ⟨g, 0, none⟩)) (hg : Blk w g t cs) (hl : cs.length = n) :
    (results fn tmps).run Tryd.prog w = .ok (.agg cs.toArray) w := by
  have hp' : tmps[p]?.getD undef = .pointer (some ⟨g, 0, none⟩) := by simpa using hp
  obtain ⟨d, hu, hd⟩ := hT.und
  simp [results, h, hp', asAddr, run_loadVar_mid w g 0 T cs d (hg.range 0 cs (by simp)) hu hd (by rw [hT.size, hl])]

/-- What is known of a type of arrays of n numbers of one kind. -/
structure Arr (T E : TypeId) (k : IntKind) (n : Nat) : Prop where
  und : Tryd.prog.underlying T = some (.array n E)
  elem : Tryd.prog.underlying E = some (.int k)
  plain : Tryd.prog.plainKey E = true
  cells : Tryd.prog.cellsOf E = 1
  info : (Tryd.prog.info? E).isSome = true
  guard : Tryd.prog.eqGuardType Tryd.prog.depth T = false

theorem eqItems_ints {T E : TypeId} {k : IntKind} {n : Nat} (hA : Arr T E k n) (w : World) (d : Nat) (xs ys : List Int) : ∀ is : List Nat, (∀ i ∈ is, i < xs.length ∧ i < ys.length) →
    (Op.eqItems (d + 1) E 1 (xs.map (Value.int k)).toArray (ys.map (Value.int k)).toArray is).run Tryd.prog w = .ok (is.all fun i => xs.getD i 0 == ys.getD i 0) w
  | [], _ => by simp [Op.eqItems]
  | i :: is, h => by
    have hi := h i (by simp)
    have e1 := run_part_plain (P := Tryd.prog) w hA.plain (show (xs.map (Value.int k)).toArray[i * 1]? = some (.int k (xs.getD i 0)) from by rw [Nat.mul_one]; simp [List.getD, hi.1])
    have e2 := run_part_plain (P := Tryd.prog) w hA.plain (show (ys.map (Value.int k)).toArray[i * 1]? = some (.int k (ys.getD i 0)) from by rw [Nat.mul_one]; simp [List.getD, hi.2])
    have e3 := run_equalIn_int (P := Tryd.prog) w d E k k (xs.getD i 0) (ys.getD i 0) hA.elem
    have ih := eqItems_ints hA w d xs ys is (fun j hj => h j (by simp [hj]))
    simp only [Op.eqItems, Sem.run_bind, e1, e2, e3, Result.andThen_ok, List.all_cons]
    cases (xs.getD i 0 == ys.getD i 0)
    · simp
    · simpa using ih

theorem all_range_eq (n : Nat) (xs ys : List Int) (hx : xs.length = n) (hy : ys.length = n) : ((List.range n).all fun i => xs.getD i 0 == ys.getD i 0) = decide (xs = ys) := by
  rw [Bool.eq_iff_iff]
  simp only [List.all_eq_true, List.mem_range, beq_iff_eq, decide_eq_true_eq]
  constructor
  · intro h
    apply List.ext_getElem (by omega)
    intro i h1 h2
    have := h i (by omega)
    simpa [List.getD, h1, h2] using this
  · rintro rfl i _; rfl

theorem eqA {T E : TypeId} {k : IntKind} {n : Nat} (hA : Arr T E k n) (w : World) (xs ys : List Int) (hx : xs.length = n) (hy : ys.length = n) :
    (Op.equalIn 10000 T (.agg (xs.map (Value.int k)).toArray) (.agg (ys.map (Value.int k)).toArray)).run Tryd.prog w = .ok (decide (xs = ys)) w := by
  obtain ⟨i0, hi⟩ := Option.isSome_iff_exists.1 hA.info
  rw [run_equalIn_array w 9999 _ _ hA.und hi, hA.cells, eqItems_ints hA w 9998 xs ys _ (by intro i hi; simp at hi; omega), all_range_eq n xs ys hx hy]

section
variable {dst : Option Tmp} {ty : TypeId} {pos : String} {aft : Array Edge} {gd : Option (Nat × Bool)} {ops : Array Oper} {rest : List Oper} {a : Act} {w : World} {Q : Exit → Act → World → Prop}
theorem run_eqA {T E : TypeId} {k : IntKind} {n : Nat} (hA : Arr T E k n) (t' : TypeId) {x y : Operand} {xs ys : List Int} (hx : a.eval x = .agg (xs.map (Value.int k)).toArray) (hy : a.eval y = .agg (ys.map (Value.int k)).toArray) (hl : xs.length = n) (hl' : ys.length = n) :
    (execOp a.eval ⟨dst, .binOp .eql T x y t', ty, pos, aft, gd⟩).run Tryd.prog w = .ok (.value (.bool (decide (xs = ys)))) w := by
  simp [execOp, hx, hy, run_eqGuard_agg (P := Tryd.prog) w .eql T x y _ _ hA.guard, run_eql_struct, eqA hA w xs ys hl hl', Result.andThen]
theorem run_neA {T E : TypeId} {k : IntKind} {n : Nat} (hA : Arr T E k n) (t' : TypeId) {x y : Operand} {xs ys : List Int} (hx : a.eval x = .agg (xs.map (Value.int k)).toArray) (hy : a.eval y = .agg (ys.map (Value.int k)).toArray) (hl : xs.length = n) (hl' : ys.length = n) :
    (execOp a.eval ⟨dst, .binOp .neq T x y t', ty, pos, aft, gd⟩).run Tryd.prog w = .ok (.value (.bool (!decide (xs = ys)))) w := by
  simp [execOp, hx, hy, run_eqGuard_agg (P := Tryd.prog) w .neq T x y _ _ hA.guard, run_neq_struct, eqA hA w xs ys hl hl', Result.andThen]
theorem step_eqA {T E : TypeId} {k : IntKind} {n : Nat} (hA : Arr T E k n) {t' : TypeId} {x y : Operand} {xs ys : List Int} (hw : Region.wanted ⟨dst, .binOp .eql T x y t', ty, pos, aft, gd⟩ (yielded ops a.tmps) = true)
    (hx : a.eval x = .agg (xs.map (Value.int k)).toArray) (hy : a.eval y = .agg (ys.map (Value.int k)).toArray) (hl : xs.length = n) (hl' : ys.length = n) (h : wpList Tryd.prog ops Q rest (a.put dst (.bool (decide (xs = ys)))) w) :
    wpList Tryd.prog ops Q (⟨dst, .binOp .eql T x y t', ty, pos, aft, gd⟩ :: rest) a w := step_run hw _ w (run_eqA hA t' hx hy hl hl') h
theorem step_neA {T E : TypeId} {k : IntKind} {n : Nat} (hA : Arr T E k n) {t' : TypeId} {x y : Operand} {xs ys : List Int} (hw : Region.wanted ⟨dst, .binOp .neq T x y t', ty, pos, aft, gd⟩ (yielded ops a.tmps) = true)
    (hx : a.eval x = .agg (xs.map (Value.int k)).toArray) (hy : a.eval y = .agg (ys.map (Value.int k)).toArray) (hl : xs.length = n) (hl' : ys.length = n) (h : wpList Tryd.prog ops Q rest (a.put dst (.bool (!decide (xs = ys)))) w) :
    wpList Tryd.prog ops Q (⟨dst, .binOp .neq T x y t', ty, pos, aft, gd⟩ :: rest) a w := step_run hw _ w (run_neA hA t' hx hy hl hl') h
end

theorem below_drewN {B : Nat} {a w : World} (h : Below B a w) (n : Nat) : Below B a (w.drewN n) := h.trans ⟨rfl, rfl, rfl, Nat.le_refl _, fun _ _ => rfl⟩
theorem But.drewN {g : Nat} {a w : World} (h : But g a w) (n : Nat) : But g a (w.drewN n) := h.trans ⟨rfl, rfl, rfl, rfl, fun _ _ => rfl⟩
theorem Blk.drewN {w : World} {g : Nat} {t : TypeId} {cs : List Value} (h : Blk w g t cs) (n : Nat) : Blk (w.drewN n) g t cs := h
theorem Sl.drewN {w : World} {a : Option Addr} {len cap : Nat} {xs : List Int} (h : Sl w a len cap xs) (n : Nat) : Sl (w.drewN n) a len cap xs := ⟨h.1, h.2, h.3, h.4, h.5, h.6, h.7⟩

theorem cell_ne (w : World) (g i j : Nat) (v : Value) (h : i ≠ j) : (w.setCell ⟨g, j, none⟩ v).cell? ⟨g, i, none⟩ = w.cell? ⟨g, i, none⟩ :=
  World.cell?_setCells_out g [v] j w ⟨g, i, none⟩ (fun _ _ => by simp; omega)
theorem wrap_in (x : Int) (h0 : -9223372036854775808 ≤ x) (h1 : x ≤ 9223372036854775807) : IntKind.i64.wrap x = x := by
  rw [IntKind.wrap_i64]
  omega
/-- An index into an array of words. -/
theorem index_at {T : TypeId} {n : Nat} (hT : Tryd.prog.underlying T = some (.array (Tryd.prog.arrayLen T) (Tryd.prog.elem T))) (hn : Tryd.prog.arrayLen T = n) (hz : ∀ w, (sizeOf (Tryd.prog.elem T)).run Tryd.prog w = .ok 1 w)
    (g i : Nat) (I : Int) (hI : I = (i : Int)) (hi : i < n) (w : World) : (Instr.indexAt T (.pointer (some ⟨g, 0, none⟩)) (.int .i64 I)).run Tryd.prog w = .ok (.pointer (some ⟨g, i, none⟩)) w := by
  subst hI
  rw [run_indexAt_array w T _ .i64 i hT, if_pos ⟨by omega, by rw [hn]; omega⟩, hz]
  simp only [Result.andThen_ok, Int.toNat_natCast, Nat.mul_one]
  rw [Addr.add_lit, Nat.zero_add]

theorem load_wide {T : TypeId} {n : Nat} (hT : Wide T n) {w : World} {g : Nat} {t : TypeId} {cs : List Value} (hg : Blk w g t cs) (hn : cs.length = n) : (Instr.loadAt T (.pointer (some ⟨g, 0, none⟩))).run Tryd.prog w = .ok (.agg cs.toArray) w := by
  obtain ⟨d, hu, hd⟩ := hT.und
  exact run_loadAt_mid w g 0 T cs d (hg.range 0 cs (by simp)) hu hd (by rw [hT.size, hn])
theorem run_eqT {dst : Option Tmp} {ty : TypeId} {pos : String} {aft : Array Edge} {gd : Option (Nat × Bool)} {a : Act} {w : World} {T E : TypeId} {k : IntKind} {n : Nat} (hA : Arr T E k n) (t' : TypeId) {x y : Operand} {xs : List Int} (hx : a.eval x = .agg (xs.map (Value.int k)).toArray) (hy : a.eval y = .agg (xs.map (Value.int k)).toArray) (hl : xs.length = n) :
    (execOp a.eval ⟨dst, .binOp .eql T x y t', ty, pos, aft, gd⟩).run Tryd.prog w = .ok (.value (.bool true)) w := by
  rw [run_eqA hA t' hx hy hl hl]
  simp

section
variable {P : Program} {ops : Array Oper} {Q : Exit → Act → World → Prop} {md : Region.Mode} {S : World → Prop}
/-- An operation of a region that yields v in every world that meets S is taken first; its slot is named. -/
theorem takeH (i : Nat) (t : Tmp) (v : Value) {oi : Oper} {fuel : Nat} {listed : Array Bool} {a : Act} {w : World} (hS : S w) (hi : ops[i]? = some oi) (hd : oi.dst = some t)
    (hs : Region.noSelect ops = true) (hf : Region.free md ops listed i = true) (hr : (Region.ready md ops listed).contains i = true)
    (hQ : ∀ c a w, Q (.panic c) (a.put oi.dst v) w → Q (.panic c) a w) (hy : YieldsIf P ops S oi v a)
    (h : wpAnyH P md ops Q S fuel (listed.setIfInBounds i true) (a.put (some t) v) w) : wpAnyH P md ops Q S (fuel + 1) listed a w :=
  wpAnyH_take hi hs hf hr hQ hy hS (by rw [hd]; exact h)
end


end Go.Proofs.YthgfbcndoedacaaDoor

/-
  Laws on slices of bytes, as the walks meet them: made, copied, appended to, turned into texts.
-/
namespace Go.Proofs.YthgfbcndoedacaaDoor
open Go.RowKit
set_option linter.unusedVariables false

theorem infoB : (Tryd.prog.info? 5).map (fun i => (i.zero, i.size, i.bytes)) = some (some (.int .u8 0), 1, 1) := by kernel_rfl
theorem infoB1 : (Tryd.prog.info? 5).map (·.size) = some 1 := by kernel_rfl
theorem undB : Tryd.prog.underlying 5 = some (.int .u8) := by kernel_rfl
theorem undBs : Tryd.prog.underlying 45 = some (.slice 5) := by kernel_rfl
theorem undS : Tryd.prog.underlying 9 = some .string := by kernel_rfl

theorem made_zer (n : Nat) : madeCells #[Value.int .u8 0] n = (u8s (zer n)).toArray := by
  apply Array.toList_inj.1
  rw [toList_madeCells_one]
  simp [u8s, zer]

/-- Bytes, written over by others from a place on. -/
def splB (xs ys : List Int) (o : Nat) : List Int := xs.take o ++ ys ++ xs.drop (o + ys.length)
theorem spl_u8 (xs ys : List Int) (o : Nat) : spl (u8s xs) (u8s ys) o = u8s (splB xs ys o) := by
  simp [spl, splB, u8s]

section
variable {dst : Option Tmp} {ty : TypeId} {pos : String} {aft : Array Edge} {gd : Option (Nat × Bool)} {ops : Array Oper} {rest : List Oper} {a : Act} {w : World} {Q : Exit → Act → World → Prop}

/-- make of a slice of bytes. -/
theorem step_make {l c : Operand} {L C : Int} (n : Nat) (hw : Region.wanted ⟨dst, .makeSlice 45 l c, ty, pos, aft, gd⟩ (yielded ops a.tmps) = true)
    (hl : a.eval l = .int .i64 L) (hc : a.eval c = .int .i64 C) (hL : L = (n : Int)) (hC : C = (n : Int)) (hn : n ≤ 281474976710656)
    (h : ∀ w1 g, Blk w1 g 5 (u8s (zer n)) → w.heap.size ≤ g → Below w.heap.size w w1 → wpList Tryd.prog ops Q rest (a.put dst (.slice (some ⟨g, 0, none⟩) n n)) w1) :
    wpList Tryd.prog ops Q (⟨dst, .makeSlice 45 l c, ty, pos, aft, gd⟩ :: rest) a w := by
  obtain ⟨i0, hi, hz0, hz1, hz2⟩ := info_parts infoB
  subst hL hC
  refine step_run hw (.slice (some ⟨w.heap.size, 0, none⟩) n n) (w.alloc (.cells (u8s (zer n)).toArray 5)) ?_ (h _ _ (Blk.made _ _ _) (Nat.le_refl _) ((Below.refl _ _).alloc (Nat.le_refl _) _))
  have hr := run_make_row (P := Tryd.prog) 45 5 i0 (.int .u8 0) undBs hi hz0 hz1 rfl .i64 .i64 n (by rw [hz2]; omega) (by omega) w
  rw [made_zer] at hr
  simp [execOp, hl, hc, hr, Result.andThen]

theorem wp_copyB {o : Oper} {K : Act → World → Prop} {d s : Operand} (ho : o.op = .call { callee := .builtin .copy, args := #[d, s], argTypes := #[45, 45] })
    {dp sa : Option Addr} {dLen dCap m c : Nat} {ys : List Int} (hd : a.eval d = .slice dp dLen dCap) (hs : a.eval s = .slice sa m c) (hy : Sl w sa m c ys)
    (g off k : Nat) (hk : k = min m dLen) {t : TypeId} {cs : List Value} (hg : Blk w g t cs) (hdp : 0 < k → dp = some ⟨g, off, none⟩) (hfit : off + k ≤ cs.length)
    (h : ∀ w1, Blk w1 g t (spl cs (u8s (ys.take k)) off) → But g w w1 → K (a.put o.dst (goInt k)) w1) : Oper.wp Tryd.prog o a w K Q := by
  have hkm : k ≤ m := by omega
  have hk' : k = Nat.min m dLen := hk
  have hlen : (ys.take k).length = k := by
    have := hy.hlen
    rw [List.length_take]; omega
  by_cases h0 : k = 0
  · have hrun := run_copy_none (P := Tryd.prog) w 45 45 o.type 5 dp sa dLen dCap m c undBs infoB1 (by rw [← hk']; exact h0)
    unfold Oper.wp
    simp [execOp, ho, resolve, invoke, builtin, hd, hs, hrun, Result.andThen]
    have hx : spl cs (u8s (ys.take k)) off = cs := by rw [h0]; simp [spl, u8s]
    have h' := h w (by rw [hx]; exact hg) (But.refl _ _)
    rw [h0] at h'
    exact h'
  · have hp := hdp (by omega)
    subst hp
    obtain ⟨b, o', e, hc⟩ := hy.hcell (by omega)
    subst e
    have hrun := run_copy_row (P := Tryd.prog) w 45 45 o.type 5 g off dLen dCap ⟨b, o', none⟩ m c cs.toArray t (u8s (ys.take k)) undBs infoB1 hg (by rw [u8s_length, hlen]; exact hk')
      (by
        intro j v hj
        have hjl : j < k := by
          have := (List.getElem?_eq_some_iff.1 hj).1
          rwa [u8s_length, hlen] at this
        have hjm : j < m := by omega
        rw [Addr.add_lit, hc j hjm]
        have e2 : (u8s (ys.take k))[j]? = some (.int .u8 (ys.getD j 0)) := by
          rw [u8s_get _ _ (by omega)]
          simp [List.getD, hjl]
        rw [e2] at hj
        exact hj)
      (by rw [u8s_length, hlen]; simpa using hfit) (One.u8 _)
    have e4 : (u8s (ys.take k)).length = k := by rw [u8s_length, hlen]
    have e3 : (cs.toArray.toList.take off ++ u8s (ys.take k) ++ cs.toArray.toList.drop (off + (u8s (ys.take k)).length)).toArray = (spl cs (u8s (ys.take k)) off).toArray := by simp [spl]
    rw [e3, e4] at hrun
    unfold Oper.wp
    simp [execOp, ho, resolve, invoke, builtin, hd, hs, hrun, Result.andThen]
    exact h _ (hg.setRow _) (But.setRow _ _ _)

/-- copy, one step of a list of operations. -/
theorem step_copy {d s : Operand} {dp sa : Option Addr} {dLen dCap m c : Nat} {ys : List Int}
    (hw : Region.wanted ⟨dst, .call { callee := .builtin .copy, args := #[d, s], argTypes := #[45, 45] }, ty, pos, aft, gd⟩ (yielded ops a.tmps) = true)
    (hd : a.eval d = .slice dp dLen dCap) (hs : a.eval s = .slice sa m c) (hy : Sl w sa m c ys)
    (g off k : Nat) (hk : k = min m dLen) {t : TypeId} {cs : List Value} (hg : Blk w g t cs) (hdp : 0 < k → dp = some ⟨g, off, none⟩) (hfit : off + k ≤ cs.length)
    (h : ∀ w1, Blk w1 g t (spl cs (u8s (ys.take k)) off) → But g w w1 → wpList Tryd.prog ops Q rest (a.put dst (goInt k)) w1) :
    wpList Tryd.prog ops Q (⟨dst, .call { callee := .builtin .copy, args := #[d, s], argTypes := #[45, 45] }, ty, pos, aft, gd⟩ :: rest) a w :=
  BigFrame.wpList_want hw fun K hK => wp_copyB rfl hd hs hy g off k hk hg hdp hfit fun w1 h1 h2 => hK _ _ (h w1 h1 h2)

/-- copy, one step of a region that draws its order. -/
theorem rstep_copy {K : Act → World → Prop} {E : Prop} {o : Oper} (hgd : o.guard = none) {d s : Operand} (ho : o.op = .call { callee := .builtin .copy, args := #[d, s], argTypes := #[45, 45] })
    {dp sa : Option Addr} {dLen dCap m c : Nat} {ys : List Int} (hd : a.eval d = .slice dp dLen dCap) (hs : a.eval s = .slice sa m c) (hy : Sl w sa m c ys)
    (g off k : Nat) (hk : k = min m dLen) {t : TypeId} {cs : List Value} (hg : Blk w g t cs) (hdp : 0 < k → dp = some ⟨g, off, none⟩) (hfit : off + k ≤ cs.length)
    (h : ∀ w1, Blk w1 g t (spl cs (u8s (ys.take k)) off) → But g w w1 → K (a.put o.dst (goInt k)) w1) :
    if Region.wanted o (yielded ops a.tmps) = true then Oper.wp Tryd.prog o a w K Q else E := by
  have hw : Region.wanted o (yielded ops a.tmps) = true := by simp [Region.wanted, hgd]
  rw [if_pos hw]
  exact wp_copyB ho hd hs hy g off k hk hg hdp hfit h
end

/-- A slice of the call's own that holds the bytes xs. -/
def Own (w : World) (B : Nat) (v : Value) (xs : List Int) : Prop := w.ownsRow B 5 1 v xs.length (u8s xs)

theorem Own.sl {w : World} {B : Nat} {v : Value} {xs : List Int} (h : Own w B v xs) (hb : isB xs) (hl : xs.length ≤ 140737488355328) (hn : v ≠ .slice none 0 0) :
    ∃ g cap, v = .slice (some ⟨g, 0, none⟩) xs.length cap ∧ B ≤ g ∧ Sl w (some ⟨g, 0, none⟩) xs.length cap xs := by
  obtain ⟨_, h2⟩ := h
  rcases h2 with ⟨e, _⟩ | ⟨g, cap, cur, rfl, hB, hh, h3, h4, h5, h6⟩
  · exact absurd e hn
  refine ⟨g, cap, rfl, hB, rfl, h3, by simpa [maxLen] using h4, hl, hb, (fun e => by cases e), fun _ => ⟨g, 0, rfl, fun i hi => ?_⟩⟩
  rw [Nat.zero_add, cell_of_row w g i cur 5 (0, 0) hh]
  have e : (cur.toList.take (xs.length * 1))[i]? = some (.int .u8 (xs.getD i 0)) := by rw [h6]; exact u8s_get xs i hi
  rw [List.getElem?_take, if_pos (by omega)] at e
  simpa using e
theorem Own.nil (w : World) (B : Nat) : Own w B (.slice none 0 0) [] := World.ownsRow_nil _ _ _ _
theorem Own.alloc {w : World} {B : Nat} {v : Value} {xs : List Int} (h : Own w B v xs) (o : Obj) : Own (w.alloc o) B v xs := World.ownsRow.alloc h o
theorem Own.sl' {w : World} {B : Nat} {v : Value} {xs : List Int} (h : Own w B v xs) (hb : isB xs) (hl : xs.length ≤ 140737488355328) : ∃ a cap, v = .slice a xs.length cap ∧ Sl w a xs.length cap xs := by
  by_cases hn : v = .slice none 0 0
  · subst hn
    obtain ⟨h1, h2⟩ := h
    rcases h2 with ⟨_, e⟩ | ⟨g, cap, cur, e, _⟩
    · refine ⟨none, 0, by rw [e], by omega, by omega, by omega, hl, hb, fun _ => ⟨e, rfl⟩, fun h0 => absurd h0 (by omega)⟩
    · cases e
  · obtain ⟨g, cap, e, _, hs⟩ := h.sl hb hl hn
    exact ⟨_, cap, e, hs⟩
theorem Own.below {w w' : World} {B : Nat} {v : Value} {xs : List Int} (h : Own w B v xs) (hb : Below w.heap.size w w') : Own w' B v xs := by
  obtain ⟨h1, h2⟩ := h
  refine ⟨h1, ?_⟩
  rcases h2 with h2 | ⟨g, cap, cur, e, hg, hh, r⟩
  · exact .inl h2
  · refine .inr ⟨g, cap, cur, e, hg, ?_, r⟩
    rw [hb.block g (Array.getElem?_eq_some_iff.1 hh).1]
    exact hh

theorem Below.of_grown {w w' : World} {B : Nat} {row : Option Nat} (hg : w.grownBy w' row) (hB : B ≤ w.heap.size) (hr : ∀ k, row = some k → B ≤ k) : Below B w w' :=
  (Below.refl B w).grown hg hB hr
theorem Own.lt {w : World} {B : Nat} {v : Value} {xs : List Int} (h : Own w B v xs) : ∀ k, v.ownBlock = some k → B ≤ k := fun k hk => (World.ownsRow.lt h k hk).1

theorem wp_appendB {o : Oper} {K : Act → World → Prop} {s x : Operand} {a : Act} {w : World} {Q : Exit → Act → World → Prop}
    {B : Nat} {v : Value} {xs : List Int} {sa : Option Addr} {m c : Nat} {ys : List Int}
    (ho : o.op = .call { callee := .builtin .append, args := #[s, x], argTypes := #[45, 45] }) (hs : a.eval s = v) (hx : a.eval x = .slice sa m c) (hown : Own w B v xs) (hy : Sl w sa m c ys)
    (hlen : xs.length + m ≤ 140737488355328) (hB : B ≤ w.heap.size)
    (h : ∀ v' w', Own w' B v' (xs ++ ys) → w.grownBy w' v.ownBlock → (v' = .slice none 0 0 → v = .slice none 0 0 ∧ m = 0) → K (a.put o.dst v') w') : Oper.wp Tryd.prog o a w K Q := by
  obtain ⟨i0, hi, hz0, hz1, hz2⟩ := info_parts infoB
  cases sa with
  | none =>
    obtain ⟨rfl, rfl⟩ := hy.hnil rfl
    obtain rfl : ys = [] := List.eq_nil_of_length_eq_zero hy.hlen
    have hrun := run_append_owned_none (P := Tryd.prog) (w := w) B 45 o.type 5 i0 1 undBs hi v _ _ hown
    unfold Oper.wp
    simp [execOp, ho, resolve, invoke, builtin, hs, hx, hrun, Result.andThen]
    exact (h v w (by simpa using hown) (World.grownBy.refl _ _) (fun e => ⟨e, rfl⟩))
  | some ad =>
    refine wp_append_own _ s x 45 ho B 5 i0 (.int .u8 0) 1 1 undBs hi hz0 hz1 hz2 rfl (by decide) v _ _ hs hown ad m c (u8s ys) hx (by simp [u8s_length, hy.hlen]) ?_ (One.u8 ys) ?_ ?_ hB ?_
    · intro j u hu
      have hj : j < m := by
        have := (List.getElem?_eq_some_iff.1 hu).1
        simpa [u8s_length, hy.hlen] using this
      obtain ⟨b, off, e, hc⟩ := hy.hcell (by omega)
      obtain rfl := Option.some.inj e
      rw [Addr.add_lit, hc j hj]
      rw [u8s_get ys j (by rw [hy.hlen]; exact hj)] at hu
      exact hu
    · unfold maxLen; omega
    · omega
    · intro v' w' h1 h2 h3
      have hm : (xs ++ ys).length = xs.length + m := by rw [List.length_append, hy.hlen]
      exact (h v' w' (by unfold Own; rw [hm, u8s_app]; exact h1) h2 h3.1)

theorem step_append {dst : Option Tmp} {s x : Operand} {ty : TypeId} {pos : String} {aft : Array Edge} {gd : Option (Nat × Bool)} {ops : Array Oper} {rest : List Oper} {a : Act} {w : World} {Q : Exit → Act → World → Prop}
    {B : Nat} {v : Value} {xs : List Int} {sa : Option Addr} {m c : Nat} {ys : List Int}
    (hw : Region.wanted ⟨dst, .call { callee := .builtin .append, args := #[s, x], argTypes := #[45, 45] }, ty, pos, aft, gd⟩ (yielded ops a.tmps) = true)
    (hs : a.eval s = v) (hx : a.eval x = .slice sa m c) (hown : Own w B v xs) (hy : Sl w sa m c ys)
    (hlen : xs.length + m ≤ 140737488355328) (hB : B ≤ w.heap.size)
    (h : ∀ v' w', Own w' B v' (xs ++ ys) → w.grownBy w' v.ownBlock → (v' = .slice none 0 0 → v = .slice none 0 0 ∧ m = 0) → wpList Tryd.prog ops Q rest (a.put dst v') w') :
    wpList Tryd.prog ops Q (⟨dst, .call { callee := .builtin .append, args := #[s, x], argTypes := #[45, 45] }, ty, pos, aft, gd⟩ :: rest) a w :=
  BigFrame.wpList_want hw fun K hK => wp_appendB rfl hs hx hown hy hlen hB fun v' w' h1 h2 h3 => hK _ _ (h v' w' h1 h2 h3)

theorem rstep_append {K : Act → World → Prop} {E : Prop} {ops : Array Oper} {o : Oper} (hgd : o.guard = none) {s x : Operand} {a : Act} {w : World} {Q : Exit → Act → World → Prop}
    {B : Nat} {v : Value} {xs : List Int} {sa : Option Addr} {m c : Nat} {ys : List Int}
    (ho : o.op = .call { callee := .builtin .append, args := #[s, x], argTypes := #[45, 45] }) (hs : a.eval s = v) (hx : a.eval x = .slice sa m c) (hown : Own w B v xs) (hy : Sl w sa m c ys)
    (hlen : xs.length + m ≤ 140737488355328) (hB : B ≤ w.heap.size)
    (h : ∀ v' w', Own w' B v' (xs ++ ys) → w.grownBy w' v.ownBlock → (v' = .slice none 0 0 → v = .slice none 0 0 ∧ m = 0) → K (a.put o.dst v') w') :
    if Region.wanted o (yielded ops a.tmps) = true then Oper.wp Tryd.prog o a w K Q else E := by
  have hw : Region.wanted o (yielded ops a.tmps) = true := by simp [Region.wanted, hgd]
  rw [if_pos hw]
  exact wp_appendB ho hs hx hown hy hlen hB h

/-- The bytes as a string. -/
def str (xs : List Int) : ByteArray := strOfNums xs

theorem toStr {w : World} {a : Option Addr} {len cap : Nat} {xs : List Int} (h : Sl w a len cap xs) : (convert 45 9 (.slice a len cap)).run Tryd.prog w = .ok (.string (str xs)) w := by
  cases a with
  | none =>
    have e := h.hnil rfl
    obtain rfl : xs = [] := List.eq_nil_of_length_eq_zero (by rw [h.hlen]; exact e.1)
    exact run_convert_bytes_nil w 45 5 undBs undB len cap 9 undS
  | some x =>
    by_cases h0 : 0 < len
    · obtain ⟨b, off, e, hc⟩ := h.hcell h0
      obtain rfl := Option.some.inj e
      exact run_convert_bytes_arg w 45 5 undBs undB b off len cap xs h.hlen hc 9 undS
    · obtain rfl : len = 0 := by omega
      obtain rfl : xs = [] := List.eq_nil_of_length_eq_zero h.hlen
      rw [run_convert_bytes_string w 45 9 5 _ 0 cap undBs undB undS, run_bytesToString w x 0 cap [] (by simp [loadCells, loadCellsFrom])]
      rfl

section
variable {dst : Option Tmp} {ty : TypeId} {pos : String} {aft : Array Edge} {gd : Option (Nat × Bool)} {ops : Array Oper} {rest : List Oper} {a : Act} {w : World} {Q : Exit → Act → World → Prop}
theorem step_toStr {x : Operand} {sa : Option Addr} {m c : Nat} {ys : List Int} (hw : Region.wanted ⟨dst, .convert 45 9 x, ty, pos, aft, gd⟩ (yielded ops a.tmps) = true)
    (hx : a.eval x = .slice sa m c) (hy : Sl w sa m c ys) (h : wpList Tryd.prog ops Q rest (a.put dst (.string (str ys))) w) :
    wpList Tryd.prog ops Q (⟨dst, .convert 45 9 x, ty, pos, aft, gd⟩ :: rest) a w :=
  step_run hw (.string (str ys)) w (by simp [execOp, hx, toStr hy, Result.andThen]) h
end

theorem str_append (xs ys : List Int) : str xs ++ str ys = str (xs ++ ys) := by
  apply ByteArray.ext
  simp [str, strOfNums]
theorem str_size (xs : List Int) : (str xs).size = xs.length := strOfNums_size xs

end Go.Proofs.YthgfbcndoedacaaDoor

/-
  What is known of the types of the program, by the program's own tables.
-/
namespace Go.Proofs.YthgfbcndoedacaaDoor
open Go.RowKit
set_option linter.unusedVariables false

theorem zD : Zeroed 34 (u8s (zer 32)) := fun _ _ _ _ _ _ _ => by kernel_rfl
theorem wD : Wide 34 32 := ⟨by kernel_rfl, by kernel_rfl⟩
theorem aD : Arr 34 5 .u8 32 := ⟨by kernel_rfl, by kernel_rfl, by kernel_rfl, by kernel_rfl, by kernel_rfl, by kernel_rfl⟩

/-- The cells of a state. -/
def stC (made : Bool) (ws : List Int) (n : Int) (rest : List Int) : List Value := Value.bool made :: (u32s ws ++ Value.int .i64 n :: u8s rest)
theorem zSt : Zeroed 126 (stC false (zer 8) 0 (zer 64)) := fun _ _ _ _ _ _ _ => by kernel_rfl
theorem wSt : Wide 126 74 := ⟨by kernel_rfl, by kernel_rfl⟩

section
variable {dst : Option Tmp} {ty : TypeId} {pos : String} {aft : Array Edge} {gd : Option (Nat × Bool)} {ops : Array Oper} {rest : List Oper} {a : Act} {w : World} {Q : Exit → Act → World → Prop}
theorem step_buildD (hw : Region.wanted ⟨dst, .build 34 #[], ty, pos, aft, gd⟩ (yielded ops a.tmps) = true)
    (h : wpList Tryd.prog ops Q rest (a.put dst (.agg (u8s (zer 32)).toArray)) w) : wpList Tryd.prog ops Q (⟨dst, .build 34 #[], ty, pos, aft, gd⟩ :: rest) a w :=
  step_run hw (.agg (u8s (zer 32)).toArray) w (by kernel_rfl) h
theorem step_buildSt (hw : Region.wanted ⟨dst, .build 126 #[], ty, pos, aft, gd⟩ (yielded ops a.tmps) = true)
    (h : wpList Tryd.prog ops Q rest (a.put dst (.agg (stC false (zer 8) 0 (zer 64)).toArray)) w) : wpList Tryd.prog ops Q (⟨dst, .build 126 #[], ty, pos, aft, gd⟩ :: rest) a w :=
  step_run hw (.agg (stC false (zer 8) 0 (zer 64)).toArray) w (by kernel_rfl) h
end

end Go.Proofs.YthgfbcndoedacaaDoor
