/-
  The iterator of the program's Lines.
-/
import Derived.RangeFuncNested
import Derived.RangeFuncBound
import Derived.RangeFuncCalls
import Derived.RangeFuncLeaves
import Derived.Shelf.Abstract
import Derived.Shelf.RegionOpen
import Derived.WalkKit
import Derived.OwnWalkIn
import Derived.TacticsInMore
import Derived.LoopNIn
import Derived.LoopIn
import Derived.Test.YtjfambchoijfhaaLn
namespace Go.Proofs.Ytjfambchoijfhaa
open Go.RowKit Go.Shelf
set_option linter.unusedVariables false

/-- Lines with their numbers. -/
def en (ls : List ByteArray) : List (Nat × ByteArray) := (List.range ls.length).map (fun j => (j, ls.getD j ByteArray.empty))
theorem en_length (ls : List ByteArray) : (en ls).length = ls.length := by simp [en]
theorem en_snoc (ls : List ByteArray) (x : ByteArray) : en (ls ++ [x]) = en ls ++ [(ls.length, x)] := by
  unfold en
  rw [List.length_append, List.length_singleton, List.range_succ, List.map_append]
  congr 1
  · apply List.map_congr_left
    intro j hj
    have : j < ls.length := List.mem_range.1 hj
    simp [List.getD, List.getElem?_append_left this]
  · simp [List.getD]
theorem en_append (ls : List ByteArray) : ∀ xs : List ByteArray, en ls <+: en (ls ++ xs)
  | [] => by simp
  | x :: xs => by
    have := en_append (ls ++ [x]) xs
    rw [en_snoc, List.append_assoc] at this
    exact (List.prefix_append _ _).trans this
theorem lu_pre (s : ByteArray) : ∀ d k, (lu s k).1 <+: (lu s (k + d)).1
  | 0, k => by simp
  | d + 1, k => by
    refine (lu_pre s d k).trans ?_
    rw [← Nat.add_assoc]
    by_cases h : (s[k + d]?.map UInt8.toNat) = some 10
    · rw [lu_end s _ h]; exact List.prefix_append _ _
    · rw [lu_on s _ h]; simp
theorem lu_lns (s : ByteArray) (k : Nat) (h : k ≤ s.size) : (lu s k).1 <+: lns s := by
  have h1 := lu_pre s (s.size - k) k
  rw [show k + (s.size - k) = s.size by omega] at h1
  refine h1.trans ?_
  unfold lns
  split
  · exact List.prefix_append _ _
  · simp
theorem en_mono {a b : List ByteArray} (h : a <+: b) : en a <+: en b := by
  obtain ⟨c, rfl⟩ := h
  exact en_append a c

def encL (x : Nat × ByteArray) : Array Value := #[.int .i64 (x.1 : Int), .string x.2]

set_option maxRecDepth 100000 in
set_option maxHeartbeats 2000000 in
theorem lines1_in (F : Fence) (n : Nat) (h6 : F.fn 6) (hro : F.round = none) (hn : 1 ≤ n) (l Bs n₀ : Nat) (s : ByteArray) (hsz : s.size ≤ 1048576) (hB : Bs < n₀) (J Jx : List (Nat × ByteArray) → World → Prop)
    (hY : ∀ pre x W, J pre W → pre.length < (lns s).length → YieldAt F (n - 1) Try.prog l (encL x) W fun e W' =>
      (e = .returned (.bool true) ∧ J (pre ++ [x]) W' ∧ Below n₀ W W') ∨ (e = .returned (.bool false) ∧ Jx (pre ++ [x]) W'))
    (W : World) (hBs : W.cell? ⟨Bs, 0, none⟩ = some (.string s)) (h0 : J [] W) :
    CallsIn F n Try.prog 6 #[.func (.yield l) #[] #[], .pointer (some ⟨Bs, 0, none⟩)] W fun e W' => (∃ v, e = .returned v) ∧
      ((∃ ys, ys = en (lns s) ∧ J ys W') ∨ (∃ pre, pre <+: en (lns s) ∧ Jx pre W')) := by
  refine callsIn_of_wp Try.func6 rfl h6 ?_ hro
  simp only [Try.ntmps6, List.size_toArray, List.length_cons, List.length_nil, Nat.reduceAdd, Nat.reduceSub, Array.replicate_succ, Array.replicate_zero, List.push_toArray, List.append_toArray, List.nil_append, List.cons_append]
  gi_wp2
  gi_loopw [3, 4, 8] (fun bg nn c wr => ∃ k : Nat, k ≤ s.size ∧ c = .int .i64 k ∧ bg = .int .i64 ((lu s k).2 : Nat) ∧ nn = .int .i64 ((lu s k).1.length : Nat) ∧ J (en (lu s k).1) wr ∧ Below n₀ W wr)
    (fun _ _ c _ => s.size - (intOf c).toNat)
  case atStart => exact ⟨0, Nat.zero_le _, rfl, rfl, rfl, h0, Below.refl _ _⟩
  case round =>
    obtain ⟨k, hk, rfl, rfl, rfl, hJs, hnx⟩ := hrel
    have hcx : wr.cell? ⟨Bs, 0, none⟩ = some (.string s) := (hnx.cell (p := ⟨Bs, 0, none⟩) hB).trans hBs
    have hbd := lu_bd s k
    have hpl := lu_lns s k hk
    by_cases hlt : k < s.size
    · have hlt' : (k : Int) < (s.size : Int) := by omega
      have hpl1 := lu_lns s (k + 1) (by omega)
      by_cases h10 : (s[k]'hlt).toNat = 10
      · have he := lu_end s k (by rw [byte_at s k hlt, h10])
        obtain ⟨p, hp⟩ : ∃ p, p = lu s k := ⟨_, rfl⟩
        rw [← hp] at hbd hJs he hpl ⊢
        rw [he] at hpl1
        obtain ⟨ls, f⟩ := p
        simp only at hbd hJs he hpl hpl1 ⊢
        have HP := hide hp
        have HE := hide he
        have HL1 := hide hpl1
        have hll : ls.length < (lns s).length := by
          have := hpl1.length_le
          simp at this
          omega
        obtain ⟨fn, tmps, assign, body, hy, hR⟩ := hY _ (ls.length, s.extract f k) wr hJs (by rw [en_length]; exact hll)
        dsimp only [encL] at hy
        clear hp he hpl1 hpl hll
        gi_wp2
        refine hR.mono ?_
        rintro e W3 (⟨rfl, hJ3, hk3⟩ | ⟨rfl, hJx3⟩)
        · rw [← en_snoc] at hJ3
          gi_wp2
          go_roundw
          case rel => exact ⟨k + 1, by omega, by go_num, by rw [HE.out]; go_num, by rw [HE.out]; simp, by rw [HE.out]; exact hJ3, hnx.trans hk3⟩
          case measure => simp [intOf]; omega
        · rw [← en_snoc] at hJx3
          gi_wp2
          refine bodyPost_ret (results_none rfl _ _ _) rfl ?_
          exact ⟨⟨_, rfl⟩, .inr ⟨_, en_mono HL1.out, hJx3⟩⟩
      · have he := lu_on s k (by rw [byte_at s k hlt]; simpa using h10)
        have HE := hide he
        clear he
        gi_wp2
        exact ⟨⟨k + 1, by omega, by go_num, by rw [HE.out], by rw [HE.out], by rw [HE.out]; exact hJs, hnx⟩, by simp [intOf]; omega⟩
    · obtain rfl : k = s.size := by omega
      have hlt' : ¬ ((s.size : Int) < (s.size : Int)) := by omega
      have HLN : Hid (lns s = if (lu s s.size).2 < s.size then (lu s s.size).1 ++ [s.extract (lu s s.size).2 s.size] else (lu s s.size).1) := hide rfl
      revert HLN
      generalize lu s s.size = p at *
      obtain ⟨ls, f⟩ := p
      simp only at hbd hJs hpl ⊢
      intro HLN
      by_cases hf : f < s.size
      · have hf' : (f : Int) < (s.size : Int) := by omega
        have HL2 := hide (show lns s = ls ++ [s.extract f s.size] by rw [HLN.out, if_pos hf])
        obtain ⟨fn, tmps, assign, body, hy, hR⟩ := hY _ (ls.length, s.extract f s.size) wr hJs (by rw [en_length, HL2.out]; simp)
        dsimp only [encL] at hy
        gi_wp2
        refine hR.mono ?_
        rintro e W3 (⟨rfl, hJ3, hk3⟩ | ⟨rfl, hJx3⟩)
        · rw [← en_snoc, ← HL2.out] at hJ3
          gi_wp2
          go_end0
          exact ⟨⟨_, rfl⟩, .inl ⟨_, rfl, hJ3⟩⟩
        · rw [← en_snoc, ← HL2.out] at hJx3
          gi_wp2
          go_end0
          exact ⟨⟨_, rfl⟩, .inr ⟨_, List.prefix_refl _, hJx3⟩⟩
      · have hf' : ¬ ((f : Int) < (s.size : Int)) := by omega
        have HL2 := hide (show lns s = ls by rw [HLN.out, if_neg hf])
        gi_wp2
        go_end0
        exact ⟨⟨_, rfl⟩, .inl (by rw [HL2.out]; exact hJs)⟩

theorem lines_stops (F : Fence) (n : Nat) (h6 : F.fn 6) (hro : F.round = none) (hn : 1 ≤ n) (Bs n₀ : Nat) (s : ByteArray) (hsz : s.size ≤ 1048576) (w : World) (hB : Bs < n₀) (hn0 : n₀ ≤ w.heap.size) (hBs : w.cell? ⟨Bs, 0, none⟩ = some (.string s)) :
    SeqStopsK F n Try.prog 6 #[.pointer (some ⟨Bs, 0, none⟩)] (fun x : Nat × ByteArray => #[Value.int .i64 (x.1 : Int), Value.string x.2]) (Below n₀) (fun xs => xs = en (lns s)) (fun pre => pre <+: en (lns s)) (lns s).length w := by
  intro l J Jx W hW hJ hJx hY h0
  exact lines1_in F n h6 hro hn l Bs n₀ s hsz hB J Jx hY W ((hW.cell (p := ⟨Bs, 0, none⟩) (by simp; omega)).trans hBs) h0

end Go.Proofs.Ytjfambchoijfhaa
