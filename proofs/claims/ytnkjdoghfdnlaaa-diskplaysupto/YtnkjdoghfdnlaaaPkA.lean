/-
  Texts one behind the other: Kqs Kqt ShZ Kqu Kqv Kqw Kqx Kqy.
-/
import Derived.Test.YtnkjdoghfdnlaaaKqr
import Derived.Sort.Walk0
import Derived.Ground.GgzProg
import Derived.Ground.SlgmProg
import Derived.Shelf.SlGeneric
import Derived.Shelf.SlIter.Nil
import Derived.Shelf.SortM.Plain
import Derived.Shelf.SortM.SortNone
import Derived.Test.YtnkjdoghfdnlaaaProg
import Derived.Test.YtnkjdoghfdnlaaaFrg
import Derived.Test.YtnkjdoghfdnlaaaKnLaw
import Derived.Test.YtnkjdoghfdnlaaaKre
import Derived.Deep.Cut
import Derived.Test.YtnkjdoghfdnlaaaKml

/-
  The law's own helpers: spoil, raws, names.
-/
namespace Go.Proofs.Ytnkjdoghfdnlaaa
open Go.RowKit
set_option linter.unusedVariables false

set_option maxHeartbeats 400000 in
theorem spoilL_own (g n cap : Nat) (xs : List Int) (B : Nat) (w : World) (ho : Own w B (.slice (some ⟨g, 0, none⟩) n cap) xs) (hx : xs.length = n) (hn : n ≤ 281474976710656) :
    Calls Try.prog 14 #[.slice (some ⟨g, 0, none⟩) n cap] w fun e w' => e = .returned (.tuple #[]) ∧ But g w w' := by
  obtain ⟨t, cs, hg, hcs⟩ : ∃ t cs, Blk w g t cs ∧ cs.take n = u8s xs := by
    rcases ho.2 with ⟨e, _⟩ | ⟨g', c', cur, e, _, hh, h3, h4, h5, h6⟩
    · cases e
    · cases e
      refine ⟨5, cur.toList, ?_, ?_⟩
      · unfold Blk; simpa using hh
      · simpa [hx] using h6
  clear ho
  go_enter Try.func14, Try.ntmps14
  go_wp2
  go_loopw [2] (fun i wr => ∃ k : Nat, k ≤ n ∧ i = .int .i64 k ∧ (∃ ys cs', Blk wr g t cs' ∧ cs'.take n = u8s ys ∧ ys.length = n) ∧ But g w wr) (fun i _ => n - (intOf i).toNat)
  case atStart => exact ⟨0, by omega, rfl, ⟨xs, cs, hg, hcs, hx⟩, But.refl _ _⟩
  case round =>
    obtain ⟨k, hk, rfl, ⟨ys, cs', hr1, hc1, hy⟩, hb1⟩ := hrel
    have HY := hide hy
    have HR := hide hr1
    have HC := hide hc1
    clear hy hr1 hc1 hg hx hcs
    by_cases hlt : k < n
    · have hcell : wr.cell? ⟨g, k, none⟩ = some (.int .u8 (ys.getD k 0)) := by
        have e : (cs'.take n)[k]? = some (.int .u8 (ys.getD k 0)) := by rw [HC.out]; exact u8s_get _ _ (by rw [HY.out]; exact hlt)
        rw [HR.out.cell]
        rw [List.getElem?_take, if_pos hlt] at e
        exact e
      have hfree : wr.frozen? ⟨g, k, none⟩ = false := HR.out.free k
      go_wp2
      go_roundw
      case rel =>
        have h := HR.out.set k (.int .u8 ((ys.getD k 0 + 1) % 256))
        refine ⟨k + 1, by omega, by go_num, ⟨ys.set k ((ys.getD k 0 + 1) % 256), _, h, ?_, by rw [List.length_set]; exact HY.out⟩, hb1.trans (But.setCell _ _ _ _)⟩
        rw [List.take_set, HC.out, u8s_set]
      case measure => simp [intOf]; omega
    · go_wp2
      go_end0
      exact ⟨rfl, hb1⟩
theorem spoilL_nil (c : Nat) (a : Option Addr) (w : World) : Calls Try.prog 14 #[.slice a 0 c] w fun e w' => e = .returned (.tuple #[]) ∧ w' = w := by
  go_enter Try.func14, Try.ntmps14
  go_wp2
  go_loopw [2] (fun i wr => i = .int .i64 0 ∧ wr = w) (fun _ _ => 0)
  case atStart => exact ⟨rfl, rfl⟩
  case round =>
    obtain ⟨rfl, rfl⟩ := hrel
    go_wp2
    go_end0
    exact ⟨rfl, rfl⟩
theorem namesL (w : World) : Calls Try.prog 9 #[] w fun r w' => r = .returned (.bool true) ∧ w' = w := by
  go_enter Try.func9, Try.ntmps9
  go_wp2
  go_ret
  exact ⟨rfl, rfl⟩

/-- The law's raws, of two that are the same. -/
theorem raws_same (r : Rw) (a a' : Option Addr) (l l' c c' : Nat) (w : World) (h : Sl w a l c r.b) (h' : Sl w a' l' c' r.b) : Calls Try.prog 31 #[.agg (rwC r.k r.n (.slice a l c) r.s r.t).toArray, .agg (rwC r.k r.n (.slice a' l' c') r.s r.t).toArray] w fun e w' => e = .returned (.bool true) ∧ Below w.heap.size w w' := by
  have HS := hide h
  have HS' := hide h'
  clear h h'
  go_enter Try.func31, Try.ntmps31
  go_wp2_with (first | (refine step_box (cs := rwC r.k r.n (.slice a l c) r.s r.t) rfl rfl ?_))
  intro w1 g1 hg1 hle1 hb1
  go_wp2_with (first | (refine step_box (cs := rwC r.k r.n (.slice a' l' c') r.s r.t) rfl rfl ?_))
  intro w2 g2 hg2 hle2 hb2
  have hg1' := hg1.below hb2 hg1.lt
  have hcv := toStr ((HS.out.below hb1).below hb2)
  have hcv' := toStr ((HS'.out.below hb1).below hb2)
  have a0 : w2.cell? ⟨g1, 0, none⟩ = some (.int .i64 r.k) := by rw [hg1'.cell]; rfl
  have a1 : w2.cell? ⟨g1, 1, none⟩ = some (.string r.n) := by rw [hg1'.cell]; rfl
  have a2 : w2.cell? ⟨g1, 2, none⟩ = some (.slice a l c) := by rw [hg1'.cell]; rfl
  have a3 : w2.cell? ⟨g1, 3, none⟩ = some (.int .i64 r.s) := by rw [hg1'.cell]; rfl
  have a4 : w2.cell? ⟨g1, 4, none⟩ = some (.string r.t) := by rw [hg1'.cell]; rfl
  have b0 : w2.cell? ⟨g2, 0, none⟩ = some (.int .i64 r.k) := by rw [hg2.cell]; rfl
  have b1 : w2.cell? ⟨g2, 1, none⟩ = some (.string r.n) := by rw [hg2.cell]; rfl
  have b2 : w2.cell? ⟨g2, 2, none⟩ = some (.slice a' l' c') := by rw [hg2.cell]; rfl
  have b3 : w2.cell? ⟨g2, 3, none⟩ = some (.int .i64 r.s) := by rw [hg2.cell]; rfl
  have b4 : w2.cell? ⟨g2, 4, none⟩ = some (.string r.t) := by rw [hg2.cell]; rfl
  clear hg1 hg2 hg1'
  go_wp2
  go_ret
  exact ⟨rfl, hb1.trans (hb2.mono hb1.size)⟩
theorem names12_any (w : World) : Calls Try.prog 9 #[] w fun e w' => e = .returned (.bool true) ∧ w' = w := by
  go_enter Try.func9, Try.ntmps9
  go_wp2
  go_ret
  exact ⟨rfl, rfl⟩

end Go.Proofs.Ytnkjdoghfdnlaaa

/-
  The names of a disk's files, sorted: the document's list.
-/
namespace Go.Proofs.Ytnkjdoghfdnlaaa
open Go.RowKit
set_option linter.unusedVariables false

theorem le_iff (x y : List UInt8) : decide (x ≤ y) = !Op.bytesLess y x := by
  rw [bytesLess_eq]
  rw [← decide_not]
  exact decide_eq_decide.2 Iff.rfl
theorem perm_of_mem {α : Type} : ∀ {a b : List α}, a.Nodup → b.Nodup → (∀ x, x ∈ a ↔ x ∈ b) → a.Perm b
  | [], b, _, _, h => by
    cases b with
    | nil => exact List.Perm.refl _
    | cons y t => have := (h y).2 (by simp); cases this
  | x :: a, b, ha, hb, h => by
    obtain ⟨s, t, rfl⟩ := List.append_of_mem ((h x).1 (by simp))
    have hx : x ∉ a := (List.nodup_cons.1 ha).1
    have hp : (s ++ x :: t).Perm (x :: (s ++ t)) := List.perm_middle
    have hb2 := hp.nodup_iff.1 hb
    have hx2 : x ∉ s ++ t := (List.nodup_cons.1 hb2).1
    refine (List.Perm.cons x (perm_of_mem (List.nodup_cons.1 ha).2 (List.nodup_cons.1 hb2).2 (fun z => ?_))).trans hp.symm
    have hz := h z
    rw [hp.mem_iff] at hz
    simp only [List.mem_cons] at hz
    constructor
    · intro hm
      rcases hz.1 (.inr hm) with e | e
      · subst e; exact absurd hm hx
      · exact e
    · intro hm
      rcases hz.2 (.inr hm) with e | e
      · subst e; exact absurd hm hx2
      · exact e
theorem sort_names {f : ByteArray → Option (List Int)} {l : List (ByteArray × List Int)} (h : FL f l) {ns : List ByteArray} (hn : ns.Nodup) (hm : ∀ n, n ∈ ns ↔ (f n).isSome = true) {ss : List (List UInt8)} (hp : ss.Perm (ns.map fun x => x.toList)) :
    ss.mergeSort (fun x y => decide (x ≤ y)) = l.map (fun x => x.1.toList) := by
  have hle : ∀ x y : List UInt8, decide (x ≤ y) = true ↔ Op.bytesLess y x = false := fun x y => by rw [le_iff]; simp
  have hlsrt : (l.map fun x => x.1.toList).Pairwise (fun x y => decide (x ≤ y) = true) := by
    rw [List.pairwise_map]
    refine h.srt.imp (fun {a b} hab => ?_)
    rw [hle]
    cases hba : Op.bytesLess b.1.toList a.1.toList with
    | false => rfl
    | true => have := bl_trans _ _ _ hab hba; rw [bl_irr] at this; cases this
  have hlnd : (l.map fun x => x.1).Nodup := by
    rw [List.Nodup, List.pairwise_map]
    exact h.srt.imp (fun {a b} hab => blt_ne hab)
  have hperm : ns.Perm (l.map fun x => x.1) := perm_of_mem hn hlnd (fun n => by
    rw [hm]
    constructor
    · intro hs
      cases hf : f n with
      | none => rw [hf] at hs; cases hs
      | some xs => exact List.mem_map.2 ⟨(n, xs), (h.mem n xs).1 hf, rfl⟩
    · intro hs
      obtain ⟨x, hx, rfl⟩ := List.mem_map.1 hs
      rw [(h.mem x.1 x.2).2 hx]
      rfl)
  have hp2 : (ss.mergeSort (fun x y => decide (x ≤ y))).Perm (l.map fun x => x.1.toList) := by
    refine (List.mergeSort_perm _ _).trans (hp.trans ?_)
    have := hperm.map (fun x : ByteArray => x.toList)
    rw [List.map_map] at this
    exact this
  refine hp2.eq_of_pairwise (le := fun x y => decide (x ≤ y) = true) (fun a b _ _ h1 h2 => ?_) (List.pairwise_mergeSort (fun a b c h1 h2 => ?_) (fun a b => ?_) ss) hlsrt
  · rw [hle] at h1 h2
    by_cases e : a = b
    · exact e
    · have := bl_tot a b e h2
      rw [h1] at this
      cases this
  · rw [hle] at h1 h2 ⊢
    cases hca : Op.bytesLess c a with
    | false => rfl
    | true =>
      by_cases e : b = a
      · subst e; rw [h2] at hca; cases hca
      · have h3 := bl_tot b a e h1
        have h4 := bl_trans _ _ _ hca h3
        rw [h2] at h4
        cases h4
  · cases hba : Op.bytesLess b a with
    | false => rw [le_iff, hba]; rfl
    | true =>
      have : Op.bytesLess a b = false := by
        cases hab : Op.bytesLess a b with
        | false => rfl
        | true => have := bl_trans _ _ _ hab hba; rw [bl_irr] at this; cases this
      rw [le_iff b a, this]
      simp

end Go.Proofs.Ytnkjdoghfdnlaaa

/-
  The library's functions at this program: the numbers, and that their bodies are the library's.
-/
namespace Go.Proofs
open Go.Shelf
def Try.lKeys_ren : Go.Shelf.Ren := ⟨fun | 7 => 52 | 10 => 61 | n => n, fun | 23 => 51 | 26 => 9 | 3 => 31 | 28 => 57 | 0 => 0 | 27 => 56 | 33 => 83 | 4 => 4 | n => n, fun | n => n⟩
theorem Try.lKeys : Go.Proofs.SlLaysZ.n7 Try.prog Try.lKeys_ren := {
  mixed := by kernel_rfl
  f7 := ⟨Try.f52.name, by decide, Try.func52.trans (congrArg some (by kernel_rfl))⟩
  f10 := ⟨Try.f61.name, by decide, Try.func61.trans (congrArg some (by kernel_rfl))⟩
  t0 := Try.underlying0
  a0 := Try.isAgg0
  z0 := Try.sizeOf0
  v0 := Try.zeroValue0
  t4 := Try.underlying4
  a4 := Try.isAgg4
  z4 := Try.sizeOf4
  v4 := Try.zeroValue4
  t23 := Try.underlying51
  a23 := Try.isAgg51
  z23 := Try.sizeOf51
  v23 := Try.zeroValue51
  t26 := Try.underlying9
  a26 := Try.isAgg9
  z26 := Try.sizeOf9
  v26 := Try.zeroValue9
  t27 := Try.underlying56
  a27 := Try.isAgg56
  z27 := Try.sizeOf56
  v27 := Try.zeroValue56
  t28 := Try.underlying57
  a28 := Try.isAgg57
  z28 := Try.sizeOf57
  v28 := Try.zeroValue57
  t33 := Try.underlying83
  a33 := Try.isAgg83
  z33 := Try.sizeOf83
  v33 := Try.zeroValue83 }
def Try.lSorted_ren : Go.Shelf.Ren := ⟨fun | 6 => 51 | 8 => 59 | 9 => 60 | 11 => 62 | 13 => 64 | 12 => 63 | 23 => 74 | 24 => 75 | 14 => 65 | 15 => 66 | 16 => 67 | 17 => 68 | 18 => 69 | 19 => 70 | 20 => 71 | 21 => 72 | 22 => 73 | 25 => 76 | 26 => 77 | 27 => 78 | 28 => 79 | 29 => 80 | 30 => 81 | 31 => 82 | n => n, fun | 26 => 9 | 28 => 57 | 24 => 91 | 0 => 0 | 3 => 3 | 37 => 103 | 48 => 116 | 50 => 118 | 4 => 4 | 40 => 109 | 39 => 108 | 45 => 99 | 5 => 5 | 9 => 9 | 51 => 119 | 55 => 123 | 57 => 125 | 58 => 126 | 33 => 83 | n => n, fun | n => n⟩
theorem Try.lSorted : Go.Proofs.SlLaysZ.n6 Try.prog Try.lSorted_ren := {
  mixed := by kernel_rfl
  f6 := ⟨Try.f51.name, by decide, Try.func51.trans (congrArg some (by kernel_rfl))⟩
  f8 := ⟨Try.f59.name, by decide, Try.func59.trans (congrArg some (by kernel_rfl))⟩
  f11 := ⟨Try.f62.name, by decide, Try.func62.trans (congrArg some (by kernel_rfl))⟩
  t0 := Try.underlying0
  a0 := Try.isAgg0
  z0 := Try.sizeOf0
  v0 := Try.zeroValue0
  t24 := Try.underlying91
  a24 := Try.isAgg91
  z24 := Try.sizeOf91
  v24 := Try.zeroValue91
  t26 := Try.underlying9
  a26 := Try.isAgg9
  z26 := Try.sizeOf9
  v26 := Try.zeroValue9
  t28 := Try.underlying57
  a28 := Try.isAgg57
  z28 := Try.sizeOf57
  v28 := Try.zeroValue57
  i26 := by kernel_rfl }
def Try.lSort_ren : Go.Shelf.Ren := ⟨fun | 6 => 60 | 8 => 64 | 9 => 63 | 19 => 74 | 20 => 75 | 21 => 65 | 22 => 66 | 23 => 67 | 24 => 68 | 25 => 69 | 26 => 70 | 27 => 71 | 28 => 72 | 29 => 73 | 36 => 76 | 31 => 77 | 32 => 78 | 37 => 79 | 38 => 80 | 39 => 81 | 41 => 82 | n => n, fun | 27 => 91 | 29 => 9 | 3 => 3 | 32 => 103 | 26 => 91 | 0 => 0 | 44 => 116 | 46 => 118 | 4 => 4 | 36 => 109 | 35 => 108 | 41 => 99 | 5 => 5 | 9 => 9 | 53 => 119 | 57 => 123 | 63 => 125 | 64 => 126 | n => n, fun | n => n⟩
theorem Try.lSort : Go.Proofs.SlLaysM.n6 Try.prog Try.lSort_ren := {
  mixed := by kernel_rfl
  f6 := ⟨Try.f60.name, by decide, Try.func60.trans (congrArg some (by kernel_rfl))⟩
  f8 := Try.func64.trans (congrArg some (by kernel_rfl))
  f9 := ⟨Try.f63.name, by decide, Try.func63.trans (congrArg some (by kernel_rfl))⟩
  f19 := Try.func74.trans (congrArg some (by kernel_rfl))
  f20 := Try.func75.trans (congrArg some (by kernel_rfl))
  f21 := ⟨Try.f65.name, by decide, Try.func65.trans (congrArg some (by kernel_rfl))⟩
  f22 := ⟨Try.f66.name, by decide, Try.func66.trans (congrArg some (by kernel_rfl))⟩
  f23 := ⟨Try.f67.name, by decide, Try.func67.trans (congrArg some (by kernel_rfl))⟩
  f24 := ⟨Try.f68.name, by decide, Try.func68.trans (congrArg some (by kernel_rfl))⟩
  f25 := ⟨Try.f69.name, by decide, Try.func69.trans (congrArg some (by kernel_rfl))⟩
  f26 := ⟨Try.f70.name, by decide, Try.func70.trans (congrArg some (by kernel_rfl))⟩
  f27 := ⟨Try.f71.name, by decide, Try.func71.trans (congrArg some (by kernel_rfl))⟩
  f28 := ⟨Try.f72.name, by decide, Try.func72.trans (congrArg some (by kernel_rfl))⟩
  f29 := ⟨Try.f73.name, by decide, Try.func73.trans (congrArg some (by kernel_rfl))⟩
  f31 := Try.func77.trans (congrArg some (by kernel_rfl))
  f32 := Try.func78.trans (congrArg some (by kernel_rfl))
  f36 := ⟨Try.f76.name, by decide, Try.func76.trans (congrArg some (by kernel_rfl))⟩
  f37 := ⟨Try.f79.name, by decide, Try.func79.trans (congrArg some (by kernel_rfl))⟩
  f38 := ⟨Try.f80.name, by decide, Try.func80.trans (congrArg some (by kernel_rfl))⟩
  f39 := ⟨Try.f81.name, by decide, Try.func81.trans (congrArg some (by kernel_rfl))⟩
  f41 := ⟨Try.f82.name, by decide, Try.func82.trans (congrArg some (by kernel_rfl))⟩
  t0 := Try.underlying0
  a0 := Try.isAgg0
  z0 := Try.sizeOf0
  v0 := Try.zeroValue0
  t3 := Try.underlying3
  a3 := Try.isAgg3
  z3 := Try.sizeOf3
  v3 := Try.zeroValue3
  t4 := Try.underlying4
  a4 := Try.isAgg4
  z4 := Try.sizeOf4
  v4 := Try.zeroValue4
  t5 := Try.underlying5
  a5 := Try.isAgg5
  z5 := Try.sizeOf5
  v5 := Try.zeroValue5
  t9 := Try.underlying9
  a9 := Try.isAgg9
  z9 := Try.sizeOf9
  v9 := Try.zeroValue9
  t26 := Try.underlying91
  a26 := Try.isAgg91
  z26 := Try.sizeOf91
  v26 := Try.zeroValue91
  t27 := Try.underlying91
  a27 := Try.isAgg91
  z27 := Try.sizeOf91
  v27 := Try.zeroValue91
  t29 := Try.underlying9
  a29 := Try.isAgg9
  z29 := Try.sizeOf9
  v29 := Try.zeroValue9
  t32 := Try.underlying103
  a32 := Try.isAgg103
  z32 := Try.sizeOf103
  v32 := Try.zeroValue103
  t35 := Try.underlying108
  a35 := Try.isAgg108
  z35 := Try.sizeOf108
  v35 := Try.zeroValue108
  t36 := Try.underlying109
  a36 := Try.isAgg109
  z36 := Try.sizeOf109
  v36 := Try.zeroValue109
  t41 := Try.underlying99
  a41 := Try.isAgg99
  z41 := Try.sizeOf99
  v41 := Try.zeroValue99
  t44 := Try.underlying116
  a44 := Try.isAgg116
  z44 := Try.sizeOf116
  v44 := Try.zeroValue116
  t46 := Try.underlying118
  a46 := Try.isAgg118
  z46 := Try.sizeOf118
  v46 := Try.zeroValue118
  t53 := Try.underlying119
  a53 := Try.isAgg119
  z53 := Try.sizeOf119
  v53 := Try.zeroValue119
  t57 := Try.underlying123
  a57 := Try.isAgg123
  z57 := Try.sizeOf123
  v57 := Try.zeroValue123
  t63 := Try.underlying125
  a63 := Try.isAgg125
  z63 := Try.sizeOf125
  v63 := Try.zeroValue125
  t64 := Try.underlying126
  a64 := Try.isAgg126
  z64 := Try.sizeOf126
  v64 := Try.zeroValue126 }
end Go.Proofs

/-
  slices.Sorted(maps.Keys(files)): the names, rising.
-/
namespace Go.Proofs.Ytnkjdoghfdnlaaa
open Go.RowKit Go.Maps Go.Sort Go.Shelf
set_option linter.unusedVariables false

theorem sorts12 (m : Nat) : AnyZ.SortsIn Try.prog Try.lSorted_ren Fence.wide m :=
  ⟨fun blk off cap ss W hH hblk hsz => callsIn_wide.2 (AnyM.slices_Sort_string Try.lSort blk off cap ss W hH hblk hsz),
   fun p cap W => callsIn_wide.2 (AnyM.slices_Sort_string_none Try.lSort p cap W)⟩
theorem keys12 (mb : Option Nat) (W : World) : CallsIn Fence.wide 5 Try.prog 52 #[.map mb] W fun e w' => e = .returned (.func (.func 61) #[] #[.pointer (some ⟨W.heap.size, 0, none⟩)]) ∧ w' = W.alloc (.cells #[.map mb] 51) := AnyZ.keys_in Try.lKeys Fence.wide 5 trivial rfl mb W
set_option maxHeartbeats 1000000 in
theorem sorted12 (d s : Nat) (rs : List Rw) (D : Dm) (w : World) (h : DkAt w d s rs D) (hwt : wt rs ≤ 16777216) {l : List (ByteArray × List Int)} (hl : FL (play rs) l) :
    CallsIn Fence.wide 5 Try.prog 51 #[.func (.func 61) #[] #[.pointer (some ⟨w.heap.size, 0, none⟩)]] (w.alloc (.cells #[.map (some D.m)] 51)) fun e w' => ∃ v, e = .returned v ∧ w'.ownsRow w.heap.size 9 1 v l.length (nmsC l) ∧ Below w.heap.size w w' := by
  obtain ⟨b1, b2⟩ := h.bounds hwt
  obtain ⟨Rd, hR1, _⟩ := reads_ex w
  obtain ⟨L, hown, hLp⟩ := h.fil.owns b1 b2 hR1
  have hbl := hown.lt
  have hlen : Maps.size (DataW.map L) = D.fm.length := by
    have := hLp.length_eq
    rw [List.length_map] at this
    exact this
  have hseq : SeqGives Fence.wide 2 Try.prog 61 #[.pointer (some ⟨w.heap.size, 0, none⟩)] encStr (fun ss => ss.Perm (strKeys (DataW.map L))) (Maps.size (DataW.map L)) (w.alloc (.cells #[.map (some D.m)] 51)) :=
    AnyZ.keys_gives (ρ := Try.lKeys_ren) { Try.lKeys with } Fence.wide _ trivial rfl (by omega) w.heap.size D.m D.fm.length (DataW.map L) _ (by simp) (by simp) (by
      obtain ⟨es, clock, hb, Ft, hs, hD⟩ := hown
      exact ⟨es, clock, (Below.heap_alloc _ _ D.m hbl).trans hb, Ft, hs, hD⟩)
  have hsm : Maps.size (DataW.map L) ≤ 16777216 := by rw [hlen]; exact b2
  have cS := AnyZ.sorted_in Try.lSorted Fence.wide 5 trivial trivial trivial trivial rfl (by omega) (sorts12 _) (enters_of Try.func60 (by kernel_rfl) rfl) 61 #[.pointer (some ⟨w.heap.size, 0, none⟩)] trivial (enters_of Try.func61 (by kernel_rfl) rfl) _ _ (by unfold maxLen; omega) (by omega) _ hseq
  change CallsIn _ _ Try.prog 51 _ _ _ at cS
  refine cS.mono ?_
  rintro e w' ⟨v, ss, rfl, hS, hrow, _, hb⟩
  have hp : ss.Perm ((D.fm.map (·.1)).map fun x => x.toList) := by
    refine hS.trans ?_
    have h1 : (strKeys (DataW.map L)).Perm ((D.fm.map (ent (play rs))).map fun p => Go.strOf p.1) := hLp.map _
    refine h1.trans (List.Perm.of_eq ?_)
    rw [List.map_map, List.map_map]
    apply List.map_congr_left
    intro x _
    show x.1.data.toList = x.1.toList
    rw [ByteArray.toList_eq]
  have hsort := sort_names hl h.fil.map.one (fun n => by
    constructor
    · intro hn
      obtain ⟨x, hx, rfl⟩ := List.mem_map.1 hn
      rw [h.fil.some hx]
      rfl
    · intro hn
      cases hf : play rs n with
      | none => rw [hf] at hn; cases hn
      | some xs =>
        obtain ⟨u, hu, _⟩ := h.fil.mem hf
        exact List.mem_map.2 ⟨_, hu, rfl⟩) hp
  have hlen2 : ss.length = l.length := by
    have := congrArg List.length hsort
    rw [List.length_mergeSort, List.length_map] at this
    exact this
  refine ⟨v, rfl, ?_, ((Below.refl _ w).alloc (Nat.le_refl _) _).trans (hb.mono (by simp))⟩
  have h2 := ownsRow_base_a hrow (base' := w.heap.size) (by simp)
  rw [hsort, hlen2, List.map_map] at h2
  have h3 : (l.map (encStr ∘ fun x => x.1.toList)) = nmsC l := by
    unfold nmsC
    apply List.map_congr_left
    intro x _
    show encStr x.1.toList = .string x.1
    unfold encStr
    congr 1
    apply bytes_inj
    rw [ByteArray.toList_eq, ByteArray.toList_eq]
  rw [h3] at h2
  exact h2

end Go.Proofs.Ytnkjdoghfdnlaaa

/-
  The program's way through the names.
-/
namespace Go.Proofs.Ytnkjdoghfdnlaaa
open Go.RowKit Go.Maps Go.Sort Go.Shelf
set_option linter.unusedVariables false

theorem st_at (g n cap i : Nat) (hi : i < n) (W : World) : (Instr.indexAt 91 (.slice (some ⟨g, 0, none⟩) n cap) (.int .i64 (i : Int))).run Try.prog W = .ok (.pointer (some ⟨g, i, none⟩)) W := by
  have := vw_at rSt g n cap i hi W
  rw [Nat.mul_one] at this
  exact this
/-- What the program's iterator asks of a round that goes on: all cells but those of block b6 are left. -/
structure KL (b6 : Nat) (A C : World) : Prop where
  size : A.heap.size ≤ C.heap.size
  keep : ∀ (k : Nat) (o : Obj), A.heap[k]? = some o → o.isCells = true → k ≠ b6 → C.heap[k]? = some o
theorem KL.trans {b6 : Nat} {A C D : World} (h : KL b6 A C) (k : KL b6 C D) : KL b6 A D := ⟨Nat.le_trans h.size k.size, fun i o ho hc hx => k.keep i o (h.keep i o ho hc hx) hc hx⟩
theorem KL.book {b6 : Nat} (W : World) (l : Nat) (o o' : Obj) (h : W.heap[l]? = some o) (hc : o.isCells = false) : KL b6 W (W.putObj l o') :=
  ⟨(grownBy_putObj' W l o').size, fun k q hq hcq _ => by
    have hne : k ≠ l := fun e => by
      subst e
      rw [h] at hq
      injection hq with hq
      subst hq
      rw [hc] at hcq
      cases hcq
    rw [World.putObj_heap_other hne]
    exact hq⟩
theorem KL.below {b6 : Nat} {A C : World} (h : Below A.heap.size A C) : KL b6 A C := ⟨h.size, fun k o hk _ _ => (h.block k (Array.getElem?_eq_some_iff.1 hk).1).trans hk⟩
theorem KL.but {b6 g : Nat} {A C : World} (h : But g A C) (hg : g = b6) : KL b6 A C := ⟨Nat.le_of_eq h.size.symm, fun k o hk _ hx => (h.block k (by rw [hg]; exact hx)).trans hk⟩
/-- What is handed out behind pre is the next name. -/
def RL (ls : List (ByteArray × List Int)) (pre : List ByteArray) (x : ByteArray) (W : World) : Prop := pre = (ls.take pre.length).map (·.1) ∧ ∃ ys, ls[pre.length]? = some (x, ys)
set_option maxRecDepth 100000 in
set_option maxHeartbeats 2000000 in
theorem list_seq (Bs b6 d s : Nat) (rs : List Rw) (D : Dm) {ls : List (ByteArray × List Int)} (hl : FL (play rs) ls) (hwt : wt rs ≤ 16777216) (w : World) (hb6 : b6 < w.heap.size) (hBs0 : Blk w Bs 23 [.pointer (some ⟨d, 0, none⟩)]) (hd0 : DkAt w d s rs D) :
    SeqR Fence.wide 6 Try.prog 50 #[.pointer (some ⟨Bs, 0, none⟩)] (fun x : ByteArray => #[.string x]) (RL ls) (fun _ => KL b6) (fun ys => ys = ls.map (·.1)) (fun pre => pre <+: ls.map (·.1)) w := by
  intro l J Jx W hbw hJ hJx hY h0
  have h : DkAt W d s rs D := hd0.below hbw
  have hBs : W.cell? ⟨Bs, 0, none⟩ = some (.pointer (some ⟨d, 0, none⟩)) := by rw [(hBs0.on hbw).cell]; rfl
  replace hb6 : b6 < W.heap.size := Nat.lt_of_lt_of_le hb6 hbw.size
  clear hbw hBs0 hd0 hJx
  obtain ⟨c0, c1, c3, hp⟩ := h.made
  have hlen : ls.length ≤ 16777216 := by
    have h1 : ls.length ≤ D.fm.length := by
      have h2 := sub_len (ls.map (·.1)) (D.fm.map (·.1)) (by rw [List.Nodup, List.pairwise_map]; exact hl.srt.imp (fun {a b} hab => blt_ne hab)) (fun n hn => by
        obtain ⟨x, hx, rfl⟩ := List.mem_map.1 hn
        obtain ⟨u, hu, _⟩ := h.fil.mem ((hl.mem x.1 x.2).2 hx)
        exact List.mem_map.2 ⟨_, hu, rfl⟩)
      simpa using h2
    have h3 := (h.bounds hwt).2
    omega
  have hS := sorted12 d s rs D W h hwt hl
  have HS := hide hS
  have HYY := hide hY
  have HJJ := hide hJ
  have H0 := hide h0
  have hfK : Fence.wide.fn 52 := trivial
  have hfS : Fence.wide.fn 51 := trivial
  have hfM : Fence.wide.fn 43 := trivial
  clear h hS hY hJ h0 c3
  generalize hL : ls.length = L at *
  have HL := hide hL
  clear hL
  refine callsIn_of_wp Try.func50 rfl trivial ?_ rfl
  simp only [Try.ntmps50, List.size_toArray, List.length_cons, List.length_nil, Nat.reduceAdd, Nat.reduceSub, Array.replicate_succ, Array.replicate_zero, List.push_toArray, List.append_toArray, List.nil_append, List.cons_append]
  gi_wp2_with (first
    | (gi_at_call 43; refine (callsIn_wide.2 (made_ok _ _ _ c0 hp)).mono ?_; rintro e W ⟨rfl, rfl⟩)
    | (gi_at_call 52; refine (keys12 _ _).mono ?_; rintro e w' ⟨rfl, rfl⟩)
    | (gi_at_call 51; refine HS.out.mono ?_; rintro e W2 ⟨v, rfl, hrow, hb⟩; obtain ⟨va, vc, hve⟩ := row_slice hrow; subst hve))
  have J2 : J [] W2 := HJJ.out [] W W2 none H0.out ⟨hb.os, hb.tape, hb.output, hb.size, fun i hi _ => hb.block i hi⟩ (fun r e => by cases e)
  have HJ2 := hide J2
  have HROW := hide hrow
  clear J2 hrow hb c0 c1
  gi_loopw [15] (fun c wr => ∃ k : Nat, k ≤ L ∧ c = .int .i64 (k : Int) ∧ Hid (J ((ls.take k).map (·.1)) wr) ∧ Hid (wr.ownsRow W.heap.size 9 1 (.slice va L vc) L (nmsC ls))) (fun c _ => L - (intOf c).toNat)
  case atStart => exact ⟨0, Nat.zero_le _, rfl, HJ2, HROW⟩
  case round =>
    obtain ⟨k, hk, rfl, HJk, HRk⟩ := hrel
    by_cases hlt : k < L
    · have hlti : (k : Int) < (L : Int) := by omega
      obtain ⟨x, hx⟩ : ∃ x, ls[k]? = some x := ⟨_, List.getElem?_eq_getElem (by rw [HL.out]; exact hlt)⟩
      obtain ⟨g, cap, cs, e1, hg, hcs, _⟩ := row_at HRk.out (by omega)
      injection e1 with e1 e2 e3
      clear e2
      subst e1 e3
      have hix := st_at g L vc k hlt
      have hcell : wr.cell? ⟨g, k, none⟩ = some (.string x.1) := by
        rw [hg.cell]
        have h1 : (nmsC ls)[k]? = some (.string x.1) := by unfold nmsC; rw [List.getElem?_map, hx]; rfl
        rw [← hcs, List.getElem?_take, if_pos (by omega)] at h1
        exact h1
      have HET : Hid ((ls.take (k + 1)).map (·.1) = (ls.take k).map (·.1) ++ [x.1]) := hide (by
        obtain ⟨hi, rfl⟩ := List.getElem?_eq_some_iff.1 hx
        rw [List.take_succ_eq_append_getElem hi, List.map_append]
        rfl)
      have HPRE : Hid ((ls.take (k + 1)).map (·.1) <+: ls.map (·.1)) := hide ((List.take_prefix _ _).map _)
      have hpl : ((ls.take k).map (·.1)).length = k := by rw [List.length_map, List.length_take]; have := HL.out; omega
      obtain ⟨fn, tmps, assign, body, hy, hR⟩ := HYY.out _ x.1 wr HJk.out ⟨by rw [hpl], x.2, by rw [hpl]; exact hx⟩
      have hge := row_ge HRk.out (k := g) rfl
      clear hx hg hcs hpl
      gi_wp2
      refine hR.mono ?_
      rintro e W3 (⟨rfl, hJ3, hk3⟩ | ⟨rfl, hJx3⟩)
      · rw [← HET.out] at hJ3
        have HJ3 := hide hJ3
        have HR3 : Hid (W3.ownsRow W.heap.size 9 1 (.slice (some ⟨g, 0, none⟩) L vc) L (nmsC ls)) := hide (row_same HRk.out (fun q hq => by
          obtain ⟨cs', hc'⟩ := row_lies HRk.out hq
          have h9 := row_ge HRk.out hq
          exact (hk3.keep q _ hc' rfl (fun e => by omega)).trans hc'.symm))
        clear hJ3 hk3
        gi_wp2
        go_roundw
        case rel => exact ⟨k + 1, by omega, by go_num, HJ3, HR3⟩
        case measure => simp [intOf]; omega
      · rw [← HET.out] at hJx3
        gi_wp2
        refine bodyPost_ret (results_none rfl _ _ _) rfl ?_
        exact ⟨⟨_, rfl⟩, .inr ⟨_, HPRE.out, hJx3⟩⟩
    · have hlti : ¬ (k : Int) < (L : Int) := by omega
      have e1 : k = L := by omega
      have hfin := HJk.out
      rw [e1, List.take_of_length_le (by rw [HL.out]; omega)] at hfin
      have HFIN := hide hfin
      clear hfin
      gi_wp2
      go_end0
      exact ⟨⟨_, rfl⟩, .inl HFIN.out⟩

end Go.Proofs.Ytnkjdoghfdnlaaa

/-
  What the law's stands looks at: names that may be, and the memory that stands through it.
-/
namespace Go.Proofs.Ytnkjdoghfdnlaaa
open Go.RowKit Go.Shelf
set_option linter.unusedVariables false

theorem val_nm {s : Nat} : ∀ (rs : List Rw) (f : ByteArray → Option (List Int)), Val s f rs → (∀ n xs, f n = some xs → nmB n = true) → ∀ n xs, (rs.foldl doR f) n = some xs → nmB n = true
  | [], f, _, h => h
  | r :: t, f, hv, h => by
    refine val_nm t (doR f r) hv.2 (fun n xs hn => ?_)
    have key : ∀ (g : ByteArray → Option (List Int)) (m : ByteArray) (u : Option (List Int)), (∀ n xs, g n = some xs → nmB n = true) → (u = none ∨ nmB m = true) → ∀ n xs, upd g m u n = some xs → nmB n = true := by
      intro g m u h1 h2 n xs hn
      unfold upd at hn
      split at hn
      · rename_i e
        rcases h2 with h2 | h2
        · rw [h2] at hn; cases hn
        · rw [e]; exact h2
      · exact h1 n xs hn
    rcases hv.1.1 with ⟨m, rfl, hm, _⟩ | ⟨m, b, ys, rfl, hm, _⟩ | ⟨m, k, ys, rfl, hm, _⟩ | ⟨m, ys, rfl, hm, _⟩ | ⟨m, u, ys, rfl, hm, hu, _⟩
    · rw [do_cr] at hn; exact key _ _ _ h (.inr hm) n xs hn
    · rw [do_ap] at hn; exact key _ _ _ h (.inr hm) n xs hn
    · rw [do_cu] at hn; exact key _ _ _ h (.inr hm) n xs hn
    · rw [do_rm] at hn; exact key _ _ _ h (.inr hm) n xs hn
    · rw [do_rn] at hn; exact key _ _ _ (key _ _ _ h (.inr hu)) (.inr hm) n xs hn
theorem RkAt.nm {w : World} {r s : Nat} {rs : List Rw} {R : Rm} (h : RkAt w r s rs R) {n : ByteArray} {xs : List Int} (hn : play rs n = some xs) : nmB n = true := val_nm rs _ h.val (fun n xs h => by cases h) n xs hn

/-- What stands through the law's stands. -/
structure SS (w W : World) (b2 b3 b4 b5 d r s : Nat) (rs : List Rw) (D : Dm) (R : Rm) (av : Option Addr) (cv : Nat) : Prop where
  c2 : Blk W b2 23 [.pointer (some ⟨d, 0, none⟩)]
  c3 : Blk W b3 27 [.pointer (some ⟨r, 0, none⟩)]
  c4 : Blk W b4 4 [.bool false]
  c5 : Blk W b5 91 [.slice av R.l.length cv]
  row : W.ownsRow w.heap.size 9 1 (.slice av R.l.length cv) R.l.length (nmsC R.l)
  dk : DkAt W d s rs D
  rk : RkAt W r s rs R
  bel : Below w.heap.size w W
  l4 : w.heap.size ≤ b4
section
variable {w W W' : World} {b2 b3 b4 b5 d r s : Nat} {rs : List Rw} {D : Dm} {R : Rm} {av : Option Addr} {cv : Nat}
theorem SS.on (h : SS w W b2 b3 b4 b5 d r s rs D R av cv) (hb : Below W.heap.size W W') : SS w W' b2 b3 b4 b5 d r s rs D R av cv :=
  ⟨h.c2.on hb, h.c3.on hb, h.c4.on hb, h.c5.on hb, row_on h.row hb, h.dk.below hb, h.rk.below hb, on_below h.bel hb, h.l4⟩
theorem SS.q2 (h : SS w W b2 b3 b4 b5 d r s rs D R av cv) : W.cell? ⟨b2, 0, none⟩ = some (.pointer (some ⟨d, 0, none⟩)) := by rw [h.c2.cell]; rfl
theorem SS.q3 (h : SS w W b2 b3 b4 b5 d r s rs D R av cv) : W.cell? ⟨b3, 0, none⟩ = some (.pointer (some ⟨r, 0, none⟩)) := by rw [h.c3.cell]; rfl
theorem SS.q5 (h : SS w W b2 b3 b4 b5 d r s rs D R av cv) : W.cell? ⟨b5, 0, none⟩ = some (.slice av R.l.length cv) := by rw [h.c5.cell]; rfl
theorem SS.r0 (h : SS w W b2 b3 b4 b5 d r s rs D R av cv) : W.cell? ⟨r, 0, none⟩ = some (.int .i64 (s : Int)) := by rw [h.rk.fk.blk.cell]; rfl
theorem SS.r2 (h : SS w W b2 b3 b4 b5 d r s rs D R av cv) : ∃ a c, R.qv = .slice a rs.length c ∧ W.cell? ⟨r, 2, none⟩ = some (.slice a rs.length c) := by
  obtain ⟨a, c, e⟩ := row_slice h.rk.row
  rw [h.rk.qlen] at e
  exact ⟨a, c, e, by rw [h.rk.fk.blk.cell, ← e]; rfl⟩
end
/-- What the loop over the names keeps besides: its counter. -/
structure AS (W3 W : World) (b6 : Nat) (i : Nat) : Prop where
  bel : Below W3.heap.size W3 W
  c6 : Blk W b6 3 [.int .i64 (i : Int)]
  l6 : W3.heap.size ≤ b6
theorem AS.kept {W3 A C : World} {b6 B i : Nat} {row : Option Nat} (h : AS W3 A b6 i) (hB : W3.heap.size ≤ B) (hg : A.grownBy C row) (hr : ∀ r, row = some r → B ≤ r ∧ ∃ o : Obj, A.heap[r]? = some o ∧ o.isCells = false) : AS W3 C b6 i :=
  ⟨h.bel.grown hg h.bel.size (fun r e => Nat.le_trans hB (hr r e).1), h.c6.kept hg (fun r e => (hr r e).2), h.l6⟩
theorem AS.on {W3 A C : World} {b6 i : Nat} (h : AS W3 A b6 i) (hb : Below A.heap.size A C) : AS W3 C b6 i := ⟨on_below h.bel hb, h.c6.on hb, h.l6⟩
theorem AS.set {W3 W : World} {b6 i : Nat} (h : AS W3 W b6 i) (j : Nat) : AS W3 (W.setCell ⟨b6, 0, none⟩ (.int .i64 (j : Int))) b6 j :=
  ⟨h.bel.trans ((But.setCell W b6 0 (.int .i64 (j : Int))).below h.l6), h.c6.set 0 _, h.l6⟩
theorem AS.but {W3 W W' : World} {b6 i g : Nat} (h : AS W3 W b6 i) (hb : But g W W') (hg : W3.heap.size ≤ g) (hne : b6 ≠ g) : AS W3 W' b6 i := ⟨h.bel.trans (hb.below hg), h.c6.but hb hne, h.l6⟩
theorem rl_own (ls : List (ByteArray × List Int)) (B : Nat) (pre : List ByteArray) (x : ByteArray) : OwnFrom B (fun (_ : Unit) W => RL ls pre x W) := fun _ W W' row h hg hr => h
theorem keepsO_below {A B : World} (h : Below A.heap.size A B) : KeepsOthers A B := ⟨h.size, fun k o hk _ => (h.block k (Array.getElem?_eq_some_iff.1 hk).1).trans hk⟩
theorem keepsO_but {A B : World} {g : Nat} {t : TypeId} {cs : List Value} (h : But g A B) (hg : Blk A g t cs) : KeepsOthers A B := ⟨Nat.le_of_eq h.size.symm, fun k o hk hc => (h.block k (fun e => by
  subst e
  rw [hg] at hk
  injection hk with hk
  subst hk
  cases hc)).trans hk⟩
/-- The law's spoil, of a slice of the call's own, empty or not. -/
theorem spoilL_any (v : Value) (xs : List Int) (B : Nat) (w : World) (ho : Own w B v xs) (hn : xs.length ≤ 281474976710656) :
    Calls Try.prog 14 #[v] w fun e w' => e = .returned (.tuple #[]) ∧ (w' = w ∨ ∃ g, v.ownBlock = some g ∧ But g w w') := by
  rcases ho.2 with ⟨e, h0⟩ | ⟨g, c', cur, e, h⟩
  · subst e
    exact (spoilL_nil 0 none w).mono fun _ _ h => ⟨h.1, .inl h.2⟩
  · subst e
    exact (spoilL_own g _ c' xs B w ho rfl hn).mono fun _ _ h => ⟨h.1, .inr ⟨g, rfl, h.2⟩⟩
/-- Of a file that is there: its size and its bytes. -/
theorem stand_size {w : World} {d s : Nat} {rs : List Rw} {D : Dm} (h : DkAt w d s rs D) {n : ByteArray} {xs : List Int} (hn : nmB n = true) (hf : play rs n = some xs) :
    Calls Try.prog 29 #[.pointer (some ⟨d, 0, none⟩), .string n] w fun e w' => e = .returned (.tuple #[.int .i64 (xs.length : Int), .int .i64 0]) ∧ w' = w := by
  have e0 : fE rs n = 0 := by simp [fE, hn, hf]
  have e1 : fl (play rs) n = xs := by simp [fl, hf]
  have := size_any d s rs D w h n
  rwa [e0, e1, if_pos rfl] at this
theorem stand_read {w : World} {d s : Nat} {rs : List Rw} {D : Dm} (h : DkAt w d s rs D) {n : ByteArray} {xs : List Int} (hn : nmB n = true) (hf : play rs n = some xs) (hwt : wt rs ≤ 16777216) :
    Calls Try.prog 21 #[.pointer (some ⟨d, 0, none⟩), .string n, .int .i64 0, .int .i64 (xs.length : Int)] w fun e w' => ∃ v, e = .returned (.tuple #[v, .int .i64 0]) ∧ Own w' w.heap.size v xs ∧ Below w.heap.size w w' := by
  have e0 : fE rs n = 0 := by simp [fE, hn, hf]
  have e1 : fl (play rs) n = xs := by simp [fl, hf]
  have e2 : rqE rs n 0 (xs.length : Int) = 0 := by
    unfold rqE
    rw [e0, e1, if_pos rfl, if_neg (by omega)]
  have e3 : rqB rs n 0 (xs.length : Int) = xs := by
    unfold rqB
    rw [e2, e1, if_pos rfl]
    simp
  have := read_any d s rs D w h n 0 (xs.length : Int) hwt
  rwa [e2, e3] at this
theorem stand_all {w : World} {r s : Nat} {rs : List Rw} {R : Rm} (h : RkAt w r s rs R) {n : ByteArray} {xs : List Int} (hf : play rs n = some xs) (hwt : wt rs ≤ 16777216) :
    Calls Try.prog 42 #[.pointer (some ⟨r, 0, none⟩), .string n] w fun e w' => e = .returned (.tuple #[.string (str xs), .bool true]) ∧ Below w.heap.size w w' := by
  have e1 : fl (play rs) n = xs := by simp [fl, hf]
  have := all_any r s rs R w h n hwt
  rwa [e1, hf] at this

section
variable {dst : Option Tmp} {ty : TypeId} {pos : String} {aft : Array Edge} {gd : Option (Nat × Bool)} {ops : Array Oper} {rest : List Oper} {a : Act} {w : World} {K : Act → World → Prop} {Q : Exit → Act → World → Prop}
/-- A wide load in a region that draws and whose callees only make new memory. -/
theorem quiet_loadW {Qa : Act → Prop} {T : TypeId} {n : Nat} (hT : Wide T n) {x : Operand} (hw : Region.wanted ⟨dst, .load T x, ty, pos, aft, gd⟩ (yielded ops a.tmps) = true) {g off : Nat} {t : TypeId} {cs vs : List Value} (hx : a.eval x = .pointer (some ⟨g, off, none⟩)) (hg : Blk w g t cs) (hn : vs.length = n) (he : (cs.drop off).take n = vs)
    (h : wpQuiet Try.prog ops (fun w' => ∃ u : Sub w, w' = u.v) Qa rest (a.put dst (.agg vs.toArray))) : wpQuiet Try.prog ops (fun w' => ∃ u : Sub w, w' = u.v) Qa (⟨dst, .load T x, ty, pos, aft, gd⟩ :: rest) a := by
  unfold wpQuiet
  rw [if_pos hw]
  refine ⟨.agg vs.toArray, ?_, h⟩
  rintro _ ⟨u, rfl⟩
  obtain ⟨d, hu, hd⟩ := hT.und
  subst hn
  unfold Oper.quietAt execOp
  simp only [hx, Instr.loadAt, Instr.sureAddr, Sem.run_bind, Sem.run_pure, Result.andThen_ok, run_loadVar_mid u.v g off T vs d ((hg.on u.bel).range off vs he) hu hd hT.size]
  exact ⟨rfl, rfl⟩
theorem wp_storeGT {T : TypeId} {n : Nat} (hT : Wide T n) {x y : Operand} {g : Nat} {t : TypeId} {cs vs : List Value} (hx : a.eval x = .pointer (some ⟨g, 0, none⟩)) (hy : a.eval y = .agg vs.toArray) (hg : Blk w g t cs) (hn : vs.length = n) (h1 : One vs) (hl : cs.length = n)
    (h : ∀ w1, Blk w1 g t vs → But g w w1 → K (a.put dst undef) w1) : Oper.wp Try.prog ⟨dst, .store T x y, ty, pos, aft, gd⟩ a w K Q :=
  wp_storeW hT rfl hx hy hg hn h1 (by omega) fun w1 hb hbut => h w1 (by
    have e : spl cs vs 0 = vs := by
      unfold spl
      rw [List.drop_of_length_le (by omega)]
      simp
    rwa [e] at hb) hbut
end
theorem joinG {T : Program} {c : Code} {a : Act} {w : World} {Q : Exit → Act → World → Prop} {K : Act → World → Prop} (P : Nat → World → Prop) (act : Nat → Act) (h1 : ∀ g W, P g W → K (act g) W) (h2 : (∀ g W, P g W → K (act g) W) → Code.wp T c (Exit.then K Q) a w) : Code.wp T c (Exit.then K Q) a w := h2 h1
theorem max_3 (n : Nat) (h : n ≤ 4611686018427387904) : (if (0 : Int) < wrap64 ((n : Int) - 3) then wrap64 ((n : Int) - 3) else 0) = ((n - 3 : Nat) : Int) := by
  have e : wrap64 ((n : Int) - 3) = (n : Int) - 3 := by unfold wrap64; omega
  rw [e]
  split <;> omega

end Go.Proofs.Ytnkjdoghfdnlaaa

/-
  The law's stands: a disk tells all that the document's does.
-/
namespace Go.Proofs.Ytnkjdoghfdnlaaa
open Go.RowKit Go.Shelf
set_option linter.unusedVariables false
set_option linter.unusedSimpArgs false



set_option maxRecDepth 100000 in
set_option maxHeartbeats 2000000 in
theorem stands_any (d r s : Nat) (rs : List Rw) (D : Dm) (R : Rm) (w : World) (h : DkAt w d s rs D) (h' : RkAt w r s rs R) (hwt : wt rs ≤ 4194304) :
    Calls Try.prog 27 #[.pointer (some ⟨d, 0, none⟩), .pointer (some ⟨r, 0, none⟩)] w fun e w' => e = .returned (.bool true) ∧ Below w.heap.size w w' := by
  have HD := hide h
  have HR := hide h'
  have HW := hide hwt
  have HW2 : Hid (wt rs ≤ 16777216) := hide (by omega)
  clear h h' hwt
  refine (callsIn_wide (n := 7)).1 ?_
  refine callsIn_of_wp_marks Try.func27 rfl trivial ?_ rfl
  refine wpIn_wide.2 ?_
  simp only [Try.ntmps27, List.size_toArray, List.length_cons, List.length_nil, Nat.reduceAdd, Nat.reduceSub, Array.replicate_succ, Array.replicate_zero, List.push_toArray, List.append_toArray, List.nil_append, List.cons_append]
  go_wp2_with fail
  have c2 : Blk (((w.alloc (.cells #[.pointer (some ⟨d, 0, none⟩)] 23)).alloc (.cells #[.pointer (some ⟨r, 0, none⟩)] 27)).alloc (.cells #[.bool false] 4)) w.heap.size 23 [.pointer (some ⟨d, 0, none⟩)] := ((Blk.made w _ _).on ((Below.refl _ _).alloc (Nat.le_refl _) _)).on ((Below.refl _ _).alloc (Nat.le_refl _) _)
  have c3 : Blk (((w.alloc (.cells #[.pointer (some ⟨d, 0, none⟩)] 23)).alloc (.cells #[.pointer (some ⟨r, 0, none⟩)] 27)).alloc (.cells #[.bool false] 4)) (w.heap.size + 1) 27 [.pointer (some ⟨r, 0, none⟩)] := by
    have := (Blk.made (w.alloc (.cells #[.pointer (some ⟨d, 0, none⟩)] 23)) 27 [.pointer (some ⟨r, 0, none⟩)]).on ((Below.refl _ _).alloc (o := .cells #[.bool false] 4) (Nat.le_refl _))
    rwa [World.size_alloc] at this
  have c4 : Blk (((w.alloc (.cells #[.pointer (some ⟨d, 0, none⟩)] 23)).alloc (.cells #[.pointer (some ⟨r, 0, none⟩)] 27)).alloc (.cells #[.bool false] 4)) (w.heap.size + 2) 4 [.bool false] := by
    have := Blk.made ((w.alloc (.cells #[.pointer (some ⟨d, 0, none⟩)] 23)).alloc (.cells #[.pointer (some ⟨r, 0, none⟩)] 27)) 4 [.bool false]
    rwa [World.size_alloc, World.size_alloc] at this
  have B0 : Below w.heap.size w (((w.alloc (.cells #[.pointer (some ⟨d, 0, none⟩)] 23)).alloc (.cells #[.pointer (some ⟨r, 0, none⟩)] 27)).alloc (.cells #[.bool false] 4)) := (((Below.refl _ w).alloc (Nat.le_refl _) _).alloc (by simp) _).alloc (by simp; omega) _
  revert c2 c3 c4 B0
  generalize ((w.alloc (.cells #[.pointer (some ⟨d, 0, none⟩)] 23)).alloc (.cells #[.pointer (some ⟨r, 0, none⟩)] 27)).alloc (.cells #[.bool false] 4) = W0
  obtain ⟨b2, hb2⟩ : ∃ b, w.heap.size = b := ⟨_, rfl⟩
  obtain ⟨b3, hb3⟩ : ∃ b, w.heap.size + 1 = b := ⟨_, rfl⟩
  obtain ⟨b4, hb4⟩ : ∃ b, w.heap.size + 1 + 1 = b := ⟨_, rfl⟩
  have HB4 : Hid (w.heap.size ≤ b4) := hide (by omega)
  intro c2 c3 c4 B0
  rw [hb3] at c3
  rw [hb4] at c4
  rw [hb2] at c2
  rw [hb4, hb3, hb2]
  have C2 := hide c2
  have C3 := hide c3
  have C4 := hide c4
  have BB0 := hide B0
  clear c2 c3 c4 B0 hb2 hb3 hb4
  refine (listR_any r s rs R W0 (HR.out.below BB0.out) HW2.out).mono ?_
  rintro _ W1 ⟨v, rfl, hrow, hb1⟩
  obtain ⟨av, cv, rfl⟩ := row_slice hrow
  have ROW := hide hrow
  have BB1 := hide hb1
  clear hrow hb1
  go_upto_region 3 with fail
  have hbA : Below W1.heap.size W1 (W1.alloc (.cells #[.slice av R.l.length cv] 91)) := (Below.refl _ _).alloc (Nat.le_refl _) _
  have S1 : Hid (SS w (W1.alloc (.cells #[.slice av R.l.length cv] 91)) b2 b3 b4 W1.heap.size d r s rs D R av cv) := hide
    ⟨(C2.out.on BB1.out).on hbA, (C3.out.on BB1.out).on hbA, (C4.out.on BB1.out).on hbA, Blk.made W1 _ _, ownsRow_base_a (row_on ROW.out hbA) BB0.out.size, (HD.out.below (on_below BB0.out BB1.out)).below hbA, (HR.out.below (on_below BB0.out BB1.out)).below hbA, on_below (on_below BB0.out BB1.out) hbA, HB4.out⟩
  have A1 : Hid (AS (W1.alloc (.cells #[.slice av R.l.length cv] 91)) ((W1.alloc (.cells #[.slice av R.l.length cv] 91)).alloc (.cells #[.int .i64 0] 3)) (W1.heap.size + 1) 0) := hide
    ⟨(Below.refl _ _).alloc (Nat.le_refl _) _, by have := Blk.made (W1.alloc (.cells #[.slice av R.l.length cv] 91)) 3 [.int .i64 0]; rwa [World.size_alloc] at this, by simp⟩
  clear hbA C2 C3 C4 BB0 BB1 ROW
  revert S1 A1
  generalize (W1.alloc (.cells #[.slice av R.l.length cv] 91)).alloc (.cells #[.int .i64 0] 3) = W4
  generalize W1.alloc (.cells #[.slice av R.l.length cv] 91) = W3
  obtain ⟨b6, hb6⟩ : ∃ b, W1.heap.size + 1 = b := ⟨_, rfl⟩
  obtain ⟨b5, hb5⟩ : ∃ b, W1.heap.size = b := ⟨_, rfl⟩
  rw [hb6, hb5]
  intro S1 A1
  clear hb6 hb5
  have S4 := hide (S1.out.on A1.out.bel)
  have k2 := S4.out.q2
  go_wp2_with fail
  refine (list_any (some ⟨d, 0, none⟩) _).mono ?_
  rintro _ W5 ⟨rfl, rfl⟩
  have hbA : Below W4.heap.size W4 (W4.alloc (.cells #[.pointer (some ⟨d, 0, none⟩)] 23)) := (Below.refl _ _).alloc (Nat.le_refl _) _
  have S5 := hide (S4.out.on hbA)
  have A5 := hide (A1.out.on hbA)
  clear hbA k2 S4 A1
  revert S5 A5
  generalize W4.alloc (.cells #[.pointer (some ⟨d, 0, none⟩)] 23) = W5
  generalize W4.heap.size = bx0
  intro S5 A5
  have heq : ∀ v : World, (binOp BinOp.eql 57 (.func (.func 50) #[] #[.pointer (some ⟨bx0, 0, none⟩)]) .nilFunc).run Try.prog v = .ok (.bool false) v := fun v => by kernel_rfl
  have k2 := S5.out.q2
  go_wp2_with fail
  refine (list_any (some ⟨d, 0, none⟩) _).mono ?_
  rintro _ W6 ⟨rfl, rfl⟩
  have hbA : Below W5.heap.size W5 (W5.alloc (.cells #[.pointer (some ⟨d, 0, none⟩)] 23)) := (Below.refl _ _).alloc (Nat.le_refl _) _
  have S6 := hide (S5.out.on hbA)
  have A6 := hide (A5.out.on hbA)
  have BX : Hid (Blk (W5.alloc (.cells #[.pointer (some ⟨d, 0, none⟩)] 23)) W5.heap.size 23 [.pointer (some ⟨d, 0, none⟩)]) := hide (Blk.made _ _ _)
  clear hbA k2 S5 A5 heq
  revert S6 A6 BX
  generalize W5.alloc (.cells #[.pointer (some ⟨d, 0, none⟩)] 23) = W6
  generalize W5.heap.size = bx
  intro S6 A6 BX
  have hB6 : b6 < W6.heap.size := A6.out.c6.lt
  have hB3 : W3.heap.size ≤ W6.heap.size := A6.out.bel.size
  have HSQ := hide (list_seq bx b6 d s rs D S6.out.rk.fls HW2.out W6 hB6 BX.out S6.out.dk)
  go_wp2_with fail
  refine (wpIn_wide (n := 7)).1 ?_
  refine rangeR rfl (by decide) (gf := 50) (lb := #[.pointer (some ⟨bx, 0, none⟩)]) rfl trivial (enters_of Try.func50 (by kernel_rfl) rfl)
    HSQ.out KL.trans (fun x W l o o' hl h hc => KL.book W l o o' h hc) (fun _ => rfl) (fun pre x => rl_own _ _ pre x)
    (fun pre W => AS W3 W b6 pre.length) (fun _ _ _ => False)
    (fun _ A C row h hg hr => h.kept hB3 hg hr) (fun c _ A C row h hg hr => h)
    A6.out ?act ?assign ?body ?done ?stop
  case assign =>
    rintro l x W K hK
    have hsem := Oper.semAt_some
    gi_wp2
    exact hK
  case stop =>
    rintro D2 c pre W9 hD2 hSp h hK3
    exact h.elim
  case body =>
    rintro l pre x W hA ⟨hp1, ys, hx⟩
    have hsem := Oper.semAt_some
    obtain ⟨k, HKK⟩ : ∃ k, Hid (pre.length = k) := ⟨_, hide rfl⟩
    rw [HKK.out] at hA hx
    have HPL : Hid ((pre ++ [x]).length = k + 1) := hide (by rw [List.length_append, HKK.out]; rfl)
    have HA := hide hA
    have hb6W : b6 < W.heap.size := hA.c6.lt
    have hW3W : W3.heap.size ≤ W.heap.size := hA.bel.size
    have SW := hide (S1.out.on hA.bel)
    have k3 := SW.out.q3
    have k5 := SW.out.q5
    have k6 : W.cell? ⟨b6, 0, none⟩ = some (.int .i64 (k : Int)) := by rw [hA.c6.cell]; rfl
    have hkl : k < R.l.length := (List.getElem?_eq_some_iff.1 hx).1
    obtain ⟨g, cap, cs, e1, hg, hcs, _⟩ := row_at SW.out.row (by omega)
    injection e1 with e1 e2 e3
    clear e2
    subst e1 e3
    have hix := st_at g R.l.length cv k hkl
    have hcell : W.cell? ⟨g, k, none⟩ = some (.string x) := by
      rw [hg.cell]
      have h1 : (nmsC R.l)[k]? = some (.string x) := by unfold nmsC; rw [List.getElem?_map, hx]; rfl
      rw [← hcs, List.getElem?_take, if_pos (by omega)] at h1
      exact h1
    have hf : Hid (play rs x = some ys) := hide ((SW.out.rk.fls.mem x ys).2 (List.mem_of_getElem? hx))
    have hnm : Hid (nmB x = true) := hide (SW.out.rk.nm hf.out)
    have hlti : ¬ (R.l.length : Int) ≤ (k : Int) := by omega
    clear hx hg hcs hA hp1
    gi_wp2_with fail
    refine ⟨trivial, (calls_round (WideF.round l) (stand_all SW.out.rk hf.out HW2.out)).mono ?_⟩
    rintro _ Wa ⟨rfl, hba⟩
    have KOa := hide (keepsO_below hba)
    have KLa : Hid (KL b6 W Wa) := hide (KL.below hba)
    have HAa := hide (HA.out.on hba)
    have SWa := hide (SW.out.on hba)
    have k2 := SWa.out.q2
    clear hba k3 k5 k6 hix hcell HA SW
    gi_wp2_with fail
    refine ⟨trivial, (calls_round (WideF.round l) (stand_size SWa.out.dk hnm.out hf.out)).mono ?_⟩
    rintro _ Wa ⟨rfl, rfl⟩
    gi_wp2_with fail
    refine ⟨trivial, (calls_round (WideF.round l) (stand_read SWa.out.dk hnm.out hf.out HW2.out)).mono ?_⟩
    rintro _ Wb ⟨v1, rfl, ho1, hbb⟩
    have KOb := hide (KOa.out.trans (keepsO_below hbb))
    have KLb : Hid (KL b6 W Wb) := hide (KLa.out.trans (KL.below hbb))
    have HAb := hide (HAa.out.on hbb)
    have SWb := hide (SWa.out.on hbb)
    have O1 := hide ho1
    replace k2 := SWb.out.q2
    have SZ1 : Hid (W.heap.size ≤ Wa.heap.size) := hide KLa.out.size
    clear hbb ho1 KOa KLa HAa SWa
    gi_wp2_with fail
    refine ⟨trivial, (calls_round (WideF.round l) (stand_read SWb.out.dk hnm.out hf.out HW2.out)).mono ?_⟩
    rintro _ Wc ⟨v2, rfl, ho2, hbc⟩
    have KOc := hide (KOb.out.trans (keepsO_below hbc))
    have KLc : Hid (KL b6 W Wc) := hide (KLb.out.trans (KL.below hbc))
    have HAc := hide (HAb.out.on hbc)
    have SWc := hide (SWb.out.on hbc)
    have O2 := hide ho2
    have O1c := hide (O1.out.below hbc)
    have SZ2 : Hid (∀ j, v1.ownBlock = some j → W.heap.size ≤ j ∧ j < Wb.heap.size) := hide (fun j hj => ⟨Nat.le_trans SZ1.out (O1.out.lt j hj), by obtain ⟨cs', hc'⟩ := O1.out.lies hj; exact hc'.lt⟩)
    clear hbc ho2 KOb KLb HAb SWb O1 k2
    have hisb := SWc.out.rk.isb hf.out
    have hyl : ys.length ≤ 16777216 := by
      have := play_wt rs x
      have e1 : fl (play rs) x = ys := by simp [fl, hf.out]
      rw [e1] at this
      have := HW2.out
      omega
    obtain ⟨a1, c1, e1, s1⟩ := O1c.out.sl' hisb (by omega)
    obtain ⟨a2, c2, e2, s2⟩ := O2.out.sl' hisb (by omega)
    have hcv := toStr s1
    have hys : (str ys).size = ys.length := str_size ys
    subst e1 e2
    clear s1 s2 hisb
    gi_wp2_with fail
    refine ⟨trivial, (calls_round (WideF.round l) (spoilL_any _ ys Wa.heap.size Wc O1c.out (by omega))).mono ?_⟩
    rintro _ Wd ⟨rfl, hsp⟩
    have hall : KeepsOthers W Wd ∧ KL b6 W Wd ∧ AS W3 Wd b6 k ∧ Own Wd Wb.heap.size (.slice a2 ys.length c2) ys := by
      rcases hsp with rfl | ⟨g1, hg1, hbut⟩
      · exact ⟨KOc.out, KLc.out, HAc.out, O2.out⟩
      · obtain ⟨q1, q2⟩ := SZ2.out g1 hg1
        obtain ⟨cs', hc'⟩ := O1c.out.lies hg1
        refine ⟨KOc.out.trans (keepsO_but hbut hc'), ⟨Nat.le_trans KLc.out.size (Nat.le_of_eq hbut.size.symm), fun j o hj hc hx => (hbut.block j (fun e => by have := (Array.getElem?_eq_some_iff.1 hj).1; omega)).trans (KLc.out.keep j o hj hc hx)⟩, HAc.out.but hbut (by omega) (by omega), O2.out.same (fun j hj => hbut.block j (fun e => by have := O2.out.lt j hj; omega))⟩
    obtain ⟨ko, kl, ha, o2⟩ := hall
    have KOd := hide ko
    have KLd := hide kl
    have HAd := hide ha
    obtain ⟨a2', c2', e2, s2⟩ := o2.sl' (SWc.out.rk.isb hf.out) (by omega)
    injection e2 with e2 e2' e2''
    subst e2 e2''
    have hcv2 := toStr s2
    have k6 : Wd.cell? ⟨b6, 0, none⟩ = some (.int .i64 (k : Int)) := by rw [HAd.out.c6.cell]; rfl
    have f6 := HAd.out.c6.free 0
    have HA7 := hide (HAd.out.set (k + 1))
    have KO7 : Hid (KeepsOthers W (Wd.setCell ⟨b6, 0, none⟩ (.int .i64 ((k + 1 : Nat) : Int)))) := hide (KOd.out.trans (KeepsOthers.setCell _ _ _))
    have KL7 : Hid (KL b6 W (Wd.setCell ⟨b6, 0, none⟩ (.int .i64 ((k + 1 : Nat) : Int)))) := hide (KLd.out.trans (KL.but (But.setCell _ _ _ _) rfl))
    have hk1 : (((k + 1 : Nat) : Int)) = (k : Int) + 1 := by omega
    rw [hk1] at HA7 KO7 KL7
    have hkb : (k : Int) < 9223372036854775807 := by have := SWc.out.rk.few2 _ _ _ _ _ HW2.out; omega
    clear hsp ko kl ha o2 s2 hcv KOc KLc HAc SWc O1c O2 e2' hk1
    gi_wp2
    all_goals exact ⟨KO7.out.from _, KL7.out, by show AS _ _ _ _; rw [HPL.out]; exact HA7.out⟩
  case done =>
    rintro D2 ys W9 hD2 hS hA hK3
    have hyl : ys.length = R.l.length := by rw [hS, List.length_map]
    rw [hyl] at hA
    have S9 := hide (S1.out.on hA.bel)
    have HM := hide hK3
    obtain ⟨qa, qc, hqv, hq2⟩ := S9.out.r2
    have k2 := Sub.cell S9.out.q2
    have k3 := Sub.cell S9.out.q3
    have k5 := Sub.cell S9.out.q5
    have k6 : ∀ u : Sub W9, u.v.cell? ⟨b6, 0, none⟩ = some (.int .i64 (R.l.length : Int)) := Sub.cell (by rw [hA.c6.cell]; rfl)
    have kr0 := Sub.cell S9.out.r0
    have kr2 := Sub.cell hq2
    have hne := Sub.one W9
    have HQV := hide hqv
    have HWD : Hid (w.heap.size ≤ D2) := hide (by have := S6.out.bel.size; omega)
    clear hA hK3 hS hyl hq2 hqv
    go_wp2_with fail
    refine wp_region_sub (by kernel_rfl) (by kernel_rfl) ?_
    repeat (go_big_quiet_step (fail))
    go_big_quiet_step ((go_at_call 33; exact sub_call ((sector_any d s rs D _ (S9.out.dk.below (Sub.bel _))).mono fun _ _ h => ⟨h.1, by rw [h.2]; exact Below.refl _ _⟩)))
    repeat (go_big_quiet_step (fail))
    go_big_quiet_step ((go_at_call 32; exact sub_call ((writes_any d s rs D _ (S9.out.dk.below (Sub.bel _))).mono fun _ _ h => ⟨h.1, by rw [h.2]; exact Below.refl _ _⟩)))
    repeat (go_big_quiet_step (fail))
    refine wpQuiet_nil ?_
    rintro Wa ⟨u, hz⟩
    have hba := u.bel
    rw [← hz] at hba
    clear hz u
    have Sa := hide (S9.out.on hba)
    have HMa := hide (mark_below HM.out hba)
    clear hba k2 k3 k5 k6 kr0 kr2 hne S9 HM
    have k3 := Sa.out.q3
    have kr2 : Wa.cell? ⟨r, 2, none⟩ = some (.slice qa rs.length qc) := by rw [Sa.out.rk.fk.blk.cell, ← HQV.out]; rfl
    have hrl : rs.length ≤ 4194304 := Nat.le_trans (len_wt rs) HW.out
    go_wp2_with fail
    clear k3 kr2
    go_loopw [16] (fun i wr => ∃ k : Nat, i = .int .i64 (k : Int) ∧ k ≤ rs.length ∧ Hid (SS w wr b2 b3 b4 b5 d r s rs D R av cv) ∧ Hid (wr.heap[D2]? = some (.deferred (some [])))) (fun i _ => rs.length - (intOf i).toNat)
    case atStart => exact ⟨rs.length - 3, by congr 1; omega, Nat.sub_le _ _, Sa, HMa⟩
    case round =>
      obtain ⟨k, rfl, hk, Sr, HMr⟩ := hrel
      have k2 := Sr.out.q2
      have k3 := Sr.out.q3
      have kr2 : wr.cell? ⟨r, 2, none⟩ = some (.slice qa rs.length qc) := by rw [Sr.out.rk.fk.blk.cell, ← HQV.out]; rfl
      by_cases hlt : k < rs.length
      · have hlti : (k : Int) < (rs.length : Int) := by omega
        obtain ⟨x, hx⟩ : ∃ x, rs[k]? = some x := ⟨_, List.getElem?_eq_getElem hlt⟩
        have HX := hide hx
        clear hx
        go_wp2_with fail
        refine (raw_any d s rs D k wr Sr.out.dk x HX.out HW.out).mono ?_
        rintro _ w3 ⟨v3, rfl, ho3, hb3⟩
        obtain ⟨a3, c3, rfl⟩ := ho3.slice
        have O3 := hide ho3
        have S3 := hide (Sr.out.on hb3)
        have M3 := hide (mark_below HMr.out hb3)
        have B3 := hide hb3
        have Sr0 := Sr
        have Mr0 := HMr
        clear hb3 ho3 k2 k3 kr2 Sr HMr
        go_wp2_with (refine step_alloc zRw rfl ?_)
        intro w4 g17 hg17 hle17 hb4
        go_wp2_with (refine step_storeA wRw rfl rfl rfl hg17 rfl (One.rw _ _ _ _ _ _ _) rfl ?_)
        intro w5 hg5 hbut5
        have B35 : Hid (Below w3.heap.size w3 w5) := hide (hb4.trans (hbut5.below hle17))
        have S5 := hide (S3.out.on B35.out)
        have M5 := hide (mark_below M3.out B35.out)
        have O5 := hide (O3.out.below B35.out)
        have G5 := hide hg5
        have L5 : Hid ((∀ j, (Value.slice a3 x.b.length c3).ownBlock = some j → wr.heap.size ≤ j ∧ j < w3.heap.size) ∧ w3.heap.size ≤ g17 ∧ wr.heap.size ≤ w3.heap.size) := hide ⟨fun j hj => ⟨O3.out.lt j hj, by obtain ⟨cs', hc'⟩ := O3.out.lies hj; exact hc'.lt⟩, hle17, B3.out.size⟩
        have B5 := hide (on_below B3.out B35.out)
        have k2 := S5.out.q2
        clear hg17 hle17 hb4 hg5 hbut5 S3 M3 O3 B3 B35
        go_wp2_with fail
        refine (raw_any d s rs D k w5 S5.out.dk x HX.out HW.out).mono ?_
        rintro _ w6 ⟨v6, rfl, ho6, hb6⟩
        obtain ⟨a6, c6, rfl⟩ := ho6.slice
        have O6 := hide ho6
        have S6' := hide (S5.out.on hb6)
        have M6 := hide (mark_below M5.out hb6)
        have B6 := hide (on_below B5.out hb6)
        have O56 := hide (O5.out.below hb6)
        have G56 := hide (G5.out.on hb6)
        have L6 : Hid (w3.heap.size ≤ w5.heap.size ∧ g17 < w5.heap.size) := hide ⟨by have := G5.out.lt; have := L5.out.2.1; omega, G5.out.lt⟩
        have LW : Hid (w5.heap.size ≤ w6.heap.size) := hide hb6.size
        clear hb6 ho6 k2 S5 M5 O5 G5 B5
        go_wp2_with (refine step_alloc zRw rfl ?_)
        intro w7 g19 hg19 hle19 hb7
        go_wp2_with (refine step_storeA wRw rfl rfl rfl hg19 rfl (One.rw _ _ _ _ _ _ _) rfl ?_)
        intro w8 hg8 hbut8
        have B68 : Hid (Below w6.heap.size w6 w8) := hide (hb7.trans (hbut8.below hle19))
        have S8 := hide (S6'.out.on B68.out)
        have M8 := hide (mark_below M6.out B68.out)
        have B8 := hide (on_below B6.out B68.out)
        have O58 := hide (O56.out.below B68.out)
        have O68 := hide (O6.out.below B68.out)
        have G17 := hide (G56.out.on B68.out)
        have G19 := hide hg8
        have L19 := hide hle19
        clear hg19 hle19 hb7 hg8 hbut8 S6' M6 O56 G56 B6 B68
        obtain ⟨u, hu1, hu2, gq, cq, csq, hq1, hq2, hq3⟩ := S8.out.rk.rawAt HX.out
        obtain ⟨au, cu, rfl, su⟩ := hu2.sl
        have hisb : isB x.b := hu2.sl.choose_spec.choose_spec.2.hbyte
        obtain ⟨q1, q2, q3, s3⟩ := O58.out.sl' hisb su.hreach
        injection q3 with q3a q3b q3c
        subst q3a q3c
        rw [HQV.out] at hq1
        injection hq1 with hq1a hq1b hq1c
        subst hq1a hq1c
        have hix := fun W => vw_at rRw gq rs.length qc k hlt W
        have k3 := Sub.cell S8.out.q3
        have kr2 : ∀ u : Sub w8, u.v.cell? ⟨r, 2, none⟩ = some (.slice (some ⟨gq, 0, none⟩) rs.length qc) := Sub.cell (by rw [S8.out.rk.fk.blk.cell, ← HQV.out]; rfl)
        have hne := Sub.one w8
        go_wp2_with fail
        refine wp_region_sub (by kernel_rfl) (by kernel_rfl) ?_
        repeat (go_big_quiet_step (fail))
        refine quiet_loadW wRw rfl rfl G17.out rfl rfl ?_
        simp only [Act.put, List.setIfInBounds_toArray, List.set_cons_zero, List.set_cons_succ]
        repeat (go_big_quiet_step (fail))
        refine quiet_loadW wRw rfl rfl hq2 rfl hq3 ?_
        simp only [Act.put, List.setIfInBounds_toArray, List.set_cons_zero, List.set_cons_succ]
        go_big_quiet_step ((go_at_call 31; exact sub_call (raws_same x _ _ _ _ _ _ _ (s3.below (Sub.bel _)) (su.below (Sub.bel _)))))
        repeat (go_big_quiet_step (fail))
        refine wpQuiet_nil ?_
        rintro w9 ⟨uu, hz⟩
        have hb9 := uu.bel
        rw [← hz] at hb9
        clear hz uu
        have S9 := hide (S8.out.on hb9)
        have M9 := hide (mark_below M8.out hb9)
        have B9 := hide (on_below B8.out hb9)
        have O59 := hide (O58.out.below hb9)
        have O69 := hide (O68.out.below hb9)
        have G179 := hide (G17.out.on hb9)
        have G199 := hide (G19.out.on hb9)
        have kg : w9.cell? ⟨g17, 2, none⟩ = some (.slice a3 x.b.length c3) := by rw [G179.out.cell]; rfl
        have hbl : x.b.length ≤ 281474976710656 := by have := su.hreach; omega
        have HISB := hide hisb
        have HRCH := hide su.hreach
        clear k3 kr2 hne hb9 S8 M8 B8 O58 O68 G17 G19 su s3 hu1 hu2 hq2 hq3 hisb
        go_wp2_with fail
        refine (spoilL_any _ x.b wr.heap.size w9 O59.out hbl).mono ?_
        rintro _ w10 ⟨rfl, hsp⟩
        have hall : Below wr.heap.size wr w10 ∧ Own w10 w5.heap.size (.slice a6 x.b.length c6) x.b ∧ Blk w10 g19 62 (rwC x.k x.n (.slice a6 x.b.length c6) x.s x.t) := by
          rcases hsp with rfl | ⟨g1, hg1, hbut⟩
          · exact ⟨B9.out, O69.out, G199.out⟩
          · obtain ⟨p1, p2⟩ := L5.out.1 g1 hg1
            have p3 := L5.out.2.1
            have p4 := L6.out
            have p5 := L19.out
            have p6 : w5.heap.size ≤ w6.heap.size := LW.out
            exact ⟨B9.out.trans (hbut.below p1), O69.out.same (fun j hj => hbut.block j (fun e => by have := O69.out.lt j hj; omega)), G199.out.but hbut (by omega)⟩
        obtain ⟨hb10, ho10, hg10⟩ := hall
        have S10 := hide (Sr0.out.on hb10)
        have M10 := hide (mark_below Mr0.out hb10)
        have G10 := hide hg10
        have HO10 := hide ho10
        clear hsp ho10 hg10 hb10 kg S9 M9 B9 O59 O69 G179 G199 hbl
        obtain ⟨u, hu1, hu2, gq', cq, csq, hq1, hq2, hq3⟩ := S10.out.rk.rawAt HX.out
        obtain ⟨au, cu, rfl, su⟩ := hu2.sl
        obtain ⟨q1, q2, q3, s6⟩ := HO10.out.sl' HISB.out HRCH.out
        injection q3 with q3a q3b q3c
        subst q3a q3c
        rw [HQV.out] at hq1
        injection hq1 with hq1a hq1b hq1c
        injection hq1a with hq1a
        injection hq1a with hq1a
        subst hq1a hq1c
        have k3 := Sub.cell S10.out.q3
        have kr2 : ∀ u : Sub w10, u.v.cell? ⟨r, 2, none⟩ = some (.slice (some ⟨gq, 0, none⟩) rs.length qc) := Sub.cell (by rw [S10.out.rk.fk.blk.cell, ← HQV.out]; rfl)
        have hne := Sub.one w10
        go_wp2_with fail
        refine wp_region_sub (by kernel_rfl) (by kernel_rfl) ?_
        refine quiet_loadW wRw rfl rfl G10.out rfl rfl ?_
        simp only [Act.put, List.setIfInBounds_toArray, List.set_cons_zero, List.set_cons_succ]
        repeat (go_big_quiet_step (fail))
        refine quiet_loadW wRw rfl rfl hq2 rfl hq3 ?_
        simp only [Act.put, List.setIfInBounds_toArray, List.set_cons_zero, List.set_cons_succ]
        go_big_quiet_step ((go_at_call 31; exact sub_call (raws_same x _ _ _ _ _ _ _ (s6.below (Sub.bel _)) (su.below (Sub.bel _)))))
        repeat (go_big_quiet_step (fail))
        refine wpQuiet_nil ?_
        rintro w11 ⟨uu, hz⟩
        have hb11 := uu.bel
        rw [← hz] at hb11
        clear hz uu
        have S11 := hide (S10.out.on hb11)
        have M11 := hide (mark_below M10.out hb11)
        clear k3 kr2 hne hb11 S10 M10 HO10 G10 su s6 hu1 hu2 hq2 hq3 hix
        go_wp2
        go_roundw
        case rel => exact ⟨k + 1, by go_num, by omega, S11, M11⟩
        case measure => simp [intOf]; omega
      · have hlti : ¬ (k : Int) < (rs.length : Int) := by omega
        go_wp2_with fail
        clear k2 k3 kr2
        have HC2 : Hid (∀ v : World, Below wr.heap.size wr v → v.cell? ⟨b2, 0, none⟩ = some (.pointer (some ⟨d, 0, none⟩))) := hide (fun v hv => (Sr.out.on hv).q2)
        have HC3 : Hid (∀ v : World, Below wr.heap.size wr v → v.cell? ⟨b3, 0, none⟩ = some (.pointer (some ⟨r, 0, none⟩))) := hide (fun v hv => (Sr.out.on hv).q3)
        have HCR : Hid (∀ v : World, Below wr.heap.size wr v → v.cell? ⟨r, 2, none⟩ = some (.slice qa rs.length qc)) := hide (fun v hv => by rw [(Sr.out.on hv).rk.fk.blk.cell, ← HQV.out]; rfl)
        have HRB : Hid (∀ v : World, Below wr.heap.size wr v → Calls Try.prog 30 #[.pointer (some ⟨d, 0, none⟩), .int .i64 (rs.length : Int)] v fun e w' => e = .returned (.tuple #[.agg rw0.toArray, .int .i64 2]) ∧ Below v.heap.size v w') := hide (fun v hv => raw_bad d s rs D (rs.length : Int) v (Sr.out.on hv).dk (.inr (Int.le_refl _)))
        refine joinG (fun g W => Hid (Below wr.heap.size wr W)) ?act9 ?tail9 (fun hjoin => ?_)
        rotate_left
        rotate_left
        · refine wp_region_noPanic ?_
          have Y0 := hide ((Below.refl wr.heap.size wr).drew)
          refine wp_region_held_drew (S := fun v : World => Below wr.heap.size wr v) (by kernel_rfl) Y0.out (fun hHeld => ?_)
          refine takeH 0 176 (.pointer (some ⟨d, 0, none⟩)) hHeld rfl rfl (by kernel_rfl) (by kernel_rfl) (by kernel_rfl) (fun _ _ _ h => h) (Or.inl ⟨by rfl, fun w hw => by have hw' : w.cell? ⟨b2, 0, none⟩ = some (.pointer (some ⟨d, 0, none⟩)) := (HC2.out w) hw; go_simp⟩) ?_
          simp only [Act.put, List.setIfInBounds_toArray, List.set_cons_zero, List.set_cons_succ]
          refine takeH 1 177 (.pointer (some ⟨r, 0, none⟩)) hHeld rfl rfl (by kernel_rfl) (by kernel_rfl) (by kernel_rfl) (fun _ _ _ h => h) (Or.inl ⟨by rfl, fun w hw => by have hw' : w.cell? ⟨b3, 0, none⟩ = some (.pointer (some ⟨r, 0, none⟩)) := (HC3.out w) hw; go_simp⟩) ?_
          simp only [Act.put, List.setIfInBounds_toArray, List.set_cons_zero, List.set_cons_succ]
          refine takeH 2 178 (.pointer (some ⟨r, 0, none⟩)) hHeld rfl rfl (by kernel_rfl) (by kernel_rfl) (by kernel_rfl) (fun _ _ _ h => h) (Or.inl ⟨by rfl, fun w _ => by go_simp⟩) ?_
          simp only [Act.put, List.setIfInBounds_toArray, List.set_cons_zero, List.set_cons_succ]
          refine takeH 3 179 (.pointer (some ⟨r, 2, none⟩)) hHeld rfl rfl (by kernel_rfl) (by kernel_rfl) (by kernel_rfl) (fun _ _ _ h => h) (Or.inl ⟨by rfl, fun w _ => by go_simp⟩) ?_
          simp only [Act.put, List.setIfInBounds_toArray, List.set_cons_zero, List.set_cons_succ]
          refine takeH 4 180 (.slice qa rs.length qc) hHeld rfl rfl (by kernel_rfl) (by kernel_rfl) (by kernel_rfl) (fun _ _ _ h => h) (Or.inl ⟨by rfl, fun w hw => by have hw' : w.cell? ⟨r, 2, none⟩ = some (.slice qa rs.length qc) := (HCR.out w) hw; go_simp⟩) ?_
          simp only [Act.put, List.setIfInBounds_toArray, List.set_cons_zero, List.set_cons_succ]
          refine takeH 5 181 (.int .i64 (rs.length : Int)) hHeld rfl rfl (by kernel_rfl) (by kernel_rfl) (by kernel_rfl) (fun _ _ _ h => h) (Or.inl ⟨by rfl, fun w _ => by go_simp⟩) ?_
          simp only [Act.put, List.setIfInBounds_toArray, List.set_cons_zero, List.set_cons_succ]
          refine wpAnyH_ready (rs := [6, 10]) (by kernel_rfl) (by simp) (AllReadyH.cons rfl (fun K hK => ?_) (AllReadyH.cons rfl (fun K hK => ?_) AllReadyH.nil))
          · rw [if_pos (by rfl)]
            go_simp
            refine (HRB.out _ Y0.out).mono ?_
            rintro e va ⟨rfl, hv⟩
            have Y1 := hide (on_below Y0.out hv)
            refine hK.out _ _ Y1.out (fun hHeld => ?_)
            clear hK K
            try simp only [Act.put, List.setIfInBounds_toArray, List.set_cons_zero, List.set_cons_succ]
            refine takeH 7 175 (.tuple #[.agg rw0.toArray, .int .i64 2]) hHeld rfl rfl (by kernel_rfl) (by kernel_rfl) (by kernel_rfl) (fun _ _ _ h => h) (Or.inl ⟨by rfl, fun w _ => by go_simp⟩) ?_
            simp only [Act.put, List.setIfInBounds_toArray, List.set_cons_zero, List.set_cons_succ]
            refine takeH 8 183 (.agg rw0.toArray) hHeld rfl rfl (by kernel_rfl) (by kernel_rfl) (by kernel_rfl) (fun _ _ _ h => h) (Or.inl ⟨by rfl, fun w _ => by go_simp⟩) ?_
            simp only [Act.put, List.setIfInBounds_toArray, List.set_cons_zero, List.set_cons_succ]
            refine takeH 9 184 (.int .i64 2) hHeld rfl rfl (by kernel_rfl) (by kernel_rfl) (by kernel_rfl) (fun _ _ _ h => h) (Or.inl ⟨by rfl, fun w _ => by go_simp⟩) ?_
            simp only [Act.put, List.setIfInBounds_toArray, List.set_cons_zero, List.set_cons_succ]
            refine wpAnyH_ready (rs := [10]) (by kernel_rfl) (by simp) (AllReadyH.cons rfl (fun K hK => ?_) AllReadyH.nil)
            rw [if_pos (by rfl)]
            refine wp_allocG zRw ?_
            intro vb g8 hgn hln hbn
            have Y2 := hide (on_below Y1.out hbn)
            have GB := hide hgn
            have LE := hide (Nat.le_trans Y1.out.size hln)
            refine hK.out _ _ Y2.out (fun hHeld => ?_)
            clear hK K
            try simp only [Act.put, List.setIfInBounds_toArray, List.set_cons_zero, List.set_cons_succ]
            refine wpAnyH_ready (rs := [11]) (by kernel_rfl) (by simp) (AllReadyH.cons rfl (fun K hK => ?_) AllReadyH.nil)
            rw [if_pos (by rfl)]
            refine wp_storeGT wRw rfl rfl GB.out rfl (One.rw _ _ _ _ _ _ _) rfl ?_
            intro vz hgz hbutz
            have YZ := hide (Y2.out.trans (hbutz.below LE.out))
            refine hK.out _ _ YZ.out (fun hHeld => ?_)
            clear hK K
            try simp only [Act.put, List.setIfInBounds_toArray, List.set_cons_zero, List.set_cons_succ]
            refine takeH 12 22 (.int .i64 2) hHeld rfl rfl (by kernel_rfl) (by kernel_rfl) (by kernel_rfl) (fun _ _ _ h => h) (Or.inl ⟨by rfl, fun w _ => by go_simp⟩) ?_
            simp only [Act.put, List.setIfInBounds_toArray, List.set_cons_zero, List.set_cons_succ]
            refine wpAnyH_done (by kernel_rfl) ?_ _
            refine NoPanic.normal ?_
            exact hjoin g8 vz YZ
          · rw [if_pos (by rfl)]
            refine wp_allocG zRw ?_
            intro va g8 hgn hln hbn
            have Y1 := hide (on_below Y0.out hbn)
            have GA := hide hgn
            have LE := hide (Nat.le_trans Y0.out.size hln)
            refine hK.out _ _ Y1.out (fun hHeld => ?_)
            clear hK K
            try simp only [Act.put, List.setIfInBounds_toArray, List.set_cons_zero, List.set_cons_succ]
            refine wpAnyH_ready (rs := [6]) (by kernel_rfl) (by simp) (AllReadyH.cons rfl (fun K hK => ?_) AllReadyH.nil)
            rw [if_pos (by rfl)]
            go_simp
            refine (HRB.out _ Y1.out).mono ?_
            rintro e vb ⟨rfl, hv⟩
            have Y2 := hide (on_below Y1.out hv)
            have GB := hide (GA.out.on hv)
            refine hK.out _ _ Y2.out (fun hHeld => ?_)
            clear hK K
            try simp only [Act.put, List.setIfInBounds_toArray, List.set_cons_zero, List.set_cons_succ]
            refine takeH 7 175 (.tuple #[.agg rw0.toArray, .int .i64 2]) hHeld rfl rfl (by kernel_rfl) (by kernel_rfl) (by kernel_rfl) (fun _ _ _ h => h) (Or.inl ⟨by rfl, fun w _ => by go_simp⟩) ?_
            simp only [Act.put, List.setIfInBounds_toArray, List.set_cons_zero, List.set_cons_succ]
            refine takeH 8 183 (.agg rw0.toArray) hHeld rfl rfl (by kernel_rfl) (by kernel_rfl) (by kernel_rfl) (fun _ _ _ h => h) (Or.inl ⟨by rfl, fun w _ => by go_simp⟩) ?_
            simp only [Act.put, List.setIfInBounds_toArray, List.set_cons_zero, List.set_cons_succ]
            refine takeH 9 184 (.int .i64 2) hHeld rfl rfl (by kernel_rfl) (by kernel_rfl) (by kernel_rfl) (fun _ _ _ h => h) (Or.inl ⟨by rfl, fun w _ => by go_simp⟩) ?_
            simp only [Act.put, List.setIfInBounds_toArray, List.set_cons_zero, List.set_cons_succ]
            refine wpAnyH_ready (rs := [11]) (by kernel_rfl) (by simp) (AllReadyH.cons rfl (fun K hK => ?_) AllReadyH.nil)
            rw [if_pos (by rfl)]
            refine wp_storeGT wRw rfl rfl GB.out rfl (One.rw _ _ _ _ _ _ _) rfl ?_
            intro vz hgz hbutz
            have YZ := hide (Y2.out.trans (hbutz.below LE.out))
            refine hK.out _ _ YZ.out (fun hHeld => ?_)
            clear hK K
            try simp only [Act.put, List.setIfInBounds_toArray, List.set_cons_zero, List.set_cons_succ]
            refine takeH 12 22 (.int .i64 2) hHeld rfl rfl (by kernel_rfl) (by kernel_rfl) (by kernel_rfl) (fun _ _ _ h => h) (Or.inl ⟨by rfl, fun w _ => by go_simp⟩) ?_
            simp only [Act.put, List.setIfInBounds_toArray, List.set_cons_zero, List.set_cons_succ]
            refine wpAnyH_done (by kernel_rfl) ?_ _
            refine NoPanic.normal ?_
            exact hjoin g8 vz YZ
        · rintro g8 w1 Y1
          have S1' := hide (Sr.out.on Y1.out)
          have M1 := hide (mark_below HMr.out Y1.out)
          have k2 := S1'.out.q2
          clear Y1 Sr HMr HC2 HC3 HCR HRB
          go_wp2_with fail
          refine (raw_bad d s rs D (-1) w1 S1'.out.dk (.inl (by decide))).mono ?_
          rintro _ w2 ⟨rfl, hb2⟩
          have S2' := hide (S1'.out.on hb2)
          have M2 := hide (mark_below M1.out hb2)
          clear hb2 k2 S1' M1
          go_wp2_with (refine step_alloc zRw rfl ?_)
          intro w3 g23 hg23 hle23 hb3
          go_wp2_with (refine step_storeA wRw rfl rfl rfl hg23 rfl (One.rw _ _ _ _ _ _ _) rfl ?_)
          intro w4 hg4 hbut4
          have B24 := hb3.trans (hbut4.below hle23)
          have S4' := hide (S2'.out.on B24)
          have M4 := hide (mark_below M2.out B24)
          have h4 : w4.cell? ⟨b4, 0, none⟩ = some (.bool false) := by rw [S4'.out.c4.cell]; rfl
          have f4 := S4'.out.c4.free 0
          clear hg23 hle23 hb3 hg4 hbut4 B24 S2' M2
          go_wp2_with fail
          have q8 := (KeepsOthers.setCell w4 ⟨b4, 0, none⟩ (.bool true)).same D2 _ M4.out rfl
          have hcA := World.cell?_setCell_same' w4 ⟨b4, 0, none⟩ (.bool true) (by rw [h4]; rfl)
          have hcC := Go.cell_kept hcA (grownBy_putObj' _ D2 (.deferred none)) (fun r e => by cases e; exact ⟨_, q8, rfl⟩)
          have B8 := S4'.out.bel.setCell (p := ⟨b4, 0, none⟩) S4'.out.l4 (.bool true)
          refine ⟨by simp, .inl ⟨_, _, rfl, run_takeDeferred q8, ?_⟩⟩
          refine ⟨.bool true, ?_, rfl, B8.trans (belowK_b (w := w) (Nat.le_refl _) _ D2 _ (.deferred none) HWD.out q8 rfl rfl)⟩
          simp [results, Try.f27, go_sem, hcC]
end Go.Proofs.Ytnkjdoghfdnlaaa

/-
  The two disks beside each other: what stands through the acts of DiskPlays.
-/
namespace Go.Proofs.Ytnkjdoghfdnlaaa
open Go.RowKit
set_option linter.unusedVariables false

/-- The program's disk and the document's, with the same raw writes, in memory of their own. -/
structure PL (w W : World) (d r s : Nat) (rs : List Rw) (D : Dm) (R : Rm) : Prop where
  dk : DkAt W d s rs D
  rk : RkAt W r s rs R
  a1 : ∀ k, D.own d k ∨ D.ro k → ¬ R.own r k
  a2 : ∀ k, R.own r k ∨ R.ro k → ¬ D.own d k
  bel : Below w.heap.size w W
  od : ∀ k, D.own d k → w.heap.size ≤ k
  oq : ∀ k, R.own r k → w.heap.size ≤ k
/-- All blocks that the two look at. -/
def Foot (d r : Nat) (D : Dm) (R : Rm) (k : Nat) : Prop := D.own d k ∨ D.ro k ∨ R.own r k ∨ R.ro k
section
variable {w W W1 W2 : World} {d r s : Nat} {rs rs' : List Rw} {D : Dm} {R : Rm}
theorem PL.lt (h : PL w W d r s rs D R) {k : Nat} (hk : Foot d r D R k) : k < W.heap.size := by
  rcases hk with hk | hk | hk | hk
  · exact h.dk.lt (.inl hk)
  · exact h.dk.lt (.inr hk)
  · exact h.rk.lt (.inl hk)
  · exact h.rk.lt (.inr hk)
theorem PL.on (h : PL w W d r s rs D R) (hb : Below W.heap.size W W1) : PL w W1 d r s rs D R :=
  ⟨h.dk.below hb, h.rk.below hb, h.a1, h.a2, on_below h.bel hb, h.od, h.oq⟩
theorem PL.but {g : Nat} (h : PL w W d r s rs D R) (hb : But g W W1) (hg : w.heap.size ≤ g) (hn : ¬ Foot d r D R g) : PL w W1 d r s rs D R :=
  ⟨h.dk.same (fun k hk => hb.block k (fun e => hn (by subst e; rcases hk with hk | hk; exact .inl hk; exact .inr (.inl hk)))),
    h.rk.same (fun k hk => hb.block k (fun e => hn (by subst e; rcases hk with hk | hk; exact .inr (.inr (.inl hk)); exact .inr (.inr (.inr hk))))),
    h.a1, h.a2, h.bel.trans (hb.below hg), h.od, h.oq⟩
/-- Behind the program's call the document's disk is as it was. -/
theorem PL.op1 (h : PL w W d r s rs D R) (ho : OpR W W1 d s D rs') : RkAt W1 r s rs R := by
  obtain ⟨D', _, hc, _, _⟩ := ho
  exact h.rk.chs hc h.a2
theorem PL.bel1 (h : PL w W d r s rs D R) (ho : OpR W W1 d s D rs') : Below w.heap.size w W1 := by
  obtain ⟨D', _, hc, _, _⟩ := ho
  exact h.bel.trans (hc.below (fun k hk ho => by have := h.od k ho; omega) h.bel.size)
theorem PL.keep1 (h : PL w W d r s rs D R) (ho : OpR W W1 d s D rs') {g : Nat} {t : TypeId} {cs : List Value} (hg : Blk W g t cs) (hn : ¬ Foot d r D R g) : Blk W1 g t cs := by
  obtain ⟨D', _, hc, _, _⟩ := ho
  exact hg.chs hc (fun h => hn (.inl h))
theorem PL.keep2 (hr : RoP W1 W2 r s R rs') {g : Nat} {t : TypeId} {cs : List Value} (hg : Blk W1 g t cs) (hn : ¬ Foot d r D R g) : Blk W2 g t cs := by
  obtain ⟨R', _, hc, _, _⟩ := hr
  exact hg.chs hc (fun h => hn (.inr (.inr (.inl h))))
/-- Both calls, one behind the other. -/
theorem PL.both (h : PL w W d r s rs D R) (ho : OpR W W1 d s D rs') (hr : RoP W1 W2 r s R rs') :
    ∃ D' R', PL w W2 d r s rs' D' R' ∧ ∀ k, Foot d r D' R' k → Foot d r D R k ∨ W.heap.size ≤ k := by
  have hb1 := h.bel1 ho
  obtain ⟨D', dk', ch1, own1, ro1⟩ := ho
  obtain ⟨R', rk', ch2, own2, ro2⟩ := hr
  have hs1 := ch1.size
  have nR : ∀ k, D'.own d k ∨ D'.ro k → ¬ R.own r k := by
    intro k hk hR
    have hlt := h.rk.lt (.inl hR)
    rcases hk with hk | hk
    · rcases own1 k hk with h1 | h1
      · exact h.a1 k (.inl h1) hR
      · omega
    · rcases ro1 k hk with h1 | h1
      · exact h.a1 k (.inr h1) hR
      · omega
  have nR' : ∀ k, D'.own d k ∨ D'.ro k → ¬ R'.own r k := by
    intro k hk hR
    have hlt := dk'.lt hk
    rcases own2 k hR with h1 | h1
    · exact nR k hk h1
    · omega
  refine ⟨D', R', ⟨dk'.chs ch2 nR, rk', nR', ?_, hb1.trans (ch2.below (fun k hk ho => by have := h.oq k ho; omega) hb1.size), ?_, ?_⟩, ?_⟩
  · intro k hk hD
    rcases hk with hk | hk
    · exact nR' k (.inl hD) hk
    · have hlt := dk'.lt (.inl hD)
      rcases ro2 k hk with h1 | h1
      · have hl2 := h.rk.lt (.inr h1)
        rcases own1 k hD with h2 | h2
        · exact h.a2 k (.inr h1) h2
        · omega
      · omega
  · intro k hk
    rcases own1 k hk with h1 | h1
    · exact h.od k h1
    · have := h.bel.size; omega
  · intro k hk
    rcases own2 k hk with h1 | h1
    · exact h.oq k h1
    · have := h.bel.size; omega
  · intro k hk
    rcases hk with hk | hk | hk | hk
    · exact (own1 k hk).imp .inl id
    · exact (ro1 k hk).imp (fun h => .inr (.inl h)) id
    · rcases own2 k hk with h1 | h1
      · exact .inl (.inr (.inr (.inl h1)))
      · right; omega
    · rcases ro2 k hk with h1 | h1
      · exact .inl (.inr (.inr (.inr h1)))
      · right; omega
theorem PL.ownKeep (h : PL w W d r s rs D R) (ho : OpR W W1 d s D rs') (hr : RoP W1 W2 r s R rs') {B : Nat} {v : Value} {xs : List Int} (hv : Own W B v xs) (hn : ∀ j, v.ownBlock = some j → ¬ Foot d r D R j) : Own W2 B v xs := by
  obtain ⟨D', _, c1, _, _⟩ := ho
  obtain ⟨R', _, c2, _, _⟩ := hr
  refine hv.same (fun j hj => ?_)
  obtain ⟨cs, hc⟩ := hv.lies hj
  have hlt := hc.lt
  have hsz := c1.size
  rw [c2.block j (by omega) (fun e => hn j hj (.inr (.inr (.inl e))))]
  exact c1.block j hlt (fun e => hn j hj (.inl e))
/-- Both disks as they were behind some raw writes. -/
theorem PL.after {o v : Nat} {Do : Dm} {R' : Rm} (h : PL w W d r s rs D R) (ha : AfR W W1 o s D rs' Do) (hq : AfQ W1 W2 v s R rs' R') : PL w W2 o v s rs' Do R' := by
  have hs := h.bel.size
  have hs1 := ha.bel.size
  refine ⟨ha.dk.below hq.bel, hq.rk, ?_, ?_, on_below (on_below h.bel ha.bel) hq.bel, fun k hk => by have := ha.own k hk; omega, fun k hk => by have := hq.own k hk; omega⟩
  · intro k hk hR
    have h1 := ha.dk.lt hk
    have h2 := hq.own k hR
    omega
  · intro k hk hD
    have h1 := ha.dk.lt (.inl hD)
    have h2 := ha.own k hD
    rcases hk with hk | hk
    · have h3 := hq.own k hk; omega
    · have h3 := h.rk.lt (.inr (hq.ro k hk)); omega
theorem PL.new {m g : Nat} (h1 : 1 ≤ s) (h2 : s ≤ 4096) (hN : New0 w W1 d m s) (hR : RkAt W2 g s [] rm0) (hg : W1.heap.size ≤ g) (hb : Below W1.heap.size W1 W2) : PL w W2 d g s [] ⟨m, .slice none 0 0, [], []⟩ rm0 := by
  have dk := hN.dkAt h1 h2
  have hs := hN.bel.size
  refine ⟨dk.below hb, hR, ?_, ?_, on_below hN.bel hb, hN.own, fun k hk => by have := rm0_own hg k hk; omega⟩
  · intro k hk hq
    have h3 := dk.lt hk
    have h4 := rm0_own hg k hq
    omega
  · intro k hk hD
    have h3 := dk.lt (.inl hD)
    rcases hk with hk | ⟨x, hx, _⟩
    · have h4 := rm0_own hg k hk; omega
    · cases hx
/-- What Read tells is bytes, and not more than there are raw writes. -/
theorem PL.rq (h : PL w W d r s rs D R) (n : ByteArray) (p q : Int) (hwt : wt rs ≤ 16777216) : isB (rqB rs n p q) ∧ (rqB rs n p q).length ≤ 140737488355328 := by
  have hl := play_wt rs n
  have hb : isB (fl (play rs) n) := by
    unfold fl
    cases hp : play rs n with
    | none => simp [isB]
    | some xs => exact h.rk.isb hp
  unfold rqB
  split
  · refine ⟨(hb.drop _).take _, ?_⟩
    rw [List.length_take, List.length_drop]
    omega
  · exact ⟨by simp [isB], by simp⟩
end
theorem bulks_at {L : List Ac} {k : Nat} {x : Ac} (h : L[k]? = some x) (rs rs' : List Rw) (h1 : wt rs ≤ 2 * bulks (L.take k)) (h2 : wt rs' ≤ wt rs + 2 * x.bulk) : wt rs' ≤ 2 * bulks (L.take (k + 1)) := by
  rw [bulks_succ L k x h]
  omega

end Go.Proofs.Ytnkjdoghfdnlaaa
