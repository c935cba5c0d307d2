/-
  Slices of truths of the call's own; the law's bits.
-/
import Derived.Test.YtmgabnlobeienabDoorFo
import Derived.Test.YtmgabnlobeienabDoorIn
namespace Go.Proofs.YtmgabnlobeienabDoor
open Go.RowKit
set_option linter.unusedVariables false

theorem undO : Tryd.prog.underlying 29 = some (.slice 4) := by kernel_rfl
theorem undOs : Tryd.prog.underlying 29 = some (.slice (Tryd.prog.elem 29)) := by kernel_rfl
theorem elemO : Tryd.prog.elem 29 = 4 := by kernel_rfl
theorem sizeO (w : World) : (sizeOf 4).run Tryd.prog w = .ok 1 w := by kernel_rfl
theorem infoO : (Tryd.prog.info? 4).map (fun i => (i.zero, i.size, i.bytes)) = some (some (.bool false), 1, 1) := by kernel_rfl

def bls (bs : List Bool) : List Value := bs.map Value.bool
theorem bls_one (bs : List Bool) : One (bls bs) := by intro v hv; obtain ⟨b, _, rfl⟩ := List.mem_map.1 hv; rfl
theorem bls_length (bs : List Bool) : (bls bs).length = bs.length := by simp [bls]
/-- A slice of truths of the call's own. -/
def BOwn (w : World) (B : Nat) (v : Value) (bs : List Bool) : Prop := w.ownsRow B 4 1 v bs.length (bls bs)
theorem BOwn.nil (w : World) (B : Nat) : BOwn w B (.slice none 0 0) [] := World.ownsRow_nil _ _ _ _
theorem BOwn.lt {w : World} {B : Nat} {v : Value} {bs : List Bool} (h : BOwn w B v bs) : ∀ k, v.ownBlock = some k → B ≤ k := fun k hk => (World.ownsRow.lt h k hk).1
theorem BOwn.alloc {w : World} {B : Nat} {v : Value} {bs : List Bool} (h : BOwn w B v bs) (o : Obj) : BOwn (w.alloc o) B v bs := World.ownsRow.alloc h o
theorem BOwn.below {w w' : World} {B : Nat} {v : Value} {bs : List Bool} (h : BOwn w B v bs) (hb : Below w.heap.size w w') : BOwn w' B v bs := by
  obtain ⟨h1, h2⟩ := h
  refine ⟨h1, ?_⟩
  rcases h2 with h2 | ⟨g, cap, cur, e, hg, hh, r⟩
  · exact .inl h2
  · refine .inr ⟨g, cap, cur, e, hg, ?_, r⟩
    rw [hb.block g (Array.getElem?_eq_some_iff.1 hh).1]
    exact hh
theorem BOwn.but {w w' : World} {B g : Nat} {v : Value} {bs : List Bool} {cs : List Value} (h : BOwn w B v bs) (hg : Blk w g 28 cs) (hb : But g w w') : BOwn w' B v bs := by
  obtain ⟨h1, h2⟩ := h
  refine ⟨h1, ?_⟩
  rcases h2 with h2 | ⟨k, cap, cur, e, hk, hh, r⟩
  · exact .inl h2
  · refine .inr ⟨k, cap, cur, e, hk, ?_, r⟩
    have hne : k ≠ g := by
      rintro rfl
      rw [hg] at hh
      injection hh with hh
      injection hh with _ h2 _
      exact absurd h2 (by decide)
    rw [hb.block k hne]
    exact hh
/-- Where it lies, and its truths. -/
theorem BOwn.at {w : World} {B : Nat} {v : Value} {bs : List Bool} (h : BOwn w B v bs) : ∃ a cap, v = .slice a bs.length cap ∧ ∀ i, i < bs.length → ∃ g, a = some ⟨g, 0, none⟩ ∧ w.cell? ⟨g, i, none⟩ = some (.bool (bs.getD i false)) := by
  obtain ⟨_, h2⟩ := h
  rcases h2 with ⟨rfl, h0⟩ | ⟨g, cap, cur, rfl, hB, hh, h3, h4, h5, h6⟩
  · exact ⟨none, 0, by rw [h0], fun i hi => by omega⟩
  · refine ⟨_, cap, rfl, fun i hi => ⟨g, rfl, ?_⟩⟩
    rw [cell_of_row w g i cur 4 (0, 0) hh]
    have e : (cur.toList.take (bs.length * 1))[i]? = some (.bool (bs.getD i false)) := by rw [h6]; simp [bls, List.getD, hi]
    rw [List.getElem?_take, if_pos (by omega)] at e
    simpa using e
theorem step_appendO {dst : Option Tmp} {s x : Operand} {ty : TypeId} {pos : String} {aft : Array Edge} {gd : Option (Nat × Bool)} {ops : Array Oper} {rest : List Oper} {a : Act} {w : World} {Q : Exit → Act → World → Prop}
    {B : Nat} {v : Value} {bs : List Bool} {g : Nat} {b : Bool}
    (hw : Region.wanted ⟨dst, .call { callee := .builtin .append, args := #[s, x], argTypes := #[29, 29] }, ty, pos, aft, gd⟩ (yielded ops a.tmps) = true)
    (hs : a.eval s = v) (hx : a.eval x = .slice (some ⟨g, 0, none⟩) 1 1) (hown : BOwn w B v bs) (hy : w.cell? ⟨g, 0, none⟩ = some (.bool b)) (hlen : bs.length ≤ 4096) (hB : B ≤ w.heap.size)
    (h : ∀ v' w', BOwn w' B v' (bs ++ [b]) → w.grownBy w' v.ownBlock → wpList Tryd.prog ops Q rest (a.put dst v') w') :
    wpList Tryd.prog ops Q (⟨dst, .call { callee := .builtin .append, args := #[s, x], argTypes := #[29, 29] }, ty, pos, aft, gd⟩ :: rest) a w := by
  obtain ⟨i0, hi, hz0, hz1, hz2⟩ := info_parts infoO
  refine BigFrame.wpList_want hw fun K hK => ?_
  refine wp_append_own _ s x 29 rfl B 4 i0 (.bool false) 1 1 undO hi hz0 hz1 hz2 rfl (by decide) v _ _ hs hown ⟨g, 0, none⟩ 1 1 [.bool b] hx rfl ?_ (bls_one [b]) (by unfold maxLen; omega) (by omega) hB ?_
  · intro j u hu
    match j, hu with
    | 0, hu => simp at hu; subst hu; rw [Addr.add_lit]; exact hy
    | j + 1, hu => simp at hu
  · intro v' w' h1 h2 _
    exact hK _ _ (h v' w' (by unfold BOwn; rw [List.length_append]; simpa [bls] using h1) h2)
theorem Blk.grownO {w w' : World} {g : Nat} {cs : List Value} {B : Nat} {v : Value} {bs : List Bool} (h : Blk w g 28 cs) (ho : BOwn w B v bs) (hg : w.grownBy w' v.ownBlock) : Blk w' g 28 cs := by
  have : w'.heap[g]? = w.heap[g]? := hg.block g h.lt (fun e2 => by
    rcases ho.2 with ⟨e3, _⟩ | ⟨k, cap', cur, e3, hB, hh, _⟩
    · rw [e3] at e2; cases e2
    · rw [e3] at e2
      cases e2
      rw [h] at hh
      injection hh with hh
      injection hh with _ h2 _
      exact absurd h2 (by decide))
  unfold Blk
  rw [this]
  exact h
/-- Digests through the growth of a slice of truths. -/
theorem Ds.grown {w w' : World} {a : Option Addr} {n cap : Nat} {xs : List Int} {B : Nat} {v : Value} {bs : List Bool} (h : Ds w a n cap xs) (ho : BOwn w B v bs) (hg : w.grownBy w' v.ownBlock) (hk : ∀ x, a = some x → ∃ cs, Blk w x.block 28 cs) : Ds w' a n cap xs := by
  refine ⟨h.hcap, h.hmax, h.hnil, ⟨h.sl.hlen, h.sl.hcap, h.sl.hmax, h.sl.hreach, h.sl.hbyte, h.sl.hnil, fun h0 => ?_⟩⟩
  obtain ⟨b, off, e, hc⟩ := h.sl.hcell h0
  refine ⟨b, off, e, fun i hi => ?_⟩
  obtain ⟨cs, hcs⟩ := hk _ e
  have hblk : w'.heap[b]? = w.heap[b]? := Eq.trans (hcs.grownO ho hg) (Eq.symm hcs)
  rw [World.cell?_of_block (w := w) hblk]
  exact hc i hi

theorem bl_half (x : Nat) (h0 : 0 < x) (h : x < 2 ^ 63) : Lib.bitLen x = Lib.bitLen (x / 2) + 1 := by
  rw [Lib.bitLen_half x (by omega) (by omega), Nat.add_comm]
theorem bits_any (N : Nat) (w : World) (hN : N ≤ 4398046511104) : Calls Tryd.prog 5 #[.int .i64 (N : Int)] w fun e w' => e = .returned (.int .i64 (Lib.bitLen N : Int)) ∧ w' = w := by
  obtain ⟨T, HT⟩ : ∃ T, Hid (Lib.bitLen N = T) := ⟨_, hide rfl⟩
  have hT : T ≤ 64 := by rw [← HT.out]; exact Lib.bitLen_le N 64 (Nat.le_refl _) (by omega)
  rw [HT.out]
  go_enter Tryd.func5, Tryd.ntmps5
  go_wp2
  go_loopw [0, 3] (fun x k wr => ∃ j c : Nat, x = .int .i64 j ∧ k = .int .i64 c ∧ j ≤ N ∧ Hid (c + Lib.bitLen j = T) ∧ wr = w) (fun x _ _ => (intOf x).toNat)
  case atStart => exact ⟨N, 0, rfl, rfl, Nat.le_refl _, hide (by rw [Nat.zero_add]; exact HT.out), rfl⟩
  case round =>
    obtain ⟨j, c, rfl, rfl, hj, HC, rfl⟩ := hrel
    have hcT : c ≤ T := by have := HC.out; exact Nat.le_of_add_right_le (Nat.le_of_eq this)
    by_cases h0 : 0 < j
    · have h0' : (0 : Int) < (j : Int) := by omega
      have HC2 : Hid (c + 1 + Lib.bitLen (j / 2) = T) := hide (by
        have := HC.out
        rw [bl_half j h0 (by omega)] at this
        rw [← this, Nat.add_assoc, Nat.add_comm 1])
      go_wp2
      go_roundw
      case rel => exact ⟨j / 2, c + 1, by go_num, by go_num, by omega, HC2, by first | rfl | trivial⟩
      case measure => simp [intOf]; omega
    · obtain rfl : j = 0 := by omega
      have hc : c = T := HC.out
      subst hc
      go_wp2
      go_ret
      exact ⟨rfl, rfl⟩

end Go.Proofs.YtmgabnlobeienabDoor
