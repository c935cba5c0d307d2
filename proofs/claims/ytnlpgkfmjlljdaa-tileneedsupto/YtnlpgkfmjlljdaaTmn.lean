/-
  Slices of nodes in memory; the widest tiles of nodes, place by place, in the order in which they are met.
-/
import Derived.Test.YtnlpgkfmjlljdaaTma
namespace Go.Proofs.Ytnlpgkfmjlljdaa
open Go.RowKit
set_option linter.unusedVariables false

/-- A slice of nodes in memory. -/
structure Nds (w : World) (a : Option Addr) (len cap : Nat) (ns : List (Int × Int)) : Prop where
  hlen : ns.length = len
  hcap : len ≤ cap
  hmax : cap ≤ 9223372036854775807
  hcell : ∀ i x, ns[i]? = some x → ∃ b o, a = some ⟨b, o, none⟩ ∧ w.cell? ⟨b, o + i * 2, none⟩ = some (.int .i64 x.1) ∧ w.cell? ⟨b, o + i * 2 + 1, none⟩ = some (.int .i64 x.2)
theorem Nds.below {w w' : World} {B : Nat} {a : Option Addr} {len cap : Nat} {ns : List (Int × Int)} (h : Nds w a len cap ns) (hb : Below B w w') (hB : w.heap.size ≤ B) : Nds w' a len cap ns :=
  ⟨h.hlen, h.hcap, h.hmax, fun i x hx => by
    obtain ⟨b, o, e, h1, h2⟩ := h.hcell i x hx
    have hlt := World.block_lt_of_cell? w _ h1
    refine ⟨b, o, e, ?_, ?_⟩
    · rw [hb.cell (Nat.lt_of_lt_of_le hlt hB)]; exact h1
    · rw [hb.cell (p := ⟨b, o + i * 2 + 1, none⟩) (Nat.lt_of_lt_of_le hlt hB)]; exact h2⟩
theorem undNds : Try.prog.underlying 46 = some (.slice (Try.prog.elem 46)) := by kernel_rfl
theorem elemNds : Try.prog.elem 46 = 23 := by kernel_rfl
theorem sizeNds (w : World) : (sizeOf 23).run Try.prog w = .ok 2 w := by kernel_rfl
theorem n_at (b o n cap i : Nat) (I : Int) (hI : I = (i : Int)) (hi : i < n) (v : World) : (Instr.indexAt 46 (.slice (some ⟨b, o, none⟩) n cap) (.int .i64 I)).run Try.prog v = .ok (.pointer (some ⟨b, o + i * 2, none⟩)) v := by
  subst hI
  rw [run_indexAt_slice v _ _ _ _ .i64 i undNds, if_pos ⟨by omega, by omega⟩, elemNds, sizeNds]
  simp only [Result.andThen_ok, Int.toNat_natCast]
  rw [Addr.add_lit]
/-- Where a node is: its tile's place, and how wide that must be. -/
def npl (h : Nat) (x : Int × Int) : (Int × Int) × Int := ((((x.1.toNat / h : Nat) : Int), ((oX h x.1.toNat x.2.toNat : Nat) : Int)), ((oT h x.1.toNat x.2.toNat : Nat) : Int))
/-- One more node. -/
def nstep (h : Nat) (m : List ((Int × Int) × Int)) (x : Int × Int) : List ((Int × Int) × Int) := mput m (npl h x).1 (max (mget m (npl h x).1) (npl h x).2)
def nwid (h : Nat) (ns : List (Int × Int)) : List ((Int × Int) × Int) := ns.foldl (nstep h) []
theorem nwid_snoc (h : Nat) (ns : List (Int × Int)) (x : Int × Int) : nwid h (ns ++ [x]) = nstep h (nwid h ns) x := by
  unfold nwid
  rw [List.foldl_append]
  rfl
/-- What is there has a width. -/
def wid1 (m : List ((Int × Int) × Int)) : Prop := ∀ x ∈ m, 1 ≤ x.2 ∧ x.2 ≤ 256
theorem mget_pos {m : List ((Int × Int) × Int)} {k : Int × Int} (h1 : (m.map (·.1)).Nodup) (hw : wid1 m) (hk : k ∈ m.map (·.1)) : 1 ≤ mget m k ∧ mget m k ≤ 256 := by
  obtain ⟨x, hx, rfl⟩ := List.mem_map.1 hk
  obtain ⟨j, hj⟩ := List.mem_iff_getElem?.1 hx
  rw [mget_at h1 hj]
  exact hw x hx
theorem mget_zero {m : List ((Int × Int) × Int)} {k : Int × Int} (h1 : (m.map (·.1)).Nodup) (hw : wid1 m) : mget m k = 0 ↔ k ∉ m.map (·.1) := by
  constructor
  · intro h hk
    have := mget_pos h1 hw hk
    omega
  · exact mget_no
theorem mget_bd {m : List ((Int × Int) × Int)} {k : Int × Int} (h1 : (m.map (·.1)).Nodup) (hw : wid1 m) : 0 ≤ mget m k ∧ mget m k ≤ 256 := by
  by_cases hk : k ∈ m.map (·.1)
  · have := mget_pos h1 hw hk; omega
  · rw [mget_no hk]; omega
theorem npl_bd {h : Nat} (hh : isH h) (x : Int × Int) : 1 ≤ (npl h x).2 ∧ (npl h x).2 ≤ 256 := by
  have h1 : oT h x.1.toNat x.2.toNat ≤ 2 ^ h := by
    have hr : x.1.toNat % h < h := Nat.mod_lt _ (by have := hh.1; omega)
    have e : 2 ^ h = 2 ^ (x.1.toNat % h) * 2 ^ (h - x.1.toNat % h) := by rw [← Nat.pow_add]; congr 1; omega
    unfold oT oF oA
    rw [e, Nat.mul_comm x.2.toNat, Nat.mul_mod_mul_left]
    have hm := Nat.mod_lt x.2.toNat (Nat.two_pow_pos (h - x.1.toNat % h))
    have := Nat.mul_le_mul_left (2 ^ (x.1.toNat % h)) (show x.2.toNat % 2 ^ (h - x.1.toNat % h) + 1 ≤ 2 ^ (h - x.1.toNat % h) from hm)
    rw [Nat.mul_add, Nat.mul_one] at this
    exact this
  have h2 : 1 ≤ oT h x.1.toNat x.2.toNat := by
    unfold oT
    have := Nat.two_pow_pos (x.1.toNat % h)
    omega
  have h3 := hh.pow.2
  unfold npl
  show 1 ≤ ((oT h x.1.toNat x.2.toNat : Nat) : Int) ∧ ((oT h x.1.toNat x.2.toNat : Nat) : Int) ≤ 256
  generalize oT h x.1.toNat x.2.toNat = t at *
  generalize 2 ^ h = q at *
  omega
theorem wid1_put {m : List ((Int × Int) × Int)} {k : Int × Int} {v : Int} (hw : wid1 m) (hv : 1 ≤ v ∧ v ≤ 256) : wid1 (mput m k v) := by
  intro x hx
  unfold mput at hx
  split at hx
  · obtain ⟨y, hy, e⟩ := List.mem_map.1 hx
    split at e
    · rw [← e]; exact hv
    · rw [← e]; exact hw y hy
  · rcases List.mem_append.1 hx with hx | hx
    · exact hw x hx
    · simp at hx; rw [hx]; exact hv
/-- A tile of the list. -/
def mT (h : Nat) (x : (Int × Int) × Int) : Tl := ((h : Int), x.1.1, x.1.2, x.2)
/-- Tiles that stand at the map's places, in its order. -/
def sameP (h : Nat) (ts : List Tl) (m : List ((Int × Int) × Int)) : Prop := ts.map (fun t => (t.1, t.2.1, t.2.2.1)) = m.map (fun x => ((h : Int), x.1.1, x.1.2))
theorem sameP_step {h : Nat} {ts : List Tl} {m : List ((Int × Int) × Int)} {k : Int × Int} {v wd : Int} (hs : sameP h ts m) : sameP h (if k ∈ m.map (·.1) then ts else ts ++ [((h : Int), k.1, k.2, wd)]) (mput m k v) := by
  unfold sameP at *
  unfold mput
  split
  · rw [hs, List.map_map]
    apply List.map_congr_left
    intro x _
    simp only [Function.comp]
    split
    · rename_i e; rw [e]
    · rfl
  · rw [List.map_append, List.map_append, hs]
    rfl
theorem Mp.below {w w' : World} {mb : Nat} {m : List ((Int × Int) × Int)} (h : Mp w mb m) (hb : Below w.heap.size w w') : Mp w' mb m := by
  obtain ⟨⟨es, clock, h1, h2⟩, h3, h4⟩ := h
  exact ⟨⟨es, clock, by rw [hb.block mb (Array.getElem?_eq_some_iff.1 h1).1]; exact h1, h2⟩, h3, h4⟩
theorem Mp.lt {w : World} {mb : Nat} {m : List ((Int × Int) × Int)} (h : Mp w mb m) : mb < w.heap.size := by
  obtain ⟨⟨es, clock, h1, h2⟩, h3, h4⟩ := h
  exact (Array.getElem?_eq_some_iff.1 h1).1
theorem Mp.but {w w' : World} {mb g : Nat} {m : List ((Int × Int) × Int)} (h : Mp w mb m) (hb : But g w w') (hg : mb ≠ g) : Mp w' mb m := by
  obtain ⟨⟨es, clock, h1, h2⟩, h3, h4⟩ := h
  exact ⟨⟨es, clock, by rw [hb.block mb hg]; exact h1, h2⟩, h3, h4⟩
theorem Mp.grown {w w' : World} {mb : Nat} {m : List ((Int × Int) × Int)} {row : Option Nat} (h : Mp w mb m) (hb : w.grownBy w' row) (hg : row ≠ some mb) : Mp w' mb m := by
  obtain ⟨⟨es, clock, h1, h2⟩, h3, h4⟩ := h
  exact ⟨⟨es, clock, by rw [hb.block mb (Array.getElem?_eq_some_iff.1 h1).1 (fun e => hg e.symm)]; exact h1, h2⟩, h3, h4⟩
/-- A slice of tiles lies in no map's block. -/
theorem OwnT.apartM {w : World} {B mb : Nat} {v : Value} {ts : List Tl} {m : List ((Int × Int) × Int)} (h : OwnT w B v ts) (hm : Mp w mb m) : v.ownBlock ≠ some mb := fun e => by
  obtain ⟨es, clock, h1, _⟩ := hm.ex
  rcases h.lies with ⟨rfl, _⟩ | ⟨g, cap, cs, rfl, _, hb, _⟩
  · cases e
  · injection e with e
    subst e
    unfold Blk at hb
    rw [h1] at hb
    cases hb

end Go.Proofs.Ytnlpgkfmjlljdaa
