/-
  Acts of the statements of digests: their cells, in memory.
-/
import Derived.Test.YtabpfbankinojaaDga
namespace Go.Proofs.Ytabpfbankinojaa
open Go.RowKit
set_option linter.unusedVariables false

/-- An act's cells. -/
def acC (d : List Int) (q : Int) (b : Bool) : List Value := u8s d ++ [.int .i64 q, .bool b]
theorem acC_len (d : List Int) (q : Int) (b : Bool) (h : d.length = 32) : (acC d q b).length = 34 := by simp [acC, u8s_length, h]
theorem acC_d (d : List Int) (q : Int) (b : Bool) (h : d.length = 32) : (acC d q b).take 32 = u8s d := by
  unfold acC
  have : (u8s d).length = 32 := by rw [u8s_length, h]
  rw [← this, List.take_left]
theorem acC_r (d : List Int) (q : Int) (b : Bool) (h : d.length = 32) : (acC d q b).drop 32 = [.int .i64 q, .bool b] := by
  unfold acC
  have : (u8s d).length = 32 := by rw [u8s_length, h]
  rw [← this, List.drop_left]
theorem acC_q (d : List Int) (q : Int) (b : Bool) (h : d.length = 32) : (acC d q b)[32]? = some (.int .i64 q) := by
  have := congrArg (fun l : List Value => l[0]?) (acC_r d q b h)
  simpa using this
theorem acC_b (d : List Int) (q : Int) (b : Bool) (h : d.length = 32) : (acC d q b)[33]? = some (.bool b) := by
  have := congrArg (fun l : List Value => l[1]?) (acC_r d q b h)
  simpa using this
theorem acC_0 (d : List Int) (q : Int) (b : Bool) (h : d.length = 32) : (acC d q b)[0]? = some (.int .u8 (d.getD 0 0)) := by
  unfold acC
  rw [List.getElem?_append_left (by rw [u8s_length, h]; omega)]
  exact u8s_get d 0 (by omega)
theorem One.acC (d : List Int) (q : Int) (b : Bool) : One (acC d q b) := (One.u8 _).app (by intro v hv; simp at hv; rcases hv with rfl | rfl <;> rfl)
/-- An act. -/
structure Ac6 where
  d : List Int
  q : Int
  b : Bool
def Ac6.cells (x : Ac6) : List Value := acC x.d x.q x.b
structure Ac6.Good (x : Ac6) : Prop where
  dl : x.d.length = 32
  db : isB x.d
  wq : (Lit.int .i64 x.q).wf = true
theorem undAs : Try.prog.underlying 22 = some (.slice (Try.prog.elem 22)) := by kernel_rfl
theorem elemAs : Try.prog.elem 22 = 33 := by kernel_rfl
theorem sizeAs (w : World) : (sizeOf 33).run Try.prog w = .ok 34 w := by kernel_rfl
theorem a_at (b o n cap i : Nat) (I : Int) (hI : I = (i : Int)) (hi : i < n) (v : World) : (Instr.indexAt 22 (.slice (some ⟨b, o, none⟩) n cap) (.int .i64 I)).run Try.prog v = .ok (.pointer (some ⟨b, o + i * 34, none⟩)) v := by
  subst hI
  rw [run_indexAt_slice v _ _ _ _ .i64 i undAs, if_pos ⟨by omega, by omega⟩, elemAs, sizeAs]
  simp only [Result.andThen_ok, Int.toNat_natCast]
  rw [Addr.add_lit]
/-- Acts in memory. -/
structure Ats (w : World) (a : Option Addr) (len cap : Nat) (acts : Nat → Ac6) : Prop where
  hcap : len ≤ cap
  hmax : cap ≤ 9223372036854775807
  good : ∀ i, i < len → (acts i).Good
  hcell : ∀ i, i < len → ∃ b off, a = some ⟨b, off, none⟩ ∧ w.rangeAt b (off + i * 34) (acts i).cells
theorem Ats.below {w w' : World} {a : Option Addr} {len cap : Nat} {acts : Nat → Ac6} (h : Ats w a len cap acts) (hb : Below w.heap.size w w') : Ats w' a len cap acts :=
  ⟨h.hcap, h.hmax, h.good, fun i hi => by
    obtain ⟨b, off, e, hr⟩ := h.hcell i hi
    refine ⟨b, off, e, fun j v hj => ?_⟩
    have := hr j v hj
    rw [hb.cell (World.block_lt_of_cell? w _ this)]
    exact this⟩

end Go.Proofs.Ytabpfbankinojaa
