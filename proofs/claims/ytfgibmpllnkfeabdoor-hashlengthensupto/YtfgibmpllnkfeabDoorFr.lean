/-
  From how an argument is read as data to what the walks are told of it: a slice of bytes, an array of numbers.
-/
import Derived.Test.YtfgibmpllnkfeabDoorRows
import Derived.Test.YtfgibmpllnkfeabDoorMe
import Derived.WalkKit
import Derived.ProofKit
import Derived.OpenShut
import Derived.ShutString
import Derived.ChangeOld
import Derived.Below
import Derived.SizedLaws
namespace Go.Proofs.YtfgibmpllnkfeabDoor
open Go.ChangeShapes Go.WideShapes Go.ChangeAt Go.RowKit
open Go.ChangeMaps (open_string shut_string)
set_option linter.unusedVariables false

theorem own : ownKnob Tryd.prog.godebug = none := by kernel_rfl
theorem laidOut : laidOutB Tryd.prog = true := by kernel_rfl
theorem bytes5 : Tryd.prog.bytesOf 5 = 1 := by kernel_rfl

theorem wf_u8 {n : Int} (h : (Lit.int .u8 n).wf = true) : 0 ≤ n ∧ n ≤ 255 := bounds_u8 h

/-- A slice of bytes that came in, whatever its size. -/
theorem sl_open {H : Type} {enc : TypeId × Value → H} {W : World} {base : Nat} {v : Value} {d : DataW H} {p : List MemPlace}
    (hv : Value.okWide Tryd.prog W .any base 22 v) (h : DataW.Trod enc Tryd.prog W 0 (fun _ => true) true 22 v d p) :
    ∃ a len cap xs, v = .slice a len cap ∧ (cap ≤ 140737488351232 → Sl W a len cap xs) ∧
      ((d = .nil ∧ cap = 0) ∨ ∃ zs : List Int, zs.length = cap ∧ d = .slice (lits .u8 (zs.take len)) (lits .u8 (zs.drop len))) := by
  obtain ⟨a, len, cap, rfl⟩ := okWide_slice undBs hv
  refine ⟨a, len, cap, ?_⟩
  obtain ⟨fuel, hf⟩ := h
  rcases open_ints undBs undB (by kernel_rfl) hf with ⟨hcs, hx⟩ | ⟨x, l, c, zs, hcs, _, hl, hm, hz, hx, hcell, hwz⟩
  · simp [Value.cells] at hcs
    obtain ⟨rfl, rfl, rfl⟩ := hcs
    simp only [Prod.mk.injEq] at hx
    exact ⟨[], rfl, fun _ => ⟨rfl, Nat.le_refl _, by omega, by omega, (fun x hx => by simp at hx), fun _ => ⟨rfl, rfl⟩, fun h => absurd h (by omega)⟩, .inl ⟨hx.1, rfl⟩⟩
  · simp [Value.cells] at hcs
    obtain ⟨rfl, rfl, rfl⟩ := hcs
    simp only [Prod.mk.injEq] at hx
    simp only [if_true] at hz
    refine ⟨zs.take len, rfl, fun hc => ⟨by simp; omega, hl, by omega, by omega, fun y hy => wf_u8 (hwz y (List.mem_of_mem_take hy)), (fun e => by cases e), fun h0 => ?_⟩, .inr ⟨zs, hz, hx.1⟩⟩
    obtain ⟨b, off, spot⟩ := x
    have hs : spot = none := by simpa [Addr.add] using World.cell?_spot (hcell 0 (by omega))
    subst hs
    refine ⟨b, off, rfl, fun i hi => ?_⟩
    have e := hcell i (by omega)
    rw [Addr.add_lit] at e
    rw [e]
    simp [List.getD, hi]

/-- The same within the form's own reach. -/
theorem sl_of {H : Type} {enc : TypeId × Value → H} {W : World} {base : Nat} {v : Value} {d : DataW H} {p : List MemPlace} {ts : List TypeId} {ds : List (DataW H)} (j : Nat)
    (hv : Value.okWide Tryd.prog W .any base 22 v) (h : DataW.Trod enc Tryd.prog W 0 (fun _ => true) true 22 v d p)
    (hsz : (DataW.weightsEach Tryd.prog ts ds).all (· ≤ reachBytes) = true) (ht : ts[j]? = some 22) (hd : ds[j]? = some d) :
    ∃ a len cap xs, v = .slice a len cap ∧ Sl W a len cap xs ∧ cap ≤ 140737488351232 := by
  obtain ⟨a, len, cap, xs, rfl, hs, hd2⟩ := sl_open hv h
  have hc : cap ≤ 140737488351232 := by
    rcases hd2 with ⟨_, rfl⟩ | ⟨zs, hz, rfl⟩
    · omega
    · have := sized_slice hsz ht hd undBs
      rw [bytes5] at this
      simp only [lits, List.length_map, List.length_take, List.length_drop, reachBytes] at this
      omega
  exact ⟨a, len, cap, xs, rfl, hs hc, hc⟩

/-- An array of numbers that came in. -/
theorem arr_open {T E : TypeId} {k : IntKind} {n : Nat} (hA : Arr T E k n) (hc : Tryd.prog.cellsOf T = n) {H : Type} {enc : TypeId × Value → H} {W : World} {base : Nat} {v : Value} {d : DataW H} {p : List MemPlace}
    (hv : Value.okWide Tryd.prog W .any base T v) (h : DataW.Trod enc Tryd.prog W 0 (fun _ => true) true T v d p) :
    ∃ xs : List Int, v = .agg (xs.map (Value.int k)).toArray ∧ xs.length = n ∧ ∀ x ∈ xs, (Lit.int k x).wf = true := by
  have hv2 : ∃ cs, v = .agg cs ∧ cs.size = Tryd.prog.cellsOf T ∧ Row.okWide Tryd.prog W .any base T cs := by
    unfold Value.okWide at hv
    rw [hA.und] at hv
    exact hv
  obtain ⟨cs, rfl, hsz, _⟩ := hv2
  rw [hc] at hsz
  obtain ⟨fuel, hf⟩ := h
  obtain ⟨ys, m, _, _, _, hyl, hy⟩ := DataW.trod_array hA.und hf
  rw [hA.cells] at hy
  have key : ∀ i, i < n → ∃ z : Int, cs[i]? = some (.int k z) ∧ (Lit.int k z).wf = true := by
    intro i hi
    have hi2 : i < cs.size := by omega
    have e := hy i hi
    have hys : ys[i]? = some ys[i] := List.getElem?_eq_getElem (by omega)
    rw [hys, Nat.mul_one] at e
    have ec : ((Value.agg cs).cells.toList.drop i).take 1 = [cs[i]] := by
      simp only [Value.cells]
      rw [List.drop_eq_getElem_cons (by simpa using hi2)]
      simp
    rw [ec] at e
    obtain ⟨z, hz, _, hwf⟩ := DataW.trod_int hA.elem e
    simp only [List.cons.injEq, and_true] at hz
    exact ⟨z, by rw [Array.getElem?_eq_getElem hi2, hz], hwf⟩
  refine ⟨(List.range n).map (fun i => intOf (cs[i]?.getD undef)), ?_, by simp, ?_⟩
  · congr 1
    apply Array.ext_getElem?
    intro i
    by_cases hi : i < n
    · obtain ⟨z, hz, _⟩ := key i hi
      simp [hi, hz, intOf]
    · rw [Array.getElem?_eq_none (by omega)]
      simp [hi]
  · intro x hx
    simp only [List.mem_map, List.mem_range] at hx
    obtain ⟨i, hi, rfl⟩ := hx
    obtain ⟨z, hz, hb⟩ := key i hi
    simp [hz, hb, intOf]

theorem bulk_ints {H : Type} (k : IntKind) (zs : List Int) : Rows.uptoBulkAll (H := H) (lits k zs) = zs.length := by
  induction zs with
  | nil => rfl
  | cons z l ih => simp only [lits, List.map_cons, Rows.uptoBulkAll, Rows.uptoBulk, List.length_cons] at ih ⊢; omega

theorem sl_upto {H : Type} {enc : TypeId × Value → H} {W : World} {base : Nat} {v : Value} {d : DataW H} {p : List MemPlace}
    (hv : Value.okWide Tryd.prog W .any base 22 v) (h : DataW.Trod enc Tryd.prog W 0 (fun _ => true) true 22 v d p) (hm : Rows.uptoBulk d ≤ 1048576) :
    ∃ a len cap xs, v = .slice a len cap ∧ Sl W a len cap xs ∧ cap ≤ 1048576 := by
  obtain ⟨a, len, cap, xs, rfl, hs, hd2⟩ := sl_open hv h
  have hc : cap ≤ 1048576 := by
    rcases hd2 with ⟨_, rfl⟩ | ⟨zs, hz, rfl⟩
    · omega
    · simp only [Rows.uptoBulk, bulk_ints, List.length_take, List.length_drop] at hm
      omega
  exact ⟨a, len, cap, xs, rfl, hs (by omega), hc⟩

end Go.Proofs.YtfgibmpllnkfeabDoor
