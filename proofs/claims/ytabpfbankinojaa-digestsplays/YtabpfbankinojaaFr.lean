/-
  From how an argument is read as data to what the walks are told of it: a slice of bytes.
-/
import Derived.Test.YtabpfbankinojaaFrA
import Derived.Test.YtabpfbankinojaaMe
namespace Go.Proofs.Ytabpfbankinojaa
open Go.ChangeShapes Go.WideShapes Go.ChangeAt Go.RowKit
open Go.ChangeMaps (open_string shut_string)
set_option linter.unusedVariables false

theorem bytes5 : Try.prog.bytesOf 5 = 1 := by kernel_rfl

theorem wf_u8 {n : Int} (h : (Lit.int .u8 n).wf = true) : 0 ≤ n ∧ n ≤ 255 := bounds_u8 h

set_option maxRecDepth 100000 in
/-- A slice of bytes that came in, whatever its size. -/
theorem sl_open {H : Type} {enc : TypeId × Value → H} {W : World} {base : Nat} {v : Value} {d : DataW H} {p : List MemPlace}
    (hv : Value.okWide Try.prog W .any base 72 v) (h : DataW.Trod enc Try.prog W 0 (fun _ => true) true 72 v d p) :
    ∃ a len cap xs, v = .slice a len cap ∧ (cap ≤ 140737488351232 → Sl W a len cap xs) ∧
      ((d = .nil ∧ cap = 0) ∨ ∃ zs : List Int, zs.length = cap ∧ d = .slice (lits .u8 (zs.take len)) (lits .u8 (zs.drop len))) := by
  obtain ⟨a, len, cap, rfl⟩ := okWide_slice undBs hv
  refine ⟨a, len, cap, ?_⟩
  obtain ⟨fuel, hf⟩ := h
  rcases open_ints undBs undB (by kernel_rfl) hf with ⟨hcs, hx⟩ | ⟨x, l, c, zs, hcs, _, hl, hm, hz, hx, hcell, hwz⟩
  · simp [Value.cells] at hcs
    obtain ⟨rfl, rfl, rfl⟩ := hcs
    simp only [Prod.mk.injEq] at hx
    exact ⟨[], rfl, fun _ => ⟨rfl, Nat.le_refl _, by omega, by omega, (fun x hx => by simp at hx), fun _ => ⟨rfl, rfl⟩, fun h => absurd h (by omega)⟩, .inl ⟨hx.1, rfl⟩⟩
  · simp [Value.cells] at hcs
    obtain ⟨rfl, rfl, rfl⟩ := hcs
    simp only [Prod.mk.injEq] at hx
    simp only [if_true] at hz
    refine ⟨zs.take len, rfl, fun hc => ⟨by simp; omega, hl, by omega, by omega, fun y hy => wf_u8 (hwz y (List.mem_of_mem_take hy)), (fun e => by cases e), fun h0 => ?_⟩, .inr ⟨zs, hz, hx.1⟩⟩
    obtain ⟨b, off, spot⟩ := x
    have hs : spot = none := by simpa [Addr.add] using World.cell?_spot (hcell 0 (by omega))
    subst hs
    refine ⟨b, off, rfl, fun i hi => ?_⟩
    have e := hcell i (by omega)
    rw [Addr.add_lit] at e
    rw [e]
    simp [List.getD, hi]

set_option maxRecDepth 100000 in
/-- The same within the form's own reach. -/
theorem sl_of {H : Type} {enc : TypeId × Value → H} {W : World} {base : Nat} {v : Value} {d : DataW H} {p : List MemPlace} {ts : List TypeId} {ds : List (DataW H)} (j : Nat)
    (hv : Value.okWide Try.prog W .any base 72 v) (h : DataW.Trod enc Try.prog W 0 (fun _ => true) true 72 v d p)
    (hsz : (DataW.weightsEach Try.prog ts ds).all (· ≤ reachBytes) = true) (ht : ts[j]? = some 72) (hd : ds[j]? = some d) :
    ∃ a len cap xs, v = .slice a len cap ∧ Sl W a len cap xs ∧ cap ≤ 140737488351232 := by
  obtain ⟨a, len, cap, xs, rfl, hs, hd2⟩ := sl_open hv h
  have hc : cap ≤ 140737488351232 := by
    rcases hd2 with ⟨_, rfl⟩ | ⟨zs, hz, rfl⟩
    · omega
    · have := sized_slice hsz ht hd undBs
      rw [bytes5] at this
      simp only [lits, List.length_map, List.length_take, List.length_drop, reachBytes] at this
      omega
  exact ⟨a, len, cap, xs, rfl, hs hc, hc⟩

theorem bulk_ints {H : Type} (k : IntKind) (zs : List Int) : Rows.uptoBulkAll (H := H) (lits k zs) = zs.length := by
  induction zs with
  | nil => rfl
  | cons z l ih => simp only [lits, List.map_cons, Rows.uptoBulkAll, Rows.uptoBulk, List.length_cons] at ih ⊢; omega

set_option maxRecDepth 100000 in
theorem sl_upto {H : Type} {enc : TypeId × Value → H} {W : World} {base : Nat} {v : Value} {d : DataW H} {p : List MemPlace}
    (hv : Value.okWide Try.prog W .any base 72 v) (h : DataW.Trod enc Try.prog W 0 (fun _ => true) true 72 v d p) (hm : Rows.uptoBulk d ≤ 1048576) :
    ∃ a len cap xs, v = .slice a len cap ∧ Sl W a len cap xs ∧ cap ≤ 1048576 := by
  obtain ⟨a, len, cap, xs, rfl, hs, hd2⟩ := sl_open hv h
  have hc : cap ≤ 1048576 := by
    rcases hd2 with ⟨_, rfl⟩ | ⟨zs, hz, rfl⟩
    · omega
    · simp only [Rows.uptoBulk, bulk_ints, List.length_take, List.length_drop] at hm
      omega
  exact ⟨a, len, cap, xs, rfl, hs (by omega), hc⟩

end Go.Proofs.Ytabpfbankinojaa
