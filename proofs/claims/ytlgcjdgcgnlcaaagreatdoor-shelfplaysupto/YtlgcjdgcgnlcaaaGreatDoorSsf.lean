/-
  slices.SortFunc over tiles of one level, by index, the greatest first.
-/
import Derived.Test.YtlgcjdgcgnlcaaaGreatDoorShF
import Derived.Test.YtlgcjdgcgnlcaaaGreatDoorTpb
import Derived.Test.YtlgcjdgcgnlcaaaGreatDoorKmb
import Derived.Shelf.SlSortCmp.WholeK
namespace Go.Proofs.YtlgcjdgcgnlcaaaGreatDoor
open Go.RowKit Go.Shelf
set_option linter.unusedVariables false
set_option linter.unusedSimpArgs false
set_option maxRecDepth 100000

/-- A tile's cells, and those of several. -/
def enT (H L P : Int) (i : Nat) : List Value := c4 H L (i : Int) P
def tlC (H L P : Int) (is : List Nat) : List Value := is.flatMap (enT H L P)
theorem tlC_cons (H L P : Int) (i : Nat) (t : List Nat) : tlC H L P (i :: t) = enT H L P i ++ tlC H L P t := rfl
theorem tlC_app (H L P : Int) (a b : List Nat) : tlC H L P (a ++ b) = tlC H L P a ++ tlC H L P b := by simp [tlC]
theorem tlC_len (H L P : Int) : ∀ is : List Nat, (tlC H L P is).length = is.length * 4
  | [] => rfl
  | i :: t => by
    rw [tlC_cons, List.length_append, tlC_len H L P t, List.length_cons]
    show 4 + t.length * 4 = _
    omega
theorem tlC_get (H L P : Int) : ∀ (is : List Nat) (t : Nat), t < is.length * 4 → (tlC H L P is)[t]? = (enT H L P (is.getD (t / 4) 0))[t % 4]?
  | [], t, h => by simp at h
  | i :: r, t, h => by
    rw [tlC_cons]
    by_cases h4 : t < 4
    · rw [List.getElem?_append_left (by exact h4), Nat.mod_eq_of_lt h4, Nat.div_eq_of_lt h4]
      rfl
    · rw [List.length_cons] at h
      rw [List.getElem?_append_right (by show 4 ≤ t; omega), show t - (enT H L P i).length = t - 4 from rfl, tlC_get H L P r (t - 4) (by omega)]
      have e1 : t % 4 = (t - 4) % 4 := by omega
      have e2 : t / 4 = (t - 4) / 4 + 1 := by omega
      rw [e1, e2]
      simp [List.getD]
def cfT (a b : Nat) : Int := Lib.compareInt (b : Int) (a : Int)
theorem ltT (x y : Nat) : ltOf cfT x y = decide (y < x) := by
  unfold ltOf cfT Lib.compareInt
  by_cases h1 : (y : Int) < (x : Int)
  · have : y < x := by omega
    simp [h1, this]
  · have h3 : ¬ y < x := by omega
    by_cases h2 : (x : Int) < (y : Int) <;> simp [h1, h2, h3]
theorem swoT : Go.Sort.SWO (ltOf cfT) where
  irrefl x := by rw [ltT]; simp
  trans x y z h1 h2 := by rw [ltT] at *; simp at *; omega
  ntrans x y z h1 h2 := by rw [ltT] at *; simp at *; omega
set_option maxHeartbeats 1000000 in
theorem cmpT (H L P : Int) (x y : Nat) (W : World) : Calls Tryz.prog 73 #[.agg #[.int .i64 H, .int .i64 L, .int .i64 (x : Int), .int .i64 P], .agg #[.int .i64 H, .int .i64 L, .int .i64 (y : Int), .int .i64 P]] W fun e w' => e = .returned (.int .i64 (cfT x y)) ∧ ∃ q os', w' = Go.Sort.grow (W.drewN q) os' := by
  have hcon := fun W' => AnyG.cmp_Compare_int Tryz.lCmp (y : Int) (x : Int) W'
  change ∀ W', Calls Tryz.prog 74 _ _ _ at hcon
  unfold cfT
  generalize Lib.compareInt (y : Int) (x : Int) = r at hcon ⊢
  go_enter Tryz.func73, Tryz.ntmps73
  go_wp2_with (go_at_call 74; refine (hcon _).mono ?_; rintro e w' ⟨rfl, rfl⟩)
  go_ret
  exact ⟨rfl, 0, _, by rw [Go.Sort.alloc_eq_grow, Go.Sort.alloc_eq_grow, Go.Sort.grow_grow]; rfl⟩

theorem flatT (H L P : Int) (d : Array Nat) : (Go.Sort.flatK (enT H L P) 4 d).toList = tlC H L P d.toList := by
  refine List.ext_getElem? fun t => ?_
  by_cases ht : t < d.size * 4
  · rw [tlC_get H L P d.toList t (by simpa using ht)]
    have h1 : (Go.Sort.flatK (enT H L P) 4 d)[t]! = (enT H L P d[t / 4]!)[t % 4]! := Go.Sort.get_flatK _ _ _ t ht
    have h2 : t < (Go.Sort.flatK (enT H L P) 4 d).size := by rw [Go.Sort.size_flatK]; exact ht
    rw [getElem!_pos _ t h2] at h1
    rw [List.getElem?_eq_getElem (by simpa using h2), Array.getElem_toList, h1]
    have h3 : t / 4 < d.size := by omega
    have h4 : d.toList.getD (t / 4) 0 = d[t / 4]! := by simp [List.getD, h3]
    rw [h4]
    have h5 : t % 4 < (enT H L P d[t / 4]!).length := Nat.mod_lt _ (by decide)
    rw [List.getElem?_eq_getElem h5]
    exact congrArg some (getElem!_pos (enT H L P d[t / 4]!) (t % 4) h5)
  · rw [List.getElem?_eq_none (by rw [Array.length_toList, Go.Sort.size_flatK]; omega), List.getElem?_eq_none (by rw [tlC_len]; simp; omega)]
theorem sort_some (H L P : Int) (B g cap : Nat) (is : List Nat) (w : World) (hrow : w.ownsRow B 43 4 (.slice (some ⟨g, 0, none⟩) is.length cap) is.length (tlC H L P is)) (h0 : 0 < is.length) (hlen : is.length ≤ 1099511627776) :
    Calls Tryz.prog 72 #[.slice (some ⟨g, 0, none⟩) is.length cap, .func (.func 73) #[] #[]] w fun e w' => e = .returned (.tuple #[]) ∧
      ∃ js : List Nat, js.Perm is ∧ (js.Pairwise fun a b => ¬ a < b) ∧ w'.ownsRow B 43 4 (.slice (some ⟨g, 0, none⟩) is.length cap) js.length (tlC H L P js) ∧ w.grownBy w' (some g) := by
  have eg : ∀ args w, (callFunc 73 args).run Tryz.prog w = .ok (.enter 73 args) w := enters_of Tryz.func73 (by kernel_rfl) rfl
  obtain ⟨hl1, hl2⟩ := hrow
  rcases hl2 with ⟨e, _⟩ | ⟨g', cap', cur, e, hg, hh, h3, h4, h5, h6⟩
  · cases e
  injection e with e1 e2 e3
  injection e1 with e1
  injection e1 with e1
  subst e1 e3
  have hgl : g < w.heap.size := (Array.getElem?_eq_some_iff.1 hh).1
  have hcur : is.length * 4 ≤ cur.size := by rw [h5]; exact Nat.mul_le_mul_right 4 h3
  have hH : Go.Sort.HoldsK (enT H L P) 4 w g 0 is.toArray := by
    intro j hj
    rw [Go.Sort.size_flatK] at hj
    have hj' : j < is.length * 4 := by simpa using hj
    have hf : (Go.Sort.flatK (enT H L P) 4 is.toArray)[j]! = ((tlC H L P is)[j]?).getD default := by
      have h2 : j < (Go.Sort.flatK (enT H L P) 4 is.toArray).size := by rw [Go.Sort.size_flatK]; exact hj
      rw [getElem!_pos _ j h2, ← Array.getElem_toList h2]
      have := flatT H L P is.toArray
      rw [show is.toArray.toList = is from rfl] at this
      rw [← this, List.getElem?_eq_getElem (by simpa using h2)]
      rfl
    have hc : cur[j]? = (tlC H L P is)[j]? := by
      have : (cur.toList.take (is.length * 4))[j]? = (tlC H L P is)[j]? := by rw [h6]
      rw [List.getElem?_take, if_pos hj'] at this
      simpa using this
    have hs : (tlC H L P is)[j]? = some (((tlC H L P is)[j]?).getD default) := by
      rw [List.getElem?_eq_getElem (by rw [tlC_len]; exact hj')]
      rfl
    refine ⟨?_, ?_⟩
    · rw [Nat.zero_add, cell_of_row w g j cur 43 (0, 0) hh, hc, hs, hf]
      rfl
    · simp [World.frozen?, hh]
  have hcmp : CmpLays Tryz.prog 73 #[] (enT H L P) 4 cfT g 0 is.toArray.size w := fun _ _ _ _ x y => cmpT H L P x y _
  have hcon := AnyQ.slices_SortFunc Tryz.lSortF 4 (fun w => by kernel_rfl) (fun w => by kernel_rfl) (enT H L P) (fun _ => rfl) (fun x v hv => by simp [enT, c4] at hv; rcases hv with rfl | rfl | rfl | rfl <;> rfl) cfT swoT 73 #[] g 0 cap is.toArray w eg hcmp hH hgl (by simp; omega)
  change Calls Tryz.prog 72 _ _ _ at hcon
  refine hcon.mono ?_
  rintro e w' ⟨rfl, d', n, os, ⟨p1, p2, p3⟩, hso, rfl⟩
  have hds : d'.size = is.length := by simpa using p1
  refine ⟨rfl, d'.toList, ?_, ?_, ?_, ?_⟩
  · have e1 : d'.extract 0 is.toArray.size = d' := by rw [show is.toArray.size = d'.size by simp [hds]]; simp
    have e2 : is.toArray.extract 0 is.toArray.size = is.toArray := by simp
    rw [e1, e2] at p3
    exact p3
  · rw [List.pairwise_iff_getElem]
    intro a b ha hb hab
    have := hso a b (Nat.zero_le _) hab (by simpa [hds] using hb)
    rw [ltT] at this
    simp only [Array.length_toList] at ha hb
    rw [getElem!_pos _ a ha, getElem!_pos _ b hb] at this
    simpa using this
  · have hF : (Go.Sort.flatK (enT H L P) 4 d').size = is.length * 4 := by rw [Go.Sort.size_flatK, hds]
    have hjl : d'.toList.length = is.length := by simpa using hds
    refine ⟨by rw [tlC_len], .inr ⟨g, cap, Go.Sort.putCells id 0 (Go.Sort.flatK (enT H L P) 4 d') cur, by rw [hjl], hg, ?_, by rw [hjl]; exact h3, h4, by rw [Go.Sort.putCells, Array.size_mapIdx]; exact h5, ?_⟩⟩
    · show ((w.heap.modify g (Go.Sort.onCells _)) ++ os)[g]? = _
      rw [Array.getElem?_append_left (by rw [Array.size_modify]; exact hgl), Array.getElem?_modify, if_pos rfl, hh]
      rfl
    · rw [hjl, ← flatT]
      refine List.ext_getElem? fun t => ?_
      by_cases ht : t < is.length * 4
      · rw [List.getElem?_take, if_pos ht, Array.getElem?_toList, Go.Sort.putCells, Array.getElem?_mapIdx, Array.getElem?_eq_getElem (by omega)]
        have h2 : t < (Go.Sort.flatK (enT H L P) 4 d').size := by rw [hF]; exact ht
        rw [Array.getElem?_toList, Array.getElem?_eq_getElem h2, Option.map_some, if_pos ⟨Nat.zero_le _, by rw [hF]; omega⟩, Nat.sub_zero, getElem!_pos _ t h2]
        rfl
      · rw [List.getElem?_take, if_neg ht, Array.getElem?_toList, Array.getElem?_eq_none (by rw [hF]; omega)]
  · refine ⟨rfl, rfl, rfl, ?_, fun k hk hne => ?_⟩
    · show w.heap.size ≤ ((w.heap.modify g (Go.Sort.onCells _)) ++ os).size
      rw [Array.size_append, Array.size_modify]
      omega
    · show ((w.heap.modify g (Go.Sort.onCells _)) ++ os)[k]? = _
      rw [Array.getElem?_append_left (by rw [Array.size_modify]; exact hk), Array.getElem?_modify, if_neg (fun e => hne (by rw [e]))]

end Go.Proofs.YtlgcjdgcgnlcaaaGreatDoor
