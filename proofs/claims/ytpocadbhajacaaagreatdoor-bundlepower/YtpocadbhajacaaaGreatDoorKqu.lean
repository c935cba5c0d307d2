/-
  slices.Sorted(maps.Keys(files)): the names, rising.
-/
import Derived.Test.YtpocadbhajacaaaGreatDoorKqt
import Derived.Test.YtpocadbhajacaaaGreatDoorKqm0
import Derived.Test.YtpocadbhajacaaaGreatDoorKmj
import Derived.Test.YtpocadbhajacaaaGreatDoorShZ
namespace Go.Proofs.YtpocadbhajacaaaGreatDoor
open Go.RowKit Go.Maps Go.Sort Go.Shelf
set_option linter.unusedVariables false

theorem sorts12 (m : Nat) : AnyZ.SortsIn Tryz.prog Tryz.lSorted_ren Fence.wide m :=
  ⟨fun blk off cap ss W hH hblk hsz => callsIn_wide.2 (AnyM.slices_Sort_string Tryz.lSort blk off cap ss W hH hblk hsz),
   fun p cap W => callsIn_wide.2 (AnyM.slices_Sort_string_none Tryz.lSort p cap W)⟩
theorem keys12 (mb : Option Nat) (W : World) : CallsIn Fence.wide 5 Tryz.prog 81 #[.map mb] W fun e w' => e = .returned (.func (.func 101) #[] #[.pointer (some ⟨W.heap.size, 0, none⟩)]) ∧ w' = W.alloc (.cells #[.map mb] 48) := AnyZ.keys_in Tryz.lKeys Fence.wide 5 trivial rfl mb W
set_option maxHeartbeats 1000000 in
theorem sorted12 (d s : Nat) (rs : List Rw) (D : Dm) (w : World) (h : DkAt w d s rs D) (hwt : wt rs ≤ 1099511000000) {l : List (ByteArray × List Int)} (hl : FL (play rs) l) :
    CallsIn Fence.wide 5 Tryz.prog 80 #[.func (.func 101) #[] #[.pointer (some ⟨w.heap.size, 0, none⟩)]] (w.alloc (.cells #[.map (some D.m)] 48)) fun e w' => ∃ v, e = .returned v ∧ w'.ownsRow w.heap.size 9 1 v l.length (nmsC l) ∧ Below w.heap.size w w' := by
  obtain ⟨b1, b2⟩ := h.bounds hwt
  obtain ⟨Rd, hR1, _⟩ := reads_ex w
  obtain ⟨L, hown, hLp⟩ := h.fil.owns b1 b2 hR1
  have hbl := hown.lt
  have hlen : Maps.size (DataW.map L) = D.fm.length := by
    have := hLp.length_eq
    rw [List.length_map] at this
    exact this
  have hseq : SeqGives Fence.wide 2 Tryz.prog 101 #[.pointer (some ⟨w.heap.size, 0, none⟩)] encStr (fun ss => ss.Perm (strKeys (DataW.map L))) (Maps.size (DataW.map L)) (w.alloc (.cells #[.map (some D.m)] 48)) :=
    AnyZ.keys_gives (ρ := Tryz.lKeys_ren) { Tryz.lKeys with } Fence.wide _ trivial rfl (by omega) w.heap.size D.m D.fm.length (DataW.map L) _ (by simp) (by simp) (by
      obtain ⟨es, clock, hb, Ft, hs, hD⟩ := hown
      exact ⟨es, clock, (Below.heap_alloc _ _ D.m hbl).trans hb, Ft, hs, hD⟩)
  have hsm : Maps.size (DataW.map L) ≤ 1099511000000 := by rw [hlen]; exact b2
  have cS := AnyZ.sorted_in Tryz.lSorted Fence.wide 5 trivial trivial trivial trivial rfl (by omega) (sorts12 _) (enters_of Tryz.func100 (by kernel_rfl) rfl) 101 #[.pointer (some ⟨w.heap.size, 0, none⟩)] trivial (enters_of Tryz.func101 (by kernel_rfl) rfl) _ _ (by unfold maxLen; omega) (by omega) _ hseq
  change CallsIn _ _ Tryz.prog 80 _ _ _ at cS
  refine cS.mono ?_
  rintro e w' ⟨v, ss, rfl, hS, hrow, _, hb⟩
  have hp : ss.Perm ((D.fm.map (·.1)).map fun x => x.toList) := by
    refine hS.trans ?_
    have h1 : (strKeys (DataW.map L)).Perm ((D.fm.map (ent (play rs))).map fun p => Go.strOf p.1) := hLp.map _
    refine h1.trans (List.Perm.of_eq ?_)
    rw [List.map_map, List.map_map]
    apply List.map_congr_left
    intro x _
    show x.1.data.toList = x.1.toList
    rw [ByteArray.toList_eq]
  have hsort := sort_names hl h.fil.map.one (fun n => by
    constructor
    · intro hn
      obtain ⟨x, hx, rfl⟩ := List.mem_map.1 hn
      rw [h.fil.some hx]
      rfl
    · intro hn
      cases hf : play rs n with
      | none => rw [hf] at hn; cases hn
      | some xs =>
        obtain ⟨u, hu, _⟩ := h.fil.mem hf
        exact List.mem_map.2 ⟨_, hu, rfl⟩) hp
  have hlen2 : ss.length = l.length := by
    have := congrArg List.length hsort
    rw [List.length_mergeSort, List.length_map] at this
    exact this
  refine ⟨v, rfl, ?_, ((Below.refl _ w).alloc (Nat.le_refl _) _).trans (hb.mono (by simp))⟩
  have h2 := ownsRow_base_a hrow (base' := w.heap.size) (by simp)
  rw [hsort, hlen2, List.map_map] at h2
  have h3 : (l.map (encStr ∘ fun x => x.1.toList)) = nmsC l := by
    unfold nmsC
    apply List.map_congr_left
    intro x _
    show encStr x.1.toList = .string x.1
    unfold encStr
    congr 1
    apply bytes_inj
    rw [ByteArray.toList_eq, ByteArray.toList_eq]
  rw [h3] at h2
  exact h2

end Go.Proofs.YtpocadbhajacaaaGreatDoor
