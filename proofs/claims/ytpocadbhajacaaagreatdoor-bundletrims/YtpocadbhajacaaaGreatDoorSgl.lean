/-
  The files of a disk as a list: there is one for any; the disk's own way through its names (out of Spw, Sbh).
-/
import Derived.Test.YtpocadbhajacaaaGreatDoorSga
import Derived.Test.YtpocadbhajacaaaGreatDoorJls
namespace Go.Proofs.YtpocadbhajacaaaGreatDoor
open Go.RowKit
set_option linter.unusedVariables false
set_option linter.unusedSimpArgs false
set_option maxRecDepth 100000

theorem FL.upd_ex {f : ByteArray → Option (List Int)} {l : List (ByteArray × List Int)} (h : FL f l) (n : ByteArray) (v : Option (List Int)) : ∃ l', FL (upd f n v) l' := by
  obtain ⟨A, B, rfl, _, hA, hc⟩ := h.split n
  cases v with
  | some xs =>
    rcases hc with ⟨_, hB⟩ | ⟨ys, B', _, rfl, hB⟩
    · exact ⟨_, h.put hA hB xs⟩
    · exact ⟨_, h.set hA hB xs⟩
  | none =>
    rcases hc with ⟨h0, hB⟩ | ⟨ys, B', _, rfl, hB⟩
    · exact ⟨_, by rw [← h0, upd_self]; exact h⟩
    · exact ⟨_, h.turn hA hB⟩
theorem FL.do_ex {f : ByteArray → Option (List Int)} {l : List (ByteArray × List Int)} (h : FL f l) (r : Rw) : ∃ l', FL (doR f r) l' := by
  unfold doR
  split
  · exact h.upd_ex _ _
  · split
    · exact h.upd_ex _ _
    · split
      · exact h.upd_ex _ _
      · split
        · exact h.upd_ex _ _
        · split
          · obtain ⟨l1, h1⟩ := h.upd_ex r.t (some (fl f r.n))
            exact h1.upd_ex _ _
          · exact ⟨l, h⟩
theorem FL.fold_ex : ∀ (rs : List Rw) {f : ByteArray → Option (List Int)} {l : List (ByteArray × List Int)} (h : FL f l), ∃ l', FL (rs.foldl doR f) l'
  | [], f, l, h => ⟨l, h⟩
  | r :: t, f, l, h => by
    obtain ⟨l1, h1⟩ := h.do_ex r
    exact FL.fold_ex t h1
theorem FL.play_ex (rs : List Rw) : ∃ l, FL (play rs) l := FL.fold_ex rs FL.nil
theorem FL.nodup {f : ByteArray → Option (List Int)} {l : List (ByteArray × List Int)} (h : FL f l) : (l.map (·.1)).Nodup := by
  unfold List.Nodup
  rw [List.pairwise_map]
  exact h.srt.imp fun h => blt_ne h
theorem rl_ownS (ls : List (ByteArray × List Int)) (B : Nat) (pre : List ByteArray) (x : ByteArray) : OwnFrom B (fun (_ : Unit) W => RL ls pre x W) := fun _ W W' row h hg hr => h
theorem rl_newS {f : ByteArray → Option (List Int)} {ls : List (ByteArray × List Int)} (hl : FL f ls) {pre : List ByteArray} {x : ByteArray} {W : World} (h : RL ls pre x W) : x ∉ pre := by
  obtain ⟨h1, ys, h2⟩ := h
  intro hx
  rw [h1] at hx
  obtain ⟨y, hy, rfl⟩ := List.mem_map.1 hx
  obtain ⟨i, hi, he⟩ := List.mem_iff_getElem.1 hy
  rw [List.length_take] at hi
  obtain ⟨hp, h2⟩ := List.getElem?_eq_some_iff.1 h2
  have hs := List.pairwise_iff_getElem.1 hl.srt i pre.length (by omega) hp (by omega)
  rw [List.getElem_take] at he
  rw [he, h2] at hs
  exact blt_ne hs rfl
theorem dlist_any (p : Option Addr) (w : World) : Calls Tryz.prog 51 #[.pointer p] w fun e w' => ∃ bx, e = .returned (.func (.func 79) #[] #[.pointer (some ⟨bx, 0, none⟩)]) ∧ Blk w' bx 26 [.pointer p] ∧ Below w.heap.size w w' :=
  (list_any p w).mono (fun r w' ⟨e, hw⟩ => ⟨w.heap.size, e, by rw [hw]; exact Blk.made _ _ _, by rw [hw]; exact (Below.refl _ _).alloc (Nat.le_refl _) _⟩)

end Go.Proofs.YtpocadbhajacaaaGreatDoor
