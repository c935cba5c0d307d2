/-
  wire: need, which gives up; what a reader of bytes tells: one, number, digest; how many digests a proof has.
-/
import Derived.Test.YtojepbapdjkknaaDoorOd
import Derived.Test.YtojepbapdjkknaaDoorRn
import Derived.Test.YtojepbapdjkknaaDoorPb
import Derived.Test.YtojepbapdjkknaaDoorVt
import Derived.Test.YtojepbapdjkknaaDoorVf
namespace Go.Proofs.YtojepbapdjkknaaDoor
open Go.RowKit
set_option linter.unusedVariables false
set_option linter.unusedSimpArgs false

/-- What is given up. -/
def PE : List PanicEntry := [{ v := .iface 27 (.int .i64 80), recovered := false }]

theorem need_ok (w : World) : Calls Tryd.prog 71 #[.bool true] w fun e w' => e = .returned (.tuple #[]) ∧ w' = w := by
  go_enter Tryd.func71, Tryd.ntmps71
  go_wp2
  go_end0
  exact ⟨rfl, rfl⟩
theorem need_no (w : World) : Calls Tryd.prog 71 #[.bool false] w fun e w' => e = .panicked PE ∧ w' = w := by
  go_enter Tryd.func71, Tryd.ntmps71
  go_wp2
  exact ⟨rfl, rfl, rfl⟩

/-- The cells of a reader of bytes. -/
def brC (v : Value) (p : Int) : List Value := [v, .int .i64 p]
theorem wBr : Wide 90 2 := ⟨by kernel_rfl, by kernel_rfl⟩
theorem br_at {w : World} {g : Nat} {t : TypeId} {v : Value} {p : Int} (h : Blk w g t (brC v p)) : w.cell? ⟨g, 0, none⟩ = some v ∧ w.cell? ⟨g, 1, none⟩ = some (.int .i64 p) := ⟨by rw [h.cell]; rfl, by rw [h.cell]; rfl⟩

theorem br_apart {w : World} {g : Nat} {t : TypeId} {n : Nat} {q : Option Addr} {m c : Nat} {p : Int} {a : Option Addr} {len cap : Nat} {xs : List Int} (h : Blk w g t (brC (.slice q m c) p)) (hs : Sl w a len cap xs) : 0 < len → Apart g a := fun h0 x hx e => by
  obtain ⟨b, off, rfl, hce⟩ := hs.hcell h0
  obtain rfl := Option.some.inj hx
  simp only at e
  subst e
  have := hce 0 h0
  rw [h.cell] at this
  rcases hq : off + 0 with _ | _ | k <;> rw [hq] at this
  · cases this
  · cases this
  · rw [List.getElem?_eq_none (by simp [brC])] at this
    cases this
/-- A reader and its bytes stand behind what leaves all but the reader's cell as it was. -/
theorem br_set {w : World} {g : Nat} {q : Option Addr} {m c : Nat} {p : Int} {a : Option Addr} {len cap : Nat} {xs : List Int} (hg : Blk w g 90 (brC (.slice q m c) p)) (hs : Sl w a len cap xs) (k : Nat) (z : Int) :
    Blk ((w.drewN k).setCell ⟨g, 1, none⟩ (.int .i64 z)) g 90 (brC (.slice q m c) z) ∧ Sl ((w.drewN k).setCell ⟨g, 1, none⟩ (.int .i64 z)) a len cap xs ∧ But g w ((w.drewN k).setCell ⟨g, 1, none⟩ (.int .i64 z)) :=
  ⟨(hg.drewN k).set 1 _, (hs.drewN k).but (But.setCell _ _ _ _) (br_apart (n := 0) hg hs), ((But.refl g w).drewN k).trans (But.setCell _ _ _ _)⟩

set_option maxRecDepth 100000 in
theorem one_ok (g : Nat) (a : Option Addr) (len cap : Nat) (xs : List Int) (p : Nat) (w : World) (hg : Blk w g 90 (brC (.slice a len cap) (p : Int))) (hs : Sl w a len cap xs) (hp : p < len) :
    Calls Tryd.prog 79 #[.pointer (some ⟨g, 0, none⟩)] w fun e w' => e = .returned (.int .i64 (xs.getD p 0)) ∧ Blk w' g 90 (brC (.slice a len cap) ((p + 1 : Nat) : Int)) ∧ But g w w' := by
  have hr := hs.hreach
  obtain ⟨c0, c1⟩ := br_at hg
  have hlt : (p : Int) < (len : Int) := by omega
  have HX := hide (fun k => br_set hg hs k ((p : Int) + 1))
  have hfz := hg.free 1
  have hz := hs.hbyte.get p
  clear hg hs
  obtain ⟨z, hzz⟩ : ∃ z, xs.getD p 0 = z := ⟨_, rfl⟩
  rw [hzz] at hz ⊢
  have HZ := hide hzz
  obtain ⟨hz0, hz1⟩ := hz
  clear hzz
  go_enter Tryd.func79, Tryd.ntmps79
  go_wp2_with fail
  go_quiet (first | (go_at_call 71; exact Calls.quiet_of_same (need_ok _)))
  go_wp2_with fail
  obtain ⟨hgW, hsW, hnW⟩ := HX.out nq
  clear HX c0 c1 hfz
  generalize (w.drewN nq).setCell ⟨g, 1, none⟩ (.int .i64 ((p : Int) + 1)) = W at *
  obtain ⟨c0, c1⟩ := br_at hgW
  obtain ⟨b, off, rfl, hce⟩ := hsW.hcell (by omega)
  have hcp := hce p hp
  rw [HZ.out] at hcp
  have GW := hide hgW
  have NW := hide hnW
  clear hgW hsW hnW hce
  go_quiet (fail)
  go_wp2
  go_ret
  exact ⟨rfl, by rw [show ((p + 1 : Nat) : Int) = (p : Int) + 1 by omega]; exact GW.out.drewN _, NW.out.drewN _⟩
set_option maxRecDepth 100000 in
theorem one_no (g : Nat) (a : Option Addr) (len cap : Nat) (p : Nat) (w : World) (hg : Blk w g 90 (brC (.slice a len cap) (p : Int))) (hp : len ≤ p) (hl : p ≤ 281474976710656) :
    Calls Tryd.prog 79 #[.pointer (some ⟨g, 0, none⟩)] w fun e w' => e = .panicked PE ∧ But g w w' := by
  obtain ⟨c0, c1⟩ := br_at hg
  have hlt : ¬ (p : Int) < (len : Int) := by omega
  have hlb : decide ((p : Int) < (len : Int)) = false := by simp; omega
  clear hg
  go_enter Tryd.func79, Tryd.ntmps79
  go_wp2_with fail
  refine wp_region_held_drew (S := fun v : World => v.cell? ⟨g, 0, none⟩ = some (.slice a len cap) ∧ v.cell? ⟨g, 1, none⟩ = some (.int .i64 (p : Int))) (by kernel_rfl) ⟨c0, c1⟩ (fun hHeld => ?_)
  refine takeH 0 3 (.pointer (some ⟨g, 0, none⟩)) hHeld rfl rfl (by kernel_rfl) (by kernel_rfl) (by kernel_rfl) (fun _ _ _ h => h) (Or.inl ⟨by rfl, fun w _ => by go_simp⟩) ?_
  simp only [Act.put, List.setIfInBounds_toArray, List.set_cons_zero, List.set_cons_succ]
  refine takeH 1 4 (.pointer (some ⟨g, 0, none⟩)) hHeld rfl rfl (by kernel_rfl) (by kernel_rfl) (by kernel_rfl) (fun _ _ _ h => h) (Or.inl ⟨by rfl, fun w _ => by go_simp⟩) ?_
  simp only [Act.put, List.setIfInBounds_toArray, List.set_cons_zero, List.set_cons_succ]
  refine takeH 2 5 (.pointer (some ⟨g, 1, none⟩)) hHeld rfl rfl (by kernel_rfl) (by kernel_rfl) (by kernel_rfl) (fun _ _ _ h => h) (Or.inl ⟨by rfl, fun w _ => by go_simp⟩) ?_
  simp only [Act.put, List.setIfInBounds_toArray, List.set_cons_zero, List.set_cons_succ]
  refine takeH 3 6 (.int .i64 (p : Int)) hHeld rfl rfl (by kernel_rfl) (by kernel_rfl) (by kernel_rfl) (fun _ _ _ h => h) (Or.inl ⟨by rfl, fun w hw => by have hw' : w.cell? ⟨g, 1, none⟩ = some (.int .i64 (p : Int)) := And.right hw; go_simp⟩) ?_
  simp only [Act.put, List.setIfInBounds_toArray, List.set_cons_zero, List.set_cons_succ]
  refine takeH 4 7 (.pointer (some ⟨g, 0, none⟩)) hHeld rfl rfl (by kernel_rfl) (by kernel_rfl) (by kernel_rfl) (fun _ _ _ h => h) (Or.inl ⟨by rfl, fun w _ => by go_simp⟩) ?_
  simp only [Act.put, List.setIfInBounds_toArray, List.set_cons_zero, List.set_cons_succ]
  refine takeH 5 8 (.pointer (some ⟨g, 0, none⟩)) hHeld rfl rfl (by kernel_rfl) (by kernel_rfl) (by kernel_rfl) (fun _ _ _ h => h) (Or.inl ⟨by rfl, fun w _ => by go_simp⟩) ?_
  simp only [Act.put, List.setIfInBounds_toArray, List.set_cons_zero, List.set_cons_succ]
  refine takeH 6 9 (.pointer (some ⟨g, 0, none⟩)) hHeld rfl rfl (by kernel_rfl) (by kernel_rfl) (by kernel_rfl) (fun _ _ _ h => h) (Or.inl ⟨by rfl, fun w _ => by go_simp⟩) ?_
  simp only [Act.put, List.setIfInBounds_toArray, List.set_cons_zero, List.set_cons_succ]
  refine takeH 7 10 (.slice a len cap) hHeld rfl rfl (by kernel_rfl) (by kernel_rfl) (by kernel_rfl) (fun _ _ _ h => h) (Or.inl ⟨by rfl, fun w hw => by have hw' : w.cell? ⟨g, 0, none⟩ = some (.slice a len cap) := And.left hw; go_simp⟩) ?_
  simp only [Act.put, List.setIfInBounds_toArray, List.set_cons_zero, List.set_cons_succ]
  refine takeH 8 11 (.int .i64 (len : Int)) hHeld rfl rfl (by kernel_rfl) (by kernel_rfl) (by kernel_rfl) (fun _ _ _ h => h) (Or.inl ⟨by rfl, fun w _ => by go_simp⟩) ?_
  simp only [Act.put, List.setIfInBounds_toArray, List.set_cons_zero, List.set_cons_succ]
  refine takeH 9 12 (.bool false) hHeld rfl rfl (by kernel_rfl) (by kernel_rfl) (by kernel_rfl) (fun _ _ _ h => h) (Or.inl ⟨by rfl, fun w _ => by go_simp⟩) ?_
  simp only [Act.put, List.setIfInBounds_toArray, List.set_cons_zero, List.set_cons_succ]
  refine wpAnyH_ready (rs := [10]) (by kernel_rfl) (by simp) (AllReadyH.cons rfl (fun K hK => ?_) AllReadyH.nil)
  rw [if_pos (by rfl)]
  go_simp
  refine (need_no _).mono ?_
  rintro e w' ⟨rfl, rfl⟩
  exact ⟨rfl, rfl, (But.refl g w).drewN 1⟩

theorem rd_ok {len : Nat} {p : Nat} {xs : List Int} (hp : p + 8 ≤ len) : rdN len (p : Int) 8 = (p : Int) + 8 ∧ rdE len (p : Int) 8 = 0 := by
  constructor
  · simp [rdN]; omega
  · simp [rdE]; omega
theorem rd_no {len : Nat} {p : Nat} (hp : len < p + 8) : rdE len (p : Int) 8 ≠ 0 := by
  unfold rdE
  split
  · decide
  · rw [if_pos (by omega)]; decide
theorem rdV8_bd (xs : List Int) (hb : isB xs) (p : Nat) : 0 ≤ rdV xs (p : Int) 8 ∧ rdV xs (p : Int) 8 < 18446744073709551616 := by
  unfold rdV
  split
  · have := beVal_bd ((xs.drop (p : Int).toNat).take 8) ((hb.drop _).take _)
    rename_i h
    rw [List.length_take, List.length_drop, Nat.min_eq_left (by omega)] at this
    have e : (256 : Int) ^ 8 = 18446744073709551616 := by decide
    omega
  · omega
set_option maxRecDepth 100000 in
theorem num_ok (g : Nat) (a : Option Addr) (len cap : Nat) (xs : List Int) (p : Nat) (w : World) (hg : Blk w g 90 (brC (.slice a len cap) (p : Int))) (hs : Sl w a len cap xs) (hp : p + 8 ≤ len) (hm : rdV xs (p : Int) 8 ≤ 281474976710656) :
    Calls Tryd.prog 80 #[.pointer (some ⟨g, 0, none⟩)] w fun e w' => e = .returned (.int .i64 (rdV xs (p : Int) 8)) ∧ Blk w' g 90 (brC (.slice a len cap) ((p + 8 : Nat) : Int)) ∧ But g w w' := by
  have hr := hs.hreach
  obtain ⟨c0, c1⟩ := br_at hg
  have HX := hide (fun k => br_set hg hs k ((p : Int) + 8))
  have HU : Hid (∀ V : World, Sl V a len cap xs → Calls Tryd.prog 98 #[.slice a len cap, .int .i64 (p : Int)] V fun e w' => e = .returned (.tuple #[.int .u64 (rdV xs (p : Int) 8), .int .i64 (rdN len (p : Int) 8), .int .i64 (rdE len (p : Int) 8)]) ∧ w' = V) :=
    hide (fun V hV => (uint64_any a len cap xs (p : Int) V hV).mono fun _ _ h => ⟨h.1, h.2.symm⟩)
  have HS := hide hs
  have hfz := hg.free 1
  have hv := rdV8_bd xs hs.hbyte p
  clear hg hs
  obtain ⟨e1, e2⟩ := rd_ok (xs := xs) hp
  rw [e1, e2] at HU
  clear e1 e2
  generalize rdV xs (p : Int) 8 = v at *
  obtain ⟨hv0, hv1⟩ := hv
  have hw : IntKind.i64.wrap v = v := wrap_in v (by omega) (by omega)
  go_enter Tryd.func80, Tryd.ntmps80
  go_wp2_with fail
  go_quiet (first | (go_at_call 98; exact Calls.quiet_of_same (HU.out _ (HS.out.drewN _))))
  go_wp2_with fail
  refine (need_ok _).mono ?_
  rintro e w' ⟨rfl, rfl⟩
  go_wp2
  go_ret
  obtain ⟨h1, h2, h3⟩ := HX.out nq
  exact ⟨rfl, by rw [show ((p + 8 : Nat) : Int) = (p : Int) + 8 by omega]; exact h1, h3⟩
set_option maxRecDepth 100000 in
theorem num_no (g : Nat) (a : Option Addr) (len cap : Nat) (xs : List Int) (p : Nat) (w : World) (hg : Blk w g 90 (brC (.slice a len cap) (p : Int))) (hs : Sl w a len cap xs) (hp : len < p + 8 ∨ 281474976710656 < rdV xs (p : Int) 8) :
    Calls Tryd.prog 80 #[.pointer (some ⟨g, 0, none⟩)] w fun e w' => e = .panicked PE ∧ But g w w' := by
  have hr := hs.hreach
  obtain ⟨c0, c1⟩ := br_at hg
  have HX := hide (fun k => br_set hg hs k ((p : Int) + 8))
  have HU : Hid (∀ V : World, Sl V a len cap xs → Calls Tryd.prog 98 #[.slice a len cap, .int .i64 (p : Int)] V fun e w' => e = .returned (.tuple #[.int .u64 (rdV xs (p : Int) 8), .int .i64 (rdN len (p : Int) 8), .int .i64 (rdE len (p : Int) 8)]) ∧ w' = V) :=
    hide (fun V hV => (uint64_any a len cap xs (p : Int) V hV).mono fun _ _ h => ⟨h.1, h.2.symm⟩)
  have HS := hide hs
  have hfz := hg.free 1
  have hv := rdV8_bd xs hs.hbyte p
  clear hg hs
  by_cases h8 : len < p + 8
  · have hne : (rdE len (p : Int) 8 == 0) = false := by simpa using rd_no h8
    generalize rdE len (p : Int) 8 = E at *
    generalize rdN len (p : Int) 8 = N at *
    clear hp
    generalize rdV xs (p : Int) 8 = v at *
    go_enter Tryd.func80, Tryd.ntmps80
    go_wp2_with fail
    go_quiet (first | (go_at_call 98; exact Calls.quiet_of_same (HU.out _ (HS.out.drewN _))))
    go_wp2_with fail
    refine (need_no _).mono ?_
    rintro e w' ⟨rfl, rfl⟩
    exact ⟨rfl, rfl, (But.refl g w).drewN _⟩
  · obtain ⟨e1, e2⟩ := rd_ok (xs := xs) (show p + 8 ≤ len by omega)
    rw [e1, e2] at HU
    have hp2 : 281474976710656 < rdV xs (p : Int) 8 := by omega
    clear e1 e2 hp
    generalize rdV xs (p : Int) 8 = v at *
    have hle : decide (v ≤ 281474976710656) = false := by simp; omega
    go_enter Tryd.func80, Tryd.ntmps80
    go_wp2_with fail
    go_quiet (first | (go_at_call 98; exact Calls.quiet_of_same (HU.out _ (HS.out.drewN _))))
    go_wp2_with fail
    refine (need_no _).mono ?_
    rintro e w' ⟨rfl, rfl⟩
    exact ⟨rfl, rfl, (But.refl g w).drewN _⟩

end Go.Proofs.YtojepbapdjkknaaDoor
