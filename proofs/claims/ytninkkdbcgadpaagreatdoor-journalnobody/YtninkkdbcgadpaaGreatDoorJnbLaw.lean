/-
  The walk of JournalNobody.
-/
import Derived.Test.YtninkkdbcgadpaaGreatDoorJnb
import Derived.Test.YtninkkdbcgadpaaGreatDoorJmk
namespace Go.Proofs.YtninkkdbcgadpaaGreatDoor
open Go.RowKit Go.Shelf
set_option linter.unusedVariables false

/-- What stands through a round of the law's loop. -/
structure NJ (w W : World) (gr b : Nat) : Prop where
  cr : Blk W gr 50 (jnC none 0 (.slice none 0 0))
  cb : Blk W b 30 [.pointer none, .pointer (some ⟨gr, 0, none⟩)]
  bel : Below w.heap.size w W
section
variable {w W W' : World} {gr b : Nat}
theorem NJ.below (h : NJ w W gr b) (hb : Below W.heap.size W W') : NJ w W' gr b := ⟨h.cr.on hb, h.cb.on hb, on_below h.bel hb⟩
theorem NJ.kept {row : Option Nat} (h : NJ w W gr b) (hg : W.grownBy W' row) (hr : ∀ r, row = some r → w.heap.size ≤ r ∧ ∃ o : Obj, W.heap[r]? = some o ∧ o.isCells = false) : NJ w W' gr b :=
  ⟨h.cr.kept hg (fun r e => (hr r e).2), h.cb.kept hg (fun r e => (hr r e).2), h.bel.grown hg h.bel.size (fun r e => (hr r e).1)⟩
theorem NJ.bare (h : NJ w W gr b) : JNob W (some ⟨gr, 0, none⟩) := .inr ⟨gr, rfl, by rw [h.cr.cell]; rfl⟩
theorem NJ.nil (h : NJ w W gr b) : JNob W none := .inl rfl
end
structure NT13 (w W : World) (gr b c9 : Nat) (M : List Nat) : Prop where
  ns : NJ w W gr b
  c9 : Blk W c9 3 [.int .i64 0]
  marks : ∀ D ∈ M, W.heap[D]? = some (.deferred (some []))
section
variable {w W W' : World} {gr b c9 : Nat} {M : List Nat}
theorem NT13.below (h : NT13 w W gr b c9 M) (hb : Below W.heap.size W W') : NT13 w W' gr b c9 M := ⟨h.ns.below hb, h.c9.on hb, fun D hD => mark_below (h.marks D hD) hb⟩
theorem NT13.mk0 (h : NJ w W gr b) (hM : ∀ D ∈ M, W.heap[D]? = some (.deferred (some []))) : NT13 w (W.alloc (.cells #[.int .i64 0] 3)) gr b W.heap.size M :=
  ⟨h.below ((Below.refl _ _).alloc (Nat.le_refl _) _), Blk.made W 3 [.int .i64 0], fun D hD => mark_below (hM D hD) ((Below.refl _ _).alloc (Nat.le_refl _) _)⟩
end

set_option maxRecDepth 100000 in
set_option maxHeartbeats 2000000 in
theorem jnob_walk (a : Option Addr) (len cap : Nat) (k : Int) (w : World) :
    Calls Tryz.prog 4 #[.slice a len cap, .int .i64 k] w fun e w' => e = .returned (.bool true) ∧ Below w.heap.size w w' := by
  obtain ⟨v, hv⟩ : ∃ v, v = Value.slice a len cap := ⟨_, rfl⟩
  rw [← hv]
  clear hv
  refine (callsIn_wide (n := 3)).1 ?_
  refine callsIn_of_wp_marks Tryz.func4 rfl trivial ?_ rfl
  refine wpIn_wide.2 ?_
  simp only [Tryz.ntmps4, List.size_toArray, List.length_cons, List.length_nil, Nat.reduceAdd, Nat.reduceSub, Array.replicate_succ, Array.replicate_zero, List.push_toArray, List.append_toArray, List.nil_append, List.cons_append]
  go_wp2_with (first | (refine step_buildJn0 rfl ?_) | (refine step_box (cs := jnC none 0 (.slice none 0 0)) rfl rfl ?_; intro w3 gr hgr hler hb3; have GR := hide hgr; clear hgr))
  have NS0 : NJ w (w3.alloc (Obj.cells #[Value.pointer none, Value.pointer (some { block := gr, off := 0 })] 30)) gr w3.heap.size := by
    have h0 : Below w3.heap.size w3 (w3.alloc (Obj.cells #[Value.pointer none, Value.pointer (some { block := gr, off := 0 })] 30)) := (Below.refl _ _).alloc (Nat.le_refl _) _
    exact ⟨GR.out.on h0, Blk.made w3 _ _, on_below hb3 h0⟩
  revert NS0
  generalize w3.alloc (Obj.cells #[Value.pointer none, Value.pointer (some { block := gr, off := 0 })] 30) = w4
  generalize w3.heap.size = b
  intro NS0
  have N0 := hide NS0
  have hs0 : w4.cell? ⟨b, 0, none⟩ = some (.pointer none) := by rw [NS0.cb.cell]; rfl
  clear NS0 hb3 hler GR
  refine wp_loop_rounds 3 ?_
  rw [rounds_succ]
  go_wp2_with fail
  have T0 := NT13.mk0 (M := []) N0.out (fun _ h => by cases h)
  have hbT : Below w4.heap.size w4 (w4.alloc (.cells #[.int .i64 0] 3)) := (Below.refl _ _).alloc (Nat.le_refl _) _
  revert T0 hbT
  generalize w4.alloc (.cells #[.int .i64 0] 3) = Wa1
  generalize w4.heap.size = c91 at *
  intro T0 hbT
  refine (jall_any none _).mono ?_
  rintro r W5 ⟨rfl, rfl⟩
  have hbA : Below Wa1.heap.size Wa1 (Wa1.alloc (.cells #[.pointer none] 30)) := (Below.refl _ _).alloc (Nat.le_refl _) _
  have T1 := T0.below hbA
  revert T1 hbA
  generalize Wa1.alloc (.cells #[.pointer none] 30) = Wb1
  generalize Wa1.heap.size = bx01
  intro hbA T1
  have heq : ∀ v : World, (binOp BinOp.eql 53 (.func (.func 53) #[] #[.pointer (some ⟨bx01, 0, none⟩)]) .nilFunc).run Tryz.prog v = .ok (.bool false) v := fun v => by kernel_rfl
  go_wp2_with fail
  refine (jall_any none _).mono ?_
  rintro r W5 ⟨rfl, rfl⟩
  have hbB : Below Wb1.heap.size Wb1 (Wb1.alloc (.cells #[.pointer none] 30)) := (Below.refl _ _).alloc (Nat.le_refl _) _
  have T2 := T1.below hbB
  have BX : Blk (Wb1.alloc (.cells #[.pointer none] 30)) Wb1.heap.size 30 [.pointer none] := Blk.made _ _ _
  revert T2 hbB BX
  generalize Wb1.alloc (.cells #[.pointer none] 30) = Wc1
  generalize Wb1.heap.size = bx1
  intro hbB T2 BX
  have HT := hide T2
  have hlt1 : ∀ D ∈ [], D < Wc1.heap.size := fun D hD => (Array.getElem?_eq_some_iff.1 (T2.marks D hD)).1
  have hws1 := T2.ns.bel.size
  clear heq T0 T1 T2 hbT hbA hbB
  go_wp2_with fail
  refine (wpIn_wide (n := 3)).1 ?_
  refine wpIn_rangeFunc_ownF rfl (by decide) (gf := 53) (lb := #[.pointer (some ⟨bx1, 0, none⟩)]) rfl trivial (enters_of Tryz.func53 (by kernel_rfl) rfl)
    (jall_nob_stops bx1 Wc1.heap.size none Wc1 BX.lt (Nat.le_refl _) (by rw [BX.cell]; rfl) (HT.out.ns.nil)) belowK_t (belowK_b (Nat.le_refl _)) (Below.refl _ _) (fun _ => rfl)
    (fun pre W' => pre = [] ∧ NT13 w W' gr b c91 []) (fun _ _ _ => False)
    (fun _ A B row h hg hr => ⟨h.1, ⟨h.2.ns.kept hg (fun r e => ⟨by have := (hr r e).1; have := HT.out.ns.bel.size; omega, (hr r e).2⟩), h.2.c9.kept hg (fun r e => (hr r e).2), fun D hD => mark_kept (h.2.marks D hD) hg hr (Array.getElem?_eq_some_iff.1 (HT.out.marks D hD)).1⟩⟩)
    (fun c _ A B row h hg hr => h)
    ⟨rfl, HT.out⟩ ?act1 ?assign1 ?body1 ?done1 ?stop1
  case assign1 =>
    intro l x W K hK
    have hsem := Oper.semAt_some
    gi_wp2
    exact hK
  case body1 =>
    rintro l pre x W hI hlt
    exact absurd hlt (by omega)
  case stop1 =>
    rintro D c pre W hD hSp h hK
    exact h.elim
  rintro D1 ys W1 hD1 rfl ⟨_, hT⟩ hK1
  have HT := hide hT
  have HK := hide hK1
  have hc9 : W1.cell? ⟨c91, 0, none⟩ = some (.int .i64 0) := by rw [hT.c9.cell]; rfl
  clear hT hK1
  go_wp2_with (first | (go_at_call 14; refine (jadd_nob _ _ (HT.out.ns.nil) _).mono ?_; rintro e W1 ⟨rfl, rfl⟩) | (go_at_call 12; refine (jclear_nob _ _ (HT.out.ns.nil) _).mono ?_; rintro e W1 ⟨rfl, rfl⟩) | (go_at_call 18; refine (jlen_nob _ _ (HT.out.ns.nil)).mono ?_; rintro e W1 ⟨rfl, rfl⟩) | (go_at_call 19; refine (jgen_nob _ _ (HT.out.ns.nil)).mono ?_; rintro e W1 ⟨rfl, rfl⟩))
  clear hc9
  clear N0 hs0
  have N0 := hide HT.out.ns
  have hM : ∀ D ∈ [D1], W1.heap[D]? = some (.deferred (some [])) := fun D hD => by
    obtain rfl : D = D1 := by simpa using hD
    exact HK.out
  have hs1 : W1.cell? ⟨b, 1, none⟩ = some (.pointer (some ⟨gr, 0, none⟩)) := by rw [HT.out.ns.cb.cell]; rfl
  clear HT HK BX
  rw [rounds_succ]
  go_wp2_with fail
  have T0 := NT13.mk0 (M := [D1]) N0.out hM
  have hbT : Below W1.heap.size W1 (W1.alloc (.cells #[.int .i64 0] 3)) := (Below.refl _ _).alloc (Nat.le_refl _) _
  revert T0 hbT
  generalize W1.alloc (.cells #[.int .i64 0] 3) = Wa2
  generalize W1.heap.size = c92 at *
  intro T0 hbT
  refine (jall_any (some ⟨gr, 0, none⟩) _).mono ?_
  rintro r W5 ⟨rfl, rfl⟩
  have hbA : Below Wa2.heap.size Wa2 (Wa2.alloc (.cells #[.pointer (some ⟨gr, 0, none⟩)] 30)) := (Below.refl _ _).alloc (Nat.le_refl _) _
  have T1 := T0.below hbA
  revert T1 hbA
  generalize Wa2.alloc (.cells #[.pointer (some ⟨gr, 0, none⟩)] 30) = Wb2
  generalize Wa2.heap.size = bx02
  intro hbA T1
  have heq : ∀ v : World, (binOp BinOp.eql 53 (.func (.func 53) #[] #[.pointer (some ⟨bx02, 0, none⟩)]) .nilFunc).run Tryz.prog v = .ok (.bool false) v := fun v => by kernel_rfl
  go_wp2_with fail
  refine (jall_any (some ⟨gr, 0, none⟩) _).mono ?_
  rintro r W5 ⟨rfl, rfl⟩
  have hbB : Below Wb2.heap.size Wb2 (Wb2.alloc (.cells #[.pointer (some ⟨gr, 0, none⟩)] 30)) := (Below.refl _ _).alloc (Nat.le_refl _) _
  have T2 := T1.below hbB
  have BX : Blk (Wb2.alloc (.cells #[.pointer (some ⟨gr, 0, none⟩)] 30)) Wb2.heap.size 30 [.pointer (some ⟨gr, 0, none⟩)] := Blk.made _ _ _
  revert T2 hbB BX
  generalize Wb2.alloc (.cells #[.pointer (some ⟨gr, 0, none⟩)] 30) = Wc2
  generalize Wb2.heap.size = bx2
  intro hbB T2 BX
  have HT := hide T2
  have hlt2 : ∀ D ∈ [D1], D < Wc2.heap.size := fun D hD => (Array.getElem?_eq_some_iff.1 (T2.marks D hD)).1
  have hws2 := T2.ns.bel.size
  clear heq T0 T1 T2 hbT hbA hbB
  go_wp2_with fail
  refine (wpIn_wide (n := 3)).1 ?_
  refine wpIn_rangeFunc_ownF rfl (by decide) (gf := 53) (lb := #[.pointer (some ⟨bx2, 0, none⟩)]) rfl trivial (enters_of Tryz.func53 (by kernel_rfl) rfl)
    (jall_nob_stops bx2 Wc2.heap.size (some ⟨gr, 0, none⟩) Wc2 BX.lt (Nat.le_refl _) (by rw [BX.cell]; rfl) (HT.out.ns.bare)) belowK_t (belowK_b (Nat.le_refl _)) (Below.refl _ _) (fun _ => rfl)
    (fun pre W' => pre = [] ∧ NT13 w W' gr b c92 [D1]) (fun _ _ _ => False)
    (fun _ A B row h hg hr => ⟨h.1, ⟨h.2.ns.kept hg (fun r e => ⟨by have := (hr r e).1; have := HT.out.ns.bel.size; omega, (hr r e).2⟩), h.2.c9.kept hg (fun r e => (hr r e).2), fun D hD => mark_kept (h.2.marks D hD) hg hr (Array.getElem?_eq_some_iff.1 (HT.out.marks D hD)).1⟩⟩)
    (fun c _ A B row h hg hr => h)
    ⟨rfl, HT.out⟩ ?act2 ?assign2 ?body2 ?done2 ?stop2
  case assign2 =>
    intro l x W K hK
    have hsem := Oper.semAt_some
    gi_wp2
    exact hK
  case body2 =>
    rintro l pre x W hI hlt
    exact absurd hlt (by omega)
  case stop2 =>
    rintro D c pre W hD hSp h hK
    exact h.elim
  rintro D2 ys W2 hD2 rfl ⟨_, hT⟩ hK2
  have HT := hide hT
  have HK := hide hK2
  have hc9 : W2.cell? ⟨c92, 0, none⟩ = some (.int .i64 0) := by rw [hT.c9.cell]; rfl
  clear hT hK2
  go_wp2_with (first | (go_at_call 14; refine (jadd_nob _ _ (HT.out.ns.bare) _).mono ?_; rintro e W2 ⟨rfl, rfl⟩) | (go_at_call 12; refine (jclear_nob _ _ (HT.out.ns.bare) _).mono ?_; rintro e W2 ⟨rfl, rfl⟩) | (go_at_call 18; refine (jlen_nob _ _ (HT.out.ns.bare)).mono ?_; rintro e W2 ⟨rfl, rfl⟩) | (go_at_call 19; refine (jgen_nob _ _ (HT.out.ns.bare)).mono ?_; rintro e W2 ⟨rfl, rfl⟩))
  clear hc9
  rw [rounds_succ]
  go_wp2_with fail
  refine (jopen_nob _ _ (.inl rfl)).mono ?_
  rintro e W2 ⟨rfl, rfl⟩
  go_wp2_with (first | (refine step_buildDk0 rfl ?_) | (refine step_box (cs := dkC 0 none (.slice none 0 0) 0) rfl rfl ?_; intro w8 g8 hg8 hle8 hb8))
  refine (jopen_nob _ _ (.inr ⟨g8, rfl, by rw [hg8.cell]; rfl⟩)).mono ?_
  rintro e w9 ⟨rfl, rfl⟩
  have HD := hide (HT.out.below hb8)
  have KD := hide (mark_below HK.out hb8)
  clear HT HK hg8 hle8 hb8
  go_wp2_with fail
  have hDD : D1 ≠ D2 := by have := hlt2 D1 (by simp); omega
  have k1 := HD.out.marks D1 (by simp)
  have k2 := KD.out
  have k1' : (w9.putObj D2 (.deferred none)).heap[D1]? = some (.deferred (some [])) := by
    rw [World.putObj_heap_other hDD]
    exact k1
  have BA := HD.out.ns.bel.trans (belowK_b (w := w) (Nat.le_refl _) _ D2 _ (.deferred none) (by omega) k2 rfl rfl)
  have BC := BA.trans (belowK_b (w := w) (Nat.le_refl _) _ D1 _ (.deferred none) (by omega) k1' rfl rfl)
  refine ⟨by simp, .inl ⟨_, _, rfl, run_takeDeferred k2, ?_⟩⟩
  refine ⟨by simp, .inl ⟨_, _, rfl, run_takeDeferred k1', ?_⟩⟩
  exact ⟨.bool true, by simp [results, Tryz.f4, go_sem], rfl, BC⟩

theorem jnob_law {P : Prop} (a : Option Addr) (len cap : Nat) (xs : List Int) (k : Int) (w : World) (hs : Sl w a len cap xs) (hc : P) (hk : (Lit.int .i64 k).wf = true) :
    Calls Tryz.prog 4 #[.slice a len cap, .int .i64 k] w fun e w' => e = .returned (.bool true) ∧ Below w.heap.size w w' := jnob_walk a len cap k w

end Go.Proofs.YtninkkdbcgadpaaGreatDoor
