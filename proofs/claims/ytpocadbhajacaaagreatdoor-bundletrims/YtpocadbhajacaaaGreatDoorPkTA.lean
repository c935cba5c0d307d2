/-
  Texts one behind the other: Bxl Bwb Bxm Bxn Srb Bxo Jfba Bwd.
-/
import Derived.Test.YtpocadbhajacaaaGreatDoorSgl
import Derived.Test.YtpocadbhajacaaaGreatDoorSgb
import Derived.Test.YtpocadbhajacaaaGreatDoorBwa
import Derived.Test.YtpocadbhajacaaaGreatDoorLzb
import Derived.Test.YtpocadbhajacaaaGreatDoorBwc
import Derived.Test.YtpocadbhajacaaaGreatDoorJls
import Derived.Test.YtpocadbhajacaaaGreatDoorNw
import Derived.Test.YtpocadbhajacaaaGreatDoorBu
import Derived.Test.YtpocadbhajacaaaGreatDoorKqm0
import Derived.Great.BuildSlice
import Derived.Laws.Bits64
import Derived.Deep.AppendLies
import Derived.Test.YtpocadbhajacaaaGreatDoorMe
import Derived.Deep.RegionLaw

/-
  A range over a disk's names whose body lays names of its own: what lay ahead of the first round is left.
-/
namespace Go.Proofs.YtpocadbhajacaaaGreatDoor
open Go.RowKit Go.Maps Go.Sort Go.Shelf
set_option linter.unusedVariables false

section
variable {F : Fence} {n : Nat} {P : Program}
/-- As SeqR; Z: where the heap ended ahead of the first round. -/
def SeqZ {α : Type} (F : Fence) (n : Nat) (P : Program) (g : Nat) (lb : Array Value) (encs : α → Array Value) (R : List α → α → World → Prop) (Kp : Nat → World → World → Prop) (S Sp : List α → Prop) (w : World) : Prop :=
  ∀ (l : Nat) (J Jx : Nat → List α → World → Prop) (W : World), Below w.heap.size w W → (∀ Z, AbidesFrom W.heap.size (J Z)) → (∀ Z, AbidesFrom W.heap.size (Jx Z)) →
    (∀ Z pre x W1, w.heap.size ≤ Z → J Z pre W1 → R pre x W1 → YieldAt F (n - 1) P l (encs x) W1 fun e W' => (e = .returned (.bool true) ∧ J Z (pre ++ [x]) W' ∧ Kp Z W1 W') ∨ (e = .returned (.bool false) ∧ Jx Z (pre ++ [x]) W')) →
    (∀ V, Below W.heap.size W V → J V.heap.size [] V) → CallsIn F n P g (#[.func (.yield l) #[] #[]] ++ lb) W fun e W' => (∃ v, e = .returned v) ∧ ∃ Z, ((∃ xs, S xs ∧ J Z xs W') ∨ (∃ pre, Sp pre ∧ Jx Z pre W'))
theorem rangeZ {α : Type} {g : Operand} {ps : Array Tmp} {assign body : Code} {Q : Exit → Act → World → Prop} {a : Act} {w : World}
    (hro : F.round = none) (h1 : 1 ≤ n) {gf : Nat} {lb : Array Value} (hg : a.eval g = .func (.func gf) #[] lb) (hFg : F.fn gf) (eg : ∀ args w, (callFunc gf args).run P w = .ok (.enter gf args) w)
    {encs : α → Array Value} {R : List α → α → World → Prop} {Kp : Nat → World → World → Prop} {S Sp : List α → Prop} (hseq : SeqZ F (n - 1) P gf lb encs R Kp S Sp w)
    (hKt : ∀ {Z : Nat} {A B C : World}, Kp Z A B → Kp Z B C → Kp Z A C) (hKb : ∀ (Z : Nat) (W : World) (l : Nat) (o o' : Obj), w.heap.size ≤ l → W.heap[l]? = some o → o.isCells = false → Kp Z W (W.putObj l o')) (hps : ∀ x, (encs x).size = ps.size)
    (hR : ∀ pre x, OwnFrom w.heap.size (fun (_ : Unit) W => R pre x W))
    (I : Nat → List α → World → Prop) (Ix : Nat → Code → List α → World → Prop) (hI : ∀ Z, OwnFrom w.heap.size (I Z)) (hIx : ∀ Z c, OwnFrom w.heap.size (Ix Z c)) (h0 : ∀ V, Below w.heap.size w V → I V.heap.size [] V) (a₁ : α → Act)
    (hassign : ∀ (l : Nat) (x : α) (W : World) (K : Act → World → Prop), K (a₁ x) W →
      assign.wpIn (F.inRound l) (n - 1 - 1) P (Exit.then K (fun _ _ _ => False)) { tmps := (ps.zip (encs x)).foldl (fun t (p, v) => t.setIfInBounds p v) a.tmps, defers := [] } W)
    (hbody : ∀ (Z l : Nat) (pre : List α) (x : α) (W : World), w.heap.size ≤ Z → I Z pre W → R pre x W → body.wpIn (F.inRound l) (n - 1 - 1) P (ownPostG w.heap.size (Kp Z) (I Z) (Ix Z) (pre ++ [x]) W) (a₁ x) W)
    (hdone : ∀ (Z D : Nat) (xs : List α) (W : World), w.heap.size ≤ D → S xs → I Z xs W → W.heap[D]? = some (.deferred (some [])) → Q .normal { a with defers := { target := .collected D, args := #[] } :: a.defers } W)
    (hstop : ∀ (Z D : Nat) (c : Code) (pre : List α) (W : World), w.heap.size ≤ D → Sp pre → Ix Z c pre W → W.heap[D]? = some (.deferred (some [])) → c.wpIn F n P Q { a with defers := { target := .collected D, args := #[] } :: a.defers } W) :
    (Code.rangeFunc g ps assign body).wpIn F n P Q a w := by
  refine wpIn_rangeFunc fun fn hfn => ?_
  rw [hro]
  obtain ⟨W1, hW1⟩ : ∃ W1, (w.alloc (.deferred (some []))).alloc (.loop (lrec fn a.tmps ps assign body w.heap.size .ready none)) = W1 := ⟨_, rfl⟩
  have B1 : Bk (lrec fn a.tmps ps assign body w.heap.size .ready none) w.heap.size W1 := by rw [← hW1]; exact Bk.new w _
  have b1 : Below w.heap.size w W1 := by rw [← hW1]; exact ((Below.refl _ w).alloc (Nat.le_refl _) _).alloc (by simp) _
  have s1 : w.heap.size ≤ W1.heap.size := b1.size
  have far : ∀ {A : World} {row : Option Nat}, (∀ r, row = some r → W1.heap.size ≤ r ∧ ∃ o : Obj, A.heap[r]? = some o ∧ o.isWalk = true) → ∀ r, row = some r → w.heap.size ≤ r ∧ ∃ o : Obj, A.heap[r]? = some o ∧ o.isCells = false :=
    fun hr r e => by obtain ⟨hb, o, ho, hw⟩ := hr r e; exact ⟨by omega, o, ho, Obj.not_cells_of_walk hw⟩
  refine ⟨w.heap.size + 1, [{ target := .collected w.heap.size, args := #[] }], W1, { target := .fn (.func gf) lb, args := #[.func (.yield (w.heap.size + 1)) #[] #[]] }, W1, gf,
    #[.func (.yield (w.heap.size + 1)) #[] #[]] ++ lb, W1, by rw [← hW1]; exact run_enterLoop_outer _ _ _ _ _, by simp only [resolve, hg]; simp [go_sem], fun f' hf' => by simp [Target.leads] at hf'; subst hf'; exact hFg, by simp [invoke, go_sem, eg], fun _ => h1, ?_⟩
  refine (hseq (w.heap.size + 1) (fun Z pre W => I Z pre W ∧ Bk (lrec fn a.tmps ps assign body w.heap.size .ready none) w.heap.size W) (fun Z pre W => ∃ c, Ix Z c pre W ∧ Bk (lrec fn a.tmps ps assign body w.heap.size .done (some c)) w.heap.size W) W1 b1
    (fun Z s A B row hs hg' hr => ⟨hI Z s A B row hs.1 hg' (far hr), hs.2.abide hg' hr⟩)
    (fun Z s A B row hs hg' hr => by obtain ⟨c, hc, hb⟩ := hs; exact ⟨c, hIx Z c s A B row hc hg' (far hr), hb.abide hg' hr⟩) ?_
    (fun V hV => ⟨h0 V (on_below b1 hV), B1.own (row := none) ⟨hV.os, hV.tape, hV.output, hV.size, fun i hi _ => hV.block i hi⟩ (fun q e => by cases e)⟩)).mono ?_
  · rintro Z pre x W hZ ⟨hi, hB⟩ hr
    refine round_R hfn (hps x) hB (hassign _ x W) ?_
    have hB2 := hB.put (lrec fn a.tmps ps assign body w.heap.size .busy none)
    have hK2 : Kp Z W (W.putObj (w.heap.size + 1) (.loop (lrec fn a.tmps ps assign body w.heap.size .busy none))) := hKb Z _ _ _ _ (by omega) hB.loop rfl
    refine wpIn_mono (hbody Z _ pre x _ (by omega) ((hI Z).putObj _ hi (by omega) hB.loop rfl) ((hR pre x).putObj (s := ()) _ hr (by omega) hB.loop rfl)) ?_
    intro e a3 W3 hp
    cases e with
    | normal =>
      have hB3 := hB2.keep hp.1
      exact ⟨hB3, .inl ⟨rfl, ⟨(hI Z).putObj _ hp.2.2 (by omega) hB3.loop rfl, hB3.put _⟩, hKt hK2 (hKt hp.2.1 (hKb Z _ _ _ _ (by omega) hB3.loop rfl))⟩⟩
    | ret =>
      have hB3 := hB2.keep hp.1
      exact ⟨hB3, .inr ⟨rfl, .ret, (hIx Z _).putObj _ hp.2 (by omega) hB3.loop rfl, hB3.put _⟩⟩
    | exit id =>
      have hB3 := hB2.keep hp.1
      exact ⟨hB3, .inr ⟨rfl, .exit id, (hIx Z _).putObj _ hp.2 (by omega) hB3.loop rfl, hB3.put _⟩⟩
    | goto u =>
      have hB3 := hB2.keep hp.1
      exact ⟨hB3, .inr ⟨rfl, .goto u, (hIx Z _).putObj _ hp.2 (by omega) hB3.loop rfl, hB3.put _⟩⟩
    | panic ch => exact hp.elim
    | outgrown => exact hp.elim
  · rintro e W2 ⟨⟨v, rfl⟩, Z, (⟨xs, hS, hi, hB⟩ | ⟨pre, hSp, c, hi, hB⟩)⟩
    · exact ⟨none, _, run_endLoop (P := P) hB.loop (by simp [lrec]), hdone Z _ xs _ (Nat.le_refl _) hS ((hI Z).putObj _ hi (by omega) hB.loop rfl) ((World.putObj_heap_other (by omega)).trans hB.mark)⟩
    · exact ⟨some c, _, run_endLoop (P := P) hB.loop (by simp [lrec]), hstop Z _ c pre _ (Nat.le_refl _) hSp ((hIx Z c).putObj _ hi (by omega) hB.loop rfl) ((World.putObj_heap_other (by omega)).trans hB.mark)⟩
end
/-- Blocks of names that lay ahead are left. -/
structure KZ (Z : Nat) (A C : World) : Prop where
  size : A.heap.size ≤ C.heap.size
  keep : ∀ (k : Nat) (cs : List Value), k < Z → Blk A k 9 cs → Blk C k 9 cs
theorem KZ.trans {Z : Nat} {A C D : World} (h : KZ Z A C) (k : KZ Z C D) : KZ Z A D := ⟨Nat.le_trans h.size k.size, fun i cs hi ho => k.keep i cs hi (h.keep i cs hi ho)⟩
theorem KZ.book (Z : Nat) (W : World) (l : Nat) (o o' : Obj) (h : W.heap[l]? = some o) (hc : o.isCells = false) : KZ Z W (W.putObj l o') := ⟨(KS.book W l o o' h hc).size, fun k cs _ hk => (KS.book W l o o' h hc).keep k cs hk⟩
theorem KZ.below {Z : Nat} {A C : World} (h : Below A.heap.size A C) : KZ Z A C := ⟨h.size, fun k cs _ hk => hk.on h⟩
theorem KZ.but {Z g : Nat} {A C : World} {t : TypeId} {cs : List Value} (h : But g A C) (hg : Blk A g t cs) (ht : 9 ≠ t) : KZ Z A C := ⟨Nat.le_of_eq h.size.symm, fun k ds _ hk => hk.but h (hk.apart hg ht)⟩
theorem KZ.grown {Z : Nat} {A C : World} {row : Option Nat} (h : A.grownBy C row) (hr : ∀ g, row = some g → Z ≤ g) : KZ Z A C :=
  ⟨h.size, fun k ds hkZ hk => by
    unfold Blk
    rw [h.block k hk.lt (fun e => by have := hr k e.symm; omega)]
    exact hk⟩
set_option maxRecDepth 100000 in
set_option maxHeartbeats 2000000 in
theorem list_seqZ (Bs d s : Nat) (rs : List Rw) (D : Dm) {ls : List (ByteArray × List Int)} (hl : FL (play rs) ls) (hwt : wt rs ≤ 1099511000000) (w : World) (hBs0 : Blk w Bs 26 [.pointer (some ⟨d, 0, none⟩)]) (hd0 : DkAt w d s rs D) :
    SeqZ Fence.wide 6 Tryz.prog 79 #[.pointer (some ⟨Bs, 0, none⟩)] (fun x : ByteArray => #[.string x]) (RL ls) KZ (fun ys => ys = ls.map (·.1)) (fun pre => pre <+: ls.map (·.1)) w := by
  intro l J Jx W hbw hJ hJx hY h0
  have h : DkAt W d s rs D := hd0.below hbw
  have hwW : w.heap.size ≤ W.heap.size := hbw.size
  have hBs : W.cell? ⟨Bs, 0, none⟩ = some (.pointer (some ⟨d, 0, none⟩)) := by rw [(hBs0.on hbw).cell]; rfl
  clear hbw hBs0 hd0 hJx
  obtain ⟨c0, c1, c3, hp⟩ := h.made
  have hlen : ls.length ≤ 1099511000000 := by
    have h1 : ls.length ≤ D.fm.length := by
      have h2 := sub_len (ls.map (·.1)) (D.fm.map (·.1)) (by rw [List.Nodup, List.pairwise_map]; exact hl.srt.imp (fun {a b} hab => blt_ne hab)) (fun n hn => by
        obtain ⟨x, hx, rfl⟩ := List.mem_map.1 hn
        obtain ⟨u, hu, _⟩ := h.fil.mem ((hl.mem x.1 x.2).2 hx)
        exact List.mem_map.2 ⟨_, hu, rfl⟩)
      simpa using h2
    have h3 := (h.bounds hwt).2
    omega
  have hS := sorted12 d s rs D W h hwt hl
  have HS := hide hS
  have HYY := hide hY
  have HJJ := hide hJ
  have H0 := hide h0
  have hfK : Fence.wide.fn 81 := trivial
  have hfS : Fence.wide.fn 80 := trivial
  have hfM : Fence.wide.fn 55 := trivial
  clear h hS hY hJ h0 c3
  generalize hL : ls.length = L at *
  have HL := hide hL
  clear hL
  refine callsIn_of_wp Tryz.func79 rfl trivial ?_ rfl
  simp only [Tryz.ntmps79, List.size_toArray, List.length_cons, List.length_nil, Nat.reduceAdd, Nat.reduceSub, Array.replicate_succ, Array.replicate_zero, List.push_toArray, List.append_toArray, List.nil_append, List.cons_append]
  gi_wp2_with (first
    | (gi_at_call 55; refine (callsIn_wide.2 (made_ok _ _ _ c0 hp)).mono ?_; rintro e W ⟨rfl, rfl⟩)
    | (gi_at_call 81; refine (keys12 _ _).mono ?_; rintro e w' ⟨rfl, rfl⟩)
    | (gi_at_call 80; refine HS.out.mono ?_; rintro e W2 ⟨v, rfl, hrow, hb⟩; obtain ⟨va, vc, hve⟩ := row_slice hrow; subst hve))
  have J2 : J W2.heap.size [] W2 := H0.out W2 hb
  have hgZ : ∀ g cap, Value.slice va L vc = Value.slice (some ⟨g, 0, none⟩) L cap → 0 < L → g < W2.heap.size := fun g cap e h0 => by
    obtain ⟨g', cap', cs, e1, hg, _⟩ := row_at hrow (by omega)
    rw [e] at e1
    injection e1 with e1 _ _
    injection e1 with e1
    injection e1 with e1
    subst e1
    exact hg.lt
  have HGZ := hide hgZ
  have hWZ : w.heap.size ≤ W2.heap.size := by have := hb.size; omega
  clear hgZ
  generalize W2.heap.size = Z at *
  have HJ2 := hide J2
  have HROW := hide hrow
  clear J2 hrow hb c0 c1
  gi_loopw [15] (fun c wr => ∃ k : Nat, k ≤ L ∧ c = .int .i64 (k : Int) ∧ Hid (J Z ((ls.take k).map (·.1)) wr) ∧ Hid (wr.ownsRow W.heap.size 9 1 (.slice va L vc) L (nmsC ls))) (fun c _ => L - (intOf c).toNat)
  case atStart => exact ⟨0, Nat.zero_le _, rfl, HJ2, HROW⟩
  case round =>
    obtain ⟨k, hk, rfl, HJk, HRk⟩ := hrel
    by_cases hlt : k < L
    · have hlti : (k : Int) < (L : Int) := by omega
      obtain ⟨x, hx⟩ : ∃ x, ls[k]? = some x := ⟨_, List.getElem?_eq_getElem (by rw [HL.out]; exact hlt)⟩
      obtain ⟨g, cap, cs, e1, hg, hcs, _⟩ := row_at HRk.out (by omega)
      injection e1 with e1 e2 e3
      clear e2
      subst e1 e3
      have hix := st_at g L vc k hlt
      have hcell : wr.cell? ⟨g, k, none⟩ = some (.string x.1) := by
        rw [hg.cell]
        have h1 : (nmsC ls)[k]? = some (.string x.1) := by unfold nmsC; rw [List.getElem?_map, hx]; rfl
        rw [← hcs, List.getElem?_take, if_pos (by omega)] at h1
        exact h1
      have HET : Hid ((ls.take (k + 1)).map (·.1) = (ls.take k).map (·.1) ++ [x.1]) := hide (by
        obtain ⟨hi, rfl⟩ := List.getElem?_eq_some_iff.1 hx
        rw [List.take_succ_eq_append_getElem hi, List.map_append]
        rfl)
      have HPRE : Hid ((ls.take (k + 1)).map (·.1) <+: ls.map (·.1)) := hide ((List.take_prefix _ _).map _)
      have hpl : ((ls.take k).map (·.1)).length = k := by rw [List.length_map, List.length_take]; have := HL.out; omega
      obtain ⟨fn, tmps, assign, body, hy, hR⟩ := HYY.out Z _ x.1 wr hWZ HJk.out ⟨by rw [hpl], x.2, by rw [hpl]; exact hx⟩
      have hge := row_ge HRk.out (k := g) rfl
      have hgz := HGZ.out g _ rfl (by omega)
      clear hx hg hcs hpl
      gi_wp2
      refine hR.mono ?_
      rintro e W3 (⟨rfl, hJ3, hk3⟩ | ⟨rfl, hJx3⟩)
      · rw [← HET.out] at hJ3
        have HJ3 := hide hJ3
        have HR3 : Hid (W3.ownsRow W.heap.size 9 1 (.slice (some ⟨g, 0, none⟩) L vc) L (nmsC ls)) := hide (row_same HRk.out (fun q hq => by
          obtain ⟨cs', hc'⟩ := row_lies HRk.out hq
          exact (hk3.keep q _ (by have h9 : some g = some q := hq; injection h9 with h9; omega) hc').trans hc'.symm))
        clear hJ3 hk3
        gi_wp2
        go_roundw
        case rel => exact ⟨k + 1, by omega, by go_num, HJ3, HR3⟩
        case measure => simp [intOf]; omega
      · rw [← HET.out] at hJx3
        gi_wp2
        refine bodyPost_ret (results_none rfl _ _ _) rfl ?_
        exact ⟨⟨_, rfl⟩, Z, .inr ⟨_, HPRE.out, hJx3⟩⟩
    · have hlti : ¬ (k : Int) < (L : Int) := by omega
      have e1 : k = L := by omega
      have hfin := HJk.out
      rw [e1, List.take_of_length_le (by rw [HL.out]; omega)] at hfin
      have HFIN := hide hfin
      clear hfin
      gi_wp2
      go_end0
      exact ⟨⟨_, rfl⟩, Z, .inl HFIN.out⟩

end Go.Proofs.YtpocadbhajacaaaGreatDoor

/-
  The names of the files of leaves: the program's folder, nameOf, Name; isMade.
-/
namespace Go.Proofs.YtpocadbhajacaaaGreatDoor
open Go.RowKit
set_option linter.unusedVariables false
set_option linter.unusedSimpArgs false
set_option maxRecDepth 100000

theorem repN_one (c : Nat) : Lib.repeatL [48] c = List.replicate c 48 := by
  induction c with
  | zero => rfl
  | succ c ih => rw [Lib.repeatL, ih, List.replicate_succ]; rfl
theorem repN_any (c : Nat) (w : World) (hc : c ≤ 6) : Calls Tryz.prog 73 #[.string { data := #[48] }, .int .i64 (c : Int)] w fun r w' => r = .returned (.string (bA (List.replicate c 48))) ∧ Below w.heap.size w w' := by
  refine (Tryz.strings_Repeat { data := #[48] } c w (by omega) (by show 1 * c ≤ _; omega)).mono ?_
  rintro e w' ⟨rfl, hb⟩
  refine ⟨?_, hb⟩
  show Ending.returned (.string ⟨(Lib.repeatL [48] c).toArray⟩) = _
  rw [repN_one]
  rfl
/-- A height's folder. -/
def lfD (h : Nat) : List UInt8 := lfP ++ Lib.decDigits h ++ [47]
theorem lfD_len {h : Nat} (a : hB h) : (lfD h).length = 7 := by
  unfold lfD
  rw [dec_h a]
  rfl
theorem lfN_D (h k : Nat) : lfN h k = bA (lfD h ++ jD k) := rfl
theorem bA_lfP (l : List UInt8) : (⟨#[108, 101, 97, 102, 47]⟩ : ByteArray) ++ bA l = bA (lfP ++ l) := bA_app lfP l
theorem bA_sl (l : List UInt8) : bA l ++ (⟨#[47]⟩ : ByteArray) = bA (l ++ [47]) := bA_app l [47]
set_option maxHeartbeats 400000 in
theorem folder_any (h : Nat) (w : World) (hh : hB h) (ht : PT w) : Calls Tryz.prog 72 #[.int .i64 (h : Int)] w fun r w' => r = .returned (.string (bA (lfD h))) ∧ Below w.heap.size w w' := by
  have HI := hide (itoa_any h w (by have := hh.2; omega) ht)
  obtain ⟨A, HA⟩ : ∃ A, Hid (bA (Lib.decDigits h) = A) := ⟨_, hide rfl⟩
  have hA : A.size = 1 := by rw [← HA.out, bA_size, dec_h hh]; rfl
  rw [HA.out] at HI
  obtain ⟨Y, HY⟩ : ∃ Y, Hid ((⟨#[108, 101, 97, 102, 47]⟩ : ByteArray) ++ A = Y) := ⟨_, hide rfl⟩
  have hP : (⟨#[108, 101, 97, 102, 47]⟩ : ByteArray).size = 5 := rfl
  have hQ : (⟨#[47]⟩ : ByteArray).size = 1 := rfl
  have hY : Y.size = 6 := by rw [← HY.out, app_size, hP, hA]
  have HE : Hid (Y ++ (⟨#[47]⟩ : ByteArray) = bA (lfD h)) := hide (by rw [← HY.out, ← HA.out, bA_lfP, bA_sl]; rfl)
  rw [← HE.out]
  have s1 : ¬ 9223372036854775807 < (⟨#[108, 101, 97, 102, 47]⟩ : ByteArray).size + A.size := by rw [hP, hA]; omega
  have s2 : ¬ 9223372036854775807 < Y.size + (⟨#[47]⟩ : ByteArray).size := by rw [hY, hQ]; omega
  clear hY hP hQ hA HE ht
  go_enter Tryz.func72, Tryz.ntmps72
  go_wp2_with fail
  refine HI.out.mono ?_
  rintro e w1 ⟨rfl, hb1⟩
  have B1 := hide hb1
  have hadd := HY.out
  clear hb1
  go_wp2
  go_ret
  exact ⟨rfl, B1.out⟩
set_option maxHeartbeats 400000 in
theorem nameOf_any (h k : Nat) (w : World) (hh : hB h) (hk : k ≤ 2147483647) (ht : PT w) : Calls Tryz.prog 41 #[.int .i64 (h : Int), .int .i64 (k : Int)] w fun r w' => r = .returned (.string (lfN h k)) ∧ Below w.heap.size w w' := by
  have h10 := dec_len10 hk
  have HI := hide (itoa_any k w (by omega) ht)
  have HF := hide (fun (V : World) (hV : PT V) => folder_any h V hh hV)
  have HT := hide ht
  obtain ⟨A, HA⟩ : ∃ A, Hid (bA (Lib.decDigits k) = A) := ⟨_, hide rfl⟩
  rw [HA.out] at HI
  have hA : A.size = (Lib.decDigits k).length := by rw [← HA.out, bA_size]
  obtain ⟨n, HN⟩ : ∃ n, Hid ((Lib.decDigits k).length = n) := ⟨_, hide rfl⟩
  rw [HN.out] at hA h10
  obtain ⟨c, HC⟩ : ∃ c, Hid (6 - n = c) := ⟨_, hide rfl⟩
  have hc6 : c ≤ 6 := by rw [← HC.out]; omega
  have HMX : Hid (max (6 - (n : Int)) 0 = (c : Int)) := hide (by rw [← HC.out]; omega)
  have HR := hide (fun V => repN_any c V hc6)
  obtain ⟨Z, HZ⟩ : ∃ Z, Hid (bA (List.replicate c 48) = Z) := ⟨_, hide rfl⟩
  rw [HZ.out] at HR
  have hZ : Z.size = c := by rw [← HZ.out, bA_size, List.length_replicate]
  obtain ⟨D, HD⟩ : ∃ D, Hid (bA (lfD h) = D) := ⟨_, hide rfl⟩
  rw [HD.out] at HF
  have hD : D.size = 7 := by rw [← HD.out, bA_size, lfD_len hh]
  have HE : Hid ((D ++ Z) ++ A = lfN h k) := hide (by
    rw [← HZ.out, ← HA.out, ← HD.out, lfN_D, bA_app, bA_app]
    unfold jD
    rw [HN.out, HC.out, List.append_assoc])
  obtain ⟨Y, HY⟩ : ∃ Y, Hid (D ++ Z = Y) := ⟨_, hide rfl⟩
  have hY : Y.size = 7 + c := by rw [← HY.out, app_size, hD, hZ]
  rw [HY.out] at HE
  rw [← HE.out]
  have s1 : ¬ 9223372036854775807 < D.size + Z.size := by rw [hD, hZ]; omega
  have s2 : ¬ 9223372036854775807 < Y.size + A.size := by rw [hY, hA]; omega
  clear hY hZ hD HE HZ HN HD h10 ht
  go_enter Tryz.func41, Tryz.ntmps41
  go_wp2_with fail
  refine HI.out.mono ?_
  rintro e w1 ⟨rfl, hb1⟩
  have B1 := hide hb1
  clear hb1
  go_wp2_with fail
  refine (HF.out _ (HT.out.below B1.out)).mono ?_
  rintro e w2 ⟨rfl, hb2⟩
  have B2 := hide (on_below B1.out hb2)
  clear hb2 B1
  go_wp2_with fail
  rw [HMX.out]
  refine (HR.out _).mono ?_
  rintro e w3 ⟨rfl, hb3⟩
  have B3 := hide (on_below B2.out hb3)
  have hadd := HY.out
  clear hb3 B2
  go_wp2
  go_ret
  exact ⟨rfl, B3.out⟩
/-- May a leaf of this height and index be? -/
def nmO' (h i : Int) : Bool := decide (1 ≤ h) && decide (h ≤ 8) && decide (0 ≤ i) && decide (i < 1048576)
/-- What Name tells. -/
def bnP (h i : Int) : ByteArray := if nmO' h i = true then lfN h.toNat (i.toNat / 2 ^ h.toNat) else bA []
def bnE (h i : Int) : Int := if nmO' h i = true then 0 else 2
theorem nmO'_is {h i : Int} : nmO' h i = true ↔ 1 ≤ h ∧ h ≤ 8 ∧ 0 ≤ i ∧ i < 1048576 := by
  simp only [nmO', Bool.and_eq_true, decide_eq_true_eq]
  omega
theorem nmO'_nats {h i : Int} (k : nmO' h i = true) : ∃ H I : Nat, h = H ∧ i = I ∧ hB H ∧ I < 1048576 := by
  have := nmO'_is.1 k
  exact ⟨h.toNat, i.toNat, by omega, by omega, ⟨by omega, by omega⟩, by omega⟩
theorem bnE_nat {H I : Nat} (a : hB H) (b : I < 1048576) : bnE (H : Int) (I : Int) = 0 := by
  unfold bnE
  rw [if_pos (nmO'_is.2 ⟨by have := a.1; omega, by have := a.2; omega, by omega, by omega⟩)]
theorem bnP_nat {H I : Nat} (a : hB H) (b : I < 1048576) : bnP (H : Int) (I : Int) = lfN H (I / 2 ^ H) := by
  unfold bnP
  rw [if_pos (nmO'_is.2 ⟨by have := a.1; omega, by have := a.2; omega, by omega, by omega⟩)]
  simp only [Int.toNat_natCast]
theorem bnE_bin (h i : Int) : bnE h i = 0 ∨ bnE h i = 2 := by unfold bnE; split <;> simp
theorem bnE_zero {h i : Int} (k : bnE h i = 0) : nmO' h i = true := by
  unfold bnE at k
  split at k
  · assumption
  · cases k
theorem shrN (I H : Nat) : ((I : Int) / 2 ^ H) = ((I / 2 ^ H : Nat) : Int) := by rw [Int.natCast_ediv, Int.natCast_pow]; rfl
set_option maxHeartbeats 1000000 in
theorem bname_any (h i : Int) (w : World) (ht : PT w) : Calls Tryz.prog 32 #[.int .i64 h, .int .i64 i] w fun r w' => r = .returned (.tuple #[.string (bnP h i), .int .i64 (bnE h i)]) ∧ Below w.heap.size w w' := by
  by_cases hk : nmO' h i = true
  · obtain ⟨H, I, rfl, rfl, hh, hI⟩ := nmO'_nats hk
    rw [bnP_nat hh hI, bnE_nat hh hI]
    have h1 := hh.1
    have h8 := hh.2
    have hp := hh.pow
    have hf1 : ¬ (H : Int) < 1 := by omega
    have hf2 : ¬ (8 : Int) < (H : Int) := by omega
    have hf3 : ¬ (I : Int) < 0 := by omega
    have hf4 : ¬ (1048576 : Int) ≤ (I : Int) := by omega
    have hdv : I / 2 ^ H ≤ I := Nat.div_le_self _ _
    have HN := hide (nameOf_any H (I / 2 ^ H) w hh (by omega) ht)
    obtain ⟨q, HQ⟩ : ∃ q, Hid (I / 2 ^ H = q) := ⟨_, hide rfl⟩
    have hq : ((I : Int) / 2 ^ H) = (q : Int) := by rw [shrN, HQ.out]
    rw [HQ.out] at HN ⊢
    generalize lfN H q = nm at *
    clear ht hh hI hp hdv hk HQ
    go_enter Tryz.func32, Tryz.ntmps32
    go_wp2_with fail
    refine HN.out.mono ?_
    rintro e w1 ⟨rfl, hb1⟩
    go_wp2
    go_ret2
    exact ⟨rfl, hb1⟩
  · have e1 : bnP h i = bA [] := by unfold bnP; rw [if_neg hk]
    have e2 : bnE h i = 2 := by unfold bnE; rw [if_neg hk]
    rw [e1, e2]
    have hk2 := fun a => hk (nmO'_is.2 a)
    clear e1 e2 hk ht
    by_cases h1 : h < 1
    · clear hk2
      go_enter Tryz.func32, Tryz.ntmps32
      go_wp2
      go_ret2
      exact ⟨rfl, Below.refl _ _⟩
    · by_cases h8 : 8 < h
      · clear hk2
        go_enter Tryz.func32, Tryz.ntmps32
        go_wp2
        go_ret2
        exact ⟨rfl, Below.refl _ _⟩
      · by_cases h0 : i < 0
        · clear hk2
          go_enter Tryz.func32, Tryz.ntmps32
          go_wp2
          go_ret2
          exact ⟨rfl, Below.refl _ _⟩
        · have hm : 1048576 ≤ i := by
            rcases Int.lt_or_le i 1048576 with hlt | hge
            · exact absurd ⟨by omega, by omega, by omega, hlt⟩ hk2
            · exact hge
          clear hk2
          go_enter Tryz.func32, Tryz.ntmps32
          go_wp2
          go_ret2
          exact ⟨rfl, Below.refl _ _⟩

end Go.Proofs.YtpocadbhajacaaaGreatDoor

/-
  The file that a name tells: firstLeaf; slices.Reverse over names of the call's own.
-/
namespace Go.Proofs.YtpocadbhajacaaaGreatDoor
open Go.RowKit
set_option linter.unusedVariables false
set_option linter.unusedSimpArgs false
set_option maxRecDepth 100000

theorem jD_dg (g : Nat) : ∀ b ∈ jD g, isDg b := by
  intro b hb
  unfold jD at hb
  rcases List.mem_append.1 hb with hb | hb
  · exact ⟨0, by decide, (List.mem_replicate.1 hb).2⟩
  · exact dec_dg g g (Nat.le_refl _) b hb
theorem jD_atoi {g : Nat} (h : g ≤ 2147483647) : Lib.atoiAll (jD g) = .ok (g : Int) := by
  have := jD_le h
  refine atoi_dg (by omega) (fun e => ?_) (jD_dg g) (jD_dec g)
  rw [e] at this
  simp at this
/-- Is it the name of a file of this height, and of which? -/
def FlR (H : Nat) (x : ByteArray) (idx : Int) (ok : Bool) : Prop :=
  (ok = true ∧ ∃ q, q * 2 ^ H < 1048576 ∧ x = lfN H q ∧ idx = ((q * 2 ^ H : Nat) : Int)) ∨ (ok = false ∧ ∀ q, q * 2 ^ H < 1048576 → x ≠ lfN H q)
theorem lfq_le {H q : Nat} (k : q * 2 ^ H < 1048576) : q < 1048576 := by
  have := Nat.le_mul_of_pos_right q (Nat.two_pow_pos H)
  omega
theorem trim_lf (l m : List UInt8) : Lib.trimPrefix (l ++ m) l = m := by
  unfold Lib.trimPrefix Lib.hasPrefix
  rw [if_pos (List.isPrefixOf_iff_prefix.2 (List.prefix_append _ _)), List.drop_left]
theorem trim_len (l m : List UInt8) : (Lib.trimPrefix l m).length ≤ l.length := by
  unfold Lib.trimPrefix
  split
  · rw [List.length_drop]; omega
  · exact Nat.le_refl _
theorem beqC_t {n t : ByteArray} (h : n = t) : (n.toList == t.toList) = true := by rw [h]; simp
theorem beqC_f {n t : ByteArray} (h : n ≠ t) : (n.toList == t.toList) = false := by
  rw [beq_eq_false_iff_ne, ByteArray.toList_eq, ByteArray.toList_eq]
  intro e
  exact h (by cases n; cases t; simp at e; rw [e])
set_option maxHeartbeats 2000000 in
theorem firstLeaf_any (H : Nat) (s : List UInt8) (w : World) (hh : hB H) (hs : s.length ≤ 128) (he : EV w) :
    Calls Tryz.prog 69 #[.int .i64 (H : Int), .string (bA s)] w fun r w' => ∃ idx ok, r = .returned (.tuple #[.int .i64 idx, .bool ok]) ∧ FlR H (bA s) idx ok ∧ Below w.heap.size w w' := by
  have HF := hide (folder_any H w hh he.pt)
  have HE := hide he
  have hno : (∀ v, Lib.atoiAll (Lib.trimPrefix s (lfD H)) ≠ .ok v) → ∀ q, q * 2 ^ H < 1048576 → bA s ≠ lfN H q := fun h q hq e => by
    have e1 := bA_inj e
    rw [e1] at h
    have h2 : Lib.trimPrefix (lfL H q) (lfD H) = jD q := trim_lf (lfD H) (jD q)
    rw [h2] at h
    exact h _ (jD_atoi (by have := lfq_le hq; omega))
  by_cases hv : ∃ v, Lib.atoiAll (Lib.trimPrefix s (lfD H)) = .ok v
  · obtain ⟨v, hv⟩ := hv
    have hq : ∀ q, q * 2 ^ H < 1048576 → bA s = lfN H q → v = (q : Int) := fun q hq e => by
      have e1 := bA_inj e
      rw [e1] at hv
      have h2 : Lib.trimPrefix (lfL H q) (lfD H) = jD q := trim_lf (lfD H) (jD q)
      rw [h2, jD_atoi (by have := lfq_le hq; omega)] at hv
      injection hv with hv
      exact hv.symm
    have HA := hide (fun (V : World) => atoi_ok _ v V (by have := trim_len s (lfD H); omega) hv)
    have hvb := Lib.atoiAll_bounds hv
    have HW : Hid (∀ q, q * 2 ^ H < 1048576 → bA s = lfN H q → wrap64 (v * 2 ^ H) = ((q * 2 ^ H : Nat) : Int)) := hide (fun q hq2 e => by
      have h1 := hq q hq2 e
      have e1 : (v * 2 ^ H : Int) = ((q * 2 ^ H : Nat) : Int) := by rw [h1, Int.natCast_mul, Int.natCast_pow]; rfl
      rw [e1]
      unfold wrap64
      omega)
    obtain ⟨idx, HI⟩ : ∃ idx, Hid (wrap64 (v * 2 ^ H) = idx) := ⟨_, hide rfl⟩
    rw [HI.out] at HW
    have HN := hide (fun (V : World) (hV : PT V) => bname_any (H : Int) idx V hV)
    have h8 : (H : Int) ≤ 8 := by have := hh.2; omega
    have hres : ∀ ok : Bool, ok = (decide (bnE (H : Int) idx = 0) && decide (bnP (H : Int) idx = bA s)) → FlR H (bA s) idx ok := fun ok hok => by
      cases ok with
      | true =>
        have h2 := hok.symm
        simp only [Bool.and_eq_true, decide_eq_true_eq] at h2
        obtain ⟨h3, h4⟩ := h2
        obtain ⟨H', I, e1, e2, _, hI⟩ := nmO'_nats (bnE_zero h3)
        obtain rfl : H = H' := by omega
        subst e2
        rw [bnP_nat hh hI] at h4
        have h5 : I / 2 ^ H * 2 ^ H < 1048576 := Nat.lt_of_le_of_lt (Nat.div_mul_le_self _ _) hI
        have h6 := HW.out _ h5 h4.symm
        exact .inl ⟨rfl, _, h5, h4.symm, h6⟩
      | false =>
        refine .inr ⟨rfl, fun q hq2 e => ?_⟩
        have h6 := HW.out q hq2 e
        have h7 : bnE (H : Int) idx = 0 := by rw [h6]; exact bnE_nat hh hq2
        have h9 : bnP (H : Int) idx = bA s := by rw [h6, bnP_nat hh hq2, e, Nat.mul_div_cancel _ (Nat.two_pow_pos H)]
        rw [h7, h9] at hok
        simp at hok
    have HR := hide hres
    have HT := hide (fun (V : World) => trim_any s (lfD H) V)
    clear hno hv hvb hq hres hh he HW
    by_cases h0 : bnE (H : Int) idx = 0
    · by_cases hn : bnP (H : Int) idx = bA s
      · have HZ : Hid (FlR H (bA s) idx true) := hide (HR.out true (by rw [decide_eq_true h0, decide_eq_true hn]; rfl))
        have hbq := beqC_t hn
        rw [h0] at HN
        generalize bnP (H : Int) idx = nm at *
        clear h0 hn HR
        go_enter Tryz.func69, Tryz.ntmps69
        go_wp2_with fail
        refine HF.out.mono ?_
        rintro e w1 ⟨rfl, hb1⟩
        have HB1 := hide hb1
        clear hb1
        go_wp2_with (go_at_call 90; refine (HT.out _).mono ?_; rintro r w' ⟨rfl, hw'⟩; subst w')
        refine (HA.out _).mono ?_
        rintro r w3 ⟨rfl, hb3⟩
        have HB3 := hide (on_below HB1.out hb3)
        clear hb3
        go_wp2_with (rw [HI.out])
        refine (HN.out _ (HE.out.pt.below HB3.out)).mono ?_
        rintro r w4 ⟨rfl, hb4⟩
        have HB4 := hide (on_below HB3.out hb4)
        clear hb4
        go_wp2
        go_ret2
        exact ⟨idx, true, rfl, HZ.out, HB4.out⟩
      · have HZ : Hid (FlR H (bA s) idx false) := hide (HR.out false (by rw [decide_eq_true h0, decide_eq_false hn]; rfl))
        have hbq := beqC_f hn
        rw [h0] at HN
        generalize bnP (H : Int) idx = nm at *
        clear h0 hn HR
        go_enter Tryz.func69, Tryz.ntmps69
        go_wp2_with fail
        refine HF.out.mono ?_
        rintro e w1 ⟨rfl, hb1⟩
        have HB1 := hide hb1
        clear hb1
        go_wp2_with (go_at_call 90; refine (HT.out _).mono ?_; rintro r w' ⟨rfl, hw'⟩; subst w')
        refine (HA.out _).mono ?_
        rintro r w3 ⟨rfl, hb3⟩
        have HB3 := hide (on_below HB1.out hb3)
        clear hb3
        go_wp2_with (rw [HI.out])
        refine (HN.out _ (HE.out.pt.below HB3.out)).mono ?_
        rintro r w4 ⟨rfl, hb4⟩
        have HB4 := hide (on_below HB3.out hb4)
        clear hb4
        go_wp2
        go_ret2
        exact ⟨idx, false, rfl, HZ.out, HB4.out⟩
    · have HZ : Hid (FlR H (bA s) idx false) := hide (HR.out false (by rw [decide_eq_false h0]; rfl))
      have h2 : bnE (H : Int) idx = 2 := by rcases bnE_bin (H : Int) idx with k | k; exact absurd k h0; exact k
      rw [h2] at HN
      generalize bnP (H : Int) idx = nm at *
      clear h0 h2 HR
      go_enter Tryz.func69, Tryz.ntmps69
      go_wp2_with fail
      refine HF.out.mono ?_
      rintro e w1 ⟨rfl, hb1⟩
      have HB1 := hide hb1
      clear hb1
      go_wp2_with (go_at_call 90; refine (HT.out _).mono ?_; rintro r w' ⟨rfl, hw'⟩; subst w')
      refine (HA.out _).mono ?_
      rintro r w3 ⟨rfl, hb3⟩
      have HB3 := hide (on_below HB1.out hb3)
      clear hb3
      go_wp2_with (rw [HI.out])
      refine (HN.out _ (HE.out.pt.below HB3.out)).mono ?_
      rintro r w4 ⟨rfl, hb4⟩
      have HB4 := hide (on_below HB3.out hb4)
      clear hb4
      go_wp2
      go_ret2
      exact ⟨idx, false, rfl, HZ.out, HB4.out⟩
  · have HA := hide (fun (V : World) (hV : EV V) => atoi_no (Lib.trimPrefix s (lfD H)) V (by have := trim_len s (lfD H); omega) hV (fun v e => hv ⟨v, e⟩))
    have HZ : Hid (FlR H (bA s) 0 false) := hide (.inr ⟨rfl, hno (fun v e => hv ⟨v, e⟩)⟩)
    have HT := hide (fun (V : World) => trim_any s (lfD H) V)
    clear hno hv hh he
    go_enter Tryz.func69, Tryz.ntmps69
    go_wp2_with fail
    refine HF.out.mono ?_
    rintro e w1 ⟨rfl, hb1⟩
    have HB1 := hide hb1
    clear hb1
    go_wp2_with (go_at_call 90; refine (HT.out _).mono ?_; rintro r w' ⟨rfl, hw'⟩; subst w')
    refine (HA.out _ (HE.out.below HB1.out)).mono ?_
    rintro r w3 ⟨x, tp, p, rfl, hb3⟩
    have HB3 := hide (on_below HB1.out hb3)
    clear hb3
    go_wp2
    go_ret2
    exact ⟨0, false, rfl, HZ.out, HB3.out⟩

end Go.Proofs.YtpocadbhajacaaaGreatDoor

/-
  Slices of names of the call's own, and slices.Reverse over them (out of Vh and Vr).
-/
namespace Go.Proofs.YtpocadbhajacaaaGreatDoor
open Go.RowKit
set_option linter.unusedVariables false
set_option maxRecDepth 100000

/-- The cells of names. -/
def nC (hs : List ByteArray) : List Value := hs.map Value.string
theorem One.nC (hs : List ByteArray) : One (nC hs) := by intro v hv; obtain ⟨x, _, rfl⟩ := List.mem_map.1 hv; rfl
theorem nC_length (hs : List ByteArray) : (nC hs).length = hs.length := by simp [nC]
theorem nC_at (hs : List ByteArray) (i : Nat) (n : ByteArray) (h : hs[i]? = some n) : (nC hs)[i]? = some (.string n) := by simp [nC, h]
theorem info_someN {P : Program} {t : TypeId} {z : Option Value} {s b : Nat} (h : (P.info? t).map (fun i => (i.zero, i.size, i.bytes)) = some (z, s, b)) : ∃ i, P.info? t = some i ∧ i.zero = z ∧ i.size = s ∧ i.bytes = b := by
  cases hi : P.info? t with
  | none => simp [hi] at h
  | some i => simp [hi] at h; exact ⟨i, rfl, h.1, h.2.1, h.2.2⟩
theorem infoN : (Tryz.prog.info? 9).map (fun i => (i.zero, i.size, i.bytes)) = some (some (.string ByteArray.empty), 1, 16) := by kernel_rfl
theorem undNl : Tryz.prog.underlying 74 = some (.slice 9) := by kernel_rfl
theorem undNs : Tryz.prog.underlying 74 = some (.slice (Tryz.prog.elem 74)) := by kernel_rfl
theorem elemN : Tryz.prog.elem 74 = 9 := by kernel_rfl
theorem sizeN (w : World) : (sizeOf 9).run Tryz.prog w = .ok 1 w := by kernel_rfl
theorem atN (b n cap i : Nat) (I : Int) (hI : I = (i : Int)) (hi : i < n) (v : World) : (Instr.indexAt 74 (.slice (some ⟨b, 0, none⟩) n cap) (.int .i64 I)).run Tryz.prog v = .ok (.pointer (some ⟨b, i, none⟩)) v := by
  subst hI
  rw [run_indexAt_slice v _ _ _ _ .i64 i undNs, if_pos ⟨by omega, by omega⟩, elemN, sizeN]
  simp only [Result.andThen_ok, Int.toNat_natCast]
  rw [Addr.add_lit, Nat.zero_add, Nat.mul_one]
/-- In a slice of the call's own. -/
def OwnN (w : World) (B : Nat) (v : Value) (ns : List ByteArray) : Prop := w.ownsRow B 9 1 v ns.length (nC ns)
theorem OwnN.nil (w : World) (B : Nat) : OwnN w B (.slice none 0 0) [] := World.ownsRow_nil _ _ _ _
theorem OwnN.below {w w' : World} {B : Nat} {v : Value} {ns : List ByteArray} (h : OwnN w B v ns) (hb : Below w.heap.size w w') : OwnN w' B v ns := by
  obtain ⟨h1, h2⟩ := h
  refine ⟨h1, ?_⟩
  rcases h2 with h2 | ⟨g, cap, cur, e, hg, hh, r⟩
  · exact .inl h2
  · refine .inr ⟨g, cap, cur, e, hg, ?_, r⟩
    rw [hb.block g (Array.getElem?_eq_some_iff.1 hh).1]
    exact hh
theorem OwnN.but {w w' : World} {B g : Nat} {v : Value} {ns : List ByteArray} (h : OwnN w B v ns) (hb : But g w w') (hg : v.ownBlock ≠ some g) : OwnN w' B v ns := by
  obtain ⟨h1, h2⟩ := h
  refine ⟨h1, ?_⟩
  rcases h2 with h2 | ⟨k, cap, cur, rfl, hk, hh, r⟩
  · exact .inl h2
  · refine .inr ⟨k, cap, cur, rfl, hk, ?_, r⟩
    rw [hb.block k (fun e => hg (by rw [← e]; rfl))]
    exact hh
theorem OwnN.lower {w : World} {B B' : Nat} {v : Value} {ns : List ByteArray} (h : OwnN w B v ns) (hB : B' ≤ B) : OwnN w B' v ns := by
  obtain ⟨h1, h2⟩ := h
  refine ⟨h1, ?_⟩
  rcases h2 with h2 | ⟨g, cap, cur, e, hg, r⟩
  · exact .inl h2
  · exact .inr ⟨g, cap, cur, e, Nat.le_trans hB hg, r⟩
theorem OwnN.lies {w : World} {B : Nat} {v : Value} {ns : List ByteArray} (h : OwnN w B v ns) : (v = .slice none 0 0 ∧ ns = []) ∨
    ∃ g cap cs, v = .slice (some ⟨g, 0, none⟩) ns.length cap ∧ B ≤ g ∧ Blk w g 9 cs ∧ ns.length ≤ cap ∧ cap ≤ 9223372036854775807 ∧ cs.length = cap ∧ cs.take ns.length = nC ns := by
  obtain ⟨h1, h2⟩ := h
  rcases h2 with ⟨e, h0⟩ | ⟨g, cap, cur, rfl, hB, hh, h3, h4, h5, h6⟩
  · exact .inl ⟨e, List.eq_nil_of_length_eq_zero h0⟩
  · exact .inr ⟨g, cap, cur.toList, rfl, hB, by unfold Blk; simpa using hh, h3, by simpa [maxLen] using h4, by simpa using h5, by simpa using h6⟩
theorem OwnN.slice {w : World} {B : Nat} {v : Value} {ns : List ByteArray} (h : OwnN w B v ns) : ∃ a c, v = Value.slice a ns.length c := by
  rcases h.lies with ⟨rfl, rfl⟩ | ⟨g, cap, cs, rfl, _⟩
  · exact ⟨_, _, rfl⟩
  · exact ⟨_, _, rfl⟩
theorem OwnN.mk {w : World} {B g cap : Nat} {cs : List Value} {ns : List ByteArray} (hB : B ≤ g) (hb : Blk w g 9 cs) (hn : ns.length ≤ cap) (hc : cap ≤ 9223372036854775807) (hl : cs.length = cap) (ht : cs.take ns.length = nC ns) : OwnN w B (.slice (some ⟨g, 0, none⟩) ns.length cap) ns := by
  refine ⟨by rw [nC_length]; omega, .inr ⟨g, cap, cs.toArray, rfl, hB, by unfold Blk at hb; simpa using hb, hn, by simpa [maxLen] using hc, by simpa using hl, by simpa using ht⟩⟩
theorem OwnN.lt {w : World} {B : Nat} {v : Value} {ns : List ByteArray} (h : OwnN w B v ns) : ∀ k, v.ownBlock = some k → B ≤ k ∧ k < w.heap.size := fun k hk => World.ownsRow.lt h k hk
theorem OwnN.cell {w : World} {B g cap : Nat} {ns : List ByteArray} {m : Nat} (h : OwnN w B (.slice (some ⟨g, 0, none⟩) m cap) ns) (i : Nat) (n : ByteArray) (hi : ns[i]? = some n) : w.cell? ⟨g, i, none⟩ = some (.string n) := by
  rcases h.lies with ⟨e, _⟩ | ⟨g', c, cs, e, _, hb, _, _, _, ht⟩
  · cases e
  · injection e with e1 _ _
    injection e1 with e1
    injection e1 with e1 _ _
    subst e1
    rw [hb.cell]
    have hlt : i < ns.length := (List.getElem?_eq_some_iff.1 hi).1
    have := nC_at ns i n hi
    rw [← ht, List.getElem?_take, if_pos hlt] at this
    exact this
theorem buildN (n : ByteArray) (w : World) : (Instr.buildSlice 74 1 #[(0, .string n)]).run Tryz.prog w = .ok (.slice (some ⟨w.heap.size, 0, none⟩) 1 1) (w.alloc (.cells (nC [n]).toArray 9)) := by
  obtain ⟨i0, hi, hz0, hz1, hz2⟩ := info_someN infoN
  refine run_buildSlice w 74 9 1 _ _ i0 _ undNl hi hz0 (by rw [hz1]; decide) (by rw [hz1]; decide) ?_
  rw [hz1]
  have e0 : ((Array.range (1 * 1)).map ((Value.string ByteArray.empty).cells[· % (Value.string ByteArray.empty).cells.size]!)) = (nC [ByteArray.empty]).toArray := by kernel_rfl
  rw [e0]
  show Instr.fill _ _ [(0, Value.string n)] = _
  rw [fill_cons (place := fun i => some (i * 1, 1)) (off := 0) (size := 1) (vs := nC [n]) rfl rfl rfl (by decide), fill_nil]
  rfl
section
variable {dst : Option Tmp} {ty : TypeId} {pos : String} {aft : Array Edge} {gd : Option (Nat × Bool)} {ops : Array Oper} {rest : List Oper} {a : Act} {w : World} {K : Act → World → Prop} {Q : Exit → Act → World → Prop}
set_option maxRecDepth 100000 in
theorem wponeN {x : Operand} {n : ByteArray} (hx : a.eval x = .string n) (h : ∀ w1 g, Blk w1 g 9 (nC [n]) → w.heap.size ≤ g → Below w.heap.size w w1 → K (a.put dst (.slice (some ⟨g, 0, none⟩) 1 1)) w1) :
    Oper.wp Tryz.prog ⟨dst, .buildSlice 74 1 #[(0, x)], ty, pos, aft, gd⟩ a w K Q := by
  refine wp_runV (.slice (some ⟨w.heap.size, 0, none⟩) 1 1) (w.alloc (.cells (nC [n]).toArray 9)) ?_ (h _ _ (Blk.made _ _ _) (Nat.le_refl _) ((Below.refl _ _).alloc (Nat.le_refl _) _))
  unfold execOp
  simp only [List.map_toArray, List.map_cons, List.map_nil, hx]
  simp only [Sem.run_bind, buildN n, Result.andThen_ok, Sem.run_pure]
theorem wpappN {s x : Operand} {B : Nat} {v : Value} {ns : List ByteArray} {n : ByteArray} {g c : Nat} (hs : a.eval s = v) (hx : a.eval x = .slice (some ⟨g, 0, none⟩) 1 c) (hown : OwnN w B v ns) (hy : Blk w g 9 (nC [n])) (hlen : ns.length ≤ 1048576) (hB : B ≤ w.heap.size)
    (h : ∀ v' w', OwnN w' B v' (ns ++ [n]) → w.grownBy w' v.ownBlock → (∀ k, v'.ownBlock = some k → v.ownBlock = some k ∨ w.heap.size ≤ k) → K (a.put dst v') w') :
    Oper.wp Tryz.prog ⟨dst, .call { callee := .builtin .append, args := #[s, x], argTypes := #[74, 74] }, ty, pos, aft, gd⟩ a w K Q := by
  obtain ⟨i0, hi, hz0, hz1, hz2⟩ := info_someN infoN
  obtain ⟨g', cap', w', hr, ho, hgr, hat, hlt⟩ := run_append_lies (P := Tryz.prog) w 74 ty B 9 i0 (.string ByteArray.empty) 1 16 undNl hi hz0 hz1 hz2 rfl (by decide) v _ _ hown ⟨g, 0, none⟩ 1 c (nC [n]) rfl (fun j u hu => by
    rw [Addr.add_lit, Nat.zero_add, hy.cell]
    exact hu) (One.nC [n]) (by decide) (by unfold maxLen; omega) (by omega) hB _ rfl
  unfold Oper.wp
  simp [execOp, resolve, invoke, builtin, hs, hx, hr, Result.andThen]
  refine h _ _ (by unfold OwnN; rw [show nC (ns ++ [n]) = nC ns ++ nC [n] by simp [nC], List.length_append]; exact ho) hgr (fun k hk => ?_)
  injection hk with hk
  subst hk
  rcases hat with hat | hat
  · exact .inl hat
  · exact .inr (Nat.le_of_eq hat.symm)
set_option maxRecDepth 100000 in
theorem steponeN {x : Operand} {n : ByteArray} (hw : Region.wanted ⟨dst, .buildSlice 74 1 #[(0, x)], ty, pos, aft, gd⟩ (yielded ops a.tmps) = true) (hx : a.eval x = .string n) (h : ∀ w1 g, Blk w1 g 9 (nC [n]) → w.heap.size ≤ g → Below w.heap.size w w1 → wpList Tryz.prog ops Q rest (a.put dst (.slice (some ⟨g, 0, none⟩) 1 1)) w1) :
    wpList Tryz.prog ops Q (⟨dst, .buildSlice 74 1 #[(0, x)], ty, pos, aft, gd⟩ :: rest) a w :=
  BigFrame.wpList_want hw fun K hK => wponeN hx fun w1 g h1 h2 h3 => hK _ _ (h w1 g h1 h2 h3)
set_option maxRecDepth 100000 in
theorem stepappN {s x : Operand} {B : Nat} {v : Value} {ns : List ByteArray} {n : ByteArray} {g c : Nat} (hw : Region.wanted ⟨dst, .call { callee := .builtin .append, args := #[s, x], argTypes := #[74, 74] }, ty, pos, aft, gd⟩ (yielded ops a.tmps) = true)
    (hs : a.eval s = v) (hx : a.eval x = .slice (some ⟨g, 0, none⟩) 1 c) (hown : OwnN w B v ns) (hy : Blk w g 9 (nC [n])) (hlen : ns.length ≤ 1048576) (hB : B ≤ w.heap.size)
    (h : ∀ v' w', OwnN w' B v' (ns ++ [n]) → w.grownBy w' v.ownBlock → (∀ k, v'.ownBlock = some k → v.ownBlock = some k ∨ w.heap.size ≤ k) → wpList Tryz.prog ops Q rest (a.put dst v') w') :
    wpList Tryz.prog ops Q (⟨dst, .call { callee := .builtin .append, args := #[s, x], argTypes := #[74, 74] }, ty, pos, aft, gd⟩ :: rest) a w :=
  BigFrame.wpList_want hw fun K hK => wpappN hs hx hown hy hlen hB fun v' w' h1 h2 h3 => hK _ _ (h v' w' h1 h2 h3)
end
theorem nC_set (ns : List ByteArray) (i : Nat) (n : ByteArray) : (nC ns).set i (.string n) = nC (ns.set i n) := by simp [nC, List.map_set]
/-- One element is written over. -/
theorem OwnN.set {w : World} {B g cap : Nat} {ns : List ByteArray} {m : Nat} (h : OwnN w B (.slice (some ⟨g, 0, none⟩) m cap) ns) (i : Nat) (n : ByteArray) : OwnN (w.setCell ⟨g, i, none⟩ (.string n)) B (.slice (some ⟨g, 0, none⟩) m cap) (ns.set i n) := by
  rcases h.lies with ⟨e, _⟩ | ⟨g', c, cs, e, hB, hb, h1, h2, h3, h4⟩
  · cases e
  · injection e with e1 e2 e3
    injection e1 with e1
    injection e1 with e1 _ _
    subst e1 e2 e3
    have := OwnN.mk (ns := ns.set i n) hB (hb.set i (.string n)) (by simpa using h1) h2 (by simpa using h3) (by rw [List.length_set, List.take_set, h4, nC_set])
    rwa [List.length_set] at this
theorem OwnN.free {w : World} {B g cap : Nat} {ns : List ByteArray} {m : Nat} (h : OwnN w B (.slice (some ⟨g, 0, none⟩) m cap) ns) (i : Nat) : w.frozen? ⟨g, i, none⟩ = false := by
  rcases h.lies with ⟨e, _⟩ | ⟨g', c, cs, e, hB, hb, h1, h2, h3, h4⟩
  · cases e
  · injection e with e1 e2 e3
    injection e1 with e1
    injection e1 with e1 _ _
    subst e1 e2 e3
    exact hb.free i

def pgN (ns : List ByteArray) (t : Nat) : ByteArray := ns.getD t ByteArray.empty
theorem pgN_get {ns : List ByteArray} {t : Nat} (h : t < ns.length) : ns[t]? = some (pgN ns t) := by simp [pgN, List.getD, h]
/-- The first k and the last k are exchanged. -/
def rvN (ns : List ByteArray) (k : Nat) : List ByteArray := (List.range ns.length).map fun t => if t < k ∨ ns.length ≤ t + k then pgN ns (ns.length - 1 - t) else pgN ns t
theorem rvN_len (ns : List ByteArray) (k : Nat) : (rvN ns k).length = ns.length := by simp [rvN]
theorem rvN_get (ns : List ByteArray) (k t : Nat) : (rvN ns k)[t]? = if t < ns.length then some (if t < k ∨ ns.length ≤ t + k then pgN ns (ns.length - 1 - t) else pgN ns t) else none := by
  unfold rvN
  by_cases h : t < ns.length
  · simp [h]
  · simp [h]
theorem rvN_zero (ns : List ByteArray) : rvN ns 0 = ns := by
  apply List.ext_getElem?
  intro t
  rw [rvN_get]
  by_cases h : t < ns.length
  · rw [if_pos h, if_neg (by omega), pgN_get h]
  · rw [if_neg h, List.getElem?_eq_none (by omega)]
theorem rvN_step (ns : List ByteArray) (k J : Nat) (hJ : k + J + 1 = ns.length) (h : k < J) : ((rvN ns k).set k (pgN ns J)).set J (pgN ns k) = rvN ns (k + 1) := by
  apply List.ext_getElem?
  intro t
  rw [rvN_get, List.getElem?_set, List.getElem?_set, List.length_set, rvN_len, rvN_get]
  by_cases h1 : J = t
  · subst h1
    rw [if_pos rfl, if_pos (by omega), if_pos (by omega), if_pos (by omega), show ns.length - 1 - J = k by omega]
  · rw [if_neg h1]
    by_cases h2 : k = t
    · subst h2
      rw [if_pos rfl, if_pos (by omega), if_pos (by omega), if_pos (by omega), show ns.length - 1 - k = J by omega]
    · rw [if_neg h2]
      by_cases h3 : t < ns.length
      · rw [if_pos h3, if_pos h3]
        by_cases h4 : t < k ∨ ns.length ≤ t + k
        · rw [if_pos h4, if_pos (by omega)]
        · rw [if_neg h4, if_neg (by omega)]
      · rw [if_neg h3, if_neg h3]
theorem rvN_end (ns : List ByteArray) (k : Nat) (h : ns.length ≤ 2 * k + 1) : rvN ns k = ns.reverse := by
  apply List.ext_getElem?
  intro t
  rw [rvN_get]
  by_cases h1 : t < ns.length
  · rw [if_pos h1, List.getElem?_reverse h1, pgN_get (by omega)]
    by_cases h2 : t < k ∨ ns.length ≤ t + k
    · rw [if_pos h2]
    · rw [if_neg h2]
      congr 2
      omega
  · rw [if_neg h1, List.getElem?_eq_none (by simpa using h1)]
theorem rvN_lo (ns : List ByteArray) (k : Nat) (h : 2 * k < ns.length) : (rvN ns k)[k]? = some (pgN ns k) := by
  rw [rvN_get, if_pos (by omega), if_neg (by omega)]
theorem rvN_hi (ns : List ByteArray) (k J : Nat) (hJ : k + J + 1 = ns.length) (h : k < J) : (rvN ns k)[J]? = some (pgN ns J) := by
  rw [rvN_get, if_pos (by omega), if_neg (by omega)]

section
variable {dst : Option Tmp} {ty : TypeId} {pos : String} {aft : Array Edge} {gd : Option (Nat × Bool)} {a : Act} {w : World} {K : Act → World → Prop} {Q : Exit → Act → World → Prop}
theorem wploadN {x : Operand} {B g cap m i : Nat} {ns : List ByteArray} {n : ByteArray} (hx : a.eval x = .pointer (some ⟨g, i, none⟩)) (ho : OwnN w B (.slice (some ⟨g, 0, none⟩) m cap) ns) (hi : ns[i]? = some n) (h : K (a.put dst (.string n)) w) :
    Oper.wp Tryz.prog ⟨dst, .load 9 x, ty, pos, aft, gd⟩ a w K Q := by
  have hc := ho.cell i n hi
  refine wp_runV (.string n) w ?_ h
  unfold execOp
  simp only [hx]
  go_simp
theorem wpstoreN {x y : Operand} {B g cap m i : Nat} {ns : List ByteArray} {n : ByteArray} (hx : a.eval x = .pointer (some ⟨g, i, none⟩)) (hy : a.eval y = .string n) (ho : OwnN w B (.slice (some ⟨g, 0, none⟩) m cap) ns) (hi : i < ns.length)
    (h : ∀ w1, OwnN w1 B (.slice (some ⟨g, 0, none⟩) m cap) (ns.set i n) → But g w w1 → K (a.put dst undef) w1) : Oper.wp Tryz.prog ⟨dst, .store 9 x y, ty, pos, aft, gd⟩ a w K Q := by
  have hc := ho.cell i _ (List.getElem?_eq_getElem hi)
  have hf := ho.free i
  have H := h _ (ho.set i n) (But.setCell _ _ _ _)
  clear h
  unfold Oper.wp execOp
  simp only [hx, hy]
  go_simp
  exact H
end

set_option maxHeartbeats 1000000 in
theorem reverseN_own (B g cap n : Nat) (ns : List ByteArray) (w : World) (hn : ns.length = n) (hn2 : n ≤ 1048576) (h : OwnN w B (.slice (some ⟨g, 0, none⟩) n cap) ns) :
    Calls Tryz.prog 70 #[.slice (some ⟨g, 0, none⟩) n cap] w fun r w' => (∃ x, r = .returned x) ∧ OwnN w' B (.slice (some ⟨g, 0, none⟩) n cap) ns.reverse ∧ But g w w' := by
  have H := hide h
  have HN := hide hn
  clear h hn
  go_enter Tryz.func70, Tryz.ntmps70
  go_wp2_with fail
  go_loopw [2, 3] (fun s2 s3 wr => ∃ k : Nat, s2 = .int .i64 (k : Int) ∧ s3 = .int .i64 ((n : Int) - 1 - (k : Int)) ∧ 2 * k ≤ n + 1 ∧ Hid (OwnN wr B (.slice (some ⟨g, 0, none⟩) n cap) (rvN ns k)) ∧ Hid (But g w wr)) (fun s2 _ _ => n + 1 - (intOf s2).toNat)
  case atStart => exact ⟨0, rfl, by simp, by omega, hide (by rw [rvN_zero]; exact H.out), hide (But.refl _ _)⟩
  case round =>
    obtain ⟨k, rfl, rfl, hk2, O, BU⟩ := hrel
    by_cases hlt : 2 * k + 1 < n
    · obtain ⟨J, hJ'⟩ : ∃ J : Nat, J = n - 1 - k := ⟨_, rfl⟩
      have hj : (n : Int) - 1 - (k : Int) = (J : Int) := by omega
      rw [hj]
      have hkJ : k < J := by omega
      have hkJ' : (k : Int) < (J : Int) := by omega
      have hkn : k < n := by omega
      have hJn : J < n := by omega
      have hJ : k + J + 1 = ns.length := by rw [HN.out]; omega
      have HJ := hide hJ
      clear hJ hj hJ'
      have hJ := HJ.out
      go_wp2_with fail
      refine wp_region_held_drew (S := fun _ => True) (by kernel_rfl) trivial (fun hHeld => ?_)
      refine takeH 0 14 (.slice (some ⟨g, 0, none⟩) n cap) hHeld rfl rfl (by kernel_rfl) (by kernel_rfl) (by kernel_rfl) (fun _ _ _ h => h) (Or.inl ⟨by rfl, fun w _ => by go_simp⟩) ?_
      simp only [Act.put, List.setIfInBounds_toArray, List.set_cons_zero, List.set_cons_succ]
      refine takeH 1 15 (.int .i64 (k : Int)) hHeld rfl rfl (by kernel_rfl) (by kernel_rfl) (by kernel_rfl) (fun _ _ _ h => h) (Or.inl ⟨by rfl, fun w _ => by go_simp⟩) ?_
      simp only [Act.put, List.setIfInBounds_toArray, List.set_cons_zero, List.set_cons_succ]
      refine takeH 2 16 (.slice (some ⟨g, 0, none⟩) n cap) hHeld rfl rfl (by kernel_rfl) (by kernel_rfl) (by kernel_rfl) (fun _ _ _ h => h) (Or.inl ⟨by rfl, fun w _ => by go_simp⟩) ?_
      simp only [Act.put, List.setIfInBounds_toArray, List.set_cons_zero, List.set_cons_succ]
      refine takeH 3 17 (.int .i64 (J : Int)) hHeld rfl rfl (by kernel_rfl) (by kernel_rfl) (by kernel_rfl) (fun _ _ _ h => h) (Or.inl ⟨by rfl, fun w _ => by go_simp⟩) ?_
      simp only [Act.put, List.setIfInBounds_toArray, List.set_cons_zero, List.set_cons_succ]
      refine takeH 4 18 (.slice (some ⟨g, 0, none⟩) n cap) hHeld rfl rfl (by kernel_rfl) (by kernel_rfl) (by kernel_rfl) (fun _ _ _ h => h) (Or.inl ⟨by rfl, fun w _ => by go_simp⟩) ?_
      simp only [Act.put, List.setIfInBounds_toArray, List.set_cons_zero, List.set_cons_succ]
      refine takeH 5 19 (.int .i64 (J : Int)) hHeld rfl rfl (by kernel_rfl) (by kernel_rfl) (by kernel_rfl) (fun _ _ _ h => h) (Or.inl ⟨by rfl, fun w _ => by go_simp⟩) ?_
      simp only [Act.put, List.setIfInBounds_toArray, List.set_cons_zero, List.set_cons_succ]
      refine takeH 6 20 (.pointer (some ⟨g, J, none⟩)) hHeld rfl rfl (by kernel_rfl) (by kernel_rfl) (by kernel_rfl) (fun _ _ _ h => h) (Or.inl ⟨by rfl, fun w _ => run_op rfl ((atN g n cap J _ rfl hJn) w)⟩) ?_
      simp only [Act.put, List.setIfInBounds_toArray, List.set_cons_zero, List.set_cons_succ]
      refine takeH 8 22 (.slice (some ⟨g, 0, none⟩) n cap) hHeld rfl rfl (by kernel_rfl) (by kernel_rfl) (by kernel_rfl) (fun _ _ _ h => h) (Or.inl ⟨by rfl, fun w _ => by go_simp⟩) ?_
      simp only [Act.put, List.setIfInBounds_toArray, List.set_cons_zero, List.set_cons_succ]
      refine takeH 9 23 (.int .i64 (k : Int)) hHeld rfl rfl (by kernel_rfl) (by kernel_rfl) (by kernel_rfl) (fun _ _ _ h => h) (Or.inl ⟨by rfl, fun w _ => by go_simp⟩) ?_
      simp only [Act.put, List.setIfInBounds_toArray, List.set_cons_zero, List.set_cons_succ]
      refine takeH 10 24 (.pointer (some ⟨g, k, none⟩)) hHeld rfl rfl (by kernel_rfl) (by kernel_rfl) (by kernel_rfl) (fun _ _ _ h => h) (Or.inl ⟨by rfl, fun w _ => run_op rfl ((atN g n cap k _ rfl hkn) w)⟩) ?_
      simp only [Act.put, List.setIfInBounds_toArray, List.set_cons_zero, List.set_cons_succ]
      have O' := hide (O.out.below ((Below.refl _ _).drew))
      clear O
      have O := O'
      clear O'
      refine wpAnyH_ready (rs := [7, 11]) (by kernel_rfl) (by simp) (AllReadyH.cons rfl (fun K hK => ?_) (AllReadyH.cons rfl (fun K hK => ?_) AllReadyH.nil))
      · rw [if_pos (by rfl)]
        refine wploadN (i := J) rfl O.out (rvN_hi ns k J hJ hkJ) ?_
        refine hK.out _ _ (trivial) (fun hHeld => ?_)
        clear hK K
        simp only [Act.put, List.setIfInBounds_toArray, List.set_cons_zero, List.set_cons_succ]
        refine wpAnyH_ready (rs := [11]) (by kernel_rfl) (by simp) (AllReadyH.cons rfl (fun K hK => ?_) AllReadyH.nil)
        rw [if_pos (by rfl)]
        refine wploadN (i := k) rfl O.out (rvN_lo ns k (by omega)) ?_
        refine hK.out _ _ (trivial) (fun hHeld => ?_)
        clear hK K
        simp only [Act.put, List.setIfInBounds_toArray, List.set_cons_zero, List.set_cons_succ]
        refine takeH 12 26 (.pointer (some ⟨g, k, none⟩)) hHeld rfl rfl (by kernel_rfl) (by kernel_rfl) (by kernel_rfl) (fun _ _ _ h => h) (Or.inl ⟨by rfl, fun w _ => run_op rfl ((atN g n cap k _ rfl hkn) w)⟩) ?_
        simp only [Act.put, List.setIfInBounds_toArray, List.set_cons_zero, List.set_cons_succ]
        refine wpAnyH_ready (rs := [13]) (by kernel_rfl) (by simp) (AllReadyH.cons rfl (fun K hK => ?_) AllReadyH.nil)
        rw [if_pos (by rfl)]
        refine wpstoreN (n := pgN ns J) (i := k) rfl rfl O.out (by rw [rvN_len]; omega) ?_
        intro w5 ho5 hbut5
        have O5 := hide ho5
        refine hK.out _ _ trivial (fun hHeld => ?_)
        clear hK K ho5
        refine takeH 14 27 (.pointer (some ⟨g, J, none⟩)) hHeld rfl rfl (by kernel_rfl) (by kernel_rfl) (by kernel_rfl) (fun _ _ _ h => h) (Or.inl ⟨by rfl, fun w _ => run_op rfl ((atN g n cap J _ rfl hJn) w)⟩) ?_
        simp only [Act.put, List.setIfInBounds_toArray, List.set_cons_zero, List.set_cons_succ]
        refine wpAnyH_ready (rs := [15]) (by kernel_rfl) (by simp) (AllReadyH.cons rfl (fun K hK => ?_) AllReadyH.nil)
        rw [if_pos (by rfl)]
        refine wpstoreN (n := pgN ns k) (i := J) rfl rfl O5.out (by rw [List.length_set, rvN_len]; omega) ?_
        intro w6 ho6 hbut6
        refine hK.out _ _ trivial (fun hHeld => ?_)
        clear hK K
        have O6 : Hid (OwnN w6 B (.slice (some ⟨g, 0, none⟩) n cap) (rvN ns (k + 1))) := hide (by rw [← rvN_step ns k J hJ hkJ]; exact ho6)
        have BU6 := hide ((BU.out.trans (b := wr) (c := wr.drew) ⟨rfl, rfl, rfl, rfl, fun _ _ => rfl⟩).trans (hbut5.trans hbut6))
        clear ho6 hbut5 hbut6
        refine wpAnyH_done (by kernel_rfl) ?_ _
        clear hHeld
        go_wp2
        go_roundw
        case rel => exact ⟨k + 1, by simp, by have := HN.out; simp; omega, by omega, O6, BU6⟩
        case measure => simp only [intOf]; omega
      · rw [if_pos (by rfl)]
        refine wploadN (i := k) rfl O.out (rvN_lo ns k (by omega)) ?_
        refine hK.out _ _ (trivial) (fun hHeld => ?_)
        clear hK K
        simp only [Act.put, List.setIfInBounds_toArray, List.set_cons_zero, List.set_cons_succ]
        refine wpAnyH_ready (rs := [7]) (by kernel_rfl) (by simp) (AllReadyH.cons rfl (fun K hK => ?_) AllReadyH.nil)
        rw [if_pos (by rfl)]
        refine wploadN (i := J) rfl O.out (rvN_hi ns k J hJ hkJ) ?_
        refine hK.out _ _ (trivial) (fun hHeld => ?_)
        clear hK K
        simp only [Act.put, List.setIfInBounds_toArray, List.set_cons_zero, List.set_cons_succ]
        refine takeH 12 26 (.pointer (some ⟨g, k, none⟩)) hHeld rfl rfl (by kernel_rfl) (by kernel_rfl) (by kernel_rfl) (fun _ _ _ h => h) (Or.inl ⟨by rfl, fun w _ => run_op rfl ((atN g n cap k _ rfl hkn) w)⟩) ?_
        simp only [Act.put, List.setIfInBounds_toArray, List.set_cons_zero, List.set_cons_succ]
        refine wpAnyH_ready (rs := [13]) (by kernel_rfl) (by simp) (AllReadyH.cons rfl (fun K hK => ?_) AllReadyH.nil)
        rw [if_pos (by rfl)]
        refine wpstoreN (n := pgN ns J) (i := k) rfl rfl O.out (by rw [rvN_len]; omega) ?_
        intro w5 ho5 hbut5
        have O5 := hide ho5
        refine hK.out _ _ trivial (fun hHeld => ?_)
        clear hK K ho5
        refine takeH 14 27 (.pointer (some ⟨g, J, none⟩)) hHeld rfl rfl (by kernel_rfl) (by kernel_rfl) (by kernel_rfl) (fun _ _ _ h => h) (Or.inl ⟨by rfl, fun w _ => run_op rfl ((atN g n cap J _ rfl hJn) w)⟩) ?_
        simp only [Act.put, List.setIfInBounds_toArray, List.set_cons_zero, List.set_cons_succ]
        refine wpAnyH_ready (rs := [15]) (by kernel_rfl) (by simp) (AllReadyH.cons rfl (fun K hK => ?_) AllReadyH.nil)
        rw [if_pos (by rfl)]
        refine wpstoreN (n := pgN ns k) (i := J) rfl rfl O5.out (by rw [List.length_set, rvN_len]; omega) ?_
        intro w6 ho6 hbut6
        refine hK.out _ _ trivial (fun hHeld => ?_)
        clear hK K
        have O6 : Hid (OwnN w6 B (.slice (some ⟨g, 0, none⟩) n cap) (rvN ns (k + 1))) := hide (by rw [← rvN_step ns k J hJ hkJ]; exact ho6)
        have BU6 := hide ((BU.out.trans (b := wr) (c := wr.drew) ⟨rfl, rfl, rfl, rfl, fun _ _ => rfl⟩).trans (hbut5.trans hbut6))
        clear ho6 hbut5 hbut6
        refine wpAnyH_done (by kernel_rfl) ?_ _
        clear hHeld
        go_wp2
        go_roundw
        case rel => exact ⟨k + 1, by simp, by have := HN.out; simp; omega, by omega, O6, BU6⟩
        case measure => simp only [intOf]; omega
    · have hc : ¬ ((k : Int) < (n : Int) - 1 - (k : Int)) := by omega
      go_wp2
      refine bodyPost_end (results_none rfl _ _ _) rfl ⟨⟨_, rfl⟩, ?_, BU.out⟩
      rw [← rvN_end ns k (by rw [HN.out]; omega)]
      exact O.out

theorem reverseN_nil (w : World) : Calls Tryz.prog 70 #[.slice none 0 0] w fun r w' => (∃ x, r = .returned x) ∧ w' = w := by
  go_enter Tryz.func70, Tryz.ntmps70
  go_wp2_with fail
  go_loopw [2, 3] (fun s2 s3 wr => s2 = .int .i64 0 ∧ s3 = .int .i64 (-1) ∧ wr = w) (fun _ _ _ => 0)
  case atStart => exact ⟨rfl, rfl, rfl⟩
  case round =>
    obtain ⟨rfl, rfl, rfl⟩ := hrel
    go_wp2
    exact bodyPost_end (results_none rfl _ _ _) rfl ⟨⟨_, rfl⟩, rfl⟩
theorem reverseN_any (B : Nat) (v : Value) (ns : List ByteArray) (w : World) (hn2 : ns.length ≤ 1048576) (hB : B ≤ w.heap.size) (h : OwnN w B v ns) :
    Calls Tryz.prog 70 #[v] w fun r w' => (∃ x, r = .returned x) ∧ OwnN w' B v ns.reverse ∧ Below B w w' := by
  rcases h.lies with ⟨rfl, rfl⟩ | ⟨g, cap, cs, rfl, hg, _⟩
  · refine (reverseN_nil w).mono ?_
    rintro r w' ⟨hr, rfl⟩
    exact ⟨hr, h, Below.refl _ _⟩
  · refine (reverseN_own B g cap ns.length ns w rfl hn2 h).mono ?_
    rintro r w' ⟨hr, ho, hbut⟩
    exact ⟨hr, ho, hbut.below hg⟩

end Go.Proofs.YtpocadbhajacaaaGreatDoor

/-
  A range over a function whose round begins with a variable of its own: what stands ahead of the body is handed to it.
-/
namespace Go.Proofs.YtpocadbhajacaaaGreatDoor
open Go.RowKit Go.Shelf
set_option linter.unusedVariables false

section
variable {F : Fence} {n : Nat} {P : Program}
theorem round_A {m : Nat} {fn : FuncId} {tmps : Array Value} {ps : Array Tmp} {assign body : Code} {D : Nat} (hfn : F.fn fn) {args : Array Value} (hps : args.size = ps.size) {W : World} (hB : Bk (lrec fn tmps ps assign body D .ready none) D W) {Post : Ending → World → Prop}
    (hrun : assign.wpIn (F.inRound (D + 1)) m P (Exit.then (fun a' V => Bk (lrec fn tmps ps assign body D .ready none) D V ∧ body.wpIn (F.inRound (D + 1)) m P (fun e _ W' => match e with
      | .normal => Bk (lrec fn tmps ps assign body D .busy none) D W' ∧ Post (.returned (.bool true)) (W'.putObj (D + 1) (.loop (lrec fn tmps ps assign body D .ready none)))
      | .ret => Bk (lrec fn tmps ps assign body D .busy none) D W' ∧ Post (.returned (.bool false)) (W'.putObj (D + 1) (.loop (lrec fn tmps ps assign body D .done (some .ret))))
      | .exit id => Bk (lrec fn tmps ps assign body D .busy none) D W' ∧ Post (.returned (.bool false)) (W'.putObj (D + 1) (.loop (lrec fn tmps ps assign body D .done (some (.exit id)))))
      | .goto u => Bk (lrec fn tmps ps assign body D .busy none) D W' ∧ Post (.returned (.bool false)) (W'.putObj (D + 1) (.loop (lrec fn tmps ps assign body D .done (some (.goto u)))))
      | _ => False) a' (V.putObj (D + 1) (.loop (lrec fn tmps ps assign body D .busy none)))) (fun _ _ _ => False)) { tmps := (ps.zip args).foldl (fun t (p, v) => t.setIfInBounds p v) tmps, defers := [] } W) :
    YieldAt F m P (D + 1) args W Post := by
  refine ⟨fn, _, assign, body, run_yield (P := P) (args := args) hB.loop hps, roundIn_of_wpIn hfn (wpIn_mono hrun ?_)⟩
  intro e0 a0 V hp0
  cases e0 with
  | normal =>
    obtain ⟨hBV, hbody⟩ := hp0
    refine ⟨_, run_beginRound hBV.loop rfl, wpIn_mono hbody ?_⟩
    intro e a3 W3 hp
    cases e with
    | normal => exact ⟨_, _, run_endRound none hp.1.loop, hp.2⟩
    | ret => exact ⟨_, _, run_endRound (some .ret) hp.1.loop, hp.2⟩
    | exit id => exact ⟨_, _, run_endRound (some (.exit id)) hp.1.loop, hp.2⟩
    | goto u => exact ⟨_, _, run_endRound (some (.goto u)) hp.1.loop, hp.2⟩
    | panic ch => exact hp.elim
    | outgrown => exact hp.elim
  | ret => exact hp0.elim
  | exit id => exact hp0.elim
  | goto u => exact hp0.elim
  | panic ch => exact hp0.elim
  | outgrown => exact hp0.elim
theorem rangeB {α : Type} {g : Operand} {ps : Array Tmp} {assign body : Code} {Q : Exit → Act → World → Prop} {a : Act} {w : World}
    (hro : F.round = none) (h1 : 1 ≤ n) {gf : Nat} {lb : Array Value} (hg : a.eval g = .func (.func gf) #[] lb) (hFg : F.fn gf) (eg : ∀ args w, (callFunc gf args).run P w = .ok (.enter gf args) w)
    {encs : α → Array Value} {R : List α → α → World → World → Prop} {Kp : α → World → World → Prop} {S Sp : List α → Prop} (hseq : SeqL F (n - 1) P gf lb encs R Kp S Sp w)
    (hKt : ∀ {x : α} {A B C : World}, Kp x A B → Kp x B C → Kp x A C) (hKb : ∀ (x : α) (W : World) (l : Nat) (o o' : Obj), w.heap.size ≤ l → W.heap[l]? = some o → o.isCells = false → Kp x W (W.putObj l o')) (hKw : ∀ (x : α) (A C : World), Below A.heap.size A C → Kp x A C) (hps : ∀ x, (encs x).size = ps.size)
    (hR : ∀ pre x W0, OwnFrom w.heap.size (fun (_ : Unit) W => R pre x W0 W))
    (I : List α → World → Prop) (Ix : Code → List α → World → Prop) (hI : OwnFrom w.heap.size I) (hIx : ∀ c, OwnFrom w.heap.size (Ix c)) (h0 : I [] w) (a₁ : α → Nat → Act) (Ab : α → Nat → World → Prop) (hAb : ∀ x g (V : World) (l : Nat) (r : Loop) (o' : Obj), V.heap[l]? = some (.loop r) → Ab x g V → Ab x g (V.putObj l o'))
    (hassign : ∀ (l : Nat) (x : α) (W : World) (K : Act → World → Prop), (∃ pre W0, R pre x W0 W) → (∀ (g : Nat) (V : World), Below W.heap.size W V → W.heap.size ≤ g → Ab x g V → K (a₁ x g) V) →
      assign.wpIn (F.inRound l) (n - 1 - 1) P (Exit.then K (fun _ _ _ => False)) { tmps := (ps.zip (encs x)).foldl (fun t (p, v) => t.setIfInBounds p v) a.tmps, defers := [] } W)
    (hbody : ∀ (l : Nat) (pre : List α) (x : α) (g : Nat) (W0 W : World), W0.heap.size ≤ g → Ab x g W → I pre W0 → (∀ (k : Nat) (o : Obj), W0.heap[k]? = some o → o.isCells = true → W.heap[k]? = some o) → W0.heap.size ≤ W.heap.size → I pre W → R pre x W0 W → body.wpIn (F.inRound l) (n - 1 - 1) P (ownPostG w.heap.size (Kp x) I Ix (pre ++ [x]) W) (a₁ x g) W)
    (hdone : ∀ (D : Nat) (xs : List α) (W : World), w.heap.size ≤ D → S xs → I xs W → W.heap[D]? = some (.deferred (some [])) → Q .normal { a with defers := { target := .collected D, args := #[] } :: a.defers } W)
    (hstop : ∀ (D : Nat) (c : Code) (pre : List α) (W : World), w.heap.size ≤ D → Sp pre → Ix c pre W → W.heap[D]? = some (.deferred (some [])) → c.wpIn F n P Q { a with defers := { target := .collected D, args := #[] } :: a.defers } W) :
    (Code.rangeFunc g ps assign body).wpIn F n P Q a w := by
  refine wpIn_rangeFunc fun fn hfn => ?_
  rw [hro]
  obtain ⟨W1, hW1⟩ : ∃ W1, (w.alloc (.deferred (some []))).alloc (.loop (lrec fn a.tmps ps assign body w.heap.size .ready none)) = W1 := ⟨_, rfl⟩
  have B1 : Bk (lrec fn a.tmps ps assign body w.heap.size .ready none) w.heap.size W1 := by rw [← hW1]; exact Bk.new w _
  have b1 : Below w.heap.size w W1 := by rw [← hW1]; exact ((Below.refl _ w).alloc (Nat.le_refl _) _).alloc (by simp) _
  have s1 : w.heap.size ≤ W1.heap.size := b1.size
  have far : ∀ {A : World} {row : Option Nat}, (∀ r, row = some r → W1.heap.size ≤ r ∧ ∃ o : Obj, A.heap[r]? = some o ∧ o.isCells = false) → ∀ r, row = some r → w.heap.size ≤ r ∧ ∃ o : Obj, A.heap[r]? = some o ∧ o.isCells = false :=
    fun hr r e => by obtain ⟨hb, o, ho, hw⟩ := hr r e; exact ⟨by omega, o, ho, hw⟩
  have z1 : W1.heap.size = w.heap.size + 2 := by rw [← hW1, World.size_alloc, World.size_alloc]
  refine ⟨w.heap.size + 1, [{ target := .collected w.heap.size, args := #[] }], W1, { target := .fn (.func gf) lb, args := #[.func (.yield (w.heap.size + 1)) #[] #[]] }, W1, gf,
    #[.func (.yield (w.heap.size + 1)) #[] #[]] ++ lb, W1, by rw [← hW1]; exact run_enterLoop_outer _ _ _ _ _, by simp only [resolve, hg]; simp [go_sem], fun f' hf' => by simp [Target.leads] at hf'; subst hf'; exact hFg, by simp [invoke, go_sem, eg], fun _ => h1, ?_⟩
  refine (hseq (w.heap.size + 1) (fun pre W => I pre W ∧ Bk (lrec fn a.tmps ps assign body w.heap.size .ready none) w.heap.size W) (fun pre W => ∃ c, Ix c pre W ∧ Bk (lrec fn a.tmps ps assign body w.heap.size .done (some c)) w.heap.size W) W1 b1
    (fun s A B row hs hg' hr => ⟨hI s A B row hs.1 hg' (far hr), hs.2.own hg' (fun q e => by have := (hr q e).1; omega)⟩)
    (fun s A B row hs hg' hr => by obtain ⟨c, hc, hb⟩ := hs; exact ⟨c, hIx c s A B row hc hg' (far hr), hb.own hg' (fun q e => by have := (hr q e).1; omega)⟩) ?_
    ⟨by rw [← hW1]; exact hI.alloc _ (hI.alloc _ h0), B1⟩).mono ?_
  · rintro pre x W0 W ⟨hi0, hB0⟩ hb0 ⟨hi, hB⟩ hr
    refine round_A hfn (hps x) hB (hassign _ x W _ ⟨pre, W0, hr⟩ (fun g V hbV hgW hab => ?_))
    have hgV : W.grownBy V none := ⟨hbV.os, hbV.tape, hbV.output, hbV.size, fun i hi _ => hbV.block i hi⟩
    have hBV := hB.own hgV (fun q e => by cases e)
    have hiV := hI _ W V none hi hgV (fun q e => by cases e)
    have hrV := hR pre x W0 () W V none hr hgV (fun q e => by cases e)
    have hsV : W.heap.size ≤ V.heap.size := hbV.size
    refine ⟨hBV, ?_⟩
    have hB2 := hBV.put (lrec fn a.tmps ps assign body w.heap.size .busy none)
    have hK2 : Kp x W (V.putObj (w.heap.size + 1) (.loop (lrec fn a.tmps ps assign body w.heap.size .busy none))) := hKt (hKw x W V hbV) (hKb x _ _ _ _ (by omega) hBV.loop rfl)
    refine wpIn_mono (hbody _ pre x g W0 _ (Nat.le_trans hb0.size hgW) (hAb x g V _ _ _ hBV.loop hab) hi0 (fun k o ho hc => ?_) (Nat.le_trans hb0.size (Nat.le_trans hsV (grownBy_putObj' V _ _).size)) (hI.putObj _ hiV (by omega) hBV.loop rfl) ((hR pre x W0).putObj (s := ()) _ hrV (by omega) hBV.loop rfl)) ?_
    · have hk0 : W.heap[k]? = some o := (hb0.block k (Array.getElem?_eq_some_iff.1 ho).1).trans ho
      have hk : V.heap[k]? = some o := (hbV.block k (Array.getElem?_eq_some_iff.1 hk0).1).trans hk0
      rw [World.putObj_heap_other (fun e => by
        subst e
        rw [hBV.loop] at hk
        injection hk with hk
        subst hk
        cases hc)]
      exact hk
    have hmk : ∀ {W3 : World} {r2 : Loop} {o' : Obj}, KeepsFrom w.heap.size (V.putObj (w.heap.size + 1) (.loop (lrec fn a.tmps ps assign body w.heap.size .busy none))) W3 → W3.heap[w.heap.size + 1]? = some (.loop r2) → MarksFrom w.heap.size W (W3.putObj (w.heap.size + 1) o') := fun h1 h2 k hB hq => marks_round hBV.loop h1 h2 k hB ((hbV.block k (Array.getElem?_eq_some_iff.1 hq).1).trans hq)
    intro e a3 W3 hp
    cases e with
    | normal =>
      have hB3 := hB2.keep hp.1
      exact ⟨hB3, .inl ⟨rfl, ⟨hI.putObj _ hp.2.2 (by omega) hB3.loop rfl, hB3.put _⟩, hKt hK2 (hKt hp.2.1 (hKb x _ _ _ _ (by omega) hB3.loop rfl)), hmk hp.1 hB3.loop⟩⟩
    | ret =>
      have hB3 := hB2.keep hp.1
      exact ⟨hB3, .inr ⟨rfl, ⟨.ret, (hIx _).putObj _ hp.2 (by omega) hB3.loop rfl, hB3.put _⟩, hmk hp.1 hB3.loop⟩⟩
    | exit id =>
      have hB3 := hB2.keep hp.1
      exact ⟨hB3, .inr ⟨rfl, ⟨.exit id, (hIx _).putObj _ hp.2 (by omega) hB3.loop rfl, hB3.put _⟩, hmk hp.1 hB3.loop⟩⟩
    | goto u =>
      have hB3 := hB2.keep hp.1
      exact ⟨hB3, .inr ⟨rfl, ⟨.goto u, (hIx _).putObj _ hp.2 (by omega) hB3.loop rfl, hB3.put _⟩, hmk hp.1 hB3.loop⟩⟩
    | panic ch => exact hp.elim
    | outgrown => exact hp.elim
  · rintro e W2 ⟨⟨v, rfl⟩, (⟨xs, hS, hi, hB⟩ | ⟨pre, hSp, c, hi, hB⟩)⟩
    · exact ⟨none, _, run_endLoop (P := P) hB.loop (by simp [lrec]), hdone _ xs _ (Nat.le_refl _) hS (hI.putObj _ hi (by omega) hB.loop rfl) ((World.putObj_heap_other (by omega)).trans hB.mark)⟩
    · exact ⟨some c, _, run_endLoop (P := P) hB.loop (by simp [lrec]), hstop _ c pre _ (Nat.le_refl _) hSp ((hIx c).putObj _ hi (by omega) hB.loop rfl) ((World.putObj_heap_other (by omega)).trans hB.mark)⟩
end

end Go.Proofs.YtpocadbhajacaaaGreatDoor

/-
  The files of a height behind a leaf: behind.
-/
namespace Go.Proofs.YtpocadbhajacaaaGreatDoor
open Go.RowKit Go.Shelf
set_option linter.unusedVariables false
set_option linter.unusedSimpArgs false
set_option maxRecDepth 100000

/-- Is it the name of a file of this height, all leaves of which are from n on? -/
def BhB (H n : Nat) (x : ByteArray) : Bool := (List.range 1048576).any fun q => decide (q * 2 ^ H < 1048576) && decide (n ≤ q * 2 ^ H) && decide (x = lfN H q)
theorem BhB_iff {H n : Nat} {x : ByteArray} : BhB H n x = true ↔ ∃ q, q * 2 ^ H < 1048576 ∧ n ≤ q * 2 ^ H ∧ x = lfN H q := by
  unfold BhB
  rw [List.any_eq_true]
  constructor
  · rintro ⟨q, _, h⟩
    simp only [Bool.and_eq_true, decide_eq_true_eq] at h
    exact ⟨q, h.1.1, h.1.2, h.2⟩
  · rintro ⟨q, h1, h2, h3⟩
    exact ⟨q, List.mem_range.2 (lfq_le h1), by simp [h1, h2, h3]⟩
def bhL (H n : Nat) (ns : List ByteArray) : List ByteArray := ns.filter (BhB H n)
theorem bhL_app (H n : Nat) (ns : List ByteArray) (x : ByteArray) : bhL H n (ns ++ [x]) = bhL H n ns ++ (if BhB H n x = true then [x] else []) := by
  unfold bhL
  rw [List.filter_append]
  generalize BhB H n = f
  cases h : f x <;> simp [List.filter, h]
theorem bhL_le (H n : Nat) (ns : List ByteArray) : (bhL H n ns).length ≤ ns.length := List.length_filter_le _ _
section
variable {F : Fence} {n : Nat} {dst : Option Tmp} {ty : TypeId} {pos : String} {aft : Array Edge} {gd : Option (Nat × Bool)} {ops : Array Oper} {rest : List Oper} {a : Act} {w : World} {Q : Exit → Act → World → Prop}
theorem istep_oneN (hF : WideF F) {x : Operand} {s : ByteArray} (hw : Region.wanted ⟨dst, .buildSlice 74 1 #[(0, x)], ty, pos, aft, gd⟩ (yielded ops a.tmps) = true) (hx : a.eval x = .string s)
    (h : ∀ w1 g, Blk w1 g 9 (nC [s]) → w.heap.size ≤ g → Below w.heap.size w w1 → wpListIn F n Tryz.prog ops Q rest (a.put dst (.slice (some ⟨g, 0, none⟩) 1 1)) w1) :
    wpListIn F n Tryz.prog ops Q (⟨dst, .buildSlice 74 1 #[(0, x)], ty, pos, aft, gd⟩ :: rest) a w :=
  istep hF (fun c => by simp) hw fun K hK => wponeN hx fun w1 g h1 h2 h3 => hK _ _ (h w1 g h1 h2 h3)
theorem istep_appN (hF : WideF F) {s x : Operand} {B : Nat} {v : Value} {ns : List ByteArray} {m : ByteArray} {g c : Nat} (hw : Region.wanted ⟨dst, .call { callee := .builtin .append, args := #[s, x], argTypes := #[74, 74] }, ty, pos, aft, gd⟩ (yielded ops a.tmps) = true)
    (hs : a.eval s = v) (hx : a.eval x = .slice (some ⟨g, 0, none⟩) 1 c) (hown : OwnN w B v ns) (hy : Blk w g 9 (nC [m])) (hlen : ns.length ≤ 1048576) (hB : B ≤ w.heap.size)
    (h : ∀ v' w', OwnN w' B v' (ns ++ [m]) → w.grownBy w' v.ownBlock → (∀ k, v'.ownBlock = some k → v.ownBlock = some k ∨ w.heap.size ≤ k) → wpListIn F n Tryz.prog ops Q rest (a.put dst v') w') :
    wpListIn F n Tryz.prog ops Q (⟨dst, .call { callee := .builtin .append, args := #[s, x], argTypes := #[74, 74] }, ty, pos, aft, gd⟩ :: rest) a w :=
  istep hF (fun c => by simp) hw fun K hK => wpappN hs hx hown hy hlen hB fun v' w' h1 h2 h3 => hK _ _ (h v' w' h1 h2 h3)
end
theorem reverseN_all (B : Nat) (v : Value) (ns : List ByteArray) (w : World) (hn2 : ns.length ≤ 1048576) (hB : B ≤ w.heap.size) (h : OwnN w B v ns) :
    Calls Tryz.prog 70 #[v] w fun r w' => (∃ x, r = .returned x) ∧ OwnN w' B v ns.reverse ∧ Below B w w' ∧ KeepsOthers w w' := by
  rcases h.lies with ⟨rfl, rfl⟩ | ⟨g, cap, cs, rfl, hg, hb, _⟩
  · refine (reverseN_nil w).mono ?_
    rintro r w' ⟨hr, rfl⟩
    exact ⟨hr, h, Below.refl _ _, KeepsOthers.refl _⟩
  · refine (reverseN_own B g cap ns.length ns w rfl hn2 h).mono ?_
    rintro r w' ⟨hr, ho, hbut⟩
    exact ⟨hr, ho, hbut.below hg, keepsO_but hbut hb⟩
theorem rowB_mono {w : World} {B B' : Nat} {e : TypeId} {q n : Nat} {v : Value} {xs : List Value} (h : w.ownsRow B e q v n xs) (hb : B' ≤ B) : w.ownsRow B' e q v n xs := by
  obtain ⟨h1, h2⟩ := h
  refine ⟨h1, ?_⟩
  rcases h2 with h2 | ⟨g, cap, cur, rfl, hg, h3⟩
  · exact .inl h2
  · exact .inr ⟨g, cap, cur, rfl, Nat.le_trans hb hg, h3⟩
/-- What stands while names are looked through. -/
structure FJ (w W : World) (Z b4 b5 b7 : Nat) (fv : Value) (ns : List ByteArray) (H n : Nat) : Prop where
  c4 : Blk W b4 3 [.int .i64 (H : Int)]
  c5 : Blk W b5 3 [.int .i64 (n : Int)]
  c7 : Blk W b7 74 [fv]
  own : OwnN W Z fv ns
  l7 : w.heap.size ≤ b7 ∧ b7 < Z ∧ b7 ≠ b4 ∧ b7 ≠ b5
  bel : Below w.heap.size w W
  sz : Z ≤ W.heap.size
section
variable {w W W' : World} {Z b4 b5 b7 : Nat} {fv : Value} {ns : List ByteArray} {H n : Nat}
theorem OwnN.ck {W W' : World} {B : Nat} {v : Value} {ns : List ByteArray} (h : OwnN W B v ns) (hk : CK W W') : OwnN W' B v ns := row_same h (fun k e => by
  obtain ⟨cs, hc⟩ := row_lies h e
  exact (hc.ck hk).trans hc.symm)
theorem FJ.ck (h : FJ w W Z b4 b5 b7 fv ns H n) (hk : CK W W') (hb : Below w.heap.size w W') : FJ w W' Z b4 b5 b7 fv ns H n := ⟨h.c4.ck hk, h.c5.ck hk, h.c7.ck hk, h.own.ck hk, h.l7, hb, Nat.le_trans h.sz hk.size⟩
theorem FJ.on (h : FJ w W Z b4 b5 b7 fv ns H n) (hb : Below W.heap.size W W') : FJ w W' Z b4 b5 b7 fv ns H n := h.ck (CK.below hb) (on_below h.bel hb)
end
set_option maxHeartbeats 4000000 in
theorem behindB_any (d s : Nat) (rs : List Rw) (D : Dm) (ls : List (ByteArray × List Int)) (H n : Nat) (w : World) (hd : DkAt w d s rs D) (hl : FL (play rs) ls) (hh : hB H) (hn : n ≤ 1048576) (he : EV w) (hwt : wt rs ≤ 1099511000000) (hls : ls.length ≤ 1000000) :
    Calls Tryz.prog 39 #[.pointer (some ⟨d, 0, none⟩), .int .i64 (H : Int), .int .i64 (n : Int)] w fun e w' => ∃ v, e = .returned v ∧ OwnN w' w.heap.size v (bhL H n (ls.map (·.1))).reverse ∧ Below w.heap.size w w' := by
  have HD := hide hd
  have HL := hide hl
  have HE := hide he
  have HW := hide hwt
  have HLS := hide hls
  have HHH := hide hh
  have hH8 : (H : Int) ≤ 8 := by have := hh.2; omega
  clear hd hl he hwt hls
  refine (callsIn_wide (n := 7)).1 ?_
  refine callsIn_of_wp_marks Tryz.func39 rfl trivial ?_ rfl
  refine wpIn_wide.2 ?_
  simp only [Tryz.ntmps39, List.size_toArray, List.length_cons, List.length_nil, Nat.reduceAdd, Nat.reduceSub, Array.replicate_succ, Array.replicate_zero, List.push_toArray, List.append_toArray, List.nil_append, List.cons_append]
  go_wp2_with fail
  have hnew : ∃ W, W = ((w.alloc (.cells #[.int .i64 (H : Int)] 3)).alloc (.cells #[.int .i64 (n : Int)] 3)).alloc (.cells #[.slice none 0 0] 74) ∧
      Blk W w.heap.size 3 [.int .i64 (H : Int)] ∧ Blk W (w.heap.size + 1) 3 [.int .i64 (n : Int)] ∧ Blk W (w.heap.size + 1 + 1) 74 [.slice none 0 0] ∧ Below w.heap.size w W := by
    refine ⟨_, rfl, ?_⟩
    have b1 : Below w.heap.size w (w.alloc (.cells #[.int .i64 (H : Int)] 3)) := (Below.refl _ _).alloc (Nat.le_refl _) _
    have B1 : Blk (w.alloc (.cells #[.int .i64 (H : Int)] 3)) w.heap.size 3 [.int .i64 (H : Int)] := Blk.made _ _ _
    have z1 : (w.alloc (.cells #[.int .i64 (H : Int)] 3)).heap.size = w.heap.size + 1 := World.size_alloc _ _
    generalize w.alloc (.cells #[.int .i64 (H : Int)] 3) = W1 at *
    have b2 : Below W1.heap.size W1 (W1.alloc (.cells #[.int .i64 (n : Int)] 3)) := (Below.refl _ _).alloc (Nat.le_refl _) _
    have B2 : Blk (W1.alloc (.cells #[.int .i64 (n : Int)] 3)) W1.heap.size 3 [.int .i64 (n : Int)] := Blk.made _ _ _
    have z2 : (W1.alloc (.cells #[.int .i64 (n : Int)] 3)).heap.size = W1.heap.size + 1 := World.size_alloc _ _
    generalize W1.alloc (.cells #[.int .i64 (n : Int)] 3) = W2 at *
    have b3 : Below W2.heap.size W2 (W2.alloc (.cells #[.slice none 0 0] 74)) := (Below.refl _ _).alloc (Nat.le_refl _) _
    have B3 : Blk (W2.alloc (.cells #[.slice none 0 0] 74)) W2.heap.size 74 [.slice none 0 0] := Blk.made _ _ _
    rw [z1] at B2 z2
    rw [z2] at B3
    exact ⟨(B1.on b2).on b3, B2.on b3, B3, on_below (on_below b1 b2) b3⟩
  obtain ⟨W4, hW4, B4, B5, B7, hbl⟩ := hnew
  rw [← hW4]
  have HB4 := hide B4
  have HB5 := hide B5
  have HB7 := hide B7
  have HBL := hide hbl
  clear hW4 B4 B5 B7 hbl
  obtain ⟨b4, hb4⟩ : ∃ b, w.heap.size = b := ⟨_, rfl⟩
  obtain ⟨b5, hb5⟩ : ∃ b, w.heap.size + 1 = b := ⟨_, rfl⟩
  obtain ⟨b7, hb7⟩ : ∃ b, w.heap.size + 1 + 1 = b := ⟨_, rfl⟩
  have hne : w.heap.size ≤ b7 ∧ b7 ≠ b4 ∧ b7 ≠ b5 := by omega
  rw [hb7] at HB7 ⊢
  rw [hb5] at HB5 ⊢
  rw [hb4] at HB4
  rw [hb4]
  have hb4' := hide hb4
  clear hb4 hb5 hb7
  refine (dlist_any _ _).mono ?_
  rintro r w5 ⟨bx, rfl, BX, hbx⟩
  have HF0 : Hid (∀ V, Below w5.heap.size w5 V → FJ w V V.heap.size b4 b5 b7 (.slice none 0 0) [] H n) := hide (fun V hV => by
    have c7 := (HB7.out.on hbx).on hV
    exact ⟨(HB4.out.on hbx).on hV, (HB5.out.on hbx).on hV, c7, OwnN.nil _ _, ⟨hne.1, c7.lt, hne.2.1, hne.2.2⟩, on_below (on_below HBL.out hbx) hV, Nat.le_refl _⟩)
  have hs5 : w.heap.size ≤ w5.heap.size := (on_below HBL.out hbx).size
  have HSQ := hide (list_seqZ bx d s rs D HL.out HW.out w5 BX (HD.out.below (on_below HBL.out hbx)))
  clear BX hbx
  go_wp2_with fail
  refine (wpIn_wide (n := 7)).1 ?_
  refine rangeZ rfl (by decide) (gf := 79) (lb := #[.pointer (some ⟨bx, 0, none⟩)]) rfl trivial (enters_of Tryz.func79 (by kernel_rfl) rfl)
    HSQ.out KZ.trans (fun Z W l o o' hl h hc => KZ.book Z W l o o' h hc) (fun _ => rfl) (fun pre x => rl_ownS _ _ pre x)
    (fun Z pre W => ∃ fv, FJ w W Z b4 b5 b7 fv (bhL H n pre) H n) (fun _ _ _ _ => False)
    (fun Z _ A C row h hg hr => by
      obtain ⟨fv, hf⟩ := h
      exact ⟨fv, hf.ck (CK.of_grown hg (fun r e => (hr r e).2)) (hf.bel.grown hg hf.bel.size (fun r e => by have h1 := (hr r e).1; omega))⟩) (fun Z c _ A C row h hg hr => h) (fun V hV => ⟨_, HF0.out V hV⟩) ?act ?assign ?body ?done ?stop
  case assign =>
    rintro l x W K hK
    have hsem := Oper.semAt_some
    gi_wp2
    exact hK
  case stop =>
    rintro Z D c pre W hD hSp hF2 hK2
    exact hF2.elim
  case body =>
    rintro Z l pre x W hZ ⟨fv, hf⟩ hR
    have hsem := Oper.semAt_some
    have HF := hide hf
    have hxs : x.size ≤ 128 := by
      obtain ⟨_, ys, h2⟩ := hR
      have hx1 : nmB x = true := by
        cases hb : nmB x with
        | true => rfl
        | false =>
          have h3 := (HL.out.mem x ys).2 (List.mem_of_getElem? h2)
          rw [Nmd.play HD.out.valS x hb] at h3
          cases h3
      simp [nmB] at hx1
      omega
    have HFEW : Hid ((bhL H n pre).length ≤ 1048576) := hide (by
      have h1 := bhL_le H n pre
      have h5 := HLS.out
      obtain ⟨_, ys, h2⟩ := hR
      have := (List.getElem?_eq_some_iff.1 h2).1
      omega)
    obtain ⟨ss, hss⟩ : ∃ s : List UInt8, x = bA s := ⟨x.data.toList, by apply ByteArray.ext; simp [bA]⟩
    subst hss
    rw [bA_size] at hxs
    have HCALL := hide (firstLeaf_any H ss W HHH.out hxs (HE.out.below hf.bel))
    have c4 : W.cell? ⟨b4, 0, none⟩ = some (.int .i64 (H : Int)) := by rw [hf.c4.cell]; rfl
    have HAPP := hide (bhL_app H n pre (bA ss))
    clear hf hR
    gi_wp2_with fail
    refine ⟨trivial, (calls_round (WideF.round l) HCALL.out).mono ?_⟩
    rintro _ V ⟨idx, ok, rfl, hfl, hbV⟩
    have HFV := hide (HF.out.on hbV)
    have HOV := hide (keepsO_below hbV)
    have HSV : Hid (KZ Z W V) := hide (KZ.below hbV)
    clear hbV HCALL c4 HF
    have c5 : V.cell? ⟨b5, 0, none⟩ = some (.int .i64 (n : Int)) := by rw [HFV.out.c5.cell]; rfl
    rcases hfl with ⟨rfl, q, hq1, hq2, rfl⟩ | ⟨rfl, hno⟩
    · by_cases hqn : n ≤ q * 2 ^ H
      · have hB : BhB H n (bA ss) = true := BhB_iff.2 ⟨q, hq1, hqn, hq2⟩
        have hAPP := HAPP.out
        rw [if_pos hB] at hAPP
        have HA2 := hide hAPP
        obtain ⟨Q, HQ⟩ : ∃ Q, Hid (q * 2 ^ H = Q) := ⟨_, hide rfl⟩
        have hqi : (n : Int) ≤ (Q : Int) := by have := HQ.out; omega
        rw [HQ.out]
        have c7 : V.cell? ⟨b7, 0, none⟩ = some fv := by rw [HFV.out.c7.cell]; rfl
        clear hq1 hq2 hqn hB hAPP HAPP
        gi_wp2_with (refine istep_oneN (.round l) rfl rfl ?_)
        intro V1 g11 hg11 hle11 hb11
        have HF1 := hide (HFV.out.on hb11)
        have HG1 := hide hg11
        have HO1 := hide (HOV.out.trans (keepsO_below hb11))
        have HS1 : Hid (KZ Z W V1) := hide (HSV.out.trans (KZ.below hb11))
        clear hg11 hle11 hb11
        gi_wp2_with (refine istep_appN (.round l) rfl rfl rfl HF1.out.own HG1.out HFEW.out HF1.out.sz ?_)
        intro fv2 V2 hown2 hgr2 _
        obtain ⟨fa, fc, hfv2⟩ := OwnN.slice hown2
        have hll : ((bhL H n pre) ++ [bA ss]).length = (bhL H n pre).length + 1 := by simp
        rw [hll] at hfv2
        subst hfv2
        clear hll
        have hfB : ∀ k, fv.ownBlock = some k → Z ≤ k ∧ ∃ cs, Blk V1 k 9 cs := fun k hk => ⟨row_ge HF1.out.own hk, row_lies HF1.out.own hk⟩
        have l7 := HF1.out.l7
        have k7 : Blk V2 b7 74 [fv] := HF1.out.c7.same (hgr2.block b7 HF1.out.c7.lt (fun e => by have := (hfB b7 e.symm).1; omega))
        have k4 : Blk V2 b4 3 [.int .i64 (H : Int)] := HF1.out.c4.same (hgr2.block b4 HF1.out.c4.lt (fun e => by
          obtain ⟨_, cs, hc⟩ := hfB b4 e.symm
          exact hc.apart HF1.out.c4 (by decide) rfl))
        have k5 : Blk V2 b5 3 [.int .i64 (n : Int)] := HF1.out.c5.same (hgr2.block b5 HF1.out.c5.lt (fun e => by
          obtain ⟨_, cs, hc⟩ := hfB b5 e.symm
          exact hc.apart HF1.out.c5 (by decide) rfl))
        have f7 := k7.free 0
        have d7 : V2.cell? ⟨b7, 0, none⟩ = some fv := by rw [k7.cell]; rfl
        have HK7 := hide k7
        have HK4 := hide k4
        have HK5 := hide k5
        have HGR := hide hgr2
        have HOW := hide hown2
        have HFB := hide hfB
        clear k7 k4 k5 hgr2 hown2 hfB c7 c5
        gi_wp2
        have hbut := But.setCell V2 b7 0 (.slice fa ((bhL H n pre).length + 1) fc)
        refine ⟨((HO1.out.trans (keepsO_grown HGR.out (fun g e => by
          obtain ⟨_, cs, hc⟩ := HFB.out g e
          exact ⟨_, cs, hc⟩))).trans (keepsO_but hbut HK7.out)).from _, (HS1.out.trans (KZ.grown HGR.out (fun g e => (HFB.out g e).1))).trans (KZ.but hbut HK7.out (by decide)), .slice fa ((bhL H n pre).length + 1) fc, ?_⟩
        rw [HA2.out]
        have hlt : ∀ k, (Value.slice fa ((bhL H n pre).length + 1) fc).ownBlock = some k → Z ≤ k := fun k hk => row_ge HOW.out hk
        exact ⟨HK4.out.but hbut (fun e => l7.2.2.1 e.symm), HK5.out.but hbut (fun e => l7.2.2.2 e.symm), HK7.out.set 0 _, row_same HOW.out (fun k hk => hbut.block k (by have := hlt k hk; omega)), l7, (HF1.out.bel.grown HGR.out HF1.out.bel.size (fun r e => by have := (HFB.out r e).1; omega)).trans (hbut.below l7.1), by rw [hbut.size]; have := HGR.out.size; have := HF1.out.sz; omega⟩
      · have hB : ¬ BhB H n (bA ss) = true := fun h => by
          obtain ⟨q', h1, h2, h3⟩ := BhB_iff.1 h
          rw [hq2] at h3
          have := (lfN_inj HHH.out HHH.out h3).2
          subst this
          exact hqn h2
        have hAPP := HAPP.out
        rw [if_neg hB, List.append_nil] at hAPP
        have HA2 := hide hAPP
        obtain ⟨Q, HQ⟩ : ∃ Q, Hid (q * 2 ^ H = Q) := ⟨_, hide rfl⟩
        have hqi : ¬ (n : Int) ≤ (Q : Int) := by have := HQ.out; omega
        rw [HQ.out]
        clear hq1 hq2 hqn hB hAPP HAPP
        gi_wp2
        exact ⟨HOV.out.from _, HSV.out, _, by rw [HA2.out]; exact HFV.out⟩
    · have hB : ¬ BhB H n (bA ss) = true := fun h => by
        obtain ⟨q', h1, h2, h3⟩ := BhB_iff.1 h
        exact hno q' h1 h3
      have hAPP := HAPP.out
      rw [if_neg hB, List.append_nil] at hAPP
      have HA2 := hide hAPP
      clear hno hB hAPP HAPP
      gi_wp2
      exact ⟨HOV.out.from _, HSV.out, _, by rw [HA2.out]; exact HFV.out⟩
  case done =>
    rintro Z Dk ys W hD hS ⟨fv, hf⟩ hK
    subst hS
    have c7 : W.cell? ⟨b7, 0, none⟩ = some fv := by rw [hf.c7.cell]; rfl
    have HF := hide hf
    have HK := hide hK
    have HFEW : Hid ((bhL H n (ls.map (·.1))).length ≤ 1048576) := hide (by
      have h1 := bhL_le H n (ls.map (·.1))
      have h5 := HLS.out
      rw [List.length_map] at h1
      omega)
    obtain ⟨ns, HNS⟩ : ∃ ns, Hid (bhL H n (ls.map (·.1)) = ns) := ⟨_, hide rfl⟩
    rw [HNS.out] at HF HFEW
    clear hf hK
    go_wp2_with fail
    refine (reverseN_all Z fv ns W HFEW.out HF.out.sz HF.out.own).mono ?_
    rintro r W2 ⟨⟨rv, rfl⟩, hown, hbw, hko⟩
    have k7 : Blk W2 b7 74 [fv] := HF.out.c7.same (hbw.block b7 HF.out.l7.2.1)
    have c7' : W2.cell? ⟨b7, 0, none⟩ = some fv := by rw [k7.cell]; rfl
    have hk2 := hko.same Dk _ HK.out rfl
    have HK2 := hide hk2
    have HOW := hide hown
    have HB2 := hide (HF.out.bel.trans (hbw.mono (show w.heap.size ≤ Z by have := HF.out.l7; omega)))
    have hwD : w.heap.size ≤ Dk := by omega
    have hwZ : w.heap.size ≤ Z := by have := HF.out.l7; omega
    clear hk2 hown hbw hko
    go_wp2
    refine ⟨by simp, .inl ⟨_, _, rfl, run_takeDeferred HK2.out, ?_⟩⟩
    refine ⟨fv, by simp [results, Tryz.f39, go_sem], ?_⟩
    refine ⟨fv, rfl, ?_, HB2.out.trans (belowK_b (w := w) (Nat.le_refl _) _ Dk _ (.deferred none) hwD HK2.out rfl rfl)⟩
    rw [HNS.out]
    exact rowB_mono (OwnN.ck HOW.out (CK.put (.deferred none) HK2.out rfl)) hwZ

end Go.Proofs.YtpocadbhajacaaaGreatDoor

/-
  Laws on slices of bytes for the seats of frame; octet's and the document's numbers, put and read; spoil and names of the law.
-/
namespace Go.Proofs.YtpocadbhajacaaaGreatDoor
open Go.RowKit
set_option linter.unusedVariables false
set_option maxRecDepth 100000

theorem sizeBF (w : World) : (sizeOf 5).run Tryz.prog w = .ok 1 w := by kernel_rfl
theorem und22F : Tryz.prog.underlying 31 = some (.slice (Tryz.prog.elem 31)) := by kernel_rfl
theorem elem22F : Tryz.prog.elem 31 = 5 := by kernel_rfl
/-- b[k:] -/
theorem slice_from {w : World} {a : Option Addr} {len cap : Nat} {xs : List Int} (h : Sl w a len cap xs) (k : Nat) (K : Int) (hK : K = (k : Int)) (hk : k ≤ len) :
    ∃ a', (∀ v : World, (Instr.slice 31 (.slice a len cap) (some (.int .i64 K)) none none).run Tryz.prog v = .ok (.slice a' (len - k) (cap - k)) v) ∧ Sl w a' (len - k) (cap - k) (xs.drop k) ∧ (∀ g, (0 < len → Apart g a) → 0 < len - k → Apart g a') := by
  subst hK
  have hrun : ∀ v : World, (Instr.slice 31 (.slice a len cap) (some (.int .i64 k)) none none).run Tryz.prog v = .ok (sliced a k len cap 1) v := fun v => by
    rw [run_slice_l v _ _ _ _ und22F .i64 k (by omega) (by omega), elem22F, sizeBF]
    simp
  obtain ⟨h1, h2, h3, h4, h5, h6, h7⟩ := h
  by_cases hc : k < cap
  · cases a with
    | none => have := h6 rfl; omega
    | some ad =>
      have es : sliced (some ad) k len cap 1 = .slice (some (ad.add k)) (len - k) (cap - k) := by
        simp only [sliced, Nat.mul_one]
        have : ¬ (cap = k) := by omega
        simp [this]
      refine ⟨some (ad.add k), fun v => by rw [hrun v, es], ?_, ?_⟩
      · refine ⟨by simp [h1], by omega, by omega, by omega, h5.drop k, (fun e => by cases e), fun h0 => ?_⟩
        obtain ⟨b, o, e, hce⟩ := h7 (by omega)
        cases e
        refine ⟨b, o + k, by rw [Addr.add_lit], fun i hi => ?_⟩
        rw [show o + k + i = o + (k + i) by omega, hce (k + i) (by omega)]
        simp [List.getD, List.getElem?_drop]
      · intro g ha h0 x hx
        cases hx
        have := ha (by omega) ad rfl
        unfold Addr.add
        split <;> exact this
  · obtain rfl : k = cap := by omega
    obtain rfl : len = k := by omega
    have es : sliced a len len len 1 = .slice a (len - len) (len - len) := by
      cases a <;> simp [sliced]
    refine ⟨a, fun v => by rw [hrun v, es], ?_, ?_⟩
    · rw [Nat.sub_self]
      exact ⟨by simp [h1], Nat.le_refl _, by omega, by omega, h5.drop _, fun _ => ⟨rfl, rfl⟩, fun h => absurd h (by omega)⟩
    · intro g _ h0
      omega
/-- Another world: of what was there only block g has turned. -/
structure Chg (g : Nat) (w w' : World) : Prop where
  os : w'.os = w.os
  tape : w'.tape = w.tape
  output : w'.output = w.output
  size : w.heap.size ≤ w'.heap.size
  block : ∀ k, k < w.heap.size → k ≠ g → w'.heap[k]? = w.heap[k]?
theorem Chg.refl (g : Nat) (w : World) : Chg g w w := ⟨rfl, rfl, rfl, Nat.le_refl _, fun _ _ _ => rfl⟩
theorem Chg.trans {g : Nat} {a b c : World} (h : Chg g a b) (k : Chg g b c) : Chg g a c :=
  ⟨k.os.trans h.os, k.tape.trans h.tape, k.output.trans h.output, Nat.le_trans h.size k.size, fun i hi hg => (k.block i (Nat.lt_of_lt_of_le hi h.size) hg).trans (h.block i hi hg)⟩
theorem Chg.of_but {g : Nat} {w w' : World} (h : But g w w') : Chg g w w' := ⟨h.os, h.tape, h.output, Nat.le_of_eq h.size.symm, fun k _ hk => h.block k hk⟩
theorem Chg.of_below {g : Nat} {w w' : World} (h : Below w.heap.size w w') : Chg g w w' := ⟨h.os, h.tape, h.output, h.size, fun k hk _ => h.block k hk⟩
theorem Chg.below {g B : Nat} {w w' : World} (h : Chg g w w') (hg : B ≤ g) (hB : B ≤ w.heap.size) : Below B w w' := ⟨h.os, h.tape, h.output, h.size, fun k hk => h.block k (by omega) (by omega)⟩
theorem Blk.chg {g k : Nat} {w w' : World} {t : TypeId} {cs : List Value} (h : Blk w k t cs) (hc : Chg g w w') (hk : k ≠ g) : Blk w' k t cs := by
  unfold Blk; rw [hc.block k h.lt hk]; exact h
theorem Sl.chg {g : Nat} {w w' : World} {a : Option Addr} {len cap : Nat} {xs : List Int} (h : Sl w a len cap xs) (hc : Chg g w w') (hk : 0 < len → Apart g a) : Sl w' a len cap xs := by
  obtain ⟨h1, h2, h3, h4, h5, h6, h7⟩ := h
  refine ⟨h1, h2, h3, h4, h5, h6, fun h => ?_⟩
  obtain ⟨b, off, e, hce⟩ := h7 h
  refine ⟨b, off, e, fun i hi => ?_⟩
  rw [World.cell?_of_block (w := w) (hc.block b (World.block_lt_of_cell? w _ (hce i hi)) (hk h ⟨b, off, none⟩ e))]
  exact hce i hi
/-- How long a slice is. -/
def lenOf : Value → Nat
  | .slice _ n _ => n
  | _ => 0
theorem chg_drew (g : Nat) (w : World) : Chg g w w.drew := ⟨rfl, rfl, rfl, Nat.le_refl _, fun _ _ _ => rfl⟩
theorem sl_from (g n cap k : Nat) (K : Int) (hK : K = (k : Int)) (hk : k ≤ n) (hc : n ≤ cap) : ∃ a', (∀ v : World, (Instr.slice 31 (.slice (some ⟨g, 0, none⟩) n cap) (some (.int .i64 K)) none none).run Tryz.prog v = .ok (.slice a' (n - k) (cap - k)) v) ∧
    (∀ (w' : World) (z : List Int), Sl w' (some ⟨g, 0, none⟩) n cap z → Sl w' a' (n - k) (cap - k) (z.drop k)) ∧ ∀ x, a' = some x → x.block = g := by
  subst hK
  by_cases h : k < cap
  · refine ⟨some ⟨g, 0 + k, none⟩, fun v => ?_, fun w' z hs => hs.drop k hk, fun x hx => by cases hx; rfl⟩
    rw [run_slice_l v _ _ _ _ und22F .i64 k (by omega) (by omega), elem22F, sizeBF]
    have : ¬ cap = k := by omega
    simp [sliced, this, Addr.add_lit]
  · obtain rfl : k = cap := by omega
    obtain rfl : n = k := by omega
    refine ⟨some ⟨g, 0, none⟩, fun v => ?_, fun w' z hs => ⟨by rw [List.length_drop, hs.hlen], by omega, by omega, by omega, hs.hbyte.drop _, (fun e => by cases e), fun h0 => by omega⟩, fun x hx => by cases hx; rfl⟩
    rw [run_slice_l v _ _ _ _ und22F .i64 n (by omega) (by omega), elem22F, sizeBF]
    simp [sliced]
theorem sl_toF (g n cap k : Nat) (K : Int) (hK : K = (k : Int)) (hk : k ≤ cap) (v : World) :
    (Instr.slice 31 (.slice (some ⟨g, 0, none⟩) n cap) none (some (.int .i64 K)) none).run Tryz.prog v = .ok (.slice (some ⟨g, 0, none⟩) k cap) v := by
  subst hK
  rw [run_slice_h v _ _ _ _ und22F .i64 k (by omega) (by omega), elem22F, sizeBF]
  simp [sliced, Addr.add_lit]
section
variable {dst : Option Tmp} {ty : TypeId} {pos : String} {aft : Array Edge} {gd : Option (Nat × Bool)} {ops : Array Oper} {rest : List Oper} {a : Act} {w : World} {K : Act → World → Prop} {Q : Exit → Act → World → Prop}
set_option maxRecDepth 100000 in
theorem wp_boxG {T : TypeId} {x : Operand} {cs : List Value} (hx : a.eval x = .agg cs.toArray) (h : ∀ w1 g, Blk w1 g T cs → w.heap.size ≤ g → Below w.heap.size w w1 → K (a.put dst (.pointer (some ⟨g, 0, none⟩))) w1) :
    Oper.wp Tryz.prog ⟨dst, .box T x, ty, pos, aft, gd⟩ a w K Q :=
  wp_runV (.pointer (some ⟨w.heap.size, 0, none⟩)) (w.alloc (.cells cs.toArray T)) (by simp [execOp, hx, Instr.box, newVar, newRow, Result.andThen, Value.cells])
    (h _ _ (Blk.made _ _ _) (Nat.le_refl _) ((Below.refl _ _).alloc (Nat.le_refl _) _))
end
theorem spl_snoc (cs vs : List Value) (v : Value) (o : Nat) (h : o + vs.length < cs.length) : (spl cs vs o).set (o + vs.length) v = spl cs (vs ++ [v]) o := by
  unfold spl
  rw [List.set_append_right _ _ (by simp; omega)]
  have e : o + vs.length - (cs.take o ++ vs).length = 0 := by simp; omega
  rw [e, List.drop_eq_getElem_cons h]
  simp [Nat.add_assoc]
theorem spl_length (cs vs : List Value) (o : Nat) (h : o + vs.length ≤ cs.length) : (spl cs vs o).length = cs.length := by
  simp [spl]; omega
theorem u8s_take_succ (B : List Int) (k : Nat) (h : k < B.length) : u8s (B.take (k + 1)) = u8s (B.take k) ++ [.int .u8 (B.getD k 0)] := by
  rw [List.take_succ_eq_append_getElem h, u8s_app]
  congr 1
  simp [u8s, List.getD, h]
theorem Blk.sl0 {w : World} {g : Nat} {t : TypeId} {xs : List Int} (h : Blk w g t (u8s xs)) (hb : isB xs) (hl : xs.length ≤ 140737488355328) : Sl w (some ⟨g, 0, none⟩) xs.length xs.length xs :=
  h.sl 0 xs.length xs (by rw [List.drop_zero, List.take_of_length_le (by rw [u8s_length]; exact Nat.le_refl _)]) hb hl (Nat.le_refl _) (by omega)
theorem Own.of_blkF {w : World} {g B : Nat} {xs : List Int} (h : Blk w g 5 (u8s xs)) (hB : B ≤ g) (hl : xs.length ≤ 9223372036854775807) : Own w B (.slice (some ⟨g, 0, none⟩) xs.length xs.length) xs :=
  ⟨by simp [u8s_length], .inr ⟨g, xs.length, (u8s xs).toArray, rfl, hB, h, Nat.le_refl _, by unfold maxLen; omega, by simp [u8s_length], by rw [Nat.mul_one]; exact List.take_of_length_le (by simp [u8s_length])⟩⟩
theorem spl_all (B : List Int) (n : Nat) (h : B.length = n) : spl (u8s (zer n)) (u8s B) 0 = u8s B := by
  unfold spl
  rw [List.drop_of_length_le (by rw [u8s_length, u8s_length, zer_length, h]; omega)]
  simp
theorem spl_next (B : List Int) (n k : Nat) (h : B.length = n) (hk : k < n) : (spl (u8s (zer n)) (u8s (B.take k)) 0).set k (.int .u8 (B.getD k 0)) = spl (u8s (zer n)) (u8s (B.take (k + 1))) 0 := by
  have hl : (B.take k).length = k := by rw [List.length_take]; omega
  have e2 := spl_snoc (u8s (zer n)) (u8s (B.take k)) (.int .u8 (B.getD k 0)) 0 (by rw [u8s_length, u8s_length, hl, zer_length]; omega)
  rwa [u8s_length, hl, Nat.zero_add, ← u8s_take_succ _ _ (by omega)] at e2
theorem spl_there (B : List Int) (n k : Nat) (h : B.length = n) (hk : k < n) : ∃ old, (spl (u8s (zer n)) (u8s (B.take k)) 0)[k]? = some old := by
  have hl : (B.take k).length = k := by rw [List.length_take]; omega
  have : k < (spl (u8s (zer n)) (u8s (B.take k)) 0).length := by rw [spl_length _ _ _ (by rw [u8s_length, u8s_length, hl, zer_length]; omega), u8s_length, zer_length]; exact hk
  exact ⟨_, List.getElem?_eq_getElem this⟩
theorem mul_step (v x : Int) (h0 : 0 ≤ v) (h1 : v < 72057594037927936) (h2 : 0 ≤ x) (h3 : x ≤ 255) :
    IntKind.u64.wrap (IntKind.u64.wrap (v * 256) + IntKind.u64.wrap x) = v * 256 + x := by
  rw [IntKind.wrap_u64, IntKind.wrap_u64, IntKind.wrap_u64, Int.emod_eq_of_lt (by omega) (by omega), Int.emod_eq_of_lt (by omega) (by omega)]
  omega
set_option maxHeartbeats 400000 in
theorem readF_any (a : Option Addr) (len cap : Nat) (xs : List Int) (p : Int) (n : Nat) (w : World) (hs : Sl w a len cap xs) (hn : n ≤ 8) (hn0 : 0 < n) :
    Calls Tryz.prog 68 #[.slice a len cap, .int .i64 p, .int .i64 n] w fun e w' => e = .returned (.tuple #[.int .u64 (rdV xs p n), .int .i64 (rdN len p n), .int .i64 (rdE len p n)]) ∧ w = w' := by
  obtain ⟨hx, _, _, hl, hb, _, hc⟩ := hs
  by_cases h : p < 0 ∨ (len : Int) < p ∨ (len : Int) - p < n
  · have e1 : rdV xs p n = 0 := by simp [rdV, hx]; omega
    have e2 : rdN len p n = 0 := by simp [rdN]; omega
    rw [e1, e2]
    clear e1 e2 hc
    by_cases h1 : p < 0
    · have e3 : rdE len p n = 2 := by simp [rdE, h1]
      rw [e3]
      clear e3
      go_enter Tryz.func68, Tryz.ntmps68
      go_wp2
      go_ret3
      exact ⟨rfl, rfl⟩
    by_cases h2 : (len : Int) < p
    · have e3 : rdE len p n = 2 := by simp [rdE, h2]
      rw [e3]
      clear e3
      go_enter Tryz.func68, Tryz.ntmps68
      go_wp2
      go_ret3
      exact ⟨rfl, rfl⟩
    · have h3 : (len : Int) - p < n := by omega
      have e3 : rdE len p n = 10 := by simp [rdE, h1, h2, h3]
      rw [e3]
      clear e3 h
      go_enter Tryz.func68, Tryz.ntmps68
      go_wp2
      go_ret3
      exact ⟨rfl, rfl⟩
  · obtain ⟨p, rfl⟩ := Int.eq_ofNat_of_zero_le (show 0 ≤ p by omega)
    obtain ⟨b, off, rfl, hce⟩ := hc (by omega)
    clear hc
    have e1 : rdV xs p n = beVal ((xs.drop p).take n) := by simp only [rdV, hx]; rw [if_pos (by omega)]; simp
    have e2 : rdN len p n = p + n := by simp [rdN]; omega
    have e3 : rdE len p n = 0 := by simp [rdE]; omega
    rw [e1, e2, e3]
    clear e1 e2 e3
    have h1 : ¬ ((p : Int) < 0) := by omega
    have h2 : ¬ ((len : Int) < p) := by omega
    have h3 : ¬ ((len : Int) - p < n) := by omega
    clear h
    go_enter Tryz.func68, Tryz.ntmps68
    go_wp2
    go_loop [9, 10] (fun v i => ∃ k : Nat, k ≤ n ∧ i = .int .i64 k ∧ v = .int .u64 (beVal ((xs.drop p).take k))) (fun _ i => n - (intOf i).toNat)
    case atStart => exact ⟨0, Nat.zero_le _, rfl, by simp [beVal]⟩
    case round =>
      obtain ⟨k, hk, rfl, rfl⟩ := hrel
      by_cases hlt : k < n
      · have hck := hce (p + k) (by omega)
        have HS : Hid _ := beVal_step xs p k (by omega)
        have H2 : Hid _ := hb.get (p + k)
        have H3 : Hid _ := beVal_take_bd xs hb p k (by omega) (by omega)
        go_wp2
        go_round
        case rel =>
          refine ⟨k + 1, by omega, by go_num, ?_⟩
          rw [HS.out, ← mul_step _ _ H3.out.1 H3.out.2 H2.out.1 H2.out.2]
          rfl
        case measure => simp [intOf]; omega
      · have hkn : k = n := by omega
        subst hkn
        clear hce
        go_wp2
        go_ret3
        exact ⟨rfl, rfl⟩
set_option maxHeartbeats 400000 in
theorem room_any (a : Option Addr) (len cap : Nat) (p : Int) (n : Nat) (w : World) (hl : len ≤ 140737488355328) (hn : n ≤ 32) :
    Calls Tryz.prog 111 #[.slice a len cap, .int .i64 p, .int .i64 n] w fun e w' => e = .returned (.int .i64 (rdE len p n)) ∧ w = w' := by
  by_cases h : p < 0
  · have e : rdE len p n = 2 := by simp [rdE, h]
    rw [e]
    go_enter Tryz.func111, Tryz.ntmps111
    go_wp2
    go_ret
    exact ⟨rfl, rfl⟩
  by_cases h' : (len : Int) < p
  · have e : rdE len p n = 2 := by simp [rdE, h']
    rw [e]
    clear e
    go_enter Tryz.func111, Tryz.ntmps111
    go_wp2
    go_ret
    exact ⟨rfl, rfl⟩
  by_cases h2 : (len : Int) - p < n
  · have e : rdE len p n = 10 := by simp [rdE, h, h', h2]
    rw [e]
    clear e
    go_enter Tryz.func111, Tryz.ntmps111
    go_wp2
    go_ret
    exact ⟨rfl, rfl⟩
  · have e : rdE len p n = 0 := by simp [rdE, h, h', h2]
    rw [e]
    clear e
    go_enter Tryz.func111, Tryz.ntmps111
    go_wp2
    go_ret
    exact ⟨rfl, rfl⟩
set_option maxHeartbeats 400000 in
theorem number_any (a : Option Addr) (len cap : Nat) (xs : List Int) (p : Int) (n : Nat) (w : World) (hs : Sl w a len cap xs) (hn : n ≤ 8) (hn0 : 0 < n) :
    Calls Tryz.prog 98 #[.slice a len cap, .int .i64 p, .int .i64 n] w fun e w' => e = .returned (.tuple #[.int .u64 (rdV xs p n), .int .i64 (rdN len p n), .int .i64 (rdE len p n)]) ∧ w = w' := by
  obtain ⟨hx, _, _, hl, hb, _, hc⟩ := hs
  by_cases h : p < 0 ∨ (len : Int) < p ∨ (len : Int) - p < n
  · have e1 : rdV xs p n = 0 := by simp [rdV, hx]; omega
    have e2 : rdN len p n = 0 := by simp [rdN]; omega
    have e3 : rdE len p n = 2 ∨ rdE len p n = 10 := by
      by_cases h1 : p < 0 ∨ (len : Int) < p
      · left; simp [rdE, h1]
      · right; have h2 : (len : Int) - p < n := by omega
        simp [rdE, h1, h2]
    rw [e1, e2]
    have hne : (rdE len p n != 0) = true := by simp; omega
    clear e1 e2 hc e3
    go_enter Tryz.func98, Tryz.ntmps98
    go_wp2_with (go_at_call 111; refine (room_any _ _ _ _ _ _ hl (by omega)).mono ?_; rintro e w' ⟨rfl, rfl⟩)
    go_ret3
    exact ⟨rfl, rfl⟩
  · obtain ⟨p, rfl⟩ := Int.eq_ofNat_of_zero_le (show 0 ≤ p by omega)
    obtain ⟨b, off, rfl, hce⟩ := hc (by omega)
    clear hc
    have e1 : rdV xs p n = beVal ((xs.drop p).take n) := by simp only [rdV, hx]; rw [if_pos (by omega)]; simp
    have e2 : rdN len p n = p + n := by simp [rdN]; omega
    have e3 : rdE len p n = 0 := by simp [rdE]; omega
    rw [e1, e2, e3]
    have E3 : Hid (rdE len p n = 0) := e3
    clear e1 e2 e3
    go_enter Tryz.func98, Tryz.ntmps98
    go_wp2_with (go_at_call 111; refine (room_any _ _ _ _ _ _ hl (by omega)).mono ?_; rintro e w' ⟨rfl, rfl⟩; rw [E3.out])
    go_loop [6, 19] (fun v i => ∃ k : Nat, k ≤ n ∧ i = .int .i64 k ∧ v = .int .u64 (beVal ((xs.drop p).take k))) (fun _ i => n - (intOf i).toNat)
    case atStart => exact ⟨0, Nat.zero_le _, rfl, by simp [beVal]⟩
    case round =>
      obtain ⟨k, hk, rfl, rfl⟩ := hrel
      by_cases hlt : k < n
      · have hck := hce (p + k) (by omega)
        have HS : Hid _ := beVal_step xs p k (by omega)
        have H2 : Hid _ := hb.get (p + k)
        have H3 : Hid _ := beVal_take_bd xs hb p k (by omega) (by omega)
        go_wp2
        go_round
        case rel =>
          refine ⟨k + 1, by omega, by go_num, ?_⟩
          rw [HS.out, ← or_step _ _ H3.out.1 H3.out.2 H2.out.1 H2.out.2]
          rfl
        case measure => simp [intOf]; omega
      · have hkn : k = n := by omega
        subst hkn
        clear hce
        go_wp2
        go_ret3
        exact ⟨rfl, rfl⟩
theorem spl_full {cs vs : List Value} (h : vs.length = cs.length) : spl cs vs 0 = vs := by
  unfold spl
  rw [List.drop_of_length_le (by omega)]
  simp
theorem elemBy : Tryz.prog.elem 31 = 5 := by kernel_rfl
set_option maxRecDepth 100000 in
theorem b_at (b o n cap i : Nat) (hi : i < n) (v : World) : (Instr.indexAt 31 (.slice (some ⟨b, o, none⟩) n cap) (.int .i64 (i : Int))).run Tryz.prog v = .ok (.pointer (some ⟨b, o + i, none⟩)) v := by
  rw [run_indexAt_slice v _ _ _ _ .i64 i undBs, if_pos ⟨by omega, by omega⟩, elemBy, sizeBF]
  simp only [Result.andThen_ok, Int.toNat_natCast]
  rw [Addr.add_lit, Nat.mul_one]
/-- The bytes of a number, the highest first. -/
def be (v : Int) (n : Nat) : List Int := (List.range n).map fun i => v / 256 ^ (n - 1 - i) % 256
theorem be_length (v : Int) (n : Nat) : (be v n).length = n := by simp [be]
theorem be_isB (v : Int) (n : Nat) : isB (be v n) := by
  intro x hx
  simp only [be, List.mem_map, List.mem_range] at hx
  obtain ⟨i, _, rfl⟩ := hx
  omega
theorem be_get (v : Int) (n k : Nat) (h : k < n) : (be v n).getD k 0 = v / 256 ^ (n - 1 - k) % 256 := by simp [be, List.getD, h]

theorem pow2_8 (m : Nat) : (2 : Int) ^ (8 * m) = 256 ^ m := by rw [Int.pow_mul]; rfl
theorem spl_zer (ys : List Int) (n m : Nat) (h : ys.length = m) : spl (u8s (zer (m + n))) (u8s (ys.take m)) 0 = u8s (ys ++ zer n) := by
  rw [spl_u8, ← h, List.take_length]
  congr 1
  simp [splB, zer]
set_option maxHeartbeats 400000 in
theorem widened_any (a : Option Addr) (len cap : Nat) (xs : List Int) (n : Nat) (w : World) (hs : Sl w a len cap xs) (hn : n ≤ 64) :
    Calls Tryz.prog 88 #[.slice a len cap, .int .i64 n] w fun e w' => ∃ g, e = .returned (.slice (some ⟨g, 0, none⟩) (len + n) (len + n)) ∧ w.heap.size ≤ g ∧ Blk w' g 5 (u8s (xs ++ zer n)) ∧ Below w.heap.size w w' := by
  have hr := hs.hreach
  have HS := hide hs
  clear hs
  go_enter Tryz.func88, Tryz.ntmps88
  go_wp2_with (refine step_make (len + n) rfl rfl rfl (by omega) (by omega) (by omega) ?_)
  intro w1 g hrow hg hb
  go_wp2_with (refine step_copy rfl rfl rfl (HS.out.below hb) g 0 len (by omega) hrow (fun _ => rfl) (by rw [u8s_length, zer_length]; omega) ?_)
  intro w2 hrow2 hbut
  rw [spl_zer xs n len HS.out.hlen] at hrow2
  go_wp2
  go_ret
  exact ⟨g, rfl, hg, hrow2, hb.trans (hbut.below hg)⟩
/-- One byte more of B laid over noughts. -/
theorem fill_step (xs B : List Int) (len n k : Nat) (hx : xs.length = len) (hB : B.length = n) (hk : k < n) :
    (xs ++ (B.take k ++ zer (n - k))).set (len + k) (B.getD k 0) = xs ++ (B.take (k + 1) ++ zer (n - (k + 1))) := by
  subst hx
  rw [List.set_append_right _ _ (by omega), Nat.add_sub_cancel_left]
  congr 1
  have hz : zer (n - k) = 0 :: zer (n - (k + 1)) := by
    have : n - k = (n - (k + 1)) + 1 := by omega
    rw [this]; simp [zer, List.replicate_succ]
  rw [List.set_append_right _ _ (by simp; omega), hz]
  have e : k - (B.take k).length = 0 := by simp; omega
  have e2 : B.getD k 0 = B[k] := by simp [List.getD, hB, hk]
  rw [e, e2, List.take_succ_eq_append_getElem (by omega), List.append_assoc]
  rfl
set_option maxHeartbeats 400000 in
theorem putNumber_any (a : Option Addr) (len cap : Nat) (xs : List Int) (v : Int) (n : Nat) (w : World) (hs : Sl w a len cap xs) (hn : n ≤ 8) (hv : 0 ≤ v) (hv2 : v < 18446744073709551616) :
    Calls Tryz.prog 66 #[.slice a len cap, .int .u64 v, .int .i64 n] w fun e w' => ∃ g, e = .returned (.slice (some ⟨g, 0, none⟩) (len + n) (len + n)) ∧ w.heap.size ≤ g ∧ Blk w' g 5 (u8s (xs ++ be v n)) ∧ Below w.heap.size w w' := by
  have hr := hs.hreach
  have HS := hide hs
  clear hs
  go_enter Tryz.func66, Tryz.ntmps66
  go_wp2_with (go_at_call 88; refine (widened_any _ _ _ xs n _ HS.out (by omega)).mono ?_; rintro e w1 ⟨g, rfl, hg, hrow, hb⟩)
  go_loopw [13] (fun i wr => ∃ k : Nat, k ≤ n ∧ i = .int .i64 k ∧ Blk wr g 5 (u8s (xs ++ ((be v n).take k ++ zer (n - k)))) ∧ Below w.heap.size w wr) (fun i _ => n - (intOf i).toNat)
  case atStart => exact ⟨0, by omega, rfl, by simpa using hrow, hb⟩
  case round =>
    obtain ⟨k, hk, rfl, hr1, hb1⟩ := hrel
    by_cases hlt : k < n
    · have hl1 : (xs ++ ((be v n).take k ++ zer (n - k))).length = len + n := by simp [be_length, zer_length, HS.out.hlen]; omega
      have hcell : wr.cell? ⟨g, len + k, none⟩ = some (.int .u8 ((xs ++ ((be v n).take k ++ zer (n - k))).getD (len + k) 0)) := by rw [hr1.cell, u8s_get _ _ (by omega)]
      have hfree := hr1.free (len + k)
      clear hl1
      have HE := hide (fill_step xs (be v n) len n k HS.out.hlen (be_length v n) hlt)
      have HR := hide hr1
      clear hr1
      go_wp2
      go_roundw
      case rel =>
        have e := HR.out.set (len + k) (.int .u8 ((be v n).getD k 0))
        rw [u8s_set, HE.out, be_get v n k hlt, ← pow2_8] at e
        exact ⟨k + 1, by omega, by go_num, e, hb1.setCell hg _⟩
      case measure => simp [intOf]; omega
    · have hkn : k = n := by omega
      subst hkn
      go_wp2
      go_ret
      refine ⟨g, rfl, hg, ?_, hb1⟩
      have e : xs ++ (List.take k (be v k) ++ zer (k - k)) = xs ++ be v k := by
        rw [List.take_of_length_le (by rw [be_length]; exact Nat.le_refl _)]; simp [zer]
      rw [e] at hr1
      exact hr1
/-- One byte more of B, from its end. -/
theorem back_step (B : List Int) (n k : Nat) (hB : B.length = n) (hk : k < n) : (zer (k + 1) ++ B.drop (k + 1)).set k (B.getD k 0) = zer k ++ B.drop k := by
  have hz : zer (k + 1) = zer k ++ [0] := by simp [zer, List.replicate_succ']
  rw [hz, List.append_assoc, List.set_append_right _ _ (by simp [zer]), List.drop_eq_getElem_cons (i := k) (by omega)]
  have e : k - (zer k).length = 0 := by simp [zer]
  rw [e]
  simp [List.getD, hB, hk]

theorem div_pow (v : Int) (m : Nat) : v / 256 ^ m / 256 = v / 256 ^ (m + 1) := by
  rw [Int.pow_succ, Int.ediv_ediv_of_nonneg (Int.le_of_lt (Int.pow_pos (by decide)))]

theorem quo256 (v : Int) (m : Nat) (hv : 0 ≤ v) (hv2 : v < 18446744073709551616) : IntKind.u64.wrap ((v / 256 ^ m).tdiv 256) = v / 256 ^ (m + 1) := by
  have h0 : 0 ≤ v / 256 ^ m := Int.ediv_nonneg hv (Int.le_of_lt (Int.pow_pos (by decide)))
  have h1 : v / 256 ^ m ≤ v := Int.ediv_le_self _ hv
  rw [Int.tdiv_eq_ediv_of_nonneg h0, div_pow, IntKind.wrap_u64]
  have h2 : 0 ≤ v / 256 ^ (m + 1) := Int.ediv_nonneg hv (Int.le_of_lt (Int.pow_pos (by decide)))
  have h3 : v / 256 ^ (m + 1) ≤ v := Int.ediv_le_self _ hv
  exact Int.emod_eq_of_lt h2 (by omega)

set_option maxHeartbeats 400000 in
theorem number_ref (v : Int) (n : Nat) (w : World) (hn : n ≤ 8) (hv : 0 ≤ v) (hv2 : v < 18446744073709551616) :
    Calls Tryz.prog 38 #[.int .u64 v, .int .i64 n] w fun e w' => ∃ g, e = .returned (.slice (some ⟨g, 0, none⟩) n n) ∧ w.heap.size ≤ g ∧ Blk w' g 5 (u8s (be v n)) ∧ Below w.heap.size w w' := by
  go_enter Tryz.func38, Tryz.ntmps38
  go_wp2_with (refine step_make n rfl rfl rfl rfl rfl (by omega) ?_)
  intro w1 g hrow hg hb
  go_wp2
  go_loopw [0, 6] (fun vv i wr => ∃ j : Nat, j ≤ n ∧ i = .int .i64 ((j : Int) - 1) ∧ vv = .int .u64 (v / 256 ^ (n - j)) ∧ Blk wr g 5 (u8s (zer j ++ (be v n).drop j)) ∧ Below w.heap.size w wr) (fun _ i _ => (intOf i + 1).toNat)
  case atStart => exact ⟨n, by omega, rfl, by simp, by rw [List.drop_eq_nil_of_le (by rw [be_length]; exact Nat.le_refl _), List.append_nil]; exact hrow, hb⟩
  case round =>
    obtain ⟨j, hj, rfl, rfl, hr1, hb1⟩ := hrel
    by_cases h0 : j = 0
    · subst h0
      go_wp2
      go_ret
      refine ⟨g, rfl, hg, ?_, hb1⟩
      simpa [zer] using hr1
    · obtain ⟨k, rfl⟩ : ∃ k, j = k + 1 := ⟨j - 1, by omega⟩
      have hl1 : (zer (k + 1) ++ (be v n).drop (k + 1)).length = n := by simp [be_length, zer_length]; omega
      have hcell : wr.cell? ⟨g, k, none⟩ = some (.int .u8 ((zer (k + 1) ++ (be v n).drop (k + 1)).getD k 0)) := by rw [hr1.cell]; exact u8s_get _ _ (by omega)
      have hfree := hr1.free k
      have HE := hide (back_step (be v n) n k (be_length v n) (by omega))
      have HG := hide (be_get v n k (by omega))
      have ek : (((k + 1 : Nat) : Int) - 1) = (k : Int) := by omega
      rw [ek]
      clear hl1
      go_wp2
      go_roundw
      case rel =>
        have e := hr1.set k (.int .u8 ((be v n).getD k 0))
        have en : n - 1 - k = n - (k + 1) := by omega
        rw [u8s_set, HE.out, HG.out, en] at e
        have eq := quo256 v (n - (k + 1)) hv hv2
        have en2 : n - (k + 1) + 1 = n - k := by omega
        rw [en2] at eq
        exact ⟨k, by omega, by go_num, by rw [eq], e, hb1.setCell hg _⟩
      case measure => simp [intOf]

end Go.Proofs.YtpocadbhajacaaaGreatDoor

/-
  The way through a file's whole leaves: whole and what it hands out.
-/
namespace Go.Proofs.YtpocadbhajacaaaGreatDoor
open Go.RowKit Go.Shelf
set_option linter.unusedVariables false
set_option linter.unusedSimpArgs false
set_option maxRecDepth 100000

/-- A place in cells. -/
def plV (x : Plc) : List Value := [.string x.1, .int .i64 (x.2.1 : Int), .int .i64 (x.2.2 : Int)]
theorem One.pl (x : Plc) : One (plV x) := by intro v hv; simp [plV] at hv; rcases hv with rfl | rfl | rfl <;> rfl
theorem zPl : Zeroed 102 [.string { data := #[] }, .int .i64 0, .int .i64 0] := fun _ _ _ _ _ _ _ => by kernel_rfl
theorem wPl : Wide 102 3 := ⟨by kernel_rfl, by kernel_rfl⟩
theorem Blk.pl3 {w : World} {g : Nat} {t : TypeId} {x : Plc} (k : Blk w g t (plV x)) : w.cell? ⟨g, 0, none⟩ = some (.string x.1) ∧ w.cell? ⟨g, 1, none⟩ = some (.int .i64 (x.2.1 : Int)) ∧ w.cell? ⟨g, 2, none⟩ = some (.int .i64 (x.2.2 : Int)) :=
  ⟨by rw [k.cell]; rfl, by rw [k.cell]; rfl, by rw [k.cell]; rfl⟩
section
variable {F : Fence} {n : Nat} {dst : Option Tmp} {ty : TypeId} {pos : String} {aft : Array Edge} {gd : Option (Nat × Bool)} {ops : Array Oper} {rest : List Oper} {a : Act} {w : World} {Q : Exit → Act → World → Prop}
theorem istep_buildPl (hF : WideF F) {x y z : Operand} {nm : ByteArray} {p q : Nat} (hw : Region.wanted ⟨dst, .build 102 #[(0, x), (1, y), (2, z)], ty, pos, aft, gd⟩ (yielded ops a.tmps) = true) (hx : a.eval x = .string nm) (hy : a.eval y = .int .i64 (p : Int)) (hz : a.eval z = .int .i64 (q : Int))
    (k : wpListIn F n Tryz.prog ops Q rest (a.put dst (.agg (plV (nm, p, q)).toArray)) w) : wpListIn F n Tryz.prog ops Q (⟨dst, .build 102 #[(0, x), (1, y), (2, z)], ty, pos, aft, gd⟩ :: rest) a w :=
  istep_run hF (fun c => by simp) hw _ w (run_op (M := Instr.build 102 #[(0, .string nm), (1, .int .i64 (p : Int)), (2, .int .i64 (q : Int))]) (by simp [execOp, hx, hy, hz]) (by kernel_rfl)) k
end
theorem end_any (x : Plc) (w : World) (hb : x.2.1 + x.2.2 ≤ 9223372036854775807) : Calls Tryz.prog 74 #[.agg (plV x).toArray] w fun r w' => r = .returned (.int .i64 ((x.2.1 + x.2.2 : Nat) : Int)) ∧ Below w.heap.size w w' := by
  obtain ⟨nm, p, q⟩ := x
  have hw : wrap64 ((p : Int) + (q : Int)) = ((p + q : Nat) : Int) := by unfold wrap64; simp only at hb; omega
  have HW := hide hw
  clear hw hb
  go_enter Tryz.func74, Tryz.ntmps74
  go_wp2_with (first | (refine step_box (cs := plV (nm, p, q)) rfl rfl ?_; intro w1 g1 hg1 hle1 hb1; obtain ⟨c0, c1, c2⟩ := hg1.pl3; have HB1 := hide hb1; clear hg1 hb1) | (rw [HW.out]))
  go_ret
  exact ⟨rfl, HB1.out⟩
theorem uint16_any (a : Option Addr) (len cap : Nat) (xs : List Int) (p : Int) (w : World) (hs : Sl w a len cap xs) :
    Calls Tryz.prog 78 #[.slice a len cap, .int .i64 p] w fun e w' => e = .returned (.tuple #[.int .u16 (rdV xs p 2), .int .i64 (rdN len p 2), .int .i64 (rdE len p 2)]) ∧ w = w' := by
  have hb := rdV_bd xs hs.hbyte p 2
  have hb1 : 0 ≤ rdV xs p 2 := hb.1
  have hb2 : rdV xs p 2 < 65536 := hb.2
  have hw : IntKind.u16.wrap (rdV xs p 2) = rdV xs p 2 := by rw [IntKind.wrap_u16]; exact Int.emod_eq_of_lt hb1 hb2
  clear hb
  have HS := hide hs
  clear hs
  go_enter Tryz.func78, Tryz.ntmps78
  go_wp2_with (go_at_call 98; refine (number_any _ _ _ xs _ 2 _ HS.out (by omega) (by omega)).mono ?_; rintro e w' ⟨rfl, rfl⟩)
  go_ret3
  exact ⟨rfl, rfl⟩
theorem whole_mk (d : Nat) (h : Int) (nm : ByteArray) (w : World) : Calls Tryz.prog 49 #[.pointer (some ⟨d, 0, none⟩), .int .i64 h, .string nm] w fun r w' => ∃ gd gh gn, r = .returned (.func (.func 77) #[] #[.pointer (some ⟨gd, 0, none⟩), .pointer (some ⟨gn, 0, none⟩), .pointer (some ⟨gh, 0, none⟩)]) ∧
    Blk w' gd 26 [.pointer (some ⟨d, 0, none⟩)] ∧ Blk w' gh 3 [.int .i64 h] ∧ Blk w' gn 9 [.string nm] ∧ w.heap.size ≤ gd ∧ w.heap.size ≤ gh ∧ w.heap.size ≤ gn ∧ Below w.heap.size w w' := by
  go_enter Tryz.func49, Tryz.ntmps49
  go_wp2
  go_ret
  have b1 : Below w.heap.size w (w.alloc (.cells #[.pointer (some ⟨d, 0, none⟩)] 26)) := (Below.refl _ _).alloc (Nat.le_refl _) _
  have B1 : Blk (w.alloc (.cells #[.pointer (some ⟨d, 0, none⟩)] 26)) w.heap.size 26 [.pointer (some ⟨d, 0, none⟩)] := Blk.made _ _ _
  generalize hW1 : w.alloc (.cells #[.pointer (some ⟨d, 0, none⟩)] 26) = W1 at *
  have s1 := b1.size
  have b2 : Below W1.heap.size W1 (W1.alloc (.cells #[.int .i64 h] 3)) := (Below.refl _ _).alloc (Nat.le_refl _) _
  have B2 : Blk (W1.alloc (.cells #[.int .i64 h] 3)) W1.heap.size 3 [.int .i64 h] := Blk.made _ _ _
  generalize hW2 : W1.alloc (.cells #[.int .i64 h] 3) = W2 at *
  have s2 := b2.size
  have b3 : Below W2.heap.size W2 (W2.alloc (.cells #[.string nm] 9)) := (Below.refl _ _).alloc (Nat.le_refl _) _
  have B3 : Blk (W2.alloc (.cells #[.string nm] 9)) W2.heap.size 9 [.string nm] := Blk.made _ _ _
  generalize hW3 : W2.alloc (.cells #[.string nm] 9) = W3 at *
  have z1 : W1.heap.size = w.heap.size + 1 := by rw [← hW1]; exact World.size_alloc _ _
  have z2 : W2.heap.size = w.heap.size + 1 + 1 := by rw [← hW2, World.size_alloc, z1]
  exact ⟨w.heap.size, w.heap.size + 1, w.heap.size + 1 + 1, rfl, (B1.on b2).on b3, by rw [← z1]; exact B2.on b3, by rw [← z2]; exact B3, Nat.le_refl _, by omega, by omega, on_below (on_below b1 b2) b3⟩

/-! ### what a round leaves -/
/-- A disk's blocks. -/
def FD (d : Nat) (D : Dm) (k : Nat) : Prop := D.own d k ∨ D.ro k ∨ k = 2
/-- A disk's blocks are left, and of the blocks behind B all but those of slices of slices. -/
structure KB (B : Nat) (F : Nat → Prop) (A C : World) : Prop where
  size : A.heap.size ≤ C.heap.size
  keep : ∀ k, F k → k < A.heap.size → C.heap[k]? = A.heap[k]?
  rest : ∀ k t cs, B ≤ k → t ≠ 31 → Blk A k t cs → Blk C k t cs
theorem KB.refl (B : Nat) (F : Nat → Prop) (A : World) : KB B F A A := ⟨Nat.le_refl _, fun _ _ _ => rfl, fun _ _ _ _ _ h => h⟩
theorem KB.trans {B : Nat} {F : Nat → Prop} {A C D : World} (h : KB B F A C) (k : KB B F C D) : KB B F A D :=
  ⟨Nat.le_trans h.size k.size, fun i hi hl => (k.keep i hi (Nat.lt_of_lt_of_le hl h.size)).trans (h.keep i hi hl), fun i t cs h1 h2 h3 => k.rest i t cs h1 h2 (h.rest i t cs h1 h2 h3)⟩
theorem KB.below {B : Nat} {F : Nat → Prop} {A C : World} (h : Below A.heap.size A C) : KB B F A C := ⟨h.size, fun k _ hk => h.block k hk, fun k t cs _ _ hb => hb.on h⟩
theorem KB.but {B g : Nat} {F : Nat → Prop} {A C : World} (h : But g A C) (hg : g < B) (hF : ∀ k, F k → k ≠ g) : KB B F A C := ⟨Nat.le_of_eq h.size.symm, fun k hk _ => h.block k (hF k hk), fun k t cs h1 _ hb => hb.but h (by omega)⟩
theorem KB.book {B B' : Nat} {F : Nat → Prop} (hF : ∀ k, F k → k < B') (W : World) (l : Nat) (o o' : Obj) (hl : B' ≤ l) (h : W.heap[l]? = some o) (hc : o.isCells = false) : KB B F W (W.putObj l o') :=
  ⟨(grownBy_putObj' W l o').size, fun k hk _ => World.putObj_heap_other (by have := hF k hk; omega), fun k t cs _ _ hb => by
    have hne : k ≠ l := fun e => by
      subst e
      rw [hb] at h
      injection h with h
      subst h
      cases hc
    unfold Blk
    rw [World.putObj_heap_other hne]
    exact hb⟩
theorem KB.less {B B' : Nat} {F : Nat → Prop} {A C : World} (h : KB B F A C) (hB : B ≤ B') : KB B' F A C := ⟨h.size, h.keep, fun k t cs h1 h2 h3 => h.rest k t cs (by omega) h2 h3⟩
/-- What stands when a file is walked over. -/
structure WAt (w : World) (d s : Nat) (rs : List Rw) (D : Dm) (gd gh gn H : Nat) (nm : ByteArray) (B : Nat) : Prop where
  dk : DkAt w d s rs D
  pt : PT w
  bd : Blk w gd 26 [.pointer (some ⟨d, 0, none⟩)]
  bh : Blk w gh 3 [.int .i64 (H : Int)]
  bn : Blk w gn 9 [.string nm]
  le : B ≤ gd ∧ B ≤ gh ∧ B ≤ gn
section
variable {w w' : World} {d s : Nat} {rs : List Rw} {D : Dm} {gd gh gn H : Nat} {nm : ByteArray} {B : Nat}
theorem fd_lt (h1 : DkAt w d s rs D) (h2 : PT w) {k : Nat} (hk : FD d D k) : k < w.heap.size := by
  rcases hk with hk | hk | rfl
  · exact h1.lt (.inl hk)
  · exact h1.lt (.inr hk)
  · exact h2.lt
theorem dk_fd (h1 : DkAt w d s rs D) (hk : ∀ k, FD d D k → w'.heap[k]? = w.heap[k]?) : DkAt w' d s rs D := h1.same (fun k hq => hk k (by rcases hq with hq | hq; exact .inl hq; exact .inr (.inl hq)))
theorem pt_fd (h1 : PT w) (hk : ∀ k, FD d D k → w'.heap[k]? = w.heap[k]?) : PT w' := h1.sameS (hk _ (.inr (.inr rfl)))
theorem WAt.below (h : WAt w d s rs D gd gh gn H nm B) (hb : Below w.heap.size w w') : WAt w' d s rs D gd gh gn H nm B :=
  ⟨h.dk.below hb, h.pt.below hb, h.bd.on hb, h.bh.on hb, h.bn.on hb, h.le⟩
theorem WAt.kb (h : WAt w d s rs D gd gh gn H nm B) (hb : KB B (FD d D) w w') : WAt w' d s rs D gd gh gn H nm B :=
  ⟨dk_fd h.dk (fun k hk => hb.keep k hk (fd_lt h.dk h.pt hk)), pt_fd h.pt (fun k hk => hb.keep k hk (fd_lt h.dk h.pt hk)), hb.rest _ _ _ h.le.1 (by decide) h.bd, hb.rest _ _ _ h.le.2.1 (by decide) h.bh, hb.rest _ _ _ h.le.2.2 (by decide) h.bn, h.le⟩
end
/-- What is handed out: a number and a place. -/
def encW (x : Nat × Plc) : Array Value := #[.int .i64 (x.1 : Int), .agg (plV x.2).toArray]
def RW (nm : ByteArray) (ls : List (List Int)) (pre : List (Nat × Plc)) (x : Nat × Plc) (W0 W : World) : Prop := pre.length < ls.length ∧ pre = wls nm ls pre.length ∧ x = (pre.length, plK nm ls pre.length)
theorem rw_own (nm : ByteArray) (ls : List (List Int)) (B0 : Nat) (pre : List (Nat × Plc)) (x : Nat × Plc) (W0 : World) : OwnFrom B0 (fun (_ : Unit) W => RW nm ls pre x W0 W) := fun _ W W' row h hg hr => h

end Go.Proofs.YtpocadbhajacaaaGreatDoor
