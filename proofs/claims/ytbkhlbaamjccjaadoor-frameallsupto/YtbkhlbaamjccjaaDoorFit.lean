/-
  The iterator over the whole frames of bytes.
-/
import Derived.Test.YtbkhlbaamjccjaaDoorFra
import Derived.Test.YtbkhlbaamjccjaaDoorFrg
namespace Go.Proofs.YtbkhlbaamjccjaaDoor
open Go.RowKit Go.Shelf
set_option linter.unusedVariables false
set_option linter.unusedSimpArgs false

set_option maxHeartbeats 400000 in
theorem all_any (a : Option Addr) (len cap : Nat) (w : World) : Calls Tryd.prog 23 #[.slice a len cap] w fun r w' => ∃ b1, r = .returned (.func (.func 30) #[] #[.pointer (some ⟨b1, 0, none⟩)]) ∧ Blk w' b1 23 [.slice a len cap] ∧ w.heap.size ≤ b1 ∧ Below w.heap.size w w' := by
  go_enter Tryd.func23, Tryd.ntmps23
  go_wp2
  go_ret
  exact ⟨_, rfl, Blk.made w 23 [.slice a len cap], Nat.le_refl _, (Below.refl _ _).alloc (Nat.le_refl _) _⟩

theorem grown_none {A B : World} (h : Below A.heap.size A B) : A.grownBy B none := ⟨h.os, h.tape, h.output, h.size, fun k hk _ => h.block k hk⟩
/-- What is handed out: the place behind a frame, the slice that holds its data, the data. -/
abbrev Fx := Int × Value × List Int
def encF (x : Fx) : Array Value := #[.int .i64 x.1, x.2.1]
/-- Its place and data. -/
def fxP (x : Fx) : Int × List Int := (x.1, x.2.2)
/-- What is handed out behind pre is the next frame, in memory of its own above B. -/
def RF (B : Nat) (L : List (Int × List Int)) (pre : List Fx) (x : Fx) (W : World) : Prop :=
  pre.length < L.length ∧ pre.map fxP = L.take pre.length ∧ fxP x = L.getD pre.length (0, []) ∧ Own W B x.2.1 x.2.2
/-- A round that goes on leaves the table, and what lies above B but for what it was handed. -/
structure KF (B : Nat) (x : Fx) (A C : World) : Prop where
  size : A.heap.size ≤ C.heap.size
  kt : KT A → KT C
  keep : ∀ (k : Nat) (o : Obj), B ≤ k → A.heap[k]? = some o → o.isCells = true → x.2.1.ownBlock ≠ some k → C.heap[k]? = some o
theorem KF.trans {B : Nat} {x : Fx} {A C D : World} (h : KF B x A C) (k : KF B x C D) : KF B x A D :=
  ⟨Nat.le_trans h.size k.size, fun q => k.kt (h.kt q), fun i o hi ho hc hx => k.keep i o hi (h.keep i o hi ho hc hx) hc hx⟩
theorem KF.book {B : Nat} (hB : 1 ≤ B) (x : Fx) (W : World) (l : Nat) (o o' : Obj) (hl : B ≤ l) (h : W.heap[l]? = some o) (hc : o.isCells = false) : KF B x W (W.putObj l o') :=
  ⟨(grownBy_putObj' W l o').size, fun q i hi => by
    rw [World.cell?_of_block (w := W) (World.putObj_heap_other (by show 0 ≠ l; omega))]; exact q i hi, fun k q hk hq hcq _ => by
    have hne : k ≠ l := fun e => by
      subst e
      rw [h] at hq
      injection hq with hq
      subst hq
      rw [hc] at hcq
      cases hcq
    rw [World.putObj_heap_other hne]
    exact hq⟩
theorem KF.own {B B' : Nat} {x : Fx} {A C : World} {u : Value} {xs : List Int} (h : KF B x A C) (hu : Own A B' u xs) (hB : B ≤ B') (hne : ∀ k, u.ownBlock = some k → x.2.1.ownBlock ≠ some k) : Own C B' u xs := by
  obtain ⟨h1, h2⟩ := hu
  refine ⟨h1, ?_⟩
  rcases h2 with h2 | ⟨g, cap, cur, rfl, hg, hh, r⟩
  · exact .inl h2
  · exact .inr ⟨g, cap, cur, rfl, hg, h.keep g _ (Nat.le_trans hB hg) hh rfl (hne g rfl), r⟩
theorem rf_own (B : Nat) (L : List (Int × List Int)) (B0 : Nat) (pre : List Fx) (x : Fx) : OwnFrom B0 (fun (_ : Unit) W => RF B L pre x W) := fun _ W W' row h hg hr =>
  ⟨h.1, h.2.1, h.2.2.1, by
    obtain ⟨h1, h2⟩ := h.2.2.2
    refine ⟨h1, ?_⟩
    rcases h2 with h2 | ⟨g, cap, cur, e, hB, hh, r⟩
    · exact .inl h2
    · refine .inr ⟨g, cap, cur, e, hB, ?_, r⟩
      rw [hg.block g (Array.getElem?_eq_some_iff.1 hh).1 (fun e => by
        obtain ⟨o, ho, hc⟩ := (hr g e.symm).2
        rw [hh] at ho
        injection ho with ho
        subst ho
        cases hc)]
      exact hh⟩
set_option maxRecDepth 100000 in
set_option maxHeartbeats 1000000 in
theorem all_seq (a : Option Addr) (len cap : Nat) (xs : List Int) (L : List (Int × List Int)) (P : Nat → Nat) (E : Int) (b1 : Nat) (w : World) (hs : Sl w a len cap xs) (hl : len ≤ 16777216) (hF : Frs xs L P E) (hk : KT w) (hb1 : Blk w b1 23 [.slice a len cap]) :
    SeqR Fence.wide 2 Tryd.prog 30 #[.pointer (some ⟨b1, 0, none⟩)] encF (RF w.heap.size L) (KF w.heap.size) (fun ys => ys.map fxP = L) (fun ys => ∃ n, n ≤ L.length ∧ ys.map fxP = L.take n) w := by
  intro l0 J Jx W hW hJ hJx hY h0
  have HS := hide (hs.below hW)
  have HX := hide hs.hlen
  have HB := hide hs.hbyte
  have HF := hide hF
  have HK := hide (hk.on hW)
  have hc1 : W.cell? ⟨b1, 0, none⟩ = some (.slice a len cap) := by rw [(hb1.on hW).cell]; rfl
  have hsz := hW.size
  have HJ0 := hide h0
  clear hs hF hk hb1 hW h0
  refine callsIn_of_wp Tryd.func30 rfl trivial ?_ rfl
  simp only [Tryd.ntmps30, List.size_toArray, List.length_cons, List.length_nil, Nat.reduceAdd, Nat.reduceSub, Array.replicate_succ, Array.replicate_zero, List.push_toArray, List.append_toArray, List.nil_append, List.cons_append]
  gi_wp2_with fail
  refine ⟨trivial, (callsIn_wide.2 (clone_any _ _ _ xs W HS.out)).mono ?_⟩
  rintro _ w1 ⟨v, rfl, ho, hb⟩
  obtain ⟨ak, ck, rfl, hsk⟩ := ho.sl' HB.out (by rw [HX.out]; omega)
  have HJ1 := hide (hJ _ W w1 none HJ0.out (grown_none hb) (fun r e => by cases e))
  have HO1 := hide (ho.mono hsz)
  have HK1 := hide (HK.out.on hb)
  have hs1 := Nat.le_trans hsz hb.size
  have HKL := hide (fun k hk => (ho.lt2 k hk : k < w1.heap.size))
  rw [HX.out] at HO1 HKL
  rw [HX.out]
  clear ho hb hsk HJ0 HK hc1 HS
  gi_wp2_with fail
  try simp only [Act.put]
  gi_loopw [4] (fun p wr => ∃ (k : Nat) (pre : List Fx), k ≤ L.length ∧ p = .int .i64 (P k : Int) ∧ pre.map fxP = L.take k ∧ Hid (J pre wr) ∧ Hid (Own wr w.heap.size (.slice ak len ck) xs) ∧ Hid (KT wr) ∧ w1.heap.size ≤ wr.heap.size) (fun p _ => len - (intOf p).toNat)
  case atStart => exact ⟨0, [], Nat.zero_le _, by rw [HF.out.p0]; rfl, rfl, HJ1, HO1, HK1, Nat.le_refl _⟩
  case round =>
    obtain ⟨k, pre, hk, rfl, hpm, HJ, HO, HKT, hsw⟩ := hrel
    have HPM := hide hpm
    have hpl : pre.length = k := by
      have := congrArg List.length hpm
      rw [List.length_map, List.length_take] at this
      omega
    have HPL := hide hpl
    have hle := HF.out.le HB.out k hk
    rw [HX.out] at hle
    obtain ⟨hle1, hle2⟩ := hle
    have hsk := HO.out.sl' HB.out (by rw [HX.out]; omega)
    rw [HX.out] at hsk
    obtain ⟨ak', ck', eq', hsk⟩ := hsk
    injection eq' with eq1 _ eq3
    subst eq1 eq3
    have HR := hide (read11_any ak len ck xs (P k : Int) wr hsk HKT.out)
    clear hsk HJ1 HO1 HK1 hpm hpl
    by_cases hlt : k < L.length
    · obtain ⟨h1, h2, h3⟩ := HF.out.step k hlt
      have hPl := HF.out.lt HB.out k hlt
      have hPl2 := (HF.out.le HB.out (k + 1) hlt).1
      rw [HX.out] at h1 hPl2
      rw [h2] at HR
      have HG : Hid (((P (k + 1) : Int), (L.getD k (0, [])).2) = L.getD k (0, [])) := hide (by rw [← h3])
      obtain ⟨d, HD⟩ : ∃ d, Hid ((L.getD k (0, [])).2 = d) := ⟨_, hide rfl⟩
      rw [HD.out] at HR HG
      obtain ⟨q, HQ⟩ : ∃ q, Hid (P (k + 1) = q) := ⟨_, hide rfl⟩
      rw [HQ.out] at HR HG hPl hPl2
      obtain ⟨p, HP⟩ : ∃ p, Hid (P k = p) := ⟨_, hide rfl⟩
      rw [HP.out] at HR h1 hPl hle1 hle2
      rw [HP.out]
      clear h2 h3
      have hlt' : (p : Int) < (len : Int) := by omega
      gi_wp2_with fail
      refine ⟨trivial, (callsIn_wide.2 HR.out).mono ?_⟩
      rintro _ w6 ⟨v2, rfl, ho6, hb6⟩
      have hs6 := hb6.size
      have HJ6 := hide (hJ _ wr w6 none HJ.out (grown_none hb6) (fun r e => by cases e))
      have HO6 := hide (HO.out.below hb6)
      have HK6 := hide (HKT.out.on hb6)
      have HV2 := hide (fun j (hj : v2.ownBlock = some j) => ho6.lt j hj)
      have HRF : Hid (RF w.heap.size L pre ((q : Int), v2, d) w6) := hide ⟨by rw [HPL.out]; exact hlt, by rw [HPL.out]; exact HPM.out, by rw [HPL.out]; exact HG.out, ho6.mono (by omega)⟩
      clear ho6 hb6 HJ HO HKT HR
      obtain ⟨fn, tmps, assign, body, hy, hR⟩ := hY pre ((q : Int), v2, d) w6 HJ6.out HRF.out
      simp only [encF] at hy
      gi_wp2_with fail
      refine hR.mono ?_
      rintro r W7 (⟨rfl, hJ7, hk7⟩ | ⟨rfl, hJx7⟩)
      · have HJ7 := hide hJ7
        have HO7 := hide (hk7.own HO6.out (Nat.le_refl _) (fun j hj e => by have h1 := HKL.out j hj; have h2 := HV2.out j e; omega))
        have HK7 := hide (hk7.kt HK6.out)
        have hs7 : w1.heap.size ≤ W7.heap.size := by have := hk7.size; omega
        have HM7 : Hid ((pre ++ [((q : Int), v2, d)]).map fxP = L.take (k + 1)) := hide (by
          rw [List.map_append, HPM.out, take_snocL L k hlt, ← HG.out]
          rfl)
        clear hJ7 hk7 hy hR HJ6 HO6 HK6 hY HRF HV2
        gi_wp2
        try simp only [Act.put]
        go_roundw
        case rel => exact ⟨k + 1, _, hlt, by rw [HQ.out], HM7.out, HJ7, HO7, HK7, hs7⟩
        case measure => simp only [intOf]; omega
      · have HJx7 := hide hJx7
        have HM7 : Hid ((pre ++ [((q : Int), v2, d)]).map fxP = L.take (k + 1)) := hide (by
          rw [List.map_append, HPM.out, take_snocL L k hlt, ← HG.out]
          rfl)
        clear hJx7 hy hR
        gi_wp2
        refine bodyPost_ret (results_none rfl _ _ _) rfl ?_
        exact ⟨⟨_, rfl⟩, .inr ⟨_, ⟨k + 1, hlt, HM7.out⟩, HJx7.out⟩⟩
    · obtain rfl : k = L.length := by omega
      rw [List.take_length] at HPM
      rcases HF.out.fin with ⟨h1, h2⟩ | ⟨h1, h2, h3⟩
      · rw [HX.out] at h1
        rw [h1]
        clear HR h1
        gi_wp2
        go_end0
        exact ⟨⟨_, rfl⟩, .inl ⟨_, HPM.out, HJ.out⟩⟩
      · rw [h3] at HR
        rw [HX.out] at h1
        obtain ⟨p, HP⟩ : ∃ p, Hid (P L.length = p) := ⟨_, hide rfl⟩
        rw [HP.out] at h1 HR
        rw [HP.out]
        have hlt' : (p : Int) < (len : Int) := by omega
        have hE : (E != 0) = true := by simpa using h2
        clear h2 h3
        gi_wp2_with fail
        refine ⟨trivial, (callsIn_wide.2 HR.out).mono ?_⟩
        rintro _ w6 ⟨v2, rfl, ho6, hb6⟩
        have HJ6 := hide (hJ _ wr w6 none HJ.out (grown_none hb6) (fun r e => by cases e))
        clear ho6 hb6 HJ HO HKT HR
        gi_wp2
        refine ⟨(fun f h => by cases h), ?_⟩
        gi_wp2
        refine bodyPost_ret (results_none rfl _ _ _) rfl ?_
        exact ⟨⟨_, rfl⟩, .inl ⟨_, HPM.out, HJ6.out⟩⟩

end Go.Proofs.YtbkhlbaamjccjaaDoor
