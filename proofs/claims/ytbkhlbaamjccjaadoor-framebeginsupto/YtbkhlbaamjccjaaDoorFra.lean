/-
  The frames of bytes: the document's All and Whole.
-/
import Derived.Test.YtbkhlbaamjccjaaDoorFfr
import Derived.Test.YtbkhlbaamjccjaaDoorFrr
import Derived.Test.YtbkhlbaamjccjaaDoorFow
namespace Go.Proofs.YtbkhlbaamjccjaaDoor
open Go.RowKit
set_option linter.unusedVariables false
set_option linter.unusedSimpArgs false

/-- Slices of bytes of the call's own, one for each of these. -/
def Cts (W : World) (B : Nat) (vs : List Value) (ds : List (List Int)) : Prop := vs.length = ds.length ∧ ∀ i, i < ds.length → Own W B (vs.getD i undef) (ds.getD i [])
theorem Cts.nil (W : World) (B : Nat) : Cts W B [] [] := ⟨rfl, fun i hi => by simp at hi⟩
theorem Cts.below {W W' : World} {B : Nat} {vs : List Value} {ds : List (List Int)} (h : Cts W B vs ds) (hb : Below W.heap.size W W') : Cts W' B vs ds := ⟨h.1, fun i hi => (h.2 i hi).below hb⟩
theorem Cts.snoc {W : World} {B : Nat} {vs : List Value} {ds : List (List Int)} {u : Value} {d : List Int} (h : Cts W B vs ds) (hu : Own W B u d) : Cts W B (vs ++ [u]) (ds ++ [d]) := by
  refine ⟨by simp [h.1], fun i hi => ?_⟩
  by_cases hk : i < ds.length
  · have := h.2 i hk
    simpa [List.getD, List.getElem?_append_left hk, List.getElem?_append_left (show i < vs.length by rw [h.1]; exact hk)] using this
  · obtain rfl : i = ds.length := by simp at hi; omega
    have e1 : (vs ++ [u]).getD ds.length undef = u := by rw [← h.1]; simp [List.getD]
    have e2 : (ds ++ [d]).getD ds.length [] = d := by simp [List.getD]
    rw [e1, e2]
    exact hu
theorem Cts.kept {T : TypeId} {W W' : World} {B B' : Nat} {vs : List Value} {ds : List (List Int)} {v : Value} {ns : List Value} (h : Cts W B vs ds) (ho : OwnV T W B' v ns) (hT : 5 ≠ T) (hg : W.grownBy W' v.ownBlock) : Cts W' B vs ds :=
  ⟨h.1, fun i hi => (h.2 i hi).kept hg ((h.2 i hi).ne ho hT)⟩
/-- The ends of frames, as cells. -/
def eC (L : List (Int × List Int)) : List Value := L.map fun x => .int .i64 x.1
def dL (L : List (Int × List Int)) : List (List Int) := L.map (·.2)
theorem eC_length (L : List (Int × List Int)) : (eC L).length = L.length := by simp [eC]
theorem dL_length (L : List (Int × List Int)) : (dL L).length = L.length := by simp [dL]
theorem take_snocL (L : List (Int × List Int)) (k : Nat) (h : k < L.length) : L.take (k + 1) = L.take k ++ [L.getD k (0, [])] := by
  rw [List.take_succ_eq_append_getElem h]
  simp [List.getD, h]
theorem eC_snoc (L : List (Int × List Int)) (k : Nat) (h : k < L.length) : eC (L.take (k + 1)) = eC (L.take k) ++ [.int .i64 (L.getD k (0, [])).1] := by
  rw [take_snocL L k h]; simp [eC]
theorem dL_snoc (L : List (Int × List Int)) (k : Nat) (h : k < L.length) : dL (L.take (k + 1)) = dL (L.take k) ++ [(L.getD k (0, [])).2] := by
  rw [take_snocL L k h]; simp [dL]
theorem Own.one {w : World} {B : Nat} {v : Value} {xs : List Int} (h : Own w B v xs) : v.oneCell' = true := by
  rcases h.2 with ⟨rfl, _⟩ | ⟨g, cap, cur, rfl, _⟩ <;> rfl
/-- What is told of all frames. -/
structure Tld (w W : World) (o e : Value) (vs : List Value) (L : List (Int × List Int)) : Prop where
  out : OwnV 23 W w.heap.size o vs
  cts : Cts W w.heap.size vs (dL L)
  ends : OwnV 3 W w.heap.size e (eC L)
  bel : Below w.heap.size w W
set_option maxHeartbeats 1000000 in
theorem allR_any (a : Option Addr) (len cap : Nat) (xs : List Int) (L : List (Int × List Int)) (P : Nat → Nat) (E : Int) (w : World) (hs : Sl w a len cap xs) (hl : len ≤ 1048576) (hF : Frs xs L P E) :
    Calls Tryd.prog 20 #[.slice a len cap] w fun r w' => ∃ o e vs, r = .returned (.tuple #[o, e, .int .i64 E]) ∧ Tld w w' o e vs L := by
  have HS := hide hs
  have HX := hide hs.hlen
  have HB := hide hs.hbyte
  have HF := hide hF
  have hfew := hF.few hs.hbyte
  have hlL : L.length ≤ 1048576 := by have := hs.hlen; omega
  clear hs hF hfew
  go_enter Tryd.func20, Tryd.ntmps20
  go_wp2
  go_loopw [5, 6, 7] (fun o e p wr => ∃ (k : Nat) (vs : List Value), k ≤ L.length ∧ p = .int .i64 (P k : Int) ∧ Hid (Tld w wr o e vs (L.take k))) (fun _ _ p _ => len - (intOf p).toNat)
  case atStart => exact ⟨0, [], Nat.zero_le _, by rw [HF.out.p0]; rfl, hide ⟨OwnV.nil _ _ _, Cts.nil _ _, OwnV.nil _ _ _, Below.refl _ _⟩⟩
  case round =>
    obtain ⟨k, vs, hk, rfl, HT⟩ := hrel
    have hle := HF.out.le HB.out k hk
    rw [HX.out] at hle
    obtain ⟨hle1, hle2⟩ := hle
    obtain ⟨p, HP⟩ : ∃ p, Hid (P k = p) := ⟨_, hide rfl⟩
    have HR := hide (fun v (hv : Below w.heap.size w v) => readR11_any a len cap xs (P k : Int) v (HS.out.below hv))
    by_cases hlt : k < L.length
    · obtain ⟨h1, h2, h3⟩ := HF.out.step k hlt
      have HDT := hide (HF.out.data HB.out k hlt)
      have hPl := HF.out.lt HB.out k hlt
      have hPl2 := (HF.out.le HB.out (k + 1) hlt).1
      rw [HX.out] at h1 hPl2
      rw [h2] at HR
      have HEC := hide (eC_snoc L k hlt)
      have HDC := hide (dL_snoc L k hlt)
      rw [h3] at HEC
      obtain ⟨d, HD⟩ : ∃ d, Hid ((L.getD k (0, [])).2 = d) := ⟨_, hide rfl⟩
      rw [HD.out] at HR HDC HDT
      obtain ⟨q, HQ⟩ : ∃ q, Hid (P (k + 1) = q) := ⟨_, hide rfl⟩
      rw [HQ.out] at HR HEC hPl hPl2
      rw [HP.out] at HR h1 hPl hle1 hle2
      rw [HP.out]
      clear h2 h3
      have hlt' : (p : Int) < (len : Int) := by omega
      go_wp2_with fail
      refine (HR.out _ HT.out.bel).mono ?_
      rintro _ w1 ⟨v, rfl, ho, hb⟩
      have O1 := hide (ho.mono HT.out.bel.size)
      have T1 : Hid (Tld w w1 u5 u6 vs (L.take k)) := hide ⟨HT.out.out.below hb, HT.out.cts.below hb, HT.out.ends.below hb, on_below HT.out.bel hb⟩
      have hone := ho.one
      have hvl : vs.length ≤ 1048576 := by rw [HT.out.cts.1, dL_length, List.length_take]; omega
      clear ho hb HT HR
      go_wp2_with (refine step_one1 tinB hone rfl rfl ?_)
      intro w2 g2 hg2 hl2 hb2
      have T2 : Hid (Tld w w2 u5 u6 vs (L.take k)) := hide ⟨T1.out.out.below hb2, T1.out.cts.below hb2, T1.out.ends.below hb2, on_below T1.out.bel hb2⟩
      have O2 := hide (O1.out.below hb2)
      have G2 := hide hg2
      clear hg2 hb2 T1 O1
      go_wp2_with (refine step_app1 tinB hone rfl rfl rfl T2.out.out G2.out hvl T2.out.bel.size ?_)
      intro o3 w3 ho3 hg3
      have b3 := T2.out.bel.trans (Below.of_grown hg3 T2.out.bel.size (fun r e => (T2.out.out.lt r e).1))
      have c3 := (T2.out.cts.snoc O2.out).kept T2.out.out (by decide) hg3
      have e3 := T2.out.ends.kept hg3 (T2.out.ends.ne T2.out.out (by decide))
      have O3 := hide ho3
      have C3 := hide c3
      have E3 := hide e3
      have B3 := hide b3
      rw [← HDC.out] at C3
      clear ho3 hg3 c3 e3 b3 T2 O2 G2 hl2
      go_wp2_with (refine step_one1 tinI (u := .int .i64 (q : Int)) rfl rfl rfl ?_)
      intro w4 g4 hg4 hl4 hb4
      have O4 := hide (O3.out.below hb4)
      have C4 := hide (C3.out.below hb4)
      have E4 := hide (E3.out.below hb4)
      have B4 := hide (on_below B3.out hb4)
      have G4 := hide hg4
      clear hg4 hb4 O3 C3 E3 B3
      go_wp2_with (refine step_app1 tinI (u := .int .i64 (q : Int)) rfl rfl rfl rfl E4.out G4.out (by rw [eC_length, List.length_take]; omega) B4.out.size ?_)
      intro e5 w5 ho5 hg5
      have b5 := B4.out.trans (Below.of_grown hg5 B4.out.size (fun r e => (E4.out.lt r e).1))
      have c5 := C4.out.kept E4.out (by decide) hg5
      have o5 := O4.out.kept hg5 (O4.out.ne E4.out (by decide))
      rw [← HEC.out] at ho5
      have T5 : Hid (Tld w w5 o3 e5 (vs ++ [v]) (L.take (k + 1))) := hide ⟨o5, c5, ho5, b5⟩
      clear b5 c5 o5 ho5 hg5 O4 C4 E4 B4 G4
      go_wp2
      go_roundw
      case rel => exact ⟨k + 1, vs ++ [v], hlt, by rw [HQ.out], T5⟩
      case measure => simp only [intOf]; omega
    · obtain rfl : k = L.length := by omega
      rw [List.take_length] at HT
      rcases HF.out.fin with ⟨h1, rfl⟩ | ⟨h1, h2, h3⟩
      · rw [HX.out, HP.out] at h1
        rw [HP.out]
        subst h1
        clear HR
        go_wp2
        go_ret3
        exact ⟨u5, u6, vs, rfl, HT.out⟩
      · rw [h3] at HR
        rw [HX.out] at h1
        rw [HP.out] at h1 HR
        rw [HP.out]
        have hlt' : (p : Int) < (len : Int) := by omega
        have hE : (E != 0) = true := by simpa using h2
        clear h2 h3
        go_wp2_with fail
        refine (HR.out _ HT.out.bel).mono ?_
        rintro _ w1 ⟨v, rfl, ho, hb⟩
        have T1 : Hid (Tld w w1 u5 u6 vs L) := hide ⟨HT.out.out.below hb, HT.out.cts.below hb, HT.out.ends.below hb, on_below HT.out.bel hb⟩
        clear ho hb HT HR
        go_wp2
        go_ret3
        exact ⟨u5, u6, vs, rfl, T1.out⟩
set_option maxHeartbeats 1000000 in
theorem wholeR_any (a : Option Addr) (len cap : Nat) (xs : List Int) (L : List (Int × List Int)) (P : Nat → Nat) (E : Int) (w : World) (hs : Sl w a len cap xs) (hl : len ≤ 1048576) (hF : Frs xs L P E) :
    Calls Tryd.prog 22 #[.slice a len cap] w fun r w' => r = .returned (.tuple #[.int .i64 (P L.length : Int), .int .i64 E]) ∧ Below w.heap.size w w' := by
  have HA := hide (allR_any a len cap xs L P E w hs hl hF)
  have HF := hide hF
  have hfew := hF.few hs.hbyte
  have hlL : L.length ≤ 1048576 := by have := hs.hlen; omega
  obtain ⟨Z, HZ⟩ : ∃ Z, Hid (P L.length = Z) := ⟨_, hide rfl⟩
  rw [HZ.out]
  clear hs hF hfew
  go_enter Tryd.func22, Tryd.ntmps22
  go_wp2_with fail
  refine HA.out.mono ?_
  rintro _ w1 ⟨o, e, vs, rfl, T⟩
  obtain ⟨ae, ce, he⟩ := T.ends.slice
  subst he
  have HT := hide T
  rw [eC_length] at HT
  rw [eC_length]
  clear T HA
  by_cases h0 : L.length = 0
  · have hP : Z = 0 := by rw [← HZ.out, h0]; exact HF.out.p0
    subst hP
    rw [h0]
    go_wp2
    go_ret2
    exact ⟨rfl, HT.out.bel⟩
  · obtain ⟨g, rfl, _, hc⟩ := HT.out.ends.cell (L.length - 1) (by rw [eC_length]; omega)
    have e1 : (eC L)[L.length - 1]? = some (.int .i64 (Z : Int)) := by
      rw [← HZ.out]
      have h3 := (HF.out.step (L.length - 1) (by omega)).2.2
      rw [show L.length - 1 + 1 = L.length by omega] at h3
      rw [← h3]
      simp [eC, List.getD, show L.length - 1 < L.length by omega]
    rw [e1] at hc
    have hx := tinI.at g L.length ce (L.length - 1) ((L.length : Int) - 1) (by omega) (by omega)
    have h0' : ((L.length : Int) == 0) = false := by rw [beq_eq_false_iff_ne]; omega
    obtain ⟨K, HKK⟩ : ∃ K, Hid (L.length = K) := ⟨_, hide rfl⟩
    rw [HKK.out] at hc hx h0' hlL
    rw [HKK.out]
    clear e1
    go_wp2
    go_ret2
    exact ⟨rfl, HT.out.bel⟩

end Go.Proofs.YtbkhlbaamjccjaaDoor
