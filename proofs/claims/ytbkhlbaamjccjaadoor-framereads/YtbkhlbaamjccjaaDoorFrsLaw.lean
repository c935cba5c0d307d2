/-
  The walk of FrameReads.
-/
import Derived.Test.YtbkhlbaamjccjaaDoorFrr
import Derived.Test.YtbkhlbaamjccjaaDoorFsmLaw
namespace Go.Proofs.YtbkhlbaamjccjaaDoor
open Go.RowKit
set_option linter.unusedVariables false
set_option linter.unusedSimpArgs false

theorem Own.but {w w' : World} {B k : Nat} {v : Value} {xs : List Int} (h : Own w B v xs) (hb : But k w w') (hk : v.ownBlock ≠ some k) : Own w' B v xs := by
  obtain ⟨h1, h2⟩ := h
  refine ⟨h1, ?_⟩
  rcases h2 with h2 | ⟨g, cap, cur, e, hg, hh, r⟩
  · exact .inl h2
  · refine .inr ⟨g, cap, cur, e, hg, ?_, r⟩
    subst e
    rw [hb.block g (fun e => hk (by rw [← e]; rfl))]
    exact hh
/-- Only the block of a slice of the call's own has turned, if any. -/
def Spo (v : Value) (w w' : World) : Prop := w' = w ∨ ∃ g, v.ownBlock = some g ∧ But g w w'
theorem Spo.own {w w' : World} {B B2 : Nat} {u v : Value} {xs ys : List Int} (h : Spo v w w') (hv : ∀ k, v.ownBlock = some k → k < B2) (ho : Own w B2 u ys) : Own w' B2 u ys := by
  rcases h with rfl | ⟨g, hg, hb⟩
  · exact ho
  · refine ho.but hb fun e => ?_
    have h1 := hv g hg
    have h2 := ho.lt g e
    omega
theorem Spo.below {w0 w w' : World} {v : Value} (h : Spo v w w') (hv : ∀ k, v.ownBlock = some k → w0.heap.size ≤ k) (hb : Below w0.heap.size w0 w) : Below w0.heap.size w0 w' := by
  rcases h with rfl | ⟨g, hg, hbut⟩
  · exact hb
  · exact hb.trans (hbut.below (hv g hg))
theorem Spo.sl {w w' : World} {B : Nat} {v : Value} (h : Spo v w w') (hv : ∀ k, v.ownBlock = some k → B ≤ k) {a : Option Addr} {len cap : Nat} {xs : List Int} (hs : Sl w a len cap xs) (ha : 0 < len → ∀ x, a = some x → x.block < B) : Sl w' a len cap xs := by
  rcases h with rfl | ⟨g, hg, hbut⟩
  · exact hs
  · exact hs.but hbut fun h0 x hx e => by have := ha h0 x hx; have := hv g hg; omega
theorem spoil_any (v : Value) (xs : List Int) (B : Nat) (w : World) (ho : Own w B v xs) (hb : isB xs) (hn : xs.length ≤ 140737488355328) :
    Calls Tryd.prog 17 #[v] w fun e w' => e = .returned (.tuple #[]) ∧ Spo v w w' := by
  have h2 := ho.2
  rcases h2 with ⟨e, hx⟩ | ⟨g, cap, cur, e, _⟩
  · subst e
    exact (spoilL_nil 0 none w).mono fun _ _ h => ⟨h.1, .inl h.2⟩
  · subst e
    exact (spoilL_own g xs.length cap xs B w ho rfl hn).mono fun _ _ h => ⟨h.1, .inr ⟨g, rfl, h.2⟩⟩
theorem Own.lt2 {w : World} {B : Nat} {v : Value} {xs : List Int} (h : Own w B v xs) : ∀ k, v.ownBlock = some k → k < w.heap.size := fun k hk => (World.ownsRow.lt h k hk).2
theorem frR_bd (xs : List Int) (p : Int) (h : isB xs) : isB (frR xs p).1 ∧ (frR xs p).1.length ≤ xs.length := by
  unfold frR
  by_cases h1 : p < 0 ∨ (xs.length : Int) < p
  · rw [if_pos h1]; exact ⟨by simp [isB], by simp⟩
  rw [if_neg h1]
  by_cases h2 : (xs.length : Int) - p < 8
  · rw [if_pos h2]; exact ⟨by simp [isB], by simp⟩
  rw [if_neg h2]
  by_cases h3 : 1048576 < frN xs p.toNat
  · rw [if_pos h3]; exact ⟨by simp [isB], by simp⟩
  rw [if_neg h3]
  by_cases h4 : (xs.length : Int) - p - 8 < frN xs p.toNat
  · rw [if_pos h4]; exact ⟨by simp [isB], by simp⟩
  rw [if_neg h4]
  by_cases h5 : frC xs p.toNat ≠ frS xs p.toNat
  · rw [if_pos h5]; exact ⟨by simp [isB], by simp⟩
  rw [if_neg h5]
  refine ⟨(h.drop _).take _, ?_⟩
  show (frD _ _).length ≤ _
  unfold frD
  rw [List.length_take, List.length_drop]
  omega
theorem neqS (s : ByteArray) : (s.toList == s.toList) = true := by simp
set_option maxRecDepth 100000 in
set_option maxHeartbeats 1000000 in
theorem reads_walk (a : Option Addr) (len cap : Nat) (xs : List Int) (p : Int) (w : World) (hs : Sl w a len cap xs) (hl : cap ≤ 140737488351232) (hk : KT w) :
    Calls Tryd.prog 5 #[.slice a len cap, .int .i64 p] w fun e w' => e = .returned (.bool true) ∧ Below w.heap.size w w' := by
  have HS := hide hs
  have hcap := hs.hcap
  have HX := hide hs.hlen
  have HXB := hide hs.hbyte
  have HK := hide hk
  have HDB := hide (frR_bd xs p hs.hbyte)
  have HDL : Hid ((frR xs p).1.length ≤ 140737488355328) := hide (by have := (frR_bd xs p hs.hbyte).2; have := hs.hlen; have := hs.hreach; omega)
  clear hs hk
  go_enter Tryd.func5, Tryd.ntmps5
  have ho0 : Own (w.alloc (.cells #[] 5)) w.heap.size (.slice (some ⟨w.heap.size, 0, none⟩) 0 0) [] := Own.of_blk (xs := []) (Blk.made w 5 []) (Nat.le_refl _) (by simp)
  have hb0 : Below w.heap.size w (w.alloc (.cells #[] 5)) := (Below.refl _ _).alloc (Nat.le_refl _) _
  go_wp2_with (refine step_append rfl rfl rfl ho0 (HS.out.below hb0) (by simp; omega) (by simp) ?_)
  intro v1 w1 ho1 hg1 hn1
  have hb1 : Below w.heap.size w w1 := hb0.trans (Below.of_grown hg1 hb0.size ho0.lt)
  have hv1n : v1 ≠ .slice none 0 0 := fun e => by have e2 := (hn1 e).1; cases e2
  clear hg1 hn1 ho0 hb0
  have HO1 := hide ho1
  clear ho1
  go_wp2_with (refine step_append rfl rfl rfl (HO1.out.alloc _) (one_slW _ 90 (by omega)) (by simp [HX.out]; omega) (by have := hb1.size; simp; omega) ?_)
  intro v2 w2 ho2 hg2 hn2
  have HB2 := hide ((hb1.alloc hb1.size _).trans (Below.of_grown hg2 (by have := hb1.size; simp; omega) HO1.out.lt))
  have hv2n : v2 ≠ .slice none 0 0 := fun e => hv1n (hn2 e).1
  clear hg2 hn2 HO1
  rw [List.nil_append] at ho2
  obtain ⟨gk, ck, rfl, hgk0, hin⟩ := ho2.sl (HXB.out.append (by simp [isB])) (by simp [HX.out]; omega) hv2n
  have hlx : (xs ++ [90]).length = len + 1 := by simp [HX.out]
  rw [hlx] at hin ⊢
  clear hlx
  have hkc := hin.hcap
  have hkm := hin.hmax
  have IK := hide hin
  have hpre := hin.take len (by omega)
  rw [List.take_append_of_le_length (by rw [HX.out]; exact Nat.le_refl _), List.take_of_length_le (by rw [HX.out]; exact Nat.le_refl _)] at hpre
  have PK := hide hpre
  have HW2 := hide HB2.out.size
  clear hin hpre ho2 hv1n hv2n hb1
  have hsl := sl_to gk (len + 1) ck len (len : Int) rfl (by omega)
  have K2 := hide (HK.out.on HB2.out)
  have S2 := hide (HS.out.below HB2.out)
  have hst := str_5aW xs
  have hsz : ¬ 9223372036854775807 < (str xs).size + 1 := by rw [str_size, HX.out]; omega
  have R3 := hide (read11_any _ _ _ xs p _ PK.out K2.out)
  obtain ⟨d, HD⟩ : ∃ d, Hid ((frR xs p).1 = d) := ⟨_, hide rfl⟩
  obtain ⟨n, HN⟩ : ∃ n, Hid ((frR xs p).2.1 = n) := ⟨_, hide rfl⟩
  obtain ⟨e, HE⟩ : ∃ e, Hid ((frR xs p).2.2 = e) := ⟨_, hide rfl⟩
  rw [HD.out, HN.out, HE.out] at R3
  rw [HD.out] at HDB HDL
  go_wp2_with fail
  refine R3.out.mono ?_
  rintro _ w3 ⟨v3, rfl, ho3, hb3⟩
  have PK3 := hide (PK.out.below hb3)
  have IK3 := hide (IK.out.below hb3)
  have K3 := hide (K2.out.on hb3)
  have R4 := hide (read11_any _ _ _ xs p _ PK3.out K3.out)
  rw [HD.out, HN.out, HE.out] at R4
  have O3 := hide ho3
  have B3 := hide (on_below HB2.out hb3)
  have l3 := hb3.size
  clear R3 hb3 PK IK K2 ho3 S2
  go_wp2_with fail
  refine R4.out.mono ?_
  rintro _ w4 ⟨v4, rfl, ho4, hb4⟩
  have O34 := hide (O3.out.below hb4)
  have O4 := hide ho4
  have IK4 := hide (IK3.out.below hb4)
  have B4 := hide (on_below B3.out hb4)
  have S4 := hide (HS.out.below B4.out)
  have R5 := hide (readR11_any _ _ _ xs p _ S4.out)
  rw [HD.out, HN.out, HE.out] at R5
  have l4 := hb4.size
  have HV3 := hide O3.out.lt2
  clear R4 hb4 PK3 IK3 K3 ho4 B3 O3
  go_wp2_with fail
  refine R5.out.mono ?_
  rintro _ w5 ⟨v5, rfl, ho5, hb5⟩
  have O35 := hide (O34.out.below hb5)
  have O45 := hide (O4.out.below hb5)
  have O5 := hide ho5
  have IK5 := hide (IK4.out.below hb5)
  have B5 := hide (on_below B4.out hb5)
  have S5 := hide (HS.out.below B5.out)
  have l5 := hb5.size
  have HV4 := hide O4.out.lt2
  clear R5 hb5 IK4 B4 S4 O34 O4 ho5
  obtain ⟨a3, c3, rfl, s3⟩ := O35.out.sl' HDB.out.1 HDL.out
  obtain ⟨a4, c4, rfl, s4⟩ := O45.out.sl' HDB.out.1 HDL.out
  obtain ⟨a5, c5, rfl, s5⟩ := O5.out.sl' HDB.out.1 HDL.out
  have S35 := hide s3
  have S45 := hide s4
  have S55 := hide s5
  clear s3 s4 s5
  go_wp2_with (first | (refine step_toStr rfl rfl S35.out ?_) | (refine step_toStr rfl rfl S55.out ?_) | (refine step_toStr rfl rfl IK5.out ?_) | (refine step_toStr rfl rfl S5.out ?_) | fail)
  refine (spoil_any _ d _ _ O35.out HDB.out.1 HDL.out).mono ?_
  rintro _ w6 ⟨rfl, hsp⟩
  have lt3 := HV3.out
  have O46 := hide (hsp.own (B := w2.heap.size) (xs := d) lt3 O45.out)
  have O56 := hide (hsp.own (B := w2.heap.size) (xs := d) (fun k hk => Nat.lt_of_lt_of_le (lt3 k hk) l4) O5.out)
  have B6 := hide (hsp.below (w0 := w) (fun k hk => Nat.le_trans HW2.out (O35.out.lt k hk)) B5.out)
  clear hsp lt3 HV3 HV4 O35 O45 O5 B5 S35 S45 S55 IK5 S5
  obtain ⟨a4', c4', e4, s4⟩ := O46.out.sl' HDB.out.1 HDL.out
  injection e4 with e41 e42 e43
  subst e41 e43
  obtain ⟨a5', c5', e5, s5⟩ := O56.out.sl' HDB.out.1 HDL.out
  injection e5 with e51 e52 e53
  subst e51 e53
  have S46 := hide s4
  have S56 := hide s5
  clear s4 s5 e42 e52
  go_wp2_with (first | (refine step_toStr rfl rfl S46.out ?_) | (refine step_toStr rfl rfl S56.out ?_) | (go_at_call 15; refine (namesL _).mono ?_; rintro _ w' ⟨rfl, rfl⟩))
  go_ret
  exact ⟨rfl, B6.out⟩
theorem reads_law (a : Option Addr) (len cap : Nat) (xs : List Int) (p : Int) (w : World) (hs : Sl w a len cap xs) (hl : cap ≤ 140737488351232) (hp : (Lit.int .i64 p).wf = true) (hk : KT w) :
    Calls Tryd.prog 5 #[.slice a len cap, .int .i64 p] w fun e w' => e = .returned (.bool true) ∧ Below w.heap.size w w' := reads_walk a len cap xs p w hs hl hk

end Go.Proofs.YtbkhlbaamjccjaaDoor
