/-
  The walk of OctetPuts.
-/
import Derived.Test.YtpfpgimhnmnhlaaPutD
import Derived.Test.YtpfpgimhnmnhlaaReads
import Derived.Deep.RegionHeld3
namespace Go.Proofs.Ytpfpgimhnmnhlaa
open Go.RowKit
set_option linter.unusedVariables false

/-- What stays through the whole law. -/
structure St (w : World) (a : Option Addr) (len cap : Nat) (xs : List Int) (g cap2 gd : Nat) (ds : List Int) (w' : World) : Prop where
  i : Sl w' (some ⟨g, 0, none⟩) (len + 1) cap2 (xs ++ [90])
  o : Sl w' (some ⟨g, 0, none⟩) len cap2 xs
  b : Sl w' a len cap xs
  r : Row w' gd 25 ds
  bel : Below w.heap.size w w'
theorem St.next {w : World} {a : Option Addr} {len cap : Nat} {xs : List Int} {g cap2 gd : Nat} {ds : List Int} {w1 w2 : World} (h : St w a len cap xs g cap2 gd ds w1) (hb : Below w1.heap.size w1 w2) : St w a len cap xs g cap2 gd ds w2 :=
  ⟨h.i.below hb, h.o.below hb, h.b.below hb, h.r.below hb h.r.lt, h.bel.trans (hb.mono h.bel.size)⟩

/-- Two answers x (block g3) and y (block g4) to one call, and what lies behind (block g5): put finds them right, and nothing that was there has turned. -/
theorem put_line {w2 w3 w4 w5 : World} {a : Option Addr} {len cap g3 g4 g5 n : Nat} {xs ys : List Int} (hb : Sl w2 a len cap xs) (hl : len ≤ 140737488351232) (hn : n ≤ 64) (hy : ys.length = n) (hyb : isB ys)
    (hb3 : Below w2.heap.size w2 w3) (hg3 : w2.heap.size ≤ g3) (hr3 : Row w3 g3 5 (xs ++ ys)) (hb4 : Below w3.heap.size w3 w4) (hg4 : w3.heap.size ≤ g4) (hr4 : Row w4 g4 5 (xs ++ ys))
    (hb5 : Below w4.heap.size w4 w5) {t5 : TypeId} (hr5 : Row w5 g5 t5 ys) :
    Calls Try.prog 9 #[.slice (some ⟨g3, 0, none⟩) (len + n) (len + n), .slice (some ⟨g4, 0, none⟩) (len + n) (len + n), .slice a len cap, .slice (some ⟨g5, 0, none⟩) n n] w5 fun e w' => e = .returned (.bool true) ∧ Below w2.heap.size w2 w' := by
  have hbs : isB (xs ++ ys) := hb.hbyte.append hyb
  have hll : (xs ++ ys).length = len + n := by rw [List.length_append, hb.hlen, hy]
  have b23 := hb3
  have b24 : Below w2.heap.size w2 w4 := hb3.trans (hb4.mono hb3.size)
  have b25 : Below w2.heap.size w2 w5 := b24.trans (hb5.mono b24.size)
  have b35 : Below w3.heap.size w3 w5 := hb4.trans (hb5.mono hb4.size)
  have r3 : Row w5 g3 5 (xs ++ ys) := hr3.below b35 hr3.lt
  have r4 : Row w5 g4 5 (xs ++ ys) := hr4.below hb5 hr4.lt
  have s4 := r4.sl hbs (by omega)
  have s5 := hr5.sl hyb (by omega)
  rw [hll] at s4
  rw [hy] at s5
  refine (put_any g3 (len + n) _ _ _ _ _ _ _ _ (xs ++ ys) xs ys w5 r3 hbs hll (by omega) rfl s4 (hb.below b25) s5 ?_).mono ?_
  · intro _ x hx
    cases hx
    have := hr3.lt
    show g4 ≠ g3
    omega
  · rintro e w6 ⟨rfl, hbut⟩
    exact ⟨rfl, b25.trans (hbut.below hg3)⟩

theorem range_next {w1 w2 : World} {g : Nat} {t : TypeId} {ds : List Int} (h : Row w1 g t ds) (hb : Below w1.heap.size w1 w2) : w2.rangeAt g 0 (ds.map (Value.int .u8)) := by
  intro j v hj
  have hr := h.below hb h.lt
  have hjl : j < ds.length := by
    have := (List.getElem?_eq_some_iff.1 hj).1
    simpa using this
  rw [Nat.zero_add, hr.cell j hjl, ← hj]
  simp [List.getD, hjl]

section
variable {P : Program} {ops : Array Oper} {Q : Exit → Act → World → Prop} {md : Region.Mode} {S : World → Prop}
/-- An operation of a region that yields v in every world that meets S is taken first; its slot is named. -/
theorem takeH (i : Nat) (t : Tmp) (v : Value) {oi : Oper} {fuel : Nat} {listed : Array Bool} {a : Act} {w : World} (hS : S w) (hi : ops[i]? = some oi) (hd : oi.dst = some t)
    (hs : Region.noSelect ops = true) (hf : Region.free md ops listed i = true) (hr : (Region.ready md ops listed).contains i = true)
    (hQ : ∀ c a w, Q (.panic c) (a.put oi.dst v) w → Q (.panic c) a w) (hy : YieldsIf P ops S oi v a)
    (h : wpAnyH P md ops Q S fuel (listed.setIfInBounds i true) (a.put (some t) v) w) : wpAnyH P md ops Q S (fuel + 1) listed a w :=
  wpAnyH_take hi hs hf hr hQ hy hS (by rw [hd]; exact h)
end

set_option maxRecDepth 100000 in
set_option maxHeartbeats 2000000 in
theorem puts_walk (a : Option Addr) (len cap : Nat) (xs : List Int) (v : Int) (ds : List Int) (w : World) (hs : Sl w a len cap xs) (hl : cap ≤ 140737488351232) (hv0 : 0 ≤ v) (hv1 : v < 18446744073709551616) (hd : ds.length = 32) (hdb : isB ds) :
    Calls Try.prog 3 #[.slice a len cap, .int .u64 v, .agg (bs ds)] w fun e w' => e = .returned (.bool true) ∧ Below w.heap.size w w' := by
  have HS := hide hs
  have hcap := hs.hcap
  have hlen := hs.hlen
  have HD := hide hd
  clear hs hd
  go_enter Try.func3, Try.ntmps3
  go_wp2_with (refine step_box25 rfl rfl ?_)
  intro u gd hrd hgd hbu
  have HSu := hide (HS.out.below hbu)
  have ho0 : Own (u.alloc (.cells #[] 5)) u.heap.size (.slice (some ⟨u.heap.size, 0, none⟩) 0 0) [] :=
    World.ownsRow_made u #[] 0 (Nat.le_refl _) (Nat.zero_le _) rfl
  have hb0 : Below u.heap.size u (u.alloc (.cells #[] 5)) := (Below.refl _ _).alloc (Nat.le_refl _) _
  go_wp2_with (refine step_append rfl rfl rfl ho0 (HSu.out.below hb0) (by simp; omega) (by simp) ?_)
  intro v1 w1 ho1 hg1 hn1
  have hb1 : Below u.heap.size u w1 := hb0.trans (Below.of_grown hg1 hb0.size ho0.lt)
  have hv1n : v1 ≠ .slice none 0 0 := fun e => by have e2 := (hn1 e).1; cases e2
  clear hg1 hn1 ho0 hb0
  have hr2 : Sl (w1.alloc (.cells #[.int .u8 90] 5)) (some ⟨w1.heap.size, 0, none⟩) 1 1 [90] := (Row.made w1 5 [90]).sl (by simp [isB]) (by simp)
  go_wp2_with (refine step_append rfl rfl rfl (ho1.alloc _) hr2 (by simp; omega) (by have := hb1.size; simp; omega) ?_)
  intro v2 w2 ho2 hg2 hn2
  have hb2 : Below u.heap.size u w2 := (hb1.alloc hb1.size _).trans (Below.of_grown hg2 (by have := hb1.size; simp; omega) ho1.lt)
  have hv2n : v2 ≠ .slice none 0 0 := fun e => hv1n (hn2 e).1
  clear hg2 hn2 ho1 hr2
  rw [List.nil_append] at ho2
  obtain ⟨g, cap2, rfl, hgB, hin⟩ := ho2.sl (HS.out.hbyte.append (by simp [isB])) (by simp; omega) hv2n
  clear hv1n hv2n ho2 hb1
  have hown : Sl w2 (some ⟨g, 0, none⟩) len cap2 xs := by have := hin.pre; rwa [hlen] at this
  have hbb : Sl w2 a len cap xs := HSu.out.below hb2
  have hin' : Sl w2 (some ⟨g, 0, none⟩) (len + 1) cap2 (xs ++ [90]) := by have := hin; simpa [hlen] using this
  have hc2 : len + 1 ≤ cap2 := hin'.hcap
  have hc3 : cap2 ≤ 9223372036854775807 := hin'.hmax
  have hlx : (xs ++ [90]).length = len + 1 := by simp [hlen]
  rw [hlx]
  have H2 : St w a len cap xs g cap2 gd ds w2 := ⟨hin', hown, hbb, hrd.below hb2 hrd.lt, hbu.trans (hb2.mono hbu.size)⟩
  clear hin hin' hown hbb hlx hrd hb2 hgd hgB hbu HSu
  go_wp2_with fail
  rw [IntKind.wrap_u16]
  refine (putUint16_any _ _ _ xs (v % 65536) _ H2.o (by omega) (by omega)).mono ?_
  rintro e w3 ⟨g3, rfl, hg3, hr3, hb3⟩
  go_wp2_with fail
  rw [IntKind.wrap_u16]
  refine (putUint16_any _ _ _ xs (v % 65536) _ (H2.next hb3).o (by omega) (by omega)).mono ?_
  rintro e w4 ⟨g4, rfl, hg4, hr4, hb4⟩
  go_wp2_with fail
  refine (number_ref (v % 65536) 2 _ (by omega) (by omega) (by omega)).mono ?_
  rintro e w5 ⟨g5, rfl, hg5, hr5, hb5⟩
  go_wp2_with fail
  refine (put_line (n := 2) H2.b (by omega) (by omega) (be_length _ _) (be_isB _ _) hb3 hg3 hr3 hb4 hg4 hr4 hb5 hr5).mono ?_
  rintro e w6 ⟨rfl, hb6⟩
  have H6 := H2.next hb6
  clear hb3 hg3 hr3 hb4 hg4 hr4 hb5 hg5 hr5 hb6 H2
  go_wp2_with fail
  refine (putUint32_any _ _ _ xs (v % 4294967296) _ H6.o (by omega) (by omega)).mono ?_
  rintro e w7 ⟨g7, rfl, hg7, hr7, hb7⟩
  go_wp2_with fail
  refine (putUint32_any _ _ _ xs (v % 4294967296) _ (H6.next hb7).o (by omega) (by omega)).mono ?_
  rintro e w8 ⟨g8, rfl, hg8, hr8, hb8⟩
  go_wp2_with fail
  refine (number_ref (v % 4294967296) 4 _ (by omega) (by omega) (by omega)).mono ?_
  rintro e w9 ⟨g9, rfl, hg9, hr9, hb9⟩
  go_wp2_with fail
  refine (put_line (n := 4) H6.b (by omega) (by omega) (be_length _ _) (be_isB _ _) hb7 hg7 hr7 hb8 hg8 hr8 hb9 hr9).mono ?_
  rintro e w10 ⟨rfl, hb10⟩
  have H10 := H6.next hb10
  clear hb7 hg7 hr7 hb8 hg8 hr8 hb9 hg9 hr9 hb10 H6
  go_wp2_with fail
  refine (putUint64_any _ _ _ xs v _ H10.o hv0 hv1).mono ?_
  rintro e w11 ⟨g11, rfl, hg11, hr11, hb11⟩
  go_wp2_with fail
  refine (putUint64_any _ _ _ xs v _ (H10.next hb11).o hv0 hv1).mono ?_
  rintro e w12 ⟨g12, rfl, hg12, hr12, hb12⟩
  go_wp2_with fail
  refine (number_ref v 8 _ (by omega) hv0 hv1).mono ?_
  rintro e w13 ⟨g13, rfl, hg13, hr13, hb13⟩
  go_wp2_with fail
  refine (put_line (n := 8) H10.b (by omega) (by omega) (be_length _ _) (be_isB _ _) hb11 hg11 hr11 hb12 hg12 hr12 hb13 hr13).mono ?_
  rintro e w14 ⟨rfl, hb14⟩
  have H14 := H10.next hb14
  clear hb11 hg11 hr11 hb12 hg12 hr12 hb13 hg13 hr13 hb14 H10
  go_wp2
  have HSt := H14.next ((Below.refl _ _).drew)
  have hk2 := range_next HSt.r (Below.refl _ _)
  have hi25 : (Try.prog.info? 25).map (·.size) = some (ds.map (Value.int .u8)).length := by rw [List.length_map, HD.out]; exact info25
  refine wp_region_noPanic ?_
  refine wp_region_held_drew (S := fun w' => w'.rangeAt gd 0 (ds.map (Value.int .u8))) (by kernel_rfl) hk2 (fun hHeld => ?_)
  refine takeH 0 61 (.bool true) hHeld rfl rfl (by kernel_rfl) (by kernel_rfl) (by kernel_rfl) (fun _ _ _ h => h) (Or.inl ⟨by rfl, fun w _ => by go_simp⟩) ?_
  simp only [Act.put, List.setIfInBounds_toArray, List.set_cons_zero, List.set_cons_succ]
  refine takeH 1 62 (.bool true) hHeld rfl rfl (by kernel_rfl) (by kernel_rfl) (by kernel_rfl) (fun _ _ _ h => h) (Or.inl ⟨by rfl, fun w _ => by go_simp⟩) ?_
  simp only [Act.put, List.setIfInBounds_toArray, List.set_cons_zero, List.set_cons_succ]
  refine takeH 2 63 (.slice (some ⟨g, 0, none⟩) len cap2) hHeld rfl rfl (by kernel_rfl) (by kernel_rfl) (by kernel_rfl) (fun _ _ _ h => h) (Or.inl ⟨by rfl, fun w _ => by go_simp⟩) ?_
  simp only [Act.put, List.setIfInBounds_toArray, List.set_cons_zero, List.set_cons_succ]
  refine takeH 3 64 (.agg (bs ds)) hHeld rfl rfl (by kernel_rfl) (by kernel_rfl) (by kernel_rfl) (fun _ _ _ h => h) (yieldsIf_load_mid (by rfl) _ _ rfl gd 0 rfl _ _ (fun w h => h) und25 rfl hi25) ?_
  simp only [Act.put, List.setIfInBounds_toArray, List.set_cons_zero, List.set_cons_succ]
  refine takeH 5 66 (.slice (some ⟨g, 0, none⟩) len cap2) hHeld rfl rfl (by kernel_rfl) (by kernel_rfl) (by kernel_rfl) (fun _ _ _ h => h) (Or.inl ⟨by rfl, fun w _ => by go_simp⟩) ?_
  simp only [Act.put, List.setIfInBounds_toArray, List.set_cons_zero, List.set_cons_succ]
  refine takeH 6 67 (.agg (bs ds)) hHeld rfl rfl (by kernel_rfl) (by kernel_rfl) (by kernel_rfl) (fun _ _ _ h => h) (yieldsIf_load_mid (by rfl) _ _ rfl gd 0 rfl _ _ (fun w h => h) und25 rfl hi25) ?_
  simp only [Act.put, List.setIfInBounds_toArray, List.set_cons_zero, List.set_cons_succ]
  refine takeH 8 69 (.slice a len cap) hHeld rfl rfl (by kernel_rfl) (by kernel_rfl) (by kernel_rfl) (fun _ _ _ h => h) (Or.inl ⟨by rfl, fun w _ => by go_simp⟩) ?_
  simp only [Act.put, List.setIfInBounds_toArray, List.set_cons_zero, List.set_cons_succ]
  refine takeH 9 70 (.slice (some ⟨gd, 0, none⟩) 32 32) hHeld rfl rfl (by kernel_rfl) (by kernel_rfl) (by kernel_rfl) (fun _ _ _ h => h) (Or.inl ⟨by rfl, fun w _ => by go_simp⟩) ?_
  simp only [Act.put, List.setIfInBounds_toArray, List.set_cons_zero, List.set_cons_succ]
  refine wpAnyH_ready (rs := [4]) (by kernel_rfl) (by simp) (AllReadyH.cons rfl (fun K hK => ?_) AllReadyH.nil)
  rw [if_pos (by rfl)]
  go_simp
  refine (putDigest_any _ _ _ xs ds _ HSt.o HD.out hdb).mono ?_
  rintro e w15 ⟨g15, rfl, hg15, hr15, hb15⟩
  refine hK.out _ _ (range_next HSt.r hb15) (fun hHeld => ?_)
  clear hK K
  refine wpAnyH_ready (rs := [7]) (by kernel_rfl) (by simp) (AllReadyH.cons rfl (fun K hK => ?_) AllReadyH.nil)
  rw [if_pos (by rfl)]
  go_simp
  refine (putDigest_any _ _ _ xs ds _ (HSt.next hb15).o HD.out hdb).mono ?_
  rintro e w16 ⟨g16, rfl, hg16, hr16, hb16⟩
  refine hK.out _ _ (range_next HSt.r (hb15.trans (hb16.mono hb15.size))) (fun hHeld => ?_)
  clear hK K
  refine wpAnyH_ready (rs := [10]) (by kernel_rfl) (by simp) (AllReadyH.cons rfl (fun K hK => ?_) AllReadyH.nil)
  rw [if_pos (by rfl)]
  go_simp
  refine (put_line (n := 32) HSt.b (by omega) (by omega) HD.out hdb hb15 hg15 hr15 hb16 hg16 hr16 (Below.refl _ _) ((HSt.next (hb15.trans (hb16.mono hb15.size))).r)).mono ?_
  rintro e w17 ⟨rfl, hb17⟩
  refine hK.out _ _ (range_next HSt.r hb17) (fun hHeld => ?_)
  have HF := HSt.next hb17
  clear hK K hb15 hg15 hr15 hb16 hg16 hr16 hb17
  refine takeH 11 72 (.bool true) hHeld rfl rfl (by kernel_rfl) (by kernel_rfl) (by kernel_rfl) (fun _ _ _ h => h) (Or.inl ⟨by rfl, fun w _ => by go_simp⟩) ?_
  simp only [Act.put, List.setIfInBounds_toArray, List.set_cons_zero, List.set_cons_succ]
  refine takeH 12 9 (.bool true) hHeld rfl rfl (by kernel_rfl) (by kernel_rfl) (by kernel_rfl) (fun _ _ _ h => h) (Or.inl ⟨by rfl, fun w _ => by go_simp⟩) ?_
  simp only [Act.put, List.setIfInBounds_toArray, List.set_cons_zero, List.set_cons_succ]
  refine wpAnyH_done (by kernel_rfl) ?_ _
  refine NoPanic.normal ?_
  have hss : (str xs).size ≤ 140737488351232 := by rw [str_size]; omega
  have hse := str_90 xs
  have hbel := hide HF.bel
  have HI := hide HF.i
  have HB := hide HF.b
  clear HSt H14 hk2 hi25 hHeld HF
  go_wp2_with (first | (refine step_toStr rfl rfl HI.out ?_) | (refine step_toStr rfl rfl HB.out ?_))
  go_ret
  exact ⟨rfl, hbel.out⟩

end Go.Proofs.Ytpfpgimhnmnhlaa
