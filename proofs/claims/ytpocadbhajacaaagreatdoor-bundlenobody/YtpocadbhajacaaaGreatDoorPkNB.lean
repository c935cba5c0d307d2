/-
  Texts one behind the other: Bwj Skr Bwk Bnb Bnc BnbLaw FrA5.
-/
import Derived.Test.YtpocadbhajacaaaGreatDoorPkNA
import Derived.Test.YtpocadbhajacaaaGreatDoorSgb
import Derived.Test.YtpocadbhajacaaaGreatDoorKnb
import Derived.Test.YtpocadbhajacaaaGreatDoorFr
import Derived.Deep.Strs

/-
  Put.
-/
namespace Go.Proofs.YtpocadbhajacaaaGreatDoor
open Go.RowKit Go.Shelf
set_option linter.unusedVariables false
set_option linter.unusedSimpArgs false
set_option maxRecDepth 100000

/-- What Put answers on a height of n leaves. -/
def puEb (rs : List Rw) (h i : Int) (n : Nat) (x : List Int) : Int := if bnE h i = 0 then (if x.length ≤ 65535 then (if i = (n : Int) then reEb rs h.toNat (bnP h i) else 40) else 3) else 2
def puSb (s : Nat) (rs : List Rw) (h i : Int) (n : Nat) (x : List Int) : List Rw := if puEb rs h i n x = 0 then puW s rs (bnP h i) (lfB x) else rs
theorem be_two (n : Nat) (h : n ≤ 65535) : be (n : Int) 2 = [((n / 256 : Nat) : Int), ((n % 256 : Nat) : Int)] := by
  unfold be
  simp only [List.range_succ, List.range_zero, List.nil_append, List.cons_append, List.map_cons, List.map_nil]
  rw [show ((256 : Int) ^ (2 - 1 - 0)) = 256 from rfl, show ((256 : Int) ^ (2 - 1 - 1)) = 1 from rfl]
  have e1 : (n : Int) / 256 % 256 = ((n / 256 : Nat) : Int) := by omega
  have e2 : (n : Int) / 1 % 256 = ((n % 256 : Nat) : Int) := by omega
  rw [e1, e2]
theorem lfB_be (x : List Int) (h : x.length ≤ 65535) : be (x.length : Int) 2 ++ x = lfB x := by
  rw [be_two _ h]
  rfl
theorem lfB_isB {x : List Int} (h : x.length ≤ 65535) (hx : isB x) : isB (lfB x) := by
  intro y hy
  unfold lfB at hy
  rcases List.mem_cons.1 hy with rfl | hy
  · omega
  · rcases List.mem_cons.1 hy with rfl | hy
    · omega
    · exact hx y hy
set_option maxHeartbeats 400000 in
theorem putUint16_any (a : Option Addr) (len cap : Nat) (xs : List Int) (v : Int) (w : World) (hs : Sl w a len cap xs) (hv : 0 ≤ v) (hv2 : v < 65536) :
    Calls Tryz.prog 34 #[.slice a len cap, .int .u16 v] w fun e w' => ∃ g, e = .returned (.slice (some ⟨g, 0, none⟩) (len + 2) (len + 2)) ∧ w.heap.size ≤ g ∧ Blk w' g 5 (u8s (xs ++ be v 2)) ∧ Below w.heap.size w w' := by
  have HS := hide hs
  have hw : IntKind.u64.wrap v = v := by rw [IntKind.wrap_u64]; exact Int.emod_eq_of_lt hv (by omega)
  clear hs
  go_enter Tryz.func34, Tryz.ntmps34
  go_wp2_with (go_at_call 66; refine (putNumber_any _ _ _ xs v 2 _ HS.out (by omega) hv (by omega)).mono ?_; rintro e w1 ⟨g, rfl, hg, hrow, hb⟩)
  go_ret
  exact ⟨g, rfl, hg, hrow, hb⟩
theorem Sl.chsB {S : Nat → Prop} {w w' : World} {a : Option Addr} {len cap : Nat} {xs : List Int} (h : Sl w a len cap xs) (hc : Chs S w w') (hk : 0 < len → ∀ y, a = some y → ¬ S y.block) : Sl w' a len cap xs := by
  obtain ⟨h1, h2, h3, h4, h5, h6, h7⟩ := h
  refine ⟨h1, h2, h3, h4, h5, h6, fun h => ?_⟩
  obtain ⟨b, off, e, hce⟩ := h7 h
  refine ⟨b, off, e, fun i hi => ?_⟩
  rw [World.cell?_of_block (w := w) (hc.block b (World.block_lt_of_cell? w _ (hce i hi)) (hk h ⟨b, off, none⟩ e))]
  exact hce i hi
section
variable (d s : Nat) (rs : List Rw) (D : Dm) (w : World) (hd : DkAt w d s rs D)
include hd
set_option maxHeartbeats 2000000 in
theorem putB_any (h i : Int) (n : Nat) (a : Option Addr) (l c : Nat) (x : List Int) (hs : Sl w a l c x) (hap : 0 < l → ∀ y, a = some y → ¬ D.own d y.block) (ht : PT w) (hn : bnE h 0 = 0 → CnL (play rs) h.toNat n) (hwt : wt rs + 2 * x.length + 80 ≤ 1099511000000) :
    Calls Tryz.prog 10 #[.pointer (some ⟨d, 0, none⟩), .int .i64 h, .int .i64 i, .slice a l c] w fun r w' => r = .returned (.int .i64 (puEb rs h i n x)) ∧ OpR w w' d s D (puSb s rs h i n x) := by
  have HD := hide hd
  have HT := hide ht
  have HW := hide hwt
  have hxl := hs.hlen
  have hxr := hs.hreach
  have hxb := hs.hbyte
  have HS := hide hs
  have HAP := hide hap
  have HMD := hide (madeB_any d s rs D w hd)
  have HCU : Hid (∀ W : World, DkAt W d s rs D → PT W → Calls Tryz.prog 18 #[.pointer (some ⟨d, 0, none⟩), .int .i64 h] W fun r w' => r = .returned (.tuple #[.int .i64 (if bnE h 0 = 0 then (n : Int) else 0), .int .i64 (bnE h 0)]) ∧ Below W.heap.size W w') := hide (fun W h1 h2 => countB_any d s rs D W h1 h n h2 hn (by omega))
  have HNM : Hid (∀ W : World, PT W → Calls Tryz.prog 32 #[.int .i64 h, .int .i64 i] W fun r w' => r = .returned (.tuple #[.string (bnP h i), .int .i64 (bnE h i)]) ∧ Below W.heap.size W w') := hide (fun W h2 => bname_any h i W h2)
  by_cases he : bnE h i = 0
  · obtain ⟨H, I, rfl, rfl, hh, hI⟩ := nmO'_nats (bnE_zero he)
    have he0 : bnE (H : Int) 0 = 0 := bnE_nat (I := 0) hh (by decide)
    rw [he, bnP_nat hh hI] at HNM
    rw [he0, if_pos rfl] at HCU
    have hnb : n ≤ 1048576 := (hn he0).le
    by_cases hxn : x.length ≤ 65535
    · have hli : ¬ (65535 : Int) < (l : Int) := by omega
      have e1 : puEb rs (H : Int) (I : Int) n x = if (I : Int) = (n : Int) then reEb rs H (lfN H (I / 2 ^ H)) else 40 := by
        unfold puEb
        rw [if_pos he, if_pos hxn, bnP_nat hh hI, Int.toNat_natCast]
      have hnm := lfN_nm (k := I / 2 ^ H) hh (by have := Nat.div_le_self I (2 ^ H); omega)
      unfold puSb
      rw [e1, bnP_nat hh hI]
      generalize lfN H (I / 2 ^ H) = nm at *
      by_cases hin : I = n
      · subst hin
        rw [if_pos rfl]
        have HRD : Hid (∀ W : World, DkAt W d s rs D → PT W → Calls Tryz.prog 33 #[.pointer (some ⟨d, 0, none⟩), .int .i64 (H : Int), .string nm] W fun r w' => r = .returned (.int .i64 (reEb rs H nm)) ∧ OpR W w' d s D (reSb rs H nm)) := hide (fun W hW hP => readyB_any d s rs D W hW H nm hh hnm hP (by have := HW.out; omega))
        by_cases hr : reEb rs H nm = 0
        · have e2 : reSb rs H nm = crS rs nm := by unfold reEb at hr; unfold reSb; split at hr; cases hr; rename_i h0; rw [if_neg h0]
          rw [hr, e2] at HRD
          rw [hr, if_pos rfl]
          have hfe : fE (crS rs nm) nm = 0 := by
            rw [crS_is hnm]
            split
            · have e3 : play (rs ++ [rCr nm]) = upd (play rs) nm (some []) := by rw [play_snoc, do_cr]
              simp [fE, hnm, e3, upd_same]
            · rename_i h0
              cases hp : play rs nm with
              | none => exact absurd hp h0
              | some ys => simp [fE, hnm, hp]
          have hwc : wt (crS rs nm) ≤ wt rs + 1 := by
            rw [crS_is hnm]
            split
            · rw [wt_app]; simp [wt, rCr]
            · omega
          have HAP2 : Hid (∀ (W : World) (D1 : Dm) (a : Option Addr) (l c : Nat), DkAt W d s (crS rs nm) D1 → Sl W a l c (lfB x) → Calls Tryz.prog 27 #[.pointer (some ⟨d, 0, none⟩), .string nm, .slice a l c] W fun r w' => r = .returned (.int .i64 0) ∧ OpR W w' d s D1 (puW s rs nm (lfB x))) := hide (fun W D1 a l c hW hS => by
            have := append_any d s (crS rs nm) D1 W hW nm a l c (lfB x) hS (by have := HW.out; rw [lfB_len]; omega)
            rw [hfe] at this
            exact this)
          have HX := hide hxl
          have HXB := hide (lfB_isB hxn hxb)
          have HBE := hide (lfB_be x hxn)
          have hlu : IntKind.u16.wrap (l : Int) = (l : Int) := by rw [IntKind.wrap_u16]; omega
          have hl5 : l ≤ 65535 := by omega
          clear hr e2 hfe hwc hnm hn hI hh he he0 hd ht hwt e1 hs hap
          go_enter Tryz.func10, Tryz.ntmps10
          go_wp2_with (go_at_call 31; refine HMD.out.mono ?_; rintro r w' ⟨rfl, hw'⟩; subst w')
          refine (HNM.out _ HT.out).mono ?_
          rintro r w1 ⟨rfl, hb1⟩
          have HB1 := hide hb1
          clear hb1
          go_wp2_with fail
          refine (HCU.out _ (HD.out.below HB1.out) (HT.out.below HB1.out)).mono ?_
          rintro r w2 ⟨rfl, hb2⟩
          have HB2 := hide (on_below HB1.out hb2)
          clear hb2
          go_wp2_with fail
          refine (HRD.out _ (HD.out.below HB2.out) (HT.out.below HB2.out)).mono ?_
          rintro r w4 ⟨rfl, ho⟩
          obtain ⟨D1, a1, a2, a3, a4⟩ := ho
          have hsl : Sl w4 a l c x := ((HS.out.below HB2.out).chsB a2 (fun h0 y hy => HAP.out h0 y hy))
          have HSL := hide hsl
          have HA1 := hide a1
          have HOC : Hid (∀ w5 : World, OpR w4 w5 d s D1 (puW s rs nm (lfB x)) → OpR w w5 d s D (puW s rs nm (lfB x))) := hide (fun w5 h5 => OpR.pre HB2.out (OpR.comp a2 a3 a4 h5))
          clear a1 a2 a3 a4 hsl
          go_wp2_with fail
          refine (putUint16_any none 0 0 [] (l : Int) _ ⟨rfl, Nat.le_refl _, by omega, by omega, (fun x hx => by simp at hx), fun _ => ⟨rfl, rfl⟩, fun h => absurd h (by omega)⟩ (by omega) (by omega)).mono ?_
          rintro r w5 ⟨g, rfl, hg, hrow, hb5⟩
          rw [List.nil_append] at hrow
          have hown : Own w5 w4.heap.size (.slice (some ⟨g, 0, none⟩) (0 + 2) (0 + 2)) (be (l : Int) 2) := by
            have := Own.of_blkF hrow hg (by rw [be_length]; decide)
            rw [be_length] at this
            exact this
          have HO5 := hide hown
          have HB5 := hide hb5
          have HSL5 := hide (HSL.out.below hb5)
          clear hb5 hrow hown
          go_wp2_with (refine step_append rfl rfl rfl HO5.out HSL5.out (by rw [be_length]; omega) HB5.out.size ?_)
          intro v6 w6 ho6 hgr6 _
          have hbw : Below w4.heap.size w4 w6 := HB5.out.grown hgr6 HB5.out.size (fun k hk => HO5.out.lt k hk)
          rw [← HX.out, HBE.out] at ho6
          obtain ⟨va, vc, hv6, hs6⟩ := ho6.sl' HXB.out (by rw [lfB_len, HX.out]; omega)
          subst hv6
          have HS6 := hide hs6
          have HA6 := hide (HA1.out.below hbw)
          have HBW := hide hbw
          clear ho6 hgr6 hs6 hbw
          go_wp2_with fail
          refine (HAP2.out _ _ _ _ _ HA6.out HS6.out).mono ?_
          rintro r w7 ⟨rfl, ho7⟩
          have HO7 := hide (HOC.out _ (OpR.pre HBW.out ho7))
          clear ho7
          go_wp2
          go_ret
          exact ⟨rfl, HO7.out⟩
        · have e2 : reSb rs H nm = rs := by unfold reEb at hr; unfold reSb; split at hr; rename_i h0; rw [if_pos h0]; exact absurd rfl hr
          rw [e2] at HRD
          rw [if_neg hr]
          clear e2 hnm hn hI hh he he0 hd ht hwt e1 hs hap
          generalize reEb rs H nm = er at *
          go_enter Tryz.func10, Tryz.ntmps10
          go_wp2_with (go_at_call 31; refine HMD.out.mono ?_; rintro r w' ⟨rfl, hw'⟩; subst w')
          refine (HNM.out _ HT.out).mono ?_
          rintro r w1 ⟨rfl, hb1⟩
          have HB1 := hide hb1
          clear hb1
          go_wp2_with fail
          refine (HCU.out _ (HD.out.below HB1.out) (HT.out.below HB1.out)).mono ?_
          rintro r w2 ⟨rfl, hb2⟩
          have HB2 := hide (on_below HB1.out hb2)
          clear hb2
          go_wp2_with fail
          refine (HRD.out _ (HD.out.below HB2.out) (HT.out.below HB2.out)).mono ?_
          rintro r w4 ⟨rfl, ho⟩
          go_wp2
          go_ret
          exact ⟨rfl, ho.pre HB2.out⟩
      · have hin2 : ¬ (I : Int) = (n : Int) := by omega
        rw [if_neg hin2, if_neg (by decide)]
        clear hnm hn hI hh he he0 hd ht hwt e1 hs hap
        go_enter Tryz.func10, Tryz.ntmps10
        go_wp2_with (go_at_call 31; refine HMD.out.mono ?_; rintro r w' ⟨rfl, hw'⟩; subst w')
        refine (HNM.out _ HT.out).mono ?_
        rintro r w1 ⟨rfl, hb1⟩
        have HB1 := hide hb1
        clear hb1
        go_wp2_with fail
        refine (HCU.out _ (HD.out.below HB1.out) (HT.out.below HB1.out)).mono ?_
        rintro r w2 ⟨rfl, hb2⟩
        have HB2 := hide (on_below HB1.out hb2)
        clear hb2
        go_wp2
        go_ret
        exact ⟨rfl, OpR.below HD.out HB2.out⟩
    · have hli : (65535 : Int) < (l : Int) := by omega
      have e1 : puEb rs (H : Int) (I : Int) n x = 3 := by unfold puEb; rw [if_pos he, if_neg hxn]
      unfold puSb
      rw [e1, if_neg (by decide)]
      generalize lfN H (I / 2 ^ H) = nm at *
      clear hn hI hh he he0 hd ht hwt e1 hs hap HCU
      go_enter Tryz.func10, Tryz.ntmps10
      go_wp2_with (go_at_call 31; refine HMD.out.mono ?_; rintro r w' ⟨rfl, hw'⟩; subst w')
      refine (HNM.out _ HT.out).mono ?_
      rintro r w1 ⟨rfl, hb1⟩
      have HB1 := hide hb1
      clear hb1
      go_wp2
      go_ret
      exact ⟨rfl, OpR.below HD.out HB1.out⟩
  · have e1 : puEb rs h i n x = 2 := by unfold puEb; rw [if_neg he]
    unfold puSb
    rw [e1, if_neg (by decide)]
    have e3 : bnE h i = 2 := by rcases bnE_bin h i with k | k; exact absurd k he; exact k
    rw [e3] at HNM
    generalize bnP h i = nm at *
    clear hd ht hn hwt he e1 e3 hs hap HCU
    go_enter Tryz.func10, Tryz.ntmps10
    go_wp2_with (go_at_call 31; refine HMD.out.mono ?_; rintro r w' ⟨rfl, hw'⟩; subst w')
    refine (HNM.out _ HT.out).mono ?_
    rintro r w1 ⟨rfl, hb1⟩
    have HB1 := hide hb1
    clear hb1
    go_wp2
    go_ret
    exact ⟨rfl, OpR.below HD.out HB1.out⟩
end

end Go.Proofs.YtpocadbhajacaaaGreatDoor

/-
  A region that draws its order inside a round of a range over a function: walked by hand, as outside (as Kr), and what is held only till a given operation comes (as Ou).
-/

namespace Go.Proofs.YtpocadbhajacaaaGreatDoor
open Go.RowKit Go.Shelf
set_option linter.unusedVariables false

section
variable {F : Fence} {n : Nat} {P : Program} {ops : Array Oper} {md : Region.Mode}
theorem wpOpIn_of_wpOp (hF : WideF F) (hd : ops.all noDefer = true) {i : Nat} {a : Act} {K K' : Act → World → Prop} {Q : Exit → Act → World → Prop} {w : World} (hL : ¬ LetsOut Q) (h : ∀ a w', K a w' → K' a w') (hh : wpOp P ops Q i K a w) : wpOpIn F n P ops Q i K' a w := by
  unfold wpOp at hh
  unfold wpOpIn
  split
  · rename_i ho; simp only [ho] at hh; exact h _ _ hh
  · rename_i o ho
    simp only [ho] at hh
    split
    · rename_i hw
      simp only [hw, if_true] at hh
      rcases hh with hh | ⟨_, hh⟩
      · refine lift_op hF (fun c hc => ?_) (Oper.wp_mono h hh)
        have h1 := Array.all_eq_true.1 hd
        obtain ⟨hi, he⟩ := Array.getElem?_eq_some_iff.1 ho
        have h2 := h1 i hi
        rw [he] at h2
        simp [noDefer, hc] at h2
      · exact absurd hh hL
    · rename_i hw; simp only [hw] at hh; exact ⟨fun f _ => hF.fn f, h _ _ hh⟩
theorem wpAnyIn_of_any (hF : WideF F) (hd : ops.all noDefer = true) {Q : Exit → Act → World → Prop} (hL : ¬ LetsOut Q) : ∀ (fuel : Nat) (listed : Array Bool) (a : Act) (w : World), wpAny P md ops Q fuel listed a w → wpAnyIn F n P md ops Q fuel listed a w
  | 0, _, _, _, h => h
  | fuel + 1, _, _, _, h => ⟨h.1, fun i hi => wpOpIn_of_wpOp hF hd hL (fun a' w' h' => wpAnyIn_of_any hF hd hL fuel _ a' w' h') (h.2 i hi)⟩
/-- Only the normal way out. -/
def Only (R : Act → World → Prop) : Exit → Act → World → Prop
  | .normal, a, w => R a w
  | _, _, _ => False
theorem Only.imp {Q : Exit → Act → World → Prop} : ∀ (e : Exit) (a : Act) (w : World), Only (fun a w => Q .normal a w) e a w → Q e a w := fun e a w h => by
  cases e <;> first | exact h | exact (h : False).elim
theorem Only.normal {Q : Exit → Act → World → Prop} {a : Act} {w : World} (h : Q .normal a w) : Only (fun a w => Q .normal a w) .normal a w := h
theorem Only.out (R : Act → World → Prop) : ¬ LetsOut (Only R) := by rintro ⟨a, w, h⟩; exact h
theorem wpIn_region_held {S : World → Prop} {id : Nat} {Q : Exit → Act → World → Prop} {a : Act} {w : World} (hF : WideF F) (hm : P.follows .mixedOrders = true) (hd : ops.all noDefer = true) (hS : S w.drew)
    (h : S w.drew → wpAnyH P .any ops (Only (fun a w => Q .normal a w)) S ops.size (Array.replicate ops.size false) a w.drew) : (Code.region id ops true).wpIn F n P Q a w :=
  Code.wpIn_mono Only.imp (wpIn_region_any hm (wpAnyIn_of_any hF hd (Only.out _) _ _ _ _ (wpAny_of_held _ _ _ _ (h hS))))
theorem wpIn_region_U {S : World → Prop} {q id : Nat} {Q : Exit → Act → World → Prop} {a : Act} {w : World} (hF : WideF F) (hm : P.follows .mixedOrders = true) (hd : ops.all noDefer = true)
    (h : wpAnyU P .any ops (Only (fun a w => Q .normal a w)) S q ops.size (Array.replicate ops.size false) a w.drew) : (Code.region id ops true).wpIn F n P Q a w :=
  Code.wpIn_mono Only.imp (wpIn_region_any hm (wpAnyIn_of_any hF hd (Only.out _) _ _ _ _ (wpAny_of_U _ _ _ _ h)))
end

end Go.Proofs.YtpocadbhajacaaaGreatDoor

/-
  Read: a leaf's bytes.
-/
namespace Go.Proofs.YtpocadbhajacaaaGreatDoor
open Go.RowKit Go.Shelf
set_option linter.unusedVariables false
set_option linter.unusedSimpArgs false
set_option maxRecDepth 100000

/-- The leaf that is asked for, if it is there. -/
def rdK (rs : List Rw) (h i : Int) : Nat := i.toNat % 2 ^ h.toNat
def rdL (rs : List Rw) (h i : Int) : List (List Int) := wl (2 ^ h.toNat) (fl (play rs) (bnP h i))
/-- What Read tells. -/
def rdEb (rs : List Rw) (h i : Int) : Int := if bnE h i = 0 then (if rdK rs h i < (rdL rs h i).length then 0 else 121) else 2
def rdBb (rs : List Rw) (h i : Int) : List Int := if rdEb rs h i = 0 then (rdL rs h i).getD (rdK rs h i) [] else []
/-- What stands while a leaf is looked for. -/
structure ZR (w W : World) (b3 b4 b5 b6 b7 d H I : Nat) : Prop where
  c3 : Blk W b3 26 [.pointer (some ⟨d, 0, none⟩)]
  c4 : Blk W b4 3 [.int .i64 (H : Int)]
  c5 : Blk W b5 3 [.int .i64 (I : Int)]
  c6 : Blk W b6 31 [.slice none 0 0]
  c7 : Blk W b7 36 [.int .i64 0]
  le : w.heap.size ≤ b6 ∧ w.heap.size ≤ b7
  bel : Below w.heap.size w W
theorem ZR.ck {w W W' : World} {b3 b4 b5 b6 b7 d H I : Nat} (h : ZR w W b3 b4 b5 b6 b7 d H I) (hk : CK W W') (hb : Below w.heap.size w W') : ZR w W' b3 b4 b5 b6 b7 d H I := ⟨h.c3.ck hk, h.c4.ck hk, h.c5.ck hk, h.c6.ck hk, h.c7.ck hk, h.le, hb⟩
theorem ZR.on {w W W' : World} {b3 b4 b5 b6 b7 d H I : Nat} (h : ZR w W b3 b4 b5 b6 b7 d H I) (hb : Below W.heap.size W W') : ZR w W' b3 b4 b5 b6 b7 d H I := h.ck (CK.below hb) (on_below h.bel hb)
/-- What a found leaf leaves. -/
structure ZF (w W : World) (b6 b7 : Nat) (v : Value) (e : Int) (x : List Int) : Prop where
  c6 : Blk W b6 31 [v]
  c7 : Blk W b7 36 [.int .i64 e]
  own : Own W w.heap.size v x
  bel : Below w.heap.size w W
theorem ZF.ck {w W W' : World} {b6 b7 : Nat} {v : Value} {e : Int} {x : List Int} (h : ZF w W b6 b7 v e x) (hk : CK W W') (hb : Below w.heap.size w W') : ZF w W' b6 b7 v e x := ⟨h.c6.ck hk, h.c7.ck hk, h.own.ck hk, hb⟩
theorem ZR.new (w : World) (d : Nat) (h i : Int) : ∃ W, W = (((((w.alloc (.cells #[.pointer (some ⟨d, 0, none⟩)] 26)).alloc (.cells #[.int .i64 h] 3)).alloc (.cells #[.int .i64 i] 3)).alloc (.cells #[.slice none 0 0] 31)).alloc (.cells #[.int .i64 0] 36)) ∧
    Blk W w.heap.size 26 [.pointer (some ⟨d, 0, none⟩)] ∧ Blk W (w.heap.size + 1) 3 [.int .i64 h] ∧ Blk W (w.heap.size + 1 + 1) 3 [.int .i64 i] ∧ Blk W (w.heap.size + 1 + 1 + 1) 31 [.slice none 0 0] ∧ Blk W (w.heap.size + 1 + 1 + 1 + 1) 36 [.int .i64 0] ∧ Below w.heap.size w W := by
  refine ⟨_, rfl, ?_⟩
  have b1 : Below w.heap.size w (w.alloc (.cells #[.pointer (some ⟨d, 0, none⟩)] 26)) := (Below.refl _ _).alloc (Nat.le_refl _) _
  have B1 : Blk (w.alloc (.cells #[.pointer (some ⟨d, 0, none⟩)] 26)) w.heap.size 26 [.pointer (some ⟨d, 0, none⟩)] := Blk.made _ _ _
  have z1 : (w.alloc (.cells #[.pointer (some ⟨d, 0, none⟩)] 26)).heap.size = w.heap.size + 1 := World.size_alloc _ _
  generalize w.alloc (.cells #[.pointer (some ⟨d, 0, none⟩)] 26) = W1 at *
  have b2 : Below W1.heap.size W1 (W1.alloc (.cells #[.int .i64 h] 3)) := (Below.refl _ _).alloc (Nat.le_refl _) _
  have B2 : Blk (W1.alloc (.cells #[.int .i64 h] 3)) W1.heap.size 3 [.int .i64 h] := Blk.made _ _ _
  have z2 : (W1.alloc (.cells #[.int .i64 h] 3)).heap.size = W1.heap.size + 1 := World.size_alloc _ _
  generalize W1.alloc (.cells #[.int .i64 h] 3) = W2 at *
  have b3 : Below W2.heap.size W2 (W2.alloc (.cells #[.int .i64 i] 3)) := (Below.refl _ _).alloc (Nat.le_refl _) _
  have B3 : Blk (W2.alloc (.cells #[.int .i64 i] 3)) W2.heap.size 3 [.int .i64 i] := Blk.made _ _ _
  have z3 : (W2.alloc (.cells #[.int .i64 i] 3)).heap.size = W2.heap.size + 1 := World.size_alloc _ _
  generalize W2.alloc (.cells #[.int .i64 i] 3) = W3 at *
  have b4 : Below W3.heap.size W3 (W3.alloc (.cells #[.slice none 0 0] 31)) := (Below.refl _ _).alloc (Nat.le_refl _) _
  have B4 : Blk (W3.alloc (.cells #[.slice none 0 0] 31)) W3.heap.size 31 [.slice none 0 0] := Blk.made _ _ _
  have z4 : (W3.alloc (.cells #[.slice none 0 0] 31)).heap.size = W3.heap.size + 1 := World.size_alloc _ _
  generalize W3.alloc (.cells #[.slice none 0 0] 31) = W4 at *
  have b5 : Below W4.heap.size W4 (W4.alloc (.cells #[.int .i64 0] 36)) := (Below.refl _ _).alloc (Nat.le_refl _) _
  have B5 : Blk (W4.alloc (.cells #[.int .i64 0] 36)) W4.heap.size 36 [.int .i64 0] := Blk.made _ _ _
  rw [z1] at B2 z2
  rw [z2] at B3 z3
  rw [z3] at B4 z4
  rw [z4] at B5
  exact ⟨(((B1.on b2).on b3).on b4).on b5, ((B2.on b3).on b4).on b5, (B3.on b4).on b5, B4.on b5, B5, on_below (on_below (on_below (on_below b1 b2) b3) b4) b5⟩
theorem own_down {w : World} {B B' : Nat} {v : Value} {xs : List Int} (h : Own w B v xs) (hB : B' ≤ B) : Own w B' v xs := by
  obtain ⟨h1, h2⟩ := h
  refine ⟨h1, ?_⟩
  rcases h2 with h2 | ⟨g, cap, cur, e, hg, r⟩
  · exact .inl h2
  · exact .inr ⟨g, cap, cur, e, Nat.le_trans hB hg, r⟩
section
variable (d s : Nat) (rs : List Rw) (D : Dm) (w : World) (hd : DkAt w d s rs D)
include hd
set_option maxHeartbeats 4000000 in
theorem readB_ok (H I : Nat) (hh : hB H) (hI : I < 1048576) (ht : PT w) (hwt : wt rs ≤ 1099511000000) :
    Calls Tryz.prog 14 #[.pointer (some ⟨d, 0, none⟩), .int .i64 (H : Int), .int .i64 (I : Int)] w fun r w' => ∃ v, r = .returned (.tuple #[v, .int .i64 (rdEb rs H I)]) ∧ Own w' w.heap.size v (rdBb rs H I) ∧ Below w.heap.size w w' := by
  have he := bnE_nat hh hI
  have hrk : rdK rs (H : Int) (I : Int) = I % 2 ^ H := by unfold rdK; simp only [Int.toNat_natCast]
  have hrl : rdL rs (H : Int) (I : Int) = wl (2 ^ H) (fl (play rs) (lfN H (I / 2 ^ H))) := by unfold rdL; rw [bnP_nat hh hI]; simp only [Int.toNat_natCast]
  have hre : rdEb rs (H : Int) (I : Int) = if I % 2 ^ H < (wl (2 ^ H) (fl (play rs) (lfN H (I / 2 ^ H)))).length then 0 else 121 := by unfold rdEb; rw [if_pos he, hrk, hrl]
  have hrb : rdBb rs (H : Int) (I : Int) = if I % 2 ^ H < (wl (2 ^ H) (fl (play rs) (lfN H (I / 2 ^ H)))).length then (wl (2 ^ H) (fl (play rs) (lfN H (I / 2 ^ H)))).getD (I % 2 ^ H) [] else [] := by
    unfold rdBb
    rw [hre]
    split <;> simp_all
  rw [hre, hrb]
  have HNM : Hid (∀ W : World, PT W → Calls Tryz.prog 32 #[.int .i64 (H : Int), .int .i64 (I : Int)] W fun r w' => r = .returned (.tuple #[.string (lfN H (I / 2 ^ H)), .int .i64 0]) ∧ Below W.heap.size W w') := hide (fun W h2 => by
    have := bname_any (H : Int) (I : Int) W h2
    rw [bnP_nat hh hI, he] at this
    exact this)
  clear hre hrb hrk hrl he
  have HMD : Hid (∀ W : World, DkAt W d s rs D → Calls Tryz.prog 31 #[.pointer (some ⟨d, 0, none⟩)] W fun r w' => r = .returned (.bool true) ∧ w' = W) := hide (fun W hW => madeB_any d s rs D W hW)
  have HSQ0 : Hid (∀ (nm : ByteArray) (V : World) (gd gh gn B : Nat), WAt V d s rs D gd gh gn H nm B → SeqM Fence.wide 3 Tryz.prog 77 #[.pointer (some ⟨gd, 0, none⟩), .pointer (some ⟨gn, 0, none⟩), .pointer (some ⟨gh, 0, none⟩)] encW (RW nm (wl (2 ^ H) (fl (play rs) nm))) (fun _ => KB B (FD d D)) (fun ys => ys = wls nm (wl (2 ^ H) (fl (play rs) nm)) (wl (2 ^ H) (fl (play rs) nm)).length) (fun ys => ∃ k, k ≤ (wl (2 ^ H) (fl (play rs) nm)).length ∧ ys = wls nm (wl (2 ^ H) (fl (play rs) nm)) k) V) := hide (fun nm V gd gh gn B hA => (whole_seq d s rs D gd gh gn H nm B V hA hh hwt).toM)
  generalize lfN H (I / 2 ^ H) = nm at *
  have HSQ1 := hide (HSQ0.out nm)
  clear HSQ0
  obtain ⟨P, HP⟩ : ∃ P, Hid (2 ^ H = P) := ⟨_, hide rfl⟩
  have HWP := hide (wrap_powB hh HP.out)
  have HWQ : Hid (IntKind.i64.wrap (2 ^ H) = (P : Int)) := hide (by
    have e : ((2 : Int) ^ H) = (P : Int) := by rw [← HP.out]; simp [Int.natCast_pow]
    rw [e]
    have := hh.pow
    exact wrap_in _ (by omega) (by rw [← HP.out]; omega))
  have hP := hh.pow
  have hbb := hd.byB nm
  have HRD0 : Hid (∀ (k : Nat), k < (wl (2 ^ H) (fl (play rs) nm)).length → ∀ (W : World), DkAt W d s rs D → Calls Tryz.prog 50 #[.pointer (some ⟨d, 0, none⟩), .string nm, .int .i64 ((offL (wl (2 ^ H) (fl (play rs) nm)) k + 2 : Nat) : Int), .int .i64 ((((wl (2 ^ H) (fl (play rs) nm)).getD k []).length : Nat) : Int)] W fun e w' => ∃ v, e = .returned (.tuple #[v, .int .i64 0]) ∧ Own w' W.heap.size v ((wl (2 ^ H) (fl (play rs) nm)).getD k []) ∧ Below W.heap.size W w') := hide (fun k hk W hW => by
    have hnx := offL_next hbb hk
    obtain ⟨t, ht⟩ := wl_at hbb hk
    have := read_any d s rs D W hW nm ((offL (wl (2 ^ H) (fl (play rs) nm)) k + 2 : Nat) : Int) ((((wl (2 ^ H) (fl (play rs) nm)).getD k []).length : Nat) : Int) hwt
    obtain ⟨e1, e2⟩ := rq_in hW nm (offL (wl (2 ^ H) (fl (play rs) nm)) k + 2) ((wl (2 ^ H) (fl (play rs) nm)).getD k []).length (by omega)
    have hf : fE rs nm = 0 := by
      by_cases hf : fE rs nm = 0
      · exact hf
      · have h0 := fE_fl hW hf
        rw [h0] at hnx
        simp at hnx
    rw [e1, e2, hf, ← List.drop_drop, ht] at this
    unfold lfB at this
    simp only [List.cons_append, List.drop_succ_cons, List.drop_zero, List.take_left] at this
    exact this)
  rw [HP.out] at hP HSQ1 HRD0 ⊢
  have hofl := fun k => Nat.le_trans (offL_le (m := P) hbb k) (Nat.le_trans (play_wt rs nm) hwt)
  obtain ⟨ls, HLS⟩ : ∃ ls, Hid (wl P (fl (play rs) nm) = ls) := ⟨_, hide rfl⟩
  rw [HLS.out] at HSQ1 HRD0 hofl ⊢
  have HOF := hide hofl
  have hln : ls.length ≤ P := by rw [← HLS.out]; exact wl_le _ _
  have hvb : ∀ k, k < ls.length → (ls.getD k []).length ≤ 65535 := fun k hk => by
    rw [← HLS.out] at hk ⊢
    exact (wl_ok _ _ hbb _ (getD_mem hk)).1
  have HVB := hide hvb
  obtain ⟨hP1, hP2⟩ := hP
  have hH8 : (H : Int) ≤ 8 := by have := hh.2; omega
  have HD := hide hd
  have HT := hide ht
  have HFL : Hid (∀ q, FD d D q → q < w.heap.size) := hide (fun q hq => fd_lt hd ht hq)
  obtain ⟨q, HQ⟩ : ∃ q, Hid (I % P = q) := ⟨_, hide rfl⟩
  have hqP : q < P := by rw [← HQ.out]; exact Nat.mod_lt _ (by omega)
  have HRE : Hid ((I : Int).tmod (P : Int) = (q : Int)) := hide (by rw [← HQ.out]; exact (Int.ofNat_tmod I P).symm)
  rw [HQ.out]
  obtain ⟨ee, HEE⟩ : ∃ ee, Hid ((if q < ls.length then (0 : Int) else 121) = ee) := ⟨_, hide rfl⟩
  obtain ⟨bs, HBS⟩ : ∃ bs, Hid ((if q < ls.length then ls.getD q [] else []) = bs) := ⟨_, hide rfl⟩
  rw [HEE.out, HBS.out]
  clear hd ht hwt hh hbb HLS hvb hofl
  refine (callsIn_wide (n := 4)).1 ?_
  refine callsIn_of_wp_marks Tryz.func14 rfl trivial ?_ rfl
  refine wpIn_wide.2 ?_
  simp only [Tryz.ntmps14, List.size_toArray, List.length_cons, List.length_nil, Nat.reduceAdd, Nat.reduceSub, Array.replicate_succ, Array.replicate_zero, List.push_toArray, List.append_toArray, List.nil_append, List.cons_append]
  go_wp2_with fail
  obtain ⟨W0, hW0, B3, B4, B5, B6, B7, hbl0⟩ := ZR.new w d (H : Int) (I : Int)
  rw [← hW0]
  generalize hb7 : w.heap.size + 1 + 1 + 1 + 1 = b7 at *
  generalize hb6 : w.heap.size + 1 + 1 + 1 = b6 at *
  generalize hb5 : w.heap.size + 1 + 1 = b5 at *
  generalize hb4 : w.heap.size + 1 = b4 at *
  have hne : b6 ≠ b7 ∧ w.heap.size ≤ b6 ∧ w.heap.size ≤ b7 := ⟨by omega, by omega, by omega⟩
  obtain ⟨b3, hb3⟩ : ∃ b3, w.heap.size = b3 := ⟨_, rfl⟩
  rw [hb3]
  rw [hb3] at B3
  have HZ0 : Hid (ZR w W0 b3 b4 b5 b6 b7 d H I) := hide ⟨B3, B4, B5, B6, B7, hne.2, hbl0⟩
  have HNE := hide hne
  clear hW0 hb7 hb6 hb5 hb4 hne B3 B4 B5 B6 B7 hbl0
  have HB3 := hide hb3
  clear hb3
  have c3 : W0.cell? ⟨b3, 0, none⟩ = some (.pointer (some ⟨d, 0, none⟩)) := by rw [HZ0.out.c3.cell]; rfl
  have c4 : W0.cell? ⟨b4, 0, none⟩ = some (.int .i64 (H : Int)) := by rw [HZ0.out.c4.cell]; rfl
  have c5 : W0.cell? ⟨b5, 0, none⟩ = some (.int .i64 (I : Int)) := by rw [HZ0.out.c5.cell]; rfl
  go_wp2_with (go_at_call 31; refine (HMD.out _ (HD.out.below HZ0.out.bel)).mono ?_; rintro r w' ⟨rfl, hw'⟩; subst w')
  refine (HNM.out _ (HT.out.below HZ0.out.bel)).mono ?_
  rintro r w1 ⟨rfl, hb1⟩
  have HZ1 := hide (HZ0.out.on hb1)
  clear hb1 HZ0 c3 c4 c5 HMD HNM
  have c3 : w1.cell? ⟨b3, 0, none⟩ = some (.pointer (some ⟨d, 0, none⟩)) := by rw [HZ1.out.c3.cell]; rfl
  have c4 : w1.cell? ⟨b4, 0, none⟩ = some (.int .i64 (H : Int)) := by rw [HZ1.out.c4.cell]; rfl
  go_wp2_with fail
  refine (whole_mk _ _ _ _).mono ?_
  rintro r w3 ⟨gd, gh, gn, rfl, BD, BH, BN, hgd, hgh, hgn, hb3⟩
  have HZ3 := hide (HZ1.out.on hb3)
  have HSQ := hide (HSQ1.out w3 gd gh gn w1.heap.size ⟨HD.out.below HZ3.out.bel, HT.out.below HZ3.out.bel, BD, BH, BN, hgd, hgh, hgn⟩)
  have hs13 : w.heap.size ≤ w3.heap.size := HZ3.out.bel.size
  have hl6 : b6 < w3.heap.size := HZ3.out.c6.lt
  have hl7 : b7 < w3.heap.size := HZ3.out.c7.lt
  clear hb3 BD BH BN hgd hgh hgn HZ1 c3 c4 HSQ1
  go_wp2_with fail
  refine (wpIn_wide (n := 4)).1 ?_
  refine rangeM rfl (by decide) (gf := 77) (lb := #[.pointer (some ⟨gd, 0, none⟩), .pointer (some ⟨gn, 0, none⟩), .pointer (some ⟨gh, 0, none⟩)]) rfl trivial (enters_of Tryz.func77 (by kernel_rfl) rfl)
    HSQ.out KB.trans (fun x V l o o' hl h hc => KB.book (B' := w3.heap.size) (fun q hq => by have := HFL.out q hq; omega) V l o o' hl h hc) (fun x A C h => KB.below h) (fun _ => rfl) (fun pre x V0 => rw_own _ _ _ pre x V0)
    (fun pre V => pre.length ≤ q ∧ ZR w V b3 b4 b5 b6 b7 d H I) (fun c pre V => c = .ret ∧ q < ls.length ∧ ∃ v, ZF w V b6 b7 v 0 (ls.getD q []))
    (fun _ A C row h hg hr => ⟨h.1, h.2.ck (CK.of_grown hg (fun r e => (hr r e).2)) (h.2.bel.grown hg h.2.bel.size (fun r e => by have := (hr r e).1; omega))⟩)
    (fun c _ A C row h hg hr => ⟨h.1, h.2.1, h.2.2.elim fun v hv => ⟨v, hv.ck (CK.of_grown hg (fun r e => (hr r e).2)) (hv.bel.grown hg hv.bel.size (fun r e => by have := (hr r e).1; omega))⟩⟩) ⟨Nat.zero_le _, HZ3.out⟩ ?act (fun x g V => Blk V g 102 (plV x.2)) (fun x g V l r o' hl hx => blk_loop V l r o' hl hx) ?assign ?body ?done ?stop
  case assign =>
    rintro l x V K ⟨pre, V0, h1, h2, h3⟩ hK
    have hsem := Oper.semAt_some
    simp only [encW]
    clear h1 h2 h3
    gi_wp2_with (refine istep_alloc (.round l) zPl rfl ?_)
    intro V1 g9 hg9 hle9 hb9
    gi_wp2_with (refine istep_storeA (.round l) wPl rfl rfl rfl hg9 rfl (One.pl x.2) rfl ?_)
    intro V2 hg92 hbut9
    have hb92 : Below V.heap.size V V2 := hb9.trans (hbut9.below hle9)
    have hK2 := hK g9 V2 hb92 hle9 hg92
    clear hK
    gi_wp2
    exact hK2
  case stop =>
    rintro D0 c pre V hD hSp ⟨rfl, hql, v, hz⟩ hK
    have HE : Hid (ZF w (V.putObj D0 (.deferred none)) b6 b7 v 0 (ls.getD q [])) := hide (hz.ck (CK.put (.deferred none) hK rfl) (hz.bel.trans (belowK_b (w := w) (Nat.le_refl _) _ D0 _ (.deferred none) (by omega) hK rfl rfl)))
    have HK := hide hK
    have e6 : (V.putObj D0 (.deferred none)).cell? ⟨b6, 0, none⟩ = some v := by rw [HE.out.c6.cell]; rfl
    have e7 : (V.putObj D0 (.deferred none)).cell? ⟨b7, 0, none⟩ = some (.int .i64 0) := by rw [HE.out.c7.cell]; rfl
    have h0 : ee = 0 := by rw [← HEE.out, if_pos hql]
    have h1 : ls.getD q [] = bs := by rw [← HBS.out, if_pos hql]
    rw [h1] at HE
    subst h0
    clear hz hK h1
    refine wpIn_wide.2 ?_
    go_wp2
    refine ⟨by simp, .inl ⟨_, _, rfl, run_takeDeferred HK.out, ?_⟩⟩
    refine ⟨.tuple #[v, .int .i64 0], by simp [results, Tryz.f14, go_sem, e6, e7], ?_⟩
    exact ⟨v, rfl, HE.out.own, HE.out.bel⟩
  case done =>
    rintro Dk ys V hD hS ⟨hyk, hz⟩ hK
    obtain rfl : ys = wls nm ls ls.length := hS
    rw [wls_len] at hyk
    have h0 : ee = 121 := by rw [← HEE.out, if_neg (by omega)]
    have h1 : [] = bs := by rw [← HBS.out, if_neg (by omega)]
    subst h0 h1
    have HZ := hide hz
    have HK := hide hK
    have f6 := hz.c6.free 0
    have hb6 := But.setCell V b6 0 (.slice none 0 0)
    have hc7 : Blk (V.setCell ⟨b6, 0, none⟩ (.slice none 0 0)) b7 36 [.int .i64 0] := hz.c7.but hb6 (fun e => HNE.out.1 e.symm)
    have f7 := hc7.free 0
    have d8 : (V.setCell ⟨b6, 0, none⟩ (.slice none 0 0)).cell? ⟨b7, 0, none⟩ = some (.int .i64 0) := by rw [hc7.cell]; rfl
    have d6 : V.cell? ⟨b6, 0, none⟩ = some (.slice none 0 0) := by rw [hz.c6.cell]; rfl
    have d7 : V.cell? ⟨b7, 0, none⟩ = some (.int .i64 0) := by rw [hz.c7.cell]; rfl
    clear hz hK hb6 hc7
    go_wp2
    have hbut6 := But.setCell V b6 0 (.slice none 0 0)
    have hbut7 := But.setCell (V.setCell ⟨b6, 0, none⟩ (.slice none 0 0)) b7 0 (.int .i64 121)
    have g6 : Blk ((V.setCell ⟨b6, 0, none⟩ (.slice none 0 0)).setCell ⟨b7, 0, none⟩ (.int .i64 121)) b6 31 [.slice none 0 0] := (HZ.out.c6.set 0 _).but hbut7 HNE.out.1
    have g7 : Blk ((V.setCell ⟨b6, 0, none⟩ (.slice none 0 0)).setCell ⟨b7, 0, none⟩ (.int .i64 121)) b7 36 [.int .i64 121] := (HZ.out.c7.but hbut6 (fun e => HNE.out.1 e.symm)).set 0 _
    have hk2 : ((V.setCell ⟨b6, 0, none⟩ (.slice none 0 0)).setCell ⟨b7, 0, none⟩ (.int .i64 121)).heap[Dk]? = some (.deferred (some [])) := by
      rw [hbut7.block Dk (by omega), hbut6.block Dk (by omega)]
      exact HK.out
    have hbw : Below w.heap.size w ((V.setCell ⟨b6, 0, none⟩ (.slice none 0 0)).setCell ⟨b7, 0, none⟩ (.int .i64 121)) := (HZ.out.bel.trans (hbut6.below HNE.out.2.1)).trans (hbut7.below HNE.out.2.2)
    generalize (V.setCell ⟨b6, 0, none⟩ (.slice none 0 0)).setCell ⟨b7, 0, none⟩ (.int .i64 121) = V2 at *
    refine ⟨by simp, .inl ⟨_, _, rfl, run_takeDeferred hk2, ?_⟩⟩
    have e6 : (V2.putObj Dk (.deferred none)).cell? ⟨b6, 0, none⟩ = some (.slice none 0 0) := by rw [(g6.ck (CK.put (.deferred none) hk2 rfl)).cell]; rfl
    have e7 : (V2.putObj Dk (.deferred none)).cell? ⟨b7, 0, none⟩ = some (.int .i64 121) := by rw [(g7.ck (CK.put (.deferred none) hk2 rfl)).cell]; rfl
    refine ⟨.tuple #[.slice none 0 0, .int .i64 121], by simp [results, Tryz.f14, go_sem, e6, e7], ?_⟩
    exact ⟨_, rfl, Own.nil _ _, hbw.trans (belowK_b (w := w) (Nat.le_refl _) _ Dk _ (.deferred none) (by omega) hk2 rfl rfl)⟩
  case body =>
    rintro l pre ⟨xi, xp⟩ gx V0 V hgx hbx _ hck hsz ⟨hpk, hz⟩ ⟨h1, h2, h3⟩
    have hsem := Oper.semAt_some
    obtain ⟨j, HJ⟩ : ∃ j, Hid (pre.length = j) := ⟨_, hide rfl⟩
    rw [HJ.out] at h1 h3 hpk
    obtain ⟨e1, e2⟩ := Prod.mk.inj h3
    subst e1
    have HP1 : Hid ((pre ++ [(xi, xp)]).length = xi + 1) := hide (by rw [List.length_append, HJ.out]; rfl)
    have hbx2 : Blk V gx 102 (plV xp) := hbx
    rw [e2] at hbx2
    have HRD := hide (HRD0.out xi h1)
    obtain ⟨x, HX⟩ : ∃ x, Hid (ls.getD xi [] = x) := ⟨_, hide rfl⟩
    obtain ⟨oj, HOJ⟩ : ∃ oj, Hid (offL ls xi = oj) := ⟨_, hide rfl⟩
    have hxv := HVB.out xi h1
    have hof := HOF.out xi
    have hpk2 : plK nm ls xi = (nm, oj + 2, x.length) := by unfold plK; rw [HX.out, HOJ.out]
    rw [hpk2] at hbx2
    rw [HX.out] at hxv
    rw [HOJ.out] at hof
    rw [HX.out, HOJ.out] at HRD
    have HBX := hide hbx2
    have HZV := hide hz
    have hxi : xi ≤ 256 := by omega
    have HWV := hide (HD.out.below hz.bel)
    clear hz hck hsz h2 h3 e2 hbx hbx2 hgx hpk2
    have hPi : ¬ (P : Int) = 0 := by omega
    have hPn : ¬ P = 0 := by omega
    gi_wp2_with fail
    refine wpIn_region_held (S := fun v => Below V.heap.size V v) (WideF.round l) (by kernel_rfl) (by kernel_rfl) (Below.refl V.heap.size V).drew (fun hHeld => ?_)
    refine takeH 0 30 (.int .i64 (xi : Int)) hHeld rfl rfl (by kernel_rfl) (by kernel_rfl) (by kernel_rfl) (fun _ _ _ h => h) (Or.inl ⟨by rfl, fun w _ => by go_simp⟩) ?_
    simp only [Act.put, List.setIfInBounds_toArray, List.set_cons_zero, List.set_cons_succ]
    refine takeH 1 31 (.int .i64 (I : Int)) hHeld rfl rfl (by kernel_rfl) (by kernel_rfl) (by kernel_rfl) (fun _ _ _ h => h) (Or.inl ⟨by rfl, fun w hw => by have hw' : w.cell? ⟨b5, 0, none⟩ = some (.int .i64 (I : Int)) := (fun hw => by rw [((HZV.out.on hw).c5).cell]; rfl) hw; go_simp⟩) ?_
    simp only [Act.put, List.setIfInBounds_toArray, List.set_cons_zero, List.set_cons_succ]
    refine takeH 2 32 (.int .i64 (H : Int)) hHeld rfl rfl (by kernel_rfl) (by kernel_rfl) (by kernel_rfl) (fun _ _ _ h => h) (Or.inl ⟨by rfl, fun w hw => by have hw' : w.cell? ⟨b4, 0, none⟩ = some (.int .i64 (H : Int)) := (fun hw => by rw [((HZV.out.on hw).c4).cell]; rfl) hw; go_simp⟩) ?_
    simp only [Act.put, List.setIfInBounds_toArray, List.set_cons_zero, List.set_cons_succ]
    refine takeH 3 33 (.int .i64 (P : Int)) hHeld rfl rfl (by kernel_rfl) (by kernel_rfl) (by kernel_rfl) (fun _ _ _ h => h) (Or.inl ⟨by rfl, fun w _ => by go_simp; rw [HWQ.out]⟩) ?_
    simp only [Act.put, List.setIfInBounds_toArray, List.set_cons_zero, List.set_cons_succ]
    refine takeH 4 34 (.int .i64 (q : Int)) hHeld rfl rfl (by kernel_rfl) (by kernel_rfl) (by kernel_rfl) (fun _ _ _ h => h) (Or.inl ⟨by rfl, fun w _ => by go_simp; rw [HRE.out]⟩) ?_
    simp only [Act.put, List.setIfInBounds_toArray, List.set_cons_zero, List.set_cons_succ]
    by_cases hjq : xi = q
    · subst hjq
      refine takeH 5 35 (.bool true) hHeld rfl rfl (by kernel_rfl) (by kernel_rfl) (by kernel_rfl) (fun _ _ _ h => h) (Or.inl ⟨by rfl, fun w _ => by go_simp⟩) ?_
      simp only [Act.put, List.setIfInBounds_toArray, List.set_cons_zero, List.set_cons_succ]
      refine wpAnyH_done (by kernel_rfl) ?_ _
      refine Only.normal ?_
      obtain ⟨Vd, hVd⟩ : ∃ v, V.drew = v := ⟨_, rfl⟩
      rw [hVd] at hHeld ⊢
      clear hVd
      have HZd := hide (HZV.out.on hHeld)
      have HOd := hide (keepsO_below hHeld)
      have HDd := hide (HWV.out.below hHeld)
      obtain ⟨p0, p1, p2⟩ := (HBX.out.on hHeld).pl3
      have c3 : Vd.cell? ⟨b3, 0, none⟩ = some (.pointer (some ⟨d, 0, none⟩)) := by rw [HZd.out.c3.cell]; rfl
      clear hHeld
      gi_wp2_with fail
      refine ⟨trivial, (calls_round (WideF.round l) (HRD.out _ HDd.out)).mono ?_⟩
      rintro e V5 ⟨v, rfl, ho5, hb5⟩
      obtain ⟨va, vc, hvs⟩ := ho5.slice
      obtain ⟨xl, hxl⟩ : ∃ xl, x.length = xl := ⟨_, rfl⟩
      rw [hxl] at hvs
      obtain ⟨v', hv'⟩ : ∃ v', v' = Value.slice va xl vc := ⟨_, rfl⟩
      rw [hvs]
      rw [hvs] at ho5
      clear hvs hv' v'
      have HZ5 := hide (HZd.out.on hb5)
      have HO5 := hide (HOd.out.trans (keepsO_below hb5))
      have HV5 : Hid (Own V5 w.heap.size (Value.slice va xl vc) x) := hide (own_down ho5 HZd.out.bel.size)
      have HV6 : Hid (∀ k, (Value.slice va xl vc).ownBlock = some k → Vd.heap.size ≤ k) := hide (fun k hk => World.ownsRow.lt ho5 k hk |>.1)
      have hl5 : b6 < Vd.heap.size ∧ b7 < Vd.heap.size := ⟨HZd.out.c6.lt, HZd.out.c7.lt⟩
      clear hb5 ho5 p0 p1 p2 c3
      have f6 := HZ5.out.c6.free 0
      have d6 : V5.cell? ⟨b6, 0, none⟩ = some (.slice none 0 0) := by rw [HZ5.out.c6.cell]; rfl
      have hbut6 := But.setCell V5 b6 0 (.slice va xl vc)
      have hc7 : Blk (V5.setCell ⟨b6, 0, none⟩ (.slice va xl vc)) b7 36 [.int .i64 0] := HZ5.out.c7.but hbut6 (fun e => HNE.out.1 e.symm)
      have f7 := hc7.free 0
      have d7 : (V5.setCell ⟨b6, 0, none⟩ (.slice va xl vc)).cell? ⟨b7, 0, none⟩ = some (.int .i64 0) := by rw [hc7.cell]; rfl
      have HC7 := hide hc7
      have HBU6 := hide hbut6
      clear hc7 hbut6
      gi_wp2
      have hbut7 := But.setCell (V5.setCell ⟨b6, 0, none⟩ (.slice va xl vc)) b7 0 (.int .i64 0)
      have g6 : Blk (V5.setCell ⟨b6, 0, none⟩ (.slice va xl vc)) b6 31 [.slice va xl vc] := HZ5.out.c6.set 0 _
      refine ⟨((HO5.out.trans (keepsO_but HBU6.out HZ5.out.c6)).trans (keepsO_but hbut7 HC7.out)).from _, rfl, h1, .slice va xl vc, ?_⟩
      refine ⟨g6.but hbut7 HNE.out.1, HC7.out.set 0 _, ?_, (HZ5.out.bel.trans (HBU6.out.below HNE.out.2.1)).trans (hbut7.below HNE.out.2.2)⟩
      rw [HX.out]
      exact (HV5.out.same (fun k hk => HBU6.out.block k (by have := HV6.out k hk; omega))).same (fun k hk => hbut7.block k (by have := HV6.out k hk; omega))
    · have hjqi : ¬ (xi : Int) = (q : Int) := by omega
      refine takeH 5 35 (.bool false) hHeld rfl rfl (by kernel_rfl) (by kernel_rfl) (by kernel_rfl) (fun _ _ _ h => h) (Or.inl ⟨by rfl, fun w _ => by go_simp⟩) ?_
      simp only [Act.put, List.setIfInBounds_toArray, List.set_cons_zero, List.set_cons_succ]
      refine wpAnyH_done (by kernel_rfl) ?_ _
      refine Only.normal ?_
      obtain ⟨Vd, hVd⟩ : ∃ v, V.drew = v := ⟨_, rfl⟩
      rw [hVd] at hHeld ⊢
      clear hVd
      have HZd := hide (HZV.out.on hHeld)
      have HOd := hide (keepsO_below hHeld)
      have HKd : Hid (KB w1.heap.size (FD d D) V Vd) := hide (KB.below hHeld)
      clear hHeld
      gi_wp2
      refine ⟨HOd.out.from _, HKd.out, ?_⟩
      show (pre ++ [(xi, xp)]).length ≤ q ∧ _
      rw [HP1.out]
      exact ⟨by omega, HZd.out⟩
/-- Read, whatever is asked for. -/
theorem readB_any (h i : Int) (ht : PT w) (hwt : wt rs ≤ 1099511000000) :
    Calls Tryz.prog 14 #[.pointer (some ⟨d, 0, none⟩), .int .i64 h, .int .i64 i] w fun r w' => ∃ v, r = .returned (.tuple #[v, .int .i64 (rdEb rs h i)]) ∧ Own w' w.heap.size v (rdBb rs h i) ∧ Below w.heap.size w w' := by
  by_cases he : bnE h i = 0
  · obtain ⟨H, I, rfl, rfl, hh, hI⟩ := nmO'_nats (bnE_zero he)
    exact readB_ok d s rs D w hd H I hh hI ht hwt
  · have e1 : rdEb rs h i = 2 := by unfold rdEb; rw [if_neg he]
    have e2 : rdBb rs h i = [] := by unfold rdBb; rw [e1, if_neg (by decide)]
    have e3 : bnE h i = 2 := by rcases bnE_bin h i with k | k; exact absurd k he; exact k
    rw [e1, e2]
    have HNM : Hid (∀ W : World, PT W → Calls Tryz.prog 32 #[.int .i64 h, .int .i64 i] W fun r w' => r = .returned (.tuple #[.string (bnP h i), .int .i64 2]) ∧ Below W.heap.size W w') := hide (fun W h2 => by
      have := bname_any h i W h2
      rw [e3] at this
      exact this)
    have HMD : Hid (∀ W : World, DkAt W d s rs D → Calls Tryz.prog 31 #[.pointer (some ⟨d, 0, none⟩)] W fun r w' => r = .returned (.bool true) ∧ w' = W) := hide (fun W hW => madeB_any d s rs D W hW)
    generalize bnP h i = nm at *
    have HD := hide hd
    have HT := hide ht
    clear hd ht he e1 e2 e3 hwt
    refine (callsIn_wide (n := 4)).1 ?_
    refine callsIn_of_wp_marks Tryz.func14 rfl trivial ?_ rfl
    refine wpIn_wide.2 ?_
    simp only [Tryz.ntmps14, List.size_toArray, List.length_cons, List.length_nil, Nat.reduceAdd, Nat.reduceSub, Array.replicate_succ, Array.replicate_zero, List.push_toArray, List.append_toArray, List.nil_append, List.cons_append]
    go_wp2_with fail
    obtain ⟨W0, hW0, B3, B4, B5, B6, B7, hbl0⟩ := ZR.new w d h i
    rw [← hW0]
    generalize hb7 : w.heap.size + 1 + 1 + 1 + 1 = b7 at *
    generalize hb6 : w.heap.size + 1 + 1 + 1 = b6 at *
    generalize hb5 : w.heap.size + 1 + 1 = b5 at *
    generalize hb4 : w.heap.size + 1 = b4 at *
    have hne : b6 ≠ b7 ∧ w.heap.size ≤ b6 ∧ w.heap.size ≤ b7 := ⟨by omega, by omega, by omega⟩
    obtain ⟨b3, hb3⟩ : ∃ b3, w.heap.size = b3 := ⟨_, rfl⟩
    rw [hb3]
    rw [hb3] at B3
    have HB3 := hide hb3
    have HNE := hide hne
    have HB6 := hide B6
    have HB7 := hide B7
    have HBL := hide hbl0
    have c3 : W0.cell? ⟨b3, 0, none⟩ = some (.pointer (some ⟨d, 0, none⟩)) := by rw [B3.cell]; rfl
    have c4 : W0.cell? ⟨b4, 0, none⟩ = some (.int .i64 h) := by rw [B4.cell]; rfl
    have c5 : W0.cell? ⟨b5, 0, none⟩ = some (.int .i64 i) := by rw [B5.cell]; rfl
    clear hW0 hb7 hb6 hb5 hb4 hne B3 B4 B5 B6 B7 hbl0 hb3
    go_wp2_with (go_at_call 31; refine (HMD.out _ (HD.out.below HBL.out)).mono ?_; rintro r w' ⟨rfl, hw'⟩; subst w')
    refine (HNM.out _ (HT.out.below HBL.out)).mono ?_
    rintro r w1 ⟨rfl, hb1⟩
    have HC6 := hide (HB6.out.on hb1)
    have HBL1 := hide (on_below HBL.out hb1)
    have f6 := HC6.out.free 0
    have d6 : w1.cell? ⟨b6, 0, none⟩ = some (.slice none 0 0) := by rw [HC6.out.cell]; rfl
    have hbut6 := But.setCell w1 b6 0 (.slice none 0 0)
    have hc7 : Blk (w1.setCell ⟨b6, 0, none⟩ (.slice none 0 0)) b7 36 [.int .i64 0] := (HB7.out.on hb1).but hbut6 (fun e => HNE.out.1 e.symm)
    have f7 := hc7.free 0
    have d7 : (w1.setCell ⟨b6, 0, none⟩ (.slice none 0 0)).cell? ⟨b7, 0, none⟩ = some (.int .i64 0) := by rw [hc7.cell]; rfl
    have HC7 := hide hc7
    have HBU6 := hide hbut6
    clear hc7 hbut6 hb1 c3 c4 c5
    go_wp2
    have hbut7 := But.setCell (w1.setCell ⟨b6, 0, none⟩ (.slice none 0 0)) b7 0 (.int .i64 2)
    have g6 := (HC6.out.set 0 (.slice none 0 0)).but hbut7 HNE.out.1
    have g7 := HC7.out.set 0 (.int .i64 2)
    have hbw := (HBL1.out.trans (HBU6.out.below HNE.out.2.1)).trans (hbut7.below HNE.out.2.2)
    generalize (w1.setCell ⟨b6, 0, none⟩ (.slice none 0 0)).setCell ⟨b7, 0, none⟩ (.int .i64 2) = W2 at *
    have e6 : W2.cell? ⟨b6, 0, none⟩ = some (.slice none 0 0) := by rw [g6.cell]; rfl
    have e7 : W2.cell? ⟨b7, 0, none⟩ = some (.int .i64 2) := by rw [g7.cell]; rfl
    refine ⟨.tuple #[.slice none 0 0, .int .i64 2], by simp [results, Tryz.f14, go_sem, e6, e7], ?_⟩
    exact ⟨_, rfl, Own.nil _ _, hbw⟩
end

end Go.Proofs.YtpocadbhajacaaaGreatDoor

/-
  Disks that no call made, under bundle's calls: nothing is told, nothing is handed out.
-/
namespace Go.Proofs.YtpocadbhajacaaaGreatDoor
open Go.RowKit Go.Shelf
set_option linter.unusedVariables false
set_option linter.unusedSimpArgs false
set_option maxRecDepth 100000

theorem ZR.newP (w : World) (p : Option Addr) (h i : Int) : ∃ W, W = (((((w.alloc (.cells #[.pointer p] 26)).alloc (.cells #[.int .i64 h] 3)).alloc (.cells #[.int .i64 i] 3)).alloc (.cells #[.slice none 0 0] 31)).alloc (.cells #[.int .i64 0] 36)) ∧
    Blk W w.heap.size 26 [.pointer p] ∧ Blk W (w.heap.size + 1) 3 [.int .i64 h] ∧ Blk W (w.heap.size + 1 + 1) 3 [.int .i64 i] ∧ Blk W (w.heap.size + 1 + 1 + 1) 31 [.slice none 0 0] ∧ Blk W (w.heap.size + 1 + 1 + 1 + 1) 36 [.int .i64 0] ∧ Below w.heap.size w W := by
  refine ⟨_, rfl, ?_⟩
  have b1 : Below w.heap.size w (w.alloc (.cells #[.pointer p] 26)) := (Below.refl _ _).alloc (Nat.le_refl _) _
  have B1 : Blk (w.alloc (.cells #[.pointer p] 26)) w.heap.size 26 [.pointer p] := Blk.made _ _ _
  have z1 : (w.alloc (.cells #[.pointer p] 26)).heap.size = w.heap.size + 1 := World.size_alloc _ _
  generalize w.alloc (.cells #[.pointer p] 26) = W1 at *
  have b2 : Below W1.heap.size W1 (W1.alloc (.cells #[.int .i64 h] 3)) := (Below.refl _ _).alloc (Nat.le_refl _) _
  have B2 : Blk (W1.alloc (.cells #[.int .i64 h] 3)) W1.heap.size 3 [.int .i64 h] := Blk.made _ _ _
  have z2 : (W1.alloc (.cells #[.int .i64 h] 3)).heap.size = W1.heap.size + 1 := World.size_alloc _ _
  generalize W1.alloc (.cells #[.int .i64 h] 3) = W2 at *
  have b3 : Below W2.heap.size W2 (W2.alloc (.cells #[.int .i64 i] 3)) := (Below.refl _ _).alloc (Nat.le_refl _) _
  have B3 : Blk (W2.alloc (.cells #[.int .i64 i] 3)) W2.heap.size 3 [.int .i64 i] := Blk.made _ _ _
  have z3 : (W2.alloc (.cells #[.int .i64 i] 3)).heap.size = W2.heap.size + 1 := World.size_alloc _ _
  generalize W2.alloc (.cells #[.int .i64 i] 3) = W3 at *
  have b4 : Below W3.heap.size W3 (W3.alloc (.cells #[.slice none 0 0] 31)) := (Below.refl _ _).alloc (Nat.le_refl _) _
  have B4 : Blk (W3.alloc (.cells #[.slice none 0 0] 31)) W3.heap.size 31 [.slice none 0 0] := Blk.made _ _ _
  have z4 : (W3.alloc (.cells #[.slice none 0 0] 31)).heap.size = W3.heap.size + 1 := World.size_alloc _ _
  generalize W3.alloc (.cells #[.slice none 0 0] 31) = W4 at *
  have b5 : Below W4.heap.size W4 (W4.alloc (.cells #[.int .i64 0] 36)) := (Below.refl _ _).alloc (Nat.le_refl _) _
  have B5 : Blk (W4.alloc (.cells #[.int .i64 0] 36)) W4.heap.size 36 [.int .i64 0] := Blk.made _ _ _
  rw [z1] at B2 z2
  rw [z2] at B3 z3
  rw [z3] at B4 z4
  rw [z4] at B5
  exact ⟨(((B1.on b2).on b3).on b4).on b5, ((B2.on b3).on b4).on b5, (B3.on b4).on b5, B4.on b5, B5, on_below (on_below (on_below (on_below b1 b2) b3) b4) b5⟩
theorem whole_mkP (p : Option Addr) (h : Int) (nm : ByteArray) (w : World) : Calls Tryz.prog 49 #[.pointer p, .int .i64 h, .string nm] w fun r w' => ∃ gd gh gn, r = .returned (.func (.func 77) #[] #[.pointer (some ⟨gd, 0, none⟩), .pointer (some ⟨gn, 0, none⟩), .pointer (some ⟨gh, 0, none⟩)]) ∧
    Blk w' gd 26 [.pointer p] ∧ Blk w' gh 3 [.int .i64 h] ∧ Blk w' gn 9 [.string nm] ∧ w.heap.size ≤ gd ∧ w.heap.size ≤ gh ∧ w.heap.size ≤ gn ∧ Below w.heap.size w w' := by
  go_enter Tryz.func49, Tryz.ntmps49
  go_wp2
  go_ret
  have b1 : Below w.heap.size w (w.alloc (.cells #[.pointer p] 26)) := (Below.refl _ _).alloc (Nat.le_refl _) _
  have B1 : Blk (w.alloc (.cells #[.pointer p] 26)) w.heap.size 26 [.pointer p] := Blk.made _ _ _
  generalize hW1 : w.alloc (.cells #[.pointer p] 26) = W1 at *
  have s1 := b1.size
  have b2 : Below W1.heap.size W1 (W1.alloc (.cells #[.int .i64 h] 3)) := (Below.refl _ _).alloc (Nat.le_refl _) _
  have B2 : Blk (W1.alloc (.cells #[.int .i64 h] 3)) W1.heap.size 3 [.int .i64 h] := Blk.made _ _ _
  generalize hW2 : W1.alloc (.cells #[.int .i64 h] 3) = W2 at *
  have s2 := b2.size
  have b3 : Below W2.heap.size W2 (W2.alloc (.cells #[.string nm] 9)) := (Below.refl _ _).alloc (Nat.le_refl _) _
  have B3 : Blk (W2.alloc (.cells #[.string nm] 9)) W2.heap.size 9 [.string nm] := Blk.made _ _ _
  generalize hW3 : W2.alloc (.cells #[.string nm] 9) = W3 at *
  have z1 : W1.heap.size = w.heap.size + 1 := by rw [← hW1]; exact World.size_alloc _ _
  have z2 : W2.heap.size = w.heap.size + 1 + 1 := by rw [← hW2, World.size_alloc, z1]
  exact ⟨w.heap.size, w.heap.size + 1, w.heap.size + 1 + 1, rfl, (B1.on b2).on b3, by rw [← z1]; exact B2.on b3, by rw [← z2]; exact B3, Nat.le_refl _, by omega, by omega, on_below (on_below b1 b2) b3⟩

theorem placesB_mkP (p : Option Addr) (h : Int) (w : World) : Calls Tryz.prog 52 #[.pointer p, .int .i64 h] w fun r w' => ∃ gd gh, r = .returned (.func (.func 82) #[] #[.pointer (some ⟨gh, 0, none⟩), .pointer (some ⟨gd, 0, none⟩)]) ∧
    Blk w' gd 26 [.pointer p] ∧ Blk w' gh 3 [.int .i64 h] ∧ w.heap.size ≤ gd ∧ w.heap.size ≤ gh ∧ Below w.heap.size w w' := by
  go_enter Tryz.func52, Tryz.ntmps52
  go_wp2
  go_ret
  have b1 : Below w.heap.size w (w.alloc (.cells #[.pointer p] 26)) := (Below.refl _ _).alloc (Nat.le_refl _) _
  have B1 : Blk (w.alloc (.cells #[.pointer p] 26)) w.heap.size 26 [.pointer p] := Blk.made _ _ _
  generalize hW1 : w.alloc (.cells #[.pointer p] 26) = W1 at *
  have s1 := b1.size
  have b2 : Below W1.heap.size W1 (W1.alloc (.cells #[.int .i64 h] 3)) := (Below.refl _ _).alloc (Nat.le_refl _) _
  have B2 : Blk (W1.alloc (.cells #[.int .i64 h] 3)) W1.heap.size 3 [.int .i64 h] := Blk.made _ _ _
  generalize hW2 : W1.alloc (.cells #[.int .i64 h] 3) = W2 at *
  have z1 : W1.heap.size = w.heap.size + 1 := by rw [← hW1]; exact World.size_alloc _ _
  exact ⟨w.heap.size, w.heap.size + 1, rfl, B1.on b2, by rw [← z1]; exact B2, Nat.le_refl _, by omega, on_below b1 b2⟩
theorem allB_mkP (p : Option Addr) (h : Int) (w : World) : Calls Tryz.prog 19 #[.pointer p, .int .i64 h] w fun r w' => ∃ gd gh, r = .returned (.func (.func 53) #[] #[.pointer (some ⟨gd, 0, none⟩), .pointer (some ⟨gh, 0, none⟩)]) ∧
    Blk w' gd 26 [.pointer p] ∧ Blk w' gh 3 [.int .i64 h] ∧ w.heap.size ≤ gd ∧ w.heap.size ≤ gh ∧ Below w.heap.size w w' := by
  go_enter Tryz.func19, Tryz.ntmps19
  go_wp2
  go_ret
  have b1 : Below w.heap.size w (w.alloc (.cells #[.pointer p] 26)) := (Below.refl _ _).alloc (Nat.le_refl _) _
  have B1 : Blk (w.alloc (.cells #[.pointer p] 26)) w.heap.size 26 [.pointer p] := Blk.made _ _ _
  generalize hW1 : w.alloc (.cells #[.pointer p] 26) = W1 at *
  have s1 := b1.size
  have b2 : Below W1.heap.size W1 (W1.alloc (.cells #[.int .i64 h] 3)) := (Below.refl _ _).alloc (Nat.le_refl _) _
  have B2 : Blk (W1.alloc (.cells #[.int .i64 h] 3)) W1.heap.size 3 [.int .i64 h] := Blk.made _ _ _
  generalize hW2 : W1.alloc (.cells #[.int .i64 h] 3) = W2 at *
  have z1 : W1.heap.size = w.heap.size + 1 := by rw [← hW1]; exact World.size_alloc _ _
  exact ⟨w.heap.size, w.heap.size + 1, rfl, B1.on b2, by rw [← z1]; exact B2, Nat.le_refl _, by omega, on_below b1 b2⟩
/-- A function that hands out nothing. -/
def EmpF (n : Nat) (g : Nat) (lb : Array Value) (w : World) : Prop := ∀ (l : Nat) (W : World), Below w.heap.size w W → CallsIn Fence.wide n Tryz.prog g (#[.func (.yield l) #[] #[]] ++ lb) W fun e W' => (∃ v, e = .returned v) ∧ Below W.heap.size W W'
theorem EmpF.toM {n g : Nat} {lb : Array Value} {w : World} (h : EmpF n g lb w) (encs : Empty → Array Value) : SeqM Fence.wide n Tryz.prog g lb encs (fun _ _ _ _ => False) (fun _ _ _ => True) (fun ys => ys = []) (fun _ => False) w := by
  intro l J Jx W hW _ hJ _ _ h0
  refine (h l W hW).mono ?_
  rintro e W' ⟨hv, hb⟩
  exact ⟨hv, .inl ⟨[], rfl, hJ _ W W' none h0 ⟨hb.os, hb.tape, hb.output, hb.size, fun i hi _ => hb.block i hi⟩ (fun r e => by cases e)⟩⟩
/-- A range over a function that hands out nothing. -/
theorem rangeE {n : Nat} {g : Operand} {ps : Array Tmp} {assign body : Code} {Q : Exit → Act → World → Prop} {a : Act} {w : World} (h1 : 1 ≤ n) {gf : Nat} {lb : Array Value} (hg : a.eval g = .func (.func gf) #[] lb) (eg : ∀ args w, (callFunc gf args).run Tryz.prog w = .ok (.enter gf args) w)
    (hemp : EmpF (n - 1) gf lb w)
    (hdone : ∀ (D : Nat) (W : World), w.heap.size ≤ D → Below w.heap.size w W → W.heap[D]? = some (.deferred (some [])) → Q .normal { a with defers := { target := .collected D, args := #[] } :: a.defers } W) :
    (Code.rangeFunc g ps assign body).wpIn Fence.wide n Tryz.prog Q a w := by
  refine rangeM rfl h1 (gf := gf) (lb := lb) hg trivial eg (hemp.toM (fun x => nomatch x)) (fun _ _ => trivial) (fun _ _ _ _ _ _ _ _ => trivial) (fun _ _ _ _ => trivial) (fun x => nomatch x) (fun _ x _ => nomatch x)
    (fun _ V => Below w.heap.size w V) (fun _ _ _ => False) (fun _ A C row h hg hr => h.grown hg h.size (fun r e => (hr r e).1)) (fun _ _ _ _ _ h _ _ => h) (Below.refl _ _) (fun x _ => nomatch x) (fun _ _ _ => True) (fun x => nomatch x) (fun _ x => nomatch x) (fun _ _ x => nomatch x) ?_ ?_
  · rintro D xs W hD _ hb hk
    exact hdone D W hD hb hk
  · rintro D c pre W _ h
    exact h.elim
section
variable (p : Option Addr) (w : World) (h : Nob w p)
include h
theorem made_nobB : Calls Tryz.prog 31 #[.pointer p] w fun r w' => r = .returned (.bool false) ∧ w' = w := by
  have HS := hide (sector_nob p w h)
  clear h
  go_enter Tryz.func31, Tryz.ntmps31
  go_wp2_with (go_at_call 64; refine HS.out.mono ?_; rintro e w' ⟨rfl, hw'⟩; subst w')
  go_ret
  exact ⟨rfl, rfl⟩
theorem count_nobB (hh : Int) : Calls Tryz.prog 18 #[.pointer p, .int .i64 hh] w fun r w' => r = .returned (.tuple #[.int .i64 0, .int .i64 1]) ∧ w' = w := by
  have HC := hide (made_nobB p w h)
  clear h
  refine (callsIn_wide (n := 5)).1 ?_
  refine callsIn_of_wp_marks Tryz.func18 rfl trivial ?_ rfl
  refine wpIn_wide.2 ?_
  simp only [Tryz.ntmps18, List.size_toArray, List.length_cons, List.length_nil, Nat.reduceAdd, Nat.reduceSub, Array.replicate_succ, Array.replicate_zero, List.push_toArray, List.append_toArray, List.nil_append, List.cons_append]
  go_wp2_with (go_at_call 31; refine HC.out.mono ?_; rintro r w' ⟨rfl, hw'⟩; subst w')
  exact ⟨.tuple #[.int .i64 0, .int .i64 1], by simp [results, Tryz.f18, go_sem], rfl, rfl⟩
theorem put_nobB (hh i : Int) (v : Value) : Calls Tryz.prog 10 #[.pointer p, .int .i64 hh, .int .i64 i, v] w fun r w' => r = .returned (.int .i64 1) ∧ w' = w := by
  have HC := hide (made_nobB p w h)
  clear h
  go_enter Tryz.func10, Tryz.ntmps10
  go_wp2_with (go_at_call 31; refine HC.out.mono ?_; rintro r w' ⟨rfl, hw'⟩; subst w')
  go_ret
  exact ⟨rfl, rfl⟩
theorem trim_nobB (hh i : Int) : Calls Tryz.prog 12 #[.pointer p, .int .i64 hh, .int .i64 i] w fun r w' => r = .returned (.int .i64 1) ∧ w' = w := by
  have HC := hide (count_nobB p w h hh)
  clear h
  go_enter Tryz.func12, Tryz.ntmps12
  go_wp2_with (go_at_call 18; refine HC.out.mono ?_; rintro r w' ⟨rfl, hw'⟩; subst w')
  go_ret
  exact ⟨rfl, rfl⟩
set_option maxHeartbeats 1000000 in
theorem read_nobB (hh i : Int) : Calls Tryz.prog 14 #[.pointer p, .int .i64 hh, .int .i64 i] w fun r w' => r = .returned (.tuple #[.slice none 0 0, .int .i64 1]) ∧ Below w.heap.size w w' := by
  have H0 := hide h
  clear h
  refine (callsIn_wide (n := 4)).1 ?_
  refine callsIn_of_wp_marks Tryz.func14 rfl trivial ?_ rfl
  refine wpIn_wide.2 ?_
  simp only [Tryz.ntmps14, List.size_toArray, List.length_cons, List.length_nil, Nat.reduceAdd, Nat.reduceSub, Array.replicate_succ, Array.replicate_zero, List.push_toArray, List.append_toArray, List.nil_append, List.cons_append]
  go_wp2_with fail
  obtain ⟨W0, hW0, B3, B4, B5, B6, B7, hbl0⟩ := ZR.newP w p hh i
  rw [← hW0]
  generalize hb7 : w.heap.size + 1 + 1 + 1 + 1 = b7 at *
  generalize hb6 : w.heap.size + 1 + 1 + 1 = b6 at *
  have hne : b6 ≠ b7 ∧ w.heap.size ≤ b6 ∧ w.heap.size ≤ b7 := ⟨by omega, by omega, by omega⟩
  have HNE := hide hne
  have HBL := hide hbl0
  have c3 : W0.cell? ⟨w.heap.size, 0, none⟩ = some (.pointer p) := by rw [B3.cell]; rfl
  have f6 := B6.free 0
  have d6 : W0.cell? ⟨b6, 0, none⟩ = some (.slice none 0 0) := by rw [B6.cell]; rfl
  have hbut6 := But.setCell W0 b6 0 (.slice none 0 0)
  have hc7 : Blk (W0.setCell ⟨b6, 0, none⟩ (.slice none 0 0)) b7 36 [.int .i64 0] := B7.but hbut6 (fun e => HNE.out.1 e.symm)
  have f7 := hc7.free 0
  have d7 : (W0.setCell ⟨b6, 0, none⟩ (.slice none 0 0)).cell? ⟨b7, 0, none⟩ = some (.int .i64 0) := by rw [hc7.cell]; rfl
  have HB6 := hide B6
  have HC7 := hide hc7
  have HBU6 := hide hbut6
  clear hW0 hb7 hb6 hne B3 B4 B5 B6 B7 hbl0 hc7 hbut6
  go_wp2_with (go_at_call 31; refine (made_nobB p _ (H0.out.below HBL.out)).mono ?_; rintro r w' ⟨rfl, hw'⟩; subst w')
  have hbut7 := But.setCell (W0.setCell ⟨b6, 0, none⟩ (.slice none 0 0)) b7 0 (.int .i64 1)
  have g6 : Blk ((W0.setCell ⟨b6, 0, none⟩ (.slice none 0 0)).setCell ⟨b7, 0, none⟩ (.int .i64 1)) b6 31 [.slice none 0 0] := (HB6.out.set 0 _).but hbut7 HNE.out.1
  have g7 : Blk ((W0.setCell ⟨b6, 0, none⟩ (.slice none 0 0)).setCell ⟨b7, 0, none⟩ (.int .i64 1)) b7 36 [.int .i64 1] := HC7.out.set 0 _
  have hbw : Below w.heap.size w ((W0.setCell ⟨b6, 0, none⟩ (.slice none 0 0)).setCell ⟨b7, 0, none⟩ (.int .i64 1)) := (HBL.out.trans (HBU6.out.below HNE.out.2.1)).trans (hbut7.below HNE.out.2.2)
  generalize (W0.setCell ⟨b6, 0, none⟩ (.slice none 0 0)).setCell ⟨b7, 0, none⟩ (.int .i64 1) = V2 at *
  have e6 : V2.cell? ⟨b6, 0, none⟩ = some (.slice none 0 0) := by rw [g6.cell]; rfl
  have e7 : V2.cell? ⟨b7, 0, none⟩ = some (.int .i64 1) := by rw [g7.cell]; rfl
  exact ⟨.tuple #[.slice none 0 0, .int .i64 1], by simp [results, Tryz.f14, go_sem, e6, e7], rfl, hbw⟩
end

end Go.Proofs.YtpocadbhajacaaaGreatDoor

/-
  Disks that no call made: what whole, places and All hand out is nothing.
-/
namespace Go.Proofs.YtpocadbhajacaaaGreatDoor
open Go.RowKit Go.Shelf
set_option linter.unusedVariables false
set_option linter.unusedSimpArgs false
set_option maxRecDepth 100000

set_option maxHeartbeats 2000000 in
theorem whole_nob (p : Option Addr) (gd gh gn H : Nat) (nm : ByteArray) (w : World) (h : Nob w p) (hh : hB H) (bd : Blk w gd 26 [.pointer p]) (bh : Blk w gh 3 [.int .i64 (H : Int)]) (bn : Blk w gn 9 [.string nm]) :
    EmpF 3 77 #[.pointer (some ⟨gd, 0, none⟩), .pointer (some ⟨gn, 0, none⟩), .pointer (some ⟨gh, 0, none⟩)] w := by
  intro l0 W hW
  have H0 := hide (h.below hW)
  have HBD := hide (bd.on hW)
  have HBN := hide (bn.on hW)
  have HBH := hide (bh.on hW)
  obtain ⟨P, HP⟩ : ∃ P, Hid (2 ^ H = P) := ⟨_, hide rfl⟩
  have HWP := hide (wrap_powB hh HP.out)
  have hP := hh.pow
  rw [HP.out] at hP
  have hPi : (0 : Int) < (P : Int) := by omega
  have hH8 := hh.2
  have hHi : (H : Int) ≤ 8 := by omega
  have hsz0 : W.cell? ⟨gn, 0, none⟩ = some (.string nm) := by rw [HBN.out.cell]; rfl
  have hsd0 : W.cell? ⟨gd, 0, none⟩ = some (.pointer p) := by rw [HBD.out.cell]; rfl
  have hsh0 : W.cell? ⟨gh, 0, none⟩ = some (.int .i64 (H : Int)) := by rw [HBH.out.cell]; rfl
  have HSZ := hide (size_nob p W H0.out nm)
  clear h bd bh bn hW hh
  refine callsIn_of_wp Tryz.func77 rfl trivial ?_ rfl
  simp only [Tryz.ntmps77, List.size_toArray, List.length_cons, List.length_nil, Nat.reduceAdd, Nat.reduceSub, Array.replicate_succ, Array.replicate_zero, List.push_toArray, List.append_toArray, List.nil_append, List.cons_append]
  refine wpIn_wide.2 ?_
  go_wp2_with fail
  refine HSZ.out.mono ?_
  rintro r w' ⟨rfl, hw'⟩
  subst w'
  go_wp2_with (rw [HWP.out])
  try simp only [Act.put]
  refine (wpIn_wide (n := 3)).1 ?_
  refine wpIn_loop_rounds 1 ?_
  rw [roundsIn_succ]
  gi_wp2_with fail
  refine ⟨trivial, (callsIn_wide.2 (read_nob p W H0.out nm 0 2)).mono ?_⟩
  rintro e w1 ⟨rfl, hw1⟩
  subst w1
  gi_wp2_with fail
  refine ⟨trivial, (callsIn_wide.2 (uint16_any none 0 0 [] 0 _ ⟨rfl, Nat.le_refl _, by omega, by omega, (fun x hx => by simp at hx), fun _ => ⟨rfl, rfl⟩, fun h => absurd h (by omega)⟩)).mono ?_⟩
  rintro e w2 ⟨rfl, hw2⟩
  subst w2
  rw [show rdV [] 0 2 = 0 from rfl, show rdE 0 0 2 = 10 from by decide]
  gi_wp2_with (first | (refine istep_buildPl WideF.wide rfl rfl rfl rfl ?_) | (refine istep_alloc WideF.wide zPl rfl ?_))
  intro w3 g3 hg3 hle3 hb3
  have HG3 := hide hg3
  have HL3 := hide hle3
  have HB3 := hide hb3
  clear hg3 hle3 hb3
  gi_wp2_with (refine istep_storeA WideF.wide wPl rfl rfl rfl HG3.out rfl (One.pl (nm, 2, 0)) rfl ?_)
  intro w4 hg4 hbut
  have HB4 := hide (HB3.out.trans (hbut.below HL3.out))
  clear hg4 hbut HG3 HL3 HB3
  gi_wp2
  refine ⟨trivial, ?_⟩
  gi_wp2
  refine ⟨(fun f h => by cases h), ?_⟩
  gi_wp2
  refine bodyPost_ret (results_none rfl _ _ _) rfl ?_
  exact ⟨⟨_, rfl⟩, HB4.out⟩
set_option maxHeartbeats 2000000 in
theorem places_nob (p : Option Addr) (gd gh : Nat) (h : Int) (w : World) (hn : Nob w p) (ht : PT w) (bd : Blk w gd 26 [.pointer p]) (bh : Blk w gh 3 [.int .i64 h]) :
    EmpF 4 82 #[.pointer (some ⟨gh, 0, none⟩), .pointer (some ⟨gd, 0, none⟩)] w := by
  intro l0 W hW
  have H0 := hide (hn.below hW)
  have HT := hide (ht.below hW)
  have HBD := hide (bd.on hW)
  have HBH := hide (bh.on hW)
  clear hn ht bd bh hW
  refine callsIn_of_wp_marks Tryz.func82 rfl trivial ?_ rfl
  simp only [Tryz.ntmps82, List.size_toArray, List.length_cons, List.length_nil, Nat.reduceAdd, Nat.reduceSub, Array.replicate_succ, Array.replicate_zero, List.push_toArray, List.append_toArray, List.nil_append, List.cons_append]
  refine wpIn_wide.2 ?_
  go_wp2_with fail
  go_step3
  go_wp2_with fail
  go_step3
  go_wp2_with fail
  have hb1 : Below W.heap.size W (W.alloc (.cells #[.func (.yield l0) #[] #[]] 144)) := (Below.refl _ _).alloc (Nat.le_refl _) _
  have HB1 := hide hb1
  clear hb1
  generalize W.alloc (.cells #[.func (.yield l0) #[] #[]] 144) = W1 at *
  refine (wpIn_wide (n := 4)).1 ?_
  refine wpIn_loop_rounds 1 ?_
  rw [roundsIn_succ]
  have c1 : W1.cell? ⟨gh, 0, none⟩ = some (.int .i64 h) := by rw [(HBH.out.on HB1.out).cell]; rfl
  have HNM := hide (bname_any h 0 W1 (HT.out.below HB1.out))
  by_cases he : bnE h 0 = 0
  · obtain ⟨H, I, rfl, hI0, hh, hI1⟩ := nmO'_nats (bnE_zero he)
    clear hI0 hI1
    rw [he] at HNM
    generalize bnP (H : Int) 0 = nm at *
    have HH := hide hh
    clear he hh
    gi_wp2_with fail
    refine ⟨trivial, (callsIn_wide.2 HNM.out).mono ?_⟩
    rintro e w2 ⟨rfl, hb2⟩
    have HB2 := hide (on_below HB1.out hb2)
    clear hb2 c1
    have c2 : w2.cell? ⟨gd, 0, none⟩ = some (.pointer p) := by rw [(HBD.out.on HB2.out).cell]; rfl
    have c3 : w2.cell? ⟨gh, 0, none⟩ = some (.int .i64 (H : Int)) := by rw [(HBH.out.on HB2.out).cell]; rfl
    gi_wp2_with fail
    refine ⟨trivial, (callsIn_wide.2 (whole_mkP _ _ _ _)).mono ?_⟩
    rintro e w3 ⟨ed, eh, en, rfl, BD, BH, BN, _, _, _, hb3⟩
    have HB3 := hide (on_below HB2.out hb3)
    have HEM := hide (whole_nob p ed eh en H nm w3 (H0.out.below HB3.out) HH.out BD BH BN)
    have hs3 : W.heap.size ≤ w3.heap.size := HB3.out.size
    clear hb3 c2 c3 BD BH BN
    gi_wp2_with fail
    refine rangeE (by decide) (gf := 77) (lb := #[.pointer (some ⟨ed, 0, none⟩), .pointer (some ⟨en, 0, none⟩), .pointer (some ⟨eh, 0, none⟩)]) rfl (enters_of Tryz.func77 (by kernel_rfl) rfl) HEM.out ?_
    rintro D V hD hb hk
    have HB4 := hide (on_below HB3.out hb)
    have HK := hide hk
    clear hb hk
    gi_wp2
    exact (leaves_marks (B := W.heap.size) (J := fun V => Below W.heap.size W V) (fun V D h hB hD => h.trans (belowK_b (w := W) (Nat.le_refl _) _ D _ (.deferred none) hB hD rfl rfl)) (fun V h => ⟨_, results_none rfl _ _ _, ⟨_, rfl⟩, h⟩) [D] V (by simp) (fun E hE => by simp at hE; omega) (fun E hE => by simp at hE; subst hE; exact HK.out) HB4.out)
  · have e3 : bnE h 0 = 2 := by rcases bnE_bin h 0 with k | k; exact absurd k he; exact k
    rw [e3] at HNM
    generalize bnP h 0 = nm at *
    clear he e3
    gi_wp2_with fail
    refine ⟨trivial, (callsIn_wide.2 HNM.out).mono ?_⟩
    rintro e w2 ⟨rfl, hb2⟩
    have HB2 := hide (on_below HB1.out hb2)
    clear hb2 c1
    gi_wp2
    exact ⟨_, results_none rfl _ _ _, ⟨_, rfl⟩, HB2.out⟩
set_option maxHeartbeats 2000000 in
theorem all_nob (p : Option Addr) (gd gh : Nat) (h : Int) (w : World) (hn : Nob w p) (ht : PT w) (bd : Blk w gd 26 [.pointer p]) (bh : Blk w gh 3 [.int .i64 h]) :
    EmpF 5 53 #[.pointer (some ⟨gd, 0, none⟩), .pointer (some ⟨gh, 0, none⟩)] w := by
  intro l0 W hW
  have H0 := hide (hn.below hW)
  have HT := hide (ht.below hW)
  have HBD := hide (bd.on hW)
  have HBH := hide (bh.on hW)
  clear hn ht bd bh hW
  refine callsIn_of_wp_marks Tryz.func53 rfl trivial ?_ rfl
  simp only [Tryz.ntmps53, List.size_toArray, List.length_cons, List.length_nil, Nat.reduceAdd, Nat.reduceSub, Array.replicate_succ, Array.replicate_zero, List.push_toArray, List.append_toArray, List.nil_append, List.cons_append]
  refine wpIn_wide.2 ?_
  have C9 : Blk (W.alloc (.cells #[.slice none 0 0] 59)) W.heap.size 59 [.slice none 0 0] := Blk.made W 59 [.slice none 0 0]
  have hb1 : Below W.heap.size W (W.alloc (.cells #[.slice none 0 0] 59)) := (Below.refl _ _).alloc (Nat.le_refl _) _
  have HB1 := hide hb1
  have HC9 := hide C9
  clear hb1 C9
  have c1 : (W.alloc (.cells #[.slice none 0 0] 59)).cell? ⟨gh, 0, none⟩ = some (.int .i64 h) := by rw [(HBH.out.on HB1.out).cell]; rfl
  have c2 : (W.alloc (.cells #[.slice none 0 0] 59)).cell? ⟨gd, 0, none⟩ = some (.pointer p) := by rw [(HBD.out.on HB1.out).cell]; rfl
  go_wp2_with fail
  obtain ⟨b9, hb9⟩ : ∃ b9, W.heap.size = b9 := ⟨_, rfl⟩
  have hb90 : W.heap.size ≤ b9 := by omega
  generalize W.alloc (.cells #[.slice none 0 0] 59) = W1 at *
  rw [hb9] at HC9
  simp only [hb9]
  refine (placesB_mkP _ _ _).mono ?_
  rintro e w3 ⟨ed, eh, rfl, BD, BH, _, _, hb3⟩
  have HB3 := hide (on_below HB1.out hb3)
  have HC3 := hide (HC9.out.on hb3)
  have HEM := hide (places_nob p ed eh h w3 (H0.out.below HB3.out) (HT.out.below HB3.out) BD BH)
  have hs3 : W.heap.size ≤ w3.heap.size := HB3.out.size
  clear hb3 c1 c2 BD BH HB1 HC9
  go_wp2_with fail
  refine (wpIn_wide (n := 5)).1 ?_
  refine rangeE (by decide) (gf := 82) (lb := #[.pointer (some ⟨eh, 0, none⟩), .pointer (some ⟨ed, 0, none⟩)]) rfl (enters_of Tryz.func82 (by kernel_rfl) rfl) HEM.out ?_
  rintro D V hD hb hk
  have HB4 := hide (on_below HB3.out hb)
  have hc4 : V.cell? ⟨b9, 0, none⟩ = some (.slice none 0 0) := by rw [(HC3.out.on hb).cell]; rfl
  have HK := hide hk
  clear hb hk hb9
  go_wp2_with fail
  try simp only [Act.put]
  refine wp_loop_rounds 1 ?_
  rw [rounds_succ]
  go_wp2
  exact (leaves_marks (B := W.heap.size) (J := fun V => Below W.heap.size W V) (fun V D h hB hD => h.trans (belowK_b (w := W) (Nat.le_refl _) _ D _ (.deferred none) hB hD rfl rfl)) (fun V h => ⟨_, results_none rfl _ _ _, ⟨_, rfl⟩, h⟩) [D] V (by simp) (fun E hE => by simp at hE; omega) (fun E hE => by simp at hE; subst hE; exact HK.out) HB4.out)

end Go.Proofs.YtpocadbhajacaaaGreatDoor

/-
  The walk of BundleNobody.
-/
namespace Go.Proofs.YtpocadbhajacaaaGreatDoor
open Go.RowKit Go.Shelf
set_option linter.unusedVariables false
set_option linter.unusedSimpArgs false
set_option maxRecDepth 100000

/-- An act's cells. -/
def asC5 (k h i : Int) (b : Bool) (v : Value) : List Value := [.int .i64 k, .int .i64 h, .int .i64 i, .bool b, v]
theorem One.asC5 (k h i : Int) (b : Bool) (a : Option Addr) (l c : Nat) : One (asC5 k h i b (.slice a l c)) := by
  intro v hv
  unfold Go.Proofs.YtpocadbhajacaaaGreatDoor.asC5 at hv
  simp at hv
  rcases hv with rfl | rfl | rfl | rfl | rfl <;> rfl
/-- What stands through a round of the law's loop. -/
structure NS15 (w W : World) (ga gr b : Nat) (A : List Value) (M : List Nat) : Prop where
  ca : Blk W ga 33 A
  cr : Blk W gr 51 (dkC 0 none (.slice none 0 0) 0)
  cb : Blk W b 26 [.pointer none, .pointer (some ⟨gr, 0, none⟩)]
  bel : Below w.heap.size w W
  marks : MK M W
section
variable {w W W' : World} {ga gr b : Nat} {A : List Value} {M : List Nat}
theorem NS15.on (h : NS15 w W ga gr b A M) (hb : Below W.heap.size W W') : NS15 w W' ga gr b A M := ⟨h.ca.on hb, h.cr.on hb, h.cb.on hb, on_below h.bel hb, fun D hD => (hb.block D (Array.getElem?_eq_some_iff.1 (h.marks D hD)).1).trans (h.marks D hD)⟩
theorem NS15.nil (h : NS15 w W ga gr b A M) : Nob W none := .inl rfl
theorem NS15.bare (h : NS15 w W ga gr b A M) : Nob W (some ⟨gr, 0, none⟩) := .inr ⟨gr, rfl, by rw [h.cr.cell]; rfl⟩
end
set_option maxHeartbeats 4000000 in
theorem bnobody_walk (k h i : Int) (bb : Bool) (la : Option Addr) (ll lc : Nat) (w : World) (ht : PT w) :
    Calls Tryz.prog 4 #[.agg (asC5 k h i bb (.slice la ll lc)).toArray] w fun e w' => e = .returned (.bool true) ∧ Below w.heap.size w w' := by
  have HA : Hid ((asC5 k h i bb (.slice la ll lc))[1]? = some (.int .i64 h) ∧ (asC5 k h i bb (.slice la ll lc))[2]? = some (.int .i64 i) ∧ (asC5 k h i bb (.slice la ll lc))[4]? = some (.slice la ll lc)) := hide ⟨rfl, rfl, rfl⟩
  have HT := hide ht
  clear ht
  refine (callsIn_wide (n := 6)).1 ?_
  refine callsIn_of_wp_marks Tryz.func4 rfl trivial ?_ rfl
  refine wpIn_wide.2 ?_
  simp only [Tryz.ntmps4, List.size_toArray, List.length_cons, List.length_nil, Nat.reduceAdd, Nat.reduceSub, Array.replicate_succ, Array.replicate_zero, List.push_toArray, List.append_toArray, List.nil_append, List.cons_append]
  go_wp2_with (first | (refine step_buildDk0 rfl ?_) | (refine step_box (cs := dkC 0 none (.slice none 0 0) 0) rfl rfl ?_; intro w3 gr hgr hler hb3; have GR := hide hgr; have HB3 := hide hb3; clear hgr hb3) | (refine step_box (cs := asC5 k h i bb (.slice la ll lc)) rfl rfl ?_; intro w2 ga hga hlea hb2; have GA := hide hga; have HB2 := hide hb2; clear hga hb2))
  have N0 : Hid (NS15 w (w3.alloc (Obj.cells #[Value.pointer none, Value.pointer (some { block := gr, off := 0 })] 26)) ga gr w3.heap.size (asC5 k h i bb (.slice la ll lc)) []) := hide (by
    have h0 : Below w3.heap.size w3 (w3.alloc (Obj.cells #[Value.pointer none, Value.pointer (some { block := gr, off := 0 })] 26)) := (Below.refl _ _).alloc (Nat.le_refl _) _
    exact ⟨(GA.out.on HB3.out).on h0, GR.out.on h0, Blk.made w3 _ _, on_below (on_below HB2.out HB3.out) h0, fun D hD => by cases hD⟩)
  revert N0
  generalize w3.alloc (Obj.cells #[Value.pointer none, Value.pointer (some { block := gr, off := 0 })] 26) = w4
  generalize w3.heap.size = b
  intro N0
  clear GA GR HB2 HB3 hler hlea
  generalize asC5 k h i bb (.slice la ll lc) = A at *
  refine wp_loop_rounds 3 ?_
  rw [rounds_succ]
  have d0 : w4.cell? ⟨b, 0, none⟩ = some (.pointer none) := by rw [N0.out.cb.cell]; rfl
  have e1 : w4.cell? ⟨ga, 1, none⟩ = some (.int .i64 h) := by rw [(N0.out).ca.cell]; exact HA.out.1
  have e2 : w4.cell? ⟨ga, 2, none⟩ = some (.int .i64 i) := by rw [(N0.out).ca.cell]; exact HA.out.2.1
  have e4 : w4.cell? ⟨ga, 4, none⟩ = some (.slice la ll lc) := by rw [(N0.out).ca.cell]; exact HA.out.2.2
  go_wp2_with fail
  refine (read_nobB none _ (N0.out.nil) h i).mono ?_
  rintro r Wr1 ⟨rfl, hbr⟩
  have Nr1 := hide (N0.out.on hbr)
  clear hbr d0 e1 e2 e4
  have e1 : Wr1.cell? ⟨ga, 1, none⟩ = some (.int .i64 h) := by rw [(Nr1.out).ca.cell]; exact HA.out.1
  have e2 : Wr1.cell? ⟨ga, 2, none⟩ = some (.int .i64 i) := by rw [(Nr1.out).ca.cell]; exact HA.out.2.1
  have e4 : Wr1.cell? ⟨ga, 4, none⟩ = some (.slice la ll lc) := by rw [(Nr1.out).ca.cell]; exact HA.out.2.2
  have N9z := Nr1.out.on ((Below.refl Wr1.heap.size Wr1).alloc (Nat.le_refl _) (.cells #[.int .i64 0] 3))
  have z1 : (Wr1.alloc (.cells #[.int .i64 0] 3)).cell? ⟨ga, 1, none⟩ = some (.int .i64 h) := by rw [N9z.ca.cell]; exact HA.out.1
  clear N9z
  go_wp2_with (go_at_call 18; refine (count_nobB none _ (Nr1.out.nil) h).mono ?_; rintro r w' ⟨rfl, hw'⟩; subst w')
  have C9 : Blk (Wr1.alloc (.cells #[.int .i64 0] 3)) Wr1.heap.size 3 [.int .i64 0] := Blk.made _ _ _
  have hb9 : Below Wr1.heap.size Wr1 (Wr1.alloc (.cells #[.int .i64 0] 3)) := (Below.refl _ _).alloc (Nat.le_refl _) _
  have N91 := hide (Nr1.out.on hb9)
  clear e1 e2 e4 hb9 Nr1 z1
  revert C9 N91
  generalize Wr1.alloc (.cells #[.int .i64 0] 3) = W91
  generalize Wr1.heap.size = b91
  intro C9 N91
  have HC9 := hide C9
  clear C9
  refine (allB_mkP none _ _).mono ?_
  rintro r Wa1 ⟨gd0, gh0, rfl, _, _, _, _, hba⟩
  have Na1 := hide (N91.out.on hba)
  have HC9a := hide (HC9.out.on hba)
  clear hba N91 HC9
  have heq : ∀ v : World, (binOp BinOp.eql 56 (.func (.func 53) #[] #[.pointer (some ⟨gd0, 0, none⟩), .pointer (some ⟨gh0, 0, none⟩)]) .nilFunc).run Tryz.prog v = .ok (.bool false) v := fun v => by kernel_rfl
  have e1 : Wa1.cell? ⟨ga, 1, none⟩ = some (.int .i64 h) := by rw [(Na1.out).ca.cell]; exact HA.out.1
  have e2 : Wa1.cell? ⟨ga, 2, none⟩ = some (.int .i64 i) := by rw [(Na1.out).ca.cell]; exact HA.out.2.1
  have e4 : Wa1.cell? ⟨ga, 4, none⟩ = some (.slice la ll lc) := by rw [(Na1.out).ca.cell]; exact HA.out.2.2
  go_wp2_with fail
  refine (allB_mkP none _ _).mono ?_
  rintro r Wd1 ⟨gd, gh, rfl, BD, BH, _, _, hbd⟩
  have Nd1 := hide (Na1.out.on hbd)
  have HC9d := hide (HC9a.out.on hbd)
  clear hbd Na1 HC9a heq e1 e2 e4
  have hws1 : w.heap.size ≤ Wd1.heap.size := Nd1.out.bel.size
  have hmk1 : ∀ D ∈ [], D < Wd1.heap.size := fun D hD => (Array.getElem?_eq_some_iff.1 (Nd1.out.marks D hD)).1
  have HEM := hide (all_nob none gd gh h Wd1 (Nd1.out.nil) (HT.out.below Nd1.out.bel) BD BH)
  clear BD BH
  go_wp2_with fail
  refine (wpIn_wide (n := 6)).1 ?_
  refine rangeE (by decide) (gf := 53) (lb := #[.pointer (some ⟨gd, 0, none⟩), .pointer (some ⟨gh, 0, none⟩)]) rfl (enters_of Tryz.func53 (by kernel_rfl) rfl) HEM.out ?_
  rintro D1 W1 hD1 hb hk
  have hDw1 : w.heap.size ≤ D1 := by omega
  have HN1 := hide (Nd1.out.on hb)
  have HM1 : Hid (MK (D1 :: []) W1) := hide (mk_cons hk HN1.out.marks)
  have c9 : W1.cell? ⟨b91, 0, none⟩ = some (.int .i64 0) := by rw [(HC9d.out.on hb).cell]; rfl
  have e1 : W1.cell? ⟨ga, 1, none⟩ = some (.int .i64 h) := by rw [(HN1.out).ca.cell]; exact HA.out.1
  have e2 : W1.cell? ⟨ga, 2, none⟩ = some (.int .i64 i) := by rw [(HN1.out).ca.cell]; exact HA.out.2.1
  have e4 : W1.cell? ⟨ga, 4, none⟩ = some (.slice la ll lc) := by rw [(HN1.out).ca.cell]; exact HA.out.2.2
  clear hb hk HC9d Nd1 HEM
  go_wp2_with (first | (go_at_call 10; refine (put_nobB none _ (HN1.out.nil) h i _).mono ?_; rintro r w' ⟨rfl, hw'⟩; subst w') | (go_at_call 12; refine (trim_nobB none _ (HN1.out.nil) h i).mono ?_; rintro r w' ⟨rfl, hw'⟩; subst w'))
  clear e1 e2 e4 c9
  have N1 : Hid (NS15 w W1 ga gr b A [D1]) := hide ⟨HN1.out.ca, HN1.out.cr, HN1.out.cb, HN1.out.bel, HM1.out⟩
  clear HN1 HM1
  rw [rounds_succ]
  have d0 : W1.cell? ⟨b, 1, none⟩ = some (.pointer (some ⟨gr, 0, none⟩)) := by rw [N1.out.cb.cell]; rfl
  have e1 : W1.cell? ⟨ga, 1, none⟩ = some (.int .i64 h) := by rw [(N1.out).ca.cell]; exact HA.out.1
  have e2 : W1.cell? ⟨ga, 2, none⟩ = some (.int .i64 i) := by rw [(N1.out).ca.cell]; exact HA.out.2.1
  have e4 : W1.cell? ⟨ga, 4, none⟩ = some (.slice la ll lc) := by rw [(N1.out).ca.cell]; exact HA.out.2.2
  go_wp2_with fail
  refine (read_nobB (some ⟨gr, 0, none⟩) _ (N1.out.bare) h i).mono ?_
  rintro r Wr2 ⟨rfl, hbr⟩
  have Nr2 := hide (N1.out.on hbr)
  clear hbr d0 e1 e2 e4
  have e1 : Wr2.cell? ⟨ga, 1, none⟩ = some (.int .i64 h) := by rw [(Nr2.out).ca.cell]; exact HA.out.1
  have e2 : Wr2.cell? ⟨ga, 2, none⟩ = some (.int .i64 i) := by rw [(Nr2.out).ca.cell]; exact HA.out.2.1
  have e4 : Wr2.cell? ⟨ga, 4, none⟩ = some (.slice la ll lc) := by rw [(Nr2.out).ca.cell]; exact HA.out.2.2
  have N9z := Nr2.out.on ((Below.refl Wr2.heap.size Wr2).alloc (Nat.le_refl _) (.cells #[.int .i64 0] 3))
  have z1 : (Wr2.alloc (.cells #[.int .i64 0] 3)).cell? ⟨ga, 1, none⟩ = some (.int .i64 h) := by rw [N9z.ca.cell]; exact HA.out.1
  clear N9z
  go_wp2_with (go_at_call 18; refine (count_nobB (some ⟨gr, 0, none⟩) _ (Nr2.out.bare) h).mono ?_; rintro r w' ⟨rfl, hw'⟩; subst w')
  have C9 : Blk (Wr2.alloc (.cells #[.int .i64 0] 3)) Wr2.heap.size 3 [.int .i64 0] := Blk.made _ _ _
  have hb9 : Below Wr2.heap.size Wr2 (Wr2.alloc (.cells #[.int .i64 0] 3)) := (Below.refl _ _).alloc (Nat.le_refl _) _
  have N92 := hide (Nr2.out.on hb9)
  clear e1 e2 e4 hb9 Nr2 z1
  revert C9 N92
  generalize Wr2.alloc (.cells #[.int .i64 0] 3) = W92
  generalize Wr2.heap.size = b92
  intro C9 N92
  have HC9 := hide C9
  clear C9
  refine (allB_mkP (some ⟨gr, 0, none⟩) _ _).mono ?_
  rintro r Wa2 ⟨gd0, gh0, rfl, _, _, _, _, hba⟩
  have Na2 := hide (N92.out.on hba)
  have HC9a := hide (HC9.out.on hba)
  clear hba N92 HC9
  have heq : ∀ v : World, (binOp BinOp.eql 56 (.func (.func 53) #[] #[.pointer (some ⟨gd0, 0, none⟩), .pointer (some ⟨gh0, 0, none⟩)]) .nilFunc).run Tryz.prog v = .ok (.bool false) v := fun v => by kernel_rfl
  have e1 : Wa2.cell? ⟨ga, 1, none⟩ = some (.int .i64 h) := by rw [(Na2.out).ca.cell]; exact HA.out.1
  have e2 : Wa2.cell? ⟨ga, 2, none⟩ = some (.int .i64 i) := by rw [(Na2.out).ca.cell]; exact HA.out.2.1
  have e4 : Wa2.cell? ⟨ga, 4, none⟩ = some (.slice la ll lc) := by rw [(Na2.out).ca.cell]; exact HA.out.2.2
  go_wp2_with fail
  refine (allB_mkP (some ⟨gr, 0, none⟩) _ _).mono ?_
  rintro r Wd2 ⟨gd, gh, rfl, BD, BH, _, _, hbd⟩
  have Nd2 := hide (Na2.out.on hbd)
  have HC9d := hide (HC9a.out.on hbd)
  clear hbd Na2 HC9a heq e1 e2 e4
  have hws2 : w.heap.size ≤ Wd2.heap.size := Nd2.out.bel.size
  have hmk2 : ∀ D ∈ [D1], D < Wd2.heap.size := fun D hD => (Array.getElem?_eq_some_iff.1 (Nd2.out.marks D hD)).1
  have HEM := hide (all_nob (some ⟨gr, 0, none⟩) gd gh h Wd2 (Nd2.out.bare) (HT.out.below Nd2.out.bel) BD BH)
  clear BD BH
  go_wp2_with fail
  refine (wpIn_wide (n := 6)).1 ?_
  refine rangeE (by decide) (gf := 53) (lb := #[.pointer (some ⟨gd, 0, none⟩), .pointer (some ⟨gh, 0, none⟩)]) rfl (enters_of Tryz.func53 (by kernel_rfl) rfl) HEM.out ?_
  rintro D2 W2 hD2 hb hk
  have hDw2 : w.heap.size ≤ D2 := by omega
  have HN2 := hide (Nd2.out.on hb)
  have HM2 : Hid (MK (D2 :: [D1]) W2) := hide (mk_cons hk HN2.out.marks)
  have c9 : W2.cell? ⟨b92, 0, none⟩ = some (.int .i64 0) := by rw [(HC9d.out.on hb).cell]; rfl
  have e1 : W2.cell? ⟨ga, 1, none⟩ = some (.int .i64 h) := by rw [(HN2.out).ca.cell]; exact HA.out.1
  have e2 : W2.cell? ⟨ga, 2, none⟩ = some (.int .i64 i) := by rw [(HN2.out).ca.cell]; exact HA.out.2.1
  have e4 : W2.cell? ⟨ga, 4, none⟩ = some (.slice la ll lc) := by rw [(HN2.out).ca.cell]; exact HA.out.2.2
  clear hb hk HC9d Nd2 HEM
  go_wp2_with (first | (go_at_call 10; refine (put_nobB (some ⟨gr, 0, none⟩) _ (HN2.out.bare) h i _).mono ?_; rintro r w' ⟨rfl, hw'⟩; subst w') | (go_at_call 12; refine (trim_nobB (some ⟨gr, 0, none⟩) _ (HN2.out.bare) h i).mono ?_; rintro r w' ⟨rfl, hw'⟩; subst w'))
  clear e1 e2 e4 c9
  rw [rounds_succ]
  go_wp2
  have hlt1 : D1 < Wd2.heap.size := hmk2 D1 (by simp)
  have hDD : D2 ≠ D1 := by omega
  exact (leaves_marks (B := w.heap.size) (J := fun V => Below w.heap.size w V) (fun V D h hB hD => h.trans (belowK_b (w := w) (Nat.le_refl _) _ D _ (.deferred none) hB hD rfl rfl)) (fun V h => ⟨.bool true, by simp [results, Tryz.f4, go_sem], rfl, h⟩) [D2, D1] W2 (by simp [hDD]) (fun E hE => by simp at hE; omega) HM2.out HN2.out.bel)

end Go.Proofs.YtpocadbhajacaaaGreatDoor

/-
  From how an argument is read as data to what the walks are told of it: an act, a slice of acts.
-/
namespace Go.Proofs.YtpocadbhajacaaaGreatDoor
open Go.ChangeShapes Go.WideShapes Go.ChangeAt Go.RowKit
set_option linter.unusedVariables false

theorem rangeAt_below {w w' : World} {b o : Nat} {vs : List Value} (h : w.rangeAt b o vs) (hb : Below w.heap.size w w') : w'.rangeAt b o vs := fun j v hv => by
  have := h j v hv
  exact cell_kept this hb
/-- An act of the statements of bundle. -/
structure A5 where
  k : Int
  h : Int
  i : Int
  nx : Bool
  a : Option Addr
  l : Nat
  c : Nat
  x : List Int
def A5.cells (z : A5) : List Value := asC5 z.k z.h z.i z.nx (.slice z.a z.l z.c)
def rngI (z : Int) : Prop := -9223372036854775808 ≤ z ∧ z ≤ 9223372036854775807
structure A5.In (w : World) (z : A5) : Prop where
  sl : Sl w z.a z.l z.c z.x
  rk : rngI z.k
  rh : rngI z.h
  ri : rngI z.i
/-- How much an act weighs. -/
def A5.bulk (z : A5) : Nat := z.x.length + 6
def a5bulk (L : List A5) : Nat := (L.map A5.bulk).sum
/-- A slice of acts in memory. -/
structure A5s (w : World) (a : Option Addr) (len cap : Nat) (L : List A5) : Prop where
  hlen : L.length = len
  hcap : len ≤ cap
  hmax : cap ≤ 9223372036854775807
  hblk : a5bulk L ≤ 1048576
  hin : ∀ (i : Nat) x, L[i]? = some x → x.In w
  hcell : ∀ (i : Nat) x, L[i]? = some x → ∃ b off, a = some ⟨b, off, none⟩ ∧ w.rangeAt b (off + i * 5) x.cells
theorem A5.In.below {z : A5} {w w' : World} (h : z.In w) (hb : Below w.heap.size w w') : z.In w' := ⟨h.sl.below hb, h.rk, h.rh, h.ri⟩
theorem A5s.below {w w' : World} {a : Option Addr} {len cap : Nat} {L : List A5} (h : A5s w a len cap L) (hb : Below w.heap.size w w') : A5s w' a len cap L :=
  ⟨h.hlen, h.hcap, h.hmax, h.hblk, fun i x hx => (h.hin i x hx).below hb, fun i x hx => by
    obtain ⟨b, off, e, hr⟩ := h.hcell i x hx
    exact ⟨b, off, e, rangeAt_below hr hb⟩⟩
theorem ciA : Tryz.prog.cellsOf 3 = 1 := by kernel_rfl
theorem cbA : Tryz.prog.cellsOf 31 = 1 := by kernel_rfl
theorem caA : Tryz.prog.cellsOf 33 = 5 := by kernel_rfl
theorem cboA : Tryz.prog.cellsOf 4 = 1 := by kernel_rfl
theorem uboA : Tryz.prog.underlying 4 = some .bool := by kernel_rfl
theorem uiA : Tryz.prog.underlying 3 = some (.int .i64) := by kernel_rfl
theorem cutA {L x : List Value} {k n : Nat} (h : (L.drop k).take n = x) : L.drop k = x ++ L.drop (k + n) := by
  rw [← h, ← List.drop_drop, List.take_append_drop]

set_option maxRecDepth 100000 in
theorem slA_trod {H : Type} {enc : TypeId × Value → H} {W : World} {fuel : Nat} {cs : List Value} {x : DataW H × List MemPlace}
    (hf : DataW.trod enc Tryz.prog W 0 (fun _ => true) true fuel 31 cs = some x) :
    ∃ a len cap xs, cs = [.slice a len cap] ∧ xs.length = len ∧ (Rows.uptoBulk x.1 ≤ 1048576 → Sl W a len cap xs ∧ len + 1 ≤ Rows.uptoBulk x.1) := by
  rcases open_ints undBs undB (by kernel_rfl) hf with ⟨hcs, hx⟩ | ⟨x', l, c, zs, hcs, _, hl, hm, hz, hx, hcell, hwz⟩
  · refine ⟨none, 0, 0, [], hcs, rfl, fun _ => ⟨⟨rfl, Nat.le_refl _, by omega, by omega, (fun x hx => by simp at hx), fun _ => ⟨rfl, rfl⟩, fun h => absurd h (Nat.lt_irrefl 0)⟩, ?_⟩⟩
    rw [hx]
    simp [Rows.uptoBulk]
  · simp only [if_true] at hz
    have hb : Rows.uptoBulk x.1 = c + 1 := by
      rw [hx]
      simp only [Rows.uptoBulk, bulk_ints, List.length_take, List.length_drop]
      omega
    refine ⟨some x', l, c, zs.take l, hcs, by simp; omega, fun hb2 => ⟨⟨by simp; omega, hl, by omega, by omega, fun y hy => bounds_u8 (hwz y (List.mem_of_mem_take hy)), (fun e => by cases e), fun h0 => ?_⟩, by omega⟩⟩
    obtain ⟨b, off, spot⟩ := x'
    have hs : spot = none := by simpa [Addr.add] using World.cell?_spot (hcell 0 (by omega))
    subst hs
    refine ⟨b, off, rfl, fun i hi => ?_⟩
    have e := hcell i (by omega)
    rw [Addr.add_lit] at e
    rw [e]
    simp [List.getD, hi]

set_option maxRecDepth 100000 in
set_option maxHeartbeats 1000000 in
theorem a5_trod {H : Type} {enc : TypeId × Value → H} {W : World} {fuel : Nat} {L : List Value} {x : DataW H × List MemPlace} (hL : L.length = 5)
    (hf : DataW.trod enc Tryz.prog W 0 (fun _ => true) true fuel 33 L = some x) :
    ∃ z : A5, L = z.cells ∧ (Rows.uptoBulk x.1 ≤ 1048576 → z.In W ∧ z.bulk ≤ Rows.uptoBulk x.1) := by
  have hu := Tryz.underlying33
  obtain ⟨xs, n, _, hx, _, hxl, hfs⟩ := DataW.trod_struct hu hf
  match xs, hxl with
  | [y0, y1, y2, y3, y4], _ =>
    have h0 : DataW.trod enc Tryz.prog W 0 (fun _ => true) true n 3 ((L.drop 0).take (Tryz.prog.cellsOf 3)) = some y0 := hfs 0 _ rfl
    have h1 : DataW.trod enc Tryz.prog W 0 (fun _ => true) true n 3 ((L.drop 1).take (Tryz.prog.cellsOf 3)) = some y1 := hfs 1 _ rfl
    have h2 : DataW.trod enc Tryz.prog W 0 (fun _ => true) true n 3 ((L.drop 2).take (Tryz.prog.cellsOf 3)) = some y2 := hfs 2 _ rfl
    have h3 : DataW.trod enc Tryz.prog W 0 (fun _ => true) true n 4 ((L.drop 3).take (Tryz.prog.cellsOf 4)) = some y3 := hfs 3 _ rfl
    have h4 : DataW.trod enc Tryz.prog W 0 (fun _ => true) true n 31 ((L.drop 4).take (Tryz.prog.cellsOf 31)) = some y4 := hfs 4 _ rfl
    rw [ciA] at h0 h1 h2
    rw [cboA] at h3
    rw [cbA] at h4
    obtain ⟨k0, e0, x0, w0⟩ := DataW.trod_int uiA h0
    obtain ⟨k1, e1, x1, w1⟩ := DataW.trod_int uiA h1
    obtain ⟨k2, e2, x2, w2⟩ := DataW.trod_int uiA h2
    obtain ⟨b, e3, x3⟩ := DataW.trod_bool uboA h3
    obtain ⟨a, l, c, zs, e4, hzl, s4⟩ := slA_trod h4
    have hb : Rows.uptoBulk x.1 = 1 + 1 + 1 + 1 + Rows.uptoBulk y4.1 + 1 := by
      rw [hx]
      simp only [List.map_cons, List.map_nil, Rows.uptoBulk, Rows.uptoBulkAll, x0, x1, x2, x3]
      omega
    refine ⟨⟨k0, k1, k2, b, a, l, c, zs⟩, ?_, fun hm => ?_⟩
    · have d0 := cutA e0
      have d1 := cutA e1
      have d2 := cutA e2
      have d3 := cutA e3
      have d4 := cutA e4
      have dd : L.drop 5 = [] := List.drop_of_length_le (by omega)
      simp only [Nat.reduceAdd] at d0 d1 d2 d3 d4
      rw [← List.drop_zero (l := L), d0, d1, d2, d3, d4, dd]
      rfl
    · obtain ⟨t1, t2⟩ := s4 (by omega)
      exact ⟨⟨t1, bounds_i64 w0, bounds_i64 w1, bounds_i64 w2⟩, by simp only [A5.bulk, hzl]; omega⟩

theorem bulk_each {H : Type} (D : Nat → DataW H) (f : Nat → Nat) : ∀ l : List Nat, (∀ i ∈ l, f i ≤ Rows.uptoBulk (D i)) → (l.map f).sum ≤ Rows.uptoBulkAll (l.map D)
  | [], _ => by simp [Rows.uptoBulkAll]
  | i :: r, h => by
    have h1 := h i (by simp)
    have h2 := bulk_each D f r (fun j hj => h j (by simp [hj]))
    simp only [List.map_cons, List.sum_cons, Rows.uptoBulkAll]
    omega
theorem bulk_le {H : Type} (D : Nat → DataW H) : ∀ l : List Nat, ∀ i ∈ l, Rows.uptoBulk (D i) ≤ Rows.uptoBulkAll (l.map D)
  | [], i, h => by cases h
  | j :: r, i, h => by
    simp only [List.map_cons, Rows.uptoBulkAll]
    rcases List.mem_cons.1 h with rfl | h
    · omega
    · have := bulk_le D r i h
      omega

set_option maxRecDepth 100000 in
theorem a5s_upto {H : Type} {enc : TypeId × Value → H} {W : World} {base : Nat} {v : Value} {d : DataW H} {p : List MemPlace}
    (hv : Value.okWide Tryz.prog W .any base 25 v) (h : DataW.Trod enc Tryz.prog W 0 (fun _ => true) true 25 v d p) (hm : Rows.uptoBulk d ≤ 1048576) :
    ∃ a len cap L, v = .slice a len cap ∧ A5s W a len cap L ∧ a5bulk L ≤ Rows.uptoBulk d := by
  have hs : Tryz.prog.underlying 25 = some (.slice 33) := by kernel_rfl
  obtain ⟨a, len, cap, rfl⟩ := okWide_slice hs hv
  obtain ⟨fuel, hf⟩ := h
  rcases Deep.open_slice hs hf with ⟨hcs, hx⟩ | ⟨x, l, c, m, n, D, Pl, hcs, _, hl, hmx, hmm, hx, hel⟩
  · simp [Value.cells] at hcs
    obtain ⟨rfl, rfl, rfl⟩ := hcs
    exact ⟨none, 0, 0, [], rfl, ⟨rfl, Nat.le_refl _, by omega, by simp [a5bulk], fun i x hx => by simp at hx, fun i x hx => by simp at hx⟩, by simp [a5bulk]⟩
  · simp [Value.cells] at hcs
    obtain ⟨rfl, rfl, rfl⟩ := hcs
    have hmc : m = cap := by simpa using hmm
    subst hmc
    simp only [Prod.mk.injEq] at hx
    have hb : Rows.uptoBulkAll ((List.range len).map D) + 1 ≤ Rows.uptoBulk d := by
      rw [hx.1]
      simp only [Rows.uptoBulk]
      omega
    have hsp : 0 < len → x.spot = none := fun h0 => by
      obtain ⟨cs', h1, _⟩ := hel 0 (by omega)
      rw [caA] at h1
      obtain ⟨_, hlen, hcell⟩ := World.cells?_some h1
      have := hcell 0 (by omega)
      rw [List.getElem?_eq_getElem (by omega)] at this
      simpa [Addr.add] using World.cell?_spot this
    have each : ∀ i, i < len → ∃ z : A5, W.rangeAt x.block (x.off + i * 5) z.cells ∧ x.spot = none ∧ z.In W ∧ z.bulk ≤ Rows.uptoBulk (D i) := by
      intro i hi
      obtain ⟨cs', h1, h2⟩ := hel i (by omega)
      rw [caA] at h1
      obtain ⟨_, hlen, hcell⟩ := World.cells?_some h1
      obtain ⟨z, hz, hq⟩ := a5_trod hlen h2
      have hbi := bulk_le D (List.range len) i (List.mem_range.2 hi)
      obtain ⟨q1, q2⟩ := hq (by show Rows.uptoBulk (D i) ≤ 1048576; omega)
      obtain ⟨b, off, spot⟩ := x
      have hs : spot = none := hsp (by omega)
      subst hs
      refine ⟨z, fun j v hv => ?_, rfl, q1, q2⟩
      have hj : j < 5 := by
        have := (List.getElem?_eq_some_iff.1 hv).1
        rw [← hz, hlen] at this
        exact this
      have := hcell j hj
      rw [hz, hv, Addr.add_lit, Addr.add_lit] at this
      exact this
    have hI : Inhabited A5 := ⟨⟨0, 0, 0, false, none, 0, 0, []⟩⟩
    obtain ⟨y, hy⟩ := Deep.choose_lt each
    have hL : ∀ i z, ((List.range len).map y)[i]? = some z → i < len ∧ z = y i := by
      intro i z hz
      rw [List.getElem?_map] at hz
      obtain ⟨j, hj, rfl⟩ := Option.map_eq_some_iff.1 hz
      have h3 := List.getElem?_eq_some_iff.1 hj
      obtain ⟨h4, h5⟩ := h3
      simp at h4 h5
      exact ⟨h4, by rw [h5]⟩
    have hsum : a5bulk ((List.range len).map y) ≤ Rows.uptoBulkAll ((List.range len).map D) := by
      unfold a5bulk
      rw [List.map_map]
      exact bulk_each D _ _ (fun i hi => (hy i (List.mem_range.1 hi)).2.2.2)
    refine ⟨some x, len, m, (List.range len).map y, rfl, ⟨by simp, hl, by unfold maxLen at hmx; omega, by omega, fun i z hz => ?_, fun i z hz => ?_⟩, by omega⟩
    · obtain ⟨h1, rfl⟩ := hL i z hz
      exact (hy i h1).2.2.1
    · obtain ⟨h1, rfl⟩ := hL i z hz
      refine ⟨x.block, x.off, ?_, (hy i h1).1⟩
      have := (hy i h1).2.1
      obtain ⟨b, off, spot⟩ := x
      subst this
      rfl

set_option maxRecDepth 100000 in
theorem a5_open {H : Type} {enc : TypeId × Value → H} {W : World} {base : Nat} {v : Value} {d : DataW H} {p : List MemPlace}
    (hv : Value.okWide Tryz.prog W .any base 33 v) (h : DataW.Trod enc Tryz.prog W 0 (fun _ => true) true 33 v d p) : ∃ z : A5, v = .agg z.cells.toArray := by
  obtain ⟨cs, rfl, hsz⟩ := okWide_struct Tryz.underlying33 hv
  rw [caA] at hsz
  obtain ⟨fuel, hf⟩ := h
  obtain ⟨l⟩ := cs
  obtain ⟨z, hz, _⟩ := a5_trod (L := l) (by simpa using hsz) hf
  exact ⟨z, by rw [hz]⟩
theorem bnobody_law (z : A5) (w : World) (he : EV w) :
    Calls Tryz.prog 4 #[.agg z.cells.toArray] w fun e w' => e = .returned (.bool true) ∧ Below w.heap.size w w' := bnobody_walk z.k z.h z.i z.nx z.a z.l z.c w he.pt

end Go.Proofs.YtpocadbhajacaaaGreatDoor
