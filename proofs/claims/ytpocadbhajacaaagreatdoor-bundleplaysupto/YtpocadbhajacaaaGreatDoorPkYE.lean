/-
  Texts one behind the other: Bwj Skr Bwk Kqj Kqm Kqn Kqo Kqp Kqq Kqr Byj Byz Bnb Byc.
-/
import Derived.Test.YtpocadbhajacaaaGreatDoorPkYD
import Derived.Test.YtpocadbhajacaaaGreatDoorPkYA
import Derived.Test.YtpocadbhajacaaaGreatDoorKql
import Derived.Test.YtpocadbhajacaaaGreatDoorKmj
import Derived.Test.YtpocadbhajacaaaGreatDoorKnb

/-
  Put.
-/
namespace Go.Proofs.YtpocadbhajacaaaGreatDoor
open Go.RowKit Go.Shelf
set_option linter.unusedVariables false
set_option linter.unusedSimpArgs false
set_option maxRecDepth 100000

/-- What Put answers on a height of n leaves. -/
def puEb (rs : List Rw) (h i : Int) (n : Nat) (x : List Int) : Int := if bnE h i = 0 then (if x.length ≤ 65535 then (if i = (n : Int) then reEb rs h.toNat (bnP h i) else 40) else 3) else 2
def puSb (s : Nat) (rs : List Rw) (h i : Int) (n : Nat) (x : List Int) : List Rw := if puEb rs h i n x = 0 then puW s rs (bnP h i) (lfB x) else rs
theorem be_two (n : Nat) (h : n ≤ 65535) : be (n : Int) 2 = [((n / 256 : Nat) : Int), ((n % 256 : Nat) : Int)] := by
  unfold be
  simp only [List.range_succ, List.range_zero, List.nil_append, List.cons_append, List.map_cons, List.map_nil]
  rw [show ((256 : Int) ^ (2 - 1 - 0)) = 256 from rfl, show ((256 : Int) ^ (2 - 1 - 1)) = 1 from rfl]
  have e1 : (n : Int) / 256 % 256 = ((n / 256 : Nat) : Int) := by omega
  have e2 : (n : Int) / 1 % 256 = ((n % 256 : Nat) : Int) := by omega
  rw [e1, e2]
theorem lfB_be (x : List Int) (h : x.length ≤ 65535) : be (x.length : Int) 2 ++ x = lfB x := by
  rw [be_two _ h]
  rfl
theorem lfB_isB {x : List Int} (h : x.length ≤ 65535) (hx : isB x) : isB (lfB x) := by
  intro y hy
  unfold lfB at hy
  rcases List.mem_cons.1 hy with rfl | hy
  · omega
  · rcases List.mem_cons.1 hy with rfl | hy
    · omega
    · exact hx y hy
set_option maxHeartbeats 400000 in
theorem putUint16_any (a : Option Addr) (len cap : Nat) (xs : List Int) (v : Int) (w : World) (hs : Sl w a len cap xs) (hv : 0 ≤ v) (hv2 : v < 65536) :
    Calls Tryz.prog 34 #[.slice a len cap, .int .u16 v] w fun e w' => ∃ g, e = .returned (.slice (some ⟨g, 0, none⟩) (len + 2) (len + 2)) ∧ w.heap.size ≤ g ∧ Blk w' g 5 (u8s (xs ++ be v 2)) ∧ Below w.heap.size w w' := by
  have HS := hide hs
  have hw : IntKind.u64.wrap v = v := by rw [IntKind.wrap_u64]; exact Int.emod_eq_of_lt hv (by omega)
  clear hs
  go_enter Tryz.func34, Tryz.ntmps34
  go_wp2_with (go_at_call 66; refine (putNumber_any _ _ _ xs v 2 _ HS.out (by omega) hv (by omega)).mono ?_; rintro e w1 ⟨g, rfl, hg, hrow, hb⟩)
  go_ret
  exact ⟨g, rfl, hg, hrow, hb⟩
theorem Sl.chsB {S : Nat → Prop} {w w' : World} {a : Option Addr} {len cap : Nat} {xs : List Int} (h : Sl w a len cap xs) (hc : Chs S w w') (hk : 0 < len → ∀ y, a = some y → ¬ S y.block) : Sl w' a len cap xs := by
  obtain ⟨h1, h2, h3, h4, h5, h6, h7⟩ := h
  refine ⟨h1, h2, h3, h4, h5, h6, fun h => ?_⟩
  obtain ⟨b, off, e, hce⟩ := h7 h
  refine ⟨b, off, e, fun i hi => ?_⟩
  rw [World.cell?_of_block (w := w) (hc.block b (World.block_lt_of_cell? w _ (hce i hi)) (hk h ⟨b, off, none⟩ e))]
  exact hce i hi
section
variable (d s : Nat) (rs : List Rw) (D : Dm) (w : World) (hd : DkAt w d s rs D)
include hd
set_option maxHeartbeats 2000000 in
theorem putB_any (h i : Int) (n : Nat) (a : Option Addr) (l c : Nat) (x : List Int) (hs : Sl w a l c x) (hap : 0 < l → ∀ y, a = some y → ¬ D.own d y.block) (ht : PT w) (hn : bnE h 0 = 0 → CnL (play rs) h.toNat n) (hwt : wt rs + 2 * x.length + 80 ≤ 1099511000000) :
    Calls Tryz.prog 10 #[.pointer (some ⟨d, 0, none⟩), .int .i64 h, .int .i64 i, .slice a l c] w fun r w' => r = .returned (.int .i64 (puEb rs h i n x)) ∧ OpR w w' d s D (puSb s rs h i n x) := by
  have HD := hide hd
  have HT := hide ht
  have HW := hide hwt
  have hxl := hs.hlen
  have hxr := hs.hreach
  have hxb := hs.hbyte
  have HS := hide hs
  have HAP := hide hap
  have HMD := hide (madeB_any d s rs D w hd)
  have HCU : Hid (∀ W : World, DkAt W d s rs D → PT W → Calls Tryz.prog 18 #[.pointer (some ⟨d, 0, none⟩), .int .i64 h] W fun r w' => r = .returned (.tuple #[.int .i64 (if bnE h 0 = 0 then (n : Int) else 0), .int .i64 (bnE h 0)]) ∧ Below W.heap.size W w') := hide (fun W h1 h2 => countB_any d s rs D W h1 h n h2 hn (by omega))
  have HNM : Hid (∀ W : World, PT W → Calls Tryz.prog 32 #[.int .i64 h, .int .i64 i] W fun r w' => r = .returned (.tuple #[.string (bnP h i), .int .i64 (bnE h i)]) ∧ Below W.heap.size W w') := hide (fun W h2 => bname_any h i W h2)
  by_cases he : bnE h i = 0
  · obtain ⟨H, I, rfl, rfl, hh, hI⟩ := nmO'_nats (bnE_zero he)
    have he0 : bnE (H : Int) 0 = 0 := bnE_nat (I := 0) hh (by decide)
    rw [he, bnP_nat hh hI] at HNM
    rw [he0, if_pos rfl] at HCU
    have hnb : n ≤ 1048576 := (hn he0).le
    by_cases hxn : x.length ≤ 65535
    · have hli : ¬ (65535 : Int) < (l : Int) := by omega
      have e1 : puEb rs (H : Int) (I : Int) n x = if (I : Int) = (n : Int) then reEb rs H (lfN H (I / 2 ^ H)) else 40 := by
        unfold puEb
        rw [if_pos he, if_pos hxn, bnP_nat hh hI, Int.toNat_natCast]
      have hnm := lfN_nm (k := I / 2 ^ H) hh (by have := Nat.div_le_self I (2 ^ H); omega)
      unfold puSb
      rw [e1, bnP_nat hh hI]
      generalize lfN H (I / 2 ^ H) = nm at *
      by_cases hin : I = n
      · subst hin
        rw [if_pos rfl]
        have HRD : Hid (∀ W : World, DkAt W d s rs D → PT W → Calls Tryz.prog 33 #[.pointer (some ⟨d, 0, none⟩), .int .i64 (H : Int), .string nm] W fun r w' => r = .returned (.int .i64 (reEb rs H nm)) ∧ OpR W w' d s D (reSb rs H nm)) := hide (fun W hW hP => readyB_any d s rs D W hW H nm hh hnm hP (by have := HW.out; omega))
        by_cases hr : reEb rs H nm = 0
        · have e2 : reSb rs H nm = crS rs nm := by unfold reEb at hr; unfold reSb; split at hr; cases hr; rename_i h0; rw [if_neg h0]
          rw [hr, e2] at HRD
          rw [hr, if_pos rfl]
          have hfe : fE (crS rs nm) nm = 0 := by
            rw [crS_is hnm]
            split
            · have e3 : play (rs ++ [rCr nm]) = upd (play rs) nm (some []) := by rw [play_snoc, do_cr]
              simp [fE, hnm, e3, upd_same]
            · rename_i h0
              cases hp : play rs nm with
              | none => exact absurd hp h0
              | some ys => simp [fE, hnm, hp]
          have hwc : wt (crS rs nm) ≤ wt rs + 1 := by
            rw [crS_is hnm]
            split
            · rw [wt_app]; simp [wt, rCr]
            · omega
          have HAP2 : Hid (∀ (W : World) (D1 : Dm) (a : Option Addr) (l c : Nat), DkAt W d s (crS rs nm) D1 → Sl W a l c (lfB x) → Calls Tryz.prog 27 #[.pointer (some ⟨d, 0, none⟩), .string nm, .slice a l c] W fun r w' => r = .returned (.int .i64 0) ∧ OpR W w' d s D1 (puW s rs nm (lfB x))) := hide (fun W D1 a l c hW hS => by
            have := append_any d s (crS rs nm) D1 W hW nm a l c (lfB x) hS (by have := HW.out; rw [lfB_len]; omega)
            rw [hfe] at this
            exact this)
          have HX := hide hxl
          have HXB := hide (lfB_isB hxn hxb)
          have HBE := hide (lfB_be x hxn)
          have hlu : IntKind.u16.wrap (l : Int) = (l : Int) := by rw [IntKind.wrap_u16]; omega
          have hl5 : l ≤ 65535 := by omega
          clear hr e2 hfe hwc hnm hn hI hh he he0 hd ht hwt e1 hs hap
          go_enter Tryz.func10, Tryz.ntmps10
          go_wp2_with (go_at_call 31; refine HMD.out.mono ?_; rintro r w' ⟨rfl, hw'⟩; subst w')
          refine (HNM.out _ HT.out).mono ?_
          rintro r w1 ⟨rfl, hb1⟩
          have HB1 := hide hb1
          clear hb1
          go_wp2_with fail
          refine (HCU.out _ (HD.out.below HB1.out) (HT.out.below HB1.out)).mono ?_
          rintro r w2 ⟨rfl, hb2⟩
          have HB2 := hide (on_below HB1.out hb2)
          clear hb2
          go_wp2_with fail
          refine (HRD.out _ (HD.out.below HB2.out) (HT.out.below HB2.out)).mono ?_
          rintro r w4 ⟨rfl, ho⟩
          obtain ⟨D1, a1, a2, a3, a4⟩ := ho
          have hsl : Sl w4 a l c x := ((HS.out.below HB2.out).chsB a2 (fun h0 y hy => HAP.out h0 y hy))
          have HSL := hide hsl
          have HA1 := hide a1
          have HOC : Hid (∀ w5 : World, OpR w4 w5 d s D1 (puW s rs nm (lfB x)) → OpR w w5 d s D (puW s rs nm (lfB x))) := hide (fun w5 h5 => OpR.pre HB2.out (OpR.comp a2 a3 a4 h5))
          clear a1 a2 a3 a4 hsl
          go_wp2_with fail
          refine (putUint16_any none 0 0 [] (l : Int) _ ⟨rfl, Nat.le_refl _, by omega, by omega, (fun x hx => by simp at hx), fun _ => ⟨rfl, rfl⟩, fun h => absurd h (by omega)⟩ (by omega) (by omega)).mono ?_
          rintro r w5 ⟨g, rfl, hg, hrow, hb5⟩
          rw [List.nil_append] at hrow
          have hown : Own w5 w4.heap.size (.slice (some ⟨g, 0, none⟩) (0 + 2) (0 + 2)) (be (l : Int) 2) := by
            have := Own.of_blkF hrow hg (by rw [be_length]; decide)
            rw [be_length] at this
            exact this
          have HO5 := hide hown
          have HB5 := hide hb5
          have HSL5 := hide (HSL.out.below hb5)
          clear hb5 hrow hown
          go_wp2_with (refine step_append rfl rfl rfl HO5.out HSL5.out (by rw [be_length]; omega) HB5.out.size ?_)
          intro v6 w6 ho6 hgr6 _
          have hbw : Below w4.heap.size w4 w6 := HB5.out.grown hgr6 HB5.out.size (fun k hk => HO5.out.lt k hk)
          rw [← HX.out, HBE.out] at ho6
          obtain ⟨va, vc, hv6, hs6⟩ := ho6.sl' HXB.out (by rw [lfB_len, HX.out]; omega)
          subst hv6
          have HS6 := hide hs6
          have HA6 := hide (HA1.out.below hbw)
          have HBW := hide hbw
          clear ho6 hgr6 hs6 hbw
          go_wp2_with fail
          refine (HAP2.out _ _ _ _ _ HA6.out HS6.out).mono ?_
          rintro r w7 ⟨rfl, ho7⟩
          have HO7 := hide (HOC.out _ (OpR.pre HBW.out ho7))
          clear ho7
          go_wp2
          go_ret
          exact ⟨rfl, HO7.out⟩
        · have e2 : reSb rs H nm = rs := by unfold reEb at hr; unfold reSb; split at hr; rename_i h0; rw [if_pos h0]; exact absurd rfl hr
          rw [e2] at HRD
          rw [if_neg hr]
          clear e2 hnm hn hI hh he he0 hd ht hwt e1 hs hap
          generalize reEb rs H nm = er at *
          go_enter Tryz.func10, Tryz.ntmps10
          go_wp2_with (go_at_call 31; refine HMD.out.mono ?_; rintro r w' ⟨rfl, hw'⟩; subst w')
          refine (HNM.out _ HT.out).mono ?_
          rintro r w1 ⟨rfl, hb1⟩
          have HB1 := hide hb1
          clear hb1
          go_wp2_with fail
          refine (HCU.out _ (HD.out.below HB1.out) (HT.out.below HB1.out)).mono ?_
          rintro r w2 ⟨rfl, hb2⟩
          have HB2 := hide (on_below HB1.out hb2)
          clear hb2
          go_wp2_with fail
          refine (HRD.out _ (HD.out.below HB2.out) (HT.out.below HB2.out)).mono ?_
          rintro r w4 ⟨rfl, ho⟩
          go_wp2
          go_ret
          exact ⟨rfl, ho.pre HB2.out⟩
      · have hin2 : ¬ (I : Int) = (n : Int) := by omega
        rw [if_neg hin2, if_neg (by decide)]
        clear hnm hn hI hh he he0 hd ht hwt e1 hs hap
        go_enter Tryz.func10, Tryz.ntmps10
        go_wp2_with (go_at_call 31; refine HMD.out.mono ?_; rintro r w' ⟨rfl, hw'⟩; subst w')
        refine (HNM.out _ HT.out).mono ?_
        rintro r w1 ⟨rfl, hb1⟩
        have HB1 := hide hb1
        clear hb1
        go_wp2_with fail
        refine (HCU.out _ (HD.out.below HB1.out) (HT.out.below HB1.out)).mono ?_
        rintro r w2 ⟨rfl, hb2⟩
        have HB2 := hide (on_below HB1.out hb2)
        clear hb2
        go_wp2
        go_ret
        exact ⟨rfl, OpR.below HD.out HB2.out⟩
    · have hli : (65535 : Int) < (l : Int) := by omega
      have e1 : puEb rs (H : Int) (I : Int) n x = 3 := by unfold puEb; rw [if_pos he, if_neg hxn]
      unfold puSb
      rw [e1, if_neg (by decide)]
      generalize lfN H (I / 2 ^ H) = nm at *
      clear hn hI hh he he0 hd ht hwt e1 hs hap HCU
      go_enter Tryz.func10, Tryz.ntmps10
      go_wp2_with (go_at_call 31; refine HMD.out.mono ?_; rintro r w' ⟨rfl, hw'⟩; subst w')
      refine (HNM.out _ HT.out).mono ?_
      rintro r w1 ⟨rfl, hb1⟩
      have HB1 := hide hb1
      clear hb1
      go_wp2
      go_ret
      exact ⟨rfl, OpR.below HD.out HB1.out⟩
  · have e1 : puEb rs h i n x = 2 := by unfold puEb; rw [if_neg he]
    unfold puSb
    rw [e1, if_neg (by decide)]
    have e3 : bnE h i = 2 := by rcases bnE_bin h i with k | k; exact absurd k he; exact k
    rw [e3] at HNM
    generalize bnP h i = nm at *
    clear hd ht hn hwt he e1 e3 hs hap HCU
    go_enter Tryz.func10, Tryz.ntmps10
    go_wp2_with (go_at_call 31; refine HMD.out.mono ?_; rintro r w' ⟨rfl, hw'⟩; subst w')
    refine (HNM.out _ HT.out).mono ?_
    rintro r w1 ⟨rfl, hb1⟩
    have HB1 := hide hb1
    clear hb1
    go_wp2
    go_ret
    exact ⟨rfl, OpR.below HD.out HB1.out⟩
end

end Go.Proofs.YtpocadbhajacaaaGreatDoor

/-
  A region that draws its order inside a round of a range over a function: walked by hand, as outside (as Kr), and what is held only till a given operation comes (as Ou).
-/

namespace Go.Proofs.YtpocadbhajacaaaGreatDoor
open Go.RowKit Go.Shelf
set_option linter.unusedVariables false

section
variable {F : Fence} {n : Nat} {P : Program} {ops : Array Oper} {md : Region.Mode}
theorem wpOpIn_of_wpOp (hF : WideF F) (hd : ops.all noDefer = true) {i : Nat} {a : Act} {K K' : Act → World → Prop} {Q : Exit → Act → World → Prop} {w : World} (hL : ¬ LetsOut Q) (h : ∀ a w', K a w' → K' a w') (hh : wpOp P ops Q i K a w) : wpOpIn F n P ops Q i K' a w := by
  unfold wpOp at hh
  unfold wpOpIn
  split
  · rename_i ho; simp only [ho] at hh; exact h _ _ hh
  · rename_i o ho
    simp only [ho] at hh
    split
    · rename_i hw
      simp only [hw, if_true] at hh
      rcases hh with hh | ⟨_, hh⟩
      · refine lift_op hF (fun c hc => ?_) (Oper.wp_mono h hh)
        have h1 := Array.all_eq_true.1 hd
        obtain ⟨hi, he⟩ := Array.getElem?_eq_some_iff.1 ho
        have h2 := h1 i hi
        rw [he] at h2
        simp [noDefer, hc] at h2
      · exact absurd hh hL
    · rename_i hw; simp only [hw] at hh; exact ⟨fun f _ => hF.fn f, h _ _ hh⟩
theorem wpAnyIn_of_any (hF : WideF F) (hd : ops.all noDefer = true) {Q : Exit → Act → World → Prop} (hL : ¬ LetsOut Q) : ∀ (fuel : Nat) (listed : Array Bool) (a : Act) (w : World), wpAny P md ops Q fuel listed a w → wpAnyIn F n P md ops Q fuel listed a w
  | 0, _, _, _, h => h
  | fuel + 1, _, _, _, h => ⟨h.1, fun i hi => wpOpIn_of_wpOp hF hd hL (fun a' w' h' => wpAnyIn_of_any hF hd hL fuel _ a' w' h') (h.2 i hi)⟩
/-- Only the normal way out. -/
def Only (R : Act → World → Prop) : Exit → Act → World → Prop
  | .normal, a, w => R a w
  | _, _, _ => False
theorem Only.imp {Q : Exit → Act → World → Prop} : ∀ (e : Exit) (a : Act) (w : World), Only (fun a w => Q .normal a w) e a w → Q e a w := fun e a w h => by
  cases e <;> first | exact h | exact (h : False).elim
theorem Only.normal {Q : Exit → Act → World → Prop} {a : Act} {w : World} (h : Q .normal a w) : Only (fun a w => Q .normal a w) .normal a w := h
theorem Only.out (R : Act → World → Prop) : ¬ LetsOut (Only R) := by rintro ⟨a, w, h⟩; exact h
theorem wpIn_region_held {S : World → Prop} {id : Nat} {Q : Exit → Act → World → Prop} {a : Act} {w : World} (hF : WideF F) (hm : P.follows .mixedOrders = true) (hd : ops.all noDefer = true) (hS : S w.drew)
    (h : S w.drew → wpAnyH P .any ops (Only (fun a w => Q .normal a w)) S ops.size (Array.replicate ops.size false) a w.drew) : (Code.region id ops true).wpIn F n P Q a w :=
  Code.wpIn_mono Only.imp (wpIn_region_any hm (wpAnyIn_of_any hF hd (Only.out _) _ _ _ _ (wpAny_of_held _ _ _ _ (h hS))))
end

end Go.Proofs.YtpocadbhajacaaaGreatDoor

/-
  Read: a leaf's bytes.
-/
namespace Go.Proofs.YtpocadbhajacaaaGreatDoor
open Go.RowKit Go.Shelf
set_option linter.unusedVariables false
set_option linter.unusedSimpArgs false
set_option maxRecDepth 100000

/-- The leaf that is asked for, if it is there. -/
def rdK (rs : List Rw) (h i : Int) : Nat := i.toNat % 2 ^ h.toNat
def rdL (rs : List Rw) (h i : Int) : List (List Int) := wl (2 ^ h.toNat) (fl (play rs) (bnP h i))
/-- What Read tells. -/
def rdEb (rs : List Rw) (h i : Int) : Int := if bnE h i = 0 then (if rdK rs h i < (rdL rs h i).length then 0 else 121) else 2
def rdBb (rs : List Rw) (h i : Int) : List Int := if rdEb rs h i = 0 then (rdL rs h i).getD (rdK rs h i) [] else []
/-- What stands while a leaf is looked for. -/
structure ZR (w W : World) (b3 b4 b5 b6 b7 d H I : Nat) : Prop where
  c3 : Blk W b3 26 [.pointer (some ⟨d, 0, none⟩)]
  c4 : Blk W b4 3 [.int .i64 (H : Int)]
  c5 : Blk W b5 3 [.int .i64 (I : Int)]
  c6 : Blk W b6 31 [.slice none 0 0]
  c7 : Blk W b7 36 [.int .i64 0]
  le : w.heap.size ≤ b6 ∧ w.heap.size ≤ b7
  bel : Below w.heap.size w W
theorem ZR.ck {w W W' : World} {b3 b4 b5 b6 b7 d H I : Nat} (h : ZR w W b3 b4 b5 b6 b7 d H I) (hk : CK W W') (hb : Below w.heap.size w W') : ZR w W' b3 b4 b5 b6 b7 d H I := ⟨h.c3.ck hk, h.c4.ck hk, h.c5.ck hk, h.c6.ck hk, h.c7.ck hk, h.le, hb⟩
theorem ZR.on {w W W' : World} {b3 b4 b5 b6 b7 d H I : Nat} (h : ZR w W b3 b4 b5 b6 b7 d H I) (hb : Below W.heap.size W W') : ZR w W' b3 b4 b5 b6 b7 d H I := h.ck (CK.below hb) (on_below h.bel hb)
/-- What a found leaf leaves. -/
structure ZF (w W : World) (b6 b7 : Nat) (v : Value) (e : Int) (x : List Int) : Prop where
  c6 : Blk W b6 31 [v]
  c7 : Blk W b7 36 [.int .i64 e]
  own : Own W w.heap.size v x
  bel : Below w.heap.size w W
theorem ZF.ck {w W W' : World} {b6 b7 : Nat} {v : Value} {e : Int} {x : List Int} (h : ZF w W b6 b7 v e x) (hk : CK W W') (hb : Below w.heap.size w W') : ZF w W' b6 b7 v e x := ⟨h.c6.ck hk, h.c7.ck hk, h.own.ck hk, hb⟩
theorem ZR.new (w : World) (d : Nat) (h i : Int) : ∃ W, W = (((((w.alloc (.cells #[.pointer (some ⟨d, 0, none⟩)] 26)).alloc (.cells #[.int .i64 h] 3)).alloc (.cells #[.int .i64 i] 3)).alloc (.cells #[.slice none 0 0] 31)).alloc (.cells #[.int .i64 0] 36)) ∧
    Blk W w.heap.size 26 [.pointer (some ⟨d, 0, none⟩)] ∧ Blk W (w.heap.size + 1) 3 [.int .i64 h] ∧ Blk W (w.heap.size + 1 + 1) 3 [.int .i64 i] ∧ Blk W (w.heap.size + 1 + 1 + 1) 31 [.slice none 0 0] ∧ Blk W (w.heap.size + 1 + 1 + 1 + 1) 36 [.int .i64 0] ∧ Below w.heap.size w W := by
  refine ⟨_, rfl, ?_⟩
  have b1 : Below w.heap.size w (w.alloc (.cells #[.pointer (some ⟨d, 0, none⟩)] 26)) := (Below.refl _ _).alloc (Nat.le_refl _) _
  have B1 : Blk (w.alloc (.cells #[.pointer (some ⟨d, 0, none⟩)] 26)) w.heap.size 26 [.pointer (some ⟨d, 0, none⟩)] := Blk.made _ _ _
  have z1 : (w.alloc (.cells #[.pointer (some ⟨d, 0, none⟩)] 26)).heap.size = w.heap.size + 1 := World.size_alloc _ _
  generalize w.alloc (.cells #[.pointer (some ⟨d, 0, none⟩)] 26) = W1 at *
  have b2 : Below W1.heap.size W1 (W1.alloc (.cells #[.int .i64 h] 3)) := (Below.refl _ _).alloc (Nat.le_refl _) _
  have B2 : Blk (W1.alloc (.cells #[.int .i64 h] 3)) W1.heap.size 3 [.int .i64 h] := Blk.made _ _ _
  have z2 : (W1.alloc (.cells #[.int .i64 h] 3)).heap.size = W1.heap.size + 1 := World.size_alloc _ _
  generalize W1.alloc (.cells #[.int .i64 h] 3) = W2 at *
  have b3 : Below W2.heap.size W2 (W2.alloc (.cells #[.int .i64 i] 3)) := (Below.refl _ _).alloc (Nat.le_refl _) _
  have B3 : Blk (W2.alloc (.cells #[.int .i64 i] 3)) W2.heap.size 3 [.int .i64 i] := Blk.made _ _ _
  have z3 : (W2.alloc (.cells #[.int .i64 i] 3)).heap.size = W2.heap.size + 1 := World.size_alloc _ _
  generalize W2.alloc (.cells #[.int .i64 i] 3) = W3 at *
  have b4 : Below W3.heap.size W3 (W3.alloc (.cells #[.slice none 0 0] 31)) := (Below.refl _ _).alloc (Nat.le_refl _) _
  have B4 : Blk (W3.alloc (.cells #[.slice none 0 0] 31)) W3.heap.size 31 [.slice none 0 0] := Blk.made _ _ _
  have z4 : (W3.alloc (.cells #[.slice none 0 0] 31)).heap.size = W3.heap.size + 1 := World.size_alloc _ _
  generalize W3.alloc (.cells #[.slice none 0 0] 31) = W4 at *
  have b5 : Below W4.heap.size W4 (W4.alloc (.cells #[.int .i64 0] 36)) := (Below.refl _ _).alloc (Nat.le_refl _) _
  have B5 : Blk (W4.alloc (.cells #[.int .i64 0] 36)) W4.heap.size 36 [.int .i64 0] := Blk.made _ _ _
  rw [z1] at B2 z2
  rw [z2] at B3 z3
  rw [z3] at B4 z4
  rw [z4] at B5
  exact ⟨(((B1.on b2).on b3).on b4).on b5, ((B2.on b3).on b4).on b5, (B3.on b4).on b5, B4.on b5, B5, on_below (on_below (on_below (on_below b1 b2) b3) b4) b5⟩
theorem own_down {w : World} {B B' : Nat} {v : Value} {xs : List Int} (h : Own w B v xs) (hB : B' ≤ B) : Own w B' v xs := by
  obtain ⟨h1, h2⟩ := h
  refine ⟨h1, ?_⟩
  rcases h2 with h2 | ⟨g, cap, cur, e, hg, r⟩
  · exact .inl h2
  · exact .inr ⟨g, cap, cur, e, Nat.le_trans hB hg, r⟩
section
variable (d s : Nat) (rs : List Rw) (D : Dm) (w : World) (hd : DkAt w d s rs D)
include hd
set_option maxHeartbeats 4000000 in
theorem readB_ok (H I : Nat) (hh : hB H) (hI : I < 1048576) (ht : PT w) (hwt : wt rs ≤ 1099511000000) :
    Calls Tryz.prog 14 #[.pointer (some ⟨d, 0, none⟩), .int .i64 (H : Int), .int .i64 (I : Int)] w fun r w' => ∃ v, r = .returned (.tuple #[v, .int .i64 (rdEb rs H I)]) ∧ Own w' w.heap.size v (rdBb rs H I) ∧ Below w.heap.size w w' := by
  have he := bnE_nat hh hI
  have hrk : rdK rs (H : Int) (I : Int) = I % 2 ^ H := by unfold rdK; simp only [Int.toNat_natCast]
  have hrl : rdL rs (H : Int) (I : Int) = wl (2 ^ H) (fl (play rs) (lfN H (I / 2 ^ H))) := by unfold rdL; rw [bnP_nat hh hI]; simp only [Int.toNat_natCast]
  have hre : rdEb rs (H : Int) (I : Int) = if I % 2 ^ H < (wl (2 ^ H) (fl (play rs) (lfN H (I / 2 ^ H)))).length then 0 else 121 := by unfold rdEb; rw [if_pos he, hrk, hrl]
  have hrb : rdBb rs (H : Int) (I : Int) = if I % 2 ^ H < (wl (2 ^ H) (fl (play rs) (lfN H (I / 2 ^ H)))).length then (wl (2 ^ H) (fl (play rs) (lfN H (I / 2 ^ H)))).getD (I % 2 ^ H) [] else [] := by
    unfold rdBb
    rw [hre]
    split <;> simp_all
  rw [hre, hrb]
  have HNM : Hid (∀ W : World, PT W → Calls Tryz.prog 32 #[.int .i64 (H : Int), .int .i64 (I : Int)] W fun r w' => r = .returned (.tuple #[.string (lfN H (I / 2 ^ H)), .int .i64 0]) ∧ Below W.heap.size W w') := hide (fun W h2 => by
    have := bname_any (H : Int) (I : Int) W h2
    rw [bnP_nat hh hI, he] at this
    exact this)
  clear hre hrb hrk hrl he
  have HMD : Hid (∀ W : World, DkAt W d s rs D → Calls Tryz.prog 31 #[.pointer (some ⟨d, 0, none⟩)] W fun r w' => r = .returned (.bool true) ∧ w' = W) := hide (fun W hW => madeB_any d s rs D W hW)
  have HSQ0 : Hid (∀ (nm : ByteArray) (V : World) (gd gh gn B : Nat), WAt V d s rs D gd gh gn H nm B → SeqM Fence.wide 3 Tryz.prog 77 #[.pointer (some ⟨gd, 0, none⟩), .pointer (some ⟨gn, 0, none⟩), .pointer (some ⟨gh, 0, none⟩)] encW (RW nm (wl (2 ^ H) (fl (play rs) nm))) (fun _ => KB B (FD d D)) (fun ys => ys = wls nm (wl (2 ^ H) (fl (play rs) nm)) (wl (2 ^ H) (fl (play rs) nm)).length) (fun ys => ∃ k, k ≤ (wl (2 ^ H) (fl (play rs) nm)).length ∧ ys = wls nm (wl (2 ^ H) (fl (play rs) nm)) k) V) := hide (fun nm V gd gh gn B hA => (whole_seq d s rs D gd gh gn H nm B V hA hh hwt).toM)
  generalize lfN H (I / 2 ^ H) = nm at *
  have HSQ1 := hide (HSQ0.out nm)
  clear HSQ0
  obtain ⟨P, HP⟩ : ∃ P, Hid (2 ^ H = P) := ⟨_, hide rfl⟩
  have HWP := hide (wrap_powB hh HP.out)
  have HWQ : Hid (IntKind.i64.wrap (2 ^ H) = (P : Int)) := hide (by
    have e : ((2 : Int) ^ H) = (P : Int) := by rw [← HP.out]; simp [Int.natCast_pow]
    rw [e]
    have := hh.pow
    exact wrap_in _ (by omega) (by rw [← HP.out]; omega))
  have hP := hh.pow
  have hbb := hd.byB nm
  have HRD0 : Hid (∀ (k : Nat), k < (wl (2 ^ H) (fl (play rs) nm)).length → ∀ (W : World), DkAt W d s rs D → Calls Tryz.prog 50 #[.pointer (some ⟨d, 0, none⟩), .string nm, .int .i64 ((offL (wl (2 ^ H) (fl (play rs) nm)) k + 2 : Nat) : Int), .int .i64 ((((wl (2 ^ H) (fl (play rs) nm)).getD k []).length : Nat) : Int)] W fun e w' => ∃ v, e = .returned (.tuple #[v, .int .i64 0]) ∧ Own w' W.heap.size v ((wl (2 ^ H) (fl (play rs) nm)).getD k []) ∧ Below W.heap.size W w') := hide (fun k hk W hW => by
    have hnx := offL_next hbb hk
    obtain ⟨t, ht⟩ := wl_at hbb hk
    have := read_any d s rs D W hW nm ((offL (wl (2 ^ H) (fl (play rs) nm)) k + 2 : Nat) : Int) ((((wl (2 ^ H) (fl (play rs) nm)).getD k []).length : Nat) : Int) hwt
    obtain ⟨e1, e2⟩ := rq_in hW nm (offL (wl (2 ^ H) (fl (play rs) nm)) k + 2) ((wl (2 ^ H) (fl (play rs) nm)).getD k []).length (by omega)
    have hf : fE rs nm = 0 := by
      by_cases hf : fE rs nm = 0
      · exact hf
      · have h0 := fE_fl hW hf
        rw [h0] at hnx
        simp at hnx
    rw [e1, e2, hf, ← List.drop_drop, ht] at this
    unfold lfB at this
    simp only [List.cons_append, List.drop_succ_cons, List.drop_zero, List.take_left] at this
    exact this)
  rw [HP.out] at hP HSQ1 HRD0 ⊢
  have hofl := fun k => Nat.le_trans (offL_le (m := P) hbb k) (Nat.le_trans (play_wt rs nm) hwt)
  obtain ⟨ls, HLS⟩ : ∃ ls, Hid (wl P (fl (play rs) nm) = ls) := ⟨_, hide rfl⟩
  rw [HLS.out] at HSQ1 HRD0 hofl ⊢
  have HOF := hide hofl
  have hln : ls.length ≤ P := by rw [← HLS.out]; exact wl_le _ _
  have hvb : ∀ k, k < ls.length → (ls.getD k []).length ≤ 65535 := fun k hk => by
    rw [← HLS.out] at hk ⊢
    exact (wl_ok _ _ hbb _ (getD_mem hk)).1
  have HVB := hide hvb
  obtain ⟨hP1, hP2⟩ := hP
  have hH8 : (H : Int) ≤ 8 := by have := hh.2; omega
  have HD := hide hd
  have HT := hide ht
  have HFL : Hid (∀ q, FD d D q → q < w.heap.size) := hide (fun q hq => fd_lt hd ht hq)
  obtain ⟨q, HQ⟩ : ∃ q, Hid (I % P = q) := ⟨_, hide rfl⟩
  have hqP : q < P := by rw [← HQ.out]; exact Nat.mod_lt _ (by omega)
  have HRE : Hid ((I : Int).tmod (P : Int) = (q : Int)) := hide (by rw [← HQ.out]; exact (Int.ofNat_tmod I P).symm)
  rw [HQ.out]
  obtain ⟨ee, HEE⟩ : ∃ ee, Hid ((if q < ls.length then (0 : Int) else 121) = ee) := ⟨_, hide rfl⟩
  obtain ⟨bs, HBS⟩ : ∃ bs, Hid ((if q < ls.length then ls.getD q [] else []) = bs) := ⟨_, hide rfl⟩
  rw [HEE.out, HBS.out]
  clear hd ht hwt hh hbb HLS hvb hofl
  refine (callsIn_wide (n := 4)).1 ?_
  refine callsIn_of_wp_marks Tryz.func14 rfl trivial ?_ rfl
  refine wpIn_wide.2 ?_
  simp only [Tryz.ntmps14, List.size_toArray, List.length_cons, List.length_nil, Nat.reduceAdd, Nat.reduceSub, Array.replicate_succ, Array.replicate_zero, List.push_toArray, List.append_toArray, List.nil_append, List.cons_append]
  go_wp2_with fail
  obtain ⟨W0, hW0, B3, B4, B5, B6, B7, hbl0⟩ := ZR.new w d (H : Int) (I : Int)
  rw [← hW0]
  generalize hb7 : w.heap.size + 1 + 1 + 1 + 1 = b7 at *
  generalize hb6 : w.heap.size + 1 + 1 + 1 = b6 at *
  generalize hb5 : w.heap.size + 1 + 1 = b5 at *
  generalize hb4 : w.heap.size + 1 = b4 at *
  have hne : b6 ≠ b7 ∧ w.heap.size ≤ b6 ∧ w.heap.size ≤ b7 := ⟨by omega, by omega, by omega⟩
  obtain ⟨b3, hb3⟩ : ∃ b3, w.heap.size = b3 := ⟨_, rfl⟩
  rw [hb3]
  rw [hb3] at B3
  have HZ0 : Hid (ZR w W0 b3 b4 b5 b6 b7 d H I) := hide ⟨B3, B4, B5, B6, B7, hne.2, hbl0⟩
  have HNE := hide hne
  clear hW0 hb7 hb6 hb5 hb4 hne B3 B4 B5 B6 B7 hbl0
  have HB3 := hide hb3
  clear hb3
  have c3 : W0.cell? ⟨b3, 0, none⟩ = some (.pointer (some ⟨d, 0, none⟩)) := by rw [HZ0.out.c3.cell]; rfl
  have c4 : W0.cell? ⟨b4, 0, none⟩ = some (.int .i64 (H : Int)) := by rw [HZ0.out.c4.cell]; rfl
  have c5 : W0.cell? ⟨b5, 0, none⟩ = some (.int .i64 (I : Int)) := by rw [HZ0.out.c5.cell]; rfl
  go_wp2_with (go_at_call 31; refine (HMD.out _ (HD.out.below HZ0.out.bel)).mono ?_; rintro r w' ⟨rfl, hw'⟩; subst w')
  refine (HNM.out _ (HT.out.below HZ0.out.bel)).mono ?_
  rintro r w1 ⟨rfl, hb1⟩
  have HZ1 := hide (HZ0.out.on hb1)
  clear hb1 HZ0 c3 c4 c5 HMD HNM
  have c3 : w1.cell? ⟨b3, 0, none⟩ = some (.pointer (some ⟨d, 0, none⟩)) := by rw [HZ1.out.c3.cell]; rfl
  have c4 : w1.cell? ⟨b4, 0, none⟩ = some (.int .i64 (H : Int)) := by rw [HZ1.out.c4.cell]; rfl
  go_wp2_with fail
  refine (whole_mk _ _ _ _).mono ?_
  rintro r w3 ⟨gd, gh, gn, rfl, BD, BH, BN, hgd, hgh, hgn, hb3⟩
  have HZ3 := hide (HZ1.out.on hb3)
  have HSQ := hide (HSQ1.out w3 gd gh gn w1.heap.size ⟨HD.out.below HZ3.out.bel, HT.out.below HZ3.out.bel, BD, BH, BN, hgd, hgh, hgn⟩)
  have hs13 : w.heap.size ≤ w3.heap.size := HZ3.out.bel.size
  have hl6 : b6 < w3.heap.size := HZ3.out.c6.lt
  have hl7 : b7 < w3.heap.size := HZ3.out.c7.lt
  clear hb3 BD BH BN hgd hgh hgn HZ1 c3 c4 HSQ1
  go_wp2_with fail
  refine (wpIn_wide (n := 4)).1 ?_
  refine rangeM rfl (by decide) (gf := 77) (lb := #[.pointer (some ⟨gd, 0, none⟩), .pointer (some ⟨gn, 0, none⟩), .pointer (some ⟨gh, 0, none⟩)]) rfl trivial (enters_of Tryz.func77 (by kernel_rfl) rfl)
    HSQ.out KB.trans (fun x V l o o' hl h hc => KB.book (B' := w3.heap.size) (fun q hq => by have := HFL.out q hq; omega) V l o o' hl h hc) (fun x A C h => KB.below h) (fun _ => rfl) (fun pre x V0 => rw_own _ _ _ pre x V0)
    (fun pre V => pre.length ≤ q ∧ ZR w V b3 b4 b5 b6 b7 d H I) (fun c pre V => c = .ret ∧ q < ls.length ∧ ∃ v, ZF w V b6 b7 v 0 (ls.getD q []))
    (fun _ A C row h hg hr => ⟨h.1, h.2.ck (CK.of_grown hg (fun r e => (hr r e).2)) (h.2.bel.grown hg h.2.bel.size (fun r e => by have := (hr r e).1; omega))⟩)
    (fun c _ A C row h hg hr => ⟨h.1, h.2.1, h.2.2.elim fun v hv => ⟨v, hv.ck (CK.of_grown hg (fun r e => (hr r e).2)) (hv.bel.grown hg hv.bel.size (fun r e => by have := (hr r e).1; omega))⟩⟩) ⟨Nat.zero_le _, HZ3.out⟩ ?act (fun x g V => Blk V g 102 (plV x.2)) (fun x g V l r o' hl hx => blk_loop V l r o' hl hx) ?assign ?body ?done ?stop
  case assign =>
    rintro l x V K ⟨pre, V0, h1, h2, h3⟩ hK
    have hsem := Oper.semAt_some
    simp only [encW]
    clear h1 h2 h3
    gi_wp2_with (refine istep_alloc (.round l) zPl rfl ?_)
    intro V1 g9 hg9 hle9 hb9
    gi_wp2_with (refine istep_storeA (.round l) wPl rfl rfl rfl hg9 rfl (One.pl x.2) rfl ?_)
    intro V2 hg92 hbut9
    have hb92 : Below V.heap.size V V2 := hb9.trans (hbut9.below hle9)
    have hK2 := hK g9 V2 hb92 hle9 hg92
    clear hK
    gi_wp2
    exact hK2
  case stop =>
    rintro D0 c pre V hD hSp ⟨rfl, hql, v, hz⟩ hK
    have HE : Hid (ZF w (V.putObj D0 (.deferred none)) b6 b7 v 0 (ls.getD q [])) := hide (hz.ck (CK.put (.deferred none) hK rfl) (hz.bel.trans (belowK_b (w := w) (Nat.le_refl _) _ D0 _ (.deferred none) (by omega) hK rfl rfl)))
    have HK := hide hK
    have e6 : (V.putObj D0 (.deferred none)).cell? ⟨b6, 0, none⟩ = some v := by rw [HE.out.c6.cell]; rfl
    have e7 : (V.putObj D0 (.deferred none)).cell? ⟨b7, 0, none⟩ = some (.int .i64 0) := by rw [HE.out.c7.cell]; rfl
    have h0 : ee = 0 := by rw [← HEE.out, if_pos hql]
    have h1 : ls.getD q [] = bs := by rw [← HBS.out, if_pos hql]
    rw [h1] at HE
    subst h0
    clear hz hK h1
    refine wpIn_wide.2 ?_
    go_wp2
    refine ⟨by simp, .inl ⟨_, _, rfl, run_takeDeferred HK.out, ?_⟩⟩
    refine ⟨.tuple #[v, .int .i64 0], by simp [results, Tryz.f14, go_sem, e6, e7], ?_⟩
    exact ⟨v, rfl, HE.out.own, HE.out.bel⟩
  case done =>
    rintro Dk ys V hD hS ⟨hyk, hz⟩ hK
    obtain rfl : ys = wls nm ls ls.length := hS
    rw [wls_len] at hyk
    have h0 : ee = 121 := by rw [← HEE.out, if_neg (by omega)]
    have h1 : [] = bs := by rw [← HBS.out, if_neg (by omega)]
    subst h0 h1
    have HZ := hide hz
    have HK := hide hK
    have f6 := hz.c6.free 0
    have hb6 := But.setCell V b6 0 (.slice none 0 0)
    have hc7 : Blk (V.setCell ⟨b6, 0, none⟩ (.slice none 0 0)) b7 36 [.int .i64 0] := hz.c7.but hb6 (fun e => HNE.out.1 e.symm)
    have f7 := hc7.free 0
    have d8 : (V.setCell ⟨b6, 0, none⟩ (.slice none 0 0)).cell? ⟨b7, 0, none⟩ = some (.int .i64 0) := by rw [hc7.cell]; rfl
    have d6 : V.cell? ⟨b6, 0, none⟩ = some (.slice none 0 0) := by rw [hz.c6.cell]; rfl
    have d7 : V.cell? ⟨b7, 0, none⟩ = some (.int .i64 0) := by rw [hz.c7.cell]; rfl
    clear hz hK hb6 hc7
    go_wp2
    have hbut6 := But.setCell V b6 0 (.slice none 0 0)
    have hbut7 := But.setCell (V.setCell ⟨b6, 0, none⟩ (.slice none 0 0)) b7 0 (.int .i64 121)
    have g6 : Blk ((V.setCell ⟨b6, 0, none⟩ (.slice none 0 0)).setCell ⟨b7, 0, none⟩ (.int .i64 121)) b6 31 [.slice none 0 0] := (HZ.out.c6.set 0 _).but hbut7 HNE.out.1
    have g7 : Blk ((V.setCell ⟨b6, 0, none⟩ (.slice none 0 0)).setCell ⟨b7, 0, none⟩ (.int .i64 121)) b7 36 [.int .i64 121] := (HZ.out.c7.but hbut6 (fun e => HNE.out.1 e.symm)).set 0 _
    have hk2 : ((V.setCell ⟨b6, 0, none⟩ (.slice none 0 0)).setCell ⟨b7, 0, none⟩ (.int .i64 121)).heap[Dk]? = some (.deferred (some [])) := by
      rw [hbut7.block Dk (by omega), hbut6.block Dk (by omega)]
      exact HK.out
    have hbw : Below w.heap.size w ((V.setCell ⟨b6, 0, none⟩ (.slice none 0 0)).setCell ⟨b7, 0, none⟩ (.int .i64 121)) := (HZ.out.bel.trans (hbut6.below HNE.out.2.1)).trans (hbut7.below HNE.out.2.2)
    generalize (V.setCell ⟨b6, 0, none⟩ (.slice none 0 0)).setCell ⟨b7, 0, none⟩ (.int .i64 121) = V2 at *
    refine ⟨by simp, .inl ⟨_, _, rfl, run_takeDeferred hk2, ?_⟩⟩
    have e6 : (V2.putObj Dk (.deferred none)).cell? ⟨b6, 0, none⟩ = some (.slice none 0 0) := by rw [(g6.ck (CK.put (.deferred none) hk2 rfl)).cell]; rfl
    have e7 : (V2.putObj Dk (.deferred none)).cell? ⟨b7, 0, none⟩ = some (.int .i64 121) := by rw [(g7.ck (CK.put (.deferred none) hk2 rfl)).cell]; rfl
    refine ⟨.tuple #[.slice none 0 0, .int .i64 121], by simp [results, Tryz.f14, go_sem, e6, e7], ?_⟩
    exact ⟨_, rfl, Own.nil _ _, hbw.trans (belowK_b (w := w) (Nat.le_refl _) _ Dk _ (.deferred none) (by omega) hk2 rfl rfl)⟩
  case body =>
    rintro l pre ⟨xi, xp⟩ gx V0 V hgx hbx _ hck hsz ⟨hpk, hz⟩ ⟨h1, h2, h3⟩
    have hsem := Oper.semAt_some
    obtain ⟨j, HJ⟩ : ∃ j, Hid (pre.length = j) := ⟨_, hide rfl⟩
    rw [HJ.out] at h1 h3 hpk
    obtain ⟨e1, e2⟩ := Prod.mk.inj h3
    subst e1
    have HP1 : Hid ((pre ++ [(xi, xp)]).length = xi + 1) := hide (by rw [List.length_append, HJ.out]; rfl)
    have hbx2 : Blk V gx 102 (plV xp) := hbx
    rw [e2] at hbx2
    have HRD := hide (HRD0.out xi h1)
    obtain ⟨x, HX⟩ : ∃ x, Hid (ls.getD xi [] = x) := ⟨_, hide rfl⟩
    obtain ⟨oj, HOJ⟩ : ∃ oj, Hid (offL ls xi = oj) := ⟨_, hide rfl⟩
    have hxv := HVB.out xi h1
    have hof := HOF.out xi
    have hpk2 : plK nm ls xi = (nm, oj + 2, x.length) := by unfold plK; rw [HX.out, HOJ.out]
    rw [hpk2] at hbx2
    rw [HX.out] at hxv
    rw [HOJ.out] at hof
    rw [HX.out, HOJ.out] at HRD
    have HBX := hide hbx2
    have HZV := hide hz
    have hxi : xi ≤ 256 := by omega
    have HWV := hide (HD.out.below hz.bel)
    clear hz hck hsz h2 h3 e2 hbx hbx2 hgx hpk2
    have hPi : ¬ (P : Int) = 0 := by omega
    have hPn : ¬ P = 0 := by omega
    gi_wp2_with fail
    refine wpIn_region_held (S := fun v => Below V.heap.size V v) (WideF.round l) (by kernel_rfl) (by kernel_rfl) (Below.refl V.heap.size V).drew (fun hHeld => ?_)
    refine takeH 0 30 (.int .i64 (xi : Int)) hHeld rfl rfl (by kernel_rfl) (by kernel_rfl) (by kernel_rfl) (fun _ _ _ h => h) (Or.inl ⟨by rfl, fun w _ => by go_simp⟩) ?_
    simp only [Act.put, List.setIfInBounds_toArray, List.set_cons_zero, List.set_cons_succ]
    refine takeH 1 31 (.int .i64 (I : Int)) hHeld rfl rfl (by kernel_rfl) (by kernel_rfl) (by kernel_rfl) (fun _ _ _ h => h) (Or.inl ⟨by rfl, fun w hw => by have hw' : w.cell? ⟨b5, 0, none⟩ = some (.int .i64 (I : Int)) := (fun hw => by rw [((HZV.out.on hw).c5).cell]; rfl) hw; go_simp⟩) ?_
    simp only [Act.put, List.setIfInBounds_toArray, List.set_cons_zero, List.set_cons_succ]
    refine takeH 2 32 (.int .i64 (H : Int)) hHeld rfl rfl (by kernel_rfl) (by kernel_rfl) (by kernel_rfl) (fun _ _ _ h => h) (Or.inl ⟨by rfl, fun w hw => by have hw' : w.cell? ⟨b4, 0, none⟩ = some (.int .i64 (H : Int)) := (fun hw => by rw [((HZV.out.on hw).c4).cell]; rfl) hw; go_simp⟩) ?_
    simp only [Act.put, List.setIfInBounds_toArray, List.set_cons_zero, List.set_cons_succ]
    refine takeH 3 33 (.int .i64 (P : Int)) hHeld rfl rfl (by kernel_rfl) (by kernel_rfl) (by kernel_rfl) (fun _ _ _ h => h) (Or.inl ⟨by rfl, fun w _ => by go_simp; rw [HWQ.out]⟩) ?_
    simp only [Act.put, List.setIfInBounds_toArray, List.set_cons_zero, List.set_cons_succ]
    refine takeH 4 34 (.int .i64 (q : Int)) hHeld rfl rfl (by kernel_rfl) (by kernel_rfl) (by kernel_rfl) (fun _ _ _ h => h) (Or.inl ⟨by rfl, fun w _ => by go_simp; rw [HRE.out]⟩) ?_
    simp only [Act.put, List.setIfInBounds_toArray, List.set_cons_zero, List.set_cons_succ]
    by_cases hjq : xi = q
    · subst hjq
      refine takeH 5 35 (.bool true) hHeld rfl rfl (by kernel_rfl) (by kernel_rfl) (by kernel_rfl) (fun _ _ _ h => h) (Or.inl ⟨by rfl, fun w _ => by go_simp⟩) ?_
      simp only [Act.put, List.setIfInBounds_toArray, List.set_cons_zero, List.set_cons_succ]
      refine wpAnyH_done (by kernel_rfl) ?_ _
      refine Only.normal ?_
      obtain ⟨Vd, hVd⟩ : ∃ v, V.drew = v := ⟨_, rfl⟩
      rw [hVd] at hHeld ⊢
      clear hVd
      have HZd := hide (HZV.out.on hHeld)
      have HOd := hide (keepsO_below hHeld)
      have HDd := hide (HWV.out.below hHeld)
      obtain ⟨p0, p1, p2⟩ := (HBX.out.on hHeld).pl3
      have c3 : Vd.cell? ⟨b3, 0, none⟩ = some (.pointer (some ⟨d, 0, none⟩)) := by rw [HZd.out.c3.cell]; rfl
      clear hHeld
      gi_wp2_with fail
      refine ⟨trivial, (calls_round (WideF.round l) (HRD.out _ HDd.out)).mono ?_⟩
      rintro e V5 ⟨v, rfl, ho5, hb5⟩
      obtain ⟨va, vc, hvs⟩ := ho5.slice
      obtain ⟨xl, hxl⟩ : ∃ xl, x.length = xl := ⟨_, rfl⟩
      rw [hxl] at hvs
      obtain ⟨v', hv'⟩ : ∃ v', v' = Value.slice va xl vc := ⟨_, rfl⟩
      rw [hvs]
      rw [hvs] at ho5
      clear hvs hv' v'
      have HZ5 := hide (HZd.out.on hb5)
      have HO5 := hide (HOd.out.trans (keepsO_below hb5))
      have HV5 : Hid (Own V5 w.heap.size (Value.slice va xl vc) x) := hide (own_down ho5 HZd.out.bel.size)
      have HV6 : Hid (∀ k, (Value.slice va xl vc).ownBlock = some k → Vd.heap.size ≤ k) := hide (fun k hk => World.ownsRow.lt ho5 k hk |>.1)
      have hl5 : b6 < Vd.heap.size ∧ b7 < Vd.heap.size := ⟨HZd.out.c6.lt, HZd.out.c7.lt⟩
      clear hb5 ho5 p0 p1 p2 c3
      have f6 := HZ5.out.c6.free 0
      have d6 : V5.cell? ⟨b6, 0, none⟩ = some (.slice none 0 0) := by rw [HZ5.out.c6.cell]; rfl
      have hbut6 := But.setCell V5 b6 0 (.slice va xl vc)
      have hc7 : Blk (V5.setCell ⟨b6, 0, none⟩ (.slice va xl vc)) b7 36 [.int .i64 0] := HZ5.out.c7.but hbut6 (fun e => HNE.out.1 e.symm)
      have f7 := hc7.free 0
      have d7 : (V5.setCell ⟨b6, 0, none⟩ (.slice va xl vc)).cell? ⟨b7, 0, none⟩ = some (.int .i64 0) := by rw [hc7.cell]; rfl
      have HC7 := hide hc7
      have HBU6 := hide hbut6
      clear hc7 hbut6
      gi_wp2
      have hbut7 := But.setCell (V5.setCell ⟨b6, 0, none⟩ (.slice va xl vc)) b7 0 (.int .i64 0)
      have g6 : Blk (V5.setCell ⟨b6, 0, none⟩ (.slice va xl vc)) b6 31 [.slice va xl vc] := HZ5.out.c6.set 0 _
      refine ⟨((HO5.out.trans (keepsO_but HBU6.out HZ5.out.c6)).trans (keepsO_but hbut7 HC7.out)).from _, rfl, h1, .slice va xl vc, ?_⟩
      refine ⟨g6.but hbut7 HNE.out.1, HC7.out.set 0 _, ?_, (HZ5.out.bel.trans (HBU6.out.below HNE.out.2.1)).trans (hbut7.below HNE.out.2.2)⟩
      rw [HX.out]
      exact (HV5.out.same (fun k hk => HBU6.out.block k (by have := HV6.out k hk; omega))).same (fun k hk => hbut7.block k (by have := HV6.out k hk; omega))
    · have hjqi : ¬ (xi : Int) = (q : Int) := by omega
      refine takeH 5 35 (.bool false) hHeld rfl rfl (by kernel_rfl) (by kernel_rfl) (by kernel_rfl) (fun _ _ _ h => h) (Or.inl ⟨by rfl, fun w _ => by go_simp⟩) ?_
      simp only [Act.put, List.setIfInBounds_toArray, List.set_cons_zero, List.set_cons_succ]
      refine wpAnyH_done (by kernel_rfl) ?_ _
      refine Only.normal ?_
      obtain ⟨Vd, hVd⟩ : ∃ v, V.drew = v := ⟨_, rfl⟩
      rw [hVd] at hHeld ⊢
      clear hVd
      have HZd := hide (HZV.out.on hHeld)
      have HOd := hide (keepsO_below hHeld)
      have HKd : Hid (KB w1.heap.size (FD d D) V Vd) := hide (KB.below hHeld)
      clear hHeld
      gi_wp2
      refine ⟨HOd.out.from _, HKd.out, ?_⟩
      show (pre ++ [(xi, xp)]).length ≤ q ∧ _
      rw [HP1.out]
      exact ⟨by omega, HZd.out⟩
/-- Read, whatever is asked for. -/
theorem readB_any (h i : Int) (ht : PT w) (hwt : wt rs ≤ 1099511000000) :
    Calls Tryz.prog 14 #[.pointer (some ⟨d, 0, none⟩), .int .i64 h, .int .i64 i] w fun r w' => ∃ v, r = .returned (.tuple #[v, .int .i64 (rdEb rs h i)]) ∧ Own w' w.heap.size v (rdBb rs h i) ∧ Below w.heap.size w w' := by
  by_cases he : bnE h i = 0
  · obtain ⟨H, I, rfl, rfl, hh, hI⟩ := nmO'_nats (bnE_zero he)
    exact readB_ok d s rs D w hd H I hh hI ht hwt
  · have e1 : rdEb rs h i = 2 := by unfold rdEb; rw [if_neg he]
    have e2 : rdBb rs h i = [] := by unfold rdBb; rw [e1, if_neg (by decide)]
    have e3 : bnE h i = 2 := by rcases bnE_bin h i with k | k; exact absurd k he; exact k
    rw [e1, e2]
    have HNM : Hid (∀ W : World, PT W → Calls Tryz.prog 32 #[.int .i64 h, .int .i64 i] W fun r w' => r = .returned (.tuple #[.string (bnP h i), .int .i64 2]) ∧ Below W.heap.size W w') := hide (fun W h2 => by
      have := bname_any h i W h2
      rw [e3] at this
      exact this)
    have HMD : Hid (∀ W : World, DkAt W d s rs D → Calls Tryz.prog 31 #[.pointer (some ⟨d, 0, none⟩)] W fun r w' => r = .returned (.bool true) ∧ w' = W) := hide (fun W hW => madeB_any d s rs D W hW)
    generalize bnP h i = nm at *
    have HD := hide hd
    have HT := hide ht
    clear hd ht he e1 e2 e3 hwt
    refine (callsIn_wide (n := 4)).1 ?_
    refine callsIn_of_wp_marks Tryz.func14 rfl trivial ?_ rfl
    refine wpIn_wide.2 ?_
    simp only [Tryz.ntmps14, List.size_toArray, List.length_cons, List.length_nil, Nat.reduceAdd, Nat.reduceSub, Array.replicate_succ, Array.replicate_zero, List.push_toArray, List.append_toArray, List.nil_append, List.cons_append]
    go_wp2_with fail
    obtain ⟨W0, hW0, B3, B4, B5, B6, B7, hbl0⟩ := ZR.new w d h i
    rw [← hW0]
    generalize hb7 : w.heap.size + 1 + 1 + 1 + 1 = b7 at *
    generalize hb6 : w.heap.size + 1 + 1 + 1 = b6 at *
    generalize hb5 : w.heap.size + 1 + 1 = b5 at *
    generalize hb4 : w.heap.size + 1 = b4 at *
    have hne : b6 ≠ b7 ∧ w.heap.size ≤ b6 ∧ w.heap.size ≤ b7 := ⟨by omega, by omega, by omega⟩
    obtain ⟨b3, hb3⟩ : ∃ b3, w.heap.size = b3 := ⟨_, rfl⟩
    rw [hb3]
    rw [hb3] at B3
    have HB3 := hide hb3
    have HNE := hide hne
    have HB6 := hide B6
    have HB7 := hide B7
    have HBL := hide hbl0
    have c3 : W0.cell? ⟨b3, 0, none⟩ = some (.pointer (some ⟨d, 0, none⟩)) := by rw [B3.cell]; rfl
    have c4 : W0.cell? ⟨b4, 0, none⟩ = some (.int .i64 h) := by rw [B4.cell]; rfl
    have c5 : W0.cell? ⟨b5, 0, none⟩ = some (.int .i64 i) := by rw [B5.cell]; rfl
    clear hW0 hb7 hb6 hb5 hb4 hne B3 B4 B5 B6 B7 hbl0 hb3
    go_wp2_with (go_at_call 31; refine (HMD.out _ (HD.out.below HBL.out)).mono ?_; rintro r w' ⟨rfl, hw'⟩; subst w')
    refine (HNM.out _ (HT.out.below HBL.out)).mono ?_
    rintro r w1 ⟨rfl, hb1⟩
    have HC6 := hide (HB6.out.on hb1)
    have HBL1 := hide (on_below HBL.out hb1)
    have f6 := HC6.out.free 0
    have d6 : w1.cell? ⟨b6, 0, none⟩ = some (.slice none 0 0) := by rw [HC6.out.cell]; rfl
    have hbut6 := But.setCell w1 b6 0 (.slice none 0 0)
    have hc7 : Blk (w1.setCell ⟨b6, 0, none⟩ (.slice none 0 0)) b7 36 [.int .i64 0] := (HB7.out.on hb1).but hbut6 (fun e => HNE.out.1 e.symm)
    have f7 := hc7.free 0
    have d7 : (w1.setCell ⟨b6, 0, none⟩ (.slice none 0 0)).cell? ⟨b7, 0, none⟩ = some (.int .i64 0) := by rw [hc7.cell]; rfl
    have HC7 := hide hc7
    have HBU6 := hide hbut6
    clear hc7 hbut6 hb1 c3 c4 c5
    go_wp2
    have hbut7 := But.setCell (w1.setCell ⟨b6, 0, none⟩ (.slice none 0 0)) b7 0 (.int .i64 2)
    have g6 := (HC6.out.set 0 (.slice none 0 0)).but hbut7 HNE.out.1
    have g7 := HC7.out.set 0 (.int .i64 2)
    have hbw := (HBL1.out.trans (HBU6.out.below HNE.out.2.1)).trans (hbut7.below HNE.out.2.2)
    generalize (w1.setCell ⟨b6, 0, none⟩ (.slice none 0 0)).setCell ⟨b7, 0, none⟩ (.int .i64 2) = W2 at *
    have e6 : W2.cell? ⟨b6, 0, none⟩ = some (.slice none 0 0) := by rw [g6.cell]; rfl
    have e7 : W2.cell? ⟨b7, 0, none⟩ = some (.int .i64 2) := by rw [g7.cell]; rfl
    refine ⟨.tuple #[.slice none 0 0, .int .i64 2], by simp [results, Tryz.f14, go_sem, e6, e7], ?_⟩
    exact ⟨_, rfl, Own.nil _ _, hbw⟩
end

end Go.Proofs.YtpocadbhajacaaaGreatDoor

/-
  The document's disk: Create, Remove, Cut, Rename, Read.
-/
namespace Go.Proofs.YtpocadbhajacaaaGreatDoor
open Go.RowKit
set_option linter.unusedVariables false

theorem crE_0 {rs : List Rw} {n : ByteArray} (h : crE rs n = 0) : nmB n = true ∧ play rs n = none := by
  unfold crE at h
  by_cases hn : nmB n = true
  · refine ⟨hn, ?_⟩
    rw [if_pos hn] at h
    cases hp : play rs n with
    | none => rfl
    | some x => simp [hp] at h
  · rw [if_neg hn] at h
    omega
theorem fE_0 {rs : List Rw} {n : ByteArray} (h : fE rs n = 0) : nmB n = true ∧ ∃ xs, play rs n = some xs ∧ fl (play rs) n = xs := by
  unfold fE at h
  by_cases hn : nmB n = true
  · refine ⟨hn, ?_⟩
    rw [if_pos hn] at h
    cases hp : play rs n with
    | none => simp [hp] at h
    | some x => exact ⟨x, rfl, by simp [fl, hp]⟩
  · rw [if_neg hn] at h
    omega
section
variable (r s : Nat) (rs : List Rw) (R : Rm) (w : World) (h : RkAt w r s rs R)
include h
set_option maxRecDepth 100000 in
theorem createR_any (n : ByteArray) (hwt : wt rs + 1 ≤ 1099511000000) : Calls Tryz.prog 26 #[.pointer (some ⟨r, 0, none⟩), .string n] w fun e w' => e = .returned (.int .i64 (crE rs n)) ∧ RoP w w' r s R (crS rs n) := by
  have HW := hide hwt
  have hwr := wrong_f r s rs R w h n (by omega)
  have HWR := hide hwr
  have HH := hide h
  clear h hwr hwt
  by_cases h0 : crE rs n = 0
  · obtain ⟨hn, hf⟩ := crE_0 h0
    have HLR : Hid (Lraw s (play rs) (rCr n)) := hide ⟨.inl ⟨n, rfl, hn, hf⟩, fun h2 => by cases h2⟩
    have e1 : crS rs n = rs ++ [rCr n] := by simp [crS, h0]
    rw [e1, h0]
    rw [h0] at HWR
    clear e1 h0 hn hf
    go_enter Tryz.func26, Tryz.ntmps26
    go_wp2_with (first | (go_at_call 61; refine HWR.out.mono ?_; rintro e w2 ⟨rfl, hb2⟩) | (refine step_bR1 rfl rfl ?_))
    refine (doR_any r s rs R (rCr n) (.slice none 0 0) _ (HH.out.below hb2) HLR.out (nobv _) (by have := HW.out; show wt rs + 0 + 1 ≤ _; omega)).mono ?_
    rintro e w3 ⟨rfl, hR⟩
    go_wp2
    go_ret
    exact ⟨rfl, hR.op hb2 (fun k hk => novb k _ hk)⟩
  · have e1 : crS rs n = rs := by simp [crS, h0]
    rw [e1]
    generalize crE rs n = E at HWR h0
    clear e1
    go_enter Tryz.func26, Tryz.ntmps26
    go_wp2_with (first | (go_at_call 61; refine HWR.out.mono ?_; rintro e w2 ⟨rfl, hb2⟩))
    go_ret
    exact ⟨rfl, RoP.below HH.out hb2⟩
set_option maxRecDepth 100000 in
theorem removeR_any (n : ByteArray) (hwt : wt rs + 1 ≤ 1099511000000) : Calls Tryz.prog 46 #[.pointer (some ⟨r, 0, none⟩), .string n] w fun e w' => e = .returned (.int .i64 (fE rs n)) ∧ RoP w w' r s R (rmS rs n) := by
  have HW := hide hwt
  have hwr := wrong_t r s rs R w h n (by omega)
  have HWR := hide hwr
  have HH := hide h
  clear h hwr hwt
  by_cases h0 : fE rs n = 0
  · obtain ⟨hn, xs, hf, _⟩ := fE_0 h0
    have HLR : Hid (Lraw s (play rs) (rRm n)) := hide ⟨.inr (.inr (.inr (.inl ⟨n, xs, rfl, hn, hf⟩))), fun h2 => by cases h2⟩
    have e1 : rmS rs n = rs ++ [rRm n] := by simp [rmS, h0]
    rw [e1, h0]
    rw [h0] at HWR
    clear e1 h0 hn hf
    go_enter Tryz.func46, Tryz.ntmps46
    go_wp2_with (first | (go_at_call 61; refine HWR.out.mono ?_; rintro e w2 ⟨rfl, hb2⟩) | (refine step_bR1 rfl rfl ?_))
    refine (doR_any r s rs R (rRm n) (.slice none 0 0) _ (HH.out.below hb2) HLR.out (nobv _) (by have := HW.out; show wt rs + 0 + 1 ≤ _; omega)).mono ?_
    rintro e w3 ⟨rfl, hR⟩
    go_wp2
    go_ret
    exact ⟨rfl, hR.op hb2 (fun k hk => novb k _ hk)⟩
  · have e1 : rmS rs n = rs := by simp [rmS, h0]
    rw [e1]
    generalize fE rs n = E at HWR h0
    clear e1
    go_enter Tryz.func46, Tryz.ntmps46
    go_wp2_with (first | (go_at_call 61; refine HWR.out.mono ?_; rintro e w2 ⟨rfl, hb2⟩))
    go_ret
    exact ⟨rfl, RoP.below HH.out hb2⟩
set_option maxRecDepth 100000 in
theorem cutR_any (n : ByteArray) (k : Int) (hwt : wt rs + 1 ≤ 1099511000000) : Calls Tryz.prog 48 #[.pointer (some ⟨r, 0, none⟩), .string n, .int .i64 k] w fun e w' => e = .returned (.int .i64 (cuE rs n k)) ∧ RoP w w' r s R (cuS rs n k) := by
  have HW := hide hwt
  have hwr := wrong_t r s rs R w h n (by omega)
  have HWR := hide hwr
  have HH := hide h
  clear h hwr hwt
  by_cases h0 : fE rs n = 0
  · obtain ⟨hn, xs, hf, hfl⟩ := fE_0 h0
    rw [h0] at HWR
    have HALL : Hid (∀ W : World, RkAt W r s rs R → Calls Tryz.prog 36 #[.pointer (some ⟨r, 0, none⟩), .string n] W fun e w' => e = .returned (.tuple #[.string (str xs), .bool true]) ∧ Below W.heap.size W w') := hide (fun W hW => by
      have := all_any r s rs R W hW n (by have := HW.out; omega)
      rw [hfl, hf] at this
      exact this)
    have hsz := str_size xs
    by_cases h1 : k < 0
    · have e1 : cuE rs n k = 2 := by simp [cuE, h0, h1]
      have e2 : cuS rs n k = rs := by simp [cuS, e1]
      rw [e1, e2]
      clear e1 e2 h0 hn hf hfl
      go_enter Tryz.func48, Tryz.ntmps48
      go_wp2_with (first | (go_at_call 61; refine HWR.out.mono ?_; rintro e w2 ⟨rfl, hb2⟩) | (go_at_call 36; refine (HALL.out _ (HH.out.below hb2)).mono ?_; rintro e w3 ⟨rfl, hb3⟩))
      go_ret
      exact ⟨rfl, RoP.below HH.out (hb2.trans (hb3.mono hb2.size))⟩
    · by_cases h2 : (xs.length : Int) < k
      · have e1 : cuE rs n k = 2 := by simp [cuE, h0, hfl, h2]
        have e2 : cuS rs n k = rs := by simp [cuS, e1]
        rw [e1, e2]
        have h2' : ((str xs).size : Int) < k := by rw [hsz]; exact h2
        clear e1 e2 h0 hn hf hfl h2 hsz
        go_enter Tryz.func48, Tryz.ntmps48
        go_wp2_with (first | (go_at_call 61; refine HWR.out.mono ?_; rintro e w2 ⟨rfl, hb2⟩) | (go_at_call 36; refine (HALL.out _ (HH.out.below hb2)).mono ?_; rintro e w3 ⟨rfl, hb3⟩))
        go_ret
        exact ⟨rfl, RoP.below HH.out (hb2.trans (hb3.mono hb2.size))⟩
      · have e1 : cuE rs n k = 0 := by simp only [cuE, h0, hfl, if_true]; rw [if_neg (by omega)]
        have h2' : ¬ ((str xs).size : Int) < k := by rw [hsz]; exact h2
        by_cases h3 : k < (xs.length : Int)
        · have e2 : cuS rs n k = rs ++ [rCu n k] := by
            simp only [cuS, e1, hfl]
            rw [if_pos ⟨trivial, h3⟩]
          rw [e1, e2]
          have HLR : Hid (Lraw s (play rs) (rCu n k)) := hide ⟨.inr (.inr (.inl ⟨n, k, xs, rfl, hn, hf, by omega, h3⟩)), fun h2 => by cases h2⟩
          have h3' : k < ((str xs).size : Int) := by rw [hsz]; exact h3
          clear e1 e2 h0 hn hf hfl h2 h3 hsz
          go_enter Tryz.func48, Tryz.ntmps48
          go_wp2_with (first | (go_at_call 61; refine HWR.out.mono ?_; rintro e w2 ⟨rfl, hb2⟩) | (go_at_call 36; refine (HALL.out _ (HH.out.below hb2)).mono ?_; rintro e w3 ⟨rfl, hb3⟩) | (refine step_bR3 rfl rfl rfl ?_))
          have hb2 := hb2.trans (hb3.mono hb2.size)
          clear hb3
          refine (doR_any r s rs R (rCu n k) (.slice none 0 0) _ (HH.out.below hb2) HLR.out (nobv _) (by have := HW.out; show wt rs + 0 + 1 ≤ _; omega)).mono ?_
          rintro e w3 ⟨rfl, hR⟩
          go_wp2
          go_ret
          exact ⟨rfl, hR.op hb2 (fun k hk => novb k _ hk)⟩
        · have e2 : cuS rs n k = rs := by
            simp only [cuS, hfl]
            rw [if_neg (fun hh => h3 hh.2)]
          rw [e1, e2]
          have h3' : ¬ k < ((str xs).size : Int) := by rw [hsz]; exact h3
          clear e1 e2 h0 hn hf hfl h2 h3 hsz
          go_enter Tryz.func48, Tryz.ntmps48
          go_wp2_with (first | (go_at_call 61; refine HWR.out.mono ?_; rintro e w2 ⟨rfl, hb2⟩) | (go_at_call 36; refine (HALL.out _ (HH.out.below hb2)).mono ?_; rintro e w3 ⟨rfl, hb3⟩))
          go_ret
          exact ⟨rfl, RoP.below HH.out (hb2.trans (hb3.mono hb2.size))⟩
  · have e1 : cuE rs n k = fE rs n := by simp [cuE, h0]
    have e2 : cuS rs n k = rs := by simp [cuS, e1, h0]
    rw [e1, e2]
    generalize fE rs n = E at HWR h0
    clear e1 e2
    go_enter Tryz.func48, Tryz.ntmps48
    go_wp2_with (first | (go_at_call 61; refine HWR.out.mono ?_; rintro e w2 ⟨rfl, hb2⟩))
    go_ret
    exact ⟨rfl, RoP.below HH.out hb2⟩
end

end Go.Proofs.YtpocadbhajacaaaGreatDoor

/-
  The document's Read.
-/
namespace Go.Proofs.YtpocadbhajacaaaGreatDoor
open Go.RowKit
set_option linter.unusedVariables false

section
variable (r s : Nat) (rs : List Rw) (R : Rm) (w : World) (h : RkAt w r s rs R)
include h
end

end Go.Proofs.YtpocadbhajacaaaGreatDoor

/-
  The document's List.
-/
namespace Go.Proofs.YtpocadbhajacaaaGreatDoor
open Go.RowKit
set_option linter.unusedVariables false

set_option maxRecDepth 100000 in
set_option maxHeartbeats 1000000 in
theorem listR_any (r s : Nat) (rs : List Rw) (R : Rm) (w : World) (h : RkAt w r s rs R) (hwt : wt rs ≤ 1099511000000) :
    Calls Tryz.prog 44 #[.pointer (some ⟨r, 0, none⟩)] w fun e w' => ∃ v, e = .returned v ∧ w'.ownsRow w.heap.size 9 1 v R.l.length (nmsC R.l) ∧ Below w.heap.size w w' := by
  have hfew := h.few2 r s rs R w hwt
  obtain ⟨fa, fc, hfv⟩ := row_slice h.fk.row
  have HFV := hide hfv
  have HH := hide h
  clear h hwt hfv
  generalize hL : R.l.length = L at *
  have HL := hide hL
  clear hL
  go_enter Tryz.func44, Tryz.ntmps44
  go_wp2
  go_loopw [3, 4] (fun o i wr => ∃ k : Nat, i = .int .i64 (k : Int) ∧ k ≤ L ∧ Hid (wr.ownsRow w.heap.size 9 1 o k (nmsC (R.l.take k))) ∧ Hid (Below w.heap.size w wr)) (fun _ i _ => L - (intOf i).toNat)
  case atStart => exact ⟨0, rfl, Nat.zero_le _, hide (World.ownsRow_nil _ _ _ _), hide (Below.refl _ _)⟩
  case round =>
    obtain ⟨k, rfl, hk, HO, HB⟩ := hrel
    have hc1 : wr.cell? ⟨r, 1, none⟩ = some (.slice fa L fc) := by rw [(HH.out.fk.below HB.out).blk.cell, ← HFV.out]; rfl
    by_cases hlt : k < L
    · obtain ⟨x, hx⟩ : ∃ x, R.l[k]? = some x := ⟨_, List.getElem?_eq_getElem (by rw [HL.out]; exact hlt)⟩
      obtain ⟨g, cap, cs, e1, hg, _, _, _, hc0, _⟩ := HH.out.fk.file hx
      rw [HFV.out] at e1
      injection e1 with e1 e2 e3
      clear e2
      subst e1 e3
      have hix := vw_at rFi g L fc k hlt
      have hcell : wr.cell? ⟨g, k * 2, none⟩ = some (.string x.1) := by rw [(hg.on HB.out).cell]; exact hc0
      have hlti : (k : Int) < (L : Int) := by omega
      have HX := hide hx
      clear hg hc0 hx
      go_wp2_with (refine step_oneS rfl rfl ?_)
      intro w1 v1 hv1 hb1
      have B1 := hide (HB.out.trans (hb1.mono HB.out.size))
      have O1 := hide (row_on HO.out hb1)
      have V1 := hide hv1
      clear hb1 hv1 hc1 hcell
      go_wp2_with (refine step_appV rSt rfl rfl rfl O1.out V1.out (fun x hx => by simp at hx; subst hx; rfl) (by omega) B1.out.size ?_)
      intro v2 w2 hv2 hgr2 hat2
      have B2 := hide (B1.out.trans (grown_below hgr2 (fun k hk => row_ge O1.out hk) B1.out.size))
      have O2 : Hid (w2.ownsRow w.heap.size 9 1 v2 (k + 1) (nmsC (R.l.take (k + 1)))) := hide (by rw [nmsC_succ R.l HX.out]; exact hv2)
      clear hv2 hgr2 hat2 B1 O1 V1 HO HB
      go_wp2
      go_roundw
      case rel => exact ⟨k + 1, by go_num, by omega, O2, B2⟩
      case measure => simp [intOf]; omega
    · have hlti : ¬ (k : Int) < (L : Int) := by omega
      have e1 : k = L := by omega
      go_wp2
      go_ret
      refine ⟨_, rfl, ?_, HB.out⟩
      have := HO.out
      rw [e1, List.take_of_length_le (by rw [HL.out]; omega)] at this
      exact this

end Go.Proofs.YtpocadbhajacaaaGreatDoor

/-
  The document's After.
-/
namespace Go.Proofs.YtpocadbhajacaaaGreatDoor
open Go.RowKit
set_option linter.unusedVariables false

section
variable {w : World} {r s : Nat} {rs : List Rw} {R : Rm}
theorem RkAt.qlen (h : RkAt w r s rs R) : R.qs.length = rs.length := by rw [← h.raw]; simp
end
section
variable (r s : Nat) (rs : List Rw) (R : Rm) (w : World) (h : RkAt w r s rs R)
include h
end

end Go.Proofs.YtpocadbhajacaaaGreatDoor

/-
  The document's Same.
-/
namespace Go.Proofs.YtpocadbhajacaaaGreatDoor
open Go.RowKit
set_option linter.unusedVariables false

end Go.Proofs.YtpocadbhajacaaaGreatDoor

/-
  The document's Append: piece by piece.
-/
namespace Go.Proofs.YtpocadbhajacaaaGreatDoor
open Go.RowKit
set_option linter.unusedVariables false

/-- The next piece is what the document takes. -/
theorem edge_next {s had len k : Nat} (hs : 1 ≤ s) (hl : 0 < len) (hk : k < cntN s had len) : edgeN s had len (k + 1) - edgeN s had len k = min (s - (had + edgeN s had len k) % s) (len - edgeN s had len k) := by
  have h4 : (k + 1) * s = k * s + s := by rw [Nat.add_mul, Nat.one_mul]
  have h3 : had % s < s := Nat.mod_lt _ hs
  by_cases h0 : k = 0
  · subst h0
    rw [edge_zero]
    unfold edgeN
    simp only [Nat.add_zero, Nat.zero_add, Nat.one_mul, Nat.sub_zero]
  · obtain ⟨e1, e2, e3⟩ := edge_mid hs (by omega : 1 ≤ k) hk
    have e5 : had + (k * s - had % s) = (had / s + k) * s := by
      have := Nat.div_add_mod had s
      rw [Nat.add_mul, Nat.mul_comm (had / s) s]
      omega
    rw [e1] at e2 ⊢
    rw [e5, Nat.mul_mod_left]
    unfold edgeN
    omega
theorem edge_lt {s had len k : Nat} (hs : 1 ≤ s) (hl : 0 < len) (hk : k < cntN s had len) : edgeN s had len k < len := by
  have h1 := edge_step hs hl hk
  have h2 : edgeN s had len (k + 1) ≤ len := Nat.min_le_right _ _
  omega
def slen : Value → Nat
  | .slice _ l _ => l
  | _ => 0
/-- What stands at the head of the loop: k pieces are written. -/
structure ApI (w wr : World) (r s : Nat) (rs : List Rw) (R : Rm) (n : ByteArray) (b xs : List Int) (a0 : Option Addr) (k : Nat) (v : Value) : Prop where
  le : k ≤ cntN s xs.length b.length
  sl : ∃ a c, v = .slice a (b.length - edgeN s xs.length b.length k) c ∧ Sl wr a (b.length - edgeN s xs.length b.length k) c (b.drop (edgeN s xs.length b.length k)) ∧ ∀ x, a = some x → ∃ y, a0 = some y ∧ y.block = x.block
  rk : RoP w wr r s R (rs ++ expK s ⟨rAp n b, rs.length, xs.length⟩ k)
theorem RoP.step {w w1 w2 : World} {r s : Nat} {R R1 : Rm} {rs2 : List Rw} {v : Value} (h2 : Chs (R.own r) w w1) (h3 : ∀ k, R1.own r k → R.own r k ∨ w.heap.size ≤ k) (h4 : ∀ k, R1.ro k → R.ro k ∨ w.heap.size ≤ k) (hv : ∀ k, v.ownBlock = some k → w.heap.size ≤ k) (h : RoR w1 w2 r s R1 rs2 v) : RoP w w2 r s R rs2 := by
  obtain ⟨R2, a1, a2, a3, a4⟩ := h
  have hsz := h2.size
  refine ⟨R2, a1, h2.after a2 h3, fun k hk => ?_, fun k hk => ?_⟩
  · rcases a3 k hk with h | h
    · exact h3 k h
    · right; omega
  · rcases a4 k hk with h | h
    · exact h4 k h
    · exact .inr (hv k h)

end Go.Proofs.YtpocadbhajacaaaGreatDoor

/-
  The document's Append: the walk.
-/
namespace Go.Proofs.YtpocadbhajacaaaGreatDoor
open Go.RowKit
set_option linter.unusedVariables false

set_option maxRecDepth 100000 in
set_option maxHeartbeats 2000000 in
theorem appendR_any (r s : Nat) (rs : List Rw) (R : Rm) (w : World) (h : RkAt w r s rs R) (n : ByteArray) (a : Option Addr) (l c : Nat) (b : List Int) (hb : Sl w a l c b) (hoff : b ≠ [] → ∀ x, a = some x → ¬ R.own r x.block ∧ x.block < w.heap.size) (hwt : wt rs + 2 * b.length + 2 ≤ 1099511000000) :
    Calls Tryz.prog 28 #[.pointer (some ⟨r, 0, none⟩), .string n, .slice a l c] w fun e w' => e = .returned (.int .i64 (fE rs n)) ∧ RoP w w' r s R (apS s rs n b) := by
  have hl := hb.hlen
  subst hl
  have HW := hide hwt
  have hwr := wrong_t r s rs R w h n (by omega)
  have HWR := hide hwr
  have HH := hide h
  have HB := hide hb
  have HOFF := hide hoff
  clear h hwr hwt hb hoff
  by_cases h0 : fE rs n = 0
  · obtain ⟨hn, xs, hf, hfl⟩ := fE_0 h0
    rw [h0]
    rw [h0] at HWR
    by_cases hb0 : b = []
    · subst hb0
      have e2 : apS s rs n [] = rs := by simp [apS]
      rw [e2]
      clear e2 h0 hn hf hfl
      go_enter Tryz.func28, Tryz.ntmps28
      go_wp2_with (go_at_call 61; refine HWR.out.mono ?_; rintro e w2 ⟨rfl, hb2⟩)
      go_loopw [2] (fun v wr => v = .slice a 0 c ∧ w2 = wr) (fun _ _ => 0)
      case atStart => exact ⟨rfl, rfl⟩
      case round =>
        obtain ⟨rfl, rfl⟩ := hrel
        go_wp2
        go_ret
        exact ⟨rfl, RoP.below HH.out hb2⟩
    · have e2 : apS s rs n b = rs ++ expd s ⟨rAp n b, rs.length, xs.length⟩ := by
        simp only [apS, h0, hfl]
        rw [if_pos ⟨trivial, hb0⟩]
      rw [e2]
      have hs1 := HH.out.s1
      have hs2 := HH.out.s2
      have hbl : 0 < b.length := List.length_pos_iff.2 hb0
      have HAP : Hid (∀ k, k ≤ cntN s xs.length b.length → (expK s ⟨rAp n b, rs.length, xs.length⟩ k).foldl doR (play rs) = upd (play rs) n (some (xs ++ b.take (edgeN s xs.length b.length k))) ∧ Val s (play rs) (expK s ⟨rAp n b, rs.length, xs.length⟩ k)) := hide (fun k hk => expd_ap hs1 hn hf hb0 HB.out.hbyte k hk)
      have hxw := play_wt rs n
      rw [hfl] at hxw
      have HXW : Hid (xs.length ≤ 1099511000000) := hide (by have := HW.out; omega)
      have HCNT : Hid (cntN s xs.length b.length ≤ b.length + 1) := hide (cnt_bd hs1)
      have HBL := hide hbl
      replace HOFF := hide (HOFF.out hb0)
      clear e2 h0 hf hfl hb0 hxw hbl
      go_enter Tryz.func28, Tryz.ntmps28
      go_wp2_with (go_at_call 61; refine HWR.out.mono ?_; rintro e w2 ⟨rfl, hb2⟩)
      have I0 : Hid (ApI w w2 r s rs R n b xs a 0 (.slice a b.length c)) := hide ⟨Nat.zero_le _, ⟨a, c, by rw [edge_zero]; rfl, by rw [edge_zero]; exact HB.out.below hb2, fun x hx => ⟨x, hx, rfl⟩⟩, by simp only [expK, List.range_zero, List.map_nil, List.append_nil]; exact RoP.below HH.out hb2⟩
      clear hb2 HWR
      go_loopw [2] (fun v wr => ∃ k : Nat, Hid (ApI w wr r s rs R n b xs a k v)) (fun v _ => slen v)
      case atStart => exact ⟨0, I0⟩
      case round =>
        obtain ⟨k, HI⟩ := hrel
        obtain ⟨ak, ck, hve, hsk, hak⟩ := HI.out.sl
        obtain ⟨R1, g1, g2, g3, g4⟩ := HI.out.rk
        subst hve
        by_cases hlt : k < cntN s xs.length b.length
        · have hed := edge_lt hs1 HBL.out hlt
          have hnx := edge_next hs1 HBL.out hlt
          have hst := edge_step hs1 HBL.out hlt
          have hle1 : edgeN s xs.length b.length (k + 1) ≤ b.length := Nat.min_le_right _ _
          obtain ⟨hfd, _⟩ := HAP.out k (by omega)
          obtain ⟨_, hval⟩ := HAP.out (k + 1) (by omega)
          rw [expK_succ, Val_app, hfd] at hval
          have hpl : play (rs ++ expK s ⟨rAp n b, rs.length, xs.length⟩ k) = upd (play rs) n (some (xs ++ b.take (edgeN s xs.length b.length k))) := by rw [play_app, hfd]
          have HRK := hide g1
          have G2 := hide g2
          have G3 := hide g3
          have G4 := hide g4
          have HLR : Hid (Lraw s (play (rs ++ expK s ⟨rAp n b, rs.length, xs.length⟩ k)) (pieces s ⟨rAp n b, rs.length, xs.length⟩ k (k + 1))) := hide (by rw [hpl]; exact hval.2.1)
          have HSK := hide hsk
          have HAK := hide hak
          have hw9 : wt (rs ++ expK s ⟨rAp n b, rs.length, xs.length⟩ k) + (edgeN s xs.length b.length (k + 1) - edgeN s xs.length b.length k) + 1 ≤ 1099511000000 := by
            have h1 := expK_wt s ⟨rAp n b, rs.length, xs.length⟩ k
            have h2 : (b.take (edgeN s xs.length b.length k)).length ≤ edgeN s xs.length b.length k := by rw [List.length_take]; omega
            have h3 : wt (expK s ⟨rAp n b, rs.length, xs.length⟩ k) ≤ edgeN s xs.length b.length k + k := Nat.le_trans h1 (by show (b.take (edgeN s xs.length b.length k)).length + k ≤ _; omega)
            rw [wt_app]
            have h4 := HW.out
            have h5 := HCNT.out
            omega
          have HW9 := hide hw9
          have HALL : Hid (∀ W : World, RkAt W r s (rs ++ expK s ⟨rAp n b, rs.length, xs.length⟩ k) R1 → Calls Tryz.prog 36 #[.pointer (some ⟨r, 0, none⟩), .string n] W fun e w' => e = .returned (.tuple #[.string (str (xs ++ b.take (edgeN s xs.length b.length k))), .bool true]) ∧ Below W.heap.size W w') := hide (fun W hW => by
            have := all_any r s _ R1 W hW n (by have := HW9.out; omega)
            rw [hpl] at this
            have e1 : fl (upd (play rs) n (some (xs ++ b.take (edgeN s xs.length b.length k)))) n = xs ++ b.take (edgeN s xs.length b.length k) := by simp [fl, upd_same]
            rw [e1, upd_same] at this
            exact this)
          have hsz : (str (xs ++ b.take (edgeN s xs.length b.length k))).size = xs.length + edgeN s xs.length b.length k := by
            rw [str_size, List.length_append, List.length_take, Nat.min_eq_left (by omega)]
          have hpc : (pieces s ⟨rAp n b, rs.length, xs.length⟩ k (k + 1)) = rAp n ((b.drop (edgeN s xs.length b.length k)).take (edgeN s xs.length b.length (k + 1) - edgeN s xs.length b.length k)) := rfl
          rw [hpc] at HLR
          have HET : Hid (rs ++ expK s ⟨rAp n b, rs.length, xs.length⟩ (k + 1) = (rs ++ expK s ⟨rAp n b, rs.length, xs.length⟩ k) ++ [rAp n ((b.drop (edgeN s xs.length b.length k)).take (edgeN s xs.length b.length (k + 1) - edgeN s xs.length b.length k))]) := hide (by rw [expK_succ, hpc, List.append_assoc])
          have hMb : xs.length + edgeN s xs.length b.length k ≤ 2199022000000 := by have h1 := HXW.out; have h2 := HW.out; omega
          have hPl : ((b.drop (edgeN s xs.length b.length k)).take (edgeN s xs.length b.length (k + 1) - edgeN s xs.length b.length k)).length = edgeN s xs.length b.length (k + 1) - edgeN s xs.length b.length k := by rw [List.length_take, List.length_drop]; omega
          have hdd : (b.drop (edgeN s xs.length b.length k)).drop (edgeN s xs.length b.length (k + 1) - edgeN s xs.length b.length k) = b.drop (edgeN s xs.length b.length (k + 1)) := by rw [List.drop_drop]; congr 1; omega
          have hbl2 : b.length ≤ 1099511000000 := by have h2 := HW.out; omega
          have hisB := HB.out.hbyte
          clear hpl hval hfd hw9 hpc g1 g2 g3 g4 hak HI
          generalize edgeN s xs.length b.length k = EK at *
          generalize hEK1 : edgeN s xs.length b.length (k + 1) = EK1 at *
          generalize rs ++ expK s ⟨rAp n b, rs.length, xs.length⟩ k = rsK at *
          generalize str (xs ++ b.take EK) = X at HALL hsz
          obtain ⟨M, hM⟩ : ∃ M, M = xs.length + EK := ⟨_, rfl⟩
          rw [← hM] at hnx hsz hMb
          obtain ⟨N, hN⟩ : ∃ N, N = EK1 - EK := ⟨_, rfl⟩
          rw [← hN] at hnx HW9 HLR HET hPl hdd
          have hLRb : b.length - EK ≤ 1099511000000 := by omega
          have hLR1 : b.length - EK1 = (b.length - EK) - N := by omega
          have hN0 : 0 < N := by omega
          have hNL : N ≤ b.length - EK := by omega
          obtain ⟨LR, hLR⟩ : ∃ LR, LR = b.length - EK := ⟨_, rfl⟩
          rw [← hLR] at hsk HSK hLRb hLR1 hNL hnx ⊢
          obtain ⟨hto, hts⟩ := hsk.to' hNL
          obtain ⟨a2, hfr, hab, hfs⟩ := hsk.from' hNL
          have hcm : M % s < s := Nat.mod_lt _ hs1
          obtain ⟨H, hH⟩ : ∃ H, H = M % s := ⟨_, rfl⟩
          rw [← hH] at hnx hcm
          obtain ⟨T, hT⟩ : ∃ T, T = s - H := ⟨_, rfl⟩
          rw [← hT] at hnx
          have hcase : ((LR : Int) < (T : Int) ∧ N = LR) ∨ (¬ (LR : Int) < (T : Int) ∧ N = T) := by omega
          have f1 : (M : Int).tmod (s : Int) = (H : Int) := by rw [hH, Int.tmod_eq_emod_of_nonneg (by omega)]; rfl
          have hf2 := wrap_sub (Nat.le_of_lt hcm) (by omega)
          rw [← hT] at hf2
          have HF2 := hide hf2
          clear hf2 hT
          have hs0 : ¬ ((s : Int) = 0) := by omega
          have hl0 : (0 : Int) < (LR : Int) := by omega
          have HHS := hide (And.intro hs1 hs2)
          have HDD := hide hdd
          have HPL := hide hPl
          have HLR1 := hide hLR1
          have HAB := hide hab
          have HTS := hide hts
          have HFS := hide hfs
          have HE1 := hide hEK1
          have HP0 : Hid ((b.drop EK).take N ≠ []) := hide (fun e => by rw [e] at hPl; simp at hPl; omega)
          have HPB : Hid (isB ((b.drop EK).take N)) := hide ((hisB.drop _).take _)
          have HNL : Hid (N ≤ 1099511000000 ∧ N ≤ LR ∧ 0 < N) := hide ⟨by omega, hNL, hN0⟩
          have HPS : Hid (((b.drop EK).take N).length ≤ 140737488355328) := hide (by rw [hPl]; omega)
          have HWX : Hid (wt rsK + (rAp n ((b.drop EK).take N)).b.length + 1 ≤ 1099511000000) := hide (by show wt rsK + ((b.drop EK).take N).length + 1 ≤ _; rw [hPl]; exact HW9.out)
          have HLT : Hid (k + 1 ≤ cntN s xs.length b.length) := hide hlt
          have HSM : Hid (([] : List Int).length + N ≤ 140737488355328) := hide (by show 0 + N ≤ _; omega)
          clear hed hnx hst hle1 hsk hPl hdd hbl2 hisB hM hMb hLR hN hLRb hLR1 hN0 hNL hab hts hfs hcm hH hs1 hs2 hEK1 hlt
          generalize hPP : (b.drop EK).take N = P at *
          clear hPP
          go_wp2_with (go_at_call 36; refine (HALL.out _ HRK.out).mono ?_; rintro e w3 ⟨rfl, hb3⟩; have c0 : w3.cell? ⟨r, 0, none⟩ = some (.int .i64 (s : Int)) := (by rw [(HRK.out.fk.below hb3).blk.cell]; rfl))
          obtain ⟨f2, f3⟩ := HF2.out
          go_quiet (fail)
          have Z3 := hide (hb3.trans ((below_drewN (Below.refl w3.heap.size w3) nq).mono hb3.size))
          revert Z3
          generalize w3.drewN nq = w4
          intro Z3
          clear hb3 c0 f1 f2 f3 hs0
          have hcut : ∀ (v : Value) (W : World), v = .slice ak LR ck → True := fun _ _ _ => trivial
          have ho0 : Own (w4.alloc (.cells #[] 5)) w4.heap.size (.slice (some ⟨w4.heap.size, 0, none⟩) 0 0) [] := Own.of_blk (xs := []) (Blk.made w4 5 []) (Nat.le_refl _) (by simp)
          have hb0 : Below w4.heap.size w4 (w4.alloc (.cells #[] 5)) := (Below.refl _ _).alloc (Nat.le_refl _) _
          have HO0 := hide ho0
          have HB0 := hide hb0
          have Y4 : Hid (Sl (w4.alloc (.cells #[] 5)) ak N ck P) := hide (HTS.out _ ((HSK.out.below Z3.out).below HB0.out))
          clear ho0 hb0 hcut
          rcases hcase with ⟨hc, hNe⟩ | ⟨hc, hNe⟩
          · have hNi : (N : Int) = (LR : Int) := by rw [hNe]
            subst hNe
            clear hNi
            go_wp2_with (first | (refine step_append rfl rfl rfl HO0.out Y4.out HSM.out (by simp) ?_; intro v1 w5 ho1 hg1 hn1; have hb1 : Hid (Below w4.heap.size w4 w5) := hide (HB0.out.trans (Below.of_grown hg1 HB0.out.size HO0.out.lt)); rw [List.nil_append] at ho1; have HO1 := hide ho1; clear ho1 hg1 hn1; obtain ⟨a1, c1, hve1⟩ := HO1.out.slice; subst hve1) | (refine step_bR2 rfl rfl rfl ?_))
            have Z5 := hide (Z3.out.trans (hb1.out.mono Z3.out.size))
            have BV1 := HO1.out.bv HPB.out HPS.out HP0.out
            refine (doR_any r s rsK R1 (rAp n P) _ _ (HRK.out.below Z5.out) HLR.out BV1 HWX.out).mono ?_
            rintro e w6 ⟨rfl, hR⟩
            have HSK6 : Sl w6 ak N ck (b.drop EK) := HSK.out.same (fun x hx => by
              obtain ⟨y, hy, hyb⟩ := HAK.out x hx
              obtain ⟨o1, o2⟩ := HOFF.out y hy
              rw [hyb] at o1 o2
              have hsz := G2.out.size
              obtain ⟨R6, q1, q2, q3, q4⟩ := hR
              have hsz5 := Z5.out.size
              rw [q2.block x.block (by omega) (fun e => by
                rcases G3.out x.block e with e | e
                · exact o1 e
                · omega)]
              exact Z5.out.block x.block (by omega))
            have I6 : Hid (ApI w w6 r s rs R n b xs a (k + 1) (.slice a2 (N - N) (ck - N))) := hide ⟨HLT.out, ⟨a2, ck - N, by rw [HE1.out, HLR1.out], by
                rw [HE1.out, HLR1.out, ← HDD.out]
                exact HFS.out _ HSK6, fun x hx => by
                obtain ⟨y, hy, hyb⟩ := HAB.out x hx
                obtain ⟨y', hy', hyb'⟩ := HAK.out y hy
                exact ⟨y', hy', by rw [hyb', hyb]⟩⟩, by
                rw [HET.out]
                refine RoP.step (G2.out.thenBelow Z5.out) G3.out G4.out (fun q hq => ?_) hR
                have h1 := HO1.out.lt q hq
                have h2 := G2.out.size
                have h3 := Z3.out.size
                omega⟩
            clear HSK6 hR BV1
            go_wp2
            go_roundw
            case rel => first | exact ⟨k + 1, I6⟩ | exact ⟨k + 1, by have h9 := I6; rw [Nat.sub_self] at h9; exact h9⟩
            case measure =>
              have := HNL.out
              first | (show N - N < N; omega) | (show 0 < N; omega)
          · have hNi : (N : Int) = (T : Int) := by rw [hNe]
            subst hNe
            clear hNi
            go_wp2_with (first | (refine step_append rfl rfl rfl HO0.out Y4.out HSM.out (by simp) ?_; intro v1 w5 ho1 hg1 hn1; have hb1 : Hid (Below w4.heap.size w4 w5) := hide (HB0.out.trans (Below.of_grown hg1 HB0.out.size HO0.out.lt)); rw [List.nil_append] at ho1; have HO1 := hide ho1; clear ho1 hg1 hn1; obtain ⟨a1, c1, hve1⟩ := HO1.out.slice; subst hve1) | (refine step_bR2 rfl rfl rfl ?_))
            have Z5 := hide (Z3.out.trans (hb1.out.mono Z3.out.size))
            have BV1 := HO1.out.bv HPB.out HPS.out HP0.out
            refine (doR_any r s rsK R1 (rAp n P) _ _ (HRK.out.below Z5.out) HLR.out BV1 HWX.out).mono ?_
            rintro e w6 ⟨rfl, hR⟩
            have HSK6 : Sl w6 ak LR ck (b.drop EK) := HSK.out.same (fun x hx => by
              obtain ⟨y, hy, hyb⟩ := HAK.out x hx
              obtain ⟨o1, o2⟩ := HOFF.out y hy
              rw [hyb] at o1 o2
              have hsz := G2.out.size
              obtain ⟨R6, q1, q2, q3, q4⟩ := hR
              have hsz5 := Z5.out.size
              rw [q2.block x.block (by omega) (fun e => by
                rcases G3.out x.block e with e | e
                · exact o1 e
                · omega)]
              exact Z5.out.block x.block (by omega))
            have I6 : Hid (ApI w w6 r s rs R n b xs a (k + 1) (.slice a2 (LR - N) (ck - N))) := hide ⟨HLT.out, ⟨a2, ck - N, by rw [HE1.out, HLR1.out], by
                rw [HE1.out, HLR1.out, ← HDD.out]
                exact HFS.out _ HSK6, fun x hx => by
                obtain ⟨y, hy, hyb⟩ := HAB.out x hx
                obtain ⟨y', hy', hyb'⟩ := HAK.out y hy
                exact ⟨y', hy', by rw [hyb', hyb]⟩⟩, by
                rw [HET.out]
                refine RoP.step (G2.out.thenBelow Z5.out) G3.out G4.out (fun q hq => ?_) hR
                have h1 := HO1.out.lt q hq
                have h2 := G2.out.size
                have h3 := Z3.out.size
                omega⟩
            clear HSK6 hR BV1
            go_wp2
            go_roundw
            case rel => first | exact ⟨k + 1, I6⟩ | exact ⟨k + 1, by have h9 := I6; rw [Nat.sub_self] at h9; exact h9⟩
            case measure =>
              have := HNL.out
              first | (show LR - N < LR; omega) | (show 0 < N; omega)
        · have hkc : k = cntN s xs.length b.length := by have := HI.out.le; omega
          have hed : edgeN s xs.length b.length k = b.length := edge_cnt hs1 (by omega)
          rw [hed, Nat.sub_self]
          have hex : expd s ⟨rAp n b, rs.length, xs.length⟩ = expK s ⟨rAp n b, rs.length, xs.length⟩ k := by rw [hkc]; rfl
          have HRK := hide HI.out.rk
          rw [← hex] at HRK
          clear hsk hak g1 g2 g3 g4 hed hex hkc hlt
          go_wp2
          go_ret
          exact ⟨rfl, HRK.out⟩
  · have e2 : apS s rs n b = rs := by simp [apS, h0]
    rw [e2]
    generalize fE rs n = E at HWR h0
    clear e2
    go_enter Tryz.func28, Tryz.ntmps28
    go_wp2_with (go_at_call 61; refine HWR.out.mono ?_; rintro e w2 ⟨rfl, hb2⟩)
    go_ret
    exact ⟨rfl, RoP.below HH.out hb2⟩

end Go.Proofs.YtpocadbhajacaaaGreatDoor

/-
  The document's Count and Read.
-/
namespace Go.Proofs.YtpocadbhajacaaaGreatDoor
open Go.RowKit Go.Shelf
set_option linter.unusedVariables false
set_option linter.unusedSimpArgs false
set_option maxRecDepth 100000

theorem RoP.pre {w w0 w1 : World} {r s : Nat} {R : Rm} {rs : List Rw} (hb : Below w.heap.size w w0) (h : RoP w0 w1 r s R rs) : RoP w w1 r s R rs := by
  obtain ⟨R', h1, h2, h3, h4⟩ := h
  have hs := hb.size
  exact ⟨R', h1, (Chs.of_below _ hb).after h2 (fun k hk => .inl hk), fun k hk => (h3 k hk).imp id (fun h => Nat.le_trans hs h), fun k hk => (h4 k hk).imp id (fun h => Nat.le_trans hs h)⟩
theorem RoP.comp {w w1 w2 : World} {r s : Nat} {R R1 : Rm} {rs2 : List Rw} (a2 : Chs (R.own r) w w1) (a3 : ∀ k, R1.own r k → R.own r k ∨ w.heap.size ≤ k) (a4 : ∀ k, R1.ro k → R.ro k ∨ w.heap.size ≤ k) (h : RoP w1 w2 r s R1 rs2) : RoP w w2 r s R rs2 := by
  obtain ⟨R', h1, h2, h3, h4⟩ := h
  have hs := a2.size
  refine ⟨R', h1, a2.after h2 a3, fun k hk => ?_, fun k hk => ?_⟩
  · rcases h3 k hk with h | h
    · exact a3 k h
    · exact .inr (Nat.le_trans hs h)
  · rcases h4 k hk with h | h
    · exact a4 k h
    · exact .inr (Nat.le_trans hs h)
theorem RoP.post {w w1 w2 : World} {r s : Nat} {R : Rm} {rs : List Rw} (h : RoP w w1 r s R rs) (hb : Below w1.heap.size w1 w2) : RoP w w2 r s R rs := by
  obtain ⟨R', h1, h2, h3, h4⟩ := h
  exact ⟨R', h1.below hb, h2.after (Chs.of_below (fun _ => False) hb) (fun k hk => hk.elim), h3, h4⟩
/-- The last of the places behind leaves. -/
theorem endL_last {ls : List (List Int)} (h : 0 < ls.length) : (endL ls)[ls.length - 1]? = some ((offL ls ls.length : Nat) : Int) := by
  unfold endL
  rw [List.getElem?_map, List.getElem?_range (by omega), Option.map_some, Nat.sub_add_cancel (by omega)]
section
variable (r s : Nat) (rs : List Rw) (R : Rm) (w : World) (hr : RkAt w r s rs R)
include hr
theorem rk_vb : ∀ m, isB (fl (play rs) m) := fun m => by
  cases e : play rs m with
  | none => rw [fl_none e]; intro y hy; cases hy
  | some xs => rw [show fl (play rs) m = xs by simp [fl, e]]; exact hr.isb e
set_option maxHeartbeats 1000000 in
theorem countR_any (h : Int) (n : Nat) (hn : bnE h 0 = 0 → CnL (play rs) h.toNat n) (hwt : wt rs ≤ 1099511000000) : Calls Tryz.prog 9 #[.pointer (some ⟨r, 0, none⟩), .int .i64 h] w fun e w' =>
    e = .returned (.tuple #[.int .i64 (if bnE h 0 = 0 then (n : Int) else 0), .int .i64 (bnE h 0)]) ∧ Below w.heap.size w w' := by
  by_cases he : bnE h 0 = 0
  · obtain ⟨H, I, rfl, hI0, hh, hI1⟩ := nmO'_nats (bnE_zero he)
    clear hI0 hI1
    have hcn := hn he
    rw [Int.toNat_natCast] at hcn
    rw [if_pos he, he]
    have HHT := hide (height_is (H : Int) w)
    rw [hh_true (h := 0) hh] at HHT
    have HA := hide (allR_any r s rs R w hr H n hh hcn hwt)
    have HL : Hid (((lfs (play rs) H n).map str).length = n) := hide (by rw [List.length_map, lfs_len])
    clear hr he hn hcn hh hwt
    go_enter Tryz.func9, Tryz.ntmps9
    go_wp2_with (go_at_call 29; refine HHT.out.mono ?_; rintro r w' ⟨rfl, hw'⟩; subst w')
    refine HA.out.mono ?_
    rintro e w2 ⟨o, rfl, ho, hb⟩
    obtain ⟨oa, oc, hos⟩ := OwnN.slice ho
    rw [HL.out] at hos
    subst hos
    have HB := hide hb
    clear ho hb
    go_wp2
    go_ret2
    exact ⟨rfl, HB.out⟩
  · rw [if_neg he]
    have e2 : bnE h 0 = 2 := by rcases bnE_bin h 0 with k | k; exact absurd k he; exact k
    rw [e2]
    have HHT := hide (height_is h w)
    rw [bnE_height he] at HHT
    clear hr he hn hwt e2
    go_enter Tryz.func9, Tryz.ntmps9
    go_wp2_with (go_at_call 29; refine HHT.out.mono ?_; rintro r w' ⟨rfl, hw'⟩; subst w')
    go_ret2
    exact ⟨rfl, Below.refl _ _⟩
set_option maxHeartbeats 2000000 in
theorem readR_any15 (h i : Int) (hwt : wt rs ≤ 1099511000000) : Calls Tryz.prog 15 #[.pointer (some ⟨r, 0, none⟩), .int .i64 h, .int .i64 i] w fun e w' =>
    e = .returned (.tuple #[.string (str (rdBb rs h i)), .int .i64 (rdEb rs h i)]) ∧ Below w.heap.size w w' := by
  have HNM := hide (bnameR_any h i w)
  by_cases he : bnE h i = 0
  · obtain ⟨H, I, rfl, rfl, hh, hI⟩ := nmO'_nats (bnE_zero he)
    have hrk : rdK rs (H : Int) (I : Int) = I % 2 ^ H := by unfold rdK; simp only [Int.toNat_natCast]
    have hrl : rdL rs (H : Int) (I : Int) = wl (2 ^ H) (fl (play rs) (lfN H (I / 2 ^ H))) := by unfold rdL; rw [bnP_nat hh hI]; simp only [Int.toNat_natCast]
    have hre : rdEb rs (H : Int) (I : Int) = if I % 2 ^ H < (wl (2 ^ H) (fl (play rs) (lfN H (I / 2 ^ H)))).length then 0 else 121 := by unfold rdEb; rw [if_pos he, hrk, hrl]
    have hrb : rdBb rs (H : Int) (I : Int) = if I % 2 ^ H < (wl (2 ^ H) (fl (play rs) (lfN H (I / 2 ^ H)))).length then (wl (2 ^ H) (fl (play rs) (lfN H (I / 2 ^ H)))).getD (I % 2 ^ H) [] else [] := by
      unfold rdBb
      rw [hre]
      split <;> simp_all
    rw [hre, hrb]
    rw [he, bnP_nat hh hI] at HNM
    obtain ⟨nm, HN⟩ : ∃ nm, Hid (lfN H (I / 2 ^ H) = nm) := ⟨_, hide rfl⟩
    rw [HN.out] at HNM ⊢
    have HAL : Hid (∀ (W : World), RkAt W r s rs R → Calls Tryz.prog 36 #[.pointer (some ⟨r, 0, none⟩), .string nm] W fun e w' => e = .returned (.tuple #[.string (str (fl (play rs) nm)), .bool (play rs nm).isSome]) ∧ Below W.heap.size W w') := hide (fun W hW => all_any r s rs R W hW nm hwt)
    have hp := hh.pow
    obtain ⟨P, HP⟩ : ∃ P, Hid (2 ^ H = P) := ⟨_, hide rfl⟩
    have HWP := hide (wrap_powB hh HP.out)
    rw [HP.out] at hp ⊢
    have HWH := hide (fun (W : World) => wholeR_any (fl (play rs) nm) P W (rk_vb r s rs R w hr nm) (Nat.le_trans (play_wt rs nm) hwt) (by omega))
    generalize str (fl (play rs) nm) = X at *
    generalize (play rs nm).isSome = th at *
    obtain ⟨ls, HLS⟩ : ∃ ls, Hid (wl P (fl (play rs) nm) = ls) := ⟨_, hide rfl⟩
    rw [HLS.out] at HWH ⊢
    have hlP : ls.length ≤ P := by rw [← HLS.out]; exact wl_le _ _
    obtain ⟨q, HQ⟩ : ∃ q, Hid (I % P = q) := ⟨_, hide rfl⟩
    have hqP : q < P := by rw [← HQ.out]; exact Nat.mod_lt _ (by omega)
    rw [HQ.out]
    have hrem : (I : Int).tmod (P : Int) = (q : Int) := by rw [← HQ.out]; exact (Int.ofNat_tmod I P).symm
    have HRK := hide hr
    have HLL : Hid ((ls.map str).length = ls.length) := hide (by rw [List.length_map])
    obtain ⟨hP1, hP2⟩ := hp
    have hPn : ¬ (P : Int) = 0 := by omega
    have hH1 : (1 : Int) ≤ (H : Int) := by have := hh.1; omega
    have hH8 : (H : Int) ≤ 8 := by have := hh.2; omega
    have hst0 : q < ls.length → (ls.map str)[q]? = some (str (ls.getD q [])) := fun hq => by simp [List.getD, hq]
    obtain ⟨y, HY⟩ : ∃ y, Hid (ls.getD q [] = y) := ⟨_, hide rfl⟩
    rw [HY.out] at hst0 ⊢
    have HST := hide hst0
    clear hst0
    obtain ⟨er, HER⟩ : ∃ er : Int, Hid ((if q < ls.length then (0 : Int) else 121) = er) := ⟨_, hide rfl⟩
    obtain ⟨ey, HEY⟩ : ∃ ey, Hid ((if q < ls.length then y else []) = ey) := ⟨_, hide rfl⟩
    rw [HER.out, HEY.out]
    clear hr he hh hI hrk hrl hre hrb hwt HLS HQ
    generalize hlm : ls.length = m at *
    go_enter Tryz.func15, Tryz.ntmps15
    go_wp2_with fail
    refine HNM.out.mono ?_
    rintro e w' ⟨rfl, hw'⟩
    subst w'
    go_wp2_with fail
    refine (HAL.out _ HRK.out).mono ?_
    rintro e w2 ⟨rfl, hb2⟩
    have HB2 := hide hb2
    clear hb2
    go_wp2_with (rw [HWP.out])
    refine (HWH.out w2).mono ?_
    rintro e w3 ⟨lo, lv, rfl, hlo, _, hb3⟩
    have HB3 := hide (on_below HB2.out hb3)
    have HLO := hide hlo
    obtain ⟨la, lc, hls⟩ := OwnN.slice hlo
    rw [HLL.out] at hls
    subst hls
    have hlies := hlo.lies
    clear hlo hb3 HB2 HWH HAL HNM
    by_cases hqm : q < m
    · have hqi : ¬ (m : Int) ≤ (q : Int) := by omega
      have hst := HST.out hqm
      rcases hlies with ⟨_, hnil⟩ | ⟨g, cap, cs, e1, hg, hblk, h1, h2, h3, h4⟩
      · rw [hnil] at hst
        simp at hst
      · rw [HLL.out] at e1
        injection e1 with e1 _ _
        subst e1
        have hix := atN g m lc q (q : Int) rfl hqm
        have hc : w3.cell? ⟨g, q, none⟩ = some (.string (str y)) := OwnN.cell HLO.out q _ hst
        clear hst hblk h1 h2 h3 h4
        go_wp2_with (rw [HWP.out])
        go_ret2
        refine ⟨?_, HB3.out⟩
        rw [← HER.out, ← HEY.out, if_pos hqm, if_pos hqm]
        rfl
    · have hqi : (m : Int) ≤ (q : Int) := by omega
      clear hlies
      go_wp2_with (rw [HWP.out])
      go_ret2
      refine ⟨?_, HB3.out⟩
      rw [← HER.out, ← HEY.out, if_neg hqm, if_neg hqm]
      rfl
  · have e1 : rdEb rs h i = 2 := by unfold rdEb; rw [if_neg he]
    have e2 : rdBb rs h i = [] := by unfold rdBb; rw [e1, if_neg (by decide)]
    have e3 : bnE h i = 2 := by rcases bnE_bin h i with k | k; exact absurd k he; exact k
    rw [e1, e2]
    rw [e3] at HNM
    generalize bnP h i = nm at *
    clear hr he e1 e2 e3 hwt
    go_enter Tryz.func15, Tryz.ntmps15
    go_wp2_with fail
    refine HNM.out.mono ?_
    rintro e w' ⟨rfl, hw'⟩
    subst w'
    go_wp2
    go_ret2
    exact ⟨rfl, Below.refl _ _⟩
set_option maxHeartbeats 4000000 in
theorem putR_any15 (h i : Int) (n : Nat) (a : Option Addr) (l c : Nat) (x : List Int) (hs : Sl w a l c x) (hap : 0 < l → ∀ y, a = some y → ¬ R.own r y.block) (hn : bnE h 0 = 0 → CnL (play rs) h.toNat n) (hwt : wt rs + 2 * x.length + 80 ≤ 1099511000000) :
    Calls Tryz.prog 11 #[.pointer (some ⟨r, 0, none⟩), .int .i64 h, .int .i64 i, .slice a l c] w fun e w' => e = .returned (.int .i64 (puEb rs h i n x)) ∧ RoP w w' r s R (puSb s rs h i n x) := by
  have HRK := hide hr
  have hxl := hs.hlen
  have hxr := hs.hreach
  have hxb := hs.hbyte
  have HS := hide hs
  have HAP := hide hap
  have HW := hide hwt
  have HNM := hide (bnameR_any h i w)
  have HVB := hide (rk_vb r s rs R w hr)
  by_cases he : bnE h i = 0
  · obtain ⟨H, I, rfl, rfl, hh, hI⟩ := nmO'_nats (bnE_zero he)
    have he0 : bnE (H : Int) 0 = 0 := bnE_nat (I := 0) hh (by decide)
    have hcn := hn he0
    rw [Int.toNat_natCast] at hcn
    rw [he, bnP_nat hh hI] at HNM
    have hnb : n ≤ 1048576 := hcn.le
    have hH1 : (1 : Int) ≤ (H : Int) := by have := hh.1; omega
    have hH8 : (H : Int) ≤ 8 := by have := hh.2; omega
    by_cases hxn : x.length ≤ 65535
    · have hli : ¬ (65535 : Int) < (l : Int) := by omega
      have e1 : puEb rs (H : Int) (I : Int) n x = if (I : Int) = (n : Int) then reEb rs H (lfN H (I / 2 ^ H)) else 40 := by
        unfold puEb
        rw [if_pos he, if_pos hxn, bnP_nat hh hI, Int.toNat_natCast]
      have hnm := lfN_nm (k := I / 2 ^ H) hh (by have := Nat.div_le_self I (2 ^ H); omega)
      have HA : Hid (∀ W : World, RkAt W r s rs R → Calls Tryz.prog 30 #[.pointer (some ⟨r, 0, none⟩), .int .i64 (H : Int)] W fun e w' => ∃ o, e = .returned o ∧ OwnN w' W.heap.size o ((lfs (play rs) H n).map str) ∧ Below W.heap.size W w') := hide (fun W hW => allR_any r s rs R W hW H n hh hcn (by omega))
      have HLN : Hid (((lfs (play rs) H n).map str).length = n) := hide (by rw [List.length_map, lfs_len])
      unfold puSb
      rw [e1, bnP_nat hh hI]
      generalize lfN H (I / 2 ^ H) = nm at *
      by_cases hin : I = n
      · subst hin
        rw [if_pos rfl]
        have HAL : Hid (∀ (W : World), RkAt W r s rs R → Calls Tryz.prog 36 #[.pointer (some ⟨r, 0, none⟩), .string nm] W fun e w' => e = .returned (.tuple #[.string (str (fl (play rs) nm)), .bool (play rs nm).isSome]) ∧ Below W.heap.size W w') := hide (fun W hW => all_any r s rs R W hW nm (by have := HW.out; omega))
        have hre : reEb rs H nm = if wlE (2 ^ H) (fl (play rs) nm) < (fl (play rs) nm).length then 130 else 0 := rfl
        have hfl := Nat.le_trans (play_wt rs nm) (show wt rs ≤ 1099511000000 by omega)
        have hbv := HVB.out nm
        have hp := hh.pow
        obtain ⟨P, HP⟩ : ∃ P, Hid (2 ^ H = P) := ⟨_, hide rfl⟩
        have HWP := hide (wrap_powB hh HP.out)
        rw [HP.out] at hp hre
        have HWH := hide (fun (W : World) => wholeR_any (fl (play rs) nm) P W hbv hfl (by omega))
        have hwe : offL (wl P (fl (play rs) nm)) (wl P (fl (play rs) nm)).length = wlE P (fl (play rs) nm) := offL_all _ _ (Nat.le_refl _)
        have hwl := wlE_le P (fl (play rs) nm) hbv
        rw [← hwe] at hre hwl
        have hsz : (str (fl (play rs) nm)).size = (fl (play rs) nm).length := str_size _
        obtain ⟨ls, HLS⟩ : ∃ ls, Hid (wl P (fl (play rs) nm) = ls) := ⟨_, hide rfl⟩
        rw [HLS.out] at HWH hre hwl
        obtain ⟨m, HM⟩ : ∃ m, Hid (ls.length = m) := ⟨_, hide rfl⟩
        obtain ⟨E, HE⟩ : ∃ E, Hid (offL ls ls.length = E) := ⟨_, hide rfl⟩
        rw [HE.out] at hre hwl
        obtain ⟨bl, HBL⟩ : ∃ bl, Hid ((fl (play rs) nm).length = bl) := ⟨_, hide rfl⟩
        rw [HBL.out] at hre hwl hsz hfl
        have hm0 : m = 0 → E = 0 := fun hq => by rw [← HE.out, HM.out, hq, offL_zero]
        have hmP : m ≤ 256 := by rw [← HM.out, ← HLS.out]; have := wl_le P (fl (play rs) nm); omega
        by_cases hr0 : reEb rs H nm = 0
        · have hEb : E = bl := by
            rw [hre] at hr0
            split at hr0
            · cases hr0
            · omega
          rw [hr0, if_pos rfl]
          have hfe : fE (crS rs nm) nm = 0 := by
            rw [crS_is hnm]
            split
            · have e3 : play (rs ++ [rCr nm]) = upd (play rs) nm (some []) := by rw [play_snoc, do_cr]
              simp [fE, hnm, e3, upd_same]
            · rename_i h0
              cases hp : play rs nm with
              | none => exact absurd hp h0
              | some ys => simp [fE, hnm, hp]
          have hwc : wt (crS rs nm) ≤ wt rs + 1 := by
            rw [crS_is hnm]
            split
            · rw [wt_app]; simp [wt, rCr]
            · omega
          have HAPP : Hid (∀ (W : World) (R1 : Rm) (a : Option Addr) (l c : Nat), RkAt W r s (crS rs nm) R1 → Sl W a l c (lfB x) → (∀ y : Addr, a = some y → ¬ R1.own r y.block ∧ y.block < W.heap.size) → Calls Tryz.prog 28 #[.pointer (some ⟨r, 0, none⟩), .string nm, .slice a l c] W fun e w' => e = .returned (.int .i64 0) ∧ RoP W w' r s R1 (puW s rs nm (lfB x))) := hide (fun W R1 a l c hW hS hF => by
            have := appendR_any r s (crS rs nm) R1 W hW nm a l c (lfB x) hS (fun _ => hF) (by have := HW.out; rw [lfB_len]; omega)
            rw [hfe] at this
            exact this)
          have HXL := hide hxl
          have HXB := hide (lfB_isB hxn hxb)
          have HBE := hide (lfB_be x hxn)
          have hlu : IntKind.u64.wrap (l : Int) = (l : Int) := by rw [IntKind.wrap_u64]; exact Int.emod_eq_of_lt (by omega) (by omega)
          have hl5 : l ≤ 65535 := by omega
          subst hEb
          cases hp9 : play rs nm with
          | none =>
            rw [hp9] at HAL
            simp only [Option.isSome_none] at HAL
            have hcr : crE rs nm = 0 := by simp [crE, hnm, hp9]
            have HCR : Hid (∀ W : World, RkAt W r s rs R → Calls Tryz.prog 26 #[.pointer (some ⟨r, 0, none⟩), .string nm] W fun e w' => e = .returned (.int .i64 0) ∧ RoP W w' r s R (crS rs nm)) := hide (fun W hW => by
              have := createR_any r s rs R W hW nm (by have := HW.out; omega)
              rw [hcr] at this
              exact this)
            generalize str (fl (play rs) nm) = X at *
            clear hnm hn hI hh he he0 hr hwt e1 hs hap hcn hre hfl hbv hp hwe hwl hr0 hfe hwc hp9 hcr
            go_enter Tryz.func11, Tryz.ntmps11
            go_wp2_with fail
            refine HNM.out.mono ?_
            rintro e w' ⟨rfl, hw'⟩
            subst w'
            go_wp2_with fail
            refine (HA.out w HRK.out).mono ?_
            rintro e w2 ⟨o, rfl, ho, hb2⟩
            obtain ⟨oa, oc, hos⟩ := OwnN.slice ho
            rw [HLN.out] at hos
            subst hos
            have HB2 := hide hb2
            clear ho hb2
            go_wp2_with fail
            refine (HAL.out _ (HRK.out.below HB2.out)).mono ?_
            rintro e w3 ⟨rfl, hb3⟩
            have HB3 := hide (on_below HB2.out hb3)
            clear hb3
            go_wp2_with (rw [HWP.out])
            refine (HWH.out w3).mono ?_
            rintro e w4 ⟨lo, lv, rfl, _, hlv, hb4⟩
            have HB4 := hide (on_below HB3.out hb4)
            obtain ⟨va, vc, hvs⟩ := row_slice hlv
            rw [endL_len] at hvs
            subst hvs
            have HLV := hide hlv
            clear hb4 hlv
            rw [HM.out]
            by_cases hmz : m = 0
            · have hE0 := hm0 hmz
              subst hmz
              rw [hE0] at hsz
              go_wp2_with fail
              refine (HCR.out _ (HRK.out.below HB4.out)).mono ?_
              rintro e w5 ⟨rfl, R1, a1, a2, a3, a4⟩
              have HSL := hide ((HS.out.below HB4.out).chsB a2 (fun h0 y hy => HAP.out h0 y hy))
              have HA1 := hide a1
              have HOC : Hid (∀ w8 : World, RoP w5 w8 r s R1 (puW s rs nm (lfB x)) → RoP w w8 r s R (puW s rs nm (lfB x))) := hide (fun w8 h8 => RoP.pre HB4.out (RoP.comp a2 a3 a4 h8))
              clear a1 a2 a3 a4
              go_wp2_with fail
              refine (number_ref (l : Int) 2 _ (by decide) (by omega) (by omega)).mono ?_
              rintro e w6 ⟨g6, rfl, hg6, hrow6, hb6⟩
              have hown6 : Own w6 (w5).heap.size (.slice (some ⟨g6, 0, none⟩) 2 2) (be (l : Int) 2) := by
                have := Own.of_blkF hrow6 hg6 (by rw [be_length]; decide)
                rw [be_length] at this
                exact this
              have HO6 := hide hown6
              have HB6 := hide hb6
              have HSL6 := hide (HSL.out.below hb6)
              clear hb6 hrow6 hown6 hg6
              go_wp2_with (refine step_append rfl rfl rfl HO6.out HSL6.out (by rw [be_length]; omega) HB6.out.size ?_)
              intro v7 w7 ho7 hgr7 _
              have hbw : Below (w5).heap.size w5 w7 := HB6.out.grown hgr7 HB6.out.size (fun k hk => HO6.out.lt k hk)
              rw [← HXL.out, HBE.out] at ho7
              obtain ⟨qa, qc, hv7, hs7⟩ := ho7.sl' HXB.out (by rw [lfB_len, HXL.out]; omega)
              subst hv7
              have HS7 := hide hs7
              have HA7 := hide (HA1.out.below hbw)
              have HBW := hide hbw
              have HOF : Hid (∀ y : Addr, qa = some y → ¬ R1.own r y.block ∧ y.block < w7.heap.size) := hide (fun y hy => by
                subst hy
                have h1 := row_ge ho7 (k := y.block) rfl
                obtain ⟨cs, h2⟩ := Own.lies ho7 (k := y.block) rfl
                refine ⟨fun hk => ?_, h2.lt⟩
                have := HA1.out.lt (.inl hk)
                omega)
              clear ho7 hgr7 hs7 hbw
              go_wp2_with fail
              refine (HAPP.out _ _ _ _ _ HA7.out HS7.out HOF.out).mono ?_
              rintro e w8 ⟨rfl, ho8⟩
              have HO8 := hide (HOC.out _ (RoP.pre HBW.out ho8))
              clear ho8
              go_wp2
              go_ret
              exact ⟨rfl, HO8.out⟩
            · have hmi : (0 : Int) < (m : Int) := by omega
              have hcl : ∃ g, va = some ⟨g, 0, none⟩ ∧ w4.cell? ⟨g, m - 1, none⟩ = some (.int .i64 (E : Int)) := by
                rcases OwnI.lies HLV.out with ⟨e1, hnil⟩ | ⟨g, cap, cs, e1, hg, hblk, h1, h2, h3, h4⟩
                · have := congrArg List.length hnil
                  rw [endL_len, HM.out] at this
                  simp at this
                  omega
                · injection e1 with e1 _ _
                  subst e1
                  exact ⟨g, rfl, OwnI.cell HLV.out (m - 1) (E : Int) (by rw [← HE.out, ← HM.out]; exact endL_last (by rw [HM.out]; omega))⟩
              obtain ⟨g, rfl, hcell⟩ := hcl
              have hm1 : (m : Int) - 1 = ((m - 1 : Nat) : Int) := by omega
              have hix := atIi g m vc (m - 1) ((m - 1 : Nat) : Int) rfl (by omega)
              go_wp2_with fail
              refine (HCR.out _ (HRK.out.below HB4.out)).mono ?_
              rintro e w5 ⟨rfl, R1, a1, a2, a3, a4⟩
              clear hcell hix
              have HSL := hide ((HS.out.below HB4.out).chsB a2 (fun h0 y hy => HAP.out h0 y hy))
              have HA1 := hide a1
              have HOC : Hid (∀ w8 : World, RoP w5 w8 r s R1 (puW s rs nm (lfB x)) → RoP w w8 r s R (puW s rs nm (lfB x))) := hide (fun w8 h8 => RoP.pre HB4.out (RoP.comp a2 a3 a4 h8))
              clear a1 a2 a3 a4
              go_wp2_with fail
              refine (number_ref (l : Int) 2 _ (by decide) (by omega) (by omega)).mono ?_
              rintro e w6 ⟨g6, rfl, hg6, hrow6, hb6⟩
              have hown6 : Own w6 (w5).heap.size (.slice (some ⟨g6, 0, none⟩) 2 2) (be (l : Int) 2) := by
                have := Own.of_blkF hrow6 hg6 (by rw [be_length]; decide)
                rw [be_length] at this
                exact this
              have HO6 := hide hown6
              have HB6 := hide hb6
              have HSL6 := hide (HSL.out.below hb6)
              clear hb6 hrow6 hown6 hg6
              go_wp2_with (refine step_append rfl rfl rfl HO6.out HSL6.out (by rw [be_length]; omega) HB6.out.size ?_)
              intro v7 w7 ho7 hgr7 _
              have hbw : Below (w5).heap.size w5 w7 := HB6.out.grown hgr7 HB6.out.size (fun k hk => HO6.out.lt k hk)
              rw [← HXL.out, HBE.out] at ho7
              obtain ⟨qa, qc, hv7, hs7⟩ := ho7.sl' HXB.out (by rw [lfB_len, HXL.out]; omega)
              subst hv7
              have HS7 := hide hs7
              have HA7 := hide (HA1.out.below hbw)
              have HBW := hide hbw
              have HOF : Hid (∀ y : Addr, qa = some y → ¬ R1.own r y.block ∧ y.block < w7.heap.size) := hide (fun y hy => by
                subst hy
                have h1 := row_ge ho7 (k := y.block) rfl
                obtain ⟨cs, h2⟩ := Own.lies ho7 (k := y.block) rfl
                refine ⟨fun hk => ?_, h2.lt⟩
                have := HA1.out.lt (.inl hk)
                omega)
              clear ho7 hgr7 hs7 hbw
              go_wp2_with fail
              refine (HAPP.out _ _ _ _ _ HA7.out HS7.out HOF.out).mono ?_
              rintro e w8 ⟨rfl, ho8⟩
              have HO8 := hide (HOC.out _ (RoP.pre HBW.out ho8))
              clear ho8
              go_wp2
              go_ret
              exact ⟨rfl, HO8.out⟩
          | some ys =>
            rw [hp9] at HAL
            simp only [Option.isSome_some] at HAL
            have hcs := crS_some hnm hp9
            rw [hcs] at HAPP
            generalize str (fl (play rs) nm) = X at *
            clear hnm hn hI hh he he0 hr hwt e1 hs hap hcn hre hfl hbv hp hwe hwl hr0 hfe hwc hp9 hcs
            go_enter Tryz.func11, Tryz.ntmps11
            go_wp2_with fail
            refine HNM.out.mono ?_
            rintro e w' ⟨rfl, hw'⟩
            subst w'
            go_wp2_with fail
            refine (HA.out w HRK.out).mono ?_
            rintro e w2 ⟨o, rfl, ho, hb2⟩
            obtain ⟨oa, oc, hos⟩ := OwnN.slice ho
            rw [HLN.out] at hos
            subst hos
            have HB2 := hide hb2
            clear ho hb2
            go_wp2_with fail
            refine (HAL.out _ (HRK.out.below HB2.out)).mono ?_
            rintro e w3 ⟨rfl, hb3⟩
            have HB3 := hide (on_below HB2.out hb3)
            clear hb3
            go_wp2_with (rw [HWP.out])
            refine (HWH.out w3).mono ?_
            rintro e w4 ⟨lo, lv, rfl, _, hlv, hb4⟩
            have HB4 := hide (on_below HB3.out hb4)
            obtain ⟨va, vc, hvs⟩ := row_slice hlv
            rw [endL_len] at hvs
            subst hvs
            have HLV := hide hlv
            clear hb4 hlv
            rw [HM.out]
            have ho0 : RoP w4 w4 r s R rs := RoP.below (HRK.out.below HB4.out) (Below.refl _ _)
            obtain ⟨R1, a1, a2, a3, a4⟩ := ho0
            have HA0 := hide (And.intro a1 (And.intro a2 (And.intro a3 a4)))
            clear a1 a2 a3 a4
            by_cases hmz : m = 0
            · have hE0 := hm0 hmz
              subst hmz
              rw [hE0] at hsz
              obtain ⟨a1, a2, a3, a4⟩ := HA0.out
              clear HA0
              have HSL := hide ((HS.out.below HB4.out).chsB a2 (fun h0 y hy => HAP.out h0 y hy))
              have HA1 := hide a1
              have HOC : Hid (∀ w8 : World, RoP w4 w8 r s R1 (puW s rs nm (lfB x)) → RoP w w8 r s R (puW s rs nm (lfB x))) := hide (fun w8 h8 => RoP.pre HB4.out (RoP.comp a2 a3 a4 h8))
              clear a1 a2 a3 a4
              go_wp2_with fail
              refine (number_ref (l : Int) 2 _ (by decide) (by omega) (by omega)).mono ?_
              rintro e w6 ⟨g6, rfl, hg6, hrow6, hb6⟩
              have hown6 : Own w6 (w4).heap.size (.slice (some ⟨g6, 0, none⟩) 2 2) (be (l : Int) 2) := by
                have := Own.of_blkF hrow6 hg6 (by rw [be_length]; decide)
                rw [be_length] at this
                exact this
              have HO6 := hide hown6
              have HB6 := hide hb6
              have HSL6 := hide (HSL.out.below hb6)
              clear hb6 hrow6 hown6 hg6
              go_wp2_with (refine step_append rfl rfl rfl HO6.out HSL6.out (by rw [be_length]; omega) HB6.out.size ?_)
              intro v7 w7 ho7 hgr7 _
              have hbw : Below (w4).heap.size w4 w7 := HB6.out.grown hgr7 HB6.out.size (fun k hk => HO6.out.lt k hk)
              rw [← HXL.out, HBE.out] at ho7
              obtain ⟨qa, qc, hv7, hs7⟩ := ho7.sl' HXB.out (by rw [lfB_len, HXL.out]; omega)
              subst hv7
              have HS7 := hide hs7
              have HA7 := hide (HA1.out.below hbw)
              have HBW := hide hbw
              have HOF : Hid (∀ y : Addr, qa = some y → ¬ R1.own r y.block ∧ y.block < w7.heap.size) := hide (fun y hy => by
                subst hy
                have h1 := row_ge ho7 (k := y.block) rfl
                obtain ⟨cs, h2⟩ := Own.lies ho7 (k := y.block) rfl
                refine ⟨fun hk => ?_, h2.lt⟩
                have := HA1.out.lt (.inl hk)
                omega)
              clear ho7 hgr7 hs7 hbw
              go_wp2_with fail
              refine (HAPP.out _ _ _ _ _ HA7.out HS7.out HOF.out).mono ?_
              rintro e w8 ⟨rfl, ho8⟩
              have HO8 := hide (HOC.out _ (RoP.pre HBW.out ho8))
              clear ho8
              go_wp2
              go_ret
              exact ⟨rfl, HO8.out⟩
            · have hmi : (0 : Int) < (m : Int) := by omega
              have hcl : ∃ g, va = some ⟨g, 0, none⟩ ∧ w4.cell? ⟨g, m - 1, none⟩ = some (.int .i64 (E : Int)) := by
                rcases OwnI.lies HLV.out with ⟨e1, hnil⟩ | ⟨g, cap, cs, e1, hg, hblk, h1, h2, h3, h4⟩
                · have := congrArg List.length hnil
                  rw [endL_len, HM.out] at this
                  simp at this
                  omega
                · injection e1 with e1 _ _
                  subst e1
                  exact ⟨g, rfl, OwnI.cell HLV.out (m - 1) (E : Int) (by rw [← HE.out, ← HM.out]; exact endL_last (by rw [HM.out]; omega))⟩
              obtain ⟨g, rfl, hcell⟩ := hcl
              have hm1 : (m : Int) - 1 = ((m - 1 : Nat) : Int) := by omega
              have hix := atIi g m vc (m - 1) ((m - 1 : Nat) : Int) rfl (by omega)
              obtain ⟨a1, a2, a3, a4⟩ := HA0.out
              clear HA0
              have HSL := hide ((HS.out.below HB4.out).chsB a2 (fun h0 y hy => HAP.out h0 y hy))
              have HA1 := hide a1
              have HOC : Hid (∀ w8 : World, RoP w4 w8 r s R1 (puW s rs nm (lfB x)) → RoP w w8 r s R (puW s rs nm (lfB x))) := hide (fun w8 h8 => RoP.pre HB4.out (RoP.comp a2 a3 a4 h8))
              clear a1 a2 a3 a4
              go_wp2_with fail
              refine (number_ref (l : Int) 2 _ (by decide) (by omega) (by omega)).mono ?_
              rintro e w6 ⟨g6, rfl, hg6, hrow6, hb6⟩
              have hown6 : Own w6 (w4).heap.size (.slice (some ⟨g6, 0, none⟩) 2 2) (be (l : Int) 2) := by
                have := Own.of_blkF hrow6 hg6 (by rw [be_length]; decide)
                rw [be_length] at this
                exact this
              have HO6 := hide hown6
              have HB6 := hide hb6
              have HSL6 := hide (HSL.out.below hb6)
              clear hb6 hrow6 hown6 hg6
              go_wp2_with (refine step_append rfl rfl rfl HO6.out HSL6.out (by rw [be_length]; omega) HB6.out.size ?_)
              intro v7 w7 ho7 hgr7 _
              have hbw : Below (w4).heap.size w4 w7 := HB6.out.grown hgr7 HB6.out.size (fun k hk => HO6.out.lt k hk)
              rw [← HXL.out, HBE.out] at ho7
              obtain ⟨qa, qc, hv7, hs7⟩ := ho7.sl' HXB.out (by rw [lfB_len, HXL.out]; omega)
              subst hv7
              have HS7 := hide hs7
              have HA7 := hide (HA1.out.below hbw)
              have HBW := hide hbw
              have HOF : Hid (∀ y : Addr, qa = some y → ¬ R1.own r y.block ∧ y.block < w7.heap.size) := hide (fun y hy => by
                subst hy
                have h1 := row_ge ho7 (k := y.block) rfl
                obtain ⟨cs, h2⟩ := Own.lies ho7 (k := y.block) rfl
                refine ⟨fun hk => ?_, h2.lt⟩
                have := HA1.out.lt (.inl hk)
                omega)
              clear ho7 hgr7 hs7 hbw
              go_wp2_with fail
              refine (HAPP.out _ _ _ _ _ HA7.out HS7.out HOF.out).mono ?_
              rintro e w8 ⟨rfl, ho8⟩
              have HO8 := hide (HOC.out _ (RoP.pre HBW.out ho8))
              clear ho8
              go_wp2
              go_ret
              exact ⟨rfl, HO8.out⟩
        · have hEb : E < bl := by
            rw [hre] at hr0
            split at hr0
            · assumption
            · exact absurd rfl hr0
          have h130 : reEb rs H nm = 130 := by rw [hre, if_pos hEb]
          rw [h130, if_neg (by decide)]
          have hEi : ¬ (E : Int) = (bl : Int) := by omega
          have hbi : ¬ (0 : Int) = (bl : Int) := by omega
          generalize str (fl (play rs) nm) = X at *
          generalize (play rs nm).isSome = th at *
          clear hnm hn hI hh he he0 hr hwt e1 hs hap hcn hre hfl hbv hp hwe hwl hr0 h130
          go_enter Tryz.func11, Tryz.ntmps11
          go_wp2_with fail
          refine HNM.out.mono ?_
          rintro e w' ⟨rfl, hw'⟩
          subst w'
          go_wp2_with fail
          refine (HA.out w HRK.out).mono ?_
          rintro e w2 ⟨o, rfl, ho, hb2⟩
          obtain ⟨oa, oc, hos⟩ := OwnN.slice ho
          rw [HLN.out] at hos
          subst hos
          have HB2 := hide hb2
          clear ho hb2
          go_wp2_with fail
          refine (HAL.out _ (HRK.out.below HB2.out)).mono ?_
          rintro e w3 ⟨rfl, hb3⟩
          have HB3 := hide (on_below HB2.out hb3)
          clear hb3
          go_wp2_with (rw [HWP.out])
          refine (HWH.out w3).mono ?_
          rintro e w4 ⟨lo, lv, rfl, _, hlv, hb4⟩
          have HB4 := hide (on_below HB3.out hb4)
          obtain ⟨va, vc, hvs⟩ := row_slice hlv
          rw [endL_len] at hvs
          subst hvs
          have HLV := hide hlv
          clear hb4 hlv
          rw [HM.out]
          by_cases hmz : m = 0
          · have hE0 := hm0 hmz
            subst hmz
            go_wp2
            go_ret
            exact ⟨rfl, RoP.below HRK.out HB4.out⟩
          · have hmi : (0 : Int) < (m : Int) := by omega
            have hcl : ∃ g, va = some ⟨g, 0, none⟩ ∧ w4.cell? ⟨g, m - 1, none⟩ = some (.int .i64 (E : Int)) := by
              rcases OwnI.lies HLV.out with ⟨e1, hnil⟩ | ⟨g, cap, cs, e1, hg, hblk, h1, h2, h3, h4⟩
              · have := congrArg List.length hnil
                rw [endL_len, HM.out] at this
                simp at this
                omega
              · injection e1 with e1 _ _
                subst e1
                exact ⟨g, rfl, OwnI.cell HLV.out (m - 1) (E : Int) (by rw [← HE.out, ← HM.out]; exact endL_last (by rw [HM.out]; omega))⟩
            obtain ⟨g, rfl, hcell⟩ := hcl
            have hm1 : (m : Int) - 1 = ((m - 1 : Nat) : Int) := by omega
            have hix := atIi g m vc (m - 1) ((m - 1 : Nat) : Int) rfl (by omega)
            go_wp2
            go_ret
            exact ⟨rfl, RoP.below HRK.out HB4.out⟩
      · have hin2 : ¬ (I : Int) = (n : Int) := by omega
        rw [if_neg hin2, if_neg (by decide)]
        clear hnm hn hI hh he he0 hr hwt e1 hs hap hcn
        go_enter Tryz.func11, Tryz.ntmps11
        go_wp2_with fail
        refine HNM.out.mono ?_
        rintro e w' ⟨rfl, hw'⟩
        subst w'
        go_wp2_with fail
        refine (HA.out w HRK.out).mono ?_
        rintro e w2 ⟨o, rfl, ho, hb2⟩
        obtain ⟨oa, oc, hos⟩ := OwnN.slice ho
        rw [HLN.out] at hos
        subst hos
        have HB2 := hide hb2
        clear ho hb2
        go_wp2
        go_ret
        exact ⟨rfl, RoP.below HRK.out HB2.out⟩
    · have hli : (65535 : Int) < (l : Int) := by omega
      have e1 : puEb rs (H : Int) (I : Int) n x = 3 := by unfold puEb; rw [if_pos he, if_neg hxn]
      unfold puSb
      rw [e1, if_neg (by decide)]
      generalize lfN H (I / 2 ^ H) = nm at *
      clear hn hI hh he he0 hr hwt e1 hs hap hcn
      go_enter Tryz.func11, Tryz.ntmps11
      go_wp2_with fail
      refine HNM.out.mono ?_
      rintro e w' ⟨rfl, hw'⟩
      subst w'
      go_wp2
      go_ret
      exact ⟨rfl, RoP.below HRK.out (Below.refl _ _)⟩
  · have e1 : puEb rs h i n x = 2 := by unfold puEb; rw [if_neg he]
    unfold puSb
    rw [e1, if_neg (by decide)]
    have e3 : bnE h i = 2 := by rcases bnE_bin h i with k | k; exact absurd k he; exact k
    rw [e3] at HNM
    generalize bnP h i = nm at *
    clear hr hn hwt he e1 e3 hs hap
    go_enter Tryz.func11, Tryz.ntmps11
    go_wp2_with fail
    refine HNM.out.mono ?_
    rintro e w' ⟨rfl, hw'⟩
    subst w'
    go_wp2
    go_ret
    exact ⟨rfl, RoP.below HRK.out (Below.refl _ _)⟩
end

end Go.Proofs.YtpocadbhajacaaaGreatDoor

/-
  A slice of no byte, a slice of one; strings end to end.
-/
namespace Go.Proofs.YtpocadbhajacaaaGreatDoor
open Go.RowKit
set_option linter.unusedVariables false
set_option linter.unusedSimpArgs false
set_option maxRecDepth 100000

theorem run_addZ {dst : Option Tmp} {ty : TypeId} {pos : String} {aft : Array Edge} {gd : Option (Nat × Bool)} {a : Act} {w : World} {x y : Operand} {xs ys : List Int} {p q : ByteArray} (hx : a.eval x = .string p) (hy : a.eval y = .string q) (hp : p = str xs) (hq : q = str ys) (hs : xs.length + ys.length ≤ 9223372036854775807) :
    (execOp a.eval ⟨dst, .binOp .add 9 x y 9, ty, pos, aft, gd⟩).run Tryz.prog w = .ok (.value (.string (str (xs ++ ys)))) w := by
  subst hp hq
  have h : ¬ 9223372036854775807 < (str xs).size + (str ys).size := by rw [str_size, str_size]; omega
  unfold execOp
  simp only [hx, hy]
  simp [go_sem, h]
  rw [str_append]
theorem str_zZ : ({ data := #[90] } : ByteArray) = str [90] := rfl
theorem build_0Z (w : World) : (Instr.buildSlice 31 0 #[]).run Tryz.prog w = .ok (.slice (some ⟨w.heap.size, 0, none⟩) 0 0) (w.alloc (.cells #[] 5)) := by kernel_rfl
theorem build_1Z (q : Int) (w : World) : (Instr.buildSlice 31 1 #[(0, .int .u8 q)]).run Tryz.prog w = .ok (.slice (some ⟨w.heap.size, 0, none⟩) 1 1) (w.alloc (.cells #[.int .u8 q] 5)) := by kernel_rfl
theorem Blk.slZ {w : World} {g : Nat} {t : TypeId} {xs : List Int} (h : Blk w g t (u8s xs)) (hb : isB xs) (hl : xs.length ≤ 140737488355328) : Sl w (some ⟨g, 0, none⟩) xs.length xs.length xs := by
  refine ⟨rfl, Nat.le_refl _, by omega, hl, hb, (fun e => by cases e), fun _ => ⟨g, 0, rfl, fun i hi => ?_⟩⟩
  rw [Nat.zero_add, h.cell]
  exact u8s_get xs i hi
theorem one_slZ (w : World) (x : Int) (hx : 0 ≤ x ∧ x ≤ 255) : Sl (w.alloc (.cells #[.int .u8 x] 5)) (some ⟨w.heap.size, 0, none⟩) 1 1 [x] := by
  have := (Blk.made w 5 (u8s [x])).slZ (by intro y hy; simp at hy; omega) (by simp)
  exact this
section
variable {dst : Option Tmp} {ty : TypeId} {pos : String} {aft : Array Edge} {gd : Option (Nat × Bool)} {ops : Array Oper} {rest : List Oper} {a : Act} {w : World} {K : Act → World → Prop} {Q : Exit → Act → World → Prop}
theorem wp_0Z (h : ∀ w1 g, Own w1 w.heap.size (.slice (some ⟨g, 0, none⟩) 0 0) [] → Below w.heap.size w w1 → K (a.put dst (.slice (some ⟨g, 0, none⟩) 0 0)) w1) :
    Oper.wp Tryz.prog ⟨dst, .buildSlice 31 0 #[], ty, pos, aft, gd⟩ a w K Q := by
  refine wp_runV (.slice (some ⟨w.heap.size, 0, none⟩) 0 0) (w.alloc (.cells #[] 5)) ?_ (h _ _ ⟨by simp [u8s], .inr ⟨w.heap.size, 0, #[], rfl, Nat.le_refl _, heap_alloc_new w _, Nat.le_refl _, by unfold maxLen; omega, by simp, by simp [u8s]⟩⟩ ((Below.refl _ _).alloc (Nat.le_refl _) _))
  unfold execOp
  simp only [List.map_toArray, List.map_nil]
  simp only [Sem.run_bind, build_0Z, Result.andThen_ok, Sem.run_pure]
theorem step_0Z (hw : Region.wanted ⟨dst, .buildSlice 31 0 #[], ty, pos, aft, gd⟩ (yielded ops a.tmps) = true)
    (h : ∀ w1 g, Own w1 w.heap.size (.slice (some ⟨g, 0, none⟩) 0 0) [] → Below w.heap.size w w1 → wpList Tryz.prog ops Q rest (a.put dst (.slice (some ⟨g, 0, none⟩) 0 0)) w1) :
    wpList Tryz.prog ops Q (⟨dst, .buildSlice 31 0 #[], ty, pos, aft, gd⟩ :: rest) a w :=
  BigFrame.wpList_want hw fun K hK => wp_0Z fun w1 g h1 h2 => hK _ _ (h w1 g h1 h2)
set_option maxRecDepth 100000 in
theorem wp_1Z {x : Operand} {q : Int} (hq : 0 ≤ q ∧ q ≤ 255) (hx : a.eval x = .int .u8 q) (h : ∀ w1 g, Sl w1 (some ⟨g, 0, none⟩) 1 1 [q] → Below w.heap.size w w1 → K (a.put dst (.slice (some ⟨g, 0, none⟩) 1 1)) w1) :
    Oper.wp Tryz.prog ⟨dst, .buildSlice 31 1 #[(0, x)], ty, pos, aft, gd⟩ a w K Q := by
  refine wp_runV (.slice (some ⟨w.heap.size, 0, none⟩) 1 1) (w.alloc (.cells #[.int .u8 q] 5)) ?_ (h _ _ (one_slZ w q hq) ((Below.refl _ _).alloc (Nat.le_refl _) _))
  unfold execOp
  simp only [List.map_toArray, List.map_cons, List.map_nil, hx]
  simp only [Sem.run_bind, build_1Z, Result.andThen_ok, Sem.run_pure]
set_option maxRecDepth 100000 in
theorem step_1Z {x : Operand} {q : Int} (hq : 0 ≤ q ∧ q ≤ 255) (hw : Region.wanted ⟨dst, .buildSlice 31 1 #[(0, x)], ty, pos, aft, gd⟩ (yielded ops a.tmps) = true) (hx : a.eval x = .int .u8 q)
    (h : ∀ w1 g, Sl w1 (some ⟨g, 0, none⟩) 1 1 [q] → Below w.heap.size w w1 → wpList Tryz.prog ops Q rest (a.put dst (.slice (some ⟨g, 0, none⟩) 1 1)) w1) :
    wpList Tryz.prog ops Q (⟨dst, .buildSlice 31 1 #[(0, x)], ty, pos, aft, gd⟩ :: rest) a w :=
  BigFrame.wpList_want hw fun K hK => wp_1Z hq hx fun w1 g h1 h2 => hK _ _ (h w1 g h1 h2)
end
/-- What the first acts weigh. -/
theorem a5bulk_succ {A : List A5} {k : Nat} {x : A5} (hx : A[k]? = some x) : a5bulk (A.take (k + 1)) = a5bulk (A.take k) + (x.x.length + 6) := by
  obtain ⟨hk, he⟩ := List.getElem?_eq_some_iff.1 hx
  unfold a5bulk
  rw [List.take_succ_eq_append_getElem hk, List.map_append, List.sum_append, he]
  simp [A5.bulk]
theorem a5bulk_take (A : List A5) (k : Nat) : a5bulk (A.take k) ≤ a5bulk A := by
  unfold a5bulk
  conv => rhs; rw [← List.take_append_drop k A]
  rw [List.map_append, List.sum_append]
  omega
theorem a5bulk_len (A : List A5) : 6 * A.length ≤ a5bulk A := by
  induction A with
  | nil => simp [a5bulk]
  | cons x t ih =>
    unfold a5bulk at *
    rw [List.map_cons, List.sum_cons, List.length_cons]
    unfold A5.bulk at *
    omega

end Go.Proofs.YtpocadbhajacaaaGreatDoor

/-
  Disks that no call made, under bundle's calls: nothing is told, nothing is handed out.
-/
namespace Go.Proofs.YtpocadbhajacaaaGreatDoor
open Go.RowKit Go.Shelf
set_option linter.unusedVariables false
set_option linter.unusedSimpArgs false
set_option maxRecDepth 100000

theorem placesB_mkP (p : Option Addr) (h : Int) (w : World) : Calls Tryz.prog 52 #[.pointer p, .int .i64 h] w fun r w' => ∃ gd gh, r = .returned (.func (.func 82) #[] #[.pointer (some ⟨gh, 0, none⟩), .pointer (some ⟨gd, 0, none⟩)]) ∧
    Blk w' gd 26 [.pointer p] ∧ Blk w' gh 3 [.int .i64 h] ∧ w.heap.size ≤ gd ∧ w.heap.size ≤ gh ∧ Below w.heap.size w w' := by
  go_enter Tryz.func52, Tryz.ntmps52
  go_wp2
  go_ret
  have b1 : Below w.heap.size w (w.alloc (.cells #[.pointer p] 26)) := (Below.refl _ _).alloc (Nat.le_refl _) _
  have B1 : Blk (w.alloc (.cells #[.pointer p] 26)) w.heap.size 26 [.pointer p] := Blk.made _ _ _
  generalize hW1 : w.alloc (.cells #[.pointer p] 26) = W1 at *
  have s1 := b1.size
  have b2 : Below W1.heap.size W1 (W1.alloc (.cells #[.int .i64 h] 3)) := (Below.refl _ _).alloc (Nat.le_refl _) _
  have B2 : Blk (W1.alloc (.cells #[.int .i64 h] 3)) W1.heap.size 3 [.int .i64 h] := Blk.made _ _ _
  generalize hW2 : W1.alloc (.cells #[.int .i64 h] 3) = W2 at *
  have z1 : W1.heap.size = w.heap.size + 1 := by rw [← hW1]; exact World.size_alloc _ _
  exact ⟨w.heap.size, w.heap.size + 1, rfl, B1.on b2, by rw [← z1]; exact B2, Nat.le_refl _, by omega, on_below b1 b2⟩
theorem allB_mkP (p : Option Addr) (h : Int) (w : World) : Calls Tryz.prog 19 #[.pointer p, .int .i64 h] w fun r w' => ∃ gd gh, r = .returned (.func (.func 53) #[] #[.pointer (some ⟨gd, 0, none⟩), .pointer (some ⟨gh, 0, none⟩)]) ∧
    Blk w' gd 26 [.pointer p] ∧ Blk w' gh 3 [.int .i64 h] ∧ w.heap.size ≤ gd ∧ w.heap.size ≤ gh ∧ Below w.heap.size w w' := by
  go_enter Tryz.func19, Tryz.ntmps19
  go_wp2
  go_ret
  have b1 : Below w.heap.size w (w.alloc (.cells #[.pointer p] 26)) := (Below.refl _ _).alloc (Nat.le_refl _) _
  have B1 : Blk (w.alloc (.cells #[.pointer p] 26)) w.heap.size 26 [.pointer p] := Blk.made _ _ _
  generalize hW1 : w.alloc (.cells #[.pointer p] 26) = W1 at *
  have s1 := b1.size
  have b2 : Below W1.heap.size W1 (W1.alloc (.cells #[.int .i64 h] 3)) := (Below.refl _ _).alloc (Nat.le_refl _) _
  have B2 : Blk (W1.alloc (.cells #[.int .i64 h] 3)) W1.heap.size 3 [.int .i64 h] := Blk.made _ _ _
  generalize hW2 : W1.alloc (.cells #[.int .i64 h] 3) = W2 at *
  have z1 : W1.heap.size = w.heap.size + 1 := by rw [← hW1]; exact World.size_alloc _ _
  exact ⟨w.heap.size, w.heap.size + 1, rfl, B1.on b2, by rw [← z1]; exact B2, Nat.le_refl _, by omega, on_below b1 b2⟩
/-- A function that hands out nothing. -/
def EmpF (n : Nat) (g : Nat) (lb : Array Value) (w : World) : Prop := ∀ (l : Nat) (W : World), Below w.heap.size w W → CallsIn Fence.wide n Tryz.prog g (#[.func (.yield l) #[] #[]] ++ lb) W fun e W' => (∃ v, e = .returned v) ∧ Below W.heap.size W W'
theorem EmpF.toM {n g : Nat} {lb : Array Value} {w : World} (h : EmpF n g lb w) (encs : Empty → Array Value) : SeqM Fence.wide n Tryz.prog g lb encs (fun _ _ _ _ => False) (fun _ _ _ => True) (fun ys => ys = []) (fun _ => False) w := by
  intro l J Jx W hW _ hJ _ _ h0
  refine (h l W hW).mono ?_
  rintro e W' ⟨hv, hb⟩
  exact ⟨hv, .inl ⟨[], rfl, hJ _ W W' none h0 ⟨hb.os, hb.tape, hb.output, hb.size, fun i hi _ => hb.block i hi⟩ (fun r e => by cases e)⟩⟩
/-- A range over a function that hands out nothing. -/
theorem rangeE {n : Nat} {g : Operand} {ps : Array Tmp} {assign body : Code} {Q : Exit → Act → World → Prop} {a : Act} {w : World} (h1 : 1 ≤ n) {gf : Nat} {lb : Array Value} (hg : a.eval g = .func (.func gf) #[] lb) (eg : ∀ args w, (callFunc gf args).run Tryz.prog w = .ok (.enter gf args) w)
    (hemp : EmpF (n - 1) gf lb w)
    (hdone : ∀ (D : Nat) (W : World), w.heap.size ≤ D → Below w.heap.size w W → W.heap[D]? = some (.deferred (some [])) → Q .normal { a with defers := { target := .collected D, args := #[] } :: a.defers } W) :
    (Code.rangeFunc g ps assign body).wpIn Fence.wide n Tryz.prog Q a w := by
  refine rangeM rfl h1 (gf := gf) (lb := lb) hg trivial eg (hemp.toM (fun x => nomatch x)) (fun _ _ => trivial) (fun _ _ _ _ _ _ _ _ => trivial) (fun _ _ _ _ => trivial) (fun x => nomatch x) (fun _ x _ => nomatch x)
    (fun _ V => Below w.heap.size w V) (fun _ _ _ => False) (fun _ A C row h hg hr => h.grown hg h.size (fun r e => (hr r e).1)) (fun _ _ _ _ _ h _ _ => h) (Below.refl _ _) (fun x _ => nomatch x) (fun _ _ _ => True) (fun x => nomatch x) (fun _ x => nomatch x) (fun _ _ x => nomatch x) ?_ ?_
  · rintro D xs W hD _ hb hk
    exact hdone D W hD hb hk
  · rintro D c pre W _ h
    exact h.elim
section
variable (p : Option Addr) (w : World) (h : Nob w p)
include h
end

end Go.Proofs.YtpocadbhajacaaaGreatDoor

/-
  A height outside the bundle's: places and All hand out nothing.
-/
namespace Go.Proofs.YtpocadbhajacaaaGreatDoor
open Go.RowKit Go.Shelf
set_option linter.unusedVariables false
set_option linter.unusedSimpArgs false
set_option maxRecDepth 100000

set_option maxHeartbeats 2000000 in
theorem places_bad (p : Option Addr) (gd gh : Nat) (h : Int) (w : World) (he : bnE h 0 ≠ 0) (ht : PT w) (bd : Blk w gd 26 [.pointer p]) (bh : Blk w gh 3 [.int .i64 h]) :
    EmpF 4 82 #[.pointer (some ⟨gh, 0, none⟩), .pointer (some ⟨gd, 0, none⟩)] w := by
  intro l0 W hW
  have HT := hide (ht.below hW)
  have HBD := hide (bd.on hW)
  have HBH := hide (bh.on hW)
  clear ht bd bh hW
  refine callsIn_of_wp_marks Tryz.func82 rfl trivial ?_ rfl
  simp only [Tryz.ntmps82, List.size_toArray, List.length_cons, List.length_nil, Nat.reduceAdd, Nat.reduceSub, Array.replicate_succ, Array.replicate_zero, List.push_toArray, List.append_toArray, List.nil_append, List.cons_append]
  refine wpIn_wide.2 ?_
  go_wp2_with fail
  go_step3
  go_wp2_with fail
  go_step3
  go_wp2_with fail
  have hb1 : Below W.heap.size W (W.alloc (.cells #[.func (.yield l0) #[] #[]] 144)) := (Below.refl _ _).alloc (Nat.le_refl _) _
  have HB1 := hide hb1
  clear hb1
  generalize W.alloc (.cells #[.func (.yield l0) #[] #[]] 144) = W1 at *
  refine (wpIn_wide (n := 4)).1 ?_
  refine wpIn_loop_rounds 1 ?_
  rw [roundsIn_succ]
  have c1 : W1.cell? ⟨gh, 0, none⟩ = some (.int .i64 h) := by rw [(HBH.out.on HB1.out).cell]; rfl
  have HNM := hide (bname_any h 0 W1 (HT.out.below HB1.out))
  have e3 : bnE h 0 = 2 := by (rcases bnE_bin h 0 with k | k; exact absurd k he; exact k)
  rw [e3] at HNM
  generalize bnP h 0 = nm at *
  clear he e3
  gi_wp2_with fail
  refine ⟨trivial, (callsIn_wide.2 HNM.out).mono ?_⟩
  rintro e w2 ⟨rfl, hb2⟩
  have HB2 := hide (on_below HB1.out hb2)
  clear hb2 c1
  gi_wp2
  exact ⟨_, results_none rfl _ _ _, ⟨_, rfl⟩, HB2.out⟩
set_option maxHeartbeats 2000000 in
theorem all_badF (p : Option Addr) (gd gh : Nat) (h : Int) (w : World) (he : bnE h 0 ≠ 0) (ht : PT w) (bd : Blk w gd 26 [.pointer p]) (bh : Blk w gh 3 [.int .i64 h]) :
    EmpF 5 53 #[.pointer (some ⟨gd, 0, none⟩), .pointer (some ⟨gh, 0, none⟩)] w := by
  intro l0 W hW
  have HT := hide (ht.below hW)
  have HBD := hide (bd.on hW)
  have HBH := hide (bh.on hW)
  clear ht bd bh hW
  refine callsIn_of_wp_marks Tryz.func53 rfl trivial ?_ rfl
  simp only [Tryz.ntmps53, List.size_toArray, List.length_cons, List.length_nil, Nat.reduceAdd, Nat.reduceSub, Array.replicate_succ, Array.replicate_zero, List.push_toArray, List.append_toArray, List.nil_append, List.cons_append]
  refine wpIn_wide.2 ?_
  have C9 : Blk (W.alloc (.cells #[.slice none 0 0] 59)) W.heap.size 59 [.slice none 0 0] := Blk.made W 59 [.slice none 0 0]
  have hb1 : Below W.heap.size W (W.alloc (.cells #[.slice none 0 0] 59)) := (Below.refl _ _).alloc (Nat.le_refl _) _
  have HB1 := hide hb1
  have HC9 := hide C9
  clear hb1 C9
  have c1 : (W.alloc (.cells #[.slice none 0 0] 59)).cell? ⟨gh, 0, none⟩ = some (.int .i64 h) := by rw [(HBH.out.on HB1.out).cell]; rfl
  have c2 : (W.alloc (.cells #[.slice none 0 0] 59)).cell? ⟨gd, 0, none⟩ = some (.pointer p) := by rw [(HBD.out.on HB1.out).cell]; rfl
  go_wp2_with fail
  obtain ⟨b9, hb9⟩ : ∃ b9, W.heap.size = b9 := ⟨_, rfl⟩
  have hb90 : W.heap.size ≤ b9 := by omega
  generalize W.alloc (.cells #[.slice none 0 0] 59) = W1 at *
  rw [hb9] at HC9
  simp only [hb9]
  refine (placesB_mkP _ _ _).mono ?_
  rintro e w3 ⟨ed, eh, rfl, BD, BH, _, _, hb3⟩
  have HB3 := hide (on_below HB1.out hb3)
  have HC3 := hide (HC9.out.on hb3)
  have HEM := hide (places_bad p ed eh h w3 he (HT.out.below HB3.out) BD BH)
  have hs3 : W.heap.size ≤ w3.heap.size := HB3.out.size
  clear hb3 c1 c2 BD BH HB1 HC9
  go_wp2_with fail
  refine (wpIn_wide (n := 5)).1 ?_
  refine rangeE (by decide) (gf := 82) (lb := #[.pointer (some ⟨eh, 0, none⟩), .pointer (some ⟨ed, 0, none⟩)]) rfl (enters_of Tryz.func82 (by kernel_rfl) rfl) HEM.out ?_
  rintro D V hD hb hk
  have HB4 := hide (on_below HB3.out hb)
  have hc4 : V.cell? ⟨b9, 0, none⟩ = some (.slice none 0 0) := by rw [(HC3.out.on hb).cell]; rfl
  have HK := hide hk
  clear hb hk hb9
  go_wp2_with fail
  try simp only [Act.put]
  refine wp_loop_rounds 1 ?_
  rw [rounds_succ]
  go_wp2
  exact (leaves_marks (B := W.heap.size) (J := fun V => Below W.heap.size W V) (fun V D h hB hD => h.trans (belowK_b (w := W) (Nat.le_refl _) _ D _ (.deferred none) hB hD rfl rfl)) (fun V h => ⟨_, results_none rfl _ _ _, ⟨_, rfl⟩, h⟩) [D] V (by simp) (fun E hE => by simp at hE; omega) (fun E hE => by simp at hE; subst hE; exact HK.out) HB4.out)

end Go.Proofs.YtpocadbhajacaaaGreatDoor
