/-
  Add.
-/
import Derived.Test.YtabpfbankinojaaDgi
import Derived.Test.YtabpfbankinojaaDgk
import Derived.Test.YtabpfbankinojaaDgm
import Derived.Test.YtabpfbankinojaaDgx
import Derived.Deep.Cut
namespace Go.Proofs.Ytabpfbankinojaa
open Go.RowKit
set_option linter.unusedVariables false
set_option linter.unusedSimpArgs false
set_option maxRecDepth 100000

/-- An index in memory. -/
structure IxA (w : World) (g : Nat) (v : Value) (us : List Value) (rs : List (List Ent)) : Prop where
  hd : PI w g true v
  rv : RunsV w v us rs
  ok : RsOk rs
theorem IxA.on {w w' : World} {g : Nat} {v : Value} {us : List Value} {rs : List (List Ent)} (h : IxA w g v us rs) (hb : Below w.heap.size w w') : IxA w' g v us rs := ⟨Blk.on h.hd hb, h.rv.on hb, h.ok⟩
theorem IxA.lt {w : World} {g : Nat} {v : Value} {us : List Value} {rs : List (List Ent)} (h : IxA w g v us rs) : g < w.heap.size := Blk.lt h.hd
/-- Only block g has turned, and what is new. -/
structure OnlyB (g : Nat) (w w' : World) : Prop where
  os : w'.os = w.os
  tape : w'.tape = w.tape
  output : w'.output = w.output
  size : w.heap.size ≤ w'.heap.size
  block : ∀ k, k < w.heap.size → k ≠ g → w'.heap[k]? = w.heap[k]?
theorem OnlyB.of_below {g : Nat} {w w' : World} (h : Below w.heap.size w w') : OnlyB g w w' := ⟨h.os, h.tape, h.output, h.size, fun k hk _ => h.block k hk⟩
theorem OnlyB.but {g : Nat} {a b c : World} (h : Below a.heap.size a b) (k : But g b c) : OnlyB g a c :=
  ⟨k.os.trans h.os, k.tape.trans h.tape, k.output.trans h.output, by rw [k.size]; exact h.size, fun i hi hg => (k.block i hg).trans (h.block i hi)⟩
theorem OnlyB.below {g B : Nat} {w w' : World} (h : OnlyB g w w') (hB : B ≤ g) (hs : B ≤ w.heap.size) : Below B w w' := ⟨h.os, h.tape, h.output, h.size, fun k hk => h.block k (by omega) (by omega)⟩
theorem OnlyB.trans {g : Nat} {a b c : World} (h : OnlyB g a b) (k : OnlyB g b c) : OnlyB g a c :=
  ⟨k.os.trans h.os, k.tape.trans h.tape, k.output.trans h.output, Nat.le_trans h.size k.size, fun i hi hg => (k.block i (Nat.lt_of_lt_of_le hi h.size) hg).trans (h.block i hi hg)⟩
theorem Blk.only {g k : Nat} {w w' : World} {t : TypeId} {cs : List Value} (h : Blk w k t cs) (hb : OnlyB g w w') (hk : k ≠ g) : Blk w' k t cs := by
  unfold Blk; rw [hb.block k h.lt hk]; exact h
theorem OnlyB.kr {g : Nat} {w w' : World} {v : Value} {t u : TypeId} (h : OnlyB g w w') (hg : PI w g true v) (ht : 42 ≠ t) (hu : 42 ≠ u) : KR t u w w' :=
  ⟨h.size, fun k s cs hs hk => hk.only h (fun e => by
    subst e
    rw [Blk, show w.heap[k]? = _ from hg] at hk
    injection hk with hk
    injection hk with _ h2 _
    rcases hs with rfl | rfl
    · exact ht h2
    · exact hu h2)⟩
/-- The new runs stand. -/
theorem RunsV.new {W : World} {v v2 u : Value} {us : List Value} {rs : List (List Ent)} {k : Nat} {r : List Ent} {B : Nat} (h : RunsV W v us rs) (hk : k ≤ rs.length) (hr : Rn W u r)
    (hrow : W.ownsRow B 59 1 v2 (k + 1) (us.take (k * 1) ++ [u])) : RunsV W v2 (us.take k ++ [u]) (rs.take k ++ [r]) := by
  have hl := h.len
  refine ⟨?_, fun i hi => ?_⟩
  · have := Vw.of_row hrow
    rw [Nat.mul_one] at this
    rw [List.length_append, List.length_singleton, List.length_take, Nat.min_eq_left hk]
    exact this
  · rw [List.length_append, List.length_singleton, List.length_take, Nat.min_eq_left hk] at hi
    by_cases e : i < k
    · have := h.rn i (by omega)
      simp only [List.getD_eq_getElem?_getD] at this ⊢
      rw [List.getElem?_append_left (by rw [List.length_take]; omega), List.getElem?_append_left (by rw [List.length_take]; omega), List.getElem?_take, List.getElem?_take, if_pos e, if_pos e]
      exact this
    · obtain rfl : i = k := by omega
      simp only [List.getD_eq_getElem?_getD]
      have e1 : (us.take i).length = i := by rw [List.length_take]; omega
      have e2 : (rs.take i).length = i := by rw [List.length_take]; omega
      rw [List.getElem?_append_right (by omega), List.getElem?_append_right (by omega), e1, e2, Nat.sub_self]
      exact hr
theorem add_neg (g0 : Nat) (v : Value) (us : List Value) (rs : List (List Ent)) (d : List Int) (q : Int) (w : World) (h : IxA w g0 v us rs) (hq : q < 0) :
    Calls Try.prog 10 #[.pointer (some ⟨g0, 0, none⟩), .agg (u8s d).toArray, .int .i64 q] w fun e w' => e = .returned (.int .i64 2) ∧ Below w.heap.size w w' := by
  have HH := hide h.hd
  clear h
  go_enter Try.func10, Try.ntmps10
  go_wp2_with (refine step_box (cs := u8s d) rfl rfl ?_)
  intro w1 b3 hb3 hle3 hbb3
  have H1 := hide (made_at g0 true v w1 (Blk.on HH.out hbb3))
  clear hb3
  go_wp2_with (go_at_call 18; refine H1.out.mono ?_; rintro r w' ⟨rfl, hw'⟩; subst w')
  go_ret
  exact ⟨rfl, hbb3⟩
set_option maxHeartbeats 1000000 in
theorem add_there (g0 : Nat) (v : Value) (us : List Value) (rs : List (List Ent)) (d : List Int) (q : Int) (w : World) (h : IxA w g0 v us rs) (hl : d.length = 32) (hb : isB d) (hc : cnt rs < 4398046511104) (hq : 0 ≤ q) {p : Int} (hf : fnd rs d = some p) :
    Calls Try.prog 10 #[.pointer (some ⟨g0, 0, none⟩), .agg (u8s d).toArray, .int .i64 q] w fun e w' => e = .returned (.int .i64 120) ∧ Below w.heap.size w w' := by
  have HF := hide hf
  have hq' : ¬ q < 0 := by omega
  clear hf hq
  have HI := hide h
  have HL := hide hl
  have HB := hide hb
  have HC := hide hc
  have hfew := h.ok.few (by omega)
  have h64 : rs.length ≤ 1048576 := by omega
  clear h hl hb hfew
  go_enter Try.func10, Try.ntmps10
  go_wp2_with (refine step_box (cs := u8s d) rfl rfl ?_)
  intro w1 b3 hb3 hle3 hbb3
  have H3 := hide hb3
  have B1 := hide hbb3
  have I1 := hide (HI.out.on hbb3)
  have H1 := hide (made_at g0 true v w1 I1.out.hd)
  clear hb3 hbb3
  go_wp2_with (first | (go_at_call 18; refine H1.out.mono ?_; rintro r w' ⟨rfl, hw'⟩; subst w') | (refine step_loadA wideD rfl rfl H3.out (by rw [u8s_length, HL.out]) ?_))
  refine (find_any g0 v us rs d w1 I1.out.hd I1.out.rv I1.out.ok.sk HL.out HB.out (fun r hr => by have := cnt_le hr; have := HC.out; omega) h64).mono ?_
  rintro e w2 ⟨rfl, hb2⟩
  have B2 := hide (on_below B1.out hb2)
  have I2 := hide (I1.out.on hb2)
  have H32 := hide (H3.out.on hb2)
  clear hb2 H1 I1 H3
  unfold fO
  rw [HF.out]
  simp only [Option.getD_some, Option.isSome_some]
  go_wp2
  go_ret
  exact ⟨rfl, B2.out⟩
set_option maxHeartbeats 2000000 in
theorem add_ok (g0 : Nat) (v : Value) (us : List Value) (rs : List (List Ent)) (x : Ent) (w : World) (h : IxA w g0 v us rs) (hc : cnt rs < 4398046511104) (hq : 0 ≤ x.p) (hf : fnd rs x.d = none) :
    Calls Try.prog 10 #[.pointer (some ⟨g0, 0, none⟩), .agg (u8s x.d).toArray, .int .i64 x.p] w fun e w' => e = .returned (.int .i64 0) ∧ OnlyB g0 w w' ∧ ∃ v' us', IxA w' g0 v' us' (addR rs x) := by
  have HF := hide hf
  have HOK := hide (h.ok.add hf)
  have hq' : ¬ x.p < 0 := by omega
  have hl := x.hl
  have hb := x.hb
  have HA0 := hide (AR.start hf)
  clear hf hq
  obtain ⟨d, hd⟩ : ∃ d, x.d = d := ⟨_, rfl⟩
  have HDX := hide hd
  rw [hd] at hl hb HF
  rw [hd]
  clear hd
  have HI := hide h
  have HL := hide hl
  have HB := hide hb
  have HC := hide hc
  have hfew := h.ok.few (by omega)
  have h64 : rs.length ≤ 1048576 := by omega
  clear h hl hb hfew
  go_enter Try.func10, Try.ntmps10
  go_wp2_with (refine step_box (cs := u8s d) rfl rfl ?_)
  intro w1 b3 hb3 hle3 hbb3
  have H3 := hide hb3
  have B1 := hide hbb3
  have I1 := hide (HI.out.on hbb3)
  have H1 := hide (made_at g0 true v w1 I1.out.hd)
  clear hb3 hbb3
  go_wp2_with (first | (go_at_call 18; refine H1.out.mono ?_; rintro r w' ⟨rfl, hw'⟩; subst w') | (refine step_loadA wideD rfl rfl H3.out (by rw [u8s_length, HL.out]) ?_))
  refine (find_any g0 v us rs d w1 I1.out.hd I1.out.rv I1.out.ok.sk HL.out HB.out (fun r hr => by have := cnt_le hr; have := HC.out; omega) h64).mono ?_
  rintro e w2 ⟨rfl, hb2⟩
  have B2 := hide (on_below B1.out hb2)
  have I2 := hide (I1.out.on hb2)
  have H32 := hide (H3.out.on hb2)
  clear hb2 H1 I1 H3
  unfold fO
  rw [HF.out]
  simp only [Option.getD_none, Option.isSome_none]
  obtain ⟨av, cv, rfl⟩ := I2.out.rv.slice
  obtain ⟨n, hnn⟩ : ∃ n, rs.length = n := ⟨_, rfl⟩
  have hc2 : w2.cell? ⟨g0, 1, none⟩ = some (.slice av n cv) := by rw [Blk.cell I2.out.hd, ← hnn]; rfl
  rw [hnn] at HA0 h64
  go_wp2_with (first | (refine step_loadA wideD rfl rfl H32.out (by rw [u8s_length, HL.out]) ?_) | (refine step_ent recP x rfl (by rw [HDX.out]; rfl) rfl ?_) | (refine step_oneV roP (vs := pc x) rfl rfl rfl (pc_len x) ?_))
  intro w3 gr hv3 hg3 hb3 _
  have R3 : Hid (Rn w3 (.slice (some ⟨gr, 0, none⟩) 1 1) [x]) := hide (by unfold Rn; rw [pcs_single]; exact hv3)
  have B3 := hide (on_below B2.out hb3)
  have I3 := hide (I2.out.on hb3)
  clear hv3 hb3 hc2 H32 I2 hg3
  have hc3 : w3.cell? ⟨g0, 1, none⟩ = some (.slice av n cv) := by rw [Blk.cell I3.out.hd, ← hnn]; rfl
  go_wp2_with fail
  try simp only [Act.put]
  have HM1 : Hid (([x] : List Ent).length = 1) := hide rfl
  go_loopw [9, 10] (fun s9 s10 wr => ∃ (kp m c : Nat) (a : Option Addr) (r : List Ent), s9 = .slice a m c ∧ s10 = .int .i64 kp ∧ kp ≤ n ∧ Hid (r.length = m) ∧ Hid (Rn wr (.slice a m c) r) ∧ Hid (AR rs x kp r) ∧ Hid (Below w3.heap.size w3 wr)) (fun _ s10 _ => (intOf s10).toNat)
  case atStart => exact ⟨n, 1, 1, some ⟨gr, 0, none⟩, [x], rfl, rfl, Nat.le_refl _, HM1, R3, HA0, hide (Below.refl _ _)⟩
  case round =>
    obtain ⟨kp, m, c, a, r, rfl, rfl, hkp, HM, HR, HA, HW⟩ := hrel
    have I4 := hide (I3.out.on HW.out)
    have BW := hide (on_below B3.out HW.out)
    have hc4 : wr.cell? ⟨g0, 1, none⟩ = some (.slice av n cv) := by rw [Blk.cell I4.out.hd, ← hnn]; rfl
    have hm9 : m ≤ 4398046511104 := by have := HA.out.ln; have := HM.out; omega
    have hkr : kp ≤ rs.length := by omega
    by_cases h0 : 0 < kp
    · obtain ⟨k, hk⟩ : ∃ k, kp = k + 1 := ⟨kp - 1, by omega⟩
      have hk1 : (kp : Int) - 1 = (k : Int) := by omega
      have hkr2 : k < rs.length := by omega
      have h0' : 0 < (kp : Int) := by omega
      obtain ⟨g, o, hix, hce⟩ := I4.out.rv.at hkr2
      rw [hnn, ← hk1] at hix
      have hcu := hce wr I4.out.rv.vw
      obtain ⟨a5, c5, hu⟩ := I4.out.rv.at' hkr2
      obtain ⟨q, hq⟩ : ∃ q, rs.getD k [] = q := ⟨_, rfl⟩
      have hrn := I4.out.rv.rn k hkr2
      rw [hu] at hcu hrn
      rw [hq] at hcu hrn
      obtain ⟨mq, hmq⟩ : ∃ mq, q.length = mq := ⟨_, rfl⟩
      rw [hmq] at hcu hrn
      have HRQ := hide hrn
      have HQ := hide hq
      have HMQ := hide hmq
      have HK := hide hk
      clear hu hrn hq hmq hce hk hk1
      by_cases he : mq = m
      · have he' : ((mq : Int) == (m : Int)) = true := by rw [he]; exact beq_self_eq_true _
        have HA2 : Hid (AR rs x k (srtK kE (q ++ r))) := hide (by
          have := HA.out
          rw [HK.out] at this
          rw [← HQ.out]
          exact this.step I4.out.ok (by rw [HQ.out, HMQ.out, HM.out, he]))
        have hin : q ∈ rs.take kp := by
          rw [HK.out, take_last hkr2, HQ.out]
          simp
        have hin2 : q ∈ rs := (List.take_sublist _ _).subset hin
        have HME := hide (merged_any (.slice a5 mq c5) (.slice a m c) q r wr HRQ.out HR.out (I4.out.ok.sk q hin2) HA.out.sk (fun y hy z hz e => HA.out.un q hin z hz y hy e.symm) (by
          have h1 := HA2.out.ln
          rw [srtK_len, List.length_append] at h1
          omega))
        clear hin hin2 he
        go_wp2_with fail
        refine HME.out.mono ?_
        rintro e w5 ⟨u5, rfl, hr5, hb5⟩
        obtain ⟨a6, c6, rfl⟩ := hr5.slice
        have HR5 := hide hr5
        have HW5 := hide (on_below HW.out hb5)
        clear hr5 hb5 hc4 hcu HME
        go_wp2
        refine ⟨⟨k, _, c6, a6, _, rfl, ?_, ?_, hide rfl, HR5, HA2, HW5⟩, ?_⟩
        · have := HK.out
          congr 1
          omega
        · have := HK.out
          omega
        · have := HK.out
          simp [intOf]
          omega
      · have he' : ((mq : Int) == (m : Int)) = false := by rw [beq_eq_false_iff_ne]; omega
        have HFI : Hid (addR rs x = rs.take kp ++ [r]) := hide (HA.out.fin (.inr (by rw [HK.out, Nat.add_sub_cancel, HQ.out, HMQ.out, HM.out]; exact he)))
        clear he
        obtain ⟨v1, hsl, hv1⟩ := I4.out.rv.vw.to roR hkr
        rw [hnn] at hsl
        obtain ⟨a1, c1, rfl⟩ := (hv1 wr I4.out.rv.vw).slice
        have HV1 := hide (hv1 wr I4.out.rv.vw)
        clear hv1
        go_upto_region 13 with fail
        go_wp2_with (refine step_oneV roR (vs := [.slice a m c]) rfl rfl rfl rfl ?_)
        intro w5 g5 hv5 hg5 hb5 _
        have HV5 := hide hv5
        have HB5 := hide hb5
        clear hv5 hb5 hc4
        go_wp2_with fail
        have C9 : Blk (w5.alloc (.cells #[.slice a1 kp c1, .slice (some ⟨g5, 0, none⟩) 1 1] 40)) w5.heap.size 40 [.slice a1 kp c1, .slice (some ⟨g5, 0, none⟩) 1 1] := Blk.made w5 _ _
        have hb9 : Below w5.heap.size w5 (w5.alloc (.cells #[.slice a1 kp c1, .slice (some ⟨g5, 0, none⟩) 1 1] 40)) := (Below.refl _ _).alloc (Nat.le_refl _) _
        have HB9 := hide (on_below HB5.out hb9)
        have HV9 := hide (Vw.on HV5.out hb9)
        have HC9 := hide C9
        clear C9 hb9
        revert HB9 HV9 HC9
        generalize w5.alloc (.cells #[.slice a1 kp c1, .slice (some ⟨g5, 0, none⟩) 1 1] 40) = w6
        generalize w5.heap.size = g6
        intro HB9 HV9 HC9
        refine (concatK_any g6 kp 1 _ _ _ _ w6 HC9.out (HV1.out.on HB9.out) HV9.out (fun y hy => I4.out.rv.one y ((List.take_sublist _ _).subset hy)) (fun y hy => by simp at hy; subst hy; rfl) (by omega) (by omega)).mono ?_
        rintro e w7 ⟨v7, rfl, hrow, hb7⟩
        obtain ⟨a7, c7, rfl⟩ := row_slice hrow
        have HB7 := hide (on_below HB9.out hb7)
        have I7 := hide (I4.out.on HB7.out)
        have HR7 := hide (HR.out.on HB7.out)
        have HRW := hide hrow
        have hc7 : w7.cell? ⟨g0, 1, none⟩ = some (.slice av n cv) := by rw [Blk.cell I7.out.hd, ← hnn]; rfl
        have hf7 : w7.frozen? ⟨g0, 1, none⟩ = false := Blk.free I7.out.hd 1
        clear hrow hb7
        go_wp2
        go_ret
        have hbut := But.setCell w7 g0 1 (.slice a7 (kp + 1) c7)
        have hKR : KR 59 58 w7 (w7.setCell ⟨g0, 1, none⟩ (.slice a7 (kp + 1) c7)) := KR.but hbut I7.out.hd (by decide) (by decide)
        refine ⟨rfl, OnlyB.but (on_below BW.out HB7.out) hbut, .slice a7 (kp + 1) c7, us.take kp ++ [.slice a m c], ?_⟩
        rw [HFI.out]
        refine ⟨Blk.set I7.out.hd 1 _, (I7.out.rv.new hkr HR7.out HRW.out).kr hKR, ?_⟩
        rw [← HFI.out]
        exact HOK.out
    · have HFI : Hid (addR rs x = rs.take kp ++ [r]) := hide (HA.out.fin (.inl (by omega)))
      have h0' : ¬ 0 < (kp : Int) := by omega
      clear h0
      obtain ⟨v1, hsl, hv1⟩ := I4.out.rv.vw.to roR hkr
      rw [hnn] at hsl
      obtain ⟨a1, c1, rfl⟩ := (hv1 wr I4.out.rv.vw).slice
      have HV1 := hide (hv1 wr I4.out.rv.vw)
      clear hv1
      go_upto_region 13 with fail
      go_wp2_with (refine step_oneV roR (vs := [.slice a m c]) rfl rfl rfl rfl ?_)
      intro w5 g5 hv5 hg5 hb5 _
      have HV5 := hide hv5
      have HB5 := hide hb5
      clear hv5 hb5 hc4
      go_wp2_with fail
      have C9 : Blk (w5.alloc (.cells #[.slice a1 kp c1, .slice (some ⟨g5, 0, none⟩) 1 1] 40)) w5.heap.size 40 [.slice a1 kp c1, .slice (some ⟨g5, 0, none⟩) 1 1] := Blk.made w5 _ _
      have hb9 : Below w5.heap.size w5 (w5.alloc (.cells #[.slice a1 kp c1, .slice (some ⟨g5, 0, none⟩) 1 1] 40)) := (Below.refl _ _).alloc (Nat.le_refl _) _
      have HB9 := hide (on_below HB5.out hb9)
      have HV9 := hide (Vw.on HV5.out hb9)
      have HC9 := hide C9
      clear C9 hb9
      revert HB9 HV9 HC9
      generalize w5.alloc (.cells #[.slice a1 kp c1, .slice (some ⟨g5, 0, none⟩) 1 1] 40) = w6
      generalize w5.heap.size = g6
      intro HB9 HV9 HC9
      refine (concatK_any g6 kp 1 _ _ _ _ w6 HC9.out (HV1.out.on HB9.out) HV9.out (fun y hy => I4.out.rv.one y ((List.take_sublist _ _).subset hy)) (fun y hy => by simp at hy; subst hy; rfl) (by omega) (by omega)).mono ?_
      rintro e w7 ⟨v7, rfl, hrow, hb7⟩
      obtain ⟨a7, c7, rfl⟩ := row_slice hrow
      have HB7 := hide (on_below HB9.out hb7)
      have I7 := hide (I4.out.on HB7.out)
      have HR7 := hide (HR.out.on HB7.out)
      have HRW := hide hrow
      have hc7 : w7.cell? ⟨g0, 1, none⟩ = some (.slice av n cv) := by rw [Blk.cell I7.out.hd, ← hnn]; rfl
      have hf7 : w7.frozen? ⟨g0, 1, none⟩ = false := Blk.free I7.out.hd 1
      clear hrow hb7
      go_wp2
      go_ret
      have hbut := But.setCell w7 g0 1 (.slice a7 (kp + 1) c7)
      have hKR : KR 59 58 w7 (w7.setCell ⟨g0, 1, none⟩ (.slice a7 (kp + 1) c7)) := KR.but hbut I7.out.hd (by decide) (by decide)
      refine ⟨rfl, OnlyB.but (on_below BW.out HB7.out) hbut, .slice a7 (kp + 1) c7, us.take kp ++ [.slice a m c], ?_⟩
      rw [HFI.out]
      refine ⟨Blk.set I7.out.hd 1 _, (I7.out.rv.new hkr HR7.out HRW.out).kr hKR, ?_⟩
      rw [← HFI.out]
      exact HOK.out

end Go.Proofs.Ytabpfbankinojaa
