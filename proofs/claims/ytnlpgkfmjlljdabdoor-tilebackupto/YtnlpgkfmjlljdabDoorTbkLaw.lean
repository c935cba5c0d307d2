/-
  The walk of TileBack.
-/
import Derived.Test.YtnlpgkfmjlljdabDoorTpd
import Derived.Deep.Cut
namespace Go.Proofs.YtnlpgkfmjlljdabDoor
open Go.RowKit
set_option linter.unusedVariables false
set_option linter.unusedSimpArgs false

theorem pU_len {h l i n : Nat} (hh : h ≤ 8) (hl : l ≤ 48) (hn : n ≤ 256) : (pU h l i n).length ≤ 1048576 := by
  have a := dec_len h (by omega)
  have b := dec_len l (by omega)
  have c := dec_len n (by omega)
  have d := ixP_len i
  unfold pU nmU
  split <;> simp only [List.length_append, tileB, markB, List.length_cons, List.length_nil] <;> omega
theorem pathI_len {h l i n : Int} (k : tOK h l i n) : (pathI h l i n).length ≤ 1048576 := by
  obtain ⟨H, L, I, N, rfl, rfl, rfl, rfl, hH, h1, h2, h3, h4⟩ := k.nats
  have := hH.pow
  unfold pathI
  simp only [Int.toNat_natCast]
  exact pU_len hH.2 h1 (by omega)
set_option maxRecDepth 100000 in
set_option maxHeartbeats 2000000 in
theorem tileBack_walk (h l i n : Int) (s : ByteArray) (w : World) (hl : l ≤ 9223372036854775807) (hi : i ≤ 9223372036854775807) (hs : s.size ≤ 1048576) (hv : EV w) :
    Calls Tryd.prog 3 #[.agg #[.int .i64 h, .int .i64 l, .int .i64 i, .int .i64 n], .string s] w fun e w' => e = .returned (.bool true) ∧ Below w.heap.size w w' := by
  obtain ⟨q, rfl⟩ : ∃ q, s = bA q := ⟨strL s, (bA_strL s).symm⟩
  rw [bA_size] at hs
  obtain ⟨y1, y2, y3, y4, ye, hy, hyc⟩ := parse_any q hs
  have HPs := hide hyc
  obtain ⟨p, e, hp, hc⟩ := path_any h l i n hl hi
  have HPt := hide hc
  obtain ⟨vb, hvb, hvc⟩ := validT_any h l i n hl hi
  have HVd := hide hvc
  have HV := hide hv
  clear hyc hc hvc hv
  rcases hp with ⟨rfl, k, rfl⟩ | ⟨rfl, k, rfl⟩
  · obtain rfl : vb = true := hvb.2 k
    obtain ⟨x1, x2, x3, x4, xe, hx, hxc⟩ := parse_any (pathI h l i n) (pathI_len k)
    obtain ⟨rfl, rfl, rfl, rfl, rfl⟩ := hx.uniq (.inl ⟨rfl, k, rfl⟩)
    have HPp := hide hxc
    generalize pathI x1 x2 x3 x4 = p at *
    clear hx hxc k hvb
    go_enter Tryd.func3, Tryd.ntmps3
    go_wp2_with (first | (refine step_box (cs := c4 x1 x2 x3 x4) rfl rfl ?_; intro w1 g1 hg1 hle1 hb1; have HG1 := hide hg1; have HB1 := hide hb1; clear hg1 hb1 hle1) | (refine step_loadA wT rfl rfl HG1.out rfl ?_))
    refine (HPt.out _ (HV.out.below HB1.out).pt).mono ?_
    rintro r w2 ⟨rfl, hb2⟩
    have HG2 := hide (HG1.out.on hb2)
    have HB2 := hide (on_below HB1.out hb2)
    clear HG1 HB1 hb2 HPt
    go_wp2_with (refine step_loadA wT rfl rfl HG2.out rfl ?_)
    refine (HVd.out _).mono ?_
    rintro r w3 ⟨rfl, hb3⟩
    have HG3 := hide (HG2.out.on hb3)
    have HB3 := hide (on_below HB2.out hb3)
    clear HG2 HB2 hb3 HVd
    go_wp2_with fail
    refine (HPp.out _ (HV.out.below HB3.out)).mono ?_
    rintro r w4 ⟨rfl, hb4⟩
    have HG4 := hide (HG3.out.on hb4)
    have HB4 := hide (on_below HB3.out hb4)
    clear HG3 HB3 hb4 HPp
    go_wp2_with (first | (refine step_alloc zT rfl ?_; intro wa ga hga hlea hba; have HGA := hide hga; clear hga) | (refine step_storeA wT rfl rfl rfl HGA.out rfl (One.c4 x1 x2 x3 x4) rfl ?_))
    intro wb hgb hbutb
    have hbb : Below w4.heap.size w4 wb := hba.trans (hbutb.below hlea)
    obtain ⟨t0, t1, t2, t3⟩ := hgb.four
    obtain ⟨u0, u1, u2, u3⟩ := (HG4.out.on hbb).four
    have Bb := hide (on_below HB4.out hbb)
    clear hbb hba hbutb hlea HGA hgb HG4 HB4
    go_upto_region 8 with fail
    clear t0 t1 t2 t3 u0 u1 u2 u3
    go_wp2_with fail
    refine (HPs.out _ (HV.out.below Bb.out)).mono ?_
    rintro r w5 ⟨rfl, hb5⟩
    have B5 := hide (on_below Bb.out hb5)
    clear hb5 Bb HPs
    go_wp2_with (first | (refine step_alloc zT rfl ?_; intro we ge hge hlee hbe; have HGE := hide hge; clear hge) | (refine step_storeA wT rfl rfl rfl HGE.out rfl (One.c4 y1 y2 y3 y4) rfl ?_))
    intro wf hgf hbutf
    have hbf : Below w5.heap.size w5 wf := hbe.trans (hbutf.below hlee)
    have Gf := hide hgf
    have Bf := hide (on_below B5.out hbf)
    clear hbf hbe hbutf hlee HGE hgf B5
    rcases hy with ⟨rfl, ky, hye⟩ | ⟨rfl, rfl, rfl, rfl, rfl, _⟩
    · obtain ⟨z, ze, hz, hzc⟩ := path_any y1 y2 y3 y4 (by obtain ⟨_, L, _, _, _, e, _, _, _, hL, _⟩ := ky.nats; omega) (by obtain ⟨_, _, I, _, _, _, e, _, _, _, hI, _⟩ := ky.nats; omega)
      obtain ⟨rfl, rfl⟩ : ze = 0 ∧ z = q := by
        rcases hz with ⟨a1, _, a3⟩ | ⟨_, a2, _⟩
        · exact ⟨a1, a3.trans hye⟩
        · exact absurd ky a2
      have HPy := hide hzc
      clear hz hzc hye ky
      go_wp2_with (refine step_loadA wT rfl rfl Gf.out rfl ?_)
      refine (HPy.out _ (HV.out.below Bf.out).pt).mono ?_
      rintro r w6 ⟨rfl, hb6⟩
      have B6 := hide (on_below Bf.out hb6)
      clear hb6 Bf Gf HPy HV
      go_wp2_with (refine step_eqL (p := z) (q := z) true (by simp) rfl rfl rfl ?_)
      go_ret
      exact ⟨rfl, B6.out⟩
    · obtain ⟨t0, t1, t2, t3⟩ := Gf.out.four
      go_wp2
      go_ret
      exact ⟨rfl, Bf.out⟩
  · obtain rfl : vb = false := by
      cases vb with
      | false => rfl
      | true => exact absurd (hvb.1 rfl) k
    clear k hvb
    go_enter Tryd.func3, Tryd.ntmps3
    go_wp2_with (first | (refine step_box (cs := c4 h l i n) rfl rfl ?_; intro w1 g1 hg1 hle1 hb1; have HG1 := hide hg1; have HB1 := hide hb1; clear hg1 hb1 hle1) | (refine step_loadA wT rfl rfl HG1.out rfl ?_))
    refine (HPt.out _ (HV.out.below HB1.out).pt).mono ?_
    rintro r w2 ⟨rfl, hb2⟩
    have HG2 := hide (HG1.out.on hb2)
    have HB2 := hide (on_below HB1.out hb2)
    clear HG1 HB1 hb2 HPt
    go_wp2_with (refine step_loadA wT rfl rfl HG2.out rfl ?_)
    refine (HVd.out _).mono ?_
    rintro r w3 ⟨rfl, hb3⟩
    have HB3 := hide (on_below HB2.out hb3)
    clear HG2 HB2 hb3 HVd
    go_upto_region 8 with fail
    go_wp2_with fail
    refine (HPs.out _ (HV.out.below HB3.out)).mono ?_
    rintro r w5 ⟨rfl, hb5⟩
    have B5 := hide (on_below HB3.out hb5)
    clear hb5 HB3 HPs
    go_wp2_with (first | (refine step_alloc zT rfl ?_; intro we ge hge hlee hbe; have HGE := hide hge; clear hge) | (refine step_storeA wT rfl rfl rfl HGE.out rfl (One.c4 y1 y2 y3 y4) rfl ?_))
    intro wf hgf hbutf
    have hbf : Below w5.heap.size w5 wf := hbe.trans (hbutf.below hlee)
    have Gf := hide hgf
    have Bf := hide (on_below B5.out hbf)
    clear hbf hbe hbutf hlee HGE hgf B5
    rcases hy with ⟨rfl, ky, hye⟩ | ⟨rfl, rfl, rfl, rfl, rfl, _⟩
    · obtain ⟨z, ze, hz, hzc⟩ := path_any y1 y2 y3 y4 (by obtain ⟨_, L, _, _, _, e, _, _, _, hL, _⟩ := ky.nats; omega) (by obtain ⟨_, _, I, _, _, _, e, _, _, _, hI, _⟩ := ky.nats; omega)
      obtain ⟨rfl, rfl⟩ : ze = 0 ∧ z = q := by
        rcases hz with ⟨a1, _, a3⟩ | ⟨_, a2, _⟩
        · exact ⟨a1, a3.trans hye⟩
        · exact absurd ky a2
      have HPy := hide hzc
      clear hz hzc hye ky
      go_wp2_with (refine step_loadA wT rfl rfl Gf.out rfl ?_)
      refine (HPy.out _ (HV.out.below Bf.out).pt).mono ?_
      rintro r w6 ⟨rfl, hb6⟩
      have B6 := hide (on_below Bf.out hb6)
      clear hb6 Bf Gf HPy HV
      go_wp2_with (refine step_eqL (p := z) (q := z) true (by simp) rfl rfl rfl ?_)
      go_ret
      exact ⟨rfl, B6.out⟩
    · obtain ⟨t0, t1, t2, t3⟩ := Gf.out.four
      go_wp2
      go_ret
      exact ⟨rfl, Bf.out⟩
end Go.Proofs.YtnlpgkfmjlljdabDoor
