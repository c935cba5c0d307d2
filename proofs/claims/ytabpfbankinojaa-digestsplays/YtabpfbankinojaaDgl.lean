/-
  The iterator over an index.
-/
import Derived.Test.YtabpfbankinojaaDgw
import Derived.Test.YtabpfbankinojaaDgq
import Derived.Test.YtabpfbankinojaaDgn
namespace Go.Proofs.Ytabpfbankinojaa
open Go.RowKit Go.Shelf
set_option linter.unusedVariables false
set_option linter.unusedSimpArgs false
set_option maxRecDepth 100000

theorem row_kr {t u e : TypeId} {q n B : Nat} {w w' : World} {v : Value} {xs : List Value} (h : w.ownsRow B e q v n xs) (hk : KR t u w w') (he : e = t ∨ e = u) : w'.ownsRow B e q v n xs := by
  obtain ⟨h1, h2⟩ := h
  refine ⟨h1, ?_⟩
  rcases h2 with h2 | ⟨g, cap, cur, rfl, hg, hh, r⟩
  · exact .inl h2
  · exact .inr ⟨g, cap, cur, rfl, hg, by
      have := hk.keep g e cur.toList he (by unfold Blk; simpa using hh)
      unfold Blk at this
      simpa using this, r⟩
/-- What is left of each run, in memory. -/
structure AL (B : Nat) (W : World) (v : Value) (us : List Value) (ls : List (List Ent)) (M : List Ent) : Prop where
  row : W.ownsRow B 59 1 v ls.length us
  rn : ∀ i, i < ls.length → Rn W (us.getD i undef) (ls.getD i [])
  ls : LS ls M
section
variable {B : Nat} {W W' : World} {v : Value} {us : List Value} {ls : List (List Ent)} {M : List Ent}
theorem AL.rv (h : AL B W v us ls M) : RunsV W v us ls := ⟨Vw.of_row h.row, h.rn⟩
theorem AL.on (h : AL B W v us ls M) (hb : Below W.heap.size W W') : AL B W' v us ls M := ⟨row_on h.row hb, fun i hi => (h.rn i hi).on hb, h.ls⟩
theorem AL.kr (h : AL B W v us ls M) (hk : KR 59 58 W W') : AL B W' v us ls M := ⟨row_kr h.row hk (.inl rfl), fun i hi => (h.rn i hi).kr hk, h.ls⟩
theorem AL.at (h : AL B W v us ls M) {l : Nat} (hl : l < ls.length) : ∃ g cap cs, v = .slice (some ⟨g, 0, none⟩) ls.length cap ∧ Blk W g 59 cs ∧ cs.take (ls.length * 1) = us ∧ B ≤ g ∧ W.cell? ⟨g, l, none⟩ = some (us.getD l undef) ∧ ∀ V : World, (Instr.indexAt 40 (.slice (some ⟨g, 0, none⟩) ls.length cap) (.int .i64 (l : Int))).run Try.prog V = .ok (.pointer (some ⟨g, l, none⟩)) V := by
  obtain ⟨g, cap, cs, hv, hb, hc, hcl⟩ := row_at h.row (by omega)
  refine ⟨g, cap, cs, hv, hb, hc, row_ge h.row (by rw [hv]; rfl), ?_, fun V => ?_⟩
  · have hul : us.length = ls.length := h.rv.len
    rw [hb.cell, List.getD_eq_getElem?_getD, List.getElem?_eq_getElem (show l < us.length by omega), Option.getD_some]
    have : us[l]? = cs[l]? := by rw [← hc, List.getElem?_take, if_pos (by omega)]
    rw [← this, List.getElem?_eq_getElem]
  · have := vw_at roR g ls.length cap l hl V
    rwa [Nat.mul_one] at this
/-- One head is told. -/
theorem AL.step {l : Nat} {g cap : Nat} {cs : List Value} {u1 : Value} {x : Ent} {t M' : List Ent} (h : AL B W v us ls M) (hl : l < ls.length) (hv : v = .slice (some ⟨g, 0, none⟩) ls.length cap) (hb : Blk W g 59 cs) (hc : cs.take (ls.length * 1) = us) (hx : ls.getD l [] = x :: t) (hr : Rn W u1 t) (hM : LS (ls.set l t) M') :
    AL B (W.setCell ⟨g, l, none⟩ u1) v (us.set l u1) (ls.set l t) M' := by
  have hul : us.length = ls.length := by have := h.rv.len; exact this
  have hcl : ls.length ≤ cs.length := by
    have := congrArg List.length hc
    rw [List.length_take, hul] at this
    omega
  have hrow := row_set (w' := W.setCell ⟨g, l, none⟩ u1) (cs' := cs.set l u1) (ys := us.set l u1) (by rw [← hv]; exact h.row) hb (hb.set l u1) (by simp) (by rw [List.take_set, hc]) (by rw [List.length_set, hul, Nat.mul_one])
  have hbut := But.setCell W g l u1
  have keepR : ∀ {u : Value} {r : List Ent}, Rn W u r → Rn (W.setCell ⟨g, l, none⟩ u1) u r := fun {u r} hr => by
    unfold Rn at *
    obtain ⟨h1, a, c, h2, h3, h4⟩ := hr
    exact ⟨h1, a, c, h2, h3, fun h0 => by
      obtain ⟨g', o, cs', e1, e2, e3⟩ := h4 h0
      exact ⟨g', o, cs', e1, e2.but hbut (e2.apart hb (by decide)), e3⟩⟩
  refine ⟨?_, fun i hi => ?_, hM⟩
  · rw [List.length_set, hv]
    exact hrow
  · rw [List.length_set] at hi
    simp only [List.getD_eq_getElem?_getD, List.getElem?_set]
    by_cases e : l = i
    · subst e
      rw [if_pos rfl, if_pos rfl, if_pos (by omega), if_pos (by omega)]
      exact keepR hr
    · rw [if_neg e, if_neg e]
      have := h.rn i hi
      simp only [List.getD_eq_getElem?_getD] at this
      exact keepR this
end
def encE (x : Ent) : Array Value := #[.agg (u8s x.d).toArray, .int .i64 x.p]
set_option maxHeartbeats 4000000 in
theorem alls_seq (g0 : Nat) (v : Value) (us : List Value) (rs : List (List Ent)) (b1 n : Nat) (w : World) (hI : IxA w g0 v us rs) (hb1 : Blk w b1 25 [.pointer (some ⟨g0, 0, none⟩)]) (hfew : rs.length ≤ 64) :
    SeqD 59 Fence.wide n Try.prog 23 #[.pointer (some ⟨b1, 0, none⟩)] encE (allE rs) (KR 59 58) w := by
  intro l0 J Jx W hW hJ hJx hY h0
  have IW := hide (hI.on hW)
  have hc1 : W.cell? ⟨b1, 0, none⟩ = some (.pointer (some ⟨g0, 0, none⟩)) := by rw [(hb1.on hW).cell]; rfl
  have H1 := hide (made_at g0 true _ W IW.out.hd)
  have HJ0 := hide h0
  have HY := hide hY
  have HJ := hide hJ
  have HJx := hide hJx
  obtain ⟨av, cv, rfl⟩ := IW.out.rv.slice
  have hc2 : W.cell? ⟨g0, 1, none⟩ = some (.slice av rs.length cv) := by rw [Blk.cell IW.out.hd]; rfl
  have HCL := hide (cloneK_any _ rs.length us W IW.out.rv.vw IW.out.rv.one (by omega))
  have HLS := hide (LS.start IW.out.ok)
  obtain ⟨L, hL⟩ : ∃ L, allE rs = L := ⟨_, rfl⟩
  rw [hL] at HLS HY ⊢
  have HLL : Hid (L.length = cnt rs) := hide (by rw [← hL, allE_len])
  clear hI hb1 hW h0 hY hJ hJx hL
  refine callsIn_of_wp Try.func23 rfl trivial ?_ rfl
  simp only [Try.ntmps23, List.size_toArray, List.length_cons, List.length_nil, Nat.reduceAdd, Nat.reduceSub, Array.replicate_succ, Array.replicate_zero, List.push_toArray, List.append_toArray, List.nil_append, List.cons_append]
  refine wpIn_wide.2 ?_
  go_step3
  go_wp2_with (first | (go_at_call 18; refine H1.out.mono ?_; rintro r w' ⟨rfl, hw'⟩; subst w'))
  refine HCL.out.mono ?_
  rintro r w1 ⟨vl, rfl, hrow, hb⟩
  have AL1 : Hid (AL W.heap.size w1 vl us rs L) := hide ⟨hrow, fun i hi => (IW.out.rv.rn i hi).on hb, HLS.out⟩
  have HJ1 := hide (HJ.out.below HJ0.out hb)
  have hs1 := hb.size
  obtain ⟨al, cl, rfl⟩ := AL1.out.rv.slice
  obtain ⟨k, hk⟩ : ∃ k, rs.length = k := ⟨_, rfl⟩
  have HK0 := hide hk
  rw [hk] at AL1 IW hfew
  clear hrow hb hc1 hc2 H1 HCL HJ0
  rw [hk]
  clear hk
  go_wp2_with fail
  go_step3
  go_wp2_with fail
  try simp only [Act.put]
  go_loopg [4] (L.length + 1) (fun m s4 wr => ∃ (i : Nat) (lus : List Value) (ls : List (List Ent)), m = L.length + 1 - i ∧ i ≤ L.length ∧ Hid (ls.length = k) ∧ Hid (AL W.heap.size wr (.slice al k cl) lus ls (L.drop i)) ∧ Hid (J i wr) ∧ W.heap.size ≤ wr.heap.size)
  case atStart => exact ⟨0, us, rs, by omega, Nat.zero_le _, HK0, by rw [List.drop_zero]; exact AL1, HJ1, hs1⟩
  case round =>
    obtain ⟨i, lus, ls, hm, hi, HK, HA, HJi, hsz⟩ := hrel
    obtain ⟨wo, hwo⟩ : ∃ wo, wo = wr := ⟨_, rfl⟩
    subst hwo
    have HMM := hide hm
    clear hm
    go_wp2_with fail
    try simp only [Act.put]
    go_loopw [4, 17] (fun s4 s17 wi => ∃ (j : Nat) (l : Int), j ≤ k ∧ s4 = .int .i64 l ∧ s17 = .int .i64 j ∧ Hid (Lst ls j l) ∧ Hid (Below wo.heap.size wo wi)) (fun _ s17 _ => k - (intOf s17).toNat)
    case atStart => exact ⟨0, -1, Nat.zero_le _, rfl, rfl, hide (Lst.zero ls), hide (Below.refl _ _)⟩
    case round =>
      obtain ⟨j, l, hj, rfl, rfl, HL, HB⟩ := hrel
      have HA2 := hide (HA.out.on HB.out)
      by_cases hlt : j < k
      · have hlt' : (j : Int) < (k : Int) := by omega
        have hjl : j < ls.length := by rw [HK.out]; exact hlt
        obtain ⟨g3, o3, hix3, hce3⟩ := HA2.out.rv.at hjl
        have hcu3 := hce3 wr HA2.out.rv.vw
        obtain ⟨a3, c3, hu3⟩ := HA2.out.rv.at' hjl
        have hrn := HA2.out.rn j hjl
        obtain ⟨mj, hmj⟩ : ∃ mj, (ls.getD j []).length = mj := ⟨_, rfl⟩
        rw [hu3] at hcu3 hrn
        rw [hmj] at hcu3 hrn
        have HRN := hide hrn
        have HMJ := hide hmj
        clear hce3 hu3 hrn hmj
        by_cases h0 : 0 < mj
        · have h0' : (0 : Int) < (mj : Int) := by omega
          obtain ⟨x, t, hxt⟩ : ∃ x t, ls.getD j [] = x :: t := by
            cases hq : ls.getD j [] with
            | nil => have := HMJ.out; rw [hq] at this; simp at this; omega
            | cons x t => exact ⟨x, t, rfl⟩
          have HXT := hide hxt
          rw [hxt] at HRN
          clear hxt
          rcases HL.out.cases with rfl | ⟨n2, rfl⟩
          · have HL2 : Hid (Lst ls (j + 1) (j : Int)) := hide (HL.out.first HXT.out)
            go_upto_region 6 with fail
            refine wp_region_noPanic ?_
            have BD := hide (Below.refl wr.heap.size wr).drew
            refine wp_region_held_drew (S := fun V : World => Below wr.heap.size wr V) (by kernel_rfl) BD.out (fun hHeld => ?_)
            refine takeH 0 22 (.slice a3 mj c3) hHeld rfl rfl (by kernel_rfl) (by kernel_rfl) (by kernel_rfl) (fun _ _ _ h => h) (Or.inl ⟨by rfl, fun w _ => by go_simp⟩) ?_
            simp only [Act.put, List.setIfInBounds_toArray, List.set_cons_zero, List.set_cons_succ]
            refine takeH 1 23 (.int .i64 (mj : Int)) hHeld rfl rfl (by kernel_rfl) (by kernel_rfl) (by kernel_rfl) (fun _ _ _ h => h) (Or.inl ⟨by rfl, fun w _ => by go_simp⟩) ?_
            simp only [Act.put, List.setIfInBounds_toArray, List.set_cons_zero, List.set_cons_succ]
            refine takeH 2 24 (.bool true) hHeld rfl rfl (by kernel_rfl) (by kernel_rfl) (by kernel_rfl) (fun _ _ _ h => h) (Or.inl ⟨by rfl, fun w _ => by go_simp⟩) ?_
            simp only [Act.put, List.setIfInBounds_toArray, List.set_cons_zero, List.set_cons_succ]
            refine takeH 3 25 (.bool true) hHeld rfl rfl (by kernel_rfl) (by kernel_rfl) (by kernel_rfl) (fun _ _ _ h => h) (Or.inl ⟨by rfl, fun w _ => by go_simp⟩) ?_
            simp only [Act.put, List.setIfInBounds_toArray, List.set_cons_zero, List.set_cons_succ]
            refine takeH 4 26 (.int .i64 (-1)) hHeld rfl rfl (by kernel_rfl) (by kernel_rfl) (by kernel_rfl) (fun _ _ _ h => h) (Or.inl ⟨by rfl, fun w _ => by go_simp⟩) ?_
            simp only [Act.put, List.setIfInBounds_toArray, List.set_cons_zero, List.set_cons_succ]
            refine takeH 5 27 (.bool true) hHeld rfl rfl (by kernel_rfl) (by kernel_rfl) (by kernel_rfl) (fun _ _ _ h => h) (Or.inl ⟨by rfl, fun w _ => by go_simp⟩) ?_
            simp only [Act.put, List.setIfInBounds_toArray, List.set_cons_zero, List.set_cons_succ]
            refine takeH 6 28 (.bool true) hHeld rfl rfl (by kernel_rfl) (by kernel_rfl) (by kernel_rfl) (fun _ _ _ h => h) (Or.inl ⟨by rfl, fun w _ => by go_simp⟩) ?_
            simp only [Act.put, List.setIfInBounds_toArray, List.set_cons_zero, List.set_cons_succ]
            refine takeH 7 29 undef hHeld rfl rfl (by kernel_rfl) (by kernel_rfl) (by kernel_rfl) (fun _ _ _ h => h) (Or.inr ⟨by rfl, rfl⟩) ?_
            simp only [Act.put, List.setIfInBounds_toArray, List.set_cons_zero, List.set_cons_succ]
            refine takeH 8 30 undef hHeld rfl rfl (by kernel_rfl) (by kernel_rfl) (by kernel_rfl) (fun _ _ _ h => h) (Or.inr ⟨by rfl, rfl⟩) ?_
            simp only [Act.put, List.setIfInBounds_toArray, List.set_cons_zero, List.set_cons_succ]
            refine takeH 9 31 undef hHeld rfl rfl (by kernel_rfl) (by kernel_rfl) (by kernel_rfl) (fun _ _ _ h => h) (Or.inr ⟨by rfl, rfl⟩) ?_
            simp only [Act.put, List.setIfInBounds_toArray, List.set_cons_zero, List.set_cons_succ]
            refine takeH 10 32 undef hHeld rfl rfl (by kernel_rfl) (by kernel_rfl) (by kernel_rfl) (fun _ _ _ h => h) (Or.inr ⟨by rfl, rfl⟩) ?_
            simp only [Act.put, List.setIfInBounds_toArray, List.set_cons_zero, List.set_cons_succ]
            refine takeH 11 33 undef hHeld rfl rfl (by kernel_rfl) (by kernel_rfl) (by kernel_rfl) (fun _ _ _ h => h) (Or.inr ⟨by rfl, rfl⟩) ?_
            simp only [Act.put, List.setIfInBounds_toArray, List.set_cons_zero, List.set_cons_succ]
            refine takeH 12 34 undef hHeld rfl rfl (by kernel_rfl) (by kernel_rfl) (by kernel_rfl) (fun _ _ _ h => h) (Or.inr ⟨by rfl, rfl⟩) ?_
            simp only [Act.put, List.setIfInBounds_toArray, List.set_cons_zero, List.set_cons_succ]
            refine takeH 13 35 undef hHeld rfl rfl (by kernel_rfl) (by kernel_rfl) (by kernel_rfl) (fun _ _ _ h => h) (Or.inr ⟨by rfl, rfl⟩) ?_
            simp only [Act.put, List.setIfInBounds_toArray, List.set_cons_zero, List.set_cons_succ]
            refine takeH 14 36 undef hHeld rfl rfl (by kernel_rfl) (by kernel_rfl) (by kernel_rfl) (fun _ _ _ h => h) (Or.inr ⟨by rfl, rfl⟩) ?_
            simp only [Act.put, List.setIfInBounds_toArray, List.set_cons_zero, List.set_cons_succ]
            refine takeH 15 37 undef hHeld rfl rfl (by kernel_rfl) (by kernel_rfl) (by kernel_rfl) (fun _ _ _ h => h) (Or.inr ⟨by rfl, rfl⟩) ?_
            simp only [Act.put, List.setIfInBounds_toArray, List.set_cons_zero, List.set_cons_succ]
            refine takeH 16 38 undef hHeld rfl rfl (by kernel_rfl) (by kernel_rfl) (by kernel_rfl) (fun _ _ _ h => h) (Or.inr ⟨by rfl, rfl⟩) ?_
            simp only [Act.put, List.setIfInBounds_toArray, List.set_cons_zero, List.set_cons_succ]
            refine takeH 17 39 (.bool true) hHeld rfl rfl (by kernel_rfl) (by kernel_rfl) (by kernel_rfl) (fun _ _ _ h => h) (Or.inl ⟨by rfl, fun w _ => by go_simp⟩) ?_
            simp only [Act.put, List.setIfInBounds_toArray, List.set_cons_zero, List.set_cons_succ]
            refine takeH 18 40 (.bool true) hHeld rfl rfl (by kernel_rfl) (by kernel_rfl) (by kernel_rfl) (fun _ _ _ h => h) (Or.inl ⟨by rfl, fun w _ => by go_simp⟩) ?_
            simp only [Act.put, List.setIfInBounds_toArray, List.set_cons_zero, List.set_cons_succ]
            refine wpAnyH_done (by kernel_rfl) ?_ _
            refine NoPanic.normal ?_
            have HB3 := hide (on_below HB.out BD.out)
            clear hHeld
            go_wp2
            exact ⟨⟨j + 1, (j : Int), by omega, rfl, by go_num, HL2, HB3⟩, by simp [intOf]; omega⟩
          · obtain ⟨hnj, z, u, hzu⟩ := HL.out.at
            have hnl : n2 < ls.length := by omega
            obtain ⟨g5, o5, hix5, hce5⟩ := HA2.out.rv.at hnl
            have hcu5 := hce5 wr HA2.out.rv.vw
            obtain ⟨a5, c5, hu5⟩ := HA2.out.rv.at' hnl
            have hrn5 := HA2.out.rn n2 hnl
            obtain ⟨mn, hmn⟩ : ∃ mn, (ls.getD n2 []).length = mn := ⟨_, rfl⟩
            rw [hu5, hmn] at hcu5
            rw [hu5, hmn, hzu] at hrn5
            have hn0 : ¬ ((n2 : Int) < 0) := by omega
            obtain ⟨g1, o1, hix1, hrg1⟩ := HRN.out.at (i := 0) (by simp)
            obtain ⟨g2, o2, hix2, hrg2⟩ := hrn5.at (i := 0) (by simp)
            have IX1 : Hid (∀ W : World, (Instr.indexAt 59 (.slice a3 mj c3) (.int .i64 0)).run Try.prog W = .ok (.pointer (some ⟨g1, o1, none⟩)) W) := hide hix1
            have IX2 : Hid (∀ W : World, (Instr.indexAt 59 (.slice a5 mn c5) (.int .i64 0)).run Try.prog W = .ok (.pointer (some ⟨g2, o2, none⟩)) W) := hide hix2
            have IX5 := hide hix5
            have RN5 := hide hrn5
            have HCU5 := hide hcu5
            have HZU := hide hzu
            have RG1 : Hid (∀ V : World, Below wr.heap.size wr V → V.rangeAt g1 o1 (pc x)) := hide fun V hV => hrg1 V (HRN.out.on hV)
            have RG2 : Hid (∀ V : World, Below wr.heap.size wr V → V.rangeAt g2 o2 (pc z)) := hide fun V hV => hrg2 V (RN5.out.on hV)
            have hu := Try.underlying58
            have HPX : Hid ((Try.prog.info? 58).map (·.size) = some (pc x).length) := hide (by rw [wideP.size, pc_len])
            have HPZ : Hid ((Try.prog.info? 58).map (·.size) = some (pc z).length) := hide (by rw [wideP.size, pc_len])
            clear hix5 hce5 hcu5 hu5 hrn5 hmn hix1 hrg1 hix2 hrg2 hzu
            go_upto_region 6 with fail
            refine wp_region_noPanic ?_
            have BD := hide (Below.refl wr.heap.size wr).drew
            refine wp_region_held_drew (S := fun V : World => Below wr.heap.size wr V) (by kernel_rfl) BD.out (fun hHeld => ?_)
            refine takeH 0 22 (.slice a3 mj c3) hHeld rfl rfl (by kernel_rfl) (by kernel_rfl) (by kernel_rfl) (fun _ _ _ h => h) (Or.inl ⟨by rfl, fun w _ => by go_simp⟩) ?_
            simp only [Act.put, List.setIfInBounds_toArray, List.set_cons_zero, List.set_cons_succ]
            refine takeH 1 23 (.int .i64 (mj : Int)) hHeld rfl rfl (by kernel_rfl) (by kernel_rfl) (by kernel_rfl) (fun _ _ _ h => h) (Or.inl ⟨by rfl, fun w _ => by go_simp⟩) ?_
            simp only [Act.put, List.setIfInBounds_toArray, List.set_cons_zero, List.set_cons_succ]
            refine takeH 2 24 (.bool true) hHeld rfl rfl (by kernel_rfl) (by kernel_rfl) (by kernel_rfl) (fun _ _ _ h => h) (Or.inl ⟨by rfl, fun w _ => by go_simp⟩) ?_
            simp only [Act.put, List.setIfInBounds_toArray, List.set_cons_zero, List.set_cons_succ]
            refine takeH 3 25 (.bool true) hHeld rfl rfl (by kernel_rfl) (by kernel_rfl) (by kernel_rfl) (fun _ _ _ h => h) (Or.inl ⟨by rfl, fun w _ => by go_simp⟩) ?_
            simp only [Act.put, List.setIfInBounds_toArray, List.set_cons_zero, List.set_cons_succ]
            refine takeH 4 26 (.int .i64 (n2 : Int)) hHeld rfl rfl (by kernel_rfl) (by kernel_rfl) (by kernel_rfl) (fun _ _ _ h => h) (Or.inl ⟨by rfl, fun w _ => by go_simp⟩) ?_
            simp only [Act.put, List.setIfInBounds_toArray, List.set_cons_zero, List.set_cons_succ]
            refine takeH 5 27 (.bool false) hHeld rfl rfl (by kernel_rfl) (by kernel_rfl) (by kernel_rfl) (fun _ _ _ h => h) (Or.inl ⟨by rfl, fun w _ => by go_simp⟩) ?_
            simp only [Act.put, List.setIfInBounds_toArray, List.set_cons_zero, List.set_cons_succ]
            refine takeH 6 28 (.bool false) hHeld rfl rfl (by kernel_rfl) (by kernel_rfl) (by kernel_rfl) (fun _ _ _ h => h) (Or.inl ⟨by rfl, fun w _ => by go_simp⟩) ?_
            simp only [Act.put, List.setIfInBounds_toArray, List.set_cons_zero, List.set_cons_succ]
            refine takeH 7 29 (.slice a3 mj c3) hHeld rfl rfl (by kernel_rfl) (by kernel_rfl) (by kernel_rfl) (fun _ _ _ h => h) (Or.inl ⟨by rfl, fun w _ => by go_simp⟩) ?_
            simp only [Act.put, List.setIfInBounds_toArray, List.set_cons_zero, List.set_cons_succ]
            refine takeH 8 30 (.pointer (some ⟨g1, o1, none⟩)) hHeld rfl rfl (by kernel_rfl) (by kernel_rfl) (by kernel_rfl) (fun _ _ _ h => h) (Or.inl ⟨by rfl, fun w _ => run_op rfl (IX1.out w)⟩) ?_
            simp only [Act.put, List.setIfInBounds_toArray, List.set_cons_zero, List.set_cons_succ]
            refine takeH 9 31 (.agg (pc x).toArray) hHeld rfl rfl (by kernel_rfl) (by kernel_rfl) (by kernel_rfl) (fun _ _ _ h => h) (yieldsIf_load_mid (by rfl) _ _ rfl g1 (o1) rfl _ _ (fun V h => RG1.out V h) hu rfl HPX.out) ?_
            simp only [Act.put, List.setIfInBounds_toArray, List.set_cons_zero, List.set_cons_succ]
            refine takeH 10 32 (.slice al k cl) hHeld rfl rfl (by kernel_rfl) (by kernel_rfl) (by kernel_rfl) (fun _ _ _ h => h) (Or.inl ⟨by rfl, fun w _ => by go_simp⟩) ?_
            simp only [Act.put, List.setIfInBounds_toArray, List.set_cons_zero, List.set_cons_succ]
            refine takeH 11 33 (.int .i64 (n2 : Int)) hHeld rfl rfl (by kernel_rfl) (by kernel_rfl) (by kernel_rfl) (fun _ _ _ h => h) (Or.inl ⟨by rfl, fun w _ => by go_simp⟩) ?_
            simp only [Act.put, List.setIfInBounds_toArray, List.set_cons_zero, List.set_cons_succ]
            refine takeH 12 34 (.pointer (some ⟨g5, o5, none⟩)) hHeld rfl rfl (by kernel_rfl) (by kernel_rfl) (by kernel_rfl) (fun _ _ _ h => h) (Or.inl ⟨by rfl, fun w _ => run_op rfl (IX5.out w)⟩) ?_
            simp only [Act.put, List.setIfInBounds_toArray, List.set_cons_zero, List.set_cons_succ]
            refine takeH 13 35 (.slice a5 mn c5) hHeld rfl rfl (by kernel_rfl) (by kernel_rfl) (by kernel_rfl) (fun _ _ _ h => h) (Or.inl ⟨by rfl, fun w hw => by have hw' : w.cell? ⟨g5, o5, none⟩ = some (.slice a5 mn c5) := (fun hw => by rw [hw.cell (World.block_lt_of_cell? _ _ HCU5.out)]; exact HCU5.out) hw; go_simp⟩) ?_
            simp only [Act.put, List.setIfInBounds_toArray, List.set_cons_zero, List.set_cons_succ]
            refine takeH 14 36 (.pointer (some ⟨g2, o2, none⟩)) hHeld rfl rfl (by kernel_rfl) (by kernel_rfl) (by kernel_rfl) (fun _ _ _ h => h) (Or.inl ⟨by rfl, fun w _ => run_op rfl (IX2.out w)⟩) ?_
            simp only [Act.put, List.setIfInBounds_toArray, List.set_cons_zero, List.set_cons_succ]
            refine takeH 15 37 (.agg (pc z).toArray) hHeld rfl rfl (by kernel_rfl) (by kernel_rfl) (by kernel_rfl) (fun _ _ _ h => h) (yieldsIf_load_mid (by rfl) _ _ rfl g2 (o2) rfl _ _ (fun V h => RG2.out V h) hu rfl HPZ.out) ?_
            simp only [Act.put, List.setIfInBounds_toArray, List.set_cons_zero, List.set_cons_succ]
            refine wpAnyH_ready (rs := [16]) (by kernel_rfl) (by simp) (AllReadyH.cons rfl (fun K hK => ?_) AllReadyH.nil)
            rw [if_pos (by rfl)]
            go_simp
            refine (isAhead_any x z _).mono ?_
            rintro r w3 ⟨rfl, hb3⟩
            have HB3 := hide (on_below HB.out (on_below BD.out hb3))
            have B3 := hide (on_below BD.out hb3)
            clear hb3 hHeld
            refine hK.out _ _ (B3.out) (fun hHeld => ?_)
            clear hK K
            try simp only [Act.put, List.setIfInBounds_toArray, List.set_cons_zero, List.set_cons_succ]
            by_cases hxz : kE x < kE z
            · have hdc : decide (kE x < kE z) = true := decide_eq_true hxz
              rw [hdc]
              have HL2 : Hid (Lst ls (j + 1) (j : Int)) := hide (HL.out.lower HXT.out HZU.out hxz)
              clear hxz hdc
              refine takeH 17 39 (.bool true) hHeld rfl rfl (by kernel_rfl) (by kernel_rfl) (by kernel_rfl) (fun _ _ _ h => h) (Or.inl ⟨by rfl, fun w _ => by go_simp⟩) ?_
              simp only [Act.put, List.setIfInBounds_toArray, List.set_cons_zero, List.set_cons_succ]
              refine takeH 18 40 (.bool true) hHeld rfl rfl (by kernel_rfl) (by kernel_rfl) (by kernel_rfl) (fun _ _ _ h => h) (Or.inl ⟨by rfl, fun w _ => by go_simp⟩) ?_
              simp only [Act.put, List.setIfInBounds_toArray, List.set_cons_zero, List.set_cons_succ]
              refine wpAnyH_done (by kernel_rfl) ?_ _
              refine NoPanic.normal ?_
              clear hHeld
              go_wp2
              exact ⟨⟨j + 1, (j : Int), by omega, rfl, by go_num, HL2, HB3⟩, by simp [intOf]; omega⟩
            · have hdc : decide (kE x < kE z) = false := decide_eq_false hxz
              rw [hdc]
              have HL2 : Hid (Lst ls (j + 1) (n2 : Int)) := hide (HL.out.stay HXT.out HZU.out hxz)
              clear hxz hdc
              refine takeH 17 39 (.bool false) hHeld rfl rfl (by kernel_rfl) (by kernel_rfl) (by kernel_rfl) (fun _ _ _ h => h) (Or.inl ⟨by rfl, fun w _ => by go_simp⟩) ?_
              simp only [Act.put, List.setIfInBounds_toArray, List.set_cons_zero, List.set_cons_succ]
              refine takeH 18 40 (.bool false) hHeld rfl rfl (by kernel_rfl) (by kernel_rfl) (by kernel_rfl) (fun _ _ _ h => h) (Or.inl ⟨by rfl, fun w _ => by go_simp⟩) ?_
              simp only [Act.put, List.setIfInBounds_toArray, List.set_cons_zero, List.set_cons_succ]
              refine wpAnyH_done (by kernel_rfl) ?_ _
              refine NoPanic.normal ?_
              clear hHeld
              go_wp2
              exact ⟨⟨j + 1, (n2 : Int), by omega, rfl, by go_num, HL2, HB3⟩, by simp [intOf]; omega⟩
        · have hm0 : mj = 0 := by omega
          have h0' : ¬ (0 : Int) < (mj : Int) := by omega
          have HL2 : Hid (Lst ls (j + 1) l) := hide (HL.out.empty (List.eq_nil_of_length_eq_zero (by rw [HMJ.out, hm0])))
          clear hm0
          go_upto_region 6 with fail
          refine wp_region_noPanic ?_
          have BD := hide (Below.refl wr.heap.size wr).drew
          refine wp_region_held_drew (S := fun V : World => Below wr.heap.size wr V) (by kernel_rfl) BD.out (fun hHeld => ?_)
          refine takeH 0 22 (.slice a3 mj c3) hHeld rfl rfl (by kernel_rfl) (by kernel_rfl) (by kernel_rfl) (fun _ _ _ h => h) (Or.inl ⟨by rfl, fun w _ => by go_simp⟩) ?_
          simp only [Act.put, List.setIfInBounds_toArray, List.set_cons_zero, List.set_cons_succ]
          refine takeH 1 23 (.int .i64 (mj : Int)) hHeld rfl rfl (by kernel_rfl) (by kernel_rfl) (by kernel_rfl) (fun _ _ _ h => h) (Or.inl ⟨by rfl, fun w _ => by go_simp⟩) ?_
          simp only [Act.put, List.setIfInBounds_toArray, List.set_cons_zero, List.set_cons_succ]
          refine takeH 2 24 (.bool false) hHeld rfl rfl (by kernel_rfl) (by kernel_rfl) (by kernel_rfl) (fun _ _ _ h => h) (Or.inl ⟨by rfl, fun w _ => by go_simp⟩) ?_
          simp only [Act.put, List.setIfInBounds_toArray, List.set_cons_zero, List.set_cons_succ]
          refine takeH 3 25 (.bool false) hHeld rfl rfl (by kernel_rfl) (by kernel_rfl) (by kernel_rfl) (fun _ _ _ h => h) (Or.inl ⟨by rfl, fun w _ => by go_simp⟩) ?_
          simp only [Act.put, List.setIfInBounds_toArray, List.set_cons_zero, List.set_cons_succ]
          refine takeH 4 26 undef hHeld rfl rfl (by kernel_rfl) (by kernel_rfl) (by kernel_rfl) (fun _ _ _ h => h) (Or.inr ⟨by rfl, rfl⟩) ?_
          simp only [Act.put, List.setIfInBounds_toArray, List.set_cons_zero, List.set_cons_succ]
          refine takeH 5 27 undef hHeld rfl rfl (by kernel_rfl) (by kernel_rfl) (by kernel_rfl) (fun _ _ _ h => h) (Or.inr ⟨by rfl, rfl⟩) ?_
          simp only [Act.put, List.setIfInBounds_toArray, List.set_cons_zero, List.set_cons_succ]
          refine takeH 6 28 undef hHeld rfl rfl (by kernel_rfl) (by kernel_rfl) (by kernel_rfl) (fun _ _ _ h => h) (Or.inr ⟨by rfl, rfl⟩) ?_
          simp only [Act.put, List.setIfInBounds_toArray, List.set_cons_zero, List.set_cons_succ]
          refine takeH 7 29 undef hHeld rfl rfl (by kernel_rfl) (by kernel_rfl) (by kernel_rfl) (fun _ _ _ h => h) (Or.inr ⟨by rfl, rfl⟩) ?_
          simp only [Act.put, List.setIfInBounds_toArray, List.set_cons_zero, List.set_cons_succ]
          refine takeH 8 30 undef hHeld rfl rfl (by kernel_rfl) (by kernel_rfl) (by kernel_rfl) (fun _ _ _ h => h) (Or.inr ⟨by rfl, rfl⟩) ?_
          simp only [Act.put, List.setIfInBounds_toArray, List.set_cons_zero, List.set_cons_succ]
          refine takeH 9 31 undef hHeld rfl rfl (by kernel_rfl) (by kernel_rfl) (by kernel_rfl) (fun _ _ _ h => h) (Or.inr ⟨by rfl, rfl⟩) ?_
          simp only [Act.put, List.setIfInBounds_toArray, List.set_cons_zero, List.set_cons_succ]
          refine takeH 10 32 undef hHeld rfl rfl (by kernel_rfl) (by kernel_rfl) (by kernel_rfl) (fun _ _ _ h => h) (Or.inr ⟨by rfl, rfl⟩) ?_
          simp only [Act.put, List.setIfInBounds_toArray, List.set_cons_zero, List.set_cons_succ]
          refine takeH 11 33 undef hHeld rfl rfl (by kernel_rfl) (by kernel_rfl) (by kernel_rfl) (fun _ _ _ h => h) (Or.inr ⟨by rfl, rfl⟩) ?_
          simp only [Act.put, List.setIfInBounds_toArray, List.set_cons_zero, List.set_cons_succ]
          refine takeH 12 34 undef hHeld rfl rfl (by kernel_rfl) (by kernel_rfl) (by kernel_rfl) (fun _ _ _ h => h) (Or.inr ⟨by rfl, rfl⟩) ?_
          simp only [Act.put, List.setIfInBounds_toArray, List.set_cons_zero, List.set_cons_succ]
          refine takeH 13 35 undef hHeld rfl rfl (by kernel_rfl) (by kernel_rfl) (by kernel_rfl) (fun _ _ _ h => h) (Or.inr ⟨by rfl, rfl⟩) ?_
          simp only [Act.put, List.setIfInBounds_toArray, List.set_cons_zero, List.set_cons_succ]
          refine takeH 14 36 undef hHeld rfl rfl (by kernel_rfl) (by kernel_rfl) (by kernel_rfl) (fun _ _ _ h => h) (Or.inr ⟨by rfl, rfl⟩) ?_
          simp only [Act.put, List.setIfInBounds_toArray, List.set_cons_zero, List.set_cons_succ]
          refine takeH 15 37 undef hHeld rfl rfl (by kernel_rfl) (by kernel_rfl) (by kernel_rfl) (fun _ _ _ h => h) (Or.inr ⟨by rfl, rfl⟩) ?_
          simp only [Act.put, List.setIfInBounds_toArray, List.set_cons_zero, List.set_cons_succ]
          refine takeH 16 38 undef hHeld rfl rfl (by kernel_rfl) (by kernel_rfl) (by kernel_rfl) (fun _ _ _ h => h) (Or.inr ⟨by rfl, rfl⟩) ?_
          simp only [Act.put, List.setIfInBounds_toArray, List.set_cons_zero, List.set_cons_succ]
          refine takeH 17 39 undef hHeld rfl rfl (by kernel_rfl) (by kernel_rfl) (by kernel_rfl) (fun _ _ _ h => h) (Or.inr ⟨by rfl, rfl⟩) ?_
          simp only [Act.put, List.setIfInBounds_toArray, List.set_cons_zero, List.set_cons_succ]
          refine takeH 18 40 (.bool false) hHeld rfl rfl (by kernel_rfl) (by kernel_rfl) (by kernel_rfl) (fun _ _ _ h => h) (Or.inl ⟨by rfl, fun w _ => by go_simp⟩) ?_
          simp only [Act.put, List.setIfInBounds_toArray, List.set_cons_zero, List.set_cons_succ]
          refine wpAnyH_done (by kernel_rfl) ?_ _
          refine NoPanic.normal ?_
          have HB3 := hide (on_below HB.out BD.out)
          clear hHeld
          go_wp2
          exact ⟨⟨j + 1, l, by omega, rfl, by go_num, HL2, HB3⟩, by simp [intOf]; omega⟩
      · obtain rfl : j = k := by omega
        have hlt' : ¬ (j : Int) < (j : Int) := by omega
        have HJ2 := hide (HJ.out.below HJi.out HB.out)
        have HL' : Hid (Lst ls ls.length l) := hide (by rw [HK.out]; exact HL.out)
        rcases HL'.out.cases with rfl | ⟨n2, rfl⟩
        · have hi2 : i = L.length := by
            have := HA2.out.ls.nil HL'.out.none
            have := congrArg List.length this
            rw [List.length_drop, List.length_nil] at this
            omega
          rw [hi2] at HJ2
          go_upto_region 9 with fail
          refine wp_region_noPanic ?_
          have BD := hide (Below.refl wr.heap.size wr).drew
          refine wp_region_held_drew (S := fun V : World => Below wr.heap.size wr V) (by kernel_rfl) BD.out (fun hHeld => ?_)
          refine takeH 0 43 (.int .i64 (-1)) hHeld rfl rfl (by kernel_rfl) (by kernel_rfl) (by kernel_rfl) (fun _ _ _ h => h) (Or.inl ⟨by rfl, fun w _ => by go_simp⟩) ?_
          simp only [Act.put, List.setIfInBounds_toArray, List.set_cons_zero, List.set_cons_succ]
          refine takeH 1 44 (.bool true) hHeld rfl rfl (by kernel_rfl) (by kernel_rfl) (by kernel_rfl) (fun _ _ _ h => h) (Or.inl ⟨by rfl, fun w _ => by go_simp⟩) ?_
          simp only [Act.put, List.setIfInBounds_toArray, List.set_cons_zero, List.set_cons_succ]
          refine takeH 2 45 (.bool true) hHeld rfl rfl (by kernel_rfl) (by kernel_rfl) (by kernel_rfl) (fun _ _ _ h => h) (Or.inl ⟨by rfl, fun w _ => by go_simp⟩) ?_
          simp only [Act.put, List.setIfInBounds_toArray, List.set_cons_zero, List.set_cons_succ]
          refine takeH 3 46 undef hHeld rfl rfl (by kernel_rfl) (by kernel_rfl) (by kernel_rfl) (fun _ _ _ h => h) (Or.inr ⟨by rfl, rfl⟩) ?_
          simp only [Act.put, List.setIfInBounds_toArray, List.set_cons_zero, List.set_cons_succ]
          refine takeH 4 47 undef hHeld rfl rfl (by kernel_rfl) (by kernel_rfl) (by kernel_rfl) (fun _ _ _ h => h) (Or.inr ⟨by rfl, rfl⟩) ?_
          simp only [Act.put, List.setIfInBounds_toArray, List.set_cons_zero, List.set_cons_succ]
          refine takeH 5 48 undef hHeld rfl rfl (by kernel_rfl) (by kernel_rfl) (by kernel_rfl) (fun _ _ _ h => h) (Or.inr ⟨by rfl, rfl⟩) ?_
          simp only [Act.put, List.setIfInBounds_toArray, List.set_cons_zero, List.set_cons_succ]
          refine takeH 6 49 undef hHeld rfl rfl (by kernel_rfl) (by kernel_rfl) (by kernel_rfl) (fun _ _ _ h => h) (Or.inr ⟨by rfl, rfl⟩) ?_
          simp only [Act.put, List.setIfInBounds_toArray, List.set_cons_zero, List.set_cons_succ]
          refine takeH 7 50 undef hHeld rfl rfl (by kernel_rfl) (by kernel_rfl) (by kernel_rfl) (fun _ _ _ h => h) (Or.inr ⟨by rfl, rfl⟩) ?_
          simp only [Act.put, List.setIfInBounds_toArray, List.set_cons_zero, List.set_cons_succ]
          refine takeH 8 51 undef hHeld rfl rfl (by kernel_rfl) (by kernel_rfl) (by kernel_rfl) (fun _ _ _ h => h) (Or.inr ⟨by rfl, rfl⟩) ?_
          simp only [Act.put, List.setIfInBounds_toArray, List.set_cons_zero, List.set_cons_succ]
          refine takeH 9 52 undef hHeld rfl rfl (by kernel_rfl) (by kernel_rfl) (by kernel_rfl) (fun _ _ _ h => h) (Or.inr ⟨by rfl, rfl⟩) ?_
          simp only [Act.put, List.setIfInBounds_toArray, List.set_cons_zero, List.set_cons_succ]
          refine takeH 10 53 undef hHeld rfl rfl (by kernel_rfl) (by kernel_rfl) (by kernel_rfl) (fun _ _ _ h => h) (Or.inr ⟨by rfl, rfl⟩) ?_
          simp only [Act.put, List.setIfInBounds_toArray, List.set_cons_zero, List.set_cons_succ]
          refine takeH 11 54 undef hHeld rfl rfl (by kernel_rfl) (by kernel_rfl) (by kernel_rfl) (fun _ _ _ h => h) (Or.inr ⟨by rfl, rfl⟩) ?_
          simp only [Act.put, List.setIfInBounds_toArray, List.set_cons_zero, List.set_cons_succ]
          refine takeH 12 55 undef hHeld rfl rfl (by kernel_rfl) (by kernel_rfl) (by kernel_rfl) (fun _ _ _ h => h) (Or.inr ⟨by rfl, rfl⟩) ?_
          simp only [Act.put, List.setIfInBounds_toArray, List.set_cons_zero, List.set_cons_succ]
          refine takeH 13 56 undef hHeld rfl rfl (by kernel_rfl) (by kernel_rfl) (by kernel_rfl) (fun _ _ _ h => h) (Or.inr ⟨by rfl, rfl⟩) ?_
          simp only [Act.put, List.setIfInBounds_toArray, List.set_cons_zero, List.set_cons_succ]
          refine takeH 14 57 undef hHeld rfl rfl (by kernel_rfl) (by kernel_rfl) (by kernel_rfl) (fun _ _ _ h => h) (Or.inr ⟨by rfl, rfl⟩) ?_
          simp only [Act.put, List.setIfInBounds_toArray, List.set_cons_zero, List.set_cons_succ]
          refine takeH 15 58 undef hHeld rfl rfl (by kernel_rfl) (by kernel_rfl) (by kernel_rfl) (fun _ _ _ h => h) (Or.inr ⟨by rfl, rfl⟩) ?_
          simp only [Act.put, List.setIfInBounds_toArray, List.set_cons_zero, List.set_cons_succ]
          refine takeH 16 59 undef hHeld rfl rfl (by kernel_rfl) (by kernel_rfl) (by kernel_rfl) (fun _ _ _ h => h) (Or.inr ⟨by rfl, rfl⟩) ?_
          simp only [Act.put, List.setIfInBounds_toArray, List.set_cons_zero, List.set_cons_succ]
          refine takeH 17 60 undef hHeld rfl rfl (by kernel_rfl) (by kernel_rfl) (by kernel_rfl) (fun _ _ _ h => h) (Or.inr ⟨by rfl, rfl⟩) ?_
          simp only [Act.put, List.setIfInBounds_toArray, List.set_cons_zero, List.set_cons_succ]
          refine takeH 18 61 undef hHeld rfl rfl (by kernel_rfl) (by kernel_rfl) (by kernel_rfl) (fun _ _ _ h => h) (Or.inr ⟨by rfl, rfl⟩) ?_
          simp only [Act.put, List.setIfInBounds_toArray, List.set_cons_zero, List.set_cons_succ]
          refine takeH 19 62 undef hHeld rfl rfl (by kernel_rfl) (by kernel_rfl) (by kernel_rfl) (fun _ _ _ h => h) (Or.inr ⟨by rfl, rfl⟩) ?_
          simp only [Act.put, List.setIfInBounds_toArray, List.set_cons_zero, List.set_cons_succ]
          refine takeH 20 63 (.bool true) hHeld rfl rfl (by kernel_rfl) (by kernel_rfl) (by kernel_rfl) (fun _ _ _ h => h) (Or.inl ⟨by rfl, fun w _ => by go_simp⟩) ?_
          simp only [Act.put, List.setIfInBounds_toArray, List.set_cons_zero, List.set_cons_succ]
          refine wpAnyH_done (by kernel_rfl) ?_ _
          refine NoPanic.normal ?_
          have HJ3 := hide (HJ.out.below HJ2.out BD.out)
          clear hHeld
          go_wp2
          refine bodyPost_end (results_none rfl _ _ _) rfl ?_
          exact ⟨⟨_, rfl⟩, .inl HJ3.out⟩
        · obtain ⟨hnj, x, t, hxt⟩ := HL'.out.at
          obtain ⟨M', hM, hLS⟩ := HA2.out.ls.step hnj hxt (HL'.out.min HA2.out.ls hxt)
          have hLi : L[i]? = some x := by
            have := congrArg (fun q : List Ent => q[0]?) hM
            simpa [List.getElem?_drop] using this
          have hil : i < L.length := (List.getElem?_eq_some_iff.1 hLi).1
          have hL1 : L.drop (i + 1) = M' := by
            have := congrArg (List.drop 1) hM
            simpa [List.drop_drop] using this
          obtain ⟨g, cap, cs, hv, hblk, htk, hBg, hcg, hixg⟩ := HA2.out.at hnj
          rw [HK.out] at hv hixg
          injection hv with e1 _ e3
          subst e1 e3
          obtain ⟨a5, c5, hu5⟩ := HA2.out.rv.at' hnj
          have hrn5 := HA2.out.rn n2 hnj
          obtain ⟨mn, hmn⟩ : ∃ mn, (ls.getD n2 []).length = mn := ⟨_, rfl⟩
          rw [hu5, hmn] at hcg
          rw [hu5, hmn, hxt] at hrn5
          have hn0 : ¬ ((n2 : Int) < 0) := by omega
          obtain ⟨g2, o2, hix2, hrg2⟩ := hrn5.at (i := 0) (by simp)
          obtain ⟨u1, hsl, hr1⟩ := hrn5.from (k := 1) (by simp)
          obtain ⟨a6, c6, hu1⟩ := (hr1 wr hrn5).slice
          rw [List.drop_succ_cons, List.drop_zero] at hu1
          subst hu1
          have IX2 : Hid (∀ W : World, (Instr.indexAt 59 (.slice a5 mn c5) (.int .i64 0)).run Try.prog W = .ok (.pointer (some ⟨g2, o2, none⟩)) W) := hide hix2
          have SL1 : Hid (∀ W : World, (Instr.slice 59 (.slice a5 mn c5) (some (.int .i64 1)) none none).run Try.prog W = .ok (.slice a6 t.length c6) W) := hide hsl
          have HR1 : Hid (∀ V : World, Rn V (.slice a5 mn c5) (x :: t) → Rn V (.slice a6 t.length c6) t) := hide hr1
          have IXG := hide hixg
          have RN5 := hide hrn5
          have HCG := hide hcg
          have HBL := hide hblk
          have HTK := hide htk
          have HXT := hide hxt
          have HLS2 := hide hLS
          have HL1 := hide hL1
          have HLI := hide hLi
          have RG2 : Hid (∀ V : World, Below wr.heap.size wr V → V.rangeAt g2 o2 (pc x)) := hide fun V hV => hrg2 V (RN5.out.on hV)
          have hu := aDd.und
          have HPX : Hid ((Try.prog.info? 24).map (·.size) = some (u8s x.d).length) := hide (by rw [wideD.size, u8s_length, x.hl])
          clear hixg hcg hu5 hrn5 hmn hix2 hrg2 hsl hr1 hblk htk hxt hLS hM hL1 hLi
          go_upto_region 9 with fail
          refine (wpIn_wide (n := n)).1 ?_
          have BD := hide (Below.refl wr.heap.size wr).drew
          refine wpIn_region_V (S := fun V : World => Below wr.heap.size wr V) (q := 18) WideF.wide (by kernel_rfl) (by kernel_rfl) (fun hCl => ?_)
          have hHeld := BD.out
          refine takeV 18 0 43 (.int .i64 (n2 : Int)) hHeld rfl rfl (by kernel_rfl) (by kernel_rfl) hCl (by kernel_rfl) (by kernel_rfl) (by kernel_rfl) (fun _ _ _ h => h) (Or.inl ⟨by rfl, fun w _ => by go_simp⟩) (fun hCl => ?_)
          simp only [Act.put, List.setIfInBounds_toArray, List.set_cons_zero, List.set_cons_succ]
          refine takeV 18 1 44 (.bool false) hHeld rfl rfl (by kernel_rfl) (by kernel_rfl) hCl (by kernel_rfl) (by kernel_rfl) (by kernel_rfl) (fun _ _ _ h => h) (Or.inl ⟨by rfl, fun w _ => by go_simp⟩) (fun hCl => ?_)
          simp only [Act.put, List.setIfInBounds_toArray, List.set_cons_zero, List.set_cons_succ]
          refine takeV 18 2 45 (.bool false) hHeld rfl rfl (by kernel_rfl) (by kernel_rfl) hCl (by kernel_rfl) (by kernel_rfl) (by kernel_rfl) (fun _ _ _ h => h) (Or.inl ⟨by rfl, fun w _ => by go_simp⟩) (fun hCl => ?_)
          simp only [Act.put, List.setIfInBounds_toArray, List.set_cons_zero, List.set_cons_succ]
          refine takeV 18 3 46 (.func (.yield l0) #[] #[]) hHeld rfl rfl (by kernel_rfl) (by kernel_rfl) hCl (by kernel_rfl) (by kernel_rfl) (by kernel_rfl) (fun _ _ _ h => h) (Or.inl ⟨by rfl, fun w _ => by go_simp⟩) (fun hCl => ?_)
          simp only [Act.put, List.setIfInBounds_toArray, List.set_cons_zero, List.set_cons_succ]
          refine takeV 18 4 47 (.slice (some ⟨g, 0, none⟩) j cl) hHeld rfl rfl (by kernel_rfl) (by kernel_rfl) hCl (by kernel_rfl) (by kernel_rfl) (by kernel_rfl) (fun _ _ _ h => h) (Or.inl ⟨by rfl, fun w _ => by go_simp⟩) (fun hCl => ?_)
          simp only [Act.put, List.setIfInBounds_toArray, List.set_cons_zero, List.set_cons_succ]
          refine takeV 18 5 48 (.int .i64 (n2 : Int)) hHeld rfl rfl (by kernel_rfl) (by kernel_rfl) hCl (by kernel_rfl) (by kernel_rfl) (by kernel_rfl) (fun _ _ _ h => h) (Or.inl ⟨by rfl, fun w _ => by go_simp⟩) (fun hCl => ?_)
          simp only [Act.put, List.setIfInBounds_toArray, List.set_cons_zero, List.set_cons_succ]
          refine takeV 18 6 49 (.pointer (some ⟨g, n2, none⟩)) hHeld rfl rfl (by kernel_rfl) (by kernel_rfl) hCl (by kernel_rfl) (by kernel_rfl) (by kernel_rfl) (fun _ _ _ h => h) (Or.inl ⟨by rfl, fun w _ => run_op rfl (IXG.out w)⟩) (fun hCl => ?_)
          simp only [Act.put, List.setIfInBounds_toArray, List.set_cons_zero, List.set_cons_succ]
          refine takeV 18 7 50 (.slice a5 mn c5) hHeld rfl rfl (by kernel_rfl) (by kernel_rfl) hCl (by kernel_rfl) (by kernel_rfl) (by kernel_rfl) (fun _ _ _ h => h) (Or.inl ⟨by rfl, fun w hw => by have hw' : w.cell? ⟨g, n2, none⟩ = some (.slice a5 mn c5) := (fun hw => by rw [hw.cell (World.block_lt_of_cell? _ _ HCG.out)]; exact HCG.out) hw; go_simp⟩) (fun hCl => ?_)
          simp only [Act.put, List.setIfInBounds_toArray, List.set_cons_zero, List.set_cons_succ]
          refine takeV 18 8 51 (.pointer (some ⟨g2, o2, none⟩)) hHeld rfl rfl (by kernel_rfl) (by kernel_rfl) hCl (by kernel_rfl) (by kernel_rfl) (by kernel_rfl) (fun _ _ _ h => h) (Or.inl ⟨by rfl, fun w _ => run_op rfl (IX2.out w)⟩) (fun hCl => ?_)
          simp only [Act.put, List.setIfInBounds_toArray, List.set_cons_zero, List.set_cons_succ]
          refine takeV 18 9 52 (.pointer (some ⟨g2, o2, none⟩)) hHeld rfl rfl (by kernel_rfl) (by kernel_rfl) hCl (by kernel_rfl) (by kernel_rfl) (by kernel_rfl) (fun _ _ _ h => h) (Or.inl ⟨by rfl, fun w _ => by go_simp⟩) (fun hCl => ?_)
          simp only [Act.put, List.setIfInBounds_toArray, List.set_cons_zero, List.set_cons_succ]
          refine takeV 18 10 53 (.agg (u8s x.d).toArray) hHeld rfl rfl (by kernel_rfl) (by kernel_rfl) hCl (by kernel_rfl) (by kernel_rfl) (by kernel_rfl) (fun _ _ _ h => h) (yieldsIf_load_mid (by rfl) _ _ rfl g2 (o2) rfl _ _ (fun V h => rangeAt_d (RG2.out V h)) hu rfl HPX.out) (fun hCl => ?_)
          simp only [Act.put, List.setIfInBounds_toArray, List.set_cons_zero, List.set_cons_succ]
          refine takeV 18 11 54 (.slice (some ⟨g, 0, none⟩) j cl) hHeld rfl rfl (by kernel_rfl) (by kernel_rfl) hCl (by kernel_rfl) (by kernel_rfl) (by kernel_rfl) (fun _ _ _ h => h) (Or.inl ⟨by rfl, fun w _ => by go_simp⟩) (fun hCl => ?_)
          simp only [Act.put, List.setIfInBounds_toArray, List.set_cons_zero, List.set_cons_succ]
          refine takeV 18 12 55 (.int .i64 (n2 : Int)) hHeld rfl rfl (by kernel_rfl) (by kernel_rfl) hCl (by kernel_rfl) (by kernel_rfl) (by kernel_rfl) (fun _ _ _ h => h) (Or.inl ⟨by rfl, fun w _ => by go_simp⟩) (fun hCl => ?_)
          simp only [Act.put, List.setIfInBounds_toArray, List.set_cons_zero, List.set_cons_succ]
          refine takeV 18 13 56 (.pointer (some ⟨g, n2, none⟩)) hHeld rfl rfl (by kernel_rfl) (by kernel_rfl) hCl (by kernel_rfl) (by kernel_rfl) (by kernel_rfl) (fun _ _ _ h => h) (Or.inl ⟨by rfl, fun w _ => run_op rfl (IXG.out w)⟩) (fun hCl => ?_)
          simp only [Act.put, List.setIfInBounds_toArray, List.set_cons_zero, List.set_cons_succ]
          refine takeV 18 14 57 (.slice a5 mn c5) hHeld rfl rfl (by kernel_rfl) (by kernel_rfl) hCl (by kernel_rfl) (by kernel_rfl) (by kernel_rfl) (fun _ _ _ h => h) (Or.inl ⟨by rfl, fun w hw => by have hw' : w.cell? ⟨g, n2, none⟩ = some (.slice a5 mn c5) := (fun hw => by rw [hw.cell (World.block_lt_of_cell? _ _ HCG.out)]; exact HCG.out) hw; go_simp⟩) (fun hCl => ?_)
          simp only [Act.put, List.setIfInBounds_toArray, List.set_cons_zero, List.set_cons_succ]
          refine takeV 18 15 58 (.pointer (some ⟨g2, o2, none⟩)) hHeld rfl rfl (by kernel_rfl) (by kernel_rfl) hCl (by kernel_rfl) (by kernel_rfl) (by kernel_rfl) (fun _ _ _ h => h) (Or.inl ⟨by rfl, fun w _ => run_op rfl (IX2.out w)⟩) (fun hCl => ?_)
          simp only [Act.put, List.setIfInBounds_toArray, List.set_cons_zero, List.set_cons_succ]
          refine takeV 18 16 59 (.pointer (some ⟨g2, o2 + 32, none⟩)) hHeld rfl rfl (by kernel_rfl) (by kernel_rfl) hCl (by kernel_rfl) (by kernel_rfl) (by kernel_rfl) (fun _ _ _ h => h) (Or.inl ⟨by rfl, fun w _ => by go_simp⟩) (fun hCl => ?_)
          simp only [Act.put, List.setIfInBounds_toArray, List.set_cons_zero, List.set_cons_succ]
          refine takeV 18 17 60 (.int .i64 x.p) hHeld rfl rfl (by kernel_rfl) (by kernel_rfl) hCl (by kernel_rfl) (by kernel_rfl) (by kernel_rfl) (fun _ _ _ h => h) (Or.inl ⟨by rfl, fun w hw => by have hw' : w.cell? ⟨g2, (o2 + 32), none⟩ = some (.int .i64 x.p) := (fun hw => rangeAt_p (RG2.out _ hw)) hw; go_simp⟩) (fun hCl => ?_)
          simp only [Act.put, List.setIfInBounds_toArray, List.set_cons_zero, List.set_cons_succ]
          refine wpAnyV_at (by kernel_rfl) rfl (by rfl) (fun K hK => ?_)
          refine wpIn_yield (l := l0) (args := encE x) rfl (fun f hf => trivial) rfl ?_ (HY.out i x wr.drew HLI.out (HJ.out.below HJ2.out BD.out)) ?_
          · intro r hr
            simp only [encE] at hr
            simp [execOp, resolve, invoke, callFunc, go_sem, hr]
          · rintro e W3 (⟨rfl, hJ3, hK3⟩ | ⟨rfl, hJx3⟩)
            · refine ⟨_, rfl, hK _ _ ?_⟩
              clear hK K
              refine wpAnyIn_take (i := 19) (v := .bool false) rfl rfl (by kernel_rfl) (by kernel_rfl) (by kernel_rfl) (fun _ _ _ h => h) ⟨Or.inl ⟨by rfl, fun w => by go_simp⟩, fun _ => rfl⟩ ?_
              refine wpAnyIn_take (i := 20) (v := .bool false) rfl rfl (by kernel_rfl) (by kernel_rfl) (by kernel_rfl) (fun _ _ _ h => h) ⟨Or.inl ⟨by rfl, fun w => by go_simp⟩, fun _ => rfl⟩ ?_
              refine wpAnyIn_done (by kernel_rfl) ?_ _
              refine Only.normal ?_
              have hb3 : Blk W3 g 59 cs := hK3.keep g _ cs (.inl rfl) (HBL.out.on BD.out)
              have HA3 := hide ((HA2.out.on BD.out).kr hK3)
              have hc3 : W3.cell? ⟨g, n2, none⟩ = some (.slice a5 mn c5) := by rw [hb3.cell, ← HBL.out.cell]; exact HCG.out
              have hf3 := hb3.free n2
              have HB3 := hide hb3
              have HJ3 := hide hJ3
              have HS3 : Hid (W.heap.size ≤ W3.heap.size) := hide (by have := HB.out.size; have := BD.out.size; have := hK3.size; omega)
              have hsl := SL1.out
              have hixg := IXG.out
              clear hb3 hJ3 hK3 hHeld hCl
              go_wp2
              have HA4 := hide (HA3.out.step hnj (by rw [HK.out]) HB3.out HTK.out HXT.out (HR1.out _ (by
                have := (RN5.out.on BD.out)
                have h2 := HA3.out.rn n2 hnj
                have h3 := HA3.out.at hnj
                obtain ⟨g', cap', cs', hv', hblk', htk', _, hcg', _⟩ := h3
                rw [HK.out] at hv'
                injection hv' with e1 _ _
                injection e1 with e1
                injection e1 with e1
                subst e1
                rw [hc3] at hcg'
                injection hcg' with hcg'
                rw [← hcg', HXT.out] at h2
                exact h2)) HLS2.out)
              have HJ4 := hide (HJ.out.row HJ3.out (But.setCell W3 g n2 (.slice a6 t.length c6)) HB3.out hBg)
              have HS4 : Hid (W.heap.size ≤ (W3.setCell ⟨g, n2, none⟩ (.slice a6 t.length c6)).heap.size) := hide (by rw [(But.setCell W3 g n2 (.slice a6 t.length c6)).size]; exact HS3.out)
              have HK4 : Hid ((ls.set n2 t).length = j) := hide (by rw [List.length_set]; exact HK.out)
              rw [← HL1.out] at HA4
              go_roundg (L.length + 1 - (i + 1))
              case measure => have := HMM.out; omega
              case rel => exact ⟨i + 1, _, _, rfl, hil, HK4, HA4, HJ4, HS4.out⟩
            · refine ⟨_, rfl, hK _ _ ?_⟩
              clear hK K
              refine wpAnyIn_take (i := 19) (v := .bool true) rfl rfl (by kernel_rfl) (by kernel_rfl) (by kernel_rfl) (fun _ _ _ h => h) ⟨Or.inl ⟨by rfl, fun w => by go_simp⟩, fun _ => rfl⟩ ?_
              refine wpAnyIn_take (i := 20) (v := .bool true) rfl rfl (by kernel_rfl) (by kernel_rfl) (by kernel_rfl) (fun _ _ _ h => h) ⟨Or.inl ⟨by rfl, fun w => by go_simp⟩, fun _ => rfl⟩ ?_
              refine wpAnyIn_done (by kernel_rfl) ?_ _
              refine Only.normal ?_
              have HJX := hide hJx3
              clear hJx3 hHeld hCl
              go_wp2
              refine bodyPost_end (results_none rfl _ _ _) rfl ?_
              exact ⟨⟨_, rfl⟩, .inr ⟨i + 1, hil, HJX.out⟩⟩

end Go.Proofs.Ytabpfbankinojaa
