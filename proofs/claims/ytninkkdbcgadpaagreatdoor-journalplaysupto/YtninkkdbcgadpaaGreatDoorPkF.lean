/-
  Texts one behind the other: Jop Joq Jcl Jro Jli Jsm Jci Kqp Kqq Kqr Jlw Jnh Jqa.
-/
import Derived.Test.YtninkkdbcgadpaaGreatDoorPkC
import Derived.Test.YtninkkdbcgadpaaGreatDoorPkE
import Derived.Test.YtninkkdbcgadpaaGreatDoorPkB
import Derived.Test.YtninkkdbcgadpaaGreatDoorKqm0
import Derived.Test.YtninkkdbcgadpaaGreatDoorPkA
import Derived.Test.YtninkkdbcgadpaaGreatDoorPkD
import Derived.Test.YtninkkdbcgadpaaGreatDoorKmj
import Derived.OwnWalk
import Derived.Deep.Cut

/-
  The walks of begin, remove and Open.
-/
namespace Go.Proofs.YtninkkdbcgadpaaGreatDoor
open Go.RowKit Go.Shelf
set_option linter.unusedVariables false
set_option linter.unusedSimpArgs false
set_option maxRecDepth 100000

section
variable {dst : Option Tmp} {ty : TypeId} {pos : String} {aft : Array Edge} {gd : Option (Nat × Bool)} {ops : Array Oper} {rest : List Oper} {a : Act} {w : World} {Q : Exit → Act → World → Prop}
theorem run_buildJn (p : Option Addr) (g : Int) (w : World) : (Instr.build 50 #[(0, .pointer p), (1, .int .i64 g)]).run Tryz.prog w = .ok (.agg (jnC p g (.slice none 0 0)).toArray) w := by kernel_rfl
theorem step_buildJn {x y : Operand} {p : Option Addr} {g : Int} (hw : Region.wanted ⟨dst, .build 50 #[(0, x), (1, y)], ty, pos, aft, gd⟩ (yielded ops a.tmps) = true) (hx : a.eval x = .pointer p) (hy : a.eval y = .int .i64 g)
    (h : wpList Tryz.prog ops Q rest (a.put dst (.agg (jnC p g (.slice none 0 0)).toArray)) w) : wpList Tryz.prog ops Q (⟨dst, .build 50 #[(0, x), (1, y)], ty, pos, aft, gd⟩ :: rest) a w :=
  step_run hw _ w (run_op (M := Instr.build 50 #[(0, .pointer p), (1, .int .i64 g)]) (by simp [execOp, hx, hy]) (run_buildJn p g w)) h
end
/-- What Open leaves: a journal in memory of its own, over the disk. -/
def OpnR (w w' : World) (d j s : Nat) (D : Dm) (rs' : List Rw) (g : Nat) (ls : List (List Int)) : Prop :=
  ∃ D' M, PJ w' d j s rs' D' g ls M ∧ Chs (D.own d) w w' ∧ w.heap.size ≤ j ∧ (∀ k, D'.own d k → D.own d k ∨ w.heap.size ≤ k) ∧ ∀ k, JF d j D' M k → (D.own d k ∨ D.ro k) ∨ w.heap.size ≤ k
theorem pj_new {w w1 : World} {d s g : Nat} {rs : List Rw} {D : Dm} {j : Nat} (h : DkAt w d s rs D) (hb : Below w.heap.size w w1) (hj : Blk w1 j 50 (jnC (some ⟨d, 0, none⟩) (g : Int) (.slice none 0 0))) : PJ w1 d j s rs D g [] jm0 :=
  ⟨h.below hb, ⟨hj, OwnV.nil _ _ _, Cts.nil _ _, (fun l hl => by cases hl)⟩, fun k ⟨v, hv, _⟩ => by cases hv⟩
theorem rp_open {w w1 w2 : World} {d j s : Nat} {D D' : Dm} {M : Jm} {rs' : List Rw} {g : Nat} {ls : List (List Int)} (hc : Chs (D.own d) w w1) (hjl : w.heap.size ≤ j) (hm : ∀ k, M.own j k ∨ M.ro k → w.heap.size ≤ k) (h : RpR w1 w2 d j s D M rs' g ls D') : OpnR w w2 d j s D rs' g ls := by
  have hs := hc.size
  refine ⟨D', M, h.pj, hc.after h.ch (fun k hk => .inl hk), hjl, fun k hk => (h.ow k hk).imp id (fun h => Nat.le_trans hs h), fun k hk => ?_⟩
  rcases hk with hk | hk | hk
  · rcases h.ow k hk with e | e
    · exact .inl (.inl e)
    · exact .inr (by omega)
  · rcases h.ro k hk with e | e
    · exact .inl (.inr e)
    · exact .inr (by omega)
  · exact .inr (hm k hk)
set_option maxHeartbeats 1000000 in
theorem begin_any (d s : Nat) (rs : List Rw) (D : Dm) (w : World) (h : DkAt w d s rs D) (ht : TT w) (hc : crE rs (jN 1) = 0) (hwt : wt rs + 1 ≤ 1099511000000) :
    Calls Tryz.prog 33 #[.pointer (some ⟨d, 0, none⟩)] w fun e w' => ∃ j, e = .returned (.tuple #[.pointer (some ⟨j, 0, none⟩), .int .i64 0]) ∧ OpnR w w' d j s D (crS rs (jN 1)) 1 [] := by
  have HH := hide h
  have HT := hide ht
  have HC := hide hc
  have HW := hide hwt
  have NM : Hid (∀ W, TT W → Calls Tryz.prog 37 #[.int .i64 1] W fun r w' => r = .returned (.string (jN 1)) ∧ Below W.heap.size W w') := hide (fun W hW => name_any 1 W (by omega) hW.pt)
  obtain ⟨A, HA⟩ : ∃ A, Hid (jN 1 = A) := ⟨_, hide rfl⟩
  rw [HA.out] at NM HC
  rw [HA.out]
  clear h ht hc hwt
  go_enter Tryz.func33, Tryz.ntmps33
  go_wp2_with (first | (refine step_buildJn rfl rfl rfl ?_) | (refine step_box (cs := jnC (some ⟨d, 0, none⟩) 1 (.slice none 0 0)) rfl rfl ?_))
  intro w1 j hj hle hb
  have P1 := hide (pj_new (g := 1) HH.out hb hj)
  have c1 : w1.cell? ⟨j, 1, none⟩ = some (.int .i64 1) := P1.out.jn.c1
  have T1 := hide (HT.out.on hb)
  have B1 := hide hb
  clear hj hb
  go_wp2_with fail
  refine (NM.out w1 T1.out).mono ?_
  rintro e w2 ⟨rfl, hb2⟩
  have R2 := hide ((RpR.refl P1.out).on hb2)
  clear c1 hb2 T1
  go_wp2_with fail
  refine (create_any d s rs D _ R2.out.pj.dk A (by have := HW.out; omega)).mono ?_
  rw [HC.out]
  rintro e w3 ⟨rfl, hop⟩
  obtain ⟨D3, r3⟩ := R2.out.step hop
  have R3 := hide r3
  clear hop r3 R2
  go_wp2
  go_ret2
  refine ⟨j, rfl, rp_open (Chs.of_below _ B1.out) hle (fun k hk => ?_) R3.out⟩
  rcases hk with (rfl | hk) | ⟨v, hv, _⟩
  · exact hle
  · cases hk
  · cases hv
set_option maxHeartbeats 2000000 in
theorem remove_all (d j s : Nat) (rs : List Rw) (D : Dm) (g : Nat) (ls : List (List Int)) (M : Jm) (w : World) (h : PJ w d j s rs D g ls M) (ht : TT w) (t : List Nat) (hn : t.Nodup) (hx : ∀ k ∈ t, k ≤ 2147483647 ∧ (play rs (jN k)).isSome = true) (b o c : Nat) (hcl : ∀ i, i < t.length → w.cell? ⟨b, o + i, none⟩ = some (.int .i64 (t.getD i 0 : Int))) (hb : ¬ D.own d b) (p : Option Addr) (hp : 0 < t.length → p = some ⟨b, o, none⟩) (hix : ∀ i, i < t.length → ∀ v : World, (Instr.indexAt 77 (.slice p t.length c) (.int .i64 (i : Int))).run Tryz.prog v = .ok (.pointer (some ⟨b, o + i, none⟩)) v) (hF : ∀ W, Chs (D.own d) w W → TT W) (hl : t.length ≤ 1000000) (hwt : wt rs + t.length + 1 ≤ 1099511000000) :
    Calls Tryz.prog 35 #[.pointer (some ⟨d, 0, none⟩), .slice p t.length c] w fun e w' => e = .returned (.int .i64 0) ∧ ∃ D', RpR w w' d j s D M (rmAll rs t) g ls D' := by
  have HH := hide h
  have HN := hide hn
  have HX := hide hx
  have HCL := hide hcl
  have HB := hide hb
  have HIX := hide hix
  have HF := hide hF
  have HW := hide hwt
  obtain ⟨n, HL⟩ : ∃ n, Hid (t.length = n) := ⟨_, hide rfl⟩
  rw [HL.out] at HCL HIX HW hl
  rw [HL.out]
  clear h ht hn hx hcl hb hp hix hF hwt
  go_enter Tryz.func35, Tryz.ntmps35
  go_wp2
  go_loopw [10] (fun p wr => ∃ i : Nat, i ≤ n ∧ p = .int .i64 (i : Int) ∧ ∃ D', Hid (RpR w wr d j s D M (rmAll rs (t.take i)) g ls D')) (fun p _ => n - (intOf p).toNat)
  case atStart => exact ⟨0, Nat.zero_le _, rfl, D, hide (by simpa [rmAll] using RpR.refl HH.out)⟩
  case round =>
    obtain ⟨i, hi, rfl, D', HR⟩ := hrel
    by_cases hlt : i < n
    · have hlti : (i : Int) < (n : Int) := by omega
      have hit : i < t.length := by rw [HL.out]; exact hlt
      obtain ⟨q, HQ⟩ : ∃ q, Hid (t.getD i 0 = q) := ⟨_, hide rfl⟩
      have hqt : t.take (i + 1) = t.take i ++ [q] := by
        rw [List.take_succ_eq_append_getElem hit, ← HQ.out]
        simp [List.getD, hit]
      have hqm : q ∈ t := by
        rw [← HQ.out]
        simp only [List.getD, List.getElem?_eq_getElem hit, Option.getD_some]
        exact List.getElem_mem hit
      have HQT := hide hqt
      have hq7 : q ≤ 2147483647 := (HX.out q hqm).1
      have hc : wr.cell? ⟨b, o + i, none⟩ = some (.int .i64 (q : Int)) := by
        have h1 := HCL.out i hlt
        rw [HQ.out] at h1
        rw [World.cell?_of_block (w := w) (HR.out.ch.block b (World.block_lt_of_cell? w _ h1) HB.out)]
        exact h1
      have hxi := HIX.out i hlt
      have HTT := hide (HF.out wr HR.out.ch)
      have HFE : Hid (fE (rmAll rs (t.take i)) (jN q) = 0) := hide (rmAll_fE rs (t.take i) q (by rw [← hqt]; exact HN.out.sublist (List.take_sublist _ _)) (fun k hk => HX.out k (by rw [← hqt] at hk; exact List.mem_of_mem_take hk)))
      have HWI : Hid (wt (rmAll rs (t.take i)) + 1 ≤ 1099511000000) := hide (by
        have h1 := rmAll_wt rs (t.take i)
        rw [List.length_take] at h1
        have h2 := HW.out
        omega)
      clear hqt hqm
      go_wp2_with fail
      refine (name_any q wr hq7 HTT.out.pt).mono ?_
      rintro e w2 ⟨rfl, hb2⟩
      have R2 := hide (HR.out.on hb2)
      clear hb2 hc hxi HTT HR
      go_wp2_with fail
      refine (remove_any d s (rmAll rs (t.take i)) D' _ R2.out.pj.dk (jN q) HWI.out).mono ?_
      rw [HFE.out]
      rintro e w3 ⟨rfl, hop⟩
      obtain ⟨D3, r3⟩ := R2.out.step hop
      rw [← rmAll_snoc, ← HQT.out] at r3
      have R3 := hide r3
      clear hop r3 R2
      go_wp2
      go_roundw
      case rel => exact ⟨i + 1, by omega, by go_num, D3, R3⟩
      case measure => simp only [intOf]; omega
    · have hlti : ¬ (i : Int) < (n : Int) := by omega
      have hin : i = n := by omega
      have hfin := HR.out
      rw [hin, List.take_of_length_le (by rw [HL.out]; exact Nat.le_refl _)] at hfin
      have HFIN := hide hfin
      clear hfin hin
      go_wp2
      go_ret
      exact ⟨rfl, D', HFIN.out⟩

end Go.Proofs.YtninkkdbcgadpaaGreatDoor

/-
  The walk of Open.
-/
namespace Go.Proofs.YtninkkdbcgadpaaGreatDoor
open Go.RowKit Go.Shelf
set_option linter.unusedVariables false
set_option linter.unusedSimpArgs false
set_option maxRecDepth 100000

theorem Tin.at2 {L T : TypeId} {z : Value} {by' : Nat} (t : Tin L T z by') (b o n cap i : Nat) (hi : i < n) (v : World) : (Instr.indexAt L (.slice (some ⟨b, o, none⟩) n cap) (.int .i64 (i : Int))).run Tryz.prog v = .ok (.pointer (some ⟨b, o + i, none⟩)) v := by
  have hu : Tryz.prog.underlying L = some (.slice (Tryz.prog.elem L)) := by rw [t.elem]; exact t.und
  rw [run_indexAt_slice v _ _ _ _ .i64 i hu, if_pos ⟨by omega, by omega⟩, t.elem, t.size]
  simp only [Result.andThen_ok, Int.toNat_natCast]
  rw [Addr.add_lit, Nat.mul_one]
/-- found[1:] -/
theorem slI_from (g n cap : Nat) (h1 : n + 1 ≤ cap) : ∃ p, (∀ v : World, (Instr.slice 77 (.slice (some ⟨g, 0, none⟩) (n + 1) cap) (some (.int .i64 1)) none none).run Tryz.prog v = .ok (.slice p n (cap - 1)) v) ∧ (0 < n → p = some ⟨g, 1, none⟩) := by
  have hu : Tryz.prog.underlying 77 = some (.slice (Tryz.prog.elem 77)) := by rw [tinI.elem]; exact tinI.und
  refine ⟨if cap = 1 then some ⟨g, 0, none⟩ else some ⟨g, 1, none⟩, fun v => ?_, fun hn => if_neg (by omega)⟩
  have := run_slice_l (P := Tryz.prog) v 77 (some ⟨g, 0, none⟩) (n + 1) cap hu .i64 1 (by omega) (by omega)
  rw [tinI.elem, tinI.size] at this
  rw [this]
  by_cases hc : cap = 1
  · subst hc
    have : n = 0 := by omega
    subst this
    simp [sliced]
  · simp [sliced, hc, Addr.add_lit]
section
variable (d s : Nat) (rs : List Rw) (D : Dm) (w : World) (h : DkAt w d s rs D) (ht : TT w)
include h ht
set_option maxHeartbeats 2000000 in
theorem jopen_new (hG : Gens (play rs) []) (hfw : ∀ l, FL (play rs) l → l.length ≤ 1000000) (hwt : wt rs + 1 ≤ 1099511000000) :
    Calls Tryz.prog 8 #[.pointer (some ⟨d, 0, none⟩)] w fun e w' => ∃ j, e = .returned (.tuple #[.pointer (some ⟨j, 0, none⟩), .int .i64 0]) ∧ OpnR w w' d j s D (crS rs (jN 1)) 1 [] := by
  have hs1 := h.s1
  have hne : ((s : Int) == 0) = false := by rw [beq_eq_false_iff_ne]; omega
  have hcr : crE rs (jN 1) = 0 := crE_none (jN_nm (by omega)) (by
    cases hf : play rs (jN 1) with
    | none => rfl
    | some y =>
      have := (hG.mem 1).2 ⟨by omega, by omega, by rw [hf]; rfl⟩
      cases this)
  have HS := hide (sector_any d s rs D w h)
  have HGA := hide (gens_any d s rs D w h (by omega) hfw)
  have HH := hide h
  have HT := hide ht
  have HG := hide hG
  have HC := hide hcr
  have HW := hide hwt
  clear h ht hG hcr hfw hwt
  go_enter Tryz.func8, Tryz.ntmps8
  go_wp2_with fail
  refine HS.out.mono ?_
  rintro e w ⟨rfl, rfl⟩
  go_wp2_with fail
  refine HGA.out.mono ?_
  rintro e w1 ⟨v, gl, rfl, hgl, hrow, hb1⟩
  obtain rfl : gl = [] := hgl.uniq HG.out
  obtain ⟨va, vc, rfl⟩ := hrow.slice
  have hz : (nI []).length = 0 := rfl
  rw [hz]
  have B1 := hide hb1
  clear hrow hgl hb1 HGA hz
  go_wp2_with fail
  refine (begin_any d s rs D w1 (HH.out.below B1.out) (HT.out.on B1.out) HC.out (by have := HW.out; omega)).mono ?_
  rintro e w2 ⟨j, rfl, D2, M2, p1, p2, p3, p5, p4⟩
  have HFIN : Hid (OpnR w w2 d j s D (crS rs (jN 1)) 1 []) := hide ⟨D2, M2, p1, (Chs.of_below _ B1.out).after p2 (fun k hk => .inl hk), Nat.le_trans B1.out.size p3, fun k hk => (p5 k hk).imp id (fun h => Nat.le_trans B1.out.size h), fun k hk => (p4 k hk).imp id (fun h => Nat.le_trans B1.out.size h)⟩
  clear p1 p2 p3 p4 p5
  go_wp2
  go_ret2
  exact ⟨j, rfl, HFIN.out⟩
set_option maxHeartbeats 4000000 in
theorem jopen_lost (g : Nat) (t : List Nat) (hG : Gens (play rs) (g :: t)) (hfw : ∀ l, FL (play rs) l → l.length ≤ 1000000) (xs : List Int) (L : List (Int × List Int)) (P : Nat → Nat) (E : Int) (hp : play rs (jN g) = some xs) (hib : isB xs) (hxl : xs.length ≤ 8000000) (hF : Frs xs L P E) (hS : ¬ Shrt L) (hwt : wt rs + t.length + 2 ≤ 1099511000000) :
    Calls Tryz.prog 8 #[.pointer (some ⟨d, 0, none⟩)] w fun e w' => e = .returned (.tuple #[.pointer none, .int .i64 130]) ∧ Below w.heap.size w w' := by
  have hs1 := h.s1
  have hne : ((s : Int) == 0) = false := by rw [beq_eq_false_iff_ne]; omega
  have hg := (hG.mem g).1 (by simp)
  have HS := hide (sector_any d s rs D w h)
  have HGA := hide (gens_any d s rs D w h (by omega) hfw)
  have HH := hide h
  have HT := hide ht
  have HG := hide hG
  have HP := hide hp
  have HF := hide hF
  have HW := hide hwt
  have HX := hide hxl
  have HIB := hide hib
  clear h ht hG hfw hwt hp hF hxl hib
  go_enter Tryz.func8, Tryz.ntmps8
  go_wp2_with fail
  refine HS.out.mono ?_
  rintro e w ⟨rfl, rfl⟩
  go_wp2_with fail
  refine HGA.out.mono ?_
  rintro e w1 ⟨v, gl, rfl, hgl, hrow, hb1⟩
  obtain rfl : gl = g :: t := hgl.uniq HG.out
  rcases hrow.lies with ⟨_, e0⟩ | ⟨gb, cap, cs, rfl, hgb, hblk, hcap, htk⟩
  · cases e0
  have hz : (nI (g :: t)).length = t.length + 1 := by simp [nI]
  rw [hz] at hcap htk
  rw [hz]
  have hcell : ∀ i, i < t.length + 1 → cs[i]? = some (.int .i64 ((g :: t).getD i 0 : Int)) := fun i hi => by
    have h1 := congrArg (fun l => l[i]?) htk
    simp only [List.getElem?_take, if_pos hi] at h1
    rw [h1]
    simp only [nI, List.getElem?_map, List.getD]
    rw [List.getElem?_eq_getElem (by simpa using hi)]
    rfl
  have HCE := hide hcell
  have BK := hide hblk
  have c0 : w1.cell? ⟨gb, 0, none⟩ = some (.int .i64 (g : Int)) := by rw [hblk.cell]; exact hcell 0 (by omega)
  obtain ⟨n, HN⟩ : ∃ n, Hid (t.length = n) := ⟨_, hide rfl⟩
  rw [HN.out] at hcap
  rw [HN.out]
  have hix := tinI.at2 gb 0 (n + 1) cap 0 (by omega)
  have hn1 : (((n + 1 : Nat) : Int) == 0) = false := by rw [beq_eq_false_iff_ne]; omega
  have hn2 : (((n : Int) + 1) == 0) = false := by rw [beq_eq_false_iff_ne]; omega
  have B1 := hide hb1
  clear hrow hgl hb1 HGA hz hblk hcell htk
  go_wp2_with (first | (refine step_buildJn rfl rfl rfl ?_) | (refine step_box (cs := jnC (some ⟨d, 0, none⟩) (g : Int) (.slice none 0 0)) rfl rfl ?_))
  intro w2 j hj hle hb2
  have P2 := hide (pj_new (g := g) HH.out (on_below B1.out hb2) hj)
  have T2 := hide (HT.out.on (on_below B1.out hb2))
  have B2 := hide (on_below B1.out hb2)
  have hjl : w.heap.size ≤ j := Nat.le_trans B1.out.size hle
  have BK2 := hide (BK.out.on hb2)
  clear hj hb2 c0 hix BK B1
  go_wp2_with fail
  refine (load_any d j s rs D g w2 P2.out T2.out hg.2.1 xs L P E HP.out HIB.out HX.out HF.out (by have := HW.out; omega)).mono ?_
  rintro e w3 ⟨hch, ⟨hs, _⟩ | ⟨_, rfl⟩⟩
  · exact absurd hs hS
  have B3 := hide (B2.out.trans (hch.below (B := w.heap.size) (fun k hk e => by omega) B2.out.size))
  clear hch
  go_wp2
  go_ret2
  exact ⟨rfl, B3.out⟩
set_option maxHeartbeats 4000000 in
theorem jopen_old (htf : ∀ W, Chs (D.own d) w W → TT W) (g : Nat) (t : List Nat) (hG : Gens (play rs) (g :: t)) (hfw : ∀ l, FL (play rs) l → l.length ≤ 1000000) (htl : t.length ≤ 1000000) (xs : List Int) (L : List (Int × List Int)) (P : Nat → Nat) (E : Int) (hp : play rs (jN g) = some xs) (hib : isB xs) (hxl : xs.length ≤ 8000000) (hF : Frs xs L P E) (hS : Shrt L) (hwt : wt rs + t.length + 2 ≤ 1099511000000) :
    Calls Tryz.prog 8 #[.pointer (some ⟨d, 0, none⟩)] w fun e w' => ∃ j, e = .returned (.tuple #[.pointer (some ⟨j, 0, none⟩), .int .i64 0]) ∧ OpnR w w' d j s D (opS rs g t (P L.length)) g (L.map (·.2)) := by
  have HPL := hide (hF.le hib L.length (Nat.le_refl _)).1
  have hs1 := h.s1
  have hne : ((s : Int) == 0) = false := by rw [beq_eq_false_iff_ne]; omega
  have hg := (hG.mem g).1 (by simp)
  have HS := hide (sector_any d s rs D w h)
  have HGA := hide (gens_any d s rs D w h (by omega) hfw)
  have HH := hide h
  have HT := hide ht
  have HG := hide hG
  have HP := hide hp
  have HF := hide hF
  have HW := hide hwt
  have HX := hide hxl
  have HIB := hide hib
  clear h ht hG hfw hwt hp hF hxl hib
  go_enter Tryz.func8, Tryz.ntmps8
  go_wp2_with fail
  refine HS.out.mono ?_
  rintro e w ⟨rfl, rfl⟩
  go_wp2_with fail
  refine HGA.out.mono ?_
  rintro e w1 ⟨v, gl, rfl, hgl, hrow, hb1⟩
  obtain rfl : gl = g :: t := hgl.uniq HG.out
  rcases hrow.lies with ⟨_, e0⟩ | ⟨gb, cap, cs, rfl, hgb, hblk, hcap, htk⟩
  · cases e0
  have hz : (nI (g :: t)).length = t.length + 1 := by simp [nI]
  rw [hz] at hcap htk
  rw [hz]
  have hcell : ∀ i, i < t.length + 1 → cs[i]? = some (.int .i64 ((g :: t).getD i 0 : Int)) := fun i hi => by
    have h1 := congrArg (fun l => l[i]?) htk
    simp only [List.getElem?_take, if_pos hi] at h1
    rw [h1]
    simp only [nI, List.getElem?_map, List.getD]
    rw [List.getElem?_eq_getElem (by simpa using hi)]
    rfl
  have HCE := hide hcell
  have BK := hide hblk
  have c0 : w1.cell? ⟨gb, 0, none⟩ = some (.int .i64 (g : Int)) := by rw [hblk.cell]; exact hcell 0 (by omega)
  obtain ⟨n, HN⟩ : ∃ n, Hid (t.length = n) := ⟨_, hide rfl⟩
  rw [HN.out] at hcap
  rw [HN.out]
  have hix := tinI.at2 gb 0 (n + 1) cap 0 (by omega)
  have hn1 : (((n + 1 : Nat) : Int) == 0) = false := by rw [beq_eq_false_iff_ne]; omega
  have hn2 : (((n : Int) + 1) == 0) = false := by rw [beq_eq_false_iff_ne]; omega
  have B1 := hide hb1
  clear hrow hgl hb1 HGA hz hblk hcell htk
  go_wp2_with (first | (refine step_buildJn rfl rfl rfl ?_) | (refine step_box (cs := jnC (some ⟨d, 0, none⟩) (g : Int) (.slice none 0 0)) rfl rfl ?_))
  intro w2 j hj hle hb2
  have P2 := hide (pj_new (g := g) HH.out (on_below B1.out hb2) hj)
  have T2 := hide (HT.out.on (on_below B1.out hb2))
  have B2 := hide (on_below B1.out hb2)
  have hjl : w.heap.size ≤ j := Nat.le_trans B1.out.size hle
  have BK2 := hide (BK.out.on hb2)
  clear hj hb2 c0 hix BK B1
  go_wp2_with fail
  refine (load_any d j s rs D g w2 P2.out T2.out hg.2.1 xs L P E HP.out HIB.out HX.out HF.out (by have := HW.out; omega)).mono ?_
  rintro e w3 ⟨hch, hcase⟩
  obtain ⟨rfl, M, hpj, hmo⟩ : e = .returned (.tuple #[.int .i64 (P L.length : Int), .int .i64 0]) ∧ ∃ M', PJ w3 d j s rs D g (L.map (·.2)) M' ∧ ∀ k, M'.own j k ∨ M'.ro k → k = j ∨ w2.heap.size ≤ k := by
    rcases hcase with ⟨_, h2, h3⟩ | ⟨hs, _⟩
    · exact ⟨h2, h3⟩
    · exact absurd hS hs
  have P3 := hide hpj
  have T3 := hide (T2.out.chj P2.out.jn.blk hch)
  have C3 : Hid (Chs (D.own d) w w3) := hide ((Chs.of_below _ B2.out).after hch (fun k hk => .inr (by rw [hk]; exact hjl)))
  have MO : Hid (∀ k, M.own j k ∨ M.ro k → w.heap.size ≤ k) := hide (fun k hk => by
    rcases hmo k hk with e | e
    · rw [e]; exact hjl
    · exact Nat.le_trans B2.out.size e)
  have BK3 : Hid (Blk w3 gb 3 cs) := hide (BK2.out.chs hch (fun e => by
    subst e
    exact P2.out.jn.blk.apart BK2.out (by decide) rfl))
  obtain ⟨p, hsl, hp0⟩ := slI_from gb n cap hcap
  have HND : Hid (t.Nodup ∧ ∀ k ∈ t, k ≤ 2147483647 ∧ (play rs (jN k)).isSome = true) := hide ⟨(List.nodup_cons.1 (HG.out.srt.imp (fun {x y} hxy => Nat.ne_of_lt hxy))).2, fun k hk => by
    have := (HG.out.mem k).1 (by simp [hk])
    exact ⟨this.2.1, this.2.2⟩⟩
  have HDB : Hid (¬ D.own d gb) := hide (fun hd => by have := HH.out.lt (.inl hd); omega)
  have RM : Hid (Calls Tryz.prog 35 #[.pointer (some ⟨d, 0, none⟩), .slice p n (cap - 1)] w3 fun e w' => e = .returned (.int .i64 0) ∧ ∃ D', RpR w3 w' d j s D M (rmAll rs t) g (L.map (·.2)) D') := hide (by
    have := remove_all d j s rs D g (L.map (·.2)) M w3 P3.out T3.out t HND.out.1 HND.out.2 gb 1 (cap - 1) (fun i hi => by
      rw [BK3.out.cell, HCE.out (1 + i) (by omega), Nat.add_comm 1 i]
      rfl) HDB.out p (fun h0 => hp0 (by rw [← HN.out]; exact h0)) (fun i hi v => by
      rw [hp0 (by rw [← HN.out]; omega)]
      exact tinI.at2 gb 1 t.length (cap - 1) i hi v) (fun W hW => htf W (C3.out.after hW (fun k hk => .inl hk))) htl (by have := HW.out; omega)
    rw [HN.out] at this
    exact this)
  obtain ⟨Z, HZ⟩ : ∃ Z, Hid (P L.length = Z) := ⟨_, hide rfl⟩
  rw [HZ.out] at HPL
  rw [HZ.out]
  have OP := hide (open_pure HG.out HP.out HPL.out)
  have HTF := hide htf
  clear hpj hmo hch hcase P2 T2 B2 BK2 hp0 htf
  go_wp2_with fail
  refine RM.out.mono ?_
  rintro e w4 ⟨rfl, D4, r4⟩
  have R4 := hide r4
  have T4 := hide (HTF.out w4 (C3.out.after r4.ch (fun k hk => .inl hk)))
  have c1 := r4.pj.jn.c1
  clear r4 RM T3 P3 BK3
  go_wp2_with fail
  refine (name_any g w4 hg.2.1 T4.out.pt).mono ?_
  rintro e w5 ⟨rfl, hb5⟩
  have R5 := hide (R4.out.on hb5)
  clear hb5 R4 T4 c1
  go_wp2_with fail
  refine (cut_any d s (rmAll rs t) D4 w5 R5.out.pj.dk (jN g) (Z : Int) (by
    have h1 := rmAll_wt rs t
    have h2 := HW.out
    omega)).mono ?_
  rw [OP.out.1]
  rintro e w6 ⟨rfl, hop⟩
  obtain ⟨D6, r6⟩ := R5.out.step hop
  have HFIN : Hid (OpnR w w6 d j s D (opS rs g t Z) g (L.map (·.2))) := hide (rp_open C3.out hjl MO.out r6)
  clear hop r6 R5
  go_wp2
  go_ret2
  refine ⟨j, rfl, ?_⟩
  rw [HZ.out]
  exact HFIN.out
end

end Go.Proofs.YtninkkdbcgadpaaGreatDoor

/-
  The walk of Clear.
-/
namespace Go.Proofs.YtninkkdbcgadpaaGreatDoor
open Go.RowKit Go.Shelf
set_option linter.unusedVariables false
set_option linter.unusedSimpArgs false
set_option maxRecDepth 100000

section
variable {w : World} {j d g : Nat} {ls : List (List Int)} {M : Jm} (h : JnAt w j d g ls M)
include h
set_option maxHeartbeats 1000000 in
theorem jclear_bad (k : Int) (hk : k < 0 ∨ (ls.length : Int) < k) : Calls Tryz.prog 12 #[.pointer (some ⟨j, 0, none⟩), .int .i64 k] w fun e w' => e = .returned (.int .i64 2) ∧ w' = w := by
  have c0 := h.c0
  have c2 := h.c2
  obtain ⟨a, c, e⟩ := h.slice
  rw [e] at c2
  clear h e
  by_cases h1 : k < 0
  · clear hk
    go_enter Tryz.func12, Tryz.ntmps12
    go_wp2_with (go_at_call 47; refine (jmade_ok _ _ _ c0).mono ?_; rintro e w ⟨rfl, rfl⟩)
    go_ret
    exact ⟨rfl, rfl⟩
  · have h2 : (ls.length : Int) < k := by omega
    clear hk
    go_enter Tryz.func12, Tryz.ntmps12
    go_wp2_with (go_at_call 47; refine (jmade_ok _ _ _ c0).mono ?_; rintro e w ⟨rfl, rfl⟩)
    go_ret
    exact ⟨rfl, rfl⟩
set_option maxHeartbeats 1000000 in
theorem jclear_0 : Calls Tryz.prog 12 #[.pointer (some ⟨j, 0, none⟩), .int .i64 0] w fun e w' => e = .returned (.int .i64 0) ∧ w' = w := by
  have c0 := h.c0
  have c2 := h.c2
  obtain ⟨a, c, e⟩ := h.slice
  rw [e] at c2
  have hn : ¬ (ls.length : Int) < 0 := by omega
  clear h e
  go_enter Tryz.func12, Tryz.ntmps12
  go_wp2_with (go_at_call 47; refine (jmade_ok _ _ _ c0).mono ?_; rintro e w ⟨rfl, rfl⟩)
  go_ret
  exact ⟨rfl, rfl⟩
set_option maxHeartbeats 1000000 in
theorem jclear_top (k : Nat) (hk : 0 < k) (hl : k ≤ ls.length) (hg : g = 2147483647) : Calls Tryz.prog 12 #[.pointer (some ⟨j, 0, none⟩), .int .i64 (k : Int)] w fun e w' => e = .returned (.int .i64 3) ∧ w' = w := by
  have c0 := h.c0
  have c1 := h.c1
  have c2 := h.c2
  obtain ⟨a, c, e⟩ := h.slice
  rw [e] at c2
  rw [hg] at c1
  have h0 : ¬ (k : Int) < 0 := by omega
  have h1 : ¬ (ls.length : Int) < (k : Int) := by omega
  have h2 : ((k : Int) == 0) = false := by rw [beq_eq_false_iff_ne]; omega
  clear h e hg
  go_enter Tryz.func12, Tryz.ntmps12
  go_wp2_with (go_at_call 47; refine (jmade_ok _ _ _ c0).mono ?_; rintro e w ⟨rfl, rfl⟩)
  go_ret
  exact ⟨rfl, rfl⟩
end
/-- The stores at the end of Clear. -/
theorem clear_end {w w1 w2 w3 : World} {d j s : Nat} {rs rs' : List Rw} {D D' : Dm} {g : Nat} {ls ds : List (List Int)} {M : Jm} {lv fv : Value} {vs : List Value} (h : PJ w d j s rs D g ls M) (hf : FrO w w1 lv fv vs ds) (hds : ∀ l ∈ ds, l ∈ ls) (hr : RpR w1 w2 d j s D M rs' g ls D')
    (h3 : w3 = (w2.setCell ⟨j, 1, none⟩ (.int .i64 ((g + 1 : Nat) : Int))).setCell ⟨j, 2, none⟩ lv) : JR w w3 d j s D M rs' (g + 1) ds := by
  have b1 : But j w2 (w2.setCell ⟨j, 1, none⟩ (.int .i64 ((g + 1 : Nat) : Int))) := But.setCell _ _ _ _
  have b2 : But j (w2.setCell ⟨j, 1, none⟩ (.int .i64 ((g + 1 : Nat) : Int))) w3 := by rw [h3]; exact But.setCell _ _ _ _
  have hblk : Blk w3 j 50 (jnC (some ⟨d, 0, none⟩) ((g + 1 : Nat) : Int) lv) := by
    rw [h3]
    exact (hr.pj.jn.blk.set 1 _).set 2 _
  have s1 := hf.bel.size
  have s2 := hr.ch.size
  have k23 : ∀ k, k ≠ j → w3.heap[k]? = w2.heap[k]? := fun k hk => (b2.block k hk).trans (b1.block k hk)
  have hjlt := h.jn.blk.lt
  have lvr : ∀ k, lv.ownBlock = some k → w.heap.size ≤ k ∧ k < w1.heap.size := fun k hk => hf.row.lt k hk
  have vr : ∀ v ∈ vs, ∀ k, v.ownBlock = some k → w.heap.size ≤ k ∧ k < w1.heap.size := fun v hv k hk => by
    obtain ⟨l, _, ho⟩ := hf.cts.mem hv
    obtain ⟨cs, hc⟩ := ho.lies hk
    exact ⟨ho.lt k hk, hc.lt⟩
  have hD : ∀ k, D.own d k → k < w.heap.size := fun k hk => h.dk.lt (.inl hk)
  have keep : ∀ k, w.heap.size ≤ k → k < w1.heap.size → w3.heap[k]? = w1.heap[k]? := fun k h1 h2 => by
    rw [k23 k (by omega), hr.ch.block k h2 (fun e => by have := hD k e; omega)]
  refine ⟨D', ⟨lv, vs⟩, ⟨hr.pj.dk.same (fun k hk => k23 k (fun e => ?_)), ⟨hblk, ?_, ?_, ?_⟩, ?_⟩, ?_, ?_⟩
  · subst e
    rcases hk with hk | hk
    · exact hr.pj.jown (.inl rfl) hk
    · obtain ⟨cs, hc⟩ := hr.pj.dk.kindR hk
      exact hc.apart hr.pj.jn.blk (by decide) rfl
  · exact (hf.row.mono (Nat.zero_le _)).same (fun k hk => keep k (lvr k hk).1 (lvr k hk).2)
  · exact (show Cts w1 0 vs ds from ⟨hf.cts.1, fun i hi => (hf.cts.2 i hi).mono (Nat.zero_le _)⟩).same (fun v hv k hk => keep k (vr v hv k hk).1 (vr v hv k hk).2)
  · exact fun l hl => h.jn.byt l (hds l hl)
  · rintro k ⟨v, hv, hk⟩ hd
    have h1 := vr v hv k hk
    rcases hr.ow k hd with h2 | h2
    · have := hD k h2; omega
    · omega
  · refine ⟨?_, ?_, ?_, ?_, fun k hk hn => ?_⟩
    · rw [b2.os, b1.os, hr.ch.os, hf.bel.os]
    · rw [b2.tape, b1.tape, hr.ch.tape, hf.bel.tape]
    · rw [b2.output, b1.output, hr.ch.output, hf.bel.output]
    · rw [b2.size, b1.size]; omega
    · rw [k23 k (fun e => hn (.inr (.inr (.inl (.inl e))))), hr.ch.block k (by omega) (fun e => hn (.inl e)), hf.bel.block k hk]
  · rintro k (hk | hk | (hk | hk) | ⟨v, hv, hk⟩)
    · rcases hr.ow k hk with h2 | h2
      · exact .inl (.inl h2)
      · exact .inr (by omega)
    · rcases hr.ro k hk with h2 | h2
      · exact .inl (.inr (.inl h2))
      · exact .inr (by omega)
    · exact .inl (.inr (.inr (.inl (.inl hk))))
    · exact .inr (lvr k hk).1
    · exact .inr (vr v hv k hk).1
set_option maxHeartbeats 2000000 in
theorem jclear_ok (d j s : Nat) (rs : List Rw) (D : Dm) (g : Nat) (ls : List (List Int)) (M : Jm) (w : World) (h : PJ w d j s rs D g ls M) (ht : TT w) (hG : Gens (play rs) [g]) (hg : g < 2147483647) (k : Nat) (hk : 0 < k) (hl : k ≤ ls.length) (hls : ls.length ≤ 1000000) (hwt : wt rs + 2 * (fmA ls).length + 4 ≤ 1099511000000) :
    Calls Tryz.prog 12 #[.pointer (some ⟨j, 0, none⟩), .int .i64 (k : Int)] w fun e w' => e = .returned (.int .i64 0) ∧ JR w w' d j s D M (clS s rs g (fmA (ls.drop k))) (g + 1) (ls.drop k) := by
  have c0 := h.jn.c0
  have c1 := h.jn.c1
  have c2 := h.jn.c2
  obtain ⟨la, lc, e⟩ := h.jn.slice
  rw [e] at c2
  have h0 : ¬ (k : Int) < 0 := by omega
  have h1 : ¬ (ls.length : Int) < (k : Int) := by omega
  have h2 : ((k : Int) == 0) = false := by rw [beq_eq_false_iff_ne]; omega
  have h3 : ((g : Int) == 2147483647) = false := by rw [beq_eq_false_iff_ne]; omega
  have HH := hide h
  have HF := hide (from_any j d g ls M w h.jn ht k hl hls (by omega))
  have HT := hide ht
  have HG := hide hG
  have HW := hide hwt
  have HLD : Hid ((fmA (ls.drop k)).length ≤ (fmA ls).length) := hide (by
    have := fmA_part ls ls.length k
    rwa [List.take_length] at this)
  have HIB : Hid (isB (fmA (ls.drop k))) := hide (fmA_isB _ (fun p hp => (h.jn.byt p (List.mem_of_mem_drop hp)).1))
  have HDS : Hid (∀ l ∈ ls.drop k, l ∈ ls) := hide (fun l hl => List.mem_of_mem_drop hl)
  clear h ht hG hwt e
  go_enter Tryz.func12, Tryz.ntmps12
  go_wp2_with (go_at_call 47; refine (jmade_ok _ _ _ c0).mono ?_; rintro e w ⟨rfl, rfl⟩)
  refine HF.out.mono ?_
  rintro e w1 ⟨lv, fv, vs, rfl, hfo⟩
  have FO := hide hfo
  have P1 := hide (HH.out.below hfo.bel)
  have T1 := hide (HT.out.on hfo.bel)
  obtain ⟨fa, fc, rfl, hsf⟩ := hfo.frm.sl' HIB.out (by have := HLD.out; have := HW.out; omega)
  obtain ⟨va, vc, hva⟩ := hfo.row.slice
  subst hva
  have SF := hide hsf
  have HOF : Hid (0 < (fmA (ls.drop k)).length → ∀ x, fa = some x → ¬ D.own d x.block) := hide (fun h0 x hx hd => by
    have h5 := HH.out.dk.lt (.inl hd)
    subst hx
    obtain ⟨b, o, e, hce⟩ := hsf.hcell h0
    injection e with e
    subst e
    have h6 := hfo.frm.lt b rfl
    simp only at h5
    omega)
  clear hfo hsf c0 c1 c2 HF
  obtain ⟨L, HL⟩ : ∃ L, Hid ((fmA (ls.drop k)).length = L) := ⟨_, hide rfl⟩
  rw [HL.out] at SF HOF HLD FO
  rw [HL.out]
  go_wp2_with fail
  refine (replace_ok d j s rs D g ls M _ P1.out T1.out HG.out hg fa L fc _ SF.out HOF.out (by have h1 := HW.out; have h2 := HLD.out; omega)).mono ?_
  rintro e w2 ⟨rfl, D2, hr⟩
  have R2 := hide hr
  have b2 := hr.pj.jn.blk
  have c1 : w2.cell? ⟨j, 1, none⟩ = some (.int .i64 (g : Int)) := hr.pj.jn.c1
  have f1 := b2.free 1
  obtain ⟨g1, HG1⟩ : ∃ g1, Hid (g + 1 = g1) := ⟨_, hide rfl⟩
  have hgw : wrap64 ((g : Int) + 1) = (g1 : Int) := by have := HG1.out; unfold wrap64; omega
  have hgi : IntKind.i64.wrap ((g : Int) + 1) = (g1 : Int) := by have := HG1.out; rw [IntKind.wrap_i64]; omega
  have b3 : Blk (w2.setCell ⟨j, 1, none⟩ (.int .i64 (g1 : Int))) j 50 (jnC (some ⟨d, 0, none⟩) (g1 : Int) M.lv) := b2.set 1 _
  have c2 : (w2.setCell ⟨j, 1, none⟩ (.int .i64 (g1 : Int))).cell? ⟨j, 2, none⟩ = some M.lv := by rw [b3.cell]; rfl
  have f2 := b3.free 2
  have HE := hide (clear_end HH.out FO.out HDS.out hr rfl)
  rw [HG1.out] at HE
  clear hr b2 b3 R2
  go_wp2
  go_ret
  refine ⟨rfl, ?_⟩
  rw [HG1.out]
  exact HE.out

end Go.Proofs.YtninkkdbcgadpaaGreatDoor

/-
  A journal opened behind a loss of power.
-/
namespace Go.Proofs.YtninkkdbcgadpaaGreatDoor
open Go.RowKit Go.Shelf
set_option linter.unusedVariables false
set_option linter.unusedSimpArgs false
set_option maxRecDepth 100000

theorem reopen_any (d s : Nat) (R : List Rw) (D : Dm) (w : World) (h : DkAt w d s R D) (ht : TT w) (htf : ∀ W, Chs (D.own d) w W → TT W) (g : Nat) (t : List Nat) (ps : List (List Int)) (c : Nat) (hc : Crs (play R) g t ps c) (hps : (fmA ps).length ≤ 8000000) (hwt : wt R ≤ 1000000000000) :
    Calls Tryz.prog 8 #[.pointer (some ⟨d, 0, none⟩)] w fun e w' => ∃ j K R', e = .returned (.tuple #[.pointer (some ⟨j, 0, none⟩), .int .i64 0]) ∧ K ≤ ps.length ∧ qL ps K ≤ c ∧ (K = ps.length ∨ c < qL ps (K + 1)) ∧ OpnR w w' d j s D R' g (ps.take K) ∧ Solo (play R') g (fmA (ps.take K)) ∧ wt R' ≤ wt R + 2 ∧ (t = [] → c = (fmA ps).length → R' = R) := by
  obtain ⟨K, L, P, E, h1, h2, h3, h4, h5, h6, h7, h8⟩ := hc.open
  have hib : isB ((fmA ps).take c) := (fmA_isB ps (fun p hp => (hc.ok p hp).1)).take c
  have htl := hc.few
  refine (jopen_old d s R D w h ht htf g t hc.gens hc.files (by omega) _ L P E hc.at' hib (by rw [List.length_take]; omega) h1 h2 (by omega)).mono ?_
  rintro e w' ⟨j, rfl, ho⟩
  rw [h3] at ho
  refine ⟨j, K, _, rfl, h4, h5, h6, ho, h8, ?_, fun ht0 hcf => ?_⟩
  · have := wt_opS R g t (P L.length)
    omega
  · subst ht0 hcf
    have hK := full_K h4 h6
    have hs : Solo (play R) g (fmA ps) := ⟨by have := hc.at'; rwa [List.take_length] at this, fun m hm => hc.no m (fun q hq => by
      have : q = g := by simpa using hq
      rw [this]; exact hm)⟩
    rw [h7, hK, ← fmA_all]
    exact opS_same hs
/-- What may be found behind a loss of power: the leaves of ahead of a call, or of behind it. -/
def CrK (f : ByteArray → Option (List Int)) (ls ls' : List (List Int)) (fin : Prop) : Prop :=
  ∃ g t ps c, Crs f g t ps c ∧ ((fmA ps).length ≤ (fmA ls).length ∨ (fmA ps).length ≤ (fmA ls').length) ∧ ∀ K, K ≤ ps.length → qL ps K ≤ c → (K = ps.length ∨ c < qL ps (K + 1)) → (ps.take K = ls ∨ ps.take K = ls') ∧ (fin → ps.take K = ls')
theorem crk_same {rs : List Rw} {g : Nat} {ls : List (List Int)} (h : Solo (play rs) g (fmA ls)) (h1 : 1 ≤ g) (h2 : g ≤ 2147483647) (hok : ∀ p ∈ ls, isB p ∧ p.length ≤ 65535) (fin : Prop) : CrK (play rs) ls ls fin :=
  ⟨g, [], ls, _, h.crs h1 h2 hok, .inl (Nat.le_refl _), fun K hK hq hf => by
    have := full_K hK hf
    rw [this, List.take_length]
    exact ⟨.inl rfl, fun _ => rfl⟩⟩
theorem crk_add {s : Nat} (hs : 1 ≤ s) {rs : List Rw} {g : Nat} {ls : List (List Int)} {xs : List Int} (h : Solo (play rs) g (fmA ls)) (h1 : 1 ≤ g) (h2 : g ≤ 2147483647) (hok : ∀ p ∈ ls ++ [xs], isB p ∧ p.length ≤ 65535) {k : Nat} (hk1 : rs.length ≤ k) (hk2 : k ≤ (apS s rs (jN g) (fmB xs)).length) :
    CrK (play ((apS s rs (jN g) (fmB xs)).take k)) ls (ls ++ [xs]) (k = (apS s rs (jN g) (fmB xs)).length) := by
  have hxb := (hok xs (by simp)).1
  obtain ⟨c, hc, hp, hfull⟩ := ap_cut hs (fmB_isB xs hxb) (h.fE h2) hk1 hk2
  have l0 : fl (play rs) (jN g) = fmA ls := by simp [fl, h.at']
  rw [l0] at hp
  have ea : fmA (ls ++ [xs]) = fmA ls ++ fmB xs := by simp [fmA]
  have ecut : fmA ls ++ (fmB xs).take c = (fmA (ls ++ [xs])).take ((fmA ls).length + c) := by
    rw [ea, List.take_append]
    simp
    rw [List.take_of_length_le (by omega)]
  have hle : (fmA ls).length + c ≤ (fmA (ls ++ [xs])).length := by rw [ea, List.length_append]; omega
  have hsolo : Solo (play ((apS s rs (jN g) (fmB xs)).take k)) g (fmA ls ++ (fmB xs).take c) := ⟨by rw [hp, upd_same], fun m hm => by rw [hp, upd_ne _ _ hm, h.no m hm]⟩
  refine ⟨g, [], ls ++ [xs], (fmA ls).length + c, ⟨hsolo.gens h1 h2, by rw [hsolo.at', ecut], hle, fun m hm => hsolo.no m (hm g (by simp)), by simp, hok⟩, .inr (Nat.le_refl _), fun K hK hq hf => ?_⟩
  have hql : qL (ls ++ [xs]) ls.length = (fmA ls).length := by
    unfold qL
    rw [List.take_left]
  have hlen : (ls ++ [xs]).length = ls.length + 1 := by simp
  have hKge : ls.length ≤ K := by
    apply Classical.byContradiction
    intro hlt
    rcases hf with hf | hf
    · omega
    · have := qL_mono2 (ls ++ [xs]) (a := K + 1) (b := ls.length) (by omega) (by omega)
      omega
  have hcase : K = ls.length ∨ K = ls.length + 1 := by omega
  refine ⟨?_, fun hfin => ?_⟩
  · rcases hcase with e | e
    · left; rw [e, List.take_left]
    · right; rw [e, List.take_of_length_le (by omega)]
  · have hcf := hfull hfin
    have hall : (fmA ls).length + c = (fmA (ls ++ [xs])).length := by rw [ea, List.length_append, hcf]
    rw [hall] at hf
    have := full_K hK hf
    rw [this, List.take_length]
theorem crk_clear {s : Nat} (hs : 1 ≤ s) {rs : List Rw} {g : Nat} {ls ls' : List (List Int)} (h : Solo (play rs) g (fmA ls)) (h1 : 1 ≤ g) (h2 : g < 2147483647) (hok : ∀ p ∈ ls, isB p ∧ p.length ≤ 65535) (hok' : ∀ p ∈ ls', isB p ∧ p.length ≤ 65535) {k : Nat} (hk1 : rs.length ≤ k) (hk2 : k ≤ (clS s rs g (fmA ls')).length) :
    CrK (play ((clS s rs g (fmA ls')).take k)) ls ls' (k = (clS s rs g (fmA ls')).length) := by
  have hb := fmA_isB ls' (fun p hp => (hok' p hp).1)
  obtain ⟨p1, p2, p3, p4, p5, p6, p7⟩ := clear_pure hs hb (h.gens h1 (by omega)) h2
  have hne : jN (g + 1) ≠ jN g := jN_ne (by omega)
  have e1 : crS rs (jN (g + 1)) = rs ++ [rCr (jN (g + 1))] := by simp [crS, p1]
  have e3 : clS s rs g (fmA ls') = apS s (crS rs (jN (g + 1))) (jN (g + 1)) (fmA ls') ++ [rRm (jN g)] := by
    unfold clS rmS
    rw [if_pos p5]
  have h12 : (crS rs (jN (g + 1))).length ≤ (apS s (crS rs (jN (g + 1))) (jN (g + 1)) (fmA ls')).length := by
    unfold apS
    split
    · rw [List.length_append]; omega
    · exact Nat.le_refl _
  have l1 : (crS rs (jN (g + 1))).length = rs.length + 1 := by rw [e1]; simp
  have l3 : (clS s rs g (fmA ls')).length = (apS s (crS rs (jN (g + 1))) (jN (g + 1)) (fmA ls')).length + 1 := by rw [e3]; simp
  by_cases hkf : k = (clS s rs g (fmA ls')).length
  · have hsl := h.clear hs h1 h2 hb
    rw [hkf, List.take_length]
    obtain ⟨g', t, ps, c, q1, q2, q3⟩ := crk_same hsl (by omega) (by omega) hok' True
    refine ⟨g', t, ps, c, q1, .inr (by omega), fun K a b d => ?_⟩
    have := (q3 K a b d).2 trivial
    exact ⟨.inr this, fun _ => this⟩
  · by_cases hk0 : k = rs.length
    · have et : (clS s rs g (fmA ls')).take k = rs := by
        have hpre : rs <+: clS s rs g (fmA ls') := by
          rw [e3]
          refine List.IsPrefix.trans ?_ (List.prefix_append _ _)
          unfold apS
          split
          · rw [e1, List.append_assoc]; exact List.prefix_append _ _
          · rw [e1]; exact List.prefix_append _ _
        obtain ⟨u, hu⟩ := hpre
        rw [← hu, hk0, List.take_left]
      rw [et]
      obtain ⟨g', t, ps, c, q1, q2, q3⟩ := crk_same h h1 (by omega) hok True
      refine ⟨g', t, ps, c, q1, .inl (by omega), fun K a b d => ⟨.inl ((q3 K a b d).2 trivial), fun e => absurd e hkf⟩⟩
    · have et : (clS s rs g (fmA ls')).take k = (apS s (crS rs (jN (g + 1))) (jN (g + 1)) (fmA ls')).take k := by
        rw [e3, List.take_append_of_le_length (by omega)]
      rw [et]
      obtain ⟨c, hc, hp, _⟩ := ap_cut hs hb p4 (k := k) (by omega) (by omega)
      have hf1 : play (crS rs (jN (g + 1))) (jN (g + 1)) = some [] := by rw [play_cr p1, upd_same]
      have l0 : fl (play (crS rs (jN (g + 1)))) (jN (g + 1)) = [] := by simp [fl, hf1]
      rw [l0, play_cr p1, upd_upd, List.nil_append] at hp
      refine ⟨g, [g + 1], ls, _, ⟨⟨?_, fun q => ?_⟩, ?_, Nat.le_refl _, fun m hm => ?_, by simp, hok⟩, .inl (Nat.le_refl _), fun K hK hq hf => ?_⟩
      · simp
      · constructor
        · intro hq
          rcases List.mem_cons.1 hq with e | e
          · subst e
            exact ⟨h1, by omega, by rw [hp, upd_ne _ _ hne.symm, h.at']; rfl⟩
          · have e : q = g + 1 := by simpa using e
            subst e
            exact ⟨by omega, by omega, by rw [hp, upd_same]; rfl⟩
        · rintro ⟨q1, q2, q3⟩
          apply Classical.byContradiction
          intro hn
          have n1 : q ≠ g := fun e => hn (by simp [e])
          have n2 : q ≠ g + 1 := fun e => hn (by simp [e])
          rw [hp, upd_ne _ _ (jN_ne n2), h.no _ (jN_ne n1)] at q3
          cases q3
      · rw [hp, upd_ne _ _ hne.symm, h.at', List.take_length]
      · rw [hp, upd_ne _ _ (hm (g + 1) (by simp)), h.no m (hm g (by simp))]
      · have := full_K hK hf
        rw [this, List.take_length]
        exact ⟨.inl rfl, fun e => absurd e hkf⟩

end Go.Proofs.YtninkkdbcgadpaaGreatDoor

/-
  The law's listed and same.
-/
namespace Go.Proofs.YtninkkdbcgadpaaGreatDoor
open Go.RowKit Go.Shelf
set_option linter.unusedVariables false
set_option linter.unusedSimpArgs false
set_option maxRecDepth 100000

theorem tinS : Tin 63 9 (.string ByteArray.empty) 16 := ⟨by kernel_rfl, by kernel_rfl, by kernel_rfl, fun _ => by kernel_rfl, rfl, by decide, by decide, fun u w h => build_by _ _ (.string ByteArray.empty) 16 (by kernel_rfl) (by kernel_rfl) rfl (by decide) u w h⟩
/-- Leaves as strings, as cells. -/
def lsC (ls : List (List Int)) : List Value := ls.map fun l => .string (str l)
theorem lsC_length (ls : List (List Int)) : (lsC ls).length = ls.length := by simp [lsC]
/-- What stands in listed. -/
structure ZI (w W : World) (B b3 : Nat) (ov : Value) (ds : List (List Int)) : Prop where
  c3 : Blk W b3 63 [ov]
  row : OwnV 9 W B ov (lsC ds)
  l3 : w.heap.size ≤ b3 ∧ b3 < B
  bel : Below w.heap.size w W
  sz : B ≤ W.heap.size
section
variable {w W W' : World} {B b3 : Nat} {ov : Value} {ds : List (List Int)}
theorem ZI.ck (h : ZI w W B b3 ov ds) (hk : CK W W') (hb : Below w.heap.size w W') : ZI w W' B b3 ov ds := ⟨h.c3.ck hk, h.row.ck hk, h.l3, hb, Nat.le_trans h.sz hk.size⟩
theorem ZI.on (h : ZI w W B b3 ov ds) (hb : Below W.heap.size W W') : ZI w W' B b3 ov ds := h.ck (CK.below hb) (on_below h.bel hb)
theorem ZI.push {w3 w4 w5 : World} {g cap : Nat} {y : List Int} (h : ZI w W B b3 ov ds) (h3 : Below W.heap.size W w3) (hrow : OwnV 9 w4 B (.slice (some ⟨g, 0, none⟩) ((lsC ds).length + 1) cap) (lsC ds ++ [.string (str y)])) (hgr : w3.grownBy w4 ov.ownBlock)
    (h5 : w5 = w4.setCell ⟨b3, 0, none⟩ (.slice (some ⟨g, 0, none⟩) ((lsC ds).length + 1) cap)) : ZI w w5 B b3 (.slice (some ⟨g, 0, none⟩) ((lsC ds).length + 1) cap) (ds ++ [y]) ∧ KeepsOthers W w5 := by
  have H3 := h.on h3
  have hbut : But b3 w4 w5 := by rw [h5]; exact But.setCell w4 b3 0 _
  have hfB : ∀ k, ov.ownBlock = some k → B ≤ k := fun k hk => (H3.row.lt k hk).1
  have l3 := h.l3
  have hs3 := h3.size
  have c4 : Blk w4 b3 63 [ov] := H3.c3.same (hgr.block b3 H3.c3.lt (fun e => by have := hfB b3 e.symm; omega))
  refine ⟨⟨?_, ?_, l3, ?_, ?_⟩, ?_⟩
  · rw [h5]; exact c4.set 0 _
  · have hgB : B ≤ g := (hrow.lt g rfl).1
    have := hrow.same (w' := w5) (fun k hk => by
      have ek : g = k := by cases hk; rfl
      subst ek
      exact hbut.block g (by omega))
    have e : lsC (ds ++ [y]) = lsC ds ++ [.string (str y)] := by simp [lsC]
    rw [e]
    exact this
  · have b4 : Below w.heap.size w w4 := H3.bel.grown hgr H3.bel.size (fun r e => by have := hfB r e; omega)
    exact b4.trans (hbut.below l3.1)
  · rw [hbut.size]
    have := hgr.size
    have := h.sz
    omega
  · refine (keepsO_below h3).trans ((keepsO_grown hgr (fun g e => ?_)).trans (keepsO_but hbut c4))
    obtain ⟨cs, hc⟩ := H3.row.blk e
    exact ⟨_, cs, hc⟩
end
set_option maxHeartbeats 4000000 in
theorem listed_any (j d g : Nat) (ls : List (List Int)) (M : Jm) (w : World) (h : JnAt w j d g ls M) (hls : ls.length ≤ 1000000) :
    Calls Tryz.prog 21 #[.pointer (some ⟨j, 0, none⟩)] w fun e w' => ∃ v, e = .returned v ∧ OwnV 9 w' w.heap.size v (lsC ls) ∧ Below w.heap.size w w' := by
  have HH := hide h
  have HLS := hide hls
  clear h hls
  refine (callsIn_wide (n := 3)).1 ?_
  refine callsIn_of_wp_marks Tryz.func21 rfl trivial ?_ rfl
  refine wpIn_wide.2 ?_
  simp only [Tryz.ntmps21, List.size_toArray, List.length_cons, List.length_nil, Nat.reduceAdd, Nat.reduceSub, Array.replicate_succ, Array.replicate_zero, List.push_toArray, List.append_toArray, List.nil_append, List.cons_append]
  go_wp2_with fail
  have C3 : Blk (w.alloc (.cells #[.slice none 0 0] 63)) w.heap.size 63 [.slice none 0 0] := Blk.made w 63 [.slice none 0 0]
  have hb3 : Below w.heap.size w (w.alloc (.cells #[.slice none 0 0] 63)) := (Below.refl _ _).alloc (Nat.le_refl _) _
  have hs3 : (w.alloc (.cells #[.slice none 0 0] 63)).heap.size = w.heap.size + 1 := World.size_alloc _ _
  have G3 : Hid (ZI w (w.alloc (.cells #[.slice none 0 0] 63)) (w.heap.size + 1) w.heap.size (.slice none 0 0) []) := hide ⟨C3, OwnV.nil _ _ _, ⟨Nat.le_refl _, by omega⟩, hb3, by rw [hs3]; exact Nat.le_refl _⟩
  clear C3 hb3 hs3
  revert G3
  generalize w.alloc (.cells #[.slice none 0 0] 63) = W3
  obtain ⟨B, hB⟩ : ∃ B, w.heap.size + 1 = B := ⟨_, rfl⟩
  rw [hB]
  intro G3
  have hwB : w.heap.size ≤ B := by omega
  clear hB
  refine (jall_any _ _).mono ?_
  rintro r W5 ⟨rfl, rfl⟩
  have hbA : Below W3.heap.size W3 (W3.alloc (.cells #[.pointer (some ⟨j, 0, none⟩)] 30)) := (Below.refl _ _).alloc (Nat.le_refl _) _
  have G4 := hide (G3.out.on hbA)
  revert G4
  generalize W3.alloc (.cells #[.pointer (some ⟨j, 0, none⟩)] 30) = W4
  generalize W3.heap.size = bx0
  intro G4
  have heq : ∀ v : World, (binOp BinOp.eql 53 (.func (.func 53) #[] #[.pointer (some ⟨bx0, 0, none⟩)]) .nilFunc).run Tryz.prog v = .ok (.bool false) v := fun v => by kernel_rfl
  clear hbA G3
  go_wp2_with fail
  refine (jall_any _ _).mono ?_
  rintro r W5 ⟨rfl, rfl⟩
  have hbB : Below W4.heap.size W4 (W4.alloc (.cells #[.pointer (some ⟨j, 0, none⟩)] 30)) := (Below.refl _ _).alloc (Nat.le_refl _) _
  have BX : Blk (W4.alloc (.cells #[.pointer (some ⟨j, 0, none⟩)] 30)) W4.heap.size 30 [.pointer (some ⟨j, 0, none⟩)] := Blk.made _ _ _
  have G5 := hide (G4.out.on hbB)
  revert G5 BX
  generalize W4.alloc (.cells #[.pointer (some ⟨j, 0, none⟩)] 30) = W5
  generalize W4.heap.size = bx
  intro BX G5
  clear hbB heq G4
  have HSQ := hide (jall_seq bx j d g ls M W5 (HH.out.below G5.out.bel) BX (by have := HLS.out; omega))
  have HJL : Hid (∀ q, M.own j q ∨ M.ro q → q < w.heap.size) := hide (fun q hq => HH.out.lt hq)
  have S5 : w.heap.size ≤ W5.heap.size := G5.out.bel.size
  clear BX
  go_wp2_with fail
  refine (wpIn_wide (n := 3)).1 ?_
  refine rangeQ rfl (by decide) (gf := 53) (lb := #[.pointer (some ⟨bx, 0, none⟩)]) rfl trivial (enters_of Tryz.func53 (by kernel_rfl) rfl)
    HSQ.out KJ.trans (fun x W l o o' hl h hc => KJ.book (B := w.heap.size) HJL.out W l o' (by omega)) (fun _ => rfl) (fun pre x W0 => rj_own _ _ pre x W0)
    (fun pre W => ∃ ov, ZI w W B w.heap.size ov (ls.take pre.length)) (fun _ _ _ => False)
    (fun _ A C row h hg hr => by
      obtain ⟨ov, hf⟩ := h
      exact ⟨ov, hf.ck (CK.of_grown hg (fun r e => (hr r e).2)) (hf.bel.grown hg hf.bel.size (fun r e => by have := (hr r e).1; omega))⟩) (fun c _ A C row h hg hr => h) ⟨_, by simpa using G5.out⟩ ?act ?assign ?body ?done ?stop
  case assign =>
    rintro l x W K hK
    have hsem := Oper.semAt_some
    simp only [encL]
    gi_wp2
    exact hK
  case stop =>
    rintro D c pre W hD hSp hF2 hK2
    exact hF2.elim
  case body =>
    rintro l pre ⟨i0, v, y⟩ W0 W _ hck hsz ⟨ov, hf⟩ ⟨h1, h2, h3, h4, h5⟩
    have hsem := Oper.semAt_some
    obtain ⟨i, HI⟩ : ∃ i, Hid (pre.length = i) := ⟨_, hide rfl⟩
    simp only at h3 h4 h5
    rw [HI.out] at h1 h3 h4 hf
    have hby : isB y ∧ y.length ≤ 65535 := HH.out.byt y (by
      rw [h4]
      simp only [List.getD, List.getElem?_eq_getElem h1, Option.getD_some]
      exact List.getElem_mem h1)
    obtain ⟨av, cv, ev, sv⟩ := h5.sl' hby.1 (by omega)
    subst ev h3
    have HP1 : Hid ((pre ++ [((i : Int), Value.slice av y.length cv, y)]).length = i + 1) := hide (by rw [List.length_append, HI.out]; rfl)
    have HE : Hid (ls.take (i + 1) = ls.take i ++ [y]) := hide (by rw [h4]; exact take_snocN ls i h1)
    have hcv := toStr sv
    have HF := hide hf
    obtain ⟨oa, oc, hov⟩ := hf.row.slice
    subst hov
    have d3 : W.cell? ⟨w.heap.size, 0, none⟩ = some (.slice oa (lsC (ls.take i)).length oc) := by rw [hf.c3.cell]; rfl
    obtain ⟨X, HXX⟩ : ∃ X, Hid (str y = X) := ⟨_, hide rfl⟩
    rw [HXX.out] at hcv
    clear hf h2 h4 h5 hck hby sv
    gi_wp2_with (refine istep_one1 (u := .string X) (WideF.round l) tinS rfl rfl rfl ?_)
    intro w3 g3 hg3 hle3 hb3
    have HB3 := hide hb3
    have F3 := hide (HF.out.on hb3)
    have HG3 := hide hg3
    have HFEW : Hid ((lsC (ls.take i)).length ≤ 1048576) := hide (by
      rw [lsC_length, List.length_take]
      have := HLS.out
      omega)
    clear hg3 hle3 hb3 d3 hcv
    gi_wp2_with (refine istep_app1 (u := .string X) (WideF.round l) tinS rfl rfl rfl rfl F3.out.row HG3.out HFEW.out F3.out.sz ?_)
    intro g4 cap4 w4 hrow hgr hat
    have hfB : ∀ k, (Value.slice oa (lsC (ls.take i)).length oc).ownBlock = some k → B ≤ k := fun k hk => (F3.out.row.lt k hk).1
    have c4 : Blk w4 w.heap.size 63 [.slice oa (lsC (ls.take i)).length oc] := F3.out.c3.same (hgr.block _ F3.out.c3.lt (fun e => by have h1 := hfB _ e.symm; have h2 := F3.out.l3; omega))
    have d4 : w4.cell? ⟨w.heap.size, 0, none⟩ = some (.slice oa (lsC (ls.take i)).length oc) := by rw [c4.cell]; rfl
    have f4 := c4.free 0
    rw [← HXX.out] at hrow
    have HFIN := hide (HF.out.push HB3.out hrow hgr rfl)
    obtain ⟨n4, HN4⟩ : ∃ n4, Hid ((lsC (ls.take i)).length + 1 = n4) := ⟨_, hide rfl⟩
    rw [HN4.out] at HFIN
    rw [HN4.out]
    clear hrow hgr hat hfB c4
    gi_wp2
    refine ⟨HFIN.out.2.from _, KJ.between HJL.out HF.out.bel HFIN.out.1.bel HFIN.out.2.size, ?_⟩
    show ∃ ov, ZI w _ B w.heap.size ov (ls.take (pre ++ [((i : Int), Value.slice av y.length cv, y)]).length)
    rw [HP1.out, HE.out]
    exact ⟨_, HFIN.out.1⟩
  case done =>
    rintro Dk ys W hD hS ⟨ov, hf⟩ hK2
    have hyl : ys.length = ls.length := by rw [← hS, List.length_map]
    rw [hyl, List.take_length] at hf
    have HF := hide hf
    have HDK := hide hK2
    have d3 : W.cell? ⟨w.heap.size, 0, none⟩ = some ov := by rw [hf.c3.cell]; rfl
    have hDw : w.heap.size ≤ Dk := by omega
    clear hf hK2 hS hyl G5 HSQ
    go_wp2
    refine ⟨by simp, .inl ⟨_, _, rfl, run_takeDeferred HDK.out, ?_⟩⟩
    refine ⟨ov, by simp [results, Tryz.f21, go_sem], ?_⟩
    exact ⟨_, rfl, (HF.out.row.ck (CK.put (.deferred none) HDK.out rfl)).mono hwB, HF.out.bel.trans (belowK_b (w := w) (Nat.le_refl _) _ Dk _ (.deferred none) (by omega) HDK.out rfl rfl)⟩

end Go.Proofs.YtninkkdbcgadpaaGreatDoor

/-
  The law's same: lists of strings.
-/
namespace Go.Proofs.YtninkkdbcgadpaaGreatDoor
open Go.RowKit Go.Shelf
set_option linter.unusedVariables false
set_option linter.unusedSimpArgs false
set_option maxRecDepth 100000

theorem beqS_ne13 {n t : ByteArray} (h : n ≠ t) : (n.toList == t.toList) = false := by
  rw [beq_eq_false_iff_ne, ByteArray.toList_eq, ByteArray.toList_eq]
  intro e
  exact h (by cases n; cases t; simp at e; rw [e])
set_option maxHeartbeats 2000000 in
theorem same13_any (va vb : Value) (A C : List (List Int)) (B1 B2 : Nat) (w : World) (ha : OwnV 9 w B1 va (lsC A)) (hb : OwnV 9 w B2 vb (lsC C)) (hla : A.length ≤ 1000000) :
    Calls Tryz.prog 24 #[va, vb] w fun e w' => ∃ b : Bool, e = .returned (.bool b) ∧ (A = C → b = true) ∧ Below w.heap.size w w' := by
  obtain ⟨aa, ac, rfl⟩ := ha.slice
  obtain ⟨ba, bc, rfl⟩ := hb.slice
  rw [lsC_length] at ha hb ⊢
  rw [lsC_length]
  by_cases hlen : A.length = C.length
  · have HA := hide ha
    have HB := hide hb
    obtain ⟨n, HN⟩ : ∃ n, Hid (A.length = n) := ⟨_, hide rfl⟩
    have HC : Hid (C.length = n) := hide (by rw [← hlen]; exact HN.out)
    rw [HN.out] at hla HA
    rw [HC.out] at HB
    rw [HN.out, HC.out]
    clear ha hb hlen
    go_enter Tryz.func24, Tryz.ntmps24
    go_wp2
    go_loopw [5] (fun p wr => ∃ i : Nat, i ≤ n ∧ p = .int .i64 (i : Int) ∧ Hid (Below w.heap.size w wr)) (fun p _ => n - (intOf p).toNat)
    case atStart => exact ⟨0, Nat.zero_le _, rfl, hide (Below.refl _ _)⟩
    case round =>
      obtain ⟨i, hi, rfl, HW⟩ := hrel
      by_cases hlt : i < n
      · have hlti : (i : Int) < (n : Int) := by omega
        have hiA : i < (lsC A).length := by rw [lsC_length, HN.out]; exact hlt
        have hiC : i < (lsC C).length := by rw [lsC_length, HC.out]; exact hlt
        obtain ⟨ga, e1, _, hca⟩ := HA.out.cell i hiA
        obtain ⟨gb, e2, _, hcb⟩ := HB.out.cell i hiC
        subst e1 e2
        obtain ⟨x, HX⟩ : ∃ x, Hid (str (A.getD i []) = x) := ⟨_, hide rfl⟩
        obtain ⟨y, HY⟩ : ∃ y, Hid (str (C.getD i []) = y) := ⟨_, hide rfl⟩
        have kA : w.cell? ⟨ga, i, none⟩ = some (.string x) := by
          rw [hca, ← HX.out]
          have : i < A.length := by rw [HN.out]; exact hlt
          simp [lsC, List.getD, this]
        have kB : w.cell? ⟨gb, i, none⟩ = some (.string y) := by
          rw [hcb, ← HY.out]
          have : i < C.length := by rw [HC.out]; exact hlt
          simp [lsC, List.getD, this]
        have kA' : wr.cell? ⟨ga, i, none⟩ = some (.string x) := cell_kept kA HW.out
        have kB' : wr.cell? ⟨gb, i, none⟩ = some (.string y) := cell_kept kB HW.out
        have x1 := tinS.at ga n ac i (i : Int) rfl hlt
        have x2 := tinS.at gb n bc i (i : Int) rfl hlt
        clear hca hcb kA kB
        by_cases hxy : x = y
        · have hq : (x.toList == y.toList) = true := by rw [hxy]; simp
          have hqq : (x.toList != y.toList) = false := by rw [hxy]; simp
          clear hxy
          go_wp2_with fail
          go_quiet (fail)
          go_wp2
          go_roundw
          case rel => exact ⟨i + 1, by omega, by go_num, hide (below_drews HW.out _)⟩
          case measure => simp only [intOf]; omega
        · have hq : (x.toList == y.toList) = false := beqS_ne13 hxy
          have HNE : Hid (A = C → False) := hide (fun e => hxy (by rw [← HX.out, ← HY.out, e]))
          clear hxy
          have hqq : (x.toList != y.toList) = true := by simp [bne, hq]
          go_wp2_with fail
          go_quiet (fail)
          go_wp2
          go_ret
          exact ⟨false, rfl, fun e => (HNE.out e).elim, below_drews HW.out _⟩
      · have hlti : ¬ (i : Int) < (n : Int) := by omega
        go_wp2
        go_ret
        exact .inr ⟨rfl, HW.out⟩
  · have hne : ((A.length : Int) != (C.length : Int)) = true := by
      simp only [bne_iff_ne, ne_eq]
      omega
    have HNE : Hid (A = C → False) := hide (fun e => hlen (by rw [e]))
    clear ha hb hlen
    go_enter Tryz.func24, Tryz.ntmps24
    go_wp2
    go_ret
    exact ⟨false, rfl, fun e => (HNE.out e).elim, Below.refl _ _⟩

end Go.Proofs.YtninkkdbcgadpaaGreatDoor

/-
  JournalCrashes: what stands ahead of each act, and what an act leaves.
-/
namespace Go.Proofs.YtninkkdbcgadpaaGreatDoor
open Go.RowKit Go.Shelf
set_option linter.unusedVariables false
set_option linter.unusedSimpArgs false
set_option maxRecDepth 100000

/-- What stands ahead of an act. -/
structure CI (w0 wr : World) (d j s m : Nat) (rs : List Rw) (g : Nat) (D : Dm) (ls : List (List Int)) (M : Jm) : Prop where
  pj : PJ wr d j s rs D g ls M
  solo : Solo (play rs) g (fmA ls)
  g1 : 1 ≤ g
  g2 : g ≤ 2147483647
  own : ∀ k, JF d j D M k → w0.heap.size ≤ k
  bel : Below w0.heap.size w0 wr
  bd : Bd m (wt rs) (fmA ls).length ls.length
/-- What an act leaves. -/
def Nx (w0 w w' : World) (d j s m : Nat) (rs : List Rw) (D : Dm) (ls : List (List Int)) (M : Jm) (ls' : List (List Int)) : Prop :=
  Chs (JF d j D M) w w' ∧ ∃ rs' g' D' M', CI w0 w' d j s m rs' g' D' ls' M' ∧ rs.length ≤ rs'.length ∧ ∀ q, rs.length ≤ q → q ≤ rs'.length → CrK (play (rs'.take q)) ls ls' (q = rs'.length)
section
variable {w0 wr w' : World} {d j s m : Nat} {rs : List Rw} {g : Nat} {D : Dm} {ls : List (List Int)} {M : Jm}
theorem CI.below (h : CI w0 wr d j s m rs g D ls M) (hb : Below wr.heap.size wr w') : CI w0 w' d j s m rs g D ls M := ⟨h.pj.below hb, h.solo, h.g1, h.g2, h.own, on_below h.bel hb, h.bd⟩
theorem CI.tt (h : CI w0 wr d j s m rs g D ls M) (ht : TT w0) : TT wr := ht.under h.bel ht.kt.lt ht.pt.lt
theorem CI.mono {m' : Nat} (h : CI w0 wr d j s m rs g D ls M) (hm : m ≤ m') : CI w0 wr d j s m' rs g D ls M := ⟨h.pj, h.solo, h.g1, h.g2, h.own, h.bel, h.bd.mono hm (Nat.le_refl _) (Nat.le_refl _) (Nat.le_refl _)⟩
theorem CI.stay {m' : Nat} (h : CI w0 wr d j s m rs g D ls M) (hm : m ≤ m') : Nx w0 wr wr d j s m' rs D ls M ls :=
  ⟨Chs.refl _ _, rs, g, D, M, h.mono hm, Nat.le_refl _, fun q h1 h2 => by
    have e : q = rs.length := by omega
    rw [e, List.take_length]
    exact crk_same h.solo h.g1 h.g2 h.pj.jn.byt _⟩
theorem CI.next {rs' : List Rw} {g' m' : Nat} {ls' : List (List Int)} (h : CI w0 wr d j s m rs g D ls M) (hr : JR wr w' d j s D M rs' g' ls') (hs : Solo (play rs') g' (fmA ls')) (h1 : 1 ≤ g') (h2 : g' ≤ 2147483647) (hb : Bd m' (wt rs') (fmA ls').length ls'.length) (hl : rs.length ≤ rs'.length) (hq : ∀ q, rs.length ≤ q → q ≤ rs'.length → CrK (play (rs'.take q)) ls ls' (q = rs'.length)) : Nx w0 wr w' d j s m' rs D ls M ls' := by
  obtain ⟨D', M', r1, r2, r3⟩ := hr
  refine ⟨r2, rs', g', D', M', ⟨r1, hs, h1, h2, fun k hk => ?_, ?_, hb⟩, hl, hq⟩
  · rcases r3 k hk with h5 | h5
    · exact h.own k h5
    · exact Nat.le_trans h.bel.size h5
  · exact h.bel.trans (r2.below (fun k hk hf => by have := h.own k hf; omega) h.bel.size)
end
theorem apS_len (s : Nat) (rs : List Rw) (n : ByteArray) (b : List Int) : rs.length ≤ (apS s rs n b).length := by
  unfold apS
  split
  · rw [List.length_append]; omega
  · exact Nat.le_refl _
theorem crS_len (rs : List Rw) (n : ByteArray) : rs.length ≤ (crS rs n).length := by
  unfold crS
  split
  · rw [List.length_append]; omega
  · exact Nat.le_refl _
theorem rmS_len (rs : List Rw) (n : ByteArray) : rs.length ≤ (rmS rs n).length := by
  unfold rmS
  split
  · rw [List.length_append]; omega
  · exact Nat.le_refl _
theorem clS_len (s : Nat) (rs : List Rw) (g : Nat) (b : List Int) : rs.length ≤ (clS s rs g b).length :=
  Nat.le_trans (crS_len _ _) (Nat.le_trans (apS_len _ _ _ _) (rmS_len _ _))
theorem wt_apS13 {s : Nat} (hs : 1 ≤ s) (rs : List Rw) (n : ByteArray) (b : List Int) : wt (apS s rs n b) ≤ wt rs + 2 * b.length + 1 := by
  unfold apS
  split
  · rw [wt_app]
    have := expd_wt hs ⟨rAp n b, rs.length, (fl (play rs) n).length⟩
    have e : (rAp n b).b = b := rfl
    simp only [e] at this
    omega
  · omega
section
variable (w0 wr : World) (d j s m : Nat) (rs : List Rw) (g : Nat) (D : Dm) (ls : List (List Int)) (M : Jm) (h : CI w0 wr d j s m rs g D ls M) (ht : TT w0)
include h ht
theorem jclear_ci (k : Int) (m' : Nat) (hm : m + 4 ≤ m') (hmm : m' ≤ 1048576) :
    Calls Tryz.prog 12 #[.pointer (some ⟨j, 0, none⟩), .int .i64 k] wr fun e w' => ∃ v ls', e = .returned (.int .i64 v) ∧ Nx w0 wr w' d j s m' rs D ls M ls' := by
  obtain ⟨b1, b2, b3⟩ := h.bd.out (by omega)
  by_cases hb : k < 0 ∨ (ls.length : Int) < k
  · refine (jclear_bad h.pj.jn k hb).mono ?_
    rintro e w' ⟨rfl, rfl⟩
    exact ⟨_, ls, rfl, h.stay (by omega)⟩
  by_cases h0 : k = 0
  · subst h0
    refine (jclear_0 h.pj.jn).mono ?_
    rintro e w' ⟨rfl, rfl⟩
    exact ⟨_, ls, rfl, h.stay (by omega)⟩
  obtain ⟨n, rfl⟩ : ∃ n : Nat, k = (n : Int) := ⟨k.toNat, by omega⟩
  have hn0 : 0 < n := by omega
  have hnl : n ≤ ls.length := by omega
  by_cases hg : g = 2147483647
  · refine (jclear_top h.pj.jn n hn0 hnl hg).mono ?_
    rintro e w' ⟨rfl, rfl⟩
    exact ⟨_, ls, rfl, h.stay (by omega)⟩
  have hg2 : g < 2147483647 := by have := h.g2; omega
  refine (jclear_ok d j s rs D g ls M wr h.pj (h.tt ht) (h.solo.gens h.g1 h.g2) hg2 n hn0 hnl (by omega) (by omega)).mono ?_
  rintro e w' ⟨rfl, hr⟩
  have hs1 := h.pj.dk.s1
  have hbyt := h.pj.jn.byt
  have hbyt' : ∀ p ∈ ls.drop n, isB p ∧ p.length ≤ 65535 := fun p hp => hbyt p (List.mem_of_mem_drop hp)
  have hB := fmA_isB (ls.drop n) (fun p hp => (hbyt' p hp).1)
  have hfl : (fmA (ls.drop n)).length ≤ (fmA ls).length := by
    have e : fmA ls = fmA (ls.take n) ++ fmA (ls.drop n) := by rw [← fmA_app, List.take_append_drop]
    rw [e, List.length_append]; omega
  refine ⟨_, _, rfl, h.next hr (h.solo.clear hs1 h.g1 hg2 hB) (by omega) (by omega) ?_ (clS_len _ _ _ _) (fun q q1 q2 => crk_clear hs1 h.solo h.g1 hg2 hbyt hbyt' q1 q2)⟩
  have hw := wt_clS hs1 rs g (fmA (ls.drop n))
  exact (h.bd.clear hfl (f' := (fmA (ls.drop n)).length) (l' := (ls.drop n).length) (by rw [List.length_drop]; omega)).mono hm (by omega) (Nat.le_refl _) (Nat.le_refl _)
theorem jadd_ci (a : Option Addr) (n c : Nat) (xs : List Int) (hx : Sl wr a n c xs) (hn : n ≤ 65535) (hoff : 0 < n → ∀ x, a = some x → ¬ D.own d x.block) (hmm : m + (n + 4) ≤ 1048576) :
    Calls Tryz.prog 14 #[.pointer (some ⟨j, 0, none⟩), .slice a n c] wr fun e w' => e = .returned (.int .i64 0) ∧ Nx w0 wr w' d j s (m + (n + 4)) rs D ls M (ls ++ [xs]) := by
  obtain ⟨b1, b2, b3⟩ := h.bd.out (by omega)
  refine (jadd_ok d j s rs D g ls M wr h.pj (h.tt ht) a n c xs hx hn h.g2 (h.solo.fE h.g2) (by omega) hoff (by omega)).mono ?_
  rintro e w' ⟨rfl, hr⟩
  have hs1 := h.pj.dk.s1
  have hxb : isB xs := hx.hbyte
  have hok : ∀ p ∈ ls ++ [xs], isB p ∧ p.length ≤ 65535 := fun p hp => by
    rcases List.mem_append.1 hp with hp | hp
    · exact h.pj.jn.byt p hp
    · have e : p = xs := by simpa using hp
      subst e
      exact ⟨hxb, by rw [hx.hlen]; exact hn⟩
  refine ⟨rfl, h.next hr (h.solo.add hs1 h.g2 hxb) h.g1 h.g2 ?_ (apS_len _ _ _ _) (fun q q1 q2 => crk_add hs1 h.solo h.g1 h.g2 hok q1 q2)⟩
  have hw := wt_apS13 hs1 rs (jN g) (fmB xs)
  have hl := fmB_length xs
  have hxl := hx.hlen
  have e1 : (fmA (ls ++ [xs])).length = (fmA ls).length + (8 + n) := by
    rw [fmA_app, List.length_append]
    have : fmA [xs] = fmB xs := by simp [fmA]
    rw [this, hl, hxl]
  exact (h.bd.add n).mono (Nat.le_refl _) (by omega) (by omega) (by simp)
end
/-- Behind an act: what was listed ahead of it still lies there. -/
theorem OwnV.nx {w0 w w' : World} {d j s m B : Nat} {rs : List Rw} {D : Dm} {ls ls' : List (List Int)} {M : Jm} {v : Value} {ns : List Value} (h : OwnV 9 w B v ns) (hf : ∀ k, JF d j D M k → k < B) (hn : Nx w0 w w' d j s m rs D ls M ls') : OwnV 9 w' B v ns :=
  h.same (fun k hk => hn.1.block k (h.lt k hk).2 (fun hj => by have h1 := hf k hj; have h2 := (h.lt k hk).1; omega))
theorem mod_cut13 (q : Int) (N : Nat) (hN : N ≤ 300000000000) : ∃ c : Nat, (wrap64 (q.tmod ((N + 1 : Nat) : Int) + ((N + 1 : Nat) : Int))).tmod ((N + 1 : Nat) : Int) = (c : Int) ∧ c ≤ N := by
  have h1 : q.tmod ((N + 1 : Nat) : Int) < ((N + 1 : Nat) : Int) := Int.tmod_lt_of_pos q (by omega)
  have h2 : -((N + 1 : Nat) : Int) < q.tmod ((N + 1 : Nat) : Int) := Int.lt_tmod_of_pos q (by omega)
  generalize q.tmod ((N + 1 : Nat) : Int) = r at *
  have h3 : wrap64 (r + ((N + 1 : Nat) : Int)) = r + ((N + 1 : Nat) : Int) := by unfold wrap64; omega
  rw [h3]
  have h4 : 0 ≤ (r + ((N + 1 : Nat) : Int)).tmod ((N + 1 : Nat) : Int) := Int.tmod_nonneg _ (by omega)
  have h5 : (r + ((N + 1 : Nat) : Int)).tmod ((N + 1 : Nat) : Int) < ((N + 1 : Nat) : Int) := Int.tmod_lt_of_pos _ (by omega)
  exact ⟨((r + ((N + 1 : Nat) : Int)).tmod ((N + 1 : Nat) : Int)).toNat, by omega, by omega⟩
theorem aj_at (b o n cap i : Nat) (hi : i < n) (v : World) : (Instr.indexAt 25 (.slice (some ⟨b, o, none⟩) n cap) (.int .i64 (i : Int))).run Tryz.prog v = .ok (.pointer (some ⟨b, o + i * 3, none⟩)) v := by
  have hu : Tryz.prog.underlying 25 = some (.slice (Tryz.prog.elem 25)) := by kernel_rfl
  have he : Tryz.prog.elem 25 = 41 := by kernel_rfl
  have hz : ∀ v : World, (sizeOf 41).run Tryz.prog v = .ok 3 v := fun _ => by kernel_rfl
  rw [run_indexAt_slice v _ _ _ _ .i64 i hu, if_pos ⟨by omega, by omega⟩, he, hz]
  simp only [Result.andThen_ok, Int.toNat_natCast]
  rw [Addr.add_lit]

end Go.Proofs.YtninkkdbcgadpaaGreatDoor

/-
  The document's Same.
-/
namespace Go.Proofs.YtninkkdbcgadpaaGreatDoor
open Go.RowKit
set_option linter.unusedVariables false

theorem neqF (a b c d : ByteArray) (e : Bool) (h : (!(a.toList == c.toList && b.toList == d.toList)) = e) (W : World) : (binOp .neq 129 (.agg #[.string a, .string b]) (.agg #[.string c, .string d])).run Tryz.prog W = .ok (.bool e) W := by
  subst h
  cases h1 : (a.toList == c.toList) <;> cases h2 : (b.toList == d.toList) <;> go_simp
theorem run_neqF {dst : Option Tmp} {ty : TypeId} {pos : String} {aft : Array Edge} {gd : Option (Nat × Bool)} {ac : Act} {w : World} {x y : Operand} {p q : Array Value} {E : Bool} (hx : ac.eval x = .agg p) (hy : ac.eval y = .agg q) (h : (binOp .neq 129 (.agg p) (.agg q)).run Tryz.prog w = .ok (.bool E) w) :
    (execOp ac.eval ⟨dst, .binOp .neq 129 x y 129, ty, pos, aft, gd⟩).run Tryz.prog w = .ok (.value (.bool E)) w := by
  unfold execOp
  simp only [hx, hy, Sem.run_bind]
  rw [show (eqGuard .neq 129 x y (.agg p) (.agg q)).run Tryz.prog w = .ok () w from by kernel_rfl]
  simp only [Result.andThen_ok, h, Sem.run_pure]
theorem file_eqv {xs ys : List Int} {n m : ByteArray} (hx : isB xs) (hy : isB ys) : (n.toList == m.toList && (str xs).toList == (str ys).toList) = true ↔ (n, xs) = (m, ys) := by
  rw [Bool.and_eq_true, str_beq hx hy, decide_eq_true_eq, beq_iff_eq]
  constructor
  · rintro ⟨h1, h2⟩
    rw [bytes_inj h1, h2]
  · intro h
    injection h with h1 h2
    exact ⟨by rw [h1], h2⟩
end Go.Proofs.YtninkkdbcgadpaaGreatDoor

/-
  The document's Append: piece by piece.
-/
namespace Go.Proofs.YtninkkdbcgadpaaGreatDoor
open Go.RowKit
set_option linter.unusedVariables false

/-- The next piece is what the document takes. -/
theorem edge_next {s had len k : Nat} (hs : 1 ≤ s) (hl : 0 < len) (hk : k < cntN s had len) : edgeN s had len (k + 1) - edgeN s had len k = min (s - (had + edgeN s had len k) % s) (len - edgeN s had len k) := by
  have h4 : (k + 1) * s = k * s + s := by rw [Nat.add_mul, Nat.one_mul]
  have h3 : had % s < s := Nat.mod_lt _ hs
  by_cases h0 : k = 0
  · subst h0
    rw [edge_zero]
    unfold edgeN
    simp only [Nat.add_zero, Nat.zero_add, Nat.one_mul, Nat.sub_zero]
  · obtain ⟨e1, e2, e3⟩ := edge_mid hs (by omega : 1 ≤ k) hk
    have e5 : had + (k * s - had % s) = (had / s + k) * s := by
      have := Nat.div_add_mod had s
      rw [Nat.add_mul, Nat.mul_comm (had / s) s]
      omega
    rw [e1] at e2 ⊢
    rw [e5, Nat.mul_mod_left]
    unfold edgeN
    omega
theorem edge_lt {s had len k : Nat} (hs : 1 ≤ s) (hl : 0 < len) (hk : k < cntN s had len) : edgeN s had len k < len := by
  have h1 := edge_step hs hl hk
  have h2 : edgeN s had len (k + 1) ≤ len := Nat.min_le_right _ _
  omega
def slen : Value → Nat
  | .slice _ l _ => l
  | _ => 0
/-- What stands at the head of the loop: k pieces are written. -/
structure ApI (w wr : World) (r s : Nat) (rs : List Rw) (R : Rm) (n : ByteArray) (b xs : List Int) (a0 : Option Addr) (k : Nat) (v : Value) : Prop where
  le : k ≤ cntN s xs.length b.length
  sl : ∃ a c, v = .slice a (b.length - edgeN s xs.length b.length k) c ∧ Sl wr a (b.length - edgeN s xs.length b.length k) c (b.drop (edgeN s xs.length b.length k)) ∧ ∀ x, a = some x → ∃ y, a0 = some y ∧ y.block = x.block
  rk : RoP w wr r s R (rs ++ expK s ⟨rAp n b, rs.length, xs.length⟩ k)
theorem RoP.step {w w1 w2 : World} {r s : Nat} {R R1 : Rm} {rs2 : List Rw} {v : Value} (h2 : Chs (R.own r) w w1) (h3 : ∀ k, R1.own r k → R.own r k ∨ w.heap.size ≤ k) (h4 : ∀ k, R1.ro k → R.ro k ∨ w.heap.size ≤ k) (hv : ∀ k, v.ownBlock = some k → w.heap.size ≤ k) (h : RoR w1 w2 r s R1 rs2 v) : RoP w w2 r s R rs2 := by
  obtain ⟨R2, a1, a2, a3, a4⟩ := h
  have hsz := h2.size
  refine ⟨R2, a1, h2.after a2 h3, fun k hk => ?_, fun k hk => ?_⟩
  · rcases a3 k hk with h | h
    · exact h3 k h
    · right; omega
  · rcases a4 k hk with h | h
    · exact h4 k h
    · exact .inr (hv k h)

end Go.Proofs.YtninkkdbcgadpaaGreatDoor

/-
  The document's Append: the walk.
-/
namespace Go.Proofs.YtninkkdbcgadpaaGreatDoor
open Go.RowKit
set_option linter.unusedVariables false

set_option maxRecDepth 100000 in
set_option maxHeartbeats 2000000 in
theorem appendR_any (r s : Nat) (rs : List Rw) (R : Rm) (w : World) (h : RkAt w r s rs R) (n : ByteArray) (a : Option Addr) (l c : Nat) (b : List Int) (hb : Sl w a l c b) (hoff : b ≠ [] → ∀ x, a = some x → ¬ R.own r x.block ∧ x.block < w.heap.size) (hwt : wt rs + 2 * b.length + 2 ≤ 1099511000000) :
    Calls Tryz.prog 30 #[.pointer (some ⟨r, 0, none⟩), .string n, .slice a l c] w fun e w' => e = .returned (.int .i64 (fE rs n)) ∧ RoP w w' r s R (apS s rs n b) := by
  have hl := hb.hlen
  subst hl
  have HW := hide hwt
  have hwr := wrong_t r s rs R w h n (by omega)
  have HWR := hide hwr
  have HH := hide h
  have HB := hide hb
  have HOFF := hide hoff
  clear h hwr hwt hb hoff
  by_cases h0 : fE rs n = 0
  · obtain ⟨hn, xs, hf, hfl⟩ := fE_0 h0
    rw [h0]
    rw [h0] at HWR
    by_cases hb0 : b = []
    · subst hb0
      have e2 : apS s rs n [] = rs := by simp [apS]
      rw [e2]
      clear e2 h0 hn hf hfl
      go_enter Tryz.func30, Tryz.ntmps30
      go_wp2_with (go_at_call 61; refine HWR.out.mono ?_; rintro e w2 ⟨rfl, hb2⟩)
      go_loopw [2] (fun v wr => v = .slice a 0 c ∧ w2 = wr) (fun _ _ => 0)
      case atStart => exact ⟨rfl, rfl⟩
      case round =>
        obtain ⟨rfl, rfl⟩ := hrel
        go_wp2
        go_ret
        exact ⟨rfl, RoP.below HH.out hb2⟩
    · have e2 : apS s rs n b = rs ++ expd s ⟨rAp n b, rs.length, xs.length⟩ := by
        simp only [apS, h0, hfl]
        rw [if_pos ⟨trivial, hb0⟩]
      rw [e2]
      have hs1 := HH.out.s1
      have hs2 := HH.out.s2
      have hbl : 0 < b.length := List.length_pos_iff.2 hb0
      have HAP : Hid (∀ k, k ≤ cntN s xs.length b.length → (expK s ⟨rAp n b, rs.length, xs.length⟩ k).foldl doR (play rs) = upd (play rs) n (some (xs ++ b.take (edgeN s xs.length b.length k))) ∧ Val s (play rs) (expK s ⟨rAp n b, rs.length, xs.length⟩ k)) := hide (fun k hk => expd_ap hs1 hn hf hb0 HB.out.hbyte k hk)
      have hxw := play_wt rs n
      rw [hfl] at hxw
      have HXW : Hid (xs.length ≤ 1099511000000) := hide (by have := HW.out; omega)
      have HCNT : Hid (cntN s xs.length b.length ≤ b.length + 1) := hide (cnt_bd hs1)
      have HBL := hide hbl
      replace HOFF := hide (HOFF.out hb0)
      clear e2 h0 hf hfl hb0 hxw hbl
      go_enter Tryz.func30, Tryz.ntmps30
      go_wp2_with (go_at_call 61; refine HWR.out.mono ?_; rintro e w2 ⟨rfl, hb2⟩)
      have I0 : Hid (ApI w w2 r s rs R n b xs a 0 (.slice a b.length c)) := hide ⟨Nat.zero_le _, ⟨a, c, by rw [edge_zero]; rfl, by rw [edge_zero]; exact HB.out.below hb2, fun x hx => ⟨x, hx, rfl⟩⟩, by simp only [expK, List.range_zero, List.map_nil, List.append_nil]; exact RoP.below HH.out hb2⟩
      clear hb2 HWR
      go_loopw [2] (fun v wr => ∃ k : Nat, Hid (ApI w wr r s rs R n b xs a k v)) (fun v _ => slen v)
      case atStart => exact ⟨0, I0⟩
      case round =>
        obtain ⟨k, HI⟩ := hrel
        obtain ⟨ak, ck, hve, hsk, hak⟩ := HI.out.sl
        obtain ⟨R1, g1, g2, g3, g4⟩ := HI.out.rk
        subst hve
        by_cases hlt : k < cntN s xs.length b.length
        · have hed := edge_lt hs1 HBL.out hlt
          have hnx := edge_next hs1 HBL.out hlt
          have hst := edge_step hs1 HBL.out hlt
          have hle1 : edgeN s xs.length b.length (k + 1) ≤ b.length := Nat.min_le_right _ _
          obtain ⟨hfd, _⟩ := HAP.out k (by omega)
          obtain ⟨_, hval⟩ := HAP.out (k + 1) (by omega)
          rw [expK_succ, Val_app, hfd] at hval
          have hpl : play (rs ++ expK s ⟨rAp n b, rs.length, xs.length⟩ k) = upd (play rs) n (some (xs ++ b.take (edgeN s xs.length b.length k))) := by rw [play_app, hfd]
          have HRK := hide g1
          have G2 := hide g2
          have G3 := hide g3
          have G4 := hide g4
          have HLR : Hid (Lraw s (play (rs ++ expK s ⟨rAp n b, rs.length, xs.length⟩ k)) (pieces s ⟨rAp n b, rs.length, xs.length⟩ k (k + 1))) := hide (by rw [hpl]; exact hval.2.1)
          have HSK := hide hsk
          have HAK := hide hak
          have hw9 : wt (rs ++ expK s ⟨rAp n b, rs.length, xs.length⟩ k) + (edgeN s xs.length b.length (k + 1) - edgeN s xs.length b.length k) + 1 ≤ 1099511000000 := by
            have h1 := expK_wt s ⟨rAp n b, rs.length, xs.length⟩ k
            have h2 : (b.take (edgeN s xs.length b.length k)).length ≤ edgeN s xs.length b.length k := by rw [List.length_take]; omega
            have h3 : wt (expK s ⟨rAp n b, rs.length, xs.length⟩ k) ≤ edgeN s xs.length b.length k + k := Nat.le_trans h1 (by show (b.take (edgeN s xs.length b.length k)).length + k ≤ _; omega)
            rw [wt_app]
            have h4 := HW.out
            have h5 := HCNT.out
            omega
          have HW9 := hide hw9
          have HALL : Hid (∀ W : World, RkAt W r s (rs ++ expK s ⟨rAp n b, rs.length, xs.length⟩ k) R1 → Calls Tryz.prog 40 #[.pointer (some ⟨r, 0, none⟩), .string n] W fun e w' => e = .returned (.tuple #[.string (str (xs ++ b.take (edgeN s xs.length b.length k))), .bool true]) ∧ Below W.heap.size W w') := hide (fun W hW => by
            have := all_any r s _ R1 W hW n (by have := HW9.out; omega)
            rw [hpl] at this
            have e1 : fl (upd (play rs) n (some (xs ++ b.take (edgeN s xs.length b.length k)))) n = xs ++ b.take (edgeN s xs.length b.length k) := by simp [fl, upd_same]
            rw [e1, upd_same] at this
            exact this)
          have hsz : (str (xs ++ b.take (edgeN s xs.length b.length k))).size = xs.length + edgeN s xs.length b.length k := by
            rw [str_size, List.length_append, List.length_take, Nat.min_eq_left (by omega)]
          have hpc : (pieces s ⟨rAp n b, rs.length, xs.length⟩ k (k + 1)) = rAp n ((b.drop (edgeN s xs.length b.length k)).take (edgeN s xs.length b.length (k + 1) - edgeN s xs.length b.length k)) := rfl
          rw [hpc] at HLR
          have HET : Hid (rs ++ expK s ⟨rAp n b, rs.length, xs.length⟩ (k + 1) = (rs ++ expK s ⟨rAp n b, rs.length, xs.length⟩ k) ++ [rAp n ((b.drop (edgeN s xs.length b.length k)).take (edgeN s xs.length b.length (k + 1) - edgeN s xs.length b.length k))]) := hide (by rw [expK_succ, hpc, List.append_assoc])
          have hMb : xs.length + edgeN s xs.length b.length k ≤ 2199022000000 := by have h1 := HXW.out; have h2 := HW.out; omega
          have hPl : ((b.drop (edgeN s xs.length b.length k)).take (edgeN s xs.length b.length (k + 1) - edgeN s xs.length b.length k)).length = edgeN s xs.length b.length (k + 1) - edgeN s xs.length b.length k := by rw [List.length_take, List.length_drop]; omega
          have hdd : (b.drop (edgeN s xs.length b.length k)).drop (edgeN s xs.length b.length (k + 1) - edgeN s xs.length b.length k) = b.drop (edgeN s xs.length b.length (k + 1)) := by rw [List.drop_drop]; congr 1; omega
          have hbl2 : b.length ≤ 1099511000000 := by have h2 := HW.out; omega
          have hisB := HB.out.hbyte
          clear hpl hval hfd hw9 hpc g1 g2 g3 g4 hak HI
          generalize edgeN s xs.length b.length k = EK at *
          generalize hEK1 : edgeN s xs.length b.length (k + 1) = EK1 at *
          generalize rs ++ expK s ⟨rAp n b, rs.length, xs.length⟩ k = rsK at *
          generalize str (xs ++ b.take EK) = X at HALL hsz
          obtain ⟨M, hM⟩ : ∃ M, M = xs.length + EK := ⟨_, rfl⟩
          rw [← hM] at hnx hsz hMb
          obtain ⟨N, hN⟩ : ∃ N, N = EK1 - EK := ⟨_, rfl⟩
          rw [← hN] at hnx HW9 HLR HET hPl hdd
          have hLRb : b.length - EK ≤ 1099511000000 := by omega
          have hLR1 : b.length - EK1 = (b.length - EK) - N := by omega
          have hN0 : 0 < N := by omega
          have hNL : N ≤ b.length - EK := by omega
          obtain ⟨LR, hLR⟩ : ∃ LR, LR = b.length - EK := ⟨_, rfl⟩
          rw [← hLR] at hsk HSK hLRb hLR1 hNL hnx ⊢
          obtain ⟨hto, hts⟩ := hsk.to' hNL
          obtain ⟨a2, hfr, hab, hfs⟩ := hsk.from' hNL
          have hcm : M % s < s := Nat.mod_lt _ hs1
          obtain ⟨H, hH⟩ : ∃ H, H = M % s := ⟨_, rfl⟩
          rw [← hH] at hnx hcm
          obtain ⟨T, hT⟩ : ∃ T, T = s - H := ⟨_, rfl⟩
          rw [← hT] at hnx
          have hcase : ((LR : Int) < (T : Int) ∧ N = LR) ∨ (¬ (LR : Int) < (T : Int) ∧ N = T) := by omega
          have f1 : (M : Int).tmod (s : Int) = (H : Int) := by rw [hH, Int.tmod_eq_emod_of_nonneg (by omega)]; rfl
          have hf2 := wrap_sub (Nat.le_of_lt hcm) (by omega)
          rw [← hT] at hf2
          have HF2 := hide hf2
          clear hf2 hT
          have hs0 : ¬ ((s : Int) = 0) := by omega
          have hl0 : (0 : Int) < (LR : Int) := by omega
          have HHS := hide (And.intro hs1 hs2)
          have HDD := hide hdd
          have HPL := hide hPl
          have HLR1 := hide hLR1
          have HAB := hide hab
          have HTS := hide hts
          have HFS := hide hfs
          have HE1 := hide hEK1
          have HP0 : Hid ((b.drop EK).take N ≠ []) := hide (fun e => by rw [e] at hPl; simp at hPl; omega)
          have HPB : Hid (isB ((b.drop EK).take N)) := hide ((hisB.drop _).take _)
          have HNL : Hid (N ≤ 1099511000000 ∧ N ≤ LR ∧ 0 < N) := hide ⟨by omega, hNL, hN0⟩
          have HPS : Hid (((b.drop EK).take N).length ≤ 140737488355328) := hide (by rw [hPl]; omega)
          have HWX : Hid (wt rsK + (rAp n ((b.drop EK).take N)).b.length + 1 ≤ 1099511000000) := hide (by show wt rsK + ((b.drop EK).take N).length + 1 ≤ _; rw [hPl]; exact HW9.out)
          have HLT : Hid (k + 1 ≤ cntN s xs.length b.length) := hide hlt
          have HSM : Hid (([] : List Int).length + N ≤ 140737488355328) := hide (by show 0 + N ≤ _; omega)
          clear hed hnx hst hle1 hsk hPl hdd hbl2 hisB hM hMb hLR hN hLRb hLR1 hN0 hNL hab hts hfs hcm hH hs1 hs2 hEK1 hlt
          generalize hPP : (b.drop EK).take N = P at *
          clear hPP
          go_wp2_with (go_at_call 40; refine (HALL.out _ HRK.out).mono ?_; rintro e w3 ⟨rfl, hb3⟩; have c0 : w3.cell? ⟨r, 0, none⟩ = some (.int .i64 (s : Int)) := (by rw [(HRK.out.fk.below hb3).blk.cell]; rfl))
          obtain ⟨f2, f3⟩ := HF2.out
          go_quiet (fail)
          have Z3 := hide (hb3.trans ((below_drewN (Below.refl w3.heap.size w3) nq).mono hb3.size))
          revert Z3
          generalize w3.drewN nq = w4
          intro Z3
          clear hb3 c0 f1 f2 f3 hs0
          have hcut : ∀ (v : Value) (W : World), v = .slice ak LR ck → True := fun _ _ _ => trivial
          have ho0 : Own (w4.alloc (.cells #[] 5)) w4.heap.size (.slice (some ⟨w4.heap.size, 0, none⟩) 0 0) [] := Own.of_blk (xs := []) (Blk.made w4 5 []) (Nat.le_refl _) (by simp)
          have hb0 : Below w4.heap.size w4 (w4.alloc (.cells #[] 5)) := (Below.refl _ _).alloc (Nat.le_refl _) _
          have HO0 := hide ho0
          have HB0 := hide hb0
          have Y4 : Hid (Sl (w4.alloc (.cells #[] 5)) ak N ck P) := hide (HTS.out _ ((HSK.out.below Z3.out).below HB0.out))
          clear ho0 hb0 hcut
          rcases hcase with ⟨hc, hNe⟩ | ⟨hc, hNe⟩
          · have hNi : (N : Int) = (LR : Int) := by rw [hNe]
            subst hNe
            clear hNi
            go_wp2_with (first | (refine step_append rfl rfl rfl HO0.out Y4.out HSM.out (by simp) ?_; intro v1 w5 ho1 hg1 hn1; have hb1 : Hid (Below w4.heap.size w4 w5) := hide (HB0.out.trans (Below.of_grown hg1 HB0.out.size HO0.out.lt)); rw [List.nil_append] at ho1; have HO1 := hide ho1; clear ho1 hg1 hn1; obtain ⟨a1, c1, hve1⟩ := HO1.out.slice; subst hve1) | (refine step_bR2 rfl rfl rfl ?_))
            have Z5 := hide (Z3.out.trans (hb1.out.mono Z3.out.size))
            have BV1 := HO1.out.bv HPB.out HPS.out HP0.out
            refine (doR_any r s rsK R1 (rAp n P) _ _ (HRK.out.below Z5.out) HLR.out BV1 HWX.out).mono ?_
            rintro e w6 ⟨rfl, hR⟩
            have HSK6 : Sl w6 ak N ck (b.drop EK) := HSK.out.same (fun x hx => by
              obtain ⟨y, hy, hyb⟩ := HAK.out x hx
              obtain ⟨o1, o2⟩ := HOFF.out y hy
              rw [hyb] at o1 o2
              have hsz := G2.out.size
              obtain ⟨R6, q1, q2, q3, q4⟩ := hR
              have hsz5 := Z5.out.size
              rw [q2.block x.block (by omega) (fun e => by
                rcases G3.out x.block e with e | e
                · exact o1 e
                · omega)]
              exact Z5.out.block x.block (by omega))
            have I6 : Hid (ApI w w6 r s rs R n b xs a (k + 1) (.slice a2 (N - N) (ck - N))) := hide ⟨HLT.out, ⟨a2, ck - N, by rw [HE1.out, HLR1.out], by
                rw [HE1.out, HLR1.out, ← HDD.out]
                exact HFS.out _ HSK6, fun x hx => by
                obtain ⟨y, hy, hyb⟩ := HAB.out x hx
                obtain ⟨y', hy', hyb'⟩ := HAK.out y hy
                exact ⟨y', hy', by rw [hyb', hyb]⟩⟩, by
                rw [HET.out]
                refine RoP.step (G2.out.thenBelow Z5.out) G3.out G4.out (fun q hq => ?_) hR
                have h1 := HO1.out.lt q hq
                have h2 := G2.out.size
                have h3 := Z3.out.size
                omega⟩
            clear HSK6 hR BV1
            go_wp2
            go_roundw
            case rel => first | exact ⟨k + 1, I6⟩ | exact ⟨k + 1, by have h9 := I6; rw [Nat.sub_self] at h9; exact h9⟩
            case measure =>
              have := HNL.out
              first | (show N - N < N; omega) | (show 0 < N; omega)
          · have hNi : (N : Int) = (T : Int) := by rw [hNe]
            subst hNe
            clear hNi
            go_wp2_with (first | (refine step_append rfl rfl rfl HO0.out Y4.out HSM.out (by simp) ?_; intro v1 w5 ho1 hg1 hn1; have hb1 : Hid (Below w4.heap.size w4 w5) := hide (HB0.out.trans (Below.of_grown hg1 HB0.out.size HO0.out.lt)); rw [List.nil_append] at ho1; have HO1 := hide ho1; clear ho1 hg1 hn1; obtain ⟨a1, c1, hve1⟩ := HO1.out.slice; subst hve1) | (refine step_bR2 rfl rfl rfl ?_))
            have Z5 := hide (Z3.out.trans (hb1.out.mono Z3.out.size))
            have BV1 := HO1.out.bv HPB.out HPS.out HP0.out
            refine (doR_any r s rsK R1 (rAp n P) _ _ (HRK.out.below Z5.out) HLR.out BV1 HWX.out).mono ?_
            rintro e w6 ⟨rfl, hR⟩
            have HSK6 : Sl w6 ak LR ck (b.drop EK) := HSK.out.same (fun x hx => by
              obtain ⟨y, hy, hyb⟩ := HAK.out x hx
              obtain ⟨o1, o2⟩ := HOFF.out y hy
              rw [hyb] at o1 o2
              have hsz := G2.out.size
              obtain ⟨R6, q1, q2, q3, q4⟩ := hR
              have hsz5 := Z5.out.size
              rw [q2.block x.block (by omega) (fun e => by
                rcases G3.out x.block e with e | e
                · exact o1 e
                · omega)]
              exact Z5.out.block x.block (by omega))
            have I6 : Hid (ApI w w6 r s rs R n b xs a (k + 1) (.slice a2 (LR - N) (ck - N))) := hide ⟨HLT.out, ⟨a2, ck - N, by rw [HE1.out, HLR1.out], by
                rw [HE1.out, HLR1.out, ← HDD.out]
                exact HFS.out _ HSK6, fun x hx => by
                obtain ⟨y, hy, hyb⟩ := HAB.out x hx
                obtain ⟨y', hy', hyb'⟩ := HAK.out y hy
                exact ⟨y', hy', by rw [hyb', hyb]⟩⟩, by
                rw [HET.out]
                refine RoP.step (G2.out.thenBelow Z5.out) G3.out G4.out (fun q hq => ?_) hR
                have h1 := HO1.out.lt q hq
                have h2 := G2.out.size
                have h3 := Z3.out.size
                omega⟩
            clear HSK6 hR BV1
            go_wp2
            go_roundw
            case rel => first | exact ⟨k + 1, I6⟩ | exact ⟨k + 1, by have h9 := I6; rw [Nat.sub_self] at h9; exact h9⟩
            case measure =>
              have := HNL.out
              first | (show LR - N < LR; omega) | (show 0 < N; omega)
        · have hkc : k = cntN s xs.length b.length := by have := HI.out.le; omega
          have hed : edgeN s xs.length b.length k = b.length := edge_cnt hs1 (by omega)
          rw [hed, Nat.sub_self]
          have hex : expd s ⟨rAp n b, rs.length, xs.length⟩ = expK s ⟨rAp n b, rs.length, xs.length⟩ k := by rw [hkc]; rfl
          have HRK := hide HI.out.rk
          rw [← hex] at HRK
          clear hsk hak g1 g2 g3 g4 hed hex hkc hlt
          go_wp2
          go_ret
          exact ⟨rfl, HRK.out⟩
  · have e2 : apS s rs n b = rs := by simp [apS, h0]
    rw [e2]
    generalize fE rs n = E at HWR h0
    clear e2
    go_enter Tryz.func30, Tryz.ntmps30
    go_wp2_with (go_at_call 61; refine HWR.out.mono ?_; rintro e w2 ⟨rfl, hb2⟩)
    go_ret
    exact ⟨rfl, RoP.below HH.out hb2⟩

end Go.Proofs.YtninkkdbcgadpaaGreatDoor

/-
  The law's laid.
-/
namespace Go.Proofs.YtninkkdbcgadpaaGreatDoor
open Go.RowKit Go.Shelf
set_option linter.unusedVariables false
set_option linter.unusedSimpArgs false
set_option maxRecDepth 100000

theorem wFw : Wide 72 2 := ⟨by kernel_rfl, by kernel_rfl⟩
theorem zFw : Zeroed 72 (fwC ByteArray.empty (.slice none 0 0)) := fun _ _ _ _ _ _ _ => by kernel_rfl
theorem fw_at (b o n cap i : Nat) (hi : i < n) (v : World) : (Instr.indexAt 22 (.slice (some ⟨b, o, none⟩) n cap) (.int .i64 (i : Int))).run Tryz.prog v = .ok (.pointer (some ⟨b, o + i * 2, none⟩)) v := by
  have hu : Tryz.prog.underlying 22 = some (.slice (Tryz.prog.elem 22)) := by kernel_rfl
  have he : Tryz.prog.elem 22 = 72 := by kernel_rfl
  have hz : ∀ v : World, (sizeOf 72).run Tryz.prog v = .ok 2 v := fun _ => by kernel_rfl
  rw [run_indexAt_slice v _ _ _ _ .i64 i hu, if_pos ⟨by omega, by omega⟩, he, hz]
  simp only [Result.andThen_ok, Int.toNat_natCast]
  rw [Addr.add_lit]
theorem sec13 (sec : Int) : ∃ s : Nat, wrap64 (1 + (wrap64 (sec.tmod 64 + 64)).tmod 64) = (s : Int) ∧ 1 ≤ s ∧ s ≤ 64 := by
  obtain ⟨c, h1, h2⟩ := mod_cut13 sec 63 (by omega)
  have e : ((63 + 1 : Nat) : Int) = 64 := rfl
  rw [e] at h1
  rw [h1]
  exact ⟨c + 1, by unfold wrap64; omega, by omega, by omega⟩
/-- Beside the two disks: the world's own variable. -/
structure LV (w W : World) (b1 : Nat) (k : Int) (a : Option Addr) (n c : Nat) (d r s : Nat) (rs : List Rw) (D : Dm) (R : Rm) : Prop where
  pl : LP w W d r s rs D R
  c1 : Blk W b1 24 [.int .i64 k, .slice a n c]
  nf : ¬ Foot d r D R b1
section
variable {w W W1 W2 : World} {b1 : Nat} {k : Int} {a : Option Addr} {n c d r s : Nat} {rs rs' : List Rw} {D : Dm} {R : Rm}
theorem LV.on (h : LV w W b1 k a n c d r s rs D R) (hb : Below W.heap.size W W1) : LV w W1 b1 k a n c d r s rs D R := ⟨h.pl.on hb, h.c1.on hb, h.nf⟩
theorem LV.two (h : LV w W b1 k a n c d r s rs D R) : W.cell? ⟨b1, 0, none⟩ = some (.int .i64 k) ∧ W.cell? ⟨b1, 1, none⟩ = some (.slice a n c) := ⟨by rw [h.c1.cell]; rfl, by rw [h.c1.cell]; rfl⟩
theorem LV.both (h : LV w W b1 k a n c d r s rs D R) (ho : OpR W W1 d s D rs') (hr : RoP W1 W2 r s R rs') : ∃ D' R', LV w W2 b1 k a n c d r s rs' D' R' ∧ ∀ j, Foot d r D' R' j → Foot d r D R j ∨ W.heap.size ≤ j := by
  obtain ⟨D', R', hp, hf⟩ := h.pl.both ho hr
  refine ⟨D', R', ⟨hp, LP.keep2 hr (h.pl.keep1 ho h.c1 h.nf) h.nf, fun hb => ?_⟩, hf⟩
  rcases hf b1 hb with e | e
  · exact h.nf e
  · have := h.c1.lt; omega
end
set_option maxHeartbeats 4000000 in
theorem laid_any (sec : Int) (a : Option Addr) (n c : Nat) (L : List Fw) (w : World) (hL : Fws w a n c L) :
    Calls Tryz.prog 7 #[.agg #[.int .i64 sec, .slice a n c]] w fun e w' => ∃ s d r rs D R, e = .returned (.tuple #[.pointer (some ⟨d, 0, none⟩), .pointer (some ⟨r, 0, none⟩), .bool true]) ∧ 1 ≤ s ∧ s ≤ 64 ∧ LP w w' d r s rs D R ∧ Lw rs (fbulk L) L.length := by
  have HL := hide hL
  have hsum := hL.hsum
  have hlen := hL.hlen
  have hlf := len_fbulk L
  clear hL
  obtain ⟨s, hs, hs1, hs2⟩ := sec13 sec
  have HS := hide hs
  clear hs
  go_enter Tryz.func7, Tryz.ntmps7
  go_wp2_with (refine step_box (cs := [.int .i64 sec, .slice a n c]) rfl rfl ?_)
  intro w1 b1 hg1 hl1 hb1
  have d0 : w1.cell? ⟨b1, 0, none⟩ = some (.int .i64 sec) := by rw [hg1.cell]; rfl
  have G1 := hide hg1
  have B1 := hide hb1
  have LB1 := hide hl1
  clear hg1 hb1 hl1
  go_wp2_with fail
  rw [HS.out]
  refine (new_ok _ _ (by omega) (by omega)).mono ?_
  rintro e w2 ⟨d, m, rfl, hN⟩
  have HN := hide hN
  clear hN d0
  go_wp2_with fail
  refine (newR_ok s _ hs1 (by omega)).mono ?_
  rintro e w3 ⟨r, rfl, hR, hgR, hbR⟩
  have P0 : Hid (LV w w3 b1 sec a n c d r s [] ⟨m, .slice none 0 0, [], []⟩ rm0) := hide (by
    have hp := LP.new hs1 (by omega) HN.out hR hgR hbR
    have s0 := B1.out.size
    have hlt := G1.out.lt
    refine ⟨⟨hp.dk, hp.rk, hp.ap, fun k hk => by have := hp.lo k hk; omega, on_below B1.out hp.bel⟩, G1.out.on hp.bel, fun hf => ?_⟩
    have := hp.lo b1 hf
    omega)
  clear hR hgR hbR HN B1 G1
  go_wp2_with fail
  clear HS
  go_loopw [10] (fun i wr => ∃ (k : Nat) (rs : List Rw) (D : Dm) (R : Rm), i = .int .i64 (k : Int) ∧ k ≤ n ∧ Hid (Lw rs (fbulk (L.take k)) k) ∧ Hid (LV w wr b1 sec a n c d r s rs D R)) (fun i _ => n - (intOf i).toNat)
  case atStart => exact ⟨0, [], _, _, rfl, Nat.zero_le _, hide Lw.nil, P0⟩
  case round =>
    clear P0
    obtain ⟨k, rs, D, R, rfl, hkl, HLW, P⟩ := hrel
    obtain ⟨k0, k1⟩ := P.out.two
    have hkn : k ≤ 349525 := by omega
    have hnn : n ≤ 349525 := by omega
    by_cases hlt : k < n
    · have hlti : (k : Int) < (n : Int) := by omega
      obtain ⟨x, hx⟩ : ∃ x, L[k]? = some x := ⟨_, List.getElem?_eq_getElem (by omega)⟩
      obtain ⟨b0, o0, rfl, hrg⟩ := HL.out.hcell k x hx
      have hix := fw_at b0 o0 n c k hlt
      have HRG := hide (rangeAt_below hrg P.out.pl.bel)
      have HXI := hide ((HL.out.hin k x hx).below P.out.pl.bel)
      have HXO : Hid (∀ y, x.a = some y → x.xs ≠ [] → y.block < w.heap.size) := hide (fun y hy hne => by
        have h0 : 0 < x.l := by rw [← (HL.out.hin k x hx).hlen]; exact List.length_pos_iff.2 hne
        exact (HL.out.hin k x hx).lt h0 y hy)
      have HF1 : Hid (fbulk (L.take (k + 1)) = fbulk (L.take k) + (x.xs.length + 3) ∧ fbulk (L.take (k + 1)) ≤ 1048576) := hide (by
        have h1 := fbulk_succ L k x hx
        have h2 := fbulk_take L (k + 1)
        unfold Fw.bulk at h1
        exact ⟨h1, by omega⟩)
      have HW1 : Hid (wt rs + 2 * x.xs.length + 4 ≤ 4194304) := hide (by have h1 := HLW.out.wt; have h2 := HF1.out; omega)
      clear hrg hx hsum hlf hlen
      go_wp2_with (first | (refine step_loadR wFw rfl rfl x.cells HRG.out rfl ?_) | (refine step_alloc zFw rfl ?_))
      intro w8 g11 hr8 hl8 hb8
      go_wp2_with (refine step_storeA wFw rfl rfl rfl hr8 rfl (Fw.one _) rfl ?_)
      intro w9 hg9 hbut9
      have hb9 := hb8.trans (hbut9.below hl8)
      have P9 := hide (P.out.on hb9)
      have GX : Hid (Blk w9 g11 72 (fwC x.n (.slice x.a x.l x.c))) := hide hg9
      have NF : Hid (¬ Foot d r D R g11) := hide (fun h => by have := P.out.pl.lt h; omega)
      have X9 := hide (HXI.out.below hb9)
      clear hr8 hl8 hb8 hg9 hbut9 hb9 hix HRG P k0 k1 HXI
      obtain ⟨rs1, HR1⟩ : ∃ rs1, Hid (crS rs x.n = rs1) := ⟨_, hide rfl⟩
      have HWT1 : Hid (wt rs1 ≤ wt rs + 1) := hide (by rw [← HR1.out]; exact wt_crL rs x.n)
      have HLW2 : Hid (Lw (apS s rs1 x.n x.xs) (fbulk (L.take (k + 1))) (k + 1)) := hide (by
        rw [← HR1.out, HF1.out.1]
        exact HLW.out.add hs1 x.n X9.out.hbyte)
      have HC0 : Hid (∀ v : World, Blk v g11 72 (fwC x.n (.slice x.a x.l x.c)) → v.cell? ⟨g11, 0, none⟩ = some (.string x.n)) := hide (fun v hv => by rw [hv.cell]; rfl)
      have HC1 : Hid (∀ v : World, Blk v g11 72 (fwC x.n (.slice x.a x.l x.c)) → v.cell? ⟨g11, 1, none⟩ = some (.slice x.a x.l x.c)) := hide (fun v hv => by rw [hv.cell]; rfl)
      go_wp2_with fail
      refine wp_region_noPanic ?_
      have PD := hide (P9.out.on (Below.refl w9.heap.size w9).drew)
      have XD := hide (X9.out.below (Below.refl w9.heap.size w9).drew)
      refine wp_region_held_drew (S := fun v : World => Blk v g11 72 (fwC x.n (.slice x.a x.l x.c))) (by kernel_rfl) (GX.out.on (Below.refl w9.heap.size w9).drew) (fun hHeld => ?_)
      refine takeH 0 46 (.pointer (some ⟨d, 0, none⟩)) hHeld rfl rfl (by kernel_rfl) (by kernel_rfl) (by kernel_rfl) (fun _ _ _ h => h) (Or.inl ⟨by rfl, fun w _ => by go_simp⟩) ?_
      simp only [Act.put, List.setIfInBounds_toArray, List.set_cons_zero, List.set_cons_succ]
      refine takeH 1 47 (.pointer (some ⟨g11, 0, none⟩)) hHeld rfl rfl (by kernel_rfl) (by kernel_rfl) (by kernel_rfl) (fun _ _ _ h => h) (Or.inl ⟨by rfl, fun w _ => by go_simp⟩) ?_
      simp only [Act.put, List.setIfInBounds_toArray, List.set_cons_zero, List.set_cons_succ]
      refine takeH 2 48 (.string x.n) hHeld rfl rfl (by kernel_rfl) (by kernel_rfl) (by kernel_rfl) (fun _ _ _ h => h) (Or.inl ⟨by rfl, fun w hw => by have hw' : w.cell? ⟨g11, 0, none⟩ = some (.string x.n) := (HC0.out w) hw; go_simp⟩) ?_
      simp only [Act.put, List.setIfInBounds_toArray, List.set_cons_zero, List.set_cons_succ]
      refine takeH 4 50 (.pointer (some ⟨r, 0, none⟩)) hHeld rfl rfl (by kernel_rfl) (by kernel_rfl) (by kernel_rfl) (fun _ _ _ h => h) (Or.inl ⟨by rfl, fun w _ => by go_simp⟩) ?_
      simp only [Act.put, List.setIfInBounds_toArray, List.set_cons_zero, List.set_cons_succ]
      refine takeH 5 51 (.pointer (some ⟨g11, 0, none⟩)) hHeld rfl rfl (by kernel_rfl) (by kernel_rfl) (by kernel_rfl) (fun _ _ _ h => h) (Or.inl ⟨by rfl, fun w _ => by go_simp⟩) ?_
      simp only [Act.put, List.setIfInBounds_toArray, List.set_cons_zero, List.set_cons_succ]
      refine takeH 6 52 (.string x.n) hHeld rfl rfl (by kernel_rfl) (by kernel_rfl) (by kernel_rfl) (fun _ _ _ h => h) (Or.inl ⟨by rfl, fun w hw => by have hw' : w.cell? ⟨g11, 0, none⟩ = some (.string x.n) := (HC0.out w) hw; go_simp⟩) ?_
      simp only [Act.put, List.setIfInBounds_toArray, List.set_cons_zero, List.set_cons_succ]
      refine wpAnyH_ready (rs := [3]) (by kernel_rfl) (by simp) (AllReadyH.cons rfl (fun K hK => ?_) AllReadyH.nil)
      rw [if_pos (by rfl)]
      go_simp
      refine (create_any d s rs D _ PD.out.pl.dk x.n (by have := HW1.out; omega)).mono ?_
      rintro e wa ⟨rfl, hop⟩
      have HOP := hide hop
      have GA := hide (PD.out.pl.keep1 hop hHeld NF.out)
      clear hop
      refine hK.out _ _ GA.out (fun hHeld => ?_)
      clear hK K
      try simp only [Act.put, List.setIfInBounds_toArray, List.set_cons_zero, List.set_cons_succ]
      refine wpAnyH_ready (rs := [7]) (by kernel_rfl) (by simp) (AllReadyH.cons rfl (fun K hK => ?_) AllReadyH.nil)
      rw [if_pos (by rfl)]
      go_simp
      refine (createR_any r s rs R _ (PD.out.pl.op1 HOP.out).1 x.n (by have := HW1.out; omega)).mono ?_
      rintro e wb ⟨rfl, hrp⟩
      have GB := hide (LP.keep2 hrp GA.out NF.out)
      obtain ⟨D2, R2, hp2, hft⟩ := PD.out.both HOP.out hrp
      rw [HR1.out] at hp2
      have P2 := hide hp2
      have NF2 : Hid (¬ Foot d r D2 R2 g11) := hide (fun hf => by
        rcases hft g11 hf with e | e
        · exact NF.out e
        · have h1 := GX.out.lt
          have : w9.drew.heap.size = w9.heap.size := rfl
          omega)
      have X2 : Hid (Sl wb x.a x.l x.c x.xs) := hide (by
        obtain ⟨_, _, h1, _, _⟩ := HOP.out
        obtain ⟨_, _, h2, _, _⟩ := hrp
        have hnot : ∀ S : Nat → Prop, (∀ k, S k → w.heap.size ≤ k) → 0 < x.l → ∀ y, x.a = some y → ¬ S y.block := fun S hS h0 y hy hc => by
          have h3 := HXO.out y hy (by intro e; rw [← X9.out.hlen, e] at h0; cases h0)
          have h4 := hS _ hc
          omega
        exact (XD.out.chs h1 (hnot _ (fun k hk => PD.out.pl.lo k (.inl (.inl hk))))).chs h2 (hnot _ (fun k hk => PD.out.pl.lo k (.inr (.inl hk)))))
      clear hp2 hft HOP hrp PD XD GA X9 P9 GX
      refine hK.out _ _ GB.out (fun hHeld => ?_)
      clear hK K
      try simp only [Act.put, List.setIfInBounds_toArray, List.set_cons_zero, List.set_cons_succ]
      have hne0 : (crE rs x.n != crE rs x.n) = false := by simp
      refine takeH 8 54 (.bool false) hHeld rfl rfl (by kernel_rfl) (by kernel_rfl) (by kernel_rfl) (fun _ _ _ h => h) (Or.inl ⟨by rfl, fun w _ => by go_simp⟩) ?_
      simp only [Act.put, List.setIfInBounds_toArray, List.set_cons_zero, List.set_cons_succ]
      refine takeH 9 55 (.bool false) hHeld rfl rfl (by kernel_rfl) (by kernel_rfl) (by kernel_rfl) (fun _ _ _ h => h) (Or.inl ⟨by rfl, fun w _ => by go_simp⟩) ?_
      simp only [Act.put, List.setIfInBounds_toArray, List.set_cons_zero, List.set_cons_succ]
      refine takeH 10 56 (.pointer (some ⟨d, 0, none⟩)) hHeld rfl rfl (by kernel_rfl) (by kernel_rfl) (by kernel_rfl) (fun _ _ _ h => h) (Or.inl ⟨by rfl, fun w _ => by go_simp⟩) ?_
      simp only [Act.put, List.setIfInBounds_toArray, List.set_cons_zero, List.set_cons_succ]
      refine takeH 11 57 (.pointer (some ⟨g11, 0, none⟩)) hHeld rfl rfl (by kernel_rfl) (by kernel_rfl) (by kernel_rfl) (fun _ _ _ h => h) (Or.inl ⟨by rfl, fun w _ => by go_simp⟩) ?_
      simp only [Act.put, List.setIfInBounds_toArray, List.set_cons_zero, List.set_cons_succ]
      refine takeH 12 58 (.string x.n) hHeld rfl rfl (by kernel_rfl) (by kernel_rfl) (by kernel_rfl) (fun _ _ _ h => h) (Or.inl ⟨by rfl, fun w hw => by have hw' : w.cell? ⟨g11, 0, none⟩ = some (.string x.n) := (HC0.out w) hw; go_simp⟩) ?_
      simp only [Act.put, List.setIfInBounds_toArray, List.set_cons_zero, List.set_cons_succ]
      refine takeH 13 59 (.pointer (some ⟨g11, 1, none⟩)) hHeld rfl rfl (by kernel_rfl) (by kernel_rfl) (by kernel_rfl) (fun _ _ _ h => h) (Or.inl ⟨by rfl, fun w _ => by go_simp⟩) ?_
      simp only [Act.put, List.setIfInBounds_toArray, List.set_cons_zero, List.set_cons_succ]
      refine takeH 14 60 (.slice x.a x.l x.c) hHeld rfl rfl (by kernel_rfl) (by kernel_rfl) (by kernel_rfl) (fun _ _ _ h => h) (Or.inl ⟨by rfl, fun w hw => by have hw' : w.cell? ⟨g11, 1, none⟩ = some (.slice x.a x.l x.c) := (HC1.out w) hw; go_simp⟩) ?_
      simp only [Act.put, List.setIfInBounds_toArray, List.set_cons_zero, List.set_cons_succ]
      refine takeH 16 62 (.pointer (some ⟨r, 0, none⟩)) hHeld rfl rfl (by kernel_rfl) (by kernel_rfl) (by kernel_rfl) (fun _ _ _ h => h) (Or.inl ⟨by rfl, fun w _ => by go_simp⟩) ?_
      simp only [Act.put, List.setIfInBounds_toArray, List.set_cons_zero, List.set_cons_succ]
      refine takeH 17 63 (.pointer (some ⟨g11, 0, none⟩)) hHeld rfl rfl (by kernel_rfl) (by kernel_rfl) (by kernel_rfl) (fun _ _ _ h => h) (Or.inl ⟨by rfl, fun w _ => by go_simp⟩) ?_
      simp only [Act.put, List.setIfInBounds_toArray, List.set_cons_zero, List.set_cons_succ]
      refine takeH 18 64 (.string x.n) hHeld rfl rfl (by kernel_rfl) (by kernel_rfl) (by kernel_rfl) (fun _ _ _ h => h) (Or.inl ⟨by rfl, fun w hw => by have hw' : w.cell? ⟨g11, 0, none⟩ = some (.string x.n) := (HC0.out w) hw; go_simp⟩) ?_
      simp only [Act.put, List.setIfInBounds_toArray, List.set_cons_zero, List.set_cons_succ]
      refine takeH 19 65 (.pointer (some ⟨g11, 1, none⟩)) hHeld rfl rfl (by kernel_rfl) (by kernel_rfl) (by kernel_rfl) (fun _ _ _ h => h) (Or.inl ⟨by rfl, fun w _ => by go_simp⟩) ?_
      simp only [Act.put, List.setIfInBounds_toArray, List.set_cons_zero, List.set_cons_succ]
      refine takeH 20 66 (.slice x.a x.l x.c) hHeld rfl rfl (by kernel_rfl) (by kernel_rfl) (by kernel_rfl) (fun _ _ _ h => h) (Or.inl ⟨by rfl, fun w hw => by have hw' : w.cell? ⟨g11, 1, none⟩ = some (.slice x.a x.l x.c) := (HC1.out w) hw; go_simp⟩) ?_
      simp only [Act.put, List.setIfInBounds_toArray, List.set_cons_zero, List.set_cons_succ]
      refine wpAnyH_ready (rs := [15]) (by kernel_rfl) (by simp) (AllReadyH.cons rfl (fun K hK => ?_) AllReadyH.nil)
      rw [if_pos (by rfl)]
      go_simp
      refine (append_any d s rs1 D2 _ P2.out.pl.dk x.n _ _ _ x.xs X2.out (by have := HW1.out; have := HWT1.out; omega)).mono ?_
      rintro e wc ⟨rfl, hop⟩
      have HOP := hide hop
      have GC := hide (P2.out.pl.keep1 hop hHeld NF2.out)
      have X3 : Hid (Sl wc x.a x.l x.c x.xs) := hide (by
        obtain ⟨_, _, h1, _, _⟩ := hop
        refine X2.out.chs h1 (fun h0 y hy hc => ?_)
        have h3 := HXO.out y hy (by intro e; rw [← X2.out.hlen, e] at h0; cases h0)
        have h4 := P2.out.pl.lo _ (.inl (.inl hc))
        omega)
      have HOFF : Hid (x.xs ≠ [] → ∀ y, x.a = some y → ¬ R2.own r y.block ∧ y.block < wc.heap.size) := hide (fun hne y hy => by
        have h3 := HXO.out y hy hne
        refine ⟨fun hc => by have := P2.out.pl.lo _ (.inr (.inl hc)); omega, ?_⟩
        have := (P2.out.pl.op1 hop).2.size
        omega)
      clear hop
      refine hK.out _ _ GC.out (fun hHeld => ?_)
      clear hK K
      try simp only [Act.put, List.setIfInBounds_toArray, List.set_cons_zero, List.set_cons_succ]
      refine wpAnyH_ready (rs := [21]) (by kernel_rfl) (by simp) (AllReadyH.cons rfl (fun K hK => ?_) AllReadyH.nil)
      rw [if_pos (by rfl)]
      go_simp
      refine (appendR_any r s rs1 R2 _ (P2.out.pl.op1 HOP.out).1 x.n _ _ _ x.xs X3.out HOFF.out (by have := HW1.out; have := HWT1.out; omega)).mono ?_
      rintro e wd ⟨rfl, hrp⟩
      have GD := hide (LP.keep2 hrp GC.out NF2.out)
      obtain ⟨D3, R3, hp3, _⟩ := P2.out.both HOP.out hrp
      have P3 := hide hp3
      clear hp3 HOP hrp GC X2 X3 HOFF P2
      refine hK.out _ _ GD.out (fun hHeld => ?_)
      clear hK K
      try simp only [Act.put, List.setIfInBounds_toArray, List.set_cons_zero, List.set_cons_succ]
      refine takeH 22 68 (.bool false) hHeld rfl rfl (by kernel_rfl) (by kernel_rfl) (by kernel_rfl) (fun _ _ _ h => h) (Or.inl ⟨by rfl, fun w _ => by go_simp⟩) ?_
      simp only [Act.put, List.setIfInBounds_toArray, List.set_cons_zero, List.set_cons_succ]
      refine takeH 23 69 (.bool false) hHeld rfl rfl (by kernel_rfl) (by kernel_rfl) (by kernel_rfl) (fun _ _ _ h => h) (Or.inl ⟨by rfl, fun w _ => by go_simp⟩) ?_
      simp only [Act.put, List.setIfInBounds_toArray, List.set_cons_zero, List.set_cons_succ]
      refine wpAnyH_done (by kernel_rfl) ?_ _
      refine NoPanic.normal ?_
      clear hHeld GB GD HC0 HC1 NF NF2
      go_wp2
      go_roundw
      case rel => exact ⟨k + 1, _, D3, R3, by go_num, by omega, HLW2, P3⟩
      case measure => simp [intOf]; omega
    · have hlti : ¬ (k : Int) < (n : Int) := by omega
      obtain rfl : k = n := by omega
      have HLF : Hid (Lw rs (fbulk L) L.length) := hide (by
        have := HLW.out
        rw [List.take_of_length_le (by omega)] at this
        rwa [hlen])
      have HWB : Hid (wt rs ≤ 1000000000000) := hide (by have h1 := HLF.out.wt; omega)
      clear hlf
      go_wp2_with fail
      refine (disks_any d r s rs D R _ P.out.pl.dk P.out.pl.rk HWB.out).mono ?_
      rintro e w4 ⟨rfl, hb4⟩
      have P4 := hide (P.out.on hb4)
      clear hb4 k0 k1 P
      go_wp2
      go_ret3
      exact ⟨s, d, r, rs, D, R, rfl, hs1, hs2, P4.out.pl, HLF.out⟩

end Go.Proofs.YtninkkdbcgadpaaGreatDoor

/-
  The document's generations of a disk.
-/
namespace Go.Proofs.YtninkkdbcgadpaaGreatDoor
open Go.RowKit Go.Shelf
set_option linter.unusedVariables false
set_option linter.unusedSimpArgs false
set_option maxRecDepth 100000

/-- What stands in generations. -/
structure GQ (w W : World) (r s : Nat) (rs : List Rw) (R : Rm) (av : Option Addr) (cv : Nat) : Prop where
  row : W.ownsRow w.heap.size 9 1 (.slice av R.l.length cv) R.l.length (nmsC R.l)
  bel : Below w.heap.size w W
section
variable {w W W' : World} {r s : Nat} {rs : List Rw} {R : Rm} {av : Option Addr} {cv : Nat}
theorem GQ.on (h : GQ w W r s rs R av cv) (hb : Below W.heap.size W W') : GQ w W' r s rs R av cv := ⟨row_on h.row hb, on_below h.bel hb⟩
theorem GQ.turn {B g n c : Nat} {ns : List Value} {i : Nat} {v : Value} (h : GQ w W r s rs R av cv) (ho : OwnV 3 W w.heap.size (.slice (some ⟨g, 0, none⟩) n c) ns) : GQ w (W.setCell ⟨g, i, none⟩ v) r s rs R av cv := by
  have hb := But.setCell W g i v
  have hg := (ho.lt g rfl).1
  refine ⟨row_same h.row (fun k hk => hb.block k (fun e => ?_)), h.bel.trans (hb.below hg)⟩
  subst e
  obtain ⟨cs, hc⟩ := row_lies h.row hk
  obtain ⟨cs', hc'⟩ := ho.blk (k := k) rfl
  exact hc.apart hc' (by decide) rfl
theorem GQ.grown {v : Value} {ns : List Value} (h : GQ w W r s rs R av cv) (ho : OwnV 3 W w.heap.size v ns) (hg : W.grownBy W' v.ownBlock) : GQ w W' r s rs R av cv :=
  ⟨World.ownsRow.kept h.row hg (own_ne h.row ho.2 (by decide)), h.bel.trans (Below.of_grown hg h.bel.size (fun k hk => (ho.lt k hk).1))⟩
end
set_option maxHeartbeats 2000000 in
theorem gensR_any (r s : Nat) (rs : List Rw) (R : Rm) (w : World) (h : RkAt w r s rs R) (hwt : wt rs ≤ 1099511000000) (hfw : R.l.length ≤ 1000000) :
    Calls Tryz.prog 38 #[.pointer (some ⟨r, 0, none⟩)] w fun e w' => ∃ v gl, e = .returned v ∧ Gens (play rs) gl ∧ OwnV 3 w' w.heap.size v (nI gl) ∧ Below w.heap.size w w' := by
  have HH := hide h
  have HLI := hide (listR_any r s rs R w h hwt)
  clear h hwt
  go_enter Tryz.func38, Tryz.ntmps38
  go_wp2_with fail
  refine HLI.out.mono ?_
  rintro e w1 ⟨v, rfl, hrow, hb1⟩
  obtain ⟨av, cv, rfl⟩ := row_slice hrow
  have G1 : Hid (GQ w w1 r s rs R av cv) := hide ⟨hrow, hb1⟩
  clear hrow hb1 HLI
  obtain ⟨L, HL⟩ : ∃ L, Hid (R.l.length = L) := ⟨_, hide rfl⟩
  rw [HL.out] at hfw
  rw [HL.out]
  go_wp2
  go_loopw [3, 5] (fun v i wr => ∃ (k : Nat) (o : List Nat), i = .int .i64 (k : Int) ∧ k ≤ L ∧ Hid (OwnV 3 wr w.heap.size v (nI o)) ∧ Hid (Gnm ((R.l.take k).map (·.1)) o) ∧ Hid (o.length ≤ k) ∧ Hid (GQ w wr r s rs R av cv)) (fun _ i _ => L - (intOf i).toNat)
  case atStart => exact ⟨0, [], rfl, Nat.zero_le _, hide (OwnV.nil _ _ _), hide Gnm.nil, hide (Nat.le_refl _), G1⟩
  case round =>
    clear G1
    obtain ⟨k, o, rfl, hk, HO, HGM, HOL, HG⟩ := hrel
    by_cases hlt : k < L
    · obtain ⟨x, hx⟩ : ∃ x, R.l[k]? = some x := ⟨_, List.getElem?_eq_getElem (by rw [HL.out]; exact hlt)⟩
      have hrow := HG.out.row
      obtain ⟨gr, cap, cs, e1, hgb, hcs, _⟩ := row_at hrow (by rw [HL.out]; omega)
      rw [HL.out] at e1
      injection e1 with e1 e2 e3
      clear e2
      subst e1 e3
      have hix := vw_at rSt gr L cv k hlt
      rw [Nat.mul_one] at hix
      have hcell : wr.cell? ⟨gr, k, none⟩ = some (.string x.1) := by
        rw [hgb.cell]
        have h1 : (nmsC R.l)[k]? = some (.string x.1) := by unfold nmsC; rw [List.getElem?_map, hx]; rfl
        rw [← hcs, List.getElem?_take, if_pos (by rw [Nat.mul_one, HL.out]; exact hlt)] at h1
        exact h1
      have hlti : (k : Int) < (L : Int) := by omega
      have HTK : Hid ((R.l.take (k + 1)).map (·.1) = (R.l.take k).map (·.1) ++ [x.1]) := hide (by
        obtain ⟨hi, rfl⟩ := List.getElem?_eq_some_iff.1 hx
        rw [List.take_succ_eq_append_getElem hi, List.map_append]
        rfl)
      have HNIN : Hid (x.1 ∉ (R.l.take k).map (·.1)) := hide (fun hm => by
        obtain ⟨y, hy, e⟩ := List.mem_map.1 hm
        obtain ⟨i, hi, rfl⟩ := List.mem_iff_getElem.1 hy
        have hik : i < k := by rw [List.length_take] at hi; omega
        obtain ⟨hkl, rfl⟩ := List.getElem?_eq_some_iff.1 hx
        have := (List.pairwise_iff_getElem.1 HH.out.fls.srt) i k (by omega) hkl hik
        rw [List.getElem_take] at e
        exact blt_ne this e)
      have HSZ : Hid (x.1.size ≤ 128) := hide (by
        have h3 := HH.out.nmR ((HH.out.fls.mem x.1 x.2).2 (List.mem_of_getElem? hx))
        simp [nmB] at h3
        omega)
      have HGEN : Hid (Calls Tryz.prog 71 #[.string x.1] wr fun e w' => ∃ g : Nat, e = .returned (.int .i64 (g : Int)) ∧ GnO x.1 g ∧ Below wr.heap.size wr w') := hide (by
        have e : bA (strL x.1) = x.1 := eq_of_strL (by rw [strL_bA])
        have := genR_any (strL x.1) wr (by rw [strL_length]; have := HSZ.out; omega)
        rwa [e] at this)
      clear hx hrow hgb hcs
      go_wp2_with fail
      refine HGEN.out.mono ?_
      rintro e w2 ⟨g, rfl, hgo, hb2⟩
      have HGO := hide hgo
      have HG2 := hide (HG.out.on hb2)
      have HO2 := hide (HO.out.below hb2)
      clear hgo hb2 HG HO HGEN hcell hix
      by_cases hg0 : g = 0
      · subst hg0
        have HGM2 : Hid (Gnm ((R.l.take (k + 1)).map (·.1)) o) := hide (by rw [HTK.out]; exact HGM.out.skip HGO.out)
        have HOL2 : Hid (o.length ≤ k + 1) := hide (by have := HOL.out; omega)
        go_wp2
        go_roundw
        case rel => exact ⟨k + 1, o, by go_num, by omega, HO2, HGM2, HOL2, HG2⟩
        case measure => simp [intOf]; omega
      · have hg0' : ((g : Int) == 0) = false := by rw [beq_eq_false_iff_ne]; omega
        have HNEW := hide (HGM.out.new HGO.out hg0 HNIN.out)
        obtain ⟨va, vc, rfl⟩ := HO2.out.slice
        obtain ⟨n, HN⟩ : ∃ n, Hid (o.length = n) := ⟨_, hide rfl⟩
        rw [nI_length, HN.out] at HO2
        rw [nI_length, HN.out]
        have hnb : n ≤ 1000000 := by have := HOL.out; have := HN.out; omega
        go_wp2_with (refine step_one1 tinI (u := .int .i64 (g : Int)) rfl rfl rfl ?_)
        intro w3 g3 hg3 hl3 hb3
        have HG3 := hide (HG2.out.on hb3)
        have HO3 := hide (HO2.out.below hb3)
        have GB3 := hide hg3
        clear hg3 hl3 hb3 HG2 HO2
        go_wp2_with (refine step_app1 tinI (u := .int .i64 (g : Int)) rfl rfl rfl rfl HO3.out GB3.out (by rw [nI_length]; have := HN.out; omega) HG3.out.bel.size ?_)
        intro v4 w4 ho4 hgr4
        have HG4 := hide (HG3.out.grown HO3.out hgr4)
        rcases ho4.lies with ⟨_, e0⟩ | ⟨gb, cap, cs, rfl, _⟩
        · simp at e0
        have hln : (nI o ++ [Value.int .i64 (g : Int)]).length = n + 1 := by rw [List.length_append, nI_length, HN.out]; rfl
        have HO4 : Hid (OwnV 3 w4 w.heap.size (.slice (some ⟨gb, 0, none⟩) (n + 1) cap) (nI (ins o g n))) := hide (by
          have e1 : nI (ins o g n) = nI o ++ [.int .i64 (g : Int)] := by rw [← HN.out, ins_end, nI_app]; rfl
          rw [e1]
          rw [hln] at ho4
          exact ho4)
        rw [hln]
        have HDR0 : Hid (∀ x ∈ o.drop n, g < x) := hide (fun x hx => by rw [List.drop_of_length_le (by rw [HN.out]; exact Nat.le_refl _)] at hx; cases hx)
        clear ho4 hgr4 HG3 HO3 GB3 hln
        go_wp2_with fail
        go_loopw [7] (fun q W => ∃ p : Nat, q = .int .i64 (p : Int) ∧ p ≤ n ∧ Hid (OwnV 3 W w.heap.size (.slice (some ⟨gb, 0, none⟩) (n + 1) cap) (nI (ins o g p))) ∧ Hid (∀ x ∈ o.drop p, g < x) ∧ Hid (GQ w W r s rs R (some ⟨gr, 0, none⟩) cv)) (fun q _ => (intOf q).toNat)
        case atStart => exact ⟨n, rfl, Nat.le_refl _, HO4, HDR0, HG4⟩
        case round =>
          clear HO4 HDR0 HG4
          obtain ⟨p, rfl, hpn, HOp, HDR, HGp⟩ := hrel
          have hp : p ≤ o.length := by rw [HN.out]; exact hpn
          by_cases hp0 : p = 0
          · subst hp0
            go_wp2_with fail
            go_quiet (fail)
            have HGq := hide (HGp.out.on (below_drewN (Below.refl wr.heap.size wr) nq))
            have HOq := hide (HOp.out.below (below_drewN (Below.refl wr.heap.size wr) nq))
            revert HGq HOq
            generalize wr.drewN nq = w5
            intro HGq HOq
            clear HGp HOp
            have HGM2 : Hid (Gnm ((R.l.take (k + 1)).map (·.1)) (ins o g 0)) := hide (by
              rw [HTK.out]
              exact HGM.out.put HGO.out hg0 (ins_rise HGM.out.srt HNEW.out hp HDR.out (.inl rfl)))
            have HLN : Hid ((ins o g 0).length ≤ k + 1) := hide (by rw [ins_length]; have := HOL.out; omega)
            clear HDR
            go_wp2
            go_roundw
            case rel => exact ⟨k + 1, ins o g 0, by go_num, by omega, HOq, HGM2, HLN, HGq⟩
            case measure => simp [intOf]; omega
          · obtain ⟨t, HPT⟩ : ∃ t, Hid (p = t + 1) := ⟨p - 1, hide (by omega)⟩
            have htl : t < o.length := by have := HPT.out; omega
            have htn : t < n + 1 := by have := HPT.out; omega
            obtain ⟨y, HY⟩ : ∃ y, Hid (o.getD t 0 = y) := ⟨_, hide rfl⟩
            have HAT : Hid ((nI (ins o g p))[p]? = some (.int .i64 (g : Int)) ∧ (nI (ins o g p))[t]? = some (.int .i64 (y : Int)) ∧ ((nI (ins o g p)).set p (.int .i64 (y : Int))).set t (.int .i64 (g : Int)) = nI (ins o g t)) := hide (by
              have := ins_at o g t htl
              rw [← HPT.out, HY.out] at this
              exact this)
            have HCL : Hid (∀ W : World, OwnV 3 W w.heap.size (.slice (some ⟨gb, 0, none⟩) (n + 1) cap) (nI (ins o g p)) → W.cell? ⟨gb, p, none⟩ = some (.int .i64 (g : Int)) ∧ W.cell? ⟨gb, t, none⟩ = some (.int .i64 (y : Int))) := hide (fun W hW => by
              obtain ⟨a1, e1, _, q1⟩ := hW.cell p (by rw [nI_length, ins_length]; omega)
              obtain ⟨a2, e2, _, q2⟩ := hW.cell t (by rw [nI_length, ins_length]; omega)
              cases e1
              cases e2
              exact ⟨q1.trans HAT.out.1, q2.trans HAT.out.2.1⟩)
            have hix1 := tinI.at gb (n + 1) cap p (p : Int) rfl (by omega)
            have hix2 := tinI.at gb (n + 1) cap t (t : Int) rfl htn
            have hwp : wrap64 ((p : Int) - 1) = (t : Int) := by have := HPT.out; unfold wrap64; omega
            have hwi : IntKind.i64.wrap ((p : Int) - 1) = (t : Int) := by have := HPT.out; rw [IntKind.wrap_i64]; omega
            have hp1 : decide ((0 : Int) < (p : Int)) = true := decide_eq_true (by omega)
            have hp2 : decide (0 < p) = true := decide_eq_true (by omega)
            obtain ⟨c1, c2⟩ := HCL.out _ HOp.out
            by_cases hgy : g < y
            · have hd1 : decide ((g : Int) < (y : Int)) = true := decide_eq_true (by omega)
              have hd2 : decide (g < y) = true := decide_eq_true hgy
              have HDR2 : Hid (∀ x ∈ o.drop t, g < x) := hide (fun x hx => by
                rw [List.drop_eq_getElem_cons htl, ← HPT.out] at hx
                rcases List.mem_cons.1 hx with e | e
                · have h2 := HY.out
                  simp only [List.getD, List.getElem?_eq_getElem htl, Option.getD_some] at h2
                  rw [e, h2]; exact hgy
                · exact HDR.out x e)
              go_wp2_with fail
              go_quiet (fail)
              have HGq := hide (HGp.out.on (below_drewN (Below.refl wr.heap.size wr) nq))
              have HOq := hide (HOp.out.below (below_drewN (Below.refl wr.heap.size wr) nq))
              revert HGq HOq
              generalize wr.drewN nq = w5
              intro HGq HOq
              clear c1 c2 HGp HOp HDR
              obtain ⟨c1, c2⟩ := HCL.out _ HOq.out
              have f1 := World.ownsRow.frozenAt (by have := HOq.out.2; rwa [nI_length, ins_length, HN.out] at this) p
              have HO6 := hide (HOq.out.set p (v := .int .i64 (y : Int)) rfl)
              have HG6 := hide (HGq.out.turn (B := 0) (i := p) (v := .int .i64 (y : Int)) HOq.out)
              have c3 : (w5.setCell ⟨gb, p, none⟩ (.int .i64 (y : Int))).cell? ⟨gb, t, none⟩ = some (.int .i64 (y : Int)) := by
                rw [cell_ne w5 gb t p _ (by have := HPT.out; omega)]
                exact c2
              have f2 := World.ownsRow.frozenAt (by have := HO6.out.2; rwa [List.length_set, nI_length, ins_length, HN.out] at this) t
              have HO7 := hide (HO6.out.set t (v := .int .i64 (g : Int)) rfl)
              have HG7 := hide (HG6.out.turn (B := 0) (i := t) (v := .int .i64 (g : Int)) HO6.out)
              rw [HAT.out.2.2] at HO7
              clear HO6 HG6 HGq HOq HAT HCL
              go_wp2
              go_roundw
              case rel => exact ⟨t, rfl, by have := HPT.out; omega, HO7, HDR2, HG7⟩
              case measure => have := HPT.out; simp only [intOf]; omega
            · have hd1 : decide ((g : Int) < (y : Int)) = false := decide_eq_false (by omega)
              have hd2 : decide (g < y) = false := decide_eq_false hgy
              have HLE : Hid (p = 0 ∨ o.getD (p - 1) 0 ≤ g) := hide (.inr (by
                have e : p - 1 = t := by have := HPT.out; omega
                rw [e, HY.out]; omega))
              go_wp2_with fail
              go_quiet (fail)
              have HGq := hide (HGp.out.on (below_drewN (Below.refl wr.heap.size wr) nq))
              have HOq := hide (HOp.out.below (below_drewN (Below.refl wr.heap.size wr) nq))
              revert HGq HOq
              generalize wr.drewN nq = w5
              intro HGq HOq
              clear c1 c2 HGp HOp hix1 hix2 hwp hwi hp1 hp2 hd1 hd2 HAT HCL
              have HGM2 : Hid (Gnm ((R.l.take (k + 1)).map (·.1)) (ins o g p)) := hide (by
                rw [HTK.out]
                exact HGM.out.put HGO.out hg0 (ins_rise HGM.out.srt HNEW.out hp HDR.out HLE.out))
              have HLN : Hid ((ins o g p).length ≤ k + 1) := hide (by rw [ins_length]; have := HOL.out; omega)
              clear HDR
              go_wp2
              go_roundw
              case rel => exact ⟨k + 1, ins o g p, by go_num, by omega, HOq, HGM2, HLN, HGq⟩
              case measure => simp [intOf]; omega
    · have hlti : ¬ (k : Int) < (L : Int) := by omega
      have e1 : k = L := by omega
      have HGE : Hid (Gens (play rs) o) := hide (by
        have := HGM.out
        rw [e1, List.take_of_length_le (by rw [HL.out]; exact Nat.le_refl _)] at this
        exact Gnm.gens HH.out.fls this)
      go_wp2
      go_ret
      exact ⟨_, rfl, o, HGE.out, HO.out, HG.out.bel⟩

end Go.Proofs.YtninkkdbcgadpaaGreatDoor

/-
  The document's journal in memory, beside its disk.
-/
namespace Go.Proofs.YtninkkdbcgadpaaGreatDoor
open Go.RowKit Go.Shelf
set_option linter.unusedVariables false

/-- The document's journal in memory. -/
structure QnAt (w : World) (q r g : Nat) (ls : List (List Int)) (N : Jm) : Prop where
  blk : Blk w q 88 (jnC (some ⟨r, 0, none⟩) (g : Int) N.lv)
  row : OwnV 39 w 0 N.lv N.vs
  cts : Cts w 0 N.vs ls
  byt : ∀ l ∈ ls, isB l ∧ l.length ≤ 65535
section
variable {w w' : World} {q r g : Nat} {ls : List (List Int)} {N : Jm}
theorem QnAt.same (h : QnAt w q r g ls N) (hk : ∀ k, N.own q k ∨ N.ro k → w'.heap[k]? = w.heap[k]?) : QnAt w' q r g ls N :=
  ⟨h.blk.same (hk q (.inl (.inl rfl))), h.row.same (fun k e => hk k (.inl (.inr e))), h.cts.same (fun v hv k e => hk k (.inr ⟨v, hv, e⟩)), h.byt⟩
theorem QnAt.kindR (h : QnAt w q r g ls N) {k : Nat} (hk : N.ro k) : ∃ cs, Blk w k 5 cs := by
  obtain ⟨v, hv, e⟩ := hk
  obtain ⟨l, _, ho⟩ := h.cts.mem hv
  exact ho.lies e
theorem QnAt.kind (h : QnAt w q r g ls N) {k : Nat} (hk : N.own q k ∨ N.ro k) : ∃ t cs, Blk w k t cs ∧ (t = 88 ∨ t = 39 ∨ t = 5) := by
  rcases hk with (rfl | hk) | hk
  · exact ⟨_, _, h.blk, .inl rfl⟩
  · obtain ⟨cs, hc⟩ := h.row.blk hk
    exact ⟨_, cs, hc, .inr (.inl rfl)⟩
  · obtain ⟨cs, hc⟩ := h.kindR hk
    exact ⟨_, cs, hc, .inr (.inr rfl)⟩
theorem QnAt.lt (h : QnAt w q r g ls N) {k : Nat} (hk : N.own q k ∨ N.ro k) : k < w.heap.size := by
  obtain ⟨t, cs, hc, _⟩ := h.kind hk
  exact hc.lt
theorem QnAt.below (h : QnAt w q r g ls N) (hb : Below w.heap.size w w') : QnAt w' q r g ls N := h.same (fun k hk => hb.block k (h.lt hk))
theorem QnAt.c0 (h : QnAt w q r g ls N) : w.cell? ⟨q, 0, none⟩ = some (.pointer (some ⟨r, 0, none⟩)) := by rw [h.blk.cell]; rfl
theorem QnAt.c1 (h : QnAt w q r g ls N) : w.cell? ⟨q, 1, none⟩ = some (.int .i64 (g : Int)) := by rw [h.blk.cell]; rfl
theorem QnAt.c2 (h : QnAt w q r g ls N) : w.cell? ⟨q, 2, none⟩ = some N.lv := by rw [h.blk.cell]; rfl
theorem QnAt.vlen (h : QnAt w q r g ls N) : N.vs.length = ls.length := h.cts.1
theorem QnAt.slice (h : QnAt w q r g ls N) : ∃ a c, N.lv = .slice a ls.length c := by
  obtain ⟨a, c, e⟩ := h.row.slice
  exact ⟨a, c, by rw [e, h.vlen]⟩
end
/-- The document's journal over its disk. -/
structure QJ (w : World) (r q s : Nat) (rs : List Rw) (R : Rm) (g : Nat) (ls : List (List Int)) (N : Jm) : Prop where
  rk : RkAt w r s rs R
  qn : QnAt w q r g ls N
/-- All their blocks. -/
def QF (r q : Nat) (R : Rm) (N : Jm) (k : Nat) : Prop := (R.own r k ∨ R.ro k) ∨ N.own q k ∨ N.ro k
section
variable {w w' : World} {r q s : Nat} {rs rs' : List Rw} {R : Rm} {g : Nat} {ls : List (List Int)} {N : Jm}
theorem QJ.lt (h : QJ w r q s rs R g ls N) {k : Nat} (hk : QF r q R N k) : k < w.heap.size := hk.elim h.rk.lt h.qn.lt
theorem QJ.same (h : QJ w r q s rs R g ls N) (hk : ∀ k, QF r q R N k → w'.heap[k]? = w.heap[k]?) : QJ w' r q s rs R g ls N :=
  ⟨h.rk.same (fun k hk' => hk k (.inl hk')), h.qn.same (fun k hk' => hk k (.inr hk'))⟩
theorem QJ.below (h : QJ w r q s rs R g ls N) (hb : Below w.heap.size w w') : QJ w' r q s rs R g ls N := ⟨h.rk.below hb, h.qn.below hb⟩
theorem QJ.chs {S : Nat → Prop} (h : QJ w r q s rs R g ls N) (hc : Chs S w w') (hn : ∀ k, QF r q R N k → ¬ S k) : QJ w' r q s rs R g ls N := h.same (fun k hk => hc.block k (h.lt hk) (hn k hk))
/-- The journal's blocks are none that the disk writes to. -/
theorem QJ.off (h : QJ w r q s rs R g ls N) {k : Nat} (hk : N.own q k ∨ N.ro k) : ¬ R.own r k := fun hr => by
  obtain ⟨t, cs, hc, ht⟩ := h.qn.kind hk
  obtain ⟨t', cs', hc', ht'⟩ := h.rk.kind hr
  rcases ht with rfl | rfl | rfl <;> rcases ht' with rfl | rfl | rfl <;> exact hc.apart hc' (by decide) rfl
/-- A call of the disk leaves the journal. -/
theorem QJ.op (h : QJ w r q s rs R g ls N) (ho : RoP w w' r s R rs') : ∃ R', QJ w' r q s rs' R' g ls N ∧ Chs (R.own r) w w' ∧ ∀ k, QF r q R' N k → QF r q R N k ∨ w.heap.size ≤ k := by
  obtain ⟨R', h1, h2, h3, h4⟩ := ho
  refine ⟨R', ⟨h1, h.qn.same (fun k hk => h2.block k (h.qn.lt hk) (h.off hk))⟩, h2, fun k hk => ?_⟩
  rcases hk with (hk | hk) | hk
  · exact (h3 k hk).imp (fun h => .inl (.inl h)) id
  · exact (h4 k hk).imp (fun h => .inl (.inr h)) id
  · exact .inl (.inr hk)
end
/-- What a call of the document's journal leaves. -/
def QR (w w' : World) (r q s : Nat) (R : Rm) (N : Jm) (rs' : List Rw) (g' : Nat) (ls' : List (List Int)) : Prop :=
  ∃ R' N', QJ w' r q s rs' R' g' ls' N' ∧ Chs (QF r q R N) w w' ∧ ∀ k, QF r q R' N' k → QF r q R N k ∨ w.heap.size ≤ k
theorem QR.below {w w' : World} {r q s : Nat} {rs : List Rw} {R : Rm} {g : Nat} {ls : List (List Int)} {N : Jm} (h : QJ w r q s rs R g ls N) (hb : Below w.heap.size w w') : QR w w' r q s R N rs g ls := ⟨R, N, h.below hb, Chs.of_below _ hb, fun k hk => .inl hk⟩
theorem QR.after {w w1 w2 : World} {r q s : Nat} {R R1 : Rm} {N N1 : Jm} {rs2 : List Rw} {g2 : Nat} {ls2 : List (List Int)} (hc : Chs (QF r q R N) w w1) (hf : ∀ k, QF r q R1 N1 k → QF r q R N k ∨ w.heap.size ≤ k) (h : QR w1 w2 r q s R1 N1 rs2 g2 ls2) : QR w w2 r q s R N rs2 g2 ls2 := by
  obtain ⟨R2, N2, h1, h2, h3⟩ := h
  have hs := hc.size
  refine ⟨R2, N2, h1, hc.after h2 hf, fun k hk => ?_⟩
  rcases h3 k hk with h | h
  · exact hf k h
  · exact .inr (by omega)
/-- Other leaves put into the journal: a new row of them, some of them new. -/
theorem QJ.put {w w2 : World} {r q s : Nat} {rs : List Rw} {R : Rm} {g g' : Nat} {ls ls' : List (List Int)} {N : Jm} {lv : Value} {vs : List Value} (h : QJ w r q s rs R g ls N) (hch : Chs (fun k => k = q) w w2) (hblk : Blk w2 q 88 (jnC (some ⟨r, 0, none⟩) (g' : Int) lv)) (hrow : OwnV 39 w2 w.heap.size lv vs) (hcts : Cts w2 0 vs ls') (hbyt : ∀ l ∈ ls', isB l ∧ l.length ≤ 65535) (hvs : ∀ v ∈ vs, ∀ k, v.ownBlock = some k → N.ro k ∨ w.heap.size ≤ k) : QR w w2 r q s R N rs g' ls' := by
  refine ⟨R, ⟨lv, vs⟩, ⟨h.rk.same (fun k hk => hch.block k (h.rk.lt hk) (fun e => ?_)), ⟨hblk, hrow.mono (Nat.zero_le _), hcts, hbyt⟩⟩, hch.mono (fun k _ e => .inr (.inl (.inl e))), ?_⟩
  · subst e
    rcases hk with hk | ⟨x, hx, hk⟩
    · exact h.off (.inl (.inl rfl)) hk
    · obtain ⟨cs, hc⟩ := (h.rk.byt x hx).lies hk
      exact hc.apart h.qn.blk (by decide) rfl
  · rintro k (hk | (hk | hk) | ⟨v, hv, hk⟩)
    · exact .inl (.inl hk)
    · exact .inl (.inr (.inl (.inl hk)))
    · exact .inr (hrow.lt k hk).1
    · exact (hvs v hv k hk).imp (fun h => .inr (.inr h)) id
/-- What calls of its disk have left, one behind the other. -/
structure QA (w W : World) (r q s : Nat) (R : Rm) (N : Jm) (rs' : List Rw) (g : Nat) (ls : List (List Int)) (R' : Rm) : Prop where
  qj : QJ W r q s rs' R' g ls N
  ch : Chs (QF r q R N) w W
  ft : ∀ k, QF r q R' N k → QF r q R N k ∨ w.heap.size ≤ k
section
variable {w W W' : World} {r q s : Nat} {R R1 : Rm} {N : Jm} {rs rs1 rs2 : List Rw} {g : Nat} {ls : List (List Int)}
theorem QA.refl (h : QJ w r q s rs R g ls N) : QA w w r q s R N rs g ls R := ⟨h, Chs.refl _ _, fun k hk => .inl hk⟩
theorem QA.on (h : QA w W r q s R N rs1 g ls R1) (hb : Below W.heap.size W W') : QA w W' r q s R N rs1 g ls R1 := ⟨h.qj.below hb, h.ch.thenBelow hb, h.ft⟩
theorem QA.step (h : QA w W r q s R N rs1 g ls R1) (ho : RoP W W' r s R1 rs2) : ∃ R2, QA w W' r q s R N rs2 g ls R2 := by
  obtain ⟨R2, h1, h2, h3⟩ := h.qj.op ho
  have hs := h.ch.size
  refine ⟨R2, h1, h.ch.after h2 (fun k hk => h.ft k (.inl (.inl hk))), fun k hk => ?_⟩
  rcases h3 k hk with e | e
  · exact h.ft k e
  · exact .inr (by omega)
end

end Go.Proofs.YtninkkdbcgadpaaGreatDoor
