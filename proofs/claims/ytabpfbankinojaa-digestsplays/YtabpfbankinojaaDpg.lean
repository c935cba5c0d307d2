/-
  The document's Add: where nothing is added.
-/
import Derived.Test.YtabpfbankinojaaDpl
import Derived.Test.YtabpfbankinojaaOu
import Derived.Deep.Cut
namespace Go.Proofs.Ytabpfbankinojaa
open Go.RowKit Go.Shelf
set_option linter.unusedVariables false
set_option linter.unusedSimpArgs false
set_option maxRecDepth 100000

theorem wX : Wide 30 2 := ⟨by kernel_rfl, by kernel_rfl⟩
theorem zX : Zeroed 30 [.slice none 0 0, .slice none 0 0] := fun _ _ _ _ _ _ _ => by kernel_rfl
/-- What stands in an addition: the index, the digest, what is answered. -/
structure DA (w W : World) (g1 g2 g6 : Nat) (iv rv : Value) (L : List Ent) (R : List Nat) (d : List Int) : Prop where
  c1 : Blk W g1 30 [iv, rv]
  c2 : Blk W g2 24 (u8s d)
  c6 : Blk W g6 30 [.slice none 0 0, .slice none 0 0]
  dx : Dx W iv rv L R
  bel : Below w.heap.size w W
  l6 : w.heap.size ≤ g6
section
variable {w W W' : World} {g1 g2 g6 : Nat} {iv rv : Value} {L : List Ent} {R : List Nat} {d : List Int}
theorem DA.on (h : DA w W g1 g2 g6 iv rv L R d) (hb : Below W.heap.size W W') : DA w W' g1 g2 g6 iv rv L R d := ⟨h.c1.on hb, h.c2.on hb, h.c6.on hb, h.dx.on hb, on_below h.bel hb, h.l6⟩
end
set_option maxHeartbeats 1000000 in
theorem addD_neg (iv rv : Value) (L : List Ent) (R : List Nat) (d : List Int) (q : Int) (w : World) (h : Dx w iv rv L R) (hl : d.length = 32) (hb : isB d) (hn : L.length ≤ 4398046511104) (hq : q < 0) :
    Calls Try.prog 11 #[.agg #[iv, rv], .agg (u8s d).toArray, .int .i64 q] w fun e w' => e = .returned (.tuple #[.agg #[iv, rv], .int .i64 2]) ∧ Below w.heap.size w w' := by
  have HL := hide hl
  have HB := hide hb
  have HDX := hide h
  obtain ⟨ia, ic, rfl⟩ := h.si
  obtain ⟨ra, rc, rfl⟩ := h.sr
  obtain ⟨n, hnn⟩ : ∃ n, L.length = n := ⟨_, rfl⟩
  obtain ⟨m, hmm⟩ : ∃ m, R.length = m := ⟨_, rfl⟩
  have HN := hide hnn
  have HM := hide hmm
  rw [hnn, hmm] at HDX ⊢
  rw [hnn] at hn
  clear h hb hl hnn hmm
  go_enter Try.func11, Try.ntmps11
  go_wp2_with (refine step_box (cs := [.slice ia n ic, .slice ra m rc]) rfl rfl ?_)
  intro w1 g1 hg1 hle1 hb1
  have G1 := hide hg1
  have B1 := hide hb1
  clear hg1 hb1
  go_wp2_with (refine step_box (cs := u8s d) rfl rfl ?_)
  intro w2 g2 hg2 hle2 hb2
  have G2 := hide hg2
  have G12 := hide (G1.out.on hb2)
  have B2 := hide (on_below B1.out hb2)
  clear hg2 hb2 hle1 hle2 B1 G1
  go_wp2_with (refine step_alloc zX rfl ?_)
  intro w3 g6 hg6 hle6 hb3
  have HA : Hid (DA w w3 g1 g2 g6 (.slice ia n ic) (.slice ra m rc) L R d) := hide ⟨G12.out.on hb3, G2.out.on hb3, hg6, (HDX.out.on B2.out).on hb3, on_below B2.out hb3, Nat.le_trans B2.out.size hle6⟩
  clear hg6 hle6 hb3 B2 G12 G2 HDX
  go_wp2_with (first | refine step_loadA wX rfl rfl HA.out.c1 rfl ?_ | refine step_storeA wX rfl rfl (vs := [.slice ia n ic, .slice ra m rc]) rfl HA.out.c6 rfl (by intro v hv; simp at hv; rcases hv with rfl | rfl <;> rfl) rfl ?_)
  intro w4 hg4 hbut
  have HF : Hid (Below w.heap.size w w4) := hide (HA.out.bel.trans (hbut.below HA.out.l6))
  have HG := hide hg4
  clear hg4 hbut HA
  go_wp2_with fail
  refine bodyPost_ret (results_wide2 rfl wX _ _ rfl HG.out rfl) rfl ⟨rfl, HF.out⟩
set_option maxHeartbeats 1000000 in
theorem addD_there (iv rv : Value) (L : List Ent) (R : List Nat) (d : List Int) (q : Int) (w : World) (h : Dx w iv rv L R) (hl : d.length = 32) (hb : isB d) (hn : L.length ≤ 4398046511104) (hq : 0 ≤ q) {p : Int} (hf : fndR d L = some p) :
    Calls Try.prog 11 #[.agg #[iv, rv], .agg (u8s d).toArray, .int .i64 q] w fun e w' => e = .returned (.tuple #[.agg #[iv, rv], .int .i64 120]) ∧ Below w.heap.size w w' := by
  have HF := hide hf
  clear hf
  have HL := hide hl
  have HB := hide hb
  have HDX := hide h
  obtain ⟨ia, ic, rfl⟩ := h.si
  obtain ⟨ra, rc, rfl⟩ := h.sr
  obtain ⟨n, hnn⟩ : ∃ n, L.length = n := ⟨_, rfl⟩
  obtain ⟨m, hmm⟩ : ∃ m, R.length = m := ⟨_, rfl⟩
  have HN := hide hnn
  have HM := hide hmm
  rw [hnn, hmm] at HDX ⊢
  rw [hnn] at hn
  clear h hb hl hnn hmm
  go_enter Try.func11, Try.ntmps11
  go_wp2_with (refine step_box (cs := [.slice ia n ic, .slice ra m rc]) rfl rfl ?_)
  intro w1 g1 hg1 hle1 hb1
  have G1 := hide hg1
  have B1 := hide hb1
  clear hg1 hb1
  go_wp2_with (refine step_box (cs := u8s d) rfl rfl ?_)
  intro w2 g2 hg2 hle2 hb2
  have G2 := hide hg2
  have G12 := hide (G1.out.on hb2)
  have B2 := hide (on_below B1.out hb2)
  clear hg2 hb2 hle1 hle2 B1 G1
  go_wp2_with (refine step_alloc zX rfl ?_)
  intro w3 g6 hg6 hle6 hb3
  have HA : Hid (DA w w3 g1 g2 g6 (.slice ia n ic) (.slice ra m rc) L R d) := hide ⟨G12.out.on hb3, G2.out.on hb3, hg6, (HDX.out.on B2.out).on hb3, on_below B2.out hb3, Nat.le_trans B2.out.size hle6⟩
  clear hg6 hle6 hb3 B2 G12 G2 HDX
  have hq' : ¬ q < 0 := by omega
  go_wp2_with (first | refine step_loadA wX rfl rfl HA.out.c1 rfl ?_ | refine step_loadA wideD rfl rfl HA.out.c2 (by rw [u8s_length, HL.out]) ?_)
  refine (findD_any (.slice ia n ic) (.slice ra m rc) L R d w3 HA.out.dx HL.out HB.out (by rw [HN.out]; exact hn)).mono ?_
  rintro e w4 ⟨rfl, hb4⟩
  have HA4 := hide (HA.out.on hb4)
  clear hb4 HA
  rw [HF.out]
  simp only [fO, Option.getD_some, Option.isSome_some, Option.getD_none, Option.isSome_none]
  go_wp2_with (first | refine step_loadA wX rfl rfl HA4.out.c1 rfl ?_ | refine step_storeA wX rfl rfl (vs := [.slice ia n ic, .slice ra m rc]) rfl HA4.out.c6 rfl (by intro v hv; simp at hv; rcases hv with rfl | rfl <;> rfl) rfl ?_)
  intro w5 hg5 hbut
  have HF : Hid (Below w.heap.size w w5) := hide (HA4.out.bel.trans (hbut.below HA4.out.l6))
  have HG := hide hg5
  clear hg5 hbut HA4
  go_wp2_with fail
  refine bodyPost_ret (results_wide2 rfl wX _ _ rfl HG.out rfl) rfl ⟨rfl, HF.out⟩
/-! ### appends -/
section
variable {T e : TypeId} {q by' : Nat} {z : Value} {dst : Option Tmp} {ty : TypeId} {pos : String} {aft : Array Edge} {gd : Option (Nat × Bool)} {a : Act} {w : World} {K : Act → World → Prop} {Q : Exit → Act → World → Prop}
/-- Append to an empty slice of the call's own that has no room: only new memory. -/
theorem wp_appE (R : Ro T e q by' z) {s x : Operand} {B g : Nat} {u : Value} {m : Nat} {ys : List Value} (hs : a.eval s = .slice (some ⟨g, 0, none⟩) 0 0) (hx : a.eval x = u) (hown : w.ownsRow B e q (.slice (some ⟨g, 0, none⟩) 0 0) 0 []) (hu : Vw w e q u m ys) (h1 : ∀ x ∈ ys, x.oneCell' = true) (hlen : m * by' ≤ 140737488355328) (hB : B ≤ w.heap.size)
    (h : ∀ v' w', w'.ownsRow B e q v' m ys → Below w.heap.size w w' → K (a.put dst v') w') :
    Oper.wp Try.prog ⟨dst, .call { callee := .builtin .append, args := #[s, x], argTypes := #[T, T] }, ty, pos, aft, gd⟩ a w K Q := by
  obtain ⟨v', w', hr, h2, h3, h4⟩ := run_appV R hown hu h1 (by rw [Nat.zero_add]; exact hlen) hB ty
  have hbel : Below w.heap.size w w' := by
    obtain ⟨i0, hi, hz0, hz1, hz2⟩ := info_parts R.info
    obtain ⟨hl, ua, uc, rfl, hle, hat⟩ := hu
    by_cases h0 : m = 0
    · subst h0
      have e := run_append_nothing w T T ty e i0 R.und hi (some ⟨g, 0, none⟩) 0 0 (Nat.le_refl _) (.slice ua 0 uc) ⟨.inl ⟨e, R.und⟩, fun w' => by simp [Builtin.lenOf], by cases ua <;> simp [Builtin.firstCells, loadCells, loadCellsFrom], by cases ua <;> simp [Builtin.firstCells, loadCells, loadCellsFrom], by simp, by simp⟩
      rw [e] at hr
      injection hr with _ hr
      subst hr
      exact Below.refl _ _
    · obtain ⟨g', o, cs, rfl, hb, hcs⟩ := hat h0
      have hb9 := R.b0
      have hm9 : m ≤ m * by' := Nat.le_mul_of_pos_right m hb9
      have e := run_append_grow w T ty e i0 z R.und hi hz0 ⟨g, 0, none⟩ 0 0 [] (by simp) (fun j v hv => by simp at hv) ⟨g', o, none⟩ m uc ys (by rw [hz1]; exact hl) (fun j x hx => by
        rw [Addr.add_lit, hb.cell]
        have : ys[j]? = cs[o + j]? := by
          rw [← hcs, List.getElem?_take, List.getElem?_drop, if_pos (by have := (List.getElem?_eq_some_iff.1 hx).1; omega)]
        rw [← this]
        exact hx) (by omega) (by omega) (by
          rw [Nat.zero_add, nextslicecap_zero (by omega), hz2]
          omega)
      rw [e] at hr
      injection hr with _ hr
      subst hr
      exact ((Below.refl _ _).drew).alloc (by simp) _
  unfold Oper.wp execOp
  simp only [resolve, invoke, builtin, Sem.run_bind, Sem.run_pure, Result.andThen_ok, List.map_toArray, List.map_cons, List.map_nil, hs, hx, hr]
  exact h v' w' (by simpa using h2) hbel
theorem row_cut {B g cap n k : Nat} {xs : List Value} (h : w.ownsRow B e q (.slice (some ⟨g, 0, none⟩) n cap) n xs) (hk : k ≤ n) : w.ownsRow B e q (.slice (some ⟨g, 0, none⟩) k cap) k (xs.take (k * q)) := by
  have hkn : k * q ≤ n * q := Nat.mul_le_mul_right _ hk
  obtain ⟨h1, h2⟩ := h
  refine ⟨by rw [List.length_take, h1, Nat.min_eq_left hkn], ?_⟩
  rcases h2 with ⟨h2, _⟩ | ⟨g', cap', cur, e', hg, hh, h3, h4, h5, h6⟩
  · cases h2
  · injection e' with e1 e2 e3
    injection e1 with e1
    injection e1 with e1
    subst e1 e3
    refine .inr ⟨g, cap, cur, rfl, hg, hh, by omega, h4, h5, ?_⟩
    rw [← h6, List.take_take, Nat.min_eq_left hkn]
end
theorem emptI : Empt 27 56 := fun w => by kernel_rfl
theorem emptN : Empt 28 3 := fun w => by kernel_rfl
theorem join4 {T : Program} {c : Code} {a : Act} {w : World} {Q : Exit → Act → World → Prop} {K : Act → World → Prop} (P : Nat → Value → Nat → Value → World → Prop) (act : Nat → Value → Nat → Value → Act) (h1 : ∀ x y z u W, P x y z u W → K (act x y z u) W) (h2 : (∀ x y z u W, P x y z u W → K (act x y z u) W) → Code.wp T c (Exit.then K Q) a w) : Code.wp T c (Exit.then K Q) a w := h2 h1
theorem run_entI {dst : Option Tmp} {ty : TypeId} {pos : String} {aft : Array Edge} {gd : Option (Nat × Bool)} {a : Act} {w : World} {y z : Operand} (x : Ent) (hy : a.eval y = .agg (u8s x.d).toArray) (hz : a.eval z = .int .i64 x.p) :
    (execOp a.eval ⟨dst, .build 56 #[(0, y), (1, z)], ty, pos, aft, gd⟩).run Try.prog w = .ok (.value (.agg (pc x).toArray)) w :=
  run_op (M := Instr.build 56 #[(0, .agg (u8s x.d).toArray), (1, .int .i64 x.p)]) (by simp [execOp, hy, hz]) (build_ent recI x w)

end Go.Proofs.Ytabpfbankinojaa
