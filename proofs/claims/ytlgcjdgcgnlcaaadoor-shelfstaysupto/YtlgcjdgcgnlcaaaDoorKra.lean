/-
  sort.Search over a function that turns nothing; a raw write told: Raw.
-/
import Derived.Test.YtlgcjdgcgnlcaaaDoorKmi
namespace Go.Proofs.YtlgcjdgcgnlcaaaDoor
open Go.RowKit
set_option linter.unusedVariables false

theorem half_is (a b : Nat) (h : a ≤ b) (hb : b ≤ 4611686018427387904) : ∃ m : Nat, m = (a + b) / 2 ∧ a ≤ m ∧ (a < b → m < b) := ⟨(a + b) / 2, rfl, by omega, fun h => by omega⟩
set_option maxRecDepth 100000 in
theorem search_any (n g : Nat) (cb : Array Value) (p : Nat → Bool) (w : World) (hn : n ≤ 366503600000) (eg : ∀ args w, (callFunc g args).run Tryd.prog w = .ok (.enter g args) w)
    (hf : ∀ (h : Nat) (W : World), h < n → Below w.heap.size w W → Calls Tryd.prog g (#[.int .i64 (h : Int)] ++ cb) W fun e w' => e = .returned (.bool (p h)) ∧ Below W.heap.size W w') (hmono : ∀ i j, i ≤ j → j < n → p i = true → p j = true) :
    Calls Tryd.prog 33 #[.int .i64 (n : Int), .func (.func g) #[] cb] w fun e w' => ∃ i : Nat, e = .returned (.int .i64 (i : Int)) ∧ i ≤ n ∧ (∀ j, j < i → p j = false) ∧ (i < n → p i = true) ∧ Below w.heap.size w w' := by
  have HF := hide hf
  have HM := hide hmono
  clear hf hmono
  go_enter Tryd.func33, Tryd.ntmps33
  go_wp2
  go_loopw [5, 6] (fun lo hi wr => ∃ a b : Nat, lo = .int .i64 (a : Int) ∧ hi = .int .i64 (b : Int) ∧ a ≤ b ∧ b ≤ n ∧ Hid (∀ j, j < a → p j = false) ∧ Hid (∀ j, b ≤ j → j < n → p j = true) ∧ Hid (Below w.heap.size w wr)) (fun lo hi _ => (intOf hi).toNat - (intOf lo).toNat)
  case atStart => exact ⟨0, n, rfl, rfl, Nat.zero_le _, Nat.le_refl _, hide (fun j hj => by omega), hide (fun j h1 h2 => by omega), hide (Below.refl _ _)⟩
  case round =>
    obtain ⟨a, b, rfl, rfl, hab, hbn, H1, H2, H3⟩ := hrel
    by_cases hlt : a < b
    · have hlti : (a : Int) < (b : Int) := by omega
      obtain ⟨m, hm, hm1, hm2⟩ := half_is a b hab (by omega)
      have hmb := hm2 hlt
      have f1 := wrapN ((a : Int) + (b : Int)) (by omega) (by omega)
      obtain ⟨f1a, f1b⟩ := f1
      have hmi : ((a : Int) + (b : Int)) / 2 = (m : Int) := by omega
      have HMI := hide hmi
      clear hmi hm
      go_wp2_with fail
      rw [HMI.out]
      clear HMI f1a f1b
      refine (HF.out m _ (by omega) H3.out).mono ?_
      rintro e w2 ⟨rfl, hb2⟩
      have H32 := hide (H3.out.trans (hb2.mono H3.out.size))
      clear hb2
      cases hp : p m with
      | false =>
        have H12 : Hid (∀ j, j < m + 1 → p j = false) := hide (fun j hj => by
          by_cases h : p j = true
          · rw [HM.out j m (by omega) (by omega) h] at hp; cases hp
          · simpa using h)
        clear hp
        go_wp2
        go_roundw
        case rel => exact ⟨m + 1, b, by go_num, rfl, by omega, hbn, H12, H2, H32⟩
        case measure => simp [intOf]; omega
      | true =>
        have H22 : Hid (∀ j, m ≤ j → j < n → p j = true) := hide (fun j h1 h2 => HM.out m j h1 h2 hp)
        clear hp
        go_wp2
        go_roundw
        case rel => exact ⟨a, m, rfl, rfl, by omega, by omega, H1, H22, H32⟩
        case measure => simp [intOf]; omega
    · have hlti : ¬ (a : Int) < (b : Int) := by omega
      go_wp2
      go_ret
      exact ⟨a, rfl, by omega, H1.out, fun h => H2.out a (by omega) h, H3.out⟩

section
variable {dst : Option Tmp} {ty : TypeId} {pos : String} {aft : Array Edge} {gd : Option (Nat × Bool)} {ops : Array Oper} {rest : List Oper} {a : Act} {w : World} {Q : Exit → Act → World → Prop}
theorem step_box1 {T : TypeId} {x : Operand} {v : Value} (hw : Region.wanted ⟨dst, .box T x, ty, pos, aft, gd⟩ (yielded ops a.tmps) = true) (hx : a.eval x = v) (hv : v.cells = #[v])
    (h : ∀ w1 g, Blk w1 g T [v] → w.heap.size ≤ g → Below w.heap.size w w1 → wpList Tryd.prog ops Q rest (a.put dst (.pointer (some ⟨g, 0, none⟩))) w1) :
    wpList Tryd.prog ops Q (⟨dst, .box T x, ty, pos, aft, gd⟩ :: rest) a w :=
  step_run hw (.pointer (some ⟨w.heap.size, 0, none⟩)) (w.alloc (.cells [v].toArray T))
    (by simp [execOp, hx, Instr.box, newVar, newRow, Result.andThen, hv]) (h _ _ (Blk.made _ _ _) (Nat.le_refl _) ((Below.refl _ _).alloc (Nat.le_refl _) _))
end
/-- What stands in Raw. -/
structure RaS (w W : World) (d s : Nat) (rs : List Rw) (D : Dm) (i : Int) (b2 b3 g4 : Nat) : Prop where
  dk : DkAt W d s rs D
  f2 : Blk W b2 31 [.pointer (some ⟨d, 0, none⟩)]
  f3 : Blk W b3 3 [.int .i64 i]
  f4 : Blk W g4 50 rw0
  new : w.heap.size ≤ g4
  bel : Below w.heap.size w W
theorem RaS.on {w W W' : World} {d s : Nat} {rs : List Rw} {D : Dm} {i : Int} {b2 b3 g4 : Nat} (h : RaS w W d s rs D i b2 b3 g4) (hb : Below W.heap.size W W') : RaS w W' d s rs D i b2 b3 g4 :=
  ⟨h.dk.below hb, h.f2.on hb, h.f3.on hb, h.f4.on hb, h.new, h.bel.trans (hb.mono h.bel.size)⟩
theorem RaS.c2 {w W : World} {d s : Nat} {rs : List Rw} {D : Dm} {i : Int} {b2 b3 g4 : Nat} (h : RaS w W d s rs D i b2 b3 g4) : W.cell? ⟨b2, 0, none⟩ = some (.pointer (some ⟨d, 0, none⟩)) ∧ W.cell? ⟨b3, 0, none⟩ = some (.int .i64 i) ∧ W.cell? ⟨d, 0, none⟩ = some (.int .i64 (s : Int)) ∧ W.cell? ⟨d, 3, none⟩ = some (.int .i64 (rs.length : Int)) ∧ (0 : Int) < s :=
  ⟨by rw [h.f2.cell]; rfl, by rw [h.f3.cell]; rfl, h.dk.made.1, h.dk.made.2.2.1, h.dk.made.2.2.2⟩

set_option maxRecDepth 100000 in
theorem raw_bad (d s : Nat) (rs : List Rw) (D : Dm) (i : Int) (w : World) (h : DkAt w d s rs D) (hi : i < 0 ∨ (rs.length : Int) ≤ i) : Calls Tryd.prog 16 #[.pointer (some ⟨d, 0, none⟩), .int .i64 i] w fun e w' => e = .returned (.tuple #[.agg rw0.toArray, .int .i64 2]) ∧ Below w.heap.size w w' := by
  by_cases h1 : i < 0
  · clear hi
    have HH := hide h
    clear h
    go_enter Tryd.func16, Tryd.ntmps16
    go_wp2_with (refine step_box1 (v := .pointer (some ⟨d, 0, none⟩)) rfl rfl rfl ?_)
    intro w1 b2 hb2 hl2 be1
    go_wp2_with (refine step_box1 (v := .int .i64 i) rfl rfl rfl ?_)
    intro w2 b3 hb3 hl3 be2
    go_wp2_with (refine step_alloc zRw rfl ?_)
    intro w3 g4 hg4 hl4 be3
    have be12 := be1.trans (be2.mono be1.size)
    have S3 : Hid (RaS w w3 d s rs D i b2 b3 g4) := hide ⟨HH.out.below (be12.trans (be3.mono be12.size)), (hb2.on be2).on be3, hb3.on be3, hg4, by have := be12.size; omega, be12.trans (be3.mono be12.size)⟩
    clear hb2 hl2 be1 hb3 hl3 be2 hg4 hl4 be3 be12
    obtain ⟨k1, k2, k3, k4, hp⟩ := S3.out.c2
    go_wp2_with (go_at_call 30; refine (made_ok _ _ _ k3 hp).mono ?_; rintro e w3 ⟨rfl, rfl⟩)
    go_quiet (fail)
    have S4 := hide (S3.out.on (below_drewN (Below.refl _ _) nq))
    revert S4
    generalize w3.drewN nq = w4
    intro S4
    clear k1 k2 k3 k4
    go_wp2_with (first | (refine step_buildRw0 rfl ?_) | (refine step_storeA wRw rfl rfl rfl S4.out.f4 rfl (One.rw _ _ _ _ _ _ _) rfl ?_; intro w5 hg5 hbut5))
    refine bodyPost_ret (results_wide2 rfl wRw _ _ rfl hg5 rfl) rfl ⟨rfl, ?_⟩
    exact S4.out.bel.trans (hbut5.below S4.out.new)
  · have h2 : (rs.length : Int) ≤ i := by omega
    clear hi
    have HH := hide h
    clear h
    go_enter Tryd.func16, Tryd.ntmps16
    go_wp2_with (refine step_box1 (v := .pointer (some ⟨d, 0, none⟩)) rfl rfl rfl ?_)
    intro w1 b2 hb2 hl2 be1
    go_wp2_with (refine step_box1 (v := .int .i64 i) rfl rfl rfl ?_)
    intro w2 b3 hb3 hl3 be2
    go_wp2_with (refine step_alloc zRw rfl ?_)
    intro w3 g4 hg4 hl4 be3
    have be12 := be1.trans (be2.mono be1.size)
    have S3 : Hid (RaS w w3 d s rs D i b2 b3 g4) := hide ⟨HH.out.below (be12.trans (be3.mono be12.size)), (hb2.on be2).on be3, hb3.on be3, hg4, by have := be12.size; omega, be12.trans (be3.mono be12.size)⟩
    clear hb2 hl2 be1 hb3 hl3 be2 hg4 hl4 be3 be12
    obtain ⟨k1, k2, k3, k4, hp⟩ := S3.out.c2
    go_wp2_with (go_at_call 30; refine (made_ok _ _ _ k3 hp).mono ?_; rintro e w3 ⟨rfl, rfl⟩)
    go_quiet (fail)
    have S4 := hide (S3.out.on (below_drewN (Below.refl _ _) nq))
    revert S4
    generalize w3.drewN nq = w4
    intro S4
    clear k1 k2 k3 k4
    go_wp2_with (first | (refine step_buildRw0 rfl ?_) | (refine step_storeA wRw rfl rfl rfl S4.out.f4 rfl (One.rw _ _ _ _ _ _ _) rfl ?_; intro w5 hg5 hbut5))
    refine bodyPost_ret (results_wide2 rfl wRw _ _ rfl hg5 rfl) rfl ⟨rfl, ?_⟩
    exact S4.out.bel.trans (hbut5.below S4.out.new)

/-- The function that Raw searches with. -/
theorem later_any (d s : Nat) (rs : List Rw) (D : Dm) (i : Int) (w : World) (b2 b3 k : Nat) (e : En × Value) (h : DkAt w d s rs D) (hb2 : w.cell? ⟨b2, 0, none⟩ = some (.pointer (some ⟨d, 0, none⟩))) (hb3 : w.cell? ⟨b3, 0, none⟩ = some (.int .i64 i)) (hk : D.es[k]? = some e) :
    Calls Tryd.prog 34 #[.int .i64 (k : Int), .pointer (some ⟨b2, 0, none⟩), .pointer (some ⟨b3, 0, none⟩)] w fun r w' => r = .returned (.bool (decide (i < (e.1.first : Int)))) ∧ Below w.heap.size w w' := by
  have hlt : k < D.es.length := (List.getElem?_eq_some_iff.1 hk).1
  obtain ⟨gr, cap, cs, hrv, hgr, hat⟩ := h.recAt (by omega)
  have hat2 := hat k e hk
  have c2 : w.cell? ⟨d, 2, none⟩ = some (.slice (some ⟨gr, 0, none⟩) D.es.length cap) := by rw [h.blk.cell, ← hrv]; rfl
  have hc : w.cell? ⟨gr, k * 7 + 5, none⟩ = some (.int .i64 (e.1.first : Int)) := by
    rw [hgr.cell]
    have := congrArg (fun l => l[5]?) hat2
    simp only [List.getElem?_take, List.getElem?_drop] at this
    rw [if_pos (by decide)] at this
    rw [this]
    rfl
  have hix := en_at gr D.es.length cap k hlt
  clear hat hat2 hgr hrv h hk hlt
  obtain ⟨F, hF⟩ : ∃ F : Int, F = (e.1.first : Int) := ⟨_, rfl⟩
  rw [← hF] at hc ⊢
  clear hF
  go_enter Tryd.func34, Tryd.ntmps34
  go_wp2_with fail
  go_quiet (fail)
  go_wp2
  go_ret
  exact ⟨rfl, below_drewN (Below.refl _ _) _⟩

end Go.Proofs.YtlgcjdgcgnlcaaaDoor
