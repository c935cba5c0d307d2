/-
  The document's Decode.
-/
import Derived.Test.YtojepbapdjkknaaDoorWk
namespace Go.Proofs.YtojepbapdjkknaaDoor
open Go.RowKit
set_option linter.unusedVariables false
set_option linter.unusedSimpArgs false

theorem DOwn.blk8 {w : World} {B g : Nat} {v : Value} {n : Nat} {xs : List Int} (h : DOwn w B v n xs) (hg : v.ownBlock = some g) : ∃ cs, Blk w g 45 cs := by
  rcases h.2 with ⟨rfl, _⟩ | ⟨k, cap, cur, rfl, _, hh, _⟩
  · cases hg
  · simp only [Value.ownBlock, Option.some.injEq] at hg
    subst hg
    exact ⟨cur.toList, by unfold Blk; simpa using hh⟩
theorem DOwn.apart8 {w : World} {B g : Nat} {v : Value} {n : Nat} {xs : List Int} {t : TypeId} {cs : List Value} (h : DOwn w B v n xs) (hg : Blk w g t cs) (ht : t ≠ 45) : v.ownBlock ≠ some g := by
  intro e
  obtain ⟨cs', hb⟩ := h.blk8 e
  rw [Blk, hb] at hg
  injection hg with hg
  injection hg with _ h2 _
  exact ht h2.symm
theorem DOwn.slice8 {w : World} {B : Nat} {v : Value} {n : Nat} {xs : List Int} (h : DOwn w B v n xs) : ∃ a c, v = .slice a n c := by
  rcases h.2 with ⟨rfl, h0⟩ | ⟨_, _, _, rfl, _⟩
  · exact ⟨none, 0, by rw [h0]⟩
  · exact ⟨_, _, rfl⟩
theorem DOwn.but8 {w w' : World} {B g : Nat} {v : Value} {n : Nat} {xs : List Int} (h : DOwn w B v n xs) (hb : But g w w') (hg : v.ownBlock ≠ some g) : DOwn w' B v n xs := by
  obtain ⟨h1, h2⟩ := h
  refine ⟨h1, ?_⟩
  rcases h2 with h2 | ⟨k, cap, cur, rfl, hB, hh, r⟩
  · exact .inl h2
  · exact .inr ⟨k, cap, cur, rfl, hB, by rw [hb.block k (fun e => hg (by rw [← e]; rfl))]; exact hh, r⟩
theorem ds_one8 {W : World} {g : Nat} {d : List Int} (h : Blk W g 45 (u8s d)) (hd : d.length = 32) (hb : isB d) : Ds W (some ⟨g, 0, none⟩) 1 1 d := by
  have hs := h.sl0 hb (by omega)
  rw [hd] at hs
  exact ⟨Nat.le_refl _, by omega, (fun e => by cases e), hs⟩
section
variable {dst : Option Tmp} {ty : TypeId} {pos : String} {aft : Array Edge} {gd : Option (Nat × Bool)} {ops : Array Oper} {rest : List Oper} {a : Act} {w : World} {Q : Exit → Act → World → Prop}
set_option maxRecDepth 100000 in
theorem step_one8 {x : Operand} {ds : List Int} (hw : Region.wanted ⟨dst, .buildSlice 22 1 #[(0, x)], ty, pos, aft, gd⟩ (yielded ops a.tmps) = true) (hx : a.eval x = .agg (u8s ds).toArray) (hd : ds.length = 32)
    (h : ∀ w1 g, Blk w1 g 45 (u8s ds) → w.heap.size ≤ g → Below w.heap.size w w1 → wpList Tryd.prog ops Q rest (a.put dst (.slice (some ⟨g, 0, none⟩) 1 1)) w1) :
    wpList Tryd.prog ops Q (⟨dst, .buildSlice 22 1 #[(0, x)], ty, pos, aft, gd⟩ :: rest) a w := by
  refine step_run hw (.slice (some ⟨w.heap.size, 0, none⟩) 1 1) (w.alloc (.cells (u8s ds).toArray 45)) ?_ (h _ _ (Blk.made _ _ _) (Nat.le_refl _) ((Below.refl _ _).alloc (Nat.le_refl _) _))
  unfold execOp
  simp only [List.map_toArray, List.map_cons, List.map_nil, hx]
  simp only [Sem.run_bind, build_D ds hd, Result.andThen_ok, Sem.run_pure]
theorem step_buildP3 {x y z : Operand} {K I N : Int} (hw : Region.wanted ⟨dst, .build 24 #[(0, x), (1, y), (2, z)], ty, pos, aft, gd⟩ (yielded ops a.tmps) = true) (hx : a.eval x = .int .i64 K) (hy : a.eval y = .int .i64 I) (hz : a.eval z = .int .i64 N)
    (h : wpList Tryd.prog ops Q rest (a.put dst (.agg (pfC K I N (.slice none 0 0)).toArray)) w) : wpList Tryd.prog ops Q (⟨dst, .build 24 #[(0, x), (1, y), (2, z)], ty, pos, aft, gd⟩ :: rest) a w :=
  step_run hw _ w (by simp only [execOp, List.map_toArray, List.map_cons, List.map_nil, hx, hy, hz]; kernel_rfl) h
end
/-- What the loop of the document's Decode keeps. -/
structure DD (w W : World) (g2 gp : Nat) (k0 f0 s0 : Int) (xs : List Int) (v : Value) (k : Nat) : Prop where
  c2 : Blk W g2 24 (pfC 0 0 0 (.slice none 0 0))
  cp : Blk W gp 24 (pfC k0 f0 s0 v)
  own : DOwn W w.heap.size v k ((xs.drop 18).take (32 * k))
  bel : Below w.heap.size w W
theorem DD.below {w W W' : World} {g2 gp : Nat} {k0 f0 s0 : Int} {xs : List Int} {v : Value} {k : Nat} (h : DD w W g2 gp k0 f0 s0 xs v k) (hb : Below W.heap.size W W') : DD w W' g2 gp k0 f0 s0 xs v k :=
  ⟨h.c2.on hb, h.cp.on hb, h.own.below hb, on_below h.bel hb⟩
theorem DD.next {w W W' : World} {g2 gp : Nat} {k0 f0 s0 : Int} {xs : List Int} {v v' : Value} {k : Nat} (h : DD w W g2 gp k0 f0 s0 xs v k) (hg : W.grownBy W' v.ownBlock) (ho : DOwn W' w.heap.size v' (k + 1) ((xs.drop 18).take (32 * k) ++ (xs.drop (18 + 32 * k)).take 32)) (hgp : w.heap.size ≤ gp) (h2p : g2 ≠ gp) :
    DD w (W'.setCell ⟨gp, 3, none⟩ v') g2 gp k0 f0 s0 xs v' (k + 1) := by
  have h2 := h.c2.grew hg (h.own.apart8 h.c2 (by decide))
  have hp := h.cp.grew hg (h.own.apart8 h.cp (by decide))
  have hbut := But.setCell W' gp 3 v'
  have e : (xs.drop 18).take (32 * (k + 1)) = (xs.drop 18).take (32 * k) ++ (xs.drop (18 + 32 * k)).take 32 := by rw [take_more, List.drop_drop]
  exact ⟨h2.but hbut h2p, hp.set 3 v', by rw [e]; exact ho.but8 hbut (ho.apart8 hp (by decide)), (h.bel.trans (Below.of_grown hg h.bel.size h.own.lt)).trans (hbut.below hgp)⟩
set_option maxRecDepth 100000 in
set_option maxHeartbeats 2000000 in
theorem decodeR_any (a : Option Addr) (len cap : Nat) (xs : List Int) (w : World) (hs : Sl w a len cap xs) :
    Calls Tryd.prog 47 #[.slice a len cap] w fun e w' => Below w.heap.size w w' ∧ ((DkNo xs ∧ e = .returned (.tuple #[.agg (pfC 0 0 0 (.slice none 0 0)).toArray, .int .i64 80])) ∨
      ∃ n v, DkOK xs n ∧ e = .returned (.tuple #[.agg (pfC (xs.getD 0 0) (rdV xs 1 8) (rdV xs 9 8) v).toArray, .int .i64 0]) ∧ DOwn w' w.heap.size v n (xs.drop 18)) := by
  have hr := hs.hreach
  have HL := hide hs.hlen
  by_cases h18 : len < 18
  · have hI : (len : Int) < 18 := by omega
    have HN : Hid (DkNo xs) := hide (fun n h => by have := h.len; rw [HL.out] at this; omega)
    clear hs
    go_enter Tryd.func47, Tryd.ntmps47
    go_wp2_with (refine step_alloc zP rfl ?_)
    intro w1 g2 hr1 hl1 hb1
    have R2 := hide hr1
    clear hr1
    go_wp2_with (first | (refine step_buildP0 rfl ?_) | (refine step_storeA wP rfl rfl rfl R2.out rfl (One.pf _ _ _ _ _ _) rfl ?_; intro w9 hg9 hb9))
    refine bodyPost_ret (results_wide2 rfl wP _ _ rfl hg9 rfl) rfl ⟨hb1.trans (hb9.below hl1), .inl ⟨HN.out, rfl⟩⟩
  have hI : ¬ (len : Int) < 18 := by omega
  have hI0 : (0 : Int) < (len : Int) := by omega
  have hI17 : (17 : Int) < (len : Int) := by omega
  obtain ⟨b, off, ea, hce⟩ := hs.hcell (by omega)
  have hc17 := hce 17 (by omega)
  have hc0 := hce 0 (by omega)
  rw [Nat.add_zero] at hc0
  have HB := hs.hbyte
  obtain ⟨m, hm⟩ : ∃ m : Nat, xs.getD 17 0 = (m : Int) := ⟨(xs.getD 17 0).toNat, by have := (HB.get 17).1; omega⟩
  have hm255 : m ≤ 255 := by have := (HB.get 17).2; omega
  rw [hm] at hc17
  have HM := hide hm
  have S := hide hs
  have hbl : b < w.heap.size := World.block_lt_of_cell? w _ hc0
  clear hs hce hm
  subst ea
  have hk0b := HB.get 0
  obtain ⟨k0, hk0⟩ : ∃ z, xs.getD 0 0 = z := ⟨_, rfl⟩
  rw [hk0] at hk0b hc0 ⊢
  have HK0 := hide hk0
  obtain ⟨hk00, hk01⟩ := hk0b
  have hmw : IntKind.i64.wrap (32 * (m : Int)) = 32 * (m : Int) := wrap_in _ (by omega) (by omega)
  have hmw2 : IntKind.i64.wrap (18 + 32 * (m : Int)) = 18 + 32 * (m : Int) := wrap_in _ (by omega) (by omega)
  clear hk0 HB
  by_cases hlen : len = 18 + 32 * m
  rotate_left
  · have hne : ((len : Int) != 18 + 32 * (m : Int)) = true := by simp; omega
    have HN : Hid (DkNo xs) := hide (fun n h => by
      have h1 := h.len; rw [HL.out] at h1
      have h2 := h.t; rw [HM.out] at h2
      omega)
    go_enter Tryd.func47, Tryd.ntmps47
    go_wp2_with (refine step_alloc zP rfl ?_)
    intro w1 g2 hr1 hl1 hb1
    have R2 := hide hr1
    have d17 := cell_kept hc17 hb1
    clear hr1
    go_wp2_with (first | (refine step_buildP0 rfl ?_) | (refine step_storeA wP rfl rfl rfl R2.out rfl (One.pf _ _ _ _ _ _) rfl ?_; intro w9 hg9 hb9))
    refine bodyPost_ret (results_wide2 rfl wP _ _ rfl hg9 rfl) rfl ⟨hb1.trans (hb9.below hl1), .inl ⟨HN.out, rfl⟩⟩
  have hne : ((len : Int) != 18 + 32 * (m : Int)) = false := by simp; omega
  have hle2 : len ≤ 8178 := by omega
  have HLN := hide hlen
  have hf := rdV8_bd xs S.out.hbyte 1
  have hss := rdV8_bd xs S.out.hbyte 9
  have hf' : 0 ≤ rdV xs 1 8 ∧ rdV xs 1 8 < 18446744073709551616 := hf
  have hs' : 0 ≤ rdV xs 9 8 ∧ rdV xs 9 8 < 18446744073709551616 := hss
  clear hf hss hlen
  obtain ⟨f0, hf0⟩ : ∃ z, rdV xs 1 8 = z := ⟨_, rfl⟩
  obtain ⟨s0, hs0⟩ : ∃ z, rdV xs 9 8 = z := ⟨_, rfl⟩
  have HR1 : Hid (∀ V : World, Below w.heap.size w V → Calls Tryd.prog 75 #[.slice (some ⟨b, off, none⟩) len cap, .int .i64 1, .int .i64 8] V fun e w' => e = .returned (.tuple #[.int .u64 f0, .int .i64 (rdN len 1 8), .int .i64 (rdE len 1 8)]) ∧ w' = V) :=
    hide (fun V hV => by
      have h := read_any (some ⟨b, off, none⟩) len cap xs 1 8 V (S.out.below hV) (by omega) (by omega)
      rw [hf0] at h
      exact h.mono fun _ _ h => ⟨h.1, by rw [h.2]⟩)
  have HR2 : Hid (∀ V : World, Below w.heap.size w V → Calls Tryd.prog 75 #[.slice (some ⟨b, off, none⟩) len cap, .int .i64 9, .int .i64 8] V fun e w' => e = .returned (.tuple #[.int .u64 s0, .int .i64 (rdN len 9 8), .int .i64 (rdE len 9 8)]) ∧ w' = V) :=
    hide (fun V hV => by
      have h := read_any (some ⟨b, off, none⟩) len cap xs 9 8 V (S.out.below hV) (by omega) (by omega)
      rw [hs0] at h
      exact h.mono fun _ _ h => ⟨h.1, by rw [h.2]⟩)
  rw [hf0] at hf' ⊢
  rw [hs0] at hs' ⊢
  have HF0 := hide hf0
  have HS0 := hide hs0
  clear hf0 hs0
  generalize rdN len 1 8 = N1 at *
  generalize rdE len 1 8 = E1 at *
  generalize rdN len 9 8 = N2 at *
  generalize rdE len 9 8 = E2 at *
  obtain ⟨hf1, hf2⟩ := hf'
  obtain ⟨hs1, hs2⟩ := hs'
  go_enter Tryd.func47, Tryd.ntmps47
  go_wp2_with (refine step_alloc zP rfl ?_)
  intro w1 g2 hr1 hl1 hb1
  have R2 := hide hr1
  have d17 := cell_kept hc17 hb1
  have d0 := cell_kept hc0 hb1
  have B1 := hide hb1
  clear hr1 hb1
  go_wp2_with fail
  refine (HR1.out _ B1.out).mono ?_
  rintro r w' ⟨rfl, rfl⟩
  go_wp2_with fail
  refine (HR2.out _ B1.out).mono ?_
  rintro r w' ⟨rfl, rfl⟩
  by_cases hF : f0 > 281474976710656
  · have HN : Hid (DkNo xs) := hide (fun n h => by have := h.f; rw [HF0.out] at this; omega)
    go_wp2_with (first | (refine step_buildP0 rfl ?_) | (refine step_storeA wP rfl rfl rfl R2.out rfl (One.pf _ _ _ _ _ _) rfl ?_; intro w9 hg9 hb9))
    refine bodyPost_ret (results_wide2 rfl wP _ _ rfl hg9 rfl) rfl ⟨B1.out.trans (hb9.below hl1), .inl ⟨HN.out, rfl⟩⟩
  by_cases hG : s0 > 281474976710656
  · have HN : Hid (DkNo xs) := hide (fun n h => by have := h.s; rw [HS0.out] at this; omega)
    go_wp2_with (first | (refine step_buildP0 rfl ?_) | (refine step_storeA wP rfl rfl rfl R2.out rfl (One.pf _ _ _ _ _ _) rfl ?_; intro w9 hg9 hb9))
    refine bodyPost_ret (results_wide2 rfl wP _ _ rfl hg9 rfl) rfl ⟨B1.out.trans (hb9.below hl1), .inl ⟨HN.out, rfl⟩⟩
  have hwf : IntKind.i64.wrap f0 = f0 := wrap_in _ (by omega) (by omega)
  have hws : IntKind.i64.wrap s0 = s0 := wrap_in _ (by omega) (by omega)
  go_wp2_with (first | (refine step_buildP3 rfl rfl rfl rfl ?_) | (refine step_alloc zP rfl ?_; intro w3 gp hr3 hl3 hb3; have R3 := hide hr3; clear hr3) | (refine step_storeA wP rfl rfl rfl R3.out rfl (One.pf _ _ _ _ _ _) rfl ?_; intro w4 hg4 hb4))
  have hg2 := R2.out.lt
  have hgp : w.heap.size ≤ gp := Nat.le_trans B1.out.size hl3
  have hg2p : g2 ≠ gp := by omega
  have L : Hid (DD w w4 g2 gp k0 f0 s0 xs (.slice none 0 0) 0) := hide ⟨(R2.out.on hb3).but hb4 hg2p, hg4, by simpa using DOwn.nil _ _, new_below B1.out hb3 hl3 hb4⟩
  clear hg4 hb4 hb3 hl3 R3 B1 R2 d17 d0
  have HW17 : Hid (∀ V : World, Below w.heap.size w V → V.cell? ⟨b, off + 17, none⟩ = some (.int .u8 (m : Int))) := hide (fun V hV => cell_kept hc17 hV)
  clear hc17 hc0 HR1 HR2
  go_loopw [11] (fun s W => ∃ (k : Nat) (v : Value), k ≤ m ∧ s = .int .i64 (k : Int) ∧ DD w W g2 gp k0 f0 s0 xs v k) (fun s _ => m - (intOf s).toNat)
  case atStart => exact ⟨0, _, by omega, rfl, L.out⟩
  case round =>
    obtain ⟨k, v, hkn, rfl, hL⟩ := hrel
    replace L := hide hL
    clear hL
    have d17 := HW17.out _ L.out.bel
    by_cases hlt : k < m
    · have hlt' : (k : Int) < (m : Int) := by omega
      have hp1 : wrap64 (32 * (k : Int)) = 32 * (k : Int) := by unfold wrap64; omega
      have hp2 : wrap64 (18 + 32 * (k : Int)) = 18 + 32 * (k : Int) := by unfold wrap64; omega
      obtain ⟨D, HDD⟩ : ∃ D, Hid ((xs.drop (18 + 32 * k)).take 32 = D) := ⟨_, hide rfl⟩
      have HD : Hid (∀ V : World, Below w.heap.size w V → Calls Tryd.prog 45 #[.slice (some ⟨b, off, none⟩) len cap, .int .i64 (18 + 32 * (k : Int))] V fun r w' => r = .returned (.tuple #[.agg (u8s D).toArray, .int .i64 (((18 + 32 * k : Nat) : Int) + 32), .int .i64 0]) ∧ Below V.heap.size V w') := hide fun V hV => by
        have h := digAt_any (some ⟨b, off, none⟩) len cap xs (18 + 32 * k) V (S.out.below hV) (by have := HLN.out; omega)
        rw [HDD.out] at h
        rwa [show ((18 + 32 * k : Nat) : Int) = 18 + 32 * (k : Int) by omega] at h ⊢
      have HDL := hide (show D.length = 32 by rw [← HDD.out, List.length_take, List.length_drop, HL.out, HLN.out]; omega)
      have HDB := hide (show isB D by rw [← HDD.out]; exact (S.out.hbyte.drop _).take _)
      have HDU := hide (show (u8s D).length = 32 by rw [u8s_length, HDL.out])
      go_wp2_with fail
      refine (HD.out _ L.out.bel).mono ?_
      rintro r w7 ⟨rfl, hb7⟩
      have L7 := hide (L.out.below hb7)
      clear hb7 L d17
      generalize ((18 + 32 * k : Nat) : Int) + 32 = N3
      go_wp2_with (refine step_alloc zD0 rfl ?_)
      intro w8 g13 hr8 hl8 hb8
      have G13 := hide hr8
      clear hr8
      go_wp2_with (refine step_storeA wD0 rfl rfl rfl G13.out HDU.out (One.u8 _) rfl ?_)
      intro w9 hg9 hbut9
      have L9 := hide (L7.out.below (hb8.trans (hbut9.below hl8)))
      have G139 := hide hg9
      clear hg9 hbut9 hb8 hl8 G13 L7
      obtain ⟨va, vc, rfl⟩ := L9.out.own.slice8
      have hc3 := (pf_at L9.out.cp).2.2.2
      go_wp2_with (first | (refine step_loadA wD0 rfl rfl G139.out HDU.out ?_) | (refine step_one8 rfl rfl HDL.out ?_))
      intro wa gx hgx hlx hbx
      have LA := hide (L9.out.below hbx)
      have HY := hide (ds_one8 hgx HDL.out HDB.out)
      clear hgx hbx L9 G139 hc3
      go_wp2_with (refine step_appendD rfl rfl rfl LA.out.own HY.out (by omega) LA.out.bel.size ?_)
      intro v' wb hob hgb
      rw [← HDD.out] at hob
      have LB := hide (LA.out.next hgb hob hgp hg2p)
      have hcr := LA.out.cp.grew hgb (LA.out.own.apart8 LA.out.cp (by decide))
      have hfr := hcr.free 3
      have hc4 := (pf_at hcr).2.2.2
      obtain ⟨va', vc', rfl⟩ := hob.slice8
      clear hob hgb hcr LA HY
      go_wp2
      go_roundw
      case rel => exact ⟨k + 1, _, by omega, by simp, LB.out⟩
      case measure => simp only [intOf]; omega
    · obtain rfl : k = m := by omega
      have hlt' : ¬ ((k : Int) < (k : Int)) := by omega
      obtain ⟨va, vc, rfl⟩ := L.out.own.slice8
      have HV := hide (fun V => validR_any k0 f0 s0 va k vc V (by omega))
      obtain ⟨q, hq⟩ : ∃ q, pval k0 f0 s0 k = q := ⟨_, rfl⟩
      rw [hq] at HV
      have HQ := hide hq
      clear hq
      go_wp2_with (first | (refine step_loadA wP rfl rfl L.out.cp rfl ?_) | fail)
      refine (HV.out _).mono ?_
      rintro r w7 ⟨rfl, hb7⟩
      have L7 := hide (L.out.below hb7)
      clear hb7 L d17
      have hpc : (q = true → pcnt k0 f0 s0 = some k) ∧ (q = false → pcnt k0 f0 s0 ≠ some k) := by
        have := HQ.out
        unfold pval at this
        constructor
        · intro e; rw [e] at this; simpa using this
        · intro e; rw [e] at this; simpa using this
      cases q with
      | false =>
        have HN : Hid (DkNo xs) := hide (fun n h => by
          have h1 := h.t
          rw [HM.out] at h1
          obtain rfl : k = n := by omega
          have := h.c
          rw [HK0.out, HF0.out, HS0.out] at this
          exact hpc.2 rfl this)
        clear hpc
        have R2 := hide L7.out.c2
        go_wp2_with (first | (refine step_buildP0 rfl ?_) | (refine step_storeA wP rfl rfl rfl R2.out rfl (One.pf _ _ _ _ _ _) rfl ?_; intro w9 hg9 hb9))
        refine bodyPost_ret (results_wide2 rfl wP _ _ rfl hg9 rfl) rfl ⟨L7.out.bel.trans (hb9.below hl1), .inl ⟨HN.out, rfl⟩⟩
      | true =>
        have HO : Hid (DkOK xs k) := hide ⟨by rw [HL.out]; exact HLN.out, by rw [HF0.out]; omega, by rw [HS0.out]; omega, by rw [HK0.out, HF0.out, HS0.out]; exact hpc.1 rfl, HM.out⟩
        clear hpc
        go_wp2_with (first | (refine step_loadA wP rfl rfl L7.out.cp rfl ?_) | (refine step_storeA wP rfl rfl rfl L7.out.c2 rfl (One.pf _ _ _ _ _ _) rfl ?_; intro w9 hg9 hb9))
        refine bodyPost_ret (results_wide2 rfl wP _ _ rfl hg9 rfl) rfl ⟨L7.out.bel.trans (hb9.below hl1), .inr ⟨k, _, HO.out, rfl, ?_⟩⟩
        have e := L7.out.own.but8 hb9 (L7.out.own.apart8 L7.out.c2 (by decide))
        rwa [List.take_of_length_le (by rw [List.length_drop, HL.out, HLN.out]; omega)] at e

end Go.Proofs.YtojepbapdjkknaaDoor
