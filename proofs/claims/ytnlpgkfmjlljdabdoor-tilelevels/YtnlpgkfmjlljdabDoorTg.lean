/-
  A node's digest out of its tile's bytes: the program's Digest.
-/
import Derived.Test.YtnlpgkfmjlljdabDoorTf
namespace Go.Proofs.YtnlpgkfmjlljdabDoor
open Go.RowKit
set_option linter.unusedVariables false

/-- Is the node in that tile? -/
def inT (h l i n a b : Int) : Prop := ((a.toNat / h.toNat : Nat) : Int) = l ∧ ((oX h.toNat a.toNat b.toNat : Nat) : Int) = i ∧ ((oT h.toNat a.toNat b.toNat : Nat) : Int) ≤ n
/-- The digests of a tile that a node stands over. -/
def ovr (h a b : Int) (xs : List Int) : List Int := (xs.drop (32 * oF h.toNat a.toNat b.toNat)).take (32 * (oT h.toNat a.toNat b.toNat - oF h.toNat a.toNat b.toNat))
/-- What Digest tells. -/
def DgR (h l i n : Int) (len : Nat) (xs : List Int) (a b : Int) (ds : List Int) (e : Int) : Prop :=
  (e = 2 ∧ ds = zer 32 ∧ ¬ (V a b ∧ tOK h l i n)) ∨ (V a b ∧ tOK h l i n ∧ ((e = 101 ∧ ds = zer 32 ∧ ¬ (len : Int) = n * 32) ∨
    ((len : Int) = n * 32 ∧ ((e = 40 ∧ ds = zer 32 ∧ ¬ inT h l i n a b) ∨ (e = 0 ∧ inT h l i n a b ∧ ds = root (ovr h a b xs))))))
theorem DgR.uniq {h l i n : Int} {len : Nat} {xs : List Int} {a b : Int} {ds ds' : List Int} {e e' : Int} (k : DgR h l i n len xs a b ds e) (k' : DgR h l i n len xs a b ds' e') : ds = ds' ∧ e = e' := by
  rcases k with ⟨rfl, rfl, k⟩ | ⟨v, t, ⟨rfl, rfl, k⟩ | ⟨q, ⟨rfl, rfl, k⟩ | ⟨rfl, k, rfl⟩⟩⟩ <;> rcases k' with ⟨rfl, rfl, k'⟩ | ⟨v', t', ⟨rfl, rfl, k'⟩ | ⟨q', ⟨rfl, rfl, k'⟩ | ⟨rfl, k', rfl⟩⟩⟩
  all_goals first | exact ⟨rfl, rfl⟩ | (exfalso; first | exact k ⟨v', t'⟩ | exact k' ⟨v, t⟩ | exact k q' | exact k' q | exact k k' | exact k' k)
theorem ovr_len {h a b : Int} {xs : List Int} {n : Nat} (hx : xs.length = 32 * n) (ht : oT h.toNat a.toNat b.toNat ≤ n) : (ovr h a b xs).length = 32 * (oT h.toNat a.toNat b.toNat - oF h.toNat a.toNat b.toNat) := by
  unfold ovr
  rw [List.length_take, List.length_drop, hx]
  have : oF h.toNat a.toNat b.toNat ≤ oT h.toNat a.toNat b.toNat := Nat.le_add_right _ _
  omega
theorem oF_lt (h L I : Nat) : oF h L I < oT h L I := by unfold oT; have := Nat.two_pow_pos (L % h); omega

theorem placeOf_lit (h l i n : Int) (w : World) : Calls Tryd.prog 23 #[.agg #[.int .i64 h, .int .i64 l, .int .i64 i, .int .i64 n]] w fun r w' => r = .returned (.agg #[.int .i64 l, .int .i64 i]) ∧ Below w.heap.size w w' := placeOf_any h l i n w
set_option maxRecDepth 100000 in
set_option maxHeartbeats 2000000 in
theorem digestT_any (h l i n : Int) (hl : l ≤ 9223372036854775807) (hi : i ≤ 9223372036854775807) (len : Nat) (xs : List Int) (hx : xs.length = len) (hlen : len ≤ 140737488355328) (hxb : isB xs) (a b : Int) : ∃ (ds : List Int) (e : Int), DgR h l i n len xs a b ds e ∧ ∀ (ad : Option Addr) (cap : Nat) (w : World), Sl w ad len cap xs → KT w →
    Calls Tryd.prog 11 #[.agg (c4 h l i n).toArray, .slice ad len cap, .agg (c2 a b).toArray] w fun r w' => r = .returned (.tuple #[.agg (u8s ds).toArray, .int .i64 e]) ∧ Below w.heap.size w w' := by
  by_cases hh : h < 1 ∨ 8 < h
  · refine ⟨zer 32, 2, .inl ⟨rfl, rfl, fun ⟨_, H, L, I, N, e1, _, _, _, hH, _⟩ => by have := hH.1; have := hH.2; omega⟩, fun ad cap w hs hkt => ?_⟩
    have HOF : Hid (∀ v : World, Calls Tryd.prog 9 #[.int .i64 h, .agg (c2 a b).toArray] v fun r w' => r = .returned (.tuple #[.agg (c4 0 0 0 0).toArray, .int .i64 0, .int .i64 0, .int .i64 2]) ∧ Below v.heap.size v w') := hide (fun v => of_no1 h a b v hh)
    clear hs hkt hh
    go_enter Tryd.func11, Tryd.ntmps11
    go_wp2_with (first | (refine step_box (cs := c4 h l i n) rfl rfl ?_; intro w1 g1 hg1 hle1 hb1; have HG1 := hide hg1; clear hg1) | (refine step_box (cs := c2 a b) rfl rfl ?_; intro w2 g2 hg2 hle2 hb2; have HG2 := hide hg2; clear hg2) | (refine step_alloc zD rfl ?_; intro w3 g3 hg3 hle3 hb3; have q3 := on_below (on_below hb1 hb2) hb3; have BB := hide ((((Bs.nil w3).push hg3).push (HG2.out.on hb3)).push ((HG1.out.on hb2).on hb3)); have l3 : w.heap.size ≤ g3 := Nat.le_trans (on_below hb1 hb2).size hle3; clear hg3 hb1 hb2 hb3 hle1 hle2 hle3 HG1 HG2; have c0 := (BB.out.at 0 rfl).four.1) | (refine step_loadA wN rfl rfl (BB.out.at 1 rfl) rfl ?_))
    refine (HOF.out _).mono ?_
    rintro r w4 ⟨rfl, hb4⟩
    have q4 := on_below q3 hb4
    have B4 := hide (BB.out.on hb4)
    clear hb4 q3 BB c0 HOF
    go_wp2_with (first | (refine step_alloc zT rfl ?_; intro w5 g5 hg5 hle5 hb5; have HG5 := hide hg5; clear hg5) | (refine step_storeA wT rfl rfl rfl HG5.out rfl (One.c4 0 0 0 0) rfl ?_))
    intro w6 hg6 hbut6
    have q6 := new_below q4 hb5 hle5 hbut6
    have B6 := hide (B4.out.new hb5 hle5 hg6 hbut6)
    clear hb5 hle5 hbut6 q4 B4 hg6 HG5
    go_wp2_with (first | (refine step_buildD rfl ?_) | (refine step_storeA wD rfl rfl rfl (B6.out.at 3 rfl) rfl (One.u8 _) rfl ?_; intro w8 hg8 hbut8))
    refine bodyPost_ret (results_wide2 rfl wD _ _ rfl hg8 rfl) rfl ⟨rfl, ?_⟩
    exact q6.trans (hbut8.below l3)
  · obtain ⟨H, rfl⟩ : ∃ H : Nat, h = (H : Int) := ⟨h.toNat, by omega⟩
    have hH : isH H := ⟨by omega, by omega⟩
    by_cases hv : V a b
    · obtain ⟨L, I, rfl, rfl, hL, h1⟩ := hv.nats
      have HOF : Hid (∀ v : World, Calls Tryd.prog 9 #[.int .i64 (H : Int), .agg (c2 (L : Int) (I : Int)).toArray] v fun r w' => r = .returned (.tuple #[.agg (c4 (H : Int) (L / H : Nat) (oX H L I : Nat) (oT H L I : Nat)).toArray, .int .i64 (oF H L I : Nat), .int .i64 (oT H L I : Nat), .int .i64 0]) ∧ Below v.heap.size v w') := hide (fun v => of_ok H L I v hH hL h1)
      obtain ⟨e, he, hc⟩ := check_any (H : Int) l i n hl hi len hlen
      have HC := hide hc
      clear hc
      have hinT : inT (H : Int) l i n (L : Int) (I : Int) ↔ (((L / H : Nat) : Int) = l ∧ ((oX H L I : Nat) : Int) = i ∧ ((oT H L I : Nat) : Int) ≤ n) := by unfold inT; simp only [Int.toNat_natCast]
      have HOV : Hid (ovr (H : Int) (L : Int) (I : Int) xs = (xs.drop (32 * oF H L I)).take (32 * (oT H L I - oF H L I))) := hide (by unfold ovr; simp only [Int.toNat_natCast])
      have hFT := oF_lt H L I
      by_cases h0 : e = 0
      · subst h0
        have hk : tOK (H : Int) l i n ∧ (len : Int) = n * 32 := by
          rcases he with ⟨h1, _⟩ | ⟨hk, ⟨h1, _⟩ | ⟨_, h2⟩⟩
          · cases h1
          · cases h1
          · exact ⟨hk, h2⟩
        by_cases hin : inT (H : Int) l i n (L : Int) (I : Int)
        · refine ⟨root (ovr (H : Int) (L : Int) (I : Int) xs), 0, .inr ⟨hv, hk.1, .inr ⟨hk.2, .inr ⟨rfl, hin, rfl⟩⟩⟩, fun ad cap w hs hkt => ?_⟩
          obtain ⟨z1, z2, z3⟩ := hinT.1 hin
          have hnb := hk.1.n_bd
          obtain ⟨N, rfl⟩ : ∃ N : Nat, n = (N : Int) := ⟨n.toNat, by omega⟩
          have hlN : len = 32 * N := by omega
          have HS := hide hs
          have HK := hide hkt
          have hTN : oT H L I ≤ N := by omega
          have hRL := root_length (ovr_len (h := (H : Int)) (a := (L : Int)) (b := (I : Int)) (xs := xs) (n := N) (by omega) (by simpa using hTN)) ((hxb.drop _).take _)
          have HRL : Hid ((u8s (root (ovr (H : Int) (L : Int) (I : Int) xs))).length = 32) := hide (by rw [u8s_length, hRL])
          rw [HOV.out] at HRL ⊢
          obtain ⟨bb, o, rfl, _⟩ := hs.hcell (by omega)
          have hcap := hs.hcap
          have HL32 := hide hlN
          have hN2 : N ≤ 256 := by omega
          clear hin hinT hk he HOV hRL hh hv hs hkt hnb h1 hL hlN hx hxb
          generalize oF H L I = F at *
          generalize oT H L I = T at *
          generalize ((oX H L I : Nat) : Int) = C at *
          generalize ((L / H : Nat) : Int) = A at *
          clear hH
          generalize (H : Int) = h at *
          generalize (L : Int) = a at *
          generalize (I : Int) = b at *
          subst z1 z2
          have z3' : ¬ (T : Int) > (N : Int) := by omega
          have k1 : (F : Int) * 32 = ((32 * F : Nat) : Int) := by omega
          have k2 : (T : Int) * 32 = ((32 * T : Nat) : Int) := by omega
          have hF2 : 32 * F ≤ 8192 := by omega
          have hT2 : 32 * T ≤ 8192 := by omega
          have hFT2 : 32 * F < 32 * T := by omega
          have hTl : 32 * T ≤ len := by rw [HL32.out]; omega
          have HN3 := hide (show 32 * T - 32 * F = 32 * (T - F) by omega)
          have hTF : T - F ≤ 256 := by omega
          have hlist : ((xs.drop (32 * F)).take (32 * (T - F))) = (xs.drop (32 * F)).take (32 * T - 32 * F) := by rw [HN3.out]
          have HD : Hid (∀ v : World, Below w.heap.size w v → Calls Tryd.prog 25 #[.slice (some ⟨bb, o + 32 * F, none⟩) (32 * T - 32 * F) (cap - 32 * F)] v fun r w' => ∃ g, r = .returned (.slice (some ⟨g, 0, none⟩) (T - F) (T - F)) ∧ Ds w' (some ⟨g, 0, none⟩) (T - F) (T - F) ((xs.drop (32 * F)).take (32 * (T - F))) ∧ Below v.heap.size v w') := hide (fun v hv => by
            have s1 := ((HS.out.below hv).drop (32 * F) (by omega)).take (32 * T - 32 * F) (by omega)
            rw [HN3.out] at s1 ⊢
            exact digests_any bb (o + 32 * F) (T - F) (cap - 32 * F) (32 * (T - F)) _ v s1 rfl hTF)
          clear hlist
          generalize ((xs.drop (32 * F)).take (32 * (T - F))) = ys at *
          obtain ⟨F32, HF32⟩ : ∃ x, 32 * F = x := ⟨_, rfl⟩
          obtain ⟨T32, HT32⟩ : ∃ x, 32 * T = x := ⟨_, rfl⟩
          rw [HF32] at k1 hF2 hFT2 HD
          rw [HT32] at k2 hT2 hFT2 hTl HD
          have xs1 := fun v => b_mid bb o len cap F32 T32 (F32 : Int) (T32 : Int) rfl rfl hFT2 (by omega) v
          generalize T - F = TF at *
          clear HF32 HT32 HN3 HL32 hFT hTN z3
          go_enter Tryd.func11, Tryd.ntmps11
          go_wp2_with (first | (refine step_box (cs := c4 h A C (N : Int)) rfl rfl ?_; intro w1 g1 hg1 hle1 hb1; have HG1 := hide hg1; clear hg1) | (refine step_box (cs := c2 a b) rfl rfl ?_; intro w2 g2 hg2 hle2 hb2; have HG2 := hide hg2; clear hg2) | (refine step_alloc zD rfl ?_; intro w3 g3 hg3 hle3 hb3; have q3 := on_below (on_below hb1 hb2) hb3; have BB := hide ((((Bs.nil w3).push hg3).push (HG2.out.on hb3)).push ((HG1.out.on hb2).on hb3)); have l3 : w.heap.size ≤ g3 := Nat.le_trans (on_below hb1 hb2).size hle3; clear hg3 hb1 hb2 hb3 hle1 hle2 hle3 HG1 HG2; have c0 := (BB.out.at 0 rfl).four.1) | (refine step_loadA wN rfl rfl (BB.out.at 1 rfl) rfl ?_))
          refine (HOF.out _).mono ?_
          rintro r w4 ⟨rfl, hb4⟩
          have q4 := on_below q3 hb4
          have B4 := hide (BB.out.on hb4)
          clear hb4 q3 BB c0 HOF
          go_wp2_with (first | (refine step_alloc zT rfl ?_; intro w5 g5 hg5 hle5 hb5; have HG5 := hide hg5; clear hg5) | (refine step_storeA wT rfl rfl rfl HG5.out rfl (One.c4 h A C (T : Int)) rfl ?_))
          intro w6 hg6 hbut6
          have q6 := new_below q4 hb5 hle5 hbut6
          have B6 := hide (B4.out.new hb5 hle5 hg6 hbut6)
          clear hb5 hle5 hbut6 q4 B4 hg6 HG5
          go_wp2_with (refine step_loadA wT rfl rfl (B6.out.at 1 rfl) rfl ?_)
          refine (HC.out _ _ _).mono ?_
          rintro r w7 ⟨rfl, hb7⟩
          have q7 := on_below q6 hb7
          have B7 := hide (B6.out.on hb7)
          clear hb7 q6 B6 HC
          go_wp2_with fail
          have t0 := Sub.cell (B7.out.at 0 rfl).four.1
          have t1 := Sub.cell (B7.out.at 0 rfl).four.2.1
          have t2 := Sub.cell (B7.out.at 0 rfl).four.2.2.1
          have t3 := Sub.cell (B7.out.at 0 rfl).four.2.2.2
          have u0 := Sub.cell (B7.out.at 1 rfl).four.1
          have u1 := Sub.cell (B7.out.at 1 rfl).four.2.1
          have u2 := Sub.cell (B7.out.at 1 rfl).four.2.2.1
          have u3 := Sub.cell (B7.out.at 1 rfl).four.2.2.2
          have hne := Sub.one w7
          refine wp_region_sub (by kernel_rfl) (by kernel_rfl) ?_
          repeat (go_big_quiet_step (fail))
          go_big_quiet_step ((go_at_call 23; exact sub_call (placeOf_lit h A C (T : Int) _)))
          repeat (go_big_quiet_step (fail))
          go_big_quiet_step ((go_at_call 23; exact sub_call (placeOf_lit h A C (N : Int) _)))
          repeat (go_big_quiet_step (fail))
          refine wpQuiet_nil ?_
          rintro _ ⟨⟨w8, hb8⟩, rfl⟩
          have q8 := on_below q7 hb8
          have B8 := hide (B7.out.on hb8)
          clear hb8 q7 B7 t0 t1 t2 t3 u0 u1 u2 u3 hne
          go_wp2_with fail
          refine (HD.out _ q8).mono ?_
          rintro r w9 ⟨g9, rfl, hd9, hb9⟩
          have HD9 := hide hd9
          have q9 := on_below q8 hb9
          have B9 := hide (B8.out.on hb9)
          clear hd9 hb9 q8 B8 HD
          go_wp2_with fail
          refine (root_any TF _ TF TF ys w9 (Nat.le_refl _) HD9.out (HK.out.below q9 HK.out.lt)).mono ?_
          rintro r wa ⟨rfl, hba⟩
          have qa := on_below q9 hba
          have Ba := hide (B9.out.on hba)
          clear hba q9 B9 HD9
          go_wp2_with (refine step_storeA wD rfl rfl rfl (Ba.out.at 3 rfl) HRL.out (One.u8 _) rfl ?_)
          intro wb hgb hbutb
          go_wp2
          refine bodyPost_ret (results_wide2 rfl wD _ _ rfl hgb HRL.out) rfl ⟨rfl, ?_⟩
          exact qa.trans (hbutb.below l3)
        · refine ⟨zer 32, 40, .inr ⟨hv, hk.1, .inr ⟨hk.2, .inl ⟨rfl, rfl, hin⟩⟩⟩, fun ad cap w hs hkt => ?_⟩
          have hno : ¬ (((L / H : Nat) : Int) = l ∧ ((oX H L I : Nat) : Int) = i ∧ ((oT H L I : Nat) : Int) ≤ n) := fun q => hin (hinT.2 q)
          clear hin hinT hk he HOV hh hv hs hkt h1 hL hx hxb hFT
          generalize ((oF H L I : Nat) : Int) = F at *
          generalize ((oT H L I : Nat) : Int) = D at *
          generalize ((oX H L I : Nat) : Int) = C at *
          generalize ((L / H : Nat) : Int) = A at *
          clear hH
          generalize (H : Int) = h at *
          generalize (L : Int) = a at *
          generalize (I : Int) = b at *
          by_cases z1 : A = l
          · subst z1
            by_cases z2 : C = i
            · subst z2
              have z3 : D > n := by omega
              clear hno
              go_enter Tryd.func11, Tryd.ntmps11
              go_wp2_with (first | (refine step_box (cs := c4 h A C n) rfl rfl ?_; intro w1 g1 hg1 hle1 hb1; have HG1 := hide hg1; clear hg1) | (refine step_box (cs := c2 a b) rfl rfl ?_; intro w2 g2 hg2 hle2 hb2; have HG2 := hide hg2; clear hg2) | (refine step_alloc zD rfl ?_; intro w3 g3 hg3 hle3 hb3; have q3 := on_below (on_below hb1 hb2) hb3; have BB := hide ((((Bs.nil w3).push hg3).push (HG2.out.on hb3)).push ((HG1.out.on hb2).on hb3)); have l3 : w.heap.size ≤ g3 := Nat.le_trans (on_below hb1 hb2).size hle3; clear hg3 hb1 hb2 hb3 hle1 hle2 hle3 HG1 HG2; have c0 := (BB.out.at 0 rfl).four.1) | (refine step_loadA wN rfl rfl (BB.out.at 1 rfl) rfl ?_))
              refine (HOF.out _).mono ?_
              rintro r w4 ⟨rfl, hb4⟩
              have q4 := on_below q3 hb4
              have B4 := hide (BB.out.on hb4)
              clear hb4 q3 BB c0 HOF
              go_wp2_with (first | (refine step_alloc zT rfl ?_; intro w5 g5 hg5 hle5 hb5; have HG5 := hide hg5; clear hg5) | (refine step_storeA wT rfl rfl rfl HG5.out rfl (One.c4 h A C D) rfl ?_))
              intro w6 hg6 hbut6
              have q6 := new_below q4 hb5 hle5 hbut6
              have B6 := hide (B4.out.new hb5 hle5 hg6 hbut6)
              clear hb5 hle5 hbut6 q4 B4 hg6 HG5
              go_wp2_with (refine step_loadA wT rfl rfl (B6.out.at 1 rfl) rfl ?_)
              refine (HC.out _ _ _).mono ?_
              rintro r w7 ⟨rfl, hb7⟩
              have q7 := on_below q6 hb7
              have B7 := hide (B6.out.on hb7)
              clear hb7 q6 B6 HC
              go_wp2_with fail
              have t0 := Sub.cell (B7.out.at 0 rfl).four.1
              have t1 := Sub.cell (B7.out.at 0 rfl).four.2.1
              have t2 := Sub.cell (B7.out.at 0 rfl).four.2.2.1
              have t3 := Sub.cell (B7.out.at 0 rfl).four.2.2.2
              have u0 := Sub.cell (B7.out.at 1 rfl).four.1
              have u1 := Sub.cell (B7.out.at 1 rfl).four.2.1
              have u2 := Sub.cell (B7.out.at 1 rfl).four.2.2.1
              have u3 := Sub.cell (B7.out.at 1 rfl).four.2.2.2
              have hne := Sub.one w7
              refine wp_region_sub (by kernel_rfl) (by kernel_rfl) ?_
              repeat (go_big_quiet_step (fail))
              go_big_quiet_step ((go_at_call 23; exact sub_call (placeOf_lit h A C D _)))
              repeat (go_big_quiet_step (fail))
              go_big_quiet_step ((go_at_call 23; exact sub_call (placeOf_lit h A C n _)))
              repeat (go_big_quiet_step (fail))
              refine wpQuiet_nil ?_
              rintro _ ⟨⟨w8, hb8⟩, rfl⟩
              have q8 := on_below q7 hb8
              have B8 := hide (B7.out.on hb8)
              clear hb8 q7 B7 t0 t1 t2 t3 u0 u1 u2 u3 hne
              go_wp2_with (first | (refine step_buildD rfl ?_) | (refine step_storeA wD rfl rfl rfl (B8.out.at 3 rfl) rfl (One.u8 _) rfl ?_; intro w9 hg9 hbut9))
              refine bodyPost_ret (results_wide2 rfl wD _ _ rfl hg9 rfl) rfl ⟨rfl, ?_⟩
              exact q8.trans (hbut9.below l3)
            · have z2b : (C == i) = false := by simp [z2]
              clear hno
              go_enter Tryd.func11, Tryd.ntmps11
              go_wp2_with (first | (refine step_box (cs := c4 h A i n) rfl rfl ?_; intro w1 g1 hg1 hle1 hb1; have HG1 := hide hg1; clear hg1) | (refine step_box (cs := c2 a b) rfl rfl ?_; intro w2 g2 hg2 hle2 hb2; have HG2 := hide hg2; clear hg2) | (refine step_alloc zD rfl ?_; intro w3 g3 hg3 hle3 hb3; have q3 := on_below (on_below hb1 hb2) hb3; have BB := hide ((((Bs.nil w3).push hg3).push (HG2.out.on hb3)).push ((HG1.out.on hb2).on hb3)); have l3 : w.heap.size ≤ g3 := Nat.le_trans (on_below hb1 hb2).size hle3; clear hg3 hb1 hb2 hb3 hle1 hle2 hle3 HG1 HG2; have c0 := (BB.out.at 0 rfl).four.1) | (refine step_loadA wN rfl rfl (BB.out.at 1 rfl) rfl ?_))
              refine (HOF.out _).mono ?_
              rintro r w4 ⟨rfl, hb4⟩
              have q4 := on_below q3 hb4
              have B4 := hide (BB.out.on hb4)
              clear hb4 q3 BB c0 HOF
              go_wp2_with (first | (refine step_alloc zT rfl ?_; intro w5 g5 hg5 hle5 hb5; have HG5 := hide hg5; clear hg5) | (refine step_storeA wT rfl rfl rfl HG5.out rfl (One.c4 h A C D) rfl ?_))
              intro w6 hg6 hbut6
              have q6 := new_below q4 hb5 hle5 hbut6
              have B6 := hide (B4.out.new hb5 hle5 hg6 hbut6)
              clear hb5 hle5 hbut6 q4 B4 hg6 HG5
              go_wp2_with (refine step_loadA wT rfl rfl (B6.out.at 1 rfl) rfl ?_)
              refine (HC.out _ _ _).mono ?_
              rintro r w7 ⟨rfl, hb7⟩
              have q7 := on_below q6 hb7
              have B7 := hide (B6.out.on hb7)
              clear hb7 q6 B6 HC
              go_wp2_with fail
              have t0 := Sub.cell (B7.out.at 0 rfl).four.1
              have t1 := Sub.cell (B7.out.at 0 rfl).four.2.1
              have t2 := Sub.cell (B7.out.at 0 rfl).four.2.2.1
              have t3 := Sub.cell (B7.out.at 0 rfl).four.2.2.2
              have u0 := Sub.cell (B7.out.at 1 rfl).four.1
              have u1 := Sub.cell (B7.out.at 1 rfl).four.2.1
              have u2 := Sub.cell (B7.out.at 1 rfl).four.2.2.1
              have u3 := Sub.cell (B7.out.at 1 rfl).four.2.2.2
              have hne := Sub.one w7
              refine wp_region_sub (by kernel_rfl) (by kernel_rfl) ?_
              repeat (go_big_quiet_step (fail))
              go_big_quiet_step ((go_at_call 23; exact sub_call (placeOf_lit h A C D _)))
              repeat (go_big_quiet_step (fail))
              go_big_quiet_step ((go_at_call 23; exact sub_call (placeOf_lit h A i n _)))
              repeat (go_big_quiet_step (fail))
              refine wpQuiet_nil ?_
              rintro _ ⟨⟨w8, hb8⟩, rfl⟩
              have q8 := on_below q7 hb8
              have B8 := hide (B7.out.on hb8)
              clear hb8 q7 B7 t0 t1 t2 t3 u0 u1 u2 u3 hne
              go_wp2_with (first | (refine step_buildD rfl ?_) | (refine step_storeA wD rfl rfl rfl (B8.out.at 3 rfl) rfl (One.u8 _) rfl ?_; intro w9 hg9 hbut9))
              refine bodyPost_ret (results_wide2 rfl wD _ _ rfl hg9 rfl) rfl ⟨rfl, ?_⟩
              exact q8.trans (hbut9.below l3)
          · have z1b : (A == l) = false := by simp [z1]
            clear hno
            go_enter Tryd.func11, Tryd.ntmps11
            go_wp2_with (first | (refine step_box (cs := c4 h l i n) rfl rfl ?_; intro w1 g1 hg1 hle1 hb1; have HG1 := hide hg1; clear hg1) | (refine step_box (cs := c2 a b) rfl rfl ?_; intro w2 g2 hg2 hle2 hb2; have HG2 := hide hg2; clear hg2) | (refine step_alloc zD rfl ?_; intro w3 g3 hg3 hle3 hb3; have q3 := on_below (on_below hb1 hb2) hb3; have BB := hide ((((Bs.nil w3).push hg3).push (HG2.out.on hb3)).push ((HG1.out.on hb2).on hb3)); have l3 : w.heap.size ≤ g3 := Nat.le_trans (on_below hb1 hb2).size hle3; clear hg3 hb1 hb2 hb3 hle1 hle2 hle3 HG1 HG2; have c0 := (BB.out.at 0 rfl).four.1) | (refine step_loadA wN rfl rfl (BB.out.at 1 rfl) rfl ?_))
            refine (HOF.out _).mono ?_
            rintro r w4 ⟨rfl, hb4⟩
            have q4 := on_below q3 hb4
            have B4 := hide (BB.out.on hb4)
            clear hb4 q3 BB c0 HOF
            go_wp2_with (first | (refine step_alloc zT rfl ?_; intro w5 g5 hg5 hle5 hb5; have HG5 := hide hg5; clear hg5) | (refine step_storeA wT rfl rfl rfl HG5.out rfl (One.c4 h A C D) rfl ?_))
            intro w6 hg6 hbut6
            have q6 := new_below q4 hb5 hle5 hbut6
            have B6 := hide (B4.out.new hb5 hle5 hg6 hbut6)
            clear hb5 hle5 hbut6 q4 B4 hg6 HG5
            go_wp2_with (refine step_loadA wT rfl rfl (B6.out.at 1 rfl) rfl ?_)
            refine (HC.out _ _ _).mono ?_
            rintro r w7 ⟨rfl, hb7⟩
            have q7 := on_below q6 hb7
            have B7 := hide (B6.out.on hb7)
            clear hb7 q6 B6 HC
            go_wp2_with fail
            have t0 := Sub.cell (B7.out.at 0 rfl).four.1
            have t1 := Sub.cell (B7.out.at 0 rfl).four.2.1
            have t2 := Sub.cell (B7.out.at 0 rfl).four.2.2.1
            have t3 := Sub.cell (B7.out.at 0 rfl).four.2.2.2
            have u0 := Sub.cell (B7.out.at 1 rfl).four.1
            have u1 := Sub.cell (B7.out.at 1 rfl).four.2.1
            have u2 := Sub.cell (B7.out.at 1 rfl).four.2.2.1
            have u3 := Sub.cell (B7.out.at 1 rfl).four.2.2.2
            have hne := Sub.one w7
            refine wp_region_sub (by kernel_rfl) (by kernel_rfl) ?_
            repeat (go_big_quiet_step (fail))
            go_big_quiet_step ((go_at_call 23; exact sub_call (placeOf_lit h A C D _)))
            repeat (go_big_quiet_step (fail))
            go_big_quiet_step ((go_at_call 23; exact sub_call (placeOf_lit h l i n _)))
            repeat (go_big_quiet_step (fail))
            refine wpQuiet_nil ?_
            rintro _ ⟨⟨w8, hb8⟩, rfl⟩
            have q8 := on_below q7 hb8
            have B8 := hide (B7.out.on hb8)
            clear hb8 q7 B7 t0 t1 t2 t3 u0 u1 u2 u3 hne
            go_wp2_with (first | (refine step_buildD rfl ?_) | (refine step_storeA wD rfl rfl rfl (B8.out.at 3 rfl) rfl (One.u8 _) rfl ?_; intro w9 hg9 hbut9))
            refine bodyPost_ret (results_wide2 rfl wD _ _ rfl hg9 rfl) rfl ⟨rfl, ?_⟩
            exact q8.trans (hbut9.below l3)
      · refine ⟨zer 32, e, ?_, fun ad cap w hs hkt => ?_⟩
        · rcases he with ⟨h1, h2⟩ | ⟨hk, ⟨h1, h2⟩ | ⟨h1, _⟩⟩
          · exact .inl ⟨h1, rfl, fun h => h2 h.2⟩
          · exact .inr ⟨hv, hk, .inl ⟨h1, rfl, h2⟩⟩
          · exact absurd h1 h0
        · have h0b : (e == 0) = false := by simp [h0]
          clear hs hkt he hv hh hinT HOV hFT
          generalize (H : Int) = h at *
          generalize (L : Int) = a at *
          generalize (I : Int) = b at *
          generalize ((L / H : Nat) : Int) = A at *
          generalize ((oX H L I : Nat) : Int) = C at *
          generalize ((oT H L I : Nat) : Int) = D at *
          generalize ((oF H L I : Nat) : Int) = F at *
          go_enter Tryd.func11, Tryd.ntmps11
          go_wp2_with (first | (refine step_box (cs := c4 h l i n) rfl rfl ?_; intro w1 g1 hg1 hle1 hb1; have HG1 := hide hg1; clear hg1) | (refine step_box (cs := c2 a b) rfl rfl ?_; intro w2 g2 hg2 hle2 hb2; have HG2 := hide hg2; clear hg2) | (refine step_alloc zD rfl ?_; intro w3 g3 hg3 hle3 hb3; have q3 := on_below (on_below hb1 hb2) hb3; have BB := hide ((((Bs.nil w3).push hg3).push (HG2.out.on hb3)).push ((HG1.out.on hb2).on hb3)); have l3 : w.heap.size ≤ g3 := Nat.le_trans (on_below hb1 hb2).size hle3; clear hg3 hb1 hb2 hb3 hle1 hle2 hle3 HG1 HG2; have c0 := (BB.out.at 0 rfl).four.1) | (refine step_loadA wN rfl rfl (BB.out.at 1 rfl) rfl ?_))
          refine (HOF.out _).mono ?_
          rintro r w4 ⟨rfl, hb4⟩
          have q4 := on_below q3 hb4
          have B4 := hide (BB.out.on hb4)
          clear hb4 q3 BB c0 HOF
          go_wp2_with (first | (refine step_alloc zT rfl ?_; intro w5 g5 hg5 hle5 hb5; have HG5 := hide hg5; clear hg5) | (refine step_storeA wT rfl rfl rfl HG5.out rfl (One.c4 h A C D) rfl ?_))
          intro w6 hg6 hbut6
          have q6 := new_below q4 hb5 hle5 hbut6
          have B6 := hide (B4.out.new hb5 hle5 hg6 hbut6)
          clear hb5 hle5 hbut6 q4 B4 hg6 HG5
          go_wp2_with (refine step_loadA wT rfl rfl (B6.out.at 1 rfl) rfl ?_)
          refine (HC.out _ _ _).mono ?_
          rintro r w7 ⟨rfl, hb7⟩
          have q7 := on_below q6 hb7
          have B7 := hide (B6.out.on hb7)
          clear hb7 q6 B6 HC
          go_wp2_with (first | (refine step_buildD rfl ?_) | (refine step_storeA wD rfl rfl rfl (B7.out.at 3 rfl) rfl (One.u8 _) rfl ?_; intro w8 hg8 hbut8))
          refine bodyPost_ret (results_wide2 rfl wD _ _ rfl hg8 rfl) rfl ⟨rfl, ?_⟩
          exact q7.trans (hbut8.below l3)
    · refine ⟨zer 32, 2, .inl ⟨rfl, rfl, fun ⟨h, _⟩ => hv h⟩, fun ad cap w hs hkt => ?_⟩
      have HOF : Hid (∀ v : World, Calls Tryd.prog 9 #[.int .i64 (H : Int), .agg (c2 a b).toArray] v fun r w' => r = .returned (.tuple #[.agg (c4 0 0 0 0).toArray, .int .i64 0, .int .i64 0, .int .i64 2]) ∧ Below v.heap.size v w') := hide (fun v => of_no2 H a b v hH hv)
      clear hs hkt hh hv
      generalize (H : Int) = h at *
      go_enter Tryd.func11, Tryd.ntmps11
      go_wp2_with (first | (refine step_box (cs := c4 h l i n) rfl rfl ?_; intro w1 g1 hg1 hle1 hb1; have HG1 := hide hg1; clear hg1) | (refine step_box (cs := c2 a b) rfl rfl ?_; intro w2 g2 hg2 hle2 hb2; have HG2 := hide hg2; clear hg2) | (refine step_alloc zD rfl ?_; intro w3 g3 hg3 hle3 hb3; have q3 := on_below (on_below hb1 hb2) hb3; have BB := hide ((((Bs.nil w3).push hg3).push (HG2.out.on hb3)).push ((HG1.out.on hb2).on hb3)); have l3 : w.heap.size ≤ g3 := Nat.le_trans (on_below hb1 hb2).size hle3; clear hg3 hb1 hb2 hb3 hle1 hle2 hle3 HG1 HG2; have c0 := (BB.out.at 0 rfl).four.1) | (refine step_loadA wN rfl rfl (BB.out.at 1 rfl) rfl ?_))
      refine (HOF.out _).mono ?_
      rintro r w4 ⟨rfl, hb4⟩
      have q4 := on_below q3 hb4
      have B4 := hide (BB.out.on hb4)
      clear hb4 q3 BB c0 HOF
      go_wp2_with (first | (refine step_alloc zT rfl ?_; intro w5 g5 hg5 hle5 hb5; have HG5 := hide hg5; clear hg5) | (refine step_storeA wT rfl rfl rfl HG5.out rfl (One.c4 0 0 0 0) rfl ?_))
      intro w6 hg6 hbut6
      have q6 := new_below q4 hb5 hle5 hbut6
      have B6 := hide (B4.out.new hb5 hle5 hg6 hbut6)
      clear hb5 hle5 hbut6 q4 B4 hg6 HG5
      go_wp2_with (first | (refine step_buildD rfl ?_) | (refine step_storeA wD rfl rfl rfl (B6.out.at 3 rfl) rfl (One.u8 _) rfl ?_; intro w8 hg8 hbut8))
      refine bodyPost_ret (results_wide2 rfl wD _ _ rfl hg8 rfl) rfl ⟨rfl, ?_⟩
      exact q6.trans (hbut8.below l3)

end Go.Proofs.YtnlpgkfmjlljdabDoor
