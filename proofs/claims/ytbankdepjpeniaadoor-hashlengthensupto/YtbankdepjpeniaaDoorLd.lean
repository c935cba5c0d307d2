/-
  The contract of hash.Load.
-/
import Derived.Test.YtbankdepjpeniaaDoorGr
namespace Go.Proofs.YtbankdepjpeniaaDoor
open Go.RowKit
set_option linter.unusedVariables false

theorem beVal8 (xs : List Int) (h : 8 ≤ xs.length) : beVal (xs.take 8) = beVal (xs.take 4) * 4294967296 + beVal ((xs.drop 4).take 4) := by
  match xs, h with
  | a :: b :: c :: d :: e :: f :: g :: i :: r, _ =>
    simp [beVal]
    omega
theorem beVal4_bd (xs : List Int) (hb : isB xs) (k : Nat) : 0 ≤ beVal ((xs.drop k).take 4) ∧ beVal ((xs.drop k).take 4) < 4294967296 := by
  have h := beVal_bd _ ((hb.drop k).take 4)
  have hl : ((xs.drop k).take 4).length ≤ 4 := by simp; omega
  have : (256 : Int) ^ ((xs.drop k).take 4).length ≤ 4294967296 := by
    generalize ((xs.drop k).take 4).length = n at *
    match n, hl with
    | 0, _ => decide
    | 1, _ => decide
    | 2, _ => decide
    | 3, _ => decide
    | 4, _ => decide
  omega
theorem join64 (a b : Int) (ha : 0 ≤ a ∧ a < 4294967296) (hb : 0 ≤ b ∧ b < 4294967296) :
    bits .or .u64 (IntKind.u64.wrap (IntKind.u64.wrap a * 4294967296)) (IntKind.u64.wrap b) = a * 4294967296 + b := by
  simp only [IntKind.wrap_u64]
  have e1 : a % 18446744073709551616 = a := by omega
  have e2 : b % 18446744073709551616 = b := by omega
  rw [e1, e2]
  have e3 : a * 4294967296 % 18446744073709551616 = a * 4294967296 := by omega
  rw [e3, u64_or (a * 4294967296) b (by omega) (by omega) (by omega) (by omega), nat_join 32 _ _ (by omega) (by omega)]
  omega

set_option maxHeartbeats 1000000 in
theorem length_any (a : Option Addr) (len cap : Nat) (xs : List Int) (w : World) (hs : Sl w a len cap xs) (hl : 8 ≤ len) :
    Calls Tryd.prog 40 #[.slice a len cap] w fun e w' => e = .returned (.int .u64 (beVal (xs.take 8))) ∧ ∃ m, w' = w.drewN m := by
  have HS := hide hs
  obtain ⟨a2, hsl, hs2, _⟩ := slice_from hs 4 4 rfl (by omega)
  have S2 := hide hs2
  have B0 := hide (beVal4_bd xs hs.hbyte 0)
  have B1 := hide (beVal4_bd xs hs.hbyte 4)
  rw [beVal8 xs (by rw [hs.hlen]; exact hl)]
  rw [List.drop_zero] at B0
  rw [← join64 _ _ B0.out B1.out]
  clear hs hs2
  go_enter Tryd.func40, Tryd.ntmps40
  go_wp2_with fail
  go_quiet (first | (go_at_call 29; refine Calls.quiet_of (word_any _ _ _ _ _ (HS.out.drewN _) (by omega))) | (go_at_call 29; refine Calls.quiet_of (word_any _ _ _ _ _ (S2.out.drewN _) (by omega))))
  go_wp2
  go_ret
  exact ⟨rfl, _, rfl⟩

/-- The eight words that a saved state begins with. -/
def ldW (xs : List Int) : List Int := [wordAt xs 0, wordAt xs 1, wordAt xs 2, wordAt xs 3, wordAt xs 4, wordAt xs 5, wordAt xs 6, wordAt xs 7]
theorem ldW_get (xs : List Int) (k : Nat) (h : k < 8) : (ldW xs).getD k 0 = wordAt xs k := by
  match k, h with
  | 0, _ => rfl
  | 1, _ => rfl
  | 2, _ => rfl
  | 3, _ => rfl
  | 4, _ => rfl
  | 5, _ => rfl
  | 6, _ => rfl
  | 7, _ => rfl

theorem u32s_take_succ (B : List Int) (k : Nat) (h : k < B.length) : u32s (B.take (k + 1)) = u32s (B.take k) ++ [.int .u32 (B.getD k 0)] := by
  rw [List.take_succ_eq_append_getElem h]
  unfold u32s
  rw [List.map_append]
  congr 1
  simp [List.getD, h]

set_option maxRecDepth 100000 in
set_option maxHeartbeats 1000000 in
theorem wordsOf_any (a : Option Addr) (len cap : Nat) (xs : List Int) (w : World) (hs : Sl w a len cap xs) (hl : 32 ≤ len) :
    Calls Tryd.prog 41 #[.slice a len cap] w fun e w' => e = .returned (.agg (u32s (ldW xs)).toArray) ∧ Below w.heap.size w w' := by
  have HS := hide hs
  have HWL : Hid ((ldW xs).length = 8) := hide rfl
  have hr := hs.hreach
  clear hs
  go_enter Tryd.func41, Tryd.ntmps41
  go_wp2_with (refine step_alloc zW rfl ?_)
  intro w2 g2 hg2 hle2 hb2
  go_wp2_with (refine step_alloc zW rfl ?_)
  intro w3 g3 hg3 hle3 hb3
  have hne2 : g2 ≠ g3 := by have := hg2.lt; omega
  have HB3 := hide (hb2.trans (hb3.mono hb2.size))
  have HG2 := hide (hg2.below hb3 hg2.lt)
  have HG3 := hide hg3
  have S3 := hide (HS.out.below HB3.out)
  have hle : w.heap.size ≤ g3 := by have := hb2.size; omega
  have hap := hide (HS.out.apart hle)
  clear hg2 hb2 hb3 hg3 hle3
  go_wp2
  go_loopw [5] (fun i wr => ∃ k : Nat, k ≤ 8 ∧ i = .int .i64 k ∧ Blk wr g3 29 (spl (u32s (zer 8)) (u32s ((ldW xs).take k)) 0) ∧ But g3 w3 wr) (fun i _ => 8 - (intOf i).toNat)
  case atStart => exact ⟨0, by omega, rfl, HG3.out, But.refl _ _⟩
  case round =>
    clear HG3
    obtain ⟨k, hk, rfl, hr1, hb1⟩ := hrel
    have HR := hide hr1
    have HB := hide hb1
    clear hr1 hb1
    by_cases hlt : k < 8
    · have HK := hide (show ((ldW xs).take k).length = k by rw [List.length_take, HWL.out]; omega)
      have hlen : (spl (u32s (zer 8)) (u32s ((ldW xs).take k)) 0).length = 8 := by rw [spl_length _ _ _ (by rw [u32s_length, u32s_length, HK.out, zer_length]; omega)]; rfl
      obtain ⟨old, hcell⟩ : ∃ old, wr.cell? ⟨g3, k, none⟩ = some old := ⟨_, by rw [HR.out.cell, List.getElem?_eq_getElem (by omega)]⟩
      clear hlen
      have hfree : wr.frozen? ⟨g3, k, none⟩ = false := HR.out.free k
      obtain ⟨a2, hsl, hs2, _⟩ := slice_from (S3.out.but HB.out hap.out) (4 * k) (4 * (k : Int)) (by omega) (by omega)
      have S2 := hide hs2
      clear hs2
      have x2 := index_W8 g3 k (k : Int) rfl hlt
      have EG : Hid (beVal ((xs.drop (4 * k)).take 4) = (ldW xs).getD k 0) := hide (by rw [ldW_get xs k hlt]; rfl)
      have EN : Hid ((spl (u32s (zer 8)) (u32s ((ldW xs).take k)) 0).set k (.int .u32 ((ldW xs).getD k 0)) = spl (u32s (zer 8)) (u32s ((ldW xs).take (k + 1))) 0) := hide (by
        have e2 := spl_snoc (u32s (zer 8)) (u32s ((ldW xs).take k)) (.int .u32 ((ldW xs).getD k 0)) 0 (by rw [u32s_length, u32s_length, HK.out, zer_length]; omega)
        rwa [u32s_length, HK.out, Nat.zero_add, ← u32s_take_succ _ _ (by rw [HWL.out]; omega)] at e2)
      go_wp2_with (go_at_call 29; refine (word_any _ _ _ _ _ S2.out (by omega)).mono ?_; rintro e w' ⟨rfl, m, rfl⟩; rw [EG.out])
      refine ⟨⟨k + 1, by omega, by go_num, ?_, (HB.out.drewN _).trans (But.setCell _ _ _ _)⟩, ?_⟩
      · have e := (HR.out.drewN m).set k (.int .u32 ((ldW xs).getD k 0))
        rw [EN.out] at e
        exact e
      · simp [intOf]; omega
    · obtain rfl : k = 8 := by omega
      have HF := hide HR.out
      have e : spl (u32s (zer 8)) (u32s ((ldW xs).take 8)) 0 = u32s (ldW xs) := rfl
      rw [e] at HF
      have H2 := hide (HG2.out.but HB.out hne2)
      clear e
      go_wp2_with (first | (refine step_loadA wW rfl rfl HF.out rfl ?_) | (refine step_storeA wW rfl rfl rfl H2.out rfl (One.u32 _) rfl ?_; intro w4 hg4 hbut4))
      refine bodyPost_ret (results_wide rfl wW _ _ rfl hg4 rfl) rfl ⟨rfl, ?_⟩
      exact HB3.out.trans ((HB.out.below hle).trans (hbut4.below hle2))

/-- How many bytes a saved state has had. -/
def ldN (xs : List Int) : Int := beVal ((xs.drop 32).take 8)
theorem ldN_bd (xs : List Int) (hb : isB xs) (h : 40 ≤ xs.length) : 0 ≤ ldN xs ∧ ldN xs < 18446744073709551616 := by
  have h1 := beVal_bd _ ((hb.drop 32).take 8)
  have hl : ((xs.drop 32).take 8).length = 8 := by simp; omega
  rw [hl] at h1
  exact h1

section
variable {dst : Option Tmp} {ty : TypeId} {pos : String} {aft : Array Edge} {gd : Option (Nat × Bool)} {ops : Array Oper} {rest : List Oper} {a : Act} {w : World} {Q : Exit → Act → World → Prop}
theorem build_run (c0 c1 c2 c3 c4 c5 c6 c7 n : Int) (w : World) : Sem.run Tryd.prog (Instr.build 38 #[(0, Value.bool true), (1, Value.agg (u32s [c0, c1, c2, c3, c4, c5, c6, c7]).toArray), (2, Value.int IntKind.i64 n)]) w =
    .ok (.agg (stC true [c0, c1, c2, c3, c4, c5, c6, c7] n (zer 64)).toArray) w := by kernel_rfl
theorem step_buildLd {x y : Operand} {c0 c1 c2 c3 c4 c5 c6 c7 n : Int} (hw : Region.wanted ⟨dst, .build 38 #[(0, .const (.bool true)), (1, x), (2, y)], ty, pos, aft, gd⟩ (yielded ops a.tmps) = true)
    (hx : a.eval x = .agg (u32s [c0, c1, c2, c3, c4, c5, c6, c7]).toArray) (hy : a.eval y = .int .i64 n)
    (h : wpList Tryd.prog ops Q rest (a.put dst (.agg (stC true [c0, c1, c2, c3, c4, c5, c6, c7] n (zer 64)).toArray)) w) :
    wpList Tryd.prog ops Q (⟨dst, .build 38 #[(0, .const (.bool true)), (1, x), (2, y)], ty, pos, aft, gd⟩ :: rest) a w := by
  refine step_run hw (.agg (stC true [c0, c1, c2, c3, c4, c5, c6, c7] n (zer 64)).toArray) w ?_ h
  have ht : a.eval (.const (.bool true)) = .bool true := rfl
  unfold execOp
  simp only [List.map_toArray, List.map_cons, List.map_nil, hx, hy, ht]
  simp only [Sem.run_bind, build_run, Result.andThen_ok, Sem.run_pure]
end

/-- The cells of a state that was loaded. -/
theorem ld_st (xs : List Int) (n : Nat) (h1 : 40 ≤ xs.length) (h2 : xs.length - 40 = n % 64) :
    stC true (ldW xs) (n : Int) (splB (zer 64) (xs.drop 40) 0) = stM (ldW xs) (n - n % 64) (xs.drop 40) := by
  have hl : (xs.drop 40).length = n % 64 := by simp; omega
  have hb : bk (xs.drop 40) = 0 := by rw [bk, hl]; omega
  unfold stM
  rw [hb, hl, show n - n % 64 + n % 64 = n by omega]
  have e : splB (zer 64) (xs.drop 40) 0 = rs (xs.drop 40) := by
    unfold splB rs tl
    rw [hb, hl, Nat.mul_zero, List.drop_zero, List.take_zero, List.nil_append]
    congr 1
    unfold zer
    rw [Nat.zero_add, List.drop_replicate, Nat.mod_mod]
  rw [e]
  rfl

set_option maxRecDepth 100000 in
set_option maxHeartbeats 2000000 in
theorem load_good (a : Option Addr) (len cap : Nat) (xs : List Int) (n : Nat) (w : World) (hs : Sl w a len cap xs) (h40 : 40 ≤ len) (hn : ldN xs = (n : Int)) (hmax : n ≤ 2305843009213693951) (hm : len - 40 = n % 64) (h64 : 64 ≤ n) :
    Calls Tryd.prog 24 #[.slice a len cap] w fun e w' => ∃ g, e = .returned (.tuple #[.pointer (some ⟨g, 0, none⟩), .int .i64 0]) ∧ w.heap.size ≤ g ∧ Blk w' g 38 (stM (ldW xs) (n - n % 64) (xs.drop 40)) ∧ Below w.heap.size w w' := by
  have HS := hide hs
  have hr := hs.hreach
  have HX := hide hs.hlen
  obtain ⟨a2, hsl2, hs2, _⟩ := slice_from hs 32 32 rfl (by omega)
  have S2 := hide hs2
  have HN := hide hn
  have HST := hide (ld_st xs n (by rw [HX.out]; exact h40) (by rw [HX.out]; exact hm))
  clear hs hs2 hn
  have c1 : ¬ ((len : Int) < 40) := by omega
  have c2 : decide ((2305843009213693951 : Int) < (n : Int)) = false := by simp; omega
  have c3 : ((len : Int) - 40 != (n : Int) % 64) = false := by simp; omega
  have hm64 : len - 40 ≤ 63 := by omega
  have HM := hide hm
  clear hm
  go_enter Tryd.func24, Tryd.ntmps24
  go_wp2_with fail
  refine (length_any _ _ _ _ _ S2.out (by omega)).mono ?_
  rintro e w1 ⟨rfl, q, rfl⟩
  rw [show beVal ((xs.drop 32).take 8) = (n : Int) from HN.out]
  have S1 := hide (HS.out.drewN q)
  go_wp2_with fail
  refine (wordsOf_any _ _ _ _ _ S1.out (by omega)).mono ?_
  rintro e w2 ⟨rfl, hb2⟩
  have hb2' : Below w.heap.size w w2 := (below_drewN (Below.refl _ w) q).trans hb2
  have HLS := hide (stC_length true (ldW xs) (n : Int) (zer 64) rfl rfl)
  go_wp2_with (first | (refine step_storeA (vs := stC true (ldW xs) (n : Int) (zer 64)) wSt rfl rfl rfl HG3.out HLS.out (One.st _ _ _ _) rfl ?_; intro w4 hg4 hbut4; have HG4 := hide hg4; have HB4 := hide (hb2'.trans ((hb3.mono hb2'.size).trans (hbut4.below (Nat.le_trans hb2'.size hle3)))); clear hg4 hbut4) | (refine step_alloc zSt rfl ?_; intro w3 g hg3 hle3 hb3; have HG3 := hide hg3; clear hg3) | (refine step_buildLd rfl rfl rfl ?_))
  have c9 : w4.cell? ⟨g, 9, none⟩ = some (.int .i64 (n : Int)) := by rw [HG4.out.cell]; exact stC_size _ _ _ _ rfl
  have d64 : decide ((n : Int) < 64) = false := by simp; omega
  simp only [Act.put, List.setIfInBounds_toArray, List.set_cons_zero, List.set_cons_succ]
  go_quiet (fail)
  have HG5 := hide (HG4.out.drewN nq)
  have HB5 := hide (below_drewN HB4.out nq)
  have S5 := hide (HS.out.below HB5.out)
  have hle : w.heap.size ≤ g := Nat.le_trans hb2'.size hle3
  clear c9 HG4 HB4
  revert HG5 HB5 S5
  generalize w4.drewN nq = w5
  intro HG5 HB5 S5
  obtain ⟨a4, hsl4, hs4, _⟩ := slice_from S5.out 40 40 rfl h40
  have S6 := hide (hs4.drewN 1)
  have hsA : ∀ v : World, (Instr.sliceAt 30 (.pointer (some ⟨g, 10, none⟩)) none none none).run Tryd.prog v = .ok (.slice (some ⟨g, 10, none⟩) 64 64) v := fun v => by kernel_rfl
  clear hs4
  go_wp2_with fail
  go_region_law (refine rstep_copy rfl rfl rfl rfl (by exact S6.out) g 10 (len - 40) (by omega) (by exact HG5.out) (fun _ => rfl) (by rw [stC_length _ _ _ _ rfl rfl]; omega) ?_; intro w6 hg6 hbut6)
  rw [List.take_of_length_le (by rw [List.length_drop, HX.out]; exact Nat.le_refl _), show 10 = 10 + 0 from rfl, stC_setRest _ _ _ _ rfl _ _ (by rw [List.length_drop, HX.out, zer_length]; omega), HST.out] at hg6
  go_wp2
  go_ret2
  exact ⟨g, rfl, hle, hg6, (below_drewN HB5.out 1).trans (hbut6.below hle)⟩

end Go.Proofs.YtbankdepjpeniaaDoor
