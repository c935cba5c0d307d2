/-
  The way down a tree: halves that are passed by; the program's loop.
-/
import Derived.Test.YtlniffmhihhkcabPr
import Derived.Test.YtlniffmhihhkcabBl
import Derived.Deep.LoopGhost
namespace Go.Proofs.Ytlniffmhihhkcab
open Go.RowKit
set_option linter.unusedVariables false

/-- The greatest power of two below n; of 1 nothing. -/
def fh (n : Nat) : Nat := 2 ^ Lib.bitLen (n - 1) / 2
theorem fh_hf (n : Nat) (h : 2 ≤ n) (hn : n ≤ 281474976710656) : fh n = hf n := by
  have := (bl_pos n h (by omega)).1
  unfold fh hf
  obtain ⟨k, hk⟩ : ∃ k, Lib.bitLen (n - 1) = k + 1 := ⟨Lib.bitLen (n - 1) - 1, by omega⟩
  rw [hk, Nat.pow_succ, Nat.mul_div_cancel _ (by decide)]
  rfl
theorem bl48 (n : Nat) (h : 1 ≤ n) (hn : n ≤ 281474976710656) : Lib.bitLen (n - 1) ≤ 48 := bl_le (n - 1) 48 (by omega) (by decide)

theorem zS : Zeroed 27 (c2 0 0) := fun _ _ _ _ _ _ _ => by kernel_rfl
theorem wS : Wide 27 2 := ⟨by kernel_rfl, by kernel_rfl⟩

theorem pow_one (L P : Nat) (HP : Hid (2 ^ L = P)) (h : P ≤ 562949953421312) : wrap64 (2 ^ L) = (P : Int) := by
  have e1 : ((2 : Int) ^ L) = (P : Int) := by rw [← HP.out]; simp [Int.natCast_pow]
  rw [e1]
  unfold wrap64
  omega
theorem half_cast (P k : Nat) (h : P / 2 = k) : (P : Int) / 2 = (k : Int) := by omega
theorem fh_facts (n k : Nat) (h1 : 1 ≤ n) (hn : n ≤ 281474976710656) (hk : fh n = k) : ∃ bl P : Nat, Lib.bitLen (n - 1) = bl ∧ bl ≤ 48 ∧ wrap64 (2 ^ bl) = (P : Int) ∧ (P : Int) / 2 = (k : Int) ∧ P ≤ 281474976710656 := by
  have hbl := bl48 n h1 hn
  have hP : 2 ^ Lib.bitLen (n - 1) ≤ 281474976710656 := Nat.le_trans (Nat.pow_le_pow_right (by decide) hbl) (by decide)
  exact ⟨_, _, rfl, hbl, pow_one _ _ (hide rfl) (Nat.le_trans hP (by decide)), half_cast _ _ hk, hP⟩
theorem len_nat (m bl : Nat) (hm : m ≤ 281474976710656) (h : Lib.bitLen m = bl) (w : World) : Calls Try.prog 9 #[.int .u64 (m : Int)] w fun r w' => r = .returned (.int .i64 (bl : Int)) ∧ w' = w := by
  have := len_any (m : Int) w (by omega) (by omega)
  rwa [Int.toNat_natCast, h] at this
theorem firstHalf_any (b e n k : Nat) (w : World) (hn : e = b + n) (h1 : 1 ≤ n) (he : e ≤ 281474976710656) (hk : fh n = k) :
    Calls Try.prog 8 #[.agg #[.int .i64 (b : Int), .int .i64 (e : Int)]] w fun r w' => r = .returned (.int .i64 (k : Int)) ∧ Below w.heap.size w w' := by
  obtain ⟨bl, P, hbl, hle, hw3, hk2, hP⟩ := fh_facts n k h1 (by omega) hk
  have hm : n - 1 ≤ 281474976710656 := by omega
  have e1 : (e : Int) - (b : Int) - 1 = ((n - 1 : Nat) : Int) := by omega
  have HL : Hid (∀ v : World, Calls Try.prog 9 #[.int .u64 ((e : Int) - (b : Int) - 1)] v fun r w' => r = .returned (.int .i64 (bl : Int)) ∧ w' = v) := hide fun v => by
    rw [e1]
    exact len_nat (n - 1) bl hm hbl v
  have hb0 : (b : Int) < (e : Int) := by omega
  have he' : (e : Int) ≤ 281474976710656 := by omega
  clear hbl hk hn e1 hm h1
  go_enter Try.func8, Try.ntmps8
  go_wp2_with (first | (refine step_box (cs := c2 (b : Int) (e : Int)) rfl rfl ?_; intro w1 g1 hg1 hle1 hb1; obtain ⟨c0, c1⟩ := hg1.two; clear hg1) | (go_at_call 9; refine (HL.out _).mono ?_; rintro r w' ⟨rfl, rfl⟩))
  go_ret
  exact ⟨rfl, hb1⟩

/-- The halves that are passed by on the way down to the leaf i, and the part that is met. -/
def dn (stop : Nat → Nat → Bool) (i : Nat) : Nat → Nat → Nat → List (Nat × Nat) × (Nat × Nat)
  | 0, b, n => ([], (b, b + n))
  | f + 1, b, n => if stop b n then ([], (b, b + n)) else
      if i < b + hf n then ((b + hf n, b + n) :: (dn stop i f b (hf n)).1, (dn stop i f b (hf n)).2)
      else ((b, b + hf n) :: (dn stop i f (b + hf n) (n - hf n)).1, (dn stop i f (b + hf n) (n - hf n)).2)
theorem dn_stop {stop : Nat → Nat → Bool} {i b n : Nat} (h : stop b n = true) (f : Nat) : dn stop i f b n = ([], (b, b + n)) := by
  cases f with
  | zero => rfl
  | succ f => rw [dn, if_pos h]
/-- What stops by itself. -/
def Ends (stop : Nat → Nat → Bool) (i : Nat) : Prop := ∀ b n, n = 1 → b ≤ i → i < b + n → stop b n = true
theorem dn_fuel {stop : Nat → Nat → Bool} {i : Nat} (hE : Ends stop i) : ∀ f g b n, n ≤ f → n ≤ g → 1 ≤ n → n ≤ 281474976710656 → b ≤ i → i < b + n → dn stop i f b n = dn stop i g b n
  | 0, g, b, n, h1, h2, h3, _, _, _ => by omega
  | f + 1, 0, b, n, h1, h2, h3, _, _, _ => by omega
  | f + 1, g + 1, b, n, h1, h2, h3, h4, h5, h6 => by
    unfold dn
    by_cases hs : stop b n = true
    · rw [if_pos hs, if_pos hs]
    · rw [if_neg hs, if_neg hs]
      have hn : 2 ≤ n := by
        apply Nat.lt_of_le_of_ne h3
        intro e
        exact hs (hE b n e.symm h5 h6)
      have hh := hf_bd n hn (by omega)
      by_cases hc : i < b + hf n
      · rw [if_pos hc, if_pos hc, dn_fuel hE f g b (hf n) (by omega) (by omega) (by omega) (by omega) h5 hc]
      · rw [if_neg hc, if_neg hc, dn_fuel hE f g (b + hf n) (n - hf n) (by omega) (by omega) (by omega) (by omega) (by omega) (by omega)]
/-- .. with fuel enough. -/
def dw (stop : Nat → Nat → Bool) (i b n : Nat) : List (Nat × Nat) × (Nat × Nat) := dn stop i n b n
theorem dw_stop {stop : Nat → Nat → Bool} {i b n : Nat} (h : stop b n = true) : dw stop i b n = ([], (b, b + n)) := dn_stop h n
theorem dw_lo {stop : Nat → Nat → Bool} {i b n k : Nat} (hE : Ends stop i) (h : stop b n = false) (h2 : 2 ≤ n) (hn : n ≤ 281474976710656) (hb : b ≤ i) (hk : hf n = k) (hc : i < b + k) : dw stop i b n = ((b + k, b + n) :: (dw stop i b k).1, (dw stop i b k).2) := by
  subst hk
  have hh := hf_bd n h2 (by omega)
  unfold dw
  obtain ⟨f, rfl⟩ : ∃ f, n = f + 1 := ⟨n - 1, by omega⟩
  rw [dn, if_neg (by rw [h]; exact Bool.false_ne_true), if_pos hc, dn_fuel hE f (hf (f + 1)) b (hf (f + 1)) (by omega) (Nat.le_refl _) (by omega) (by omega) hb hc]
theorem dw_hi {stop : Nat → Nat → Bool} {i b n k : Nat} (hE : Ends stop i) (h : stop b n = false) (h2 : 2 ≤ n) (hn : n ≤ 281474976710656) (hi : i < b + n) (hk : hf n = k) (hc : ¬ i < b + k) : dw stop i b n = ((b, b + k) :: (dw stop i (b + k) (n - k)).1, (dw stop i (b + k) (n - k)).2) := by
  subst hk
  have hh := hf_bd n h2 (by omega)
  unfold dw
  obtain ⟨f, rfl⟩ : ∃ f, n = f + 1 := ⟨n - 1, by omega⟩
  rw [dn, if_neg (by rw [h]; exact Bool.false_ne_true), if_neg hc, dn_fuel hE f (f + 1 - hf (f + 1)) (b + hf (f + 1)) (f + 1 - hf (f + 1)) (by omega) (Nat.le_refl _) (by omega) (by omega) (by omega) (by omega)]

/-- What is kept from round to round. -/
structure WI (stop : Nat → Nat → Bool) (i N : Nat) (b n : Nat) (ps : List (Nat × Nat)) : Prop where
  all : ps ++ (dw stop i b n).1 = (dw stop i 0 N).1
  last : (dw stop i b n).2 = (dw stop i 0 N).2
  lo : b ≤ i
  hi : i < b + n
  top : b + n ≤ 281474976710656
  few : ps.length + Lib.bitLen (n - 1) ≤ 48
theorem WI.start {stop : Nat → Nat → Bool} {i N : Nat} (h : i < N) (hN : N ≤ 281474976710656) : WI stop i N 0 N [] := ⟨rfl, rfl, by omega, by omega, by omega, by simpa using bl48 N (by omega) hN⟩
theorem WI.two {stop : Nat → Nat → Bool} {i N b n : Nat} {ps : List (Nat × Nat)} (hE : Ends stop i) (h : WI stop i N b n ps) (hs : stop b n = false) : 2 ≤ n := by
  have h1 := h.lo
  have h2 := h.hi
  rcases Nat.lt_or_ge n 2 with hlt | hge
  · have := hE b n (by omega) h1 h2
    rw [hs] at this
    cases this
  · exact hge
theorem WI.lower {stop : Nat → Nat → Bool} {i N b n k : Nat} {ps : List (Nat × Nat)} (hE : Ends stop i) (h : WI stop i N b n ps) (hs : stop b n = false) (hk : hf n = k) (hc : i < b + k) : WI stop i N b k (ps ++ [(b + k, b + n)]) := by
  have h2 := h.two hE hs
  have hh := hf_bd n h2 (by have := h.top; omega)
  have hb := bl_lo n k h2 (by have := h.top; omega) (by omega) (by omega)
  have hd := dw_lo hE hs h2 (by have := h.top; omega) h.lo hk hc
  refine ⟨?_, ?_, h.lo, hc, by have := h.top; omega, ?_⟩
  · rw [← h.all, hd]; simp
  · rw [← h.last, hd]
  · have := h.few
    rw [List.length_append, List.length_singleton]
    omega
theorem WI.upper {stop : Nat → Nat → Bool} {i N b n k : Nat} {ps : List (Nat × Nat)} (hE : Ends stop i) (h : WI stop i N b n ps) (hs : stop b n = false) (hk : hf n = k) (hc : ¬ i < b + k) : WI stop i N (b + k) (n - k) (ps ++ [(b, b + k)]) := by
  have h2 := h.two hE hs
  have hh := hf_bd n h2 (by have := h.top; omega)
  have hb := bl_lo n (n - k) h2 (by have := h.top; omega) (by omega) (by omega)
  have hd := dw_hi hE hs h2 (by have := h.top; omega) h.hi hk hc
  refine ⟨?_, ?_, by omega, by have := h.hi; omega, by have := h.top; omega, ?_⟩
  · rw [← h.all, hd]; simp
  · rw [← h.last, hd]
  · have := h.few
    rw [List.length_append, List.length_singleton]
    omega

theorem results_2wide {fn : Func} {p u : Tmp} {T : TypeId} (h : fn.results = #[.tmp u, .cell p T]) {n : Nat} (hT : Wide T n) (tmps : Array Value) (w : World)
    {g : Nat} {t : TypeId} {cs : List Value} (hp : tmps.getD p undef = .pointer (some ⟨g, 0, none⟩)) (hg : Blk w g t cs) (hl : cs.length = n) :
    (results fn tmps).run Try.prog w = .ok (.tuple #[tmps.getD u undef, .agg cs.toArray]) w := by
  have hp' : tmps[p]?.getD undef = .pointer (some ⟨g, 0, none⟩) := by simpa using hp
  obtain ⟨d, hu, hd⟩ := hT.und
  simp [results, h, hp', asAddr, run_loadVar_mid w g 0 T cs d (hg.range 0 cs (by simp)) hu hd (by rw [hT.size, hl])]
set_option maxRecDepth 100000 in
set_option maxHeartbeats 1000000 in
theorem wayDown_any (stop : Nat → Nat → Bool) (i N : Nat) (fid : FuncId) (cap : Value) (w : World) (hE : Ends stop i) (hi : i < N) (hN : N ≤ 281474976710656) (hcall : ∀ (x : Value) (v : World), (callFunc fid #[x, cap]).run Try.prog v = .ok (.enter fid #[x, cap]) v)
    (hmet : ∀ (v : World) (b n : Nat), Below w.heap.size w v → Calls Try.prog fid #[.agg #[.int .i64 (b : Int), .int .i64 ((b + n : Nat) : Int)], cap] v fun r v' => r = .returned (.bool (stop b n)) ∧ Below v.heap.size v v') :
    Calls Try.prog 5 #[.int .i64 (i : Int), .int .i64 (N : Int), .func (.func fid) #[] #[cap]] w fun r w' => ∃ v, r = .returned (.tuple #[v, .agg (qC (dw stop i 0 N).2).toArray]) ∧ OwnS w' w.heap.size v (dw stop i 0 N).1 ∧ Below w.heap.size w w' := by
  have HM := hide hmet
  clear hmet
  go_enter Try.func5, Try.ntmps5
  go_wp2_with (refine step_alloc zS rfl ?_; intro w1 g1 hg1 hle1 hb1; have HG1 := hide hg1; clear hg1)
  go_step3
  go_wp2_with (refine step_storeA wS rfl rfl rfl HG1.out rfl (One.c2 0 (N : Int)) rfl ?_)
  intro w2 hg2 hbut2
  have B2 := hide (new_below (Below.refl _ _) hb1 hle1 hbut2)
  have G2 := hide hg2
  clear hg2 hbut2 hb1 HG1
  go_wp2
  go_step3
  go_wp2
  simp only [Act.put]
  go_loopg [6] N (fun n s6 wx => ∃ (b : Nat) (ps : List (Nat × Nat)), Hid (WI stop i N b n ps) ∧ Hid (OwnS wx w.heap.size s6 ps) ∧ Hid (Blk wx g1 27 (c2 (b : Int) ((b + n : Nat) : Int))) ∧ Hid (s6.ownBlock ≠ some g1) ∧ Hid (Below w.heap.size w wx))
  case atStart => exact ⟨0, [], hide (WI.start hi hN), hide (OwnS.nil _ _), hide (by rw [Nat.zero_add]; exact G2.out), hide (by simp [Value.ownBlock]), B2⟩
  case round =>
    obtain ⟨b, ps, HI, HO, HG, HNE, HB⟩ := hrel
    obtain ⟨a6, l6, k6, rfl⟩ : ∃ a n c, u6 = Value.slice a n c := by rcases HO.out.lies with ⟨e1, _⟩ | ⟨_, _, _, e1, _⟩ <;> exact ⟨_, _, _, e1⟩
    have htop := HI.out.top
    have hlo := HI.out.lo
    have hhi := HI.out.hi
    obtain ⟨k, hk⟩ : ∃ k, fh gk = k := ⟨_, rfl⟩
    obtain ⟨e, he⟩ : ∃ e, b + gk = e := ⟨_, rfl⟩
    have hkb : k ≤ gk := by
      rcases Nat.lt_or_ge gk 2 with hlt | hge
      · obtain rfl : gk = 1 := by omega
        rw [← hk]; decide
      · rw [← hk, fh_hf gk hge (by omega)]
        exact Nat.le_of_lt (hf_bd gk hge (by omega)).2.1
    have HF := hide (fun v => firstHalf_any b e gk k v he.symm (by omega) (by omega) hk)
    have hs1 : IntKind.i64.wrap ((b : Int) + (k : Int)) = ((b + k : Nat) : Int) := by rw [IntKind.wrap_i64]; omega
    obtain ⟨m, hm⟩ : ∃ m, b + k = m := ⟨_, rfl⟩
    rw [hm] at hs1
    rw [he] at HG
    have c0 := Sub.cell HG.out.two.1
    have c1 := Sub.cell HG.out.two.2
    have hone := Sub.one wr
    go_wp2_with fail
    refine wp_region_sub (by kernel_rfl) (by kernel_rfl) ?_
    repeat (go_big_quiet_step (fail))
    go_big_quiet_step ((go_at_call 8; exact sub_call (HF.out _)))
    repeat (go_big_quiet_step (fail))
    refine wpQuiet_nil ?_
    rintro _ ⟨⟨w3, hb3⟩, rfl⟩
    have B3 := hide (on_below HB.out hb3)
    have G3 := hide (HG.out.on hb3)
    have O3 := hide (HO.out.below hb3)
    clear hb3 hone c0 c1 HG HO HB HF
    have c0 := G3.out.two.1
    have c1 := G3.out.two.2
    have HMM : Hid (∀ v, Below w.heap.size w v → Calls Try.prog fid #[.agg #[.int .i64 (b : Int), .int .i64 (e : Int)], cap] v fun r v' => r = .returned (.bool (stop b gk)) ∧ Below v.heap.size v v') := hide fun v hv => by rw [← he]; exact HM.out v b gk hv
    have HE := hide he
    have HMK := hide hm
    have HK := hide hk
    clear he hm hk
    by_cases hs : stop b gk = true
    · rw [hs] at HMM
      go_wp2_with fail
      refine (HMM.out _ B3.out).mono ?_
      rintro r w4 ⟨rfl, hb4⟩
      have B4 := hide (on_below B3.out hb4)
      have G4 := hide (G3.out.on hb4)
      have O4 := hide (O3.out.below hb4)
      clear hb4 c0 c1 B3 G3 O3
      go_wp2_with fail
      have F0 := G4.out.free 0
      have F1 := G4.out.free 1
      obtain ⟨c0, c1⟩ := G4.out.two
      have G5 : Blk ((w4.setCell ⟨g1, 0, none⟩ (.int .i64 (b : Int))).setCell ⟨g1, 1, none⟩ (.int .i64 (e : Int))).drew g1 27 (c2 (b : Int) (e : Int)) := (G4.out.set 0 _).set 1 _
      have BU : But g1 w4 ((w4.setCell ⟨g1, 0, none⟩ (.int .i64 (b : Int))).setCell ⟨g1, 1, none⟩ (.int .i64 (e : Int))).drew := (But.trans (But.setCell _ _ _ _) (But.setCell _ _ _ _)).trans ⟨rfl, rfl, rfl, rfl, fun _ _ => rfl⟩
      have GG := hide G5
      have BUT := hide BU
      clear G5 BU
      go_region_held3 (fun v : World => v.cell? ⟨g1, 0, none⟩ = some (.int .i64 (b : Int)) ∧ v.cell? ⟨g1, 1, none⟩ = some (.int .i64 (e : Int))) (first | exact ⟨c0, c1⟩ | exact GG.out.two) (fail)
      go_wp2
      rw [Exit.noGoto_ret]
      have hd := dw_stop (i := i) hs
      have hl := HI.out.last
      have ha := HI.out.all
      rw [hd] at hl ha
      simp only [List.append_nil] at ha
      refine bodyPost_ret (results_2wide rfl wS _ _ rfl GG.out rfl) rfl ⟨.slice a6 l6 k6, ?_, ?_, ?_⟩
      · rw [← hl, ← HE.out]; rfl
      · rw [← ha]
        exact O4.out.but BUT.out HNE.out
      · exact B4.out.trans (BUT.out.below hle1)
    · have hs' : stop b gk = false := by simpa using hs
      rw [hs'] at HMM
      have h2 := HI.out.two hE hs'
      have hkf : hf gk = k := by rw [← HK.out, fh_hf gk h2 (by omega)]
      have hh := hf_bd gk h2 (by omega)
      rw [hkf] at hh
      have HKF := hide hkf
      have hlen9 : ps.length ≤ 1048576 := by have := HI.out.few; omega
      clear hkf
      go_wp2_with fail
      refine (HMM.out _ B3.out).mono ?_
      rintro r w4 ⟨rfl, hb4⟩
      have B4 := hide (on_below B3.out hb4)
      have G4 := hide (G3.out.on hb4)
      have O4 := hide (O3.out.below hb4)
      clear hb4 c0 c1 B3 G3 O3
      obtain ⟨c0, c1⟩ := G4.out.two
      by_cases hc : i < m
      · have hc' : (i : Int) < (m : Int) := by omega
        go_wp2_with (refine steponeS (n := (m, e)) rfl rfl ?_)
        intro W1 g5 hg5 hle5 hb5
        have O5 := hide (O4.out.below hb5)
        have Y5 := hide hg5
        have G5 := hide (G4.out.on hb5)
        have B5 := hide (on_below B4.out hb5)
        clear hg5 hb5 O4 G4 B4 c0 c1
        go_wp2_with (refine stepappS (v := .slice a6 l6 k6) rfl rfl rfl O5.out Y5.out hlen9 B5.out.size ?_)
        intro v6 W6 ho6 hgr6 hat6
        have O6 := hide ho6
        have G6 := hide (G5.out.grew hgr6 HNE.out)
        have B6 := hide (B5.out.trans ((Below.refl _ _).grown hgr6 B5.out.size (fun k hk => (O5.out.lt k hk).1)))
        have HN7 : Hid (v6.ownBlock ≠ some g1) := hide (fun hk => by
          rcases hat6 g1 hk with h | h
          · exact HNE.out h
          · have := G5.out.lt
            omega)
        clear ho6 hgr6 hat6 O5 G5 B5 Y5
        have F0 := G6.out.free 1
        obtain ⟨c0, c1⟩ := G6.out.two
        go_wp2
        have G7 : Hid (Blk (W6.setCell ⟨g1, 1, none⟩ (.int .i64 (m : Int))) g1 27 (c2 (b : Int) (m : Int))) := hide (G6.out.set 1 _)
        have BU := But.setCell W6 g1 1 (.int .i64 (m : Int))
        have O7 := hide (O6.out.but BU HN7.out)
        have B7 := hide (B6.out.trans (BU.below hle1))
        clear BU
        go_roundg k
        case measure => omega
        case rel => exact ⟨b, ps ++ [(m, e)], hide (by rw [← HMK.out, ← HE.out]; exact HI.out.lower hE hs' HKF.out (by rw [HMK.out]; exact hc)), O7, hide (by rw [HMK.out]; exact G7.out), hide HN7.out, B7⟩
      · have hc' : ¬ (i : Int) < (m : Int) := by omega
        go_wp2_with (refine steponeS (n := (b, m)) rfl rfl ?_)
        intro W1 g5 hg5 hle5 hb5
        have O5 := hide (O4.out.below hb5)
        have Y5 := hide hg5
        have G5 := hide (G4.out.on hb5)
        have B5 := hide (on_below B4.out hb5)
        clear hg5 hb5 O4 G4 B4 c0 c1
        go_wp2_with (refine stepappS (v := .slice a6 l6 k6) rfl rfl rfl O5.out Y5.out hlen9 B5.out.size ?_)
        intro v6 W6 ho6 hgr6 hat6
        have O6 := hide ho6
        have G6 := hide (G5.out.grew hgr6 HNE.out)
        have B6 := hide (B5.out.trans ((Below.refl _ _).grown hgr6 B5.out.size (fun k hk => (O5.out.lt k hk).1)))
        have HN7 : Hid (v6.ownBlock ≠ some g1) := hide (fun hk => by
          rcases hat6 g1 hk with h | h
          · exact HNE.out h
          · have := G5.out.lt
            omega)
        clear ho6 hgr6 hat6 O5 G5 B5 Y5
        have F0 := G6.out.free 0
        obtain ⟨c0, c1⟩ := G6.out.two
        go_wp2
        have G7 : Hid (Blk (W6.setCell ⟨g1, 0, none⟩ (.int .i64 (m : Int))) g1 27 (c2 (m : Int) (e : Int))) := hide (G6.out.set 0 _)
        have BU := But.setCell W6 g1 0 (.int .i64 (m : Int))
        have O7 := hide (O6.out.but BU HN7.out)
        have B7 := hide (B6.out.trans (BU.below hle1))
        clear BU
        go_roundg (gk - k)
        case measure => omega
        case rel => exact ⟨m, ps ++ [(b, m)], hide (by rw [← HMK.out]; exact HI.out.upper hE hs' HKF.out (by rw [HMK.out]; exact hc)), O7, hide (by rw [show m + (gk - k) = e by have := HMK.out; have := HE.out; omega]; exact G7.out), hide HN7.out, B7⟩

end Go.Proofs.Ytlniffmhihhkcab
