/-
  Texts one behind the other: Wy Lx Sh9 FrS TtLaw.
-/
import Derived.Test.YtconeobaohmbnaaDoorPkWC
import Derived.Test.YtconeobaohmbnaaDoorPkWB

/-
  A proof's bytes are read as that proof. No program here.
-/
namespace Go.Proofs.YtconeobaohmbnaaDoor
open Go.RowKit
set_option linter.unusedVariables false

theorem be_succW (v : Int) (n : Nat) : be v (n + 1) = be (v / 256) n ++ [v % 256] := by
  unfold be
  rw [List.range_succ, List.map_append]
  congr 1
  · apply List.map_congr_left
    intro i hi
    have hi' : i < n := List.mem_range.1 hi
    rw [show n + 1 - 1 - i = (n - 1 - i) + 1 by omega, Int.pow_succ, Int.mul_comm, Int.ediv_ediv_of_nonneg (by decide)]
  · simp
theorem beVal_beW (n : Nat) : ∀ v : Int, 0 ≤ v → v < 256 ^ n → beVal (be v n) = v := by
  induction n with
  | zero => intro v h0 h1; simp at h1; simp [be, beVal]; omega
  | succ n ih =>
    intro v h0 h1
    have h2 : v / 256 < 256 ^ n := by
      rw [Int.pow_succ] at h1
      exact Int.ediv_lt_of_lt_mul (by decide) h1
    have := ih (v / 256) (Int.ediv_nonneg h0 (by decide)) h2
    rw [be_succW]
    unfold beVal at *
    rw [List.foldl_append, this]
    simp only [List.foldl_cons, List.foldl_nil]
    omega
section
variable {k f s : Int} {n : Nat} {ys : List Int}
theorem encB_eq : encB k f s n ys = k :: (be f 8 ++ (be s 8 ++ ((n : Int) :: ys))) := by simp [encB, encH]
theorem encB_length (hy : ys.length = 32 * n) : (encB k f s n ys).length = 18 + 32 * n := by
  rw [encB, List.length_append, encH_length, hy]
theorem rdV_at {xs : List Int} (p : Nat) (v : Int) (h : (xs.drop p).take 8 = be v 8) (hl : p + 8 ≤ xs.length) (h0 : 0 ≤ v) (h1 : v < 18446744073709551616) : rdV xs (p : Int) 8 = v := by
  unfold rdV
  rw [if_pos (by omega), Int.toNat_natCast, h]
  exact beVal_beW 8 v h0 (by have e : (256 : Int) ^ 8 = 18446744073709551616 := by decide
                             omega)
theorem encB_reads (hc : pcnt k f s = some n) (hy : ys.length = 32 * n) : (encB k f s n ys).getD 0 0 = k ∧ rdV (encB k f s n ys) 1 8 = f ∧ rdV (encB k f s n ys) 9 8 = s ∧ (encB k f s n ys).getD 17 0 = (n : Int) ∧ (encB k f s n ys).drop 18 = ys := by
  obtain ⟨_, hf0, hfs, hs48⟩ := pcnt_bd hc
  have hl := encB_length (k := k) (f := f) (s := s) hy
  have d1 : (encB k f s n ys).drop 1 = be f 8 ++ (be s 8 ++ ((n : Int) :: ys)) := by rw [encB_eq]; rfl
  have d9 : (encB k f s n ys).drop 9 = be s 8 ++ ((n : Int) :: ys) := by
    rw [show 9 = 1 + 8 from rfl, ← List.drop_drop, d1, List.drop_left' (be_length f 8)]
  have d17 : (encB k f s n ys).drop 17 = (n : Int) :: ys := by
    rw [show 17 = 9 + 8 from rfl, ← List.drop_drop, d9, List.drop_left' (be_length s 8)]
  refine ⟨by rw [encB_eq]; rfl, ?_, ?_, ?_, ?_⟩
  · exact rdV_at 1 f (by rw [d1, List.take_left' (be_length f 8)]) (by omega) hf0 (by omega)
  · exact rdV_at 9 s (by rw [d9, List.take_left' (be_length s 8)]) (by omega) (by omega) (by omega)
  · have e : ((encB k f s n ys).drop 17)[0]? = some (n : Int) := by rw [d17]; rfl
    rw [List.getElem?_drop] at e
    simp only [List.getD, Nat.add_zero] at e ⊢
    rw [e]
    rfl
  · rw [show 18 = 17 + 1 from rfl, ← List.drop_drop, d17]; rfl
theorem dec_enc (hc : pcnt k f s = some n) (hy : ys.length = 32 * n) : DecB (encB k f s n ys) k f s n ys 0 := by
  obtain ⟨h1, h2, h3, h4, h5⟩ := encB_reads hc hy
  obtain ⟨_, hf0, hfs, hs48⟩ := pcnt_bd hc
  refine .inr ⟨⟨encB_length hy, by rw [h2]; omega, by rw [h3]; omega, by rw [h1, h2, h3]; exact hc, h4⟩, h1.symm, h2.symm, h3.symm, h5.symm, rfl⟩
theorem encB_isB (hc : pcnt k f s = some n) (hb : isB ys) : isB (encB k f s n ys) := by
  obtain ⟨hk, _⟩ := pcnt_bd hc
  have := pcnt_le hc
  exact ((((isB_oneW (by omega) (by omega)).append (be_isB f 8)).append (be_isB s 8)).append (isB_oneW (by omega) (by omega))).append hb
end

end Go.Proofs.YtconeobaohmbnaaDoor

/-
  A list of so many values, spelled out.
-/
namespace Go.Proofs.YtconeobaohmbnaaDoor
open Go.RowKit

theorem listN (n : Nat) (L : List Value) (h : L.length = n) : L = (List.range n).map (fun k => L.getD k undef) := by
  apply List.ext_getElem?
  intro i
  by_cases hi : i < n
  · simp [List.getD, hi, h]
  · rw [List.getElem?_eq_none (by omega), List.getElem?_eq_none (by simp; omega)]
theorem arr_getD (L : List Value) (k : Nat) : (Array.mk L).getD k undef = L.getD k undef := by simp [Array.getD_eq_getD_getElem?, List.getD]
set_option maxRecDepth 100000 in
theorem listF119 (L : List Value) (h : L.length = 119) : ∃ f : Nat → Value, (∀ k, f k = (Array.mk L).getD k undef) ∧ L = [f 0, f 1, f 2, f 3, f 4, f 5, f 6, f 7, f 8, f 9, f 10, f 11, f 12, f 13, f 14, f 15, f 16, f 17, f 18, f 19, f 20, f 21, f 22, f 23, f 24, f 25, f 26, f 27, f 28, f 29, f 30, f 31, f 32, f 33, f 34, f 35, f 36, f 37, f 38, f 39, f 40, f 41, f 42, f 43, f 44, f 45, f 46, f 47, f 48, f 49, f 50, f 51, f 52, f 53, f 54, f 55, f 56, f 57, f 58, f 59, f 60, f 61, f 62, f 63, f 64, f 65, f 66, f 67, f 68, f 69, f 70, f 71, f 72, f 73, f 74, f 75, f 76, f 77, f 78, f 79, f 80, f 81, f 82, f 83, f 84, f 85, f 86, f 87, f 88, f 89, f 90, f 91, f 92, f 93, f 94, f 95, f 96, f 97, f 98, f 99, f 100, f 101, f 102, f 103, f 104, f 105, f 106, f 107, f 108, f 109, f 110, f 111, f 112, f 113, f 114, f 115, f 116, f 117, f 118] := by
  exact ⟨fun k => L.getD k undef, fun k => (arr_getD L k).symm, (listN 119 L h).trans rfl⟩
set_option maxRecDepth 100000 in
theorem listF151 (L : List Value) (h : L.length = 151) : ∃ f : Nat → Value, (∀ k, f k = (Array.mk L).getD k undef) ∧ L = [f 0, f 1, f 2, f 3, f 4, f 5, f 6, f 7, f 8, f 9, f 10, f 11, f 12, f 13, f 14, f 15, f 16, f 17, f 18, f 19, f 20, f 21, f 22, f 23, f 24, f 25, f 26, f 27, f 28, f 29, f 30, f 31, f 32, f 33, f 34, f 35, f 36, f 37, f 38, f 39, f 40, f 41, f 42, f 43, f 44, f 45, f 46, f 47, f 48, f 49, f 50, f 51, f 52, f 53, f 54, f 55, f 56, f 57, f 58, f 59, f 60, f 61, f 62, f 63, f 64, f 65, f 66, f 67, f 68, f 69, f 70, f 71, f 72, f 73, f 74, f 75, f 76, f 77, f 78, f 79, f 80, f 81, f 82, f 83, f 84, f 85, f 86, f 87, f 88, f 89, f 90, f 91, f 92, f 93, f 94, f 95, f 96, f 97, f 98, f 99, f 100, f 101, f 102, f 103, f 104, f 105, f 106, f 107, f 108, f 109, f 110, f 111, f 112, f 113, f 114, f 115, f 116, f 117, f 118, f 119, f 120, f 121, f 122, f 123, f 124, f 125, f 126, f 127, f 128, f 129, f 130, f 131, f 132, f 133, f 134, f 135, f 136, f 137, f 138, f 139, f 140, f 141, f 142, f 143, f 144, f 145, f 146, f 147, f 148, f 149, f 150] := by
  exact ⟨fun k => L.getD k undef, fun k => (arr_getD L k).symm, (listN 151 L h).trans rfl⟩

end Go.Proofs.YtconeobaohmbnaaDoor

/-
  What is shown: a leaf, a proof's bytes and a root; the law's known; claims built whole; texts compared.
-/
namespace Go.Proofs.YtconeobaohmbnaaDoor
open Go.RowKit
set_option linter.unusedVariables false

/-- A leaf, a proof's bytes, a root. -/
structure Sv where
  al : Option Addr
  ll : Nat
  cl : Nat
  L : List Int
  ap : Option Addr
  lp : Nat
  cp : Nat
  P : List Int
  R : List Int
def Sv.cells (s : Sv) : List Value := [.slice s.al s.ll s.cl, .slice s.ap s.lp s.cp] ++ u8s s.R
structure Sv.In (s : Sv) (w : World) : Prop where
  sl : Sl w s.al s.ll s.cl s.L
  hl : s.ll ≤ 140737488354304
  sp : Sl w s.ap s.lp s.cp s.P
  lr : s.R.length = 32
  br : isB s.R
theorem Sv.In.below {s : Sv} {w w' : World} (h : s.In w) (hb : Below w.heap.size w w') : s.In w' := ⟨h.sl.below hb, h.hl, h.sp.below hb, h.lr, h.br⟩
theorem Sv.length {s : Sv} (h : s.R.length = 32) : s.cells.length = 34 := by simp [Sv.cells, u8s_length, h]
theorem Sv.fR {s : Sv} (h : s.R.length = 32) : (s.cells.drop 2).take 32 = u8s s.R := by
  unfold Sv.cells
  rw [List.drop_left' (by rfl), List.take_of_length_le (by rw [u8s_length, h]; omega)]
theorem Sv.range {s : Sv} {w : World} {g : Nat} {t : TypeId} (h : Blk w g t s.cells) (hl : s.R.length = 32) : w.rangeAt g 2 (u8s s.R) := h.range 2 (u8s s.R) (by rw [u8s_length, hl]; exact Sv.fR hl)
theorem Sv.leaf {s : Sv} {w : World} {g : Nat} {t : TypeId} (h : Blk w g t s.cells) : w.cell? ⟨g, 0, none⟩ = some (.slice s.al s.ll s.cl) := by rw [h.cell]; rfl
theorem Sv.proof {s : Sv} {w : World} {g : Nat} {t : TypeId} (h : Blk w g t s.cells) : w.cell? ⟨g, 1, none⟩ = some (.slice s.ap s.lp s.cp) := by rw [h.cell]; rfl
def s0v : Sv := ⟨none, 0, 0, [], none, 0, 0, [], zer 32⟩
section
variable {dst : Option Tmp} {ty : TypeId} {pos : String} {aft : Array Edge} {gd : Option (Nat × Bool)} {ops : Array Oper} {rest : List Oper} {a : Act} {w : World} {Q : Exit → Act → World → Prop}
set_option maxRecDepth 100000 in
theorem build_all (c : Cv) (h1 : c.o.length = 32) (h2 : c.nw.length = 32) (w : World) : (Instr.build 27 #[(0, .int .i64 c.m), (1, .int .i64 c.n), (2, .agg (u8s c.o).toArray), (3, .agg (u8s c.nw).toArray), (4, .slice c.aq c.ls c.cs), (5, .int .i64 c.i), (6, .slice c.ax c.lx c.cx), (7, .slice c.ay c.ly c.cy), (8, .slice c.ao c.lo c.co), (9, .slice c.an c.ln c.cn)]).run Tryd.prog w = .ok (.agg c.cells.toArray) w := by
  refine build_cl (c := c) ?_
  refine (clF.m c0v c0o c0n _ _).trans ?_
  refine (clF.n _ (by exact c0o) (by exact c0n) _ _).trans ?_
  refine (clF.o _ (by exact c0o) (by exact c0n) _ h1 _).trans ?_
  refine (clF.w _ (by exact h1) (by exact c0n) _ h2 _).trans ?_
  refine (clF.s _ (by exact h1) (by exact h2) _ _ _ [] _).trans ?_
  refine (clF.i _ (by exact h1) (by exact h2) _ _).trans ?_
  refine (clF.x _ (by exact h1) (by exact h2) _ _ _ [] _).trans ?_
  refine (clF.y _ (by exact h1) (by exact h2) _ _ _ [] _).trans ?_
  refine (clF.a _ (by exact h1) (by exact h2) _ _ _ [] _).trans ?_
  refine (clF.b _ (by exact h1) (by exact h2) _ _ _ [] _).trans ?_
  rfl
set_option maxRecDepth 100000 in
theorem step_call {t0 t1 t2 t3 t4 t5 t6 t7 t8 t9 : Nat} (c : Cv) (h1 : c.o.length = 32) (h2 : c.nw.length = 32) (hw : Region.wanted ⟨dst, .build 27 #[(0, .tmp t0), (1, .tmp t1), (2, .tmp t2), (3, .tmp t3), (4, .tmp t4), (5, .tmp t5), (6, .tmp t6), (7, .tmp t7), (8, .tmp t8), (9, .tmp t9)], ty, pos, aft, gd⟩ (yielded ops a.tmps) = true)
    (e0 : a.eval (.tmp t0) = .int .i64 c.m) (e1 : a.eval (.tmp t1) = .int .i64 c.n) (e2 : a.eval (.tmp t2) = .agg (u8s c.o).toArray) (e3 : a.eval (.tmp t3) = .agg (u8s c.nw).toArray) (e4 : a.eval (.tmp t4) = .slice c.aq c.ls c.cs) (e5 : a.eval (.tmp t5) = .int .i64 c.i) (e6 : a.eval (.tmp t6) = .slice c.ax c.lx c.cx) (e7 : a.eval (.tmp t7) = .slice c.ay c.ly c.cy) (e8 : a.eval (.tmp t8) = .slice c.ao c.lo c.co) (e9 : a.eval (.tmp t9) = .slice c.an c.ln c.cn)
    (h : wpList Tryd.prog ops Q rest (a.put dst (.agg c.cells.toArray)) w) :
    wpList Tryd.prog ops Q (⟨dst, .build 27 #[(0, .tmp t0), (1, .tmp t1), (2, .tmp t2), (3, .tmp t3), (4, .tmp t4), (5, .tmp t5), (6, .tmp t6), (7, .tmp t7), (8, .tmp t8), (9, .tmp t9)], ty, pos, aft, gd⟩ :: rest) a w := by
  refine step_run hw (.agg c.cells.toArray) w ?_ h
  unfold execOp
  simp only [List.map_toArray, List.map_cons, List.map_nil, e0, e1, e2, e3, e4, e5, e6, e7, e8, e9]
  simp only [Sem.run_bind, build_all c h1 h2, Result.andThen_ok, Sem.run_pure]
end
theorem pcnt1 : pcnt 1 0 1 = some 0 := by
  unfold pcnt
  rw [if_pos rfl, if_pos (by omega)]
  show some (hvL 0 0 1).length = _
  rw [hv01]
  rfl
set_option maxRecDepth 100000 in
set_option maxHeartbeats 1000000 in
theorem known_any (w : World) (hk : KT w) : Calls Tryd.prog 19 #[] w fun r w' => r = .returned (.bool true) ∧ Below w.heap.size w w' := by
  have HK := hide hk
  clear hk
  go_enter Tryd.func19, Tryd.ntmps19
  go_wp2_with (go_at_call 42; refine (encode_ok 1 0 1 none 0 0 [] _ ⟨Nat.le_refl _, Nat.zero_le _, fun _ => rfl, Sl.none0 _⟩ pcnt1).mono ?_)
  rintro r w1 ⟨hb1, v1, rfl, hv1, ho1⟩
  obtain ⟨g, c, rfl, hl, hs⟩ := ho1.sl (encB_isB pcnt1 (by intro x hx; cases hx)) (by rw [encB_length rfl]; omega) hv1
  rw [encB_length rfl] at hs
  have SB := hide hs
  have DB : Hid (DecB (encB 1 0 1 0 []) 1 0 1 0 [] 0) := hide (dec_enc pcnt1 rfl)
  have B1 := hide hb1
  obtain ⟨dx, HX⟩ : ∃ d, Hid (d = lf [120]) := ⟨_, hide rfl⟩
  have LX : Hid (dx.length = 32) := hide (by rw [HX.out]; exact lf_length _)
  have BX : Hid (isB dx) := hide (by rw [HX.out]; exact lf_isB _)
  have UX : Hid ((u8s dx).length = 32) := hide (by rw [u8s_length, LX.out])
  have hcv := Lib.run_convert_bytes_const (P := Tryd.prog) w1 25 5 #[.int .u8 120] 1 1 undBs undB
  have B0 : Hid (Below w1.heap.size w1 (w1.alloc (.cells #[.int .u8 120] 5 (1, 2)))) := hide ((Below.refl _ _).alloc (Nat.le_refl _) _)
  rw [encB_length rfl]
  clear hb1 hv1 ho1 hs
  go_wp2_with (go_at_call 15; refine (leaf_any _ 1 1 [120] _ (one_slM w1 120 (by omega)) (by omega) ((HK.out.below B1.out HK.out.lt).below B0.out (HK.out.below B1.out HK.out.lt).lt)).mono ?_)
  rintro r w2 ⟨rfl, hb2⟩
  rw [← HX.out]
  have Y2 := hide (B0.out.trans (hb2.mono B0.out.size))
  clear hb2 hcv
  go_wp2_with (refine step_alloc zD rfl ?_)
  intro w3 g3 hr3 hl3 hb3
  go_wp2_with (refine step_storeA wD rfl rfl rfl hr3 UX.out (One.u8 _) (by rw [u8s_length, zer_length]) ?_)
  intro w4 hr4 hbt4
  have G4 := hide hr4
  have Y4 := hide (Y2.out.trans ((hb3.mono Y2.out.size).trans (hbt4.below (Nat.le_trans Y2.out.size hl3))))
  have S4 := hide (SB.out.below Y4.out)
  have B4 := hide (B1.out.trans (Y4.out.mono B1.out.size))
  have K4 := hide (HK.out.below B4.out HK.out.lt)
  clear hr3 hb3 hr4 hbt4 hl3
  have HV : Hid (∀ (va : Option Addr) (vc : Nat) (V : World), Below w4.heap.size w4 V → Ds V va 0 vc [] → Calls Tryd.prog 45 #[.agg (u8s dx).toArray, .int .i64 0, .int .i64 1, .slice va 0 vc, .agg (u8s dx).toArray] V fun r w' => r = .returned (.int .i64 0) ∧ Below V.heap.size V w') := hide (fun va vc V hV hd => by
    have := incP dx dx 0 1 va 0 vc [] V LX.out BX.out LX.out hd (K4.out.below hV K4.out.lt)
    rwa [inc_1] at this)
  go_wp2_with (first | (refine step_loadA wD rfl rfl G4.out UX.out ?_) | (go_at_call 22; refine (check_any DB.out dx dx 0 _ _ _ _ S4.out LX.out LX.out HV.out).mono ?_))
  rintro r w5 ⟨rfl, hb5⟩
  rw [show ckR 0 1 1 0 = 0 from rfl]
  go_wp2
  go_ret
  exact ⟨rfl, B4.out.trans (hb5.mono B4.out.size)⟩

end Go.Proofs.YtconeobaohmbnaaDoor

/-
  From how an argument is read as data to what the walks are told of it: what is shown.
-/
namespace Go.Proofs.YtconeobaohmbnaaDoor
open Go.ChangeShapes Go.WideShapes Go.ChangeAt Go.RowKit
set_option linter.unusedVariables false

set_option maxRecDepth 100000 in
set_option maxHeartbeats 1000000 in
theorem shn_of {H : Type} {enc : TypeId × Value → H} {W : World} {base : Nat} {v : Value} {d : DataW H} {p : List MemPlace} {ts : List TypeId} {ds : List (DataW H)} (j : Nat)
    (hv : Value.okWide Tryd.prog W .any base 46 v) (h : DataW.Trod enc Tryd.prog W 0 (fun _ => true) true 46 v d p)
    (hsz : (DataW.weightsEach Tryd.prog ts ds).all (· ≤ reachBytes) = true) (ht : ts[j]? = some 46) (hd : ds[j]? = some d) :
    ∃ s : Sv, v = .agg s.cells.toArray ∧ s.In W := by
  have hu := Tryd.underlying46
  have hall := allC hsz ht hd
  obtain ⟨cs, rfl, hsz2⟩ := okWide_struct hu hv
  obtain ⟨L⟩ := cs
  have hL : L.length = 34 := by
    have e : Tryd.prog.cellsOf 46 = 34 := by kernel_rfl
    rw [e] at hsz2
    simpa using hsz2
  obtain ⟨fuel, hf⟩ := h
  obtain ⟨xs, n, _, hx, _, hxl, hfs⟩ := DataW.trod_struct hu hf
  simp only [Prod.mk.injEq] at hx
  rw [hx.1] at hall
  simp only [Value.cells] at hfs
  match xs, hxl with
  | [y0, y1, y2], _ =>
    have h0 : DataW.trod enc Tryd.prog W 0 (fun _ => true) true n 25 ((L.drop 0).take (Tryd.prog.cellsOf 25)) = some y0 := hfs 0 _ rfl
    have h1 : DataW.trod enc Tryd.prog W 0 (fun _ => true) true n 25 ((L.drop 1).take (Tryd.prog.cellsOf 25)) = some y1 := hfs 1 _ rfl
    have h2 : DataW.trod enc Tryd.prog W 0 (fun _ => true) true n 23 ((L.drop 2).take (Tryd.prog.cellsOf 23)) = some y2 := hfs 2 _ rfl
    have q0 : ∀ n ∈ y0.1.weights Tryd.prog 25, n ≤ 140737488351232 := fldC hu (j := 0) rfl (y := y0) rfl hall
    have q1 : ∀ n ∈ y1.1.weights Tryd.prog 25, n ≤ 140737488351232 := fldC hu (j := 1) rfl (y := y1) rfl hall
    rw [cbC] at h0 h1
    rw [cdC] at h2
    obtain ⟨a0, l0, c0, x0, e0, s0, w0⟩ := slC_trod h0
    obtain ⟨a1, l1, c1, x1, e1, s1, w1⟩ := slC_trod h1
    obtain ⟨o, e2, lo, bo⟩ := digC_trod h2 (by simp [hL])
    have t0 := s0 (capB q0 w0)
    have t1 := s1 (capB q1 w1)
    have k0 := capB q0 w0
    have z0 : l0 ≤ 140737488354304 := by have := t0.hcap; omega
    refine ⟨⟨a0, l0, c0, x0, a1, l1, c1, x1, o⟩, ?_, t0, z0, t1, lo, bo⟩
    have d0 := cutC e0 rfl
    have d1 := cutC e1 rfl
    have d2 := cutC e2 (by rw [u8s_length, lo])
    have dd : L.drop 34 = [] := List.drop_of_length_le (by omega)
    simp only [Nat.reduceAdd] at d0 d1 d2
    have e : L = Sv.cells ⟨a0, l0, c0, x0, a1, l1, c1, x1, o⟩ := by
      rw [← List.drop_zero (l := L), d0, d1, d2, dd, List.append_nil]
      rfl
    rw [e]

end Go.Proofs.YtconeobaohmbnaaDoor

/-
  The walk of TopTree.
-/
namespace Go.Proofs.YtconeobaohmbnaaDoor
open Go.RowKit
set_option linter.unusedVariables false

theorem ckR0 {k K R : Int} (h : ckR 0 k K R = 0) : R = 0 := by
  unfold ckR at h
  rw [if_pos rfl] at h
  split at h
  · exact h
  · cases h
set_option maxRecDepth 100000 in
set_option maxHeartbeats 4000000 in
theorem top_walk (a : Option Addr) (len cap : Nat) (xs : List Int) (X Y : Sv) (w : World) (hs : Sl w a len cap xs) (hc : cap ≤ 140737488351232) (hx : X.In w) (hy : Y.In w) (hk : KT w) :
    Calls Tryd.prog 7 #[.slice a len cap, .agg X.cells.toArray, .agg Y.cells.toArray] w fun r w' => r = .returned (.bool true) ∧ Below w.heap.size w w' := by
  have HS := hide hs
  have HX := hide hx
  have HY := hide hy
  have HK := hide hk
  have LX := hide hx.lr
  have LY := hide hy.lr
  have BX := hide hx.br
  have BY := hide hy.br
  obtain ⟨kp, fp, sp, np, yp, Ep, hDp⟩ := decB xs
  obtain ⟨kq, fq, sq, nq, yq, Eq, hDq⟩ := decB X.P
  obtain ⟨kr, fr, sr, nr, yr, Er, hDr⟩ := decB Y.P
  have DP := hide hDp
  have DQ := hide hDq
  have DR := hide hDr
  have hn1 := hDp.few
  have hn2 := hDq.few
  have hn3 := hDr.few
  have PB := hide (hDp.byte hs.hbyte)
  have QB := hide (hDq.byte hx.sp.hbyte)
  have RB := hide (hDr.byte hy.sp.hbyte)
  obtain ⟨dX, HDX⟩ : ∃ d, Hid (d = lf X.L) := ⟨_, hide rfl⟩
  obtain ⟨dY, HDY⟩ : ∃ d, Hid (d = lf Y.L) := ⟨_, hide rfl⟩
  have LDX : Hid (dX.length = 32) := hide (by rw [HDX.out]; exact lf_length _)
  have LDY : Hid (dY.length = 32) := hide (by rw [HDY.out]; exact lf_length _)
  have BDX : Hid (isB dX) := hide (by rw [HDX.out]; exact lf_isB _)
  have BDY : Hid (isB dY) := hide (by rw [HDY.out]; exact lf_isB _)
  clear hs hx hy hk hDp hDq hDr
  go_enter Tryd.func7, Tryd.ntmps7
  go_wp2_with (refine step_box (cs := X.cells) rfl rfl ?_)
  intro w1 g4 hr1 hl1 hb1
  go_wp2_with (refine step_box (cs := Y.cells) rfl rfl ?_)
  intro w2 g5 hr2 hl2 hb2
  have G42 := hide (hr1.on hb2)
  have G52 := hide hr2
  have B2 := hide (on_below hb1 hb2)
  clear hr1 hb1 hr2 hb2 hl1 hl2
  go_wp2_with (go_at_call 19; refine (known_any _ (HK.out.below B2.out HK.out.lt)).mono ?_)
  rintro r w3 ⟨rfl, hb3⟩
  have G43 := hide (G42.out.on hb3)
  have G53 := hide (G52.out.on hb3)
  have B3 := hide (on_below B2.out hb3)
  clear hb3 G42 G52 B2
  go_wp2_with (go_at_call 20; refine (decodeB DP.out _ _ _ _ (HS.out.below B3.out)).mono ?_)
  rintro r w4 ⟨hb4, v, rfl, ho⟩
  obtain ⟨pa, pc, rfl, hds, _⟩ := ho.ds PB.out (by omega)
  have D4 := hide hds
  clear hds ho
  go_wp2_with (refine step_alloc zP rfl ?_)
  intro w5 g7 hr5 hl5 hb5
  go_wp2_with (refine step_storeA wP rfl rfl rfl hr5 rfl (One.pf _ _ _ _ _ _) rfl ?_)
  intro w6 hr6 hbut6
  have Y6 := hide (hb4.trans ((hb5.trans (hbut6.below hl5)).mono hb4.size))
  have D6 := hide (D4.out.below (hb5.trans (hbut6.below hl5)))
  have P6 := hide hr6
  have G46 := hide (G43.out.on Y6.out)
  have G56 := hide (G53.out.on Y6.out)
  have B6 := hide (on_below B3.out Y6.out)
  clear hb4 hr5 hl5 hb5 hr6 hbut6 Y6 D4 G43 G53 B3
  have c41 := Sv.proof G46.out
  go_wp2_with (go_at_call 20; refine (decodeB DQ.out _ _ _ _ (HX.out.below B6.out).sp).mono ?_)
  rintro r w7 ⟨hb7, v, rfl, ho⟩
  obtain ⟨qa, qc, rfl, hds, _⟩ := ho.ds QB.out (by omega)
  have E7 := hide hds
  clear hds ho c41
  go_wp2_with (refine step_alloc zP rfl ?_)
  intro w8 g9 hr8 hl8 hb8
  go_wp2_with (refine step_storeA wP rfl rfl rfl hr8 rfl (One.pf _ _ _ _ _ _) rfl ?_)
  intro w9 hr9 hbut9
  have Y9 := hide (hb7.trans ((hb8.trans (hbut9.below hl8)).mono hb7.size))
  have E9 := hide (E7.out.below (hb8.trans (hbut9.below hl8)))
  have D9 := hide (D6.out.below Y9.out)
  have P9 := hide (P6.out.on Y9.out)
  have Q9 := hide hr9
  have G49 := hide (G46.out.on Y9.out)
  have G59 := hide (G56.out.on Y9.out)
  have B9 := hide (on_below B6.out Y9.out)
  clear hb7 hr8 hl8 hb8 hr9 hbut9 Y9 E7 D6 P6 G46 G56 B6
  have c51 := Sv.proof G59.out
  go_wp2_with (go_at_call 20; refine (decodeB DR.out _ _ _ _ (HY.out.below B9.out).sp).mono ?_)
  rintro r w10 ⟨hb10, v, rfl, ho⟩
  obtain ⟨ra, rc, rfl, hds, _⟩ := ho.ds RB.out (by omega)
  have F10 := hide hds
  clear hds ho c51
  go_wp2_with (refine step_alloc zP rfl ?_)
  intro w11 g11 hr11 hl11 hb11
  go_wp2_with (refine step_storeA wP rfl rfl rfl hr11 rfl (One.pf _ _ _ _ _ _) rfl ?_)
  intro z hrz hbutz
  have YZ := hide (hb10.trans ((hb11.trans (hbutz.below hl11)).mono hb10.size))
  have FZ := hide (F10.out.below (hb11.trans (hbutz.below hl11)))
  have DZ := hide (D9.out.below YZ.out)
  have EZ := hide (E9.out.below YZ.out)
  have PZ := hide (P9.out.on YZ.out)
  have QZ := hide (Q9.out.on YZ.out)
  have RZ := hide hrz
  have G4 := hide (G49.out.on YZ.out)
  have G5 := hide (G59.out.on YZ.out)
  have BZ := hide (on_below B9.out YZ.out)
  clear hb10 hr11 hl11 hb11 hrz hbutz YZ F10 D9 E9 P9 Q9 G49 G59 B9
  have KZ := hide (HK.out.below BZ.out HK.out.lt)
  have IX := hide (HX.out.below BZ.out)
  have IY := hide (HY.out.below BZ.out)
  have SZ := hide (HS.out.below BZ.out)
  obtain ⟨p0, p1, p2, p3⟩ := pf_at PZ.out
  obtain ⟨q0, q1, q2, q3⟩ := pf_at QZ.out
  obtain ⟨r0, r1, r2, r3⟩ := pf_at RZ.out
  by_cases h1 : Ep = 0
  rotate_left
  · have h1' : (Ep != 0) = true := by simpa using h1
    go_wp2
    go_ret
    exact ⟨rfl, BZ.out⟩
  subst h1
  by_cases h2 : Eq = 0
  rotate_left
  · have h2' : (Eq != 0) = true := by simpa using h2
    go_wp2
    go_ret
    exact ⟨rfl, BZ.out⟩
  subst h2
  by_cases h3 : Er = 0
  rotate_left
  · have h3' : (Er != 0) = true := by simpa using h3
    go_wp2
    go_ret
    exact ⟨rfl, BZ.out⟩
  subst h3
  by_cases h4 : fq = fr
  rotate_left
  · have h4' : (fq != fr) = true := by simpa using h4
    go_wp2
    go_ret
    exact ⟨rfl, BZ.out⟩
  subst h4
  by_cases h5 : sq = fp
  rotate_left
  · have h5' : (sq != fp) = true := by simpa using h5
    go_wp2
    go_ret
    exact ⟨rfl, BZ.out⟩
  subst h5
  by_cases h6 : sr = sp
  rotate_left
  · have h6' : (sr != sp) = true := by simpa using h6
    go_wp2
    go_ret
    exact ⟨rfl, BZ.out⟩
  subst h6
  obtain ⟨A, HA⟩ : ∃ A, Hid (A = ckR 0 kp 2 (conE X.R Y.R sq sr np yp)) := ⟨_, hide rfl⟩
  obtain ⟨B, HB⟩ : ∃ A, Hid (A = ckR 0 kq 1 (incE dX fq sq nq yq X.R)) := ⟨_, hide rfl⟩
  obtain ⟨C, HC⟩ : ∃ A, Hid (A = ckR 0 kr 1 (incE dY fq sr nr yr Y.R)) := ⟨_, hide rfl⟩
  have HCK : Hid (∀ v : World, Below z.heap.size z v → Calls Tryd.prog 21 #[.slice a len cap, .agg (u8s X.R).toArray, .agg (u8s Y.R).toArray] v fun r w' => r = .returned (.int .i64 A) ∧ Below v.heap.size v w') := hide (fun v hv => by
    rw [HA.out]
    exact check2_any DP.out X.R Y.R _ a len cap v (SZ.out.below hv) LX.out LY.out (fun va vc V hV hd => conP X.R Y.R sq sr va np vc yp V LX.out BX.out LY.out hd ((KZ.out.below hv KZ.out.lt).below hV (KZ.out.below hv KZ.out.lt).lt)))
  have HCX : Hid (∀ v : World, Below z.heap.size z v → Calls Tryd.prog 22 #[.slice X.ap X.lp X.cp, .agg (u8s dX).toArray, .agg (u8s X.R).toArray] v fun r w' => r = .returned (.int .i64 B) ∧ Below v.heap.size v w') := hide (fun v hv => by
    rw [HB.out]
    exact check_any DQ.out dX X.R _ _ _ _ v (IX.out.below hv).sp LDX.out LX.out (fun va vc V hV hd => incP dX X.R fq sq va nq vc yq V LDX.out BDX.out LX.out hd ((KZ.out.below hv KZ.out.lt).below hV (KZ.out.below hv KZ.out.lt).lt)))
  have HCY : Hid (∀ v : World, Below z.heap.size z v → Calls Tryd.prog 22 #[.slice Y.ap Y.lp Y.cp, .agg (u8s dY).toArray, .agg (u8s Y.R).toArray] v fun r w' => r = .returned (.int .i64 C) ∧ Below v.heap.size v w') := hide (fun v hv => by
    rw [HC.out]
    exact check_any DR.out dY Y.R _ _ _ _ v (IY.out.below hv).sp LDY.out LY.out (fun va vc V hV hd => incP dY Y.R fq sr va nr vc yr V LDY.out BDY.out LY.out hd ((KZ.out.below hv KZ.out.lt).below hV (KZ.out.below hv KZ.out.lt).lt)))
  by_cases hA : A = 0
  rotate_left
  · have hA' : (A != 0) = true := by simpa using hA
    have HU : Hid ((Tryd.prog.info? 23).map (·.size) = some (u8s X.R).length) := hide (by rw [wD.size, u8s_length, LX.out])
    have HV : Hid ((Tryd.prog.info? 23).map (·.size) = some (u8s Y.R).length) := hide (by rw [wD.size, u8s_length, LY.out])
    have hu := aD.und
    go_wp2_with fail
    refine wp_region_noPanic ?_
    have Z0 := hide ((Below.refl z.heap.size z).drew)
    refine wp_region_held_drew (S := fun v : World => Below z.heap.size z v) (by kernel_rfl) Z0.out (fun hHeld => ?_)
    refine takeH 0 67 (.slice a len cap) hHeld rfl rfl (by kernel_rfl) (by kernel_rfl) (by kernel_rfl) (fun _ _ _ h => h) (Or.inl ⟨by rfl, fun w _ => by go_simp⟩) ?_
    simp only [Act.put, List.setIfInBounds_toArray, List.set_cons_zero, List.set_cons_succ]
    refine takeH 1 68 (.pointer (some ⟨g4, 2, none⟩)) hHeld rfl rfl (by kernel_rfl) (by kernel_rfl) (by kernel_rfl) (fun _ _ _ h => h) (Or.inl ⟨by rfl, fun w _ => by go_simp⟩) ?_
    simp only [Act.put, List.setIfInBounds_toArray, List.set_cons_zero, List.set_cons_succ]
    refine takeH 2 69 (.agg (u8s X.R).toArray) hHeld rfl rfl (by kernel_rfl) (by kernel_rfl) (by kernel_rfl) (fun _ _ _ h => h) (yieldsIf_load_mid (by rfl) _ _ rfl g4 2 rfl _ _ (fun v hv => Sv.range (G4.out.on hv) LX.out) hu rfl HU.out) ?_
    simp only [Act.put, List.setIfInBounds_toArray, List.set_cons_zero, List.set_cons_succ]
    refine takeH 3 70 (.pointer (some ⟨g5, 2, none⟩)) hHeld rfl rfl (by kernel_rfl) (by kernel_rfl) (by kernel_rfl) (fun _ _ _ h => h) (Or.inl ⟨by rfl, fun w _ => by go_simp⟩) ?_
    simp only [Act.put, List.setIfInBounds_toArray, List.set_cons_zero, List.set_cons_succ]
    refine takeH 4 71 (.agg (u8s Y.R).toArray) hHeld rfl rfl (by kernel_rfl) (by kernel_rfl) (by kernel_rfl) (fun _ _ _ h => h) (yieldsIf_load_mid (by rfl) _ _ rfl g5 2 rfl _ _ (fun v hv => Sv.range (G5.out.on hv) LY.out) hu rfl HV.out) ?_
    simp only [Act.put, List.setIfInBounds_toArray, List.set_cons_zero, List.set_cons_succ]
    refine wpAnyH_ready (rs := [5]) (by kernel_rfl) (by simp) (AllReadyH.cons rfl (fun K hK => ?_) AllReadyH.nil)
    rw [if_pos (by rfl)]
    go_simp
    refine (HCK.out _ Z0.out).mono ?_
    rintro e v1 ⟨rfl, hv1⟩
    have Z1 := hide (Z0.out.trans (hv1.mono Z0.out.size))
    refine hK.out _ _ Z1.out (fun hHeld => ?_)
    clear hK K
    refine takeH 6 73 (.bool true) hHeld rfl rfl (by kernel_rfl) (by kernel_rfl) (by kernel_rfl) (fun _ _ _ h => h) (Or.inl ⟨by rfl, fun w _ => by go_simp⟩) ?_
    simp only [Act.put, List.setIfInBounds_toArray, List.set_cons_zero, List.set_cons_succ]
    refine takeH 7 74 (.bool true) hHeld rfl rfl (by kernel_rfl) (by kernel_rfl) (by kernel_rfl) (fun _ _ _ h => h) (Or.inl ⟨by rfl, fun w _ => by go_simp⟩) ?_
    simp only [Act.put, List.setIfInBounds_toArray, List.set_cons_zero, List.set_cons_succ]
    refine takeH 8 75 undef hHeld rfl rfl (by kernel_rfl) (by kernel_rfl) (by kernel_rfl) (fun _ _ _ h => h) (Or.inr ⟨by rfl, rfl⟩) ?_
    simp only [Act.put, List.setIfInBounds_toArray, List.set_cons_zero, List.set_cons_succ]
    refine takeH 9 76 undef hHeld rfl rfl (by kernel_rfl) (by kernel_rfl) (by kernel_rfl) (fun _ _ _ h => h) (Or.inr ⟨by rfl, rfl⟩) ?_
    simp only [Act.put, List.setIfInBounds_toArray, List.set_cons_zero, List.set_cons_succ]
    refine takeH 10 77 undef hHeld rfl rfl (by kernel_rfl) (by kernel_rfl) (by kernel_rfl) (fun _ _ _ h => h) (Or.inr ⟨by rfl, rfl⟩) ?_
    simp only [Act.put, List.setIfInBounds_toArray, List.set_cons_zero, List.set_cons_succ]
    refine takeH 11 78 undef hHeld rfl rfl (by kernel_rfl) (by kernel_rfl) (by kernel_rfl) (fun _ _ _ h => h) (Or.inr ⟨by rfl, rfl⟩) ?_
    simp only [Act.put, List.setIfInBounds_toArray, List.set_cons_zero, List.set_cons_succ]
    refine takeH 12 79 undef hHeld rfl rfl (by kernel_rfl) (by kernel_rfl) (by kernel_rfl) (fun _ _ _ h => h) (Or.inr ⟨by rfl, rfl⟩) ?_
    simp only [Act.put, List.setIfInBounds_toArray, List.set_cons_zero, List.set_cons_succ]
    refine takeH 13 80 undef hHeld rfl rfl (by kernel_rfl) (by kernel_rfl) (by kernel_rfl) (fun _ _ _ h => h) (Or.inr ⟨by rfl, rfl⟩) ?_
    simp only [Act.put, List.setIfInBounds_toArray, List.set_cons_zero, List.set_cons_succ]
    refine takeH 14 81 undef hHeld rfl rfl (by kernel_rfl) (by kernel_rfl) (by kernel_rfl) (fun _ _ _ h => h) (Or.inr ⟨by rfl, rfl⟩) ?_
    simp only [Act.put, List.setIfInBounds_toArray, List.set_cons_zero, List.set_cons_succ]
    refine takeH 15 82 undef hHeld rfl rfl (by kernel_rfl) (by kernel_rfl) (by kernel_rfl) (fun _ _ _ h => h) (Or.inr ⟨by rfl, rfl⟩) ?_
    simp only [Act.put, List.setIfInBounds_toArray, List.set_cons_zero, List.set_cons_succ]
    refine takeH 16 83 undef hHeld rfl rfl (by kernel_rfl) (by kernel_rfl) (by kernel_rfl) (fun _ _ _ h => h) (Or.inr ⟨by rfl, rfl⟩) ?_
    simp only [Act.put, List.setIfInBounds_toArray, List.set_cons_zero, List.set_cons_succ]
    refine takeH 17 84 (.bool true) hHeld rfl rfl (by kernel_rfl) (by kernel_rfl) (by kernel_rfl) (fun _ _ _ h => h) (Or.inl ⟨by rfl, fun w _ => by go_simp⟩) ?_
    simp only [Act.put, List.setIfInBounds_toArray, List.set_cons_zero, List.set_cons_succ]
    refine takeH 18 85 (.bool true) hHeld rfl rfl (by kernel_rfl) (by kernel_rfl) (by kernel_rfl) (fun _ _ _ h => h) (Or.inl ⟨by rfl, fun w _ => by go_simp⟩) ?_
    simp only [Act.put, List.setIfInBounds_toArray, List.set_cons_zero, List.set_cons_succ]
    refine takeH 19 86 undef hHeld rfl rfl (by kernel_rfl) (by kernel_rfl) (by kernel_rfl) (fun _ _ _ h => h) (Or.inr ⟨by rfl, rfl⟩) ?_
    simp only [Act.put, List.setIfInBounds_toArray, List.set_cons_zero, List.set_cons_succ]
    refine takeH 20 87 undef hHeld rfl rfl (by kernel_rfl) (by kernel_rfl) (by kernel_rfl) (fun _ _ _ h => h) (Or.inr ⟨by rfl, rfl⟩) ?_
    simp only [Act.put, List.setIfInBounds_toArray, List.set_cons_zero, List.set_cons_succ]
    refine takeH 21 88 undef hHeld rfl rfl (by kernel_rfl) (by kernel_rfl) (by kernel_rfl) (fun _ _ _ h => h) (Or.inr ⟨by rfl, rfl⟩) ?_
    simp only [Act.put, List.setIfInBounds_toArray, List.set_cons_zero, List.set_cons_succ]
    refine takeH 22 89 undef hHeld rfl rfl (by kernel_rfl) (by kernel_rfl) (by kernel_rfl) (fun _ _ _ h => h) (Or.inr ⟨by rfl, rfl⟩) ?_
    simp only [Act.put, List.setIfInBounds_toArray, List.set_cons_zero, List.set_cons_succ]
    refine takeH 23 90 undef hHeld rfl rfl (by kernel_rfl) (by kernel_rfl) (by kernel_rfl) (fun _ _ _ h => h) (Or.inr ⟨by rfl, rfl⟩) ?_
    simp only [Act.put, List.setIfInBounds_toArray, List.set_cons_zero, List.set_cons_succ]
    refine takeH 24 91 undef hHeld rfl rfl (by kernel_rfl) (by kernel_rfl) (by kernel_rfl) (fun _ _ _ h => h) (Or.inr ⟨by rfl, rfl⟩) ?_
    simp only [Act.put, List.setIfInBounds_toArray, List.set_cons_zero, List.set_cons_succ]
    refine takeH 25 92 undef hHeld rfl rfl (by kernel_rfl) (by kernel_rfl) (by kernel_rfl) (fun _ _ _ h => h) (Or.inr ⟨by rfl, rfl⟩) ?_
    simp only [Act.put, List.setIfInBounds_toArray, List.set_cons_zero, List.set_cons_succ]
    refine takeH 26 93 undef hHeld rfl rfl (by kernel_rfl) (by kernel_rfl) (by kernel_rfl) (fun _ _ _ h => h) (Or.inr ⟨by rfl, rfl⟩) ?_
    simp only [Act.put, List.setIfInBounds_toArray, List.set_cons_zero, List.set_cons_succ]
    refine takeH 27 94 undef hHeld rfl rfl (by kernel_rfl) (by kernel_rfl) (by kernel_rfl) (fun _ _ _ h => h) (Or.inr ⟨by rfl, rfl⟩) ?_
    simp only [Act.put, List.setIfInBounds_toArray, List.set_cons_zero, List.set_cons_succ]
    refine takeH 28 95 (.bool true) hHeld rfl rfl (by kernel_rfl) (by kernel_rfl) (by kernel_rfl) (fun _ _ _ h => h) (Or.inl ⟨by rfl, fun w _ => by go_simp⟩) ?_
    simp only [Act.put, List.setIfInBounds_toArray, List.set_cons_zero, List.set_cons_succ]
    refine wpAnyH_done (by kernel_rfl) ?_ _
    refine NoPanic.normal ?_
    clear hHeld hu
    go_wp2
    go_ret
    exact ⟨rfl, on_below BZ.out Z1.out⟩
  subst hA
  by_cases hB : B = 0
  rotate_left
  · have hB' : (B != 0) = true := by simpa using hB
    have HU : Hid ((Tryd.prog.info? 23).map (·.size) = some (u8s X.R).length) := hide (by rw [wD.size, u8s_length, LX.out])
    have HV : Hid ((Tryd.prog.info? 23).map (·.size) = some (u8s Y.R).length) := hide (by rw [wD.size, u8s_length, LY.out])
    have hu := aD.und
    go_wp2_with fail
    refine wp_region_noPanic ?_
    have Z0 := hide ((Below.refl z.heap.size z).drew)
    refine wp_region_held_drew (S := fun v : World => Below z.heap.size z v) (by kernel_rfl) Z0.out (fun hHeld => ?_)
    refine takeH 0 67 (.slice a len cap) hHeld rfl rfl (by kernel_rfl) (by kernel_rfl) (by kernel_rfl) (fun _ _ _ h => h) (Or.inl ⟨by rfl, fun w _ => by go_simp⟩) ?_
    simp only [Act.put, List.setIfInBounds_toArray, List.set_cons_zero, List.set_cons_succ]
    refine takeH 1 68 (.pointer (some ⟨g4, 2, none⟩)) hHeld rfl rfl (by kernel_rfl) (by kernel_rfl) (by kernel_rfl) (fun _ _ _ h => h) (Or.inl ⟨by rfl, fun w _ => by go_simp⟩) ?_
    simp only [Act.put, List.setIfInBounds_toArray, List.set_cons_zero, List.set_cons_succ]
    refine takeH 2 69 (.agg (u8s X.R).toArray) hHeld rfl rfl (by kernel_rfl) (by kernel_rfl) (by kernel_rfl) (fun _ _ _ h => h) (yieldsIf_load_mid (by rfl) _ _ rfl g4 2 rfl _ _ (fun v hv => Sv.range (G4.out.on hv) LX.out) hu rfl HU.out) ?_
    simp only [Act.put, List.setIfInBounds_toArray, List.set_cons_zero, List.set_cons_succ]
    refine takeH 3 70 (.pointer (some ⟨g5, 2, none⟩)) hHeld rfl rfl (by kernel_rfl) (by kernel_rfl) (by kernel_rfl) (fun _ _ _ h => h) (Or.inl ⟨by rfl, fun w _ => by go_simp⟩) ?_
    simp only [Act.put, List.setIfInBounds_toArray, List.set_cons_zero, List.set_cons_succ]
    refine takeH 4 71 (.agg (u8s Y.R).toArray) hHeld rfl rfl (by kernel_rfl) (by kernel_rfl) (by kernel_rfl) (fun _ _ _ h => h) (yieldsIf_load_mid (by rfl) _ _ rfl g5 2 rfl _ _ (fun v hv => Sv.range (G5.out.on hv) LY.out) hu rfl HV.out) ?_
    simp only [Act.put, List.setIfInBounds_toArray, List.set_cons_zero, List.set_cons_succ]
    refine wpAnyH_ready (rs := [5]) (by kernel_rfl) (by simp) (AllReadyH.cons rfl (fun K hK => ?_) AllReadyH.nil)
    rw [if_pos (by rfl)]
    go_simp
    refine (HCK.out _ Z0.out).mono ?_
    rintro e v1 ⟨rfl, hv1⟩
    have Z1 := hide (Z0.out.trans (hv1.mono Z0.out.size))
    refine hK.out _ _ Z1.out (fun hHeld => ?_)
    clear hK K
    refine takeH 6 73 (.bool false) hHeld rfl rfl (by kernel_rfl) (by kernel_rfl) (by kernel_rfl) (fun _ _ _ h => h) (Or.inl ⟨by rfl, fun w _ => by go_simp⟩) ?_
    simp only [Act.put, List.setIfInBounds_toArray, List.set_cons_zero, List.set_cons_succ]
    refine takeH 7 74 (.bool false) hHeld rfl rfl (by kernel_rfl) (by kernel_rfl) (by kernel_rfl) (fun _ _ _ h => h) (Or.inl ⟨by rfl, fun w _ => by go_simp⟩) ?_
    simp only [Act.put, List.setIfInBounds_toArray, List.set_cons_zero, List.set_cons_succ]
    refine takeH 8 75 (.pointer (some ⟨g4, 1, none⟩)) hHeld rfl rfl (by kernel_rfl) (by kernel_rfl) (by kernel_rfl) (fun _ _ _ h => h) (Or.inl ⟨by rfl, fun w _ => by go_simp⟩) ?_
    simp only [Act.put, List.setIfInBounds_toArray, List.set_cons_zero, List.set_cons_succ]
    refine takeH 9 76 (.slice X.ap X.lp X.cp) hHeld rfl rfl (by kernel_rfl) (by kernel_rfl) (by kernel_rfl) (fun _ _ _ h => h) (Or.inl ⟨by rfl, fun w hw => by have hw' : w.cell? ⟨g4, 1, none⟩ = some (.slice X.ap X.lp X.cp) := (fun hw => Sv.proof (G4.out.on hw)) hw; go_simp⟩) ?_
    simp only [Act.put, List.setIfInBounds_toArray, List.set_cons_zero, List.set_cons_succ]
    refine takeH 10 77 (.pointer (some ⟨g4, 0, none⟩)) hHeld rfl rfl (by kernel_rfl) (by kernel_rfl) (by kernel_rfl) (fun _ _ _ h => h) (Or.inl ⟨by rfl, fun w _ => by go_simp⟩) ?_
    simp only [Act.put, List.setIfInBounds_toArray, List.set_cons_zero, List.set_cons_succ]
    refine takeH 11 78 (.slice X.al X.ll X.cl) hHeld rfl rfl (by kernel_rfl) (by kernel_rfl) (by kernel_rfl) (fun _ _ _ h => h) (Or.inl ⟨by rfl, fun w hw => by have hw' : w.cell? ⟨g4, 0, none⟩ = some (.slice X.al X.ll X.cl) := (fun hw => Sv.leaf (G4.out.on hw)) hw; go_simp⟩) ?_
    simp only [Act.put, List.setIfInBounds_toArray, List.set_cons_zero, List.set_cons_succ]
    refine takeH 13 80 (.pointer (some ⟨g4, 2, none⟩)) hHeld rfl rfl (by kernel_rfl) (by kernel_rfl) (by kernel_rfl) (fun _ _ _ h => h) (Or.inl ⟨by rfl, fun w _ => by go_simp⟩) ?_
    simp only [Act.put, List.setIfInBounds_toArray, List.set_cons_zero, List.set_cons_succ]
    refine takeH 14 81 (.agg (u8s X.R).toArray) hHeld rfl rfl (by kernel_rfl) (by kernel_rfl) (by kernel_rfl) (fun _ _ _ h => h) (yieldsIf_load_mid (by rfl) _ _ rfl g4 2 rfl _ _ (fun v hv => Sv.range (G4.out.on hv) LX.out) hu rfl HU.out) ?_
    simp only [Act.put, List.setIfInBounds_toArray, List.set_cons_zero, List.set_cons_succ]
    refine wpAnyH_ready (rs := [12]) (by kernel_rfl) (by simp) (AllReadyH.cons rfl (fun K hK => ?_) AllReadyH.nil)
    rw [if_pos (by rfl)]
    go_simp
    refine (leaf_any _ _ _ X.L _ (IX.out.below Z1.out).sl IX.out.hl (KZ.out.below Z1.out KZ.out.lt)).mono ?_
    rintro e v2 ⟨rfl, hv2⟩
    rw [← HDX.out]
    have Z2 := hide (Z1.out.trans (hv2.mono Z1.out.size))
    refine hK.out _ _ Z2.out (fun hHeld => ?_)
    clear hK K
    refine wpAnyH_ready (rs := [15]) (by kernel_rfl) (by simp) (AllReadyH.cons rfl (fun K hK => ?_) AllReadyH.nil)
    rw [if_pos (by rfl)]
    go_simp
    refine (HCX.out _ Z2.out).mono ?_
    rintro e v3 ⟨rfl, hv3⟩
    have Z3 := hide (Z2.out.trans (hv3.mono Z2.out.size))
    refine hK.out _ _ Z3.out (fun hHeld => ?_)
    clear hK K
    refine takeH 16 83 (.bool true) hHeld rfl rfl (by kernel_rfl) (by kernel_rfl) (by kernel_rfl) (fun _ _ _ h => h) (Or.inl ⟨by rfl, fun w _ => by go_simp⟩) ?_
    simp only [Act.put, List.setIfInBounds_toArray, List.set_cons_zero, List.set_cons_succ]
    refine takeH 17 84 (.bool true) hHeld rfl rfl (by kernel_rfl) (by kernel_rfl) (by kernel_rfl) (fun _ _ _ h => h) (Or.inl ⟨by rfl, fun w _ => by go_simp⟩) ?_
    simp only [Act.put, List.setIfInBounds_toArray, List.set_cons_zero, List.set_cons_succ]
    refine takeH 18 85 (.bool true) hHeld rfl rfl (by kernel_rfl) (by kernel_rfl) (by kernel_rfl) (fun _ _ _ h => h) (Or.inl ⟨by rfl, fun w _ => by go_simp⟩) ?_
    simp only [Act.put, List.setIfInBounds_toArray, List.set_cons_zero, List.set_cons_succ]
    refine takeH 19 86 undef hHeld rfl rfl (by kernel_rfl) (by kernel_rfl) (by kernel_rfl) (fun _ _ _ h => h) (Or.inr ⟨by rfl, rfl⟩) ?_
    simp only [Act.put, List.setIfInBounds_toArray, List.set_cons_zero, List.set_cons_succ]
    refine takeH 20 87 undef hHeld rfl rfl (by kernel_rfl) (by kernel_rfl) (by kernel_rfl) (fun _ _ _ h => h) (Or.inr ⟨by rfl, rfl⟩) ?_
    simp only [Act.put, List.setIfInBounds_toArray, List.set_cons_zero, List.set_cons_succ]
    refine takeH 21 88 undef hHeld rfl rfl (by kernel_rfl) (by kernel_rfl) (by kernel_rfl) (fun _ _ _ h => h) (Or.inr ⟨by rfl, rfl⟩) ?_
    simp only [Act.put, List.setIfInBounds_toArray, List.set_cons_zero, List.set_cons_succ]
    refine takeH 22 89 undef hHeld rfl rfl (by kernel_rfl) (by kernel_rfl) (by kernel_rfl) (fun _ _ _ h => h) (Or.inr ⟨by rfl, rfl⟩) ?_
    simp only [Act.put, List.setIfInBounds_toArray, List.set_cons_zero, List.set_cons_succ]
    refine takeH 23 90 undef hHeld rfl rfl (by kernel_rfl) (by kernel_rfl) (by kernel_rfl) (fun _ _ _ h => h) (Or.inr ⟨by rfl, rfl⟩) ?_
    simp only [Act.put, List.setIfInBounds_toArray, List.set_cons_zero, List.set_cons_succ]
    refine takeH 24 91 undef hHeld rfl rfl (by kernel_rfl) (by kernel_rfl) (by kernel_rfl) (fun _ _ _ h => h) (Or.inr ⟨by rfl, rfl⟩) ?_
    simp only [Act.put, List.setIfInBounds_toArray, List.set_cons_zero, List.set_cons_succ]
    refine takeH 25 92 undef hHeld rfl rfl (by kernel_rfl) (by kernel_rfl) (by kernel_rfl) (fun _ _ _ h => h) (Or.inr ⟨by rfl, rfl⟩) ?_
    simp only [Act.put, List.setIfInBounds_toArray, List.set_cons_zero, List.set_cons_succ]
    refine takeH 26 93 undef hHeld rfl rfl (by kernel_rfl) (by kernel_rfl) (by kernel_rfl) (fun _ _ _ h => h) (Or.inr ⟨by rfl, rfl⟩) ?_
    simp only [Act.put, List.setIfInBounds_toArray, List.set_cons_zero, List.set_cons_succ]
    refine takeH 27 94 undef hHeld rfl rfl (by kernel_rfl) (by kernel_rfl) (by kernel_rfl) (fun _ _ _ h => h) (Or.inr ⟨by rfl, rfl⟩) ?_
    simp only [Act.put, List.setIfInBounds_toArray, List.set_cons_zero, List.set_cons_succ]
    refine takeH 28 95 (.bool true) hHeld rfl rfl (by kernel_rfl) (by kernel_rfl) (by kernel_rfl) (fun _ _ _ h => h) (Or.inl ⟨by rfl, fun w _ => by go_simp⟩) ?_
    simp only [Act.put, List.setIfInBounds_toArray, List.set_cons_zero, List.set_cons_succ]
    refine wpAnyH_done (by kernel_rfl) ?_ _
    refine NoPanic.normal ?_
    clear hHeld hu
    go_wp2
    go_ret
    exact ⟨rfl, on_below BZ.out Z3.out⟩
  subst hB
  by_cases hC : C = 0
  rotate_left
  · have hC' : (C != 0) = true := by simpa using hC
    have HU : Hid ((Tryd.prog.info? 23).map (·.size) = some (u8s X.R).length) := hide (by rw [wD.size, u8s_length, LX.out])
    have HV : Hid ((Tryd.prog.info? 23).map (·.size) = some (u8s Y.R).length) := hide (by rw [wD.size, u8s_length, LY.out])
    have hu := aD.und
    go_wp2_with fail
    refine wp_region_noPanic ?_
    have Z0 := hide ((Below.refl z.heap.size z).drew)
    refine wp_region_held_drew (S := fun v : World => Below z.heap.size z v) (by kernel_rfl) Z0.out (fun hHeld => ?_)
    refine takeH 0 67 (.slice a len cap) hHeld rfl rfl (by kernel_rfl) (by kernel_rfl) (by kernel_rfl) (fun _ _ _ h => h) (Or.inl ⟨by rfl, fun w _ => by go_simp⟩) ?_
    simp only [Act.put, List.setIfInBounds_toArray, List.set_cons_zero, List.set_cons_succ]
    refine takeH 1 68 (.pointer (some ⟨g4, 2, none⟩)) hHeld rfl rfl (by kernel_rfl) (by kernel_rfl) (by kernel_rfl) (fun _ _ _ h => h) (Or.inl ⟨by rfl, fun w _ => by go_simp⟩) ?_
    simp only [Act.put, List.setIfInBounds_toArray, List.set_cons_zero, List.set_cons_succ]
    refine takeH 2 69 (.agg (u8s X.R).toArray) hHeld rfl rfl (by kernel_rfl) (by kernel_rfl) (by kernel_rfl) (fun _ _ _ h => h) (yieldsIf_load_mid (by rfl) _ _ rfl g4 2 rfl _ _ (fun v hv => Sv.range (G4.out.on hv) LX.out) hu rfl HU.out) ?_
    simp only [Act.put, List.setIfInBounds_toArray, List.set_cons_zero, List.set_cons_succ]
    refine takeH 3 70 (.pointer (some ⟨g5, 2, none⟩)) hHeld rfl rfl (by kernel_rfl) (by kernel_rfl) (by kernel_rfl) (fun _ _ _ h => h) (Or.inl ⟨by rfl, fun w _ => by go_simp⟩) ?_
    simp only [Act.put, List.setIfInBounds_toArray, List.set_cons_zero, List.set_cons_succ]
    refine takeH 4 71 (.agg (u8s Y.R).toArray) hHeld rfl rfl (by kernel_rfl) (by kernel_rfl) (by kernel_rfl) (fun _ _ _ h => h) (yieldsIf_load_mid (by rfl) _ _ rfl g5 2 rfl _ _ (fun v hv => Sv.range (G5.out.on hv) LY.out) hu rfl HV.out) ?_
    simp only [Act.put, List.setIfInBounds_toArray, List.set_cons_zero, List.set_cons_succ]
    refine wpAnyH_ready (rs := [5]) (by kernel_rfl) (by simp) (AllReadyH.cons rfl (fun K hK => ?_) AllReadyH.nil)
    rw [if_pos (by rfl)]
    go_simp
    refine (HCK.out _ Z0.out).mono ?_
    rintro e v1 ⟨rfl, hv1⟩
    have Z1 := hide (Z0.out.trans (hv1.mono Z0.out.size))
    refine hK.out _ _ Z1.out (fun hHeld => ?_)
    clear hK K
    refine takeH 6 73 (.bool false) hHeld rfl rfl (by kernel_rfl) (by kernel_rfl) (by kernel_rfl) (fun _ _ _ h => h) (Or.inl ⟨by rfl, fun w _ => by go_simp⟩) ?_
    simp only [Act.put, List.setIfInBounds_toArray, List.set_cons_zero, List.set_cons_succ]
    refine takeH 7 74 (.bool false) hHeld rfl rfl (by kernel_rfl) (by kernel_rfl) (by kernel_rfl) (fun _ _ _ h => h) (Or.inl ⟨by rfl, fun w _ => by go_simp⟩) ?_
    simp only [Act.put, List.setIfInBounds_toArray, List.set_cons_zero, List.set_cons_succ]
    refine takeH 8 75 (.pointer (some ⟨g4, 1, none⟩)) hHeld rfl rfl (by kernel_rfl) (by kernel_rfl) (by kernel_rfl) (fun _ _ _ h => h) (Or.inl ⟨by rfl, fun w _ => by go_simp⟩) ?_
    simp only [Act.put, List.setIfInBounds_toArray, List.set_cons_zero, List.set_cons_succ]
    refine takeH 9 76 (.slice X.ap X.lp X.cp) hHeld rfl rfl (by kernel_rfl) (by kernel_rfl) (by kernel_rfl) (fun _ _ _ h => h) (Or.inl ⟨by rfl, fun w hw => by have hw' : w.cell? ⟨g4, 1, none⟩ = some (.slice X.ap X.lp X.cp) := (fun hw => Sv.proof (G4.out.on hw)) hw; go_simp⟩) ?_
    simp only [Act.put, List.setIfInBounds_toArray, List.set_cons_zero, List.set_cons_succ]
    refine takeH 10 77 (.pointer (some ⟨g4, 0, none⟩)) hHeld rfl rfl (by kernel_rfl) (by kernel_rfl) (by kernel_rfl) (fun _ _ _ h => h) (Or.inl ⟨by rfl, fun w _ => by go_simp⟩) ?_
    simp only [Act.put, List.setIfInBounds_toArray, List.set_cons_zero, List.set_cons_succ]
    refine takeH 11 78 (.slice X.al X.ll X.cl) hHeld rfl rfl (by kernel_rfl) (by kernel_rfl) (by kernel_rfl) (fun _ _ _ h => h) (Or.inl ⟨by rfl, fun w hw => by have hw' : w.cell? ⟨g4, 0, none⟩ = some (.slice X.al X.ll X.cl) := (fun hw => Sv.leaf (G4.out.on hw)) hw; go_simp⟩) ?_
    simp only [Act.put, List.setIfInBounds_toArray, List.set_cons_zero, List.set_cons_succ]
    refine takeH 13 80 (.pointer (some ⟨g4, 2, none⟩)) hHeld rfl rfl (by kernel_rfl) (by kernel_rfl) (by kernel_rfl) (fun _ _ _ h => h) (Or.inl ⟨by rfl, fun w _ => by go_simp⟩) ?_
    simp only [Act.put, List.setIfInBounds_toArray, List.set_cons_zero, List.set_cons_succ]
    refine takeH 14 81 (.agg (u8s X.R).toArray) hHeld rfl rfl (by kernel_rfl) (by kernel_rfl) (by kernel_rfl) (fun _ _ _ h => h) (yieldsIf_load_mid (by rfl) _ _ rfl g4 2 rfl _ _ (fun v hv => Sv.range (G4.out.on hv) LX.out) hu rfl HU.out) ?_
    simp only [Act.put, List.setIfInBounds_toArray, List.set_cons_zero, List.set_cons_succ]
    refine wpAnyH_ready (rs := [12]) (by kernel_rfl) (by simp) (AllReadyH.cons rfl (fun K hK => ?_) AllReadyH.nil)
    rw [if_pos (by rfl)]
    go_simp
    refine (leaf_any _ _ _ X.L _ (IX.out.below Z1.out).sl IX.out.hl (KZ.out.below Z1.out KZ.out.lt)).mono ?_
    rintro e v2 ⟨rfl, hv2⟩
    rw [← HDX.out]
    have Z2 := hide (Z1.out.trans (hv2.mono Z1.out.size))
    refine hK.out _ _ Z2.out (fun hHeld => ?_)
    clear hK K
    refine wpAnyH_ready (rs := [15]) (by kernel_rfl) (by simp) (AllReadyH.cons rfl (fun K hK => ?_) AllReadyH.nil)
    rw [if_pos (by rfl)]
    go_simp
    refine (HCX.out _ Z2.out).mono ?_
    rintro e v3 ⟨rfl, hv3⟩
    have Z3 := hide (Z2.out.trans (hv3.mono Z2.out.size))
    refine hK.out _ _ Z3.out (fun hHeld => ?_)
    clear hK K
    refine takeH 16 83 (.bool false) hHeld rfl rfl (by kernel_rfl) (by kernel_rfl) (by kernel_rfl) (fun _ _ _ h => h) (Or.inl ⟨by rfl, fun w _ => by go_simp⟩) ?_
    simp only [Act.put, List.setIfInBounds_toArray, List.set_cons_zero, List.set_cons_succ]
    refine takeH 17 84 (.bool false) hHeld rfl rfl (by kernel_rfl) (by kernel_rfl) (by kernel_rfl) (fun _ _ _ h => h) (Or.inl ⟨by rfl, fun w _ => by go_simp⟩) ?_
    simp only [Act.put, List.setIfInBounds_toArray, List.set_cons_zero, List.set_cons_succ]
    refine takeH 18 85 (.bool false) hHeld rfl rfl (by kernel_rfl) (by kernel_rfl) (by kernel_rfl) (fun _ _ _ h => h) (Or.inl ⟨by rfl, fun w _ => by go_simp⟩) ?_
    simp only [Act.put, List.setIfInBounds_toArray, List.set_cons_zero, List.set_cons_succ]
    refine takeH 19 86 (.pointer (some ⟨g5, 1, none⟩)) hHeld rfl rfl (by kernel_rfl) (by kernel_rfl) (by kernel_rfl) (fun _ _ _ h => h) (Or.inl ⟨by rfl, fun w _ => by go_simp⟩) ?_
    simp only [Act.put, List.setIfInBounds_toArray, List.set_cons_zero, List.set_cons_succ]
    refine takeH 20 87 (.slice Y.ap Y.lp Y.cp) hHeld rfl rfl (by kernel_rfl) (by kernel_rfl) (by kernel_rfl) (fun _ _ _ h => h) (Or.inl ⟨by rfl, fun w hw => by have hw' : w.cell? ⟨g5, 1, none⟩ = some (.slice Y.ap Y.lp Y.cp) := (fun hw => Sv.proof (G5.out.on hw)) hw; go_simp⟩) ?_
    simp only [Act.put, List.setIfInBounds_toArray, List.set_cons_zero, List.set_cons_succ]
    refine takeH 21 88 (.pointer (some ⟨g5, 0, none⟩)) hHeld rfl rfl (by kernel_rfl) (by kernel_rfl) (by kernel_rfl) (fun _ _ _ h => h) (Or.inl ⟨by rfl, fun w _ => by go_simp⟩) ?_
    simp only [Act.put, List.setIfInBounds_toArray, List.set_cons_zero, List.set_cons_succ]
    refine takeH 22 89 (.slice Y.al Y.ll Y.cl) hHeld rfl rfl (by kernel_rfl) (by kernel_rfl) (by kernel_rfl) (fun _ _ _ h => h) (Or.inl ⟨by rfl, fun w hw => by have hw' : w.cell? ⟨g5, 0, none⟩ = some (.slice Y.al Y.ll Y.cl) := (fun hw => Sv.leaf (G5.out.on hw)) hw; go_simp⟩) ?_
    simp only [Act.put, List.setIfInBounds_toArray, List.set_cons_zero, List.set_cons_succ]
    refine takeH 24 91 (.pointer (some ⟨g5, 2, none⟩)) hHeld rfl rfl (by kernel_rfl) (by kernel_rfl) (by kernel_rfl) (fun _ _ _ h => h) (Or.inl ⟨by rfl, fun w _ => by go_simp⟩) ?_
    simp only [Act.put, List.setIfInBounds_toArray, List.set_cons_zero, List.set_cons_succ]
    refine takeH 25 92 (.agg (u8s Y.R).toArray) hHeld rfl rfl (by kernel_rfl) (by kernel_rfl) (by kernel_rfl) (fun _ _ _ h => h) (yieldsIf_load_mid (by rfl) _ _ rfl g5 2 rfl _ _ (fun v hv => Sv.range (G5.out.on hv) LY.out) hu rfl HV.out) ?_
    simp only [Act.put, List.setIfInBounds_toArray, List.set_cons_zero, List.set_cons_succ]
    refine wpAnyH_ready (rs := [23]) (by kernel_rfl) (by simp) (AllReadyH.cons rfl (fun K hK => ?_) AllReadyH.nil)
    rw [if_pos (by rfl)]
    go_simp
    refine (leaf_any _ _ _ Y.L _ (IY.out.below Z3.out).sl IY.out.hl (KZ.out.below Z3.out KZ.out.lt)).mono ?_
    rintro e v4 ⟨rfl, hv4⟩
    rw [← HDY.out]
    have Z4 := hide (Z3.out.trans (hv4.mono Z3.out.size))
    refine hK.out _ _ Z4.out (fun hHeld => ?_)
    clear hK K
    refine wpAnyH_ready (rs := [26]) (by kernel_rfl) (by simp) (AllReadyH.cons rfl (fun K hK => ?_) AllReadyH.nil)
    rw [if_pos (by rfl)]
    go_simp
    refine (HCY.out _ Z4.out).mono ?_
    rintro e v5 ⟨rfl, hv5⟩
    have Z5 := hide (Z4.out.trans (hv5.mono Z4.out.size))
    refine hK.out _ _ Z5.out (fun hHeld => ?_)
    clear hK K
    refine takeH 27 94 (.bool true) hHeld rfl rfl (by kernel_rfl) (by kernel_rfl) (by kernel_rfl) (fun _ _ _ h => h) (Or.inl ⟨by rfl, fun w _ => by go_simp⟩) ?_
    simp only [Act.put, List.setIfInBounds_toArray, List.set_cons_zero, List.set_cons_succ]
    refine takeH 28 95 (.bool true) hHeld rfl rfl (by kernel_rfl) (by kernel_rfl) (by kernel_rfl) (fun _ _ _ h => h) (Or.inl ⟨by rfl, fun w _ => by go_simp⟩) ?_
    simp only [Act.put, List.setIfInBounds_toArray, List.set_cons_zero, List.set_cons_succ]
    refine wpAnyH_done (by kernel_rfl) ?_ _
    refine NoPanic.normal ?_
    clear hHeld hu
    go_wp2
    go_ret
    exact ⟨rfl, on_below BZ.out Z5.out⟩
  subst hC
  obtain ⟨c, HCC⟩ : ∃ c : Cv, Hid (c = Cv.mk sq sr X.R Y.R fq pa np pc yp X.al X.ll X.cl X.L Y.al Y.ll Y.cl Y.L qa nq qc yq ra nr rc yr) := ⟨_, hide rfl⟩
  have HAC : Hid (c.acc = true) := hide (by
    rw [HCC.out]
    have e1 := ckR0 HA.out.symm
    have e2 := ckR0 HB.out.symm
    have e3 := ckR0 HC.out.symm
    rw [HDX.out] at e2
    rw [HDY.out] at e3
    show ((conE X.R Y.R sq sr np yp == 0) && (incE (lf X.L) fq sq nq yq X.R == 0) && (incE (lf Y.L) fq sr nr yr Y.R == 0)) = true
    rw [e1, e2, e3]
    rfl)
  have HXL : Hid (c.X = X.L ∧ c.Y = Y.L) := hide (by rw [HCC.out]; exact ⟨rfl, rfl⟩)
  have HU : Hid ((Tryd.prog.info? 23).map (·.size) = some (u8s X.R).length) := hide (by rw [wD.size, u8s_length, LX.out])
  have HV : Hid ((Tryd.prog.info? 23).map (·.size) = some (u8s Y.R).length) := hide (by rw [wD.size, u8s_length, LY.out])
  have hu := aD.und
  go_wp2_with fail
  refine wp_region_noPanic ?_
  have Z0 := hide ((Below.refl z.heap.size z).drew)
  refine wp_region_held_drew (S := fun v : World => Below z.heap.size z v) (by kernel_rfl) Z0.out (fun hHeld => ?_)
  refine takeH 0 67 (.slice a len cap) hHeld rfl rfl (by kernel_rfl) (by kernel_rfl) (by kernel_rfl) (fun _ _ _ h => h) (Or.inl ⟨by rfl, fun w _ => by go_simp⟩) ?_
  simp only [Act.put, List.setIfInBounds_toArray, List.set_cons_zero, List.set_cons_succ]
  refine takeH 1 68 (.pointer (some ⟨g4, 2, none⟩)) hHeld rfl rfl (by kernel_rfl) (by kernel_rfl) (by kernel_rfl) (fun _ _ _ h => h) (Or.inl ⟨by rfl, fun w _ => by go_simp⟩) ?_
  simp only [Act.put, List.setIfInBounds_toArray, List.set_cons_zero, List.set_cons_succ]
  refine takeH 2 69 (.agg (u8s X.R).toArray) hHeld rfl rfl (by kernel_rfl) (by kernel_rfl) (by kernel_rfl) (fun _ _ _ h => h) (yieldsIf_load_mid (by rfl) _ _ rfl g4 2 rfl _ _ (fun v hv => Sv.range (G4.out.on hv) LX.out) hu rfl HU.out) ?_
  simp only [Act.put, List.setIfInBounds_toArray, List.set_cons_zero, List.set_cons_succ]
  refine takeH 3 70 (.pointer (some ⟨g5, 2, none⟩)) hHeld rfl rfl (by kernel_rfl) (by kernel_rfl) (by kernel_rfl) (fun _ _ _ h => h) (Or.inl ⟨by rfl, fun w _ => by go_simp⟩) ?_
  simp only [Act.put, List.setIfInBounds_toArray, List.set_cons_zero, List.set_cons_succ]
  refine takeH 4 71 (.agg (u8s Y.R).toArray) hHeld rfl rfl (by kernel_rfl) (by kernel_rfl) (by kernel_rfl) (fun _ _ _ h => h) (yieldsIf_load_mid (by rfl) _ _ rfl g5 2 rfl _ _ (fun v hv => Sv.range (G5.out.on hv) LY.out) hu rfl HV.out) ?_
  simp only [Act.put, List.setIfInBounds_toArray, List.set_cons_zero, List.set_cons_succ]
  refine wpAnyH_ready (rs := [5]) (by kernel_rfl) (by simp) (AllReadyH.cons rfl (fun K hK => ?_) AllReadyH.nil)
  rw [if_pos (by rfl)]
  go_simp
  refine (HCK.out _ Z0.out).mono ?_
  rintro e v1 ⟨rfl, hv1⟩
  have Z1 := hide (Z0.out.trans (hv1.mono Z0.out.size))
  refine hK.out _ _ Z1.out (fun hHeld => ?_)
  clear hK K
  refine takeH 6 73 (.bool false) hHeld rfl rfl (by kernel_rfl) (by kernel_rfl) (by kernel_rfl) (fun _ _ _ h => h) (Or.inl ⟨by rfl, fun w _ => by go_simp⟩) ?_
  simp only [Act.put, List.setIfInBounds_toArray, List.set_cons_zero, List.set_cons_succ]
  refine takeH 7 74 (.bool false) hHeld rfl rfl (by kernel_rfl) (by kernel_rfl) (by kernel_rfl) (fun _ _ _ h => h) (Or.inl ⟨by rfl, fun w _ => by go_simp⟩) ?_
  simp only [Act.put, List.setIfInBounds_toArray, List.set_cons_zero, List.set_cons_succ]
  refine takeH 8 75 (.pointer (some ⟨g4, 1, none⟩)) hHeld rfl rfl (by kernel_rfl) (by kernel_rfl) (by kernel_rfl) (fun _ _ _ h => h) (Or.inl ⟨by rfl, fun w _ => by go_simp⟩) ?_
  simp only [Act.put, List.setIfInBounds_toArray, List.set_cons_zero, List.set_cons_succ]
  refine takeH 9 76 (.slice X.ap X.lp X.cp) hHeld rfl rfl (by kernel_rfl) (by kernel_rfl) (by kernel_rfl) (fun _ _ _ h => h) (Or.inl ⟨by rfl, fun w hw => by have hw' : w.cell? ⟨g4, 1, none⟩ = some (.slice X.ap X.lp X.cp) := (fun hw => Sv.proof (G4.out.on hw)) hw; go_simp⟩) ?_
  simp only [Act.put, List.setIfInBounds_toArray, List.set_cons_zero, List.set_cons_succ]
  refine takeH 10 77 (.pointer (some ⟨g4, 0, none⟩)) hHeld rfl rfl (by kernel_rfl) (by kernel_rfl) (by kernel_rfl) (fun _ _ _ h => h) (Or.inl ⟨by rfl, fun w _ => by go_simp⟩) ?_
  simp only [Act.put, List.setIfInBounds_toArray, List.set_cons_zero, List.set_cons_succ]
  refine takeH 11 78 (.slice X.al X.ll X.cl) hHeld rfl rfl (by kernel_rfl) (by kernel_rfl) (by kernel_rfl) (fun _ _ _ h => h) (Or.inl ⟨by rfl, fun w hw => by have hw' : w.cell? ⟨g4, 0, none⟩ = some (.slice X.al X.ll X.cl) := (fun hw => Sv.leaf (G4.out.on hw)) hw; go_simp⟩) ?_
  simp only [Act.put, List.setIfInBounds_toArray, List.set_cons_zero, List.set_cons_succ]
  refine takeH 13 80 (.pointer (some ⟨g4, 2, none⟩)) hHeld rfl rfl (by kernel_rfl) (by kernel_rfl) (by kernel_rfl) (fun _ _ _ h => h) (Or.inl ⟨by rfl, fun w _ => by go_simp⟩) ?_
  simp only [Act.put, List.setIfInBounds_toArray, List.set_cons_zero, List.set_cons_succ]
  refine takeH 14 81 (.agg (u8s X.R).toArray) hHeld rfl rfl (by kernel_rfl) (by kernel_rfl) (by kernel_rfl) (fun _ _ _ h => h) (yieldsIf_load_mid (by rfl) _ _ rfl g4 2 rfl _ _ (fun v hv => Sv.range (G4.out.on hv) LX.out) hu rfl HU.out) ?_
  simp only [Act.put, List.setIfInBounds_toArray, List.set_cons_zero, List.set_cons_succ]
  refine wpAnyH_ready (rs := [12]) (by kernel_rfl) (by simp) (AllReadyH.cons rfl (fun K hK => ?_) AllReadyH.nil)
  rw [if_pos (by rfl)]
  go_simp
  refine (leaf_any _ _ _ X.L _ (IX.out.below Z1.out).sl IX.out.hl (KZ.out.below Z1.out KZ.out.lt)).mono ?_
  rintro e v2 ⟨rfl, hv2⟩
  rw [← HDX.out]
  have Z2 := hide (Z1.out.trans (hv2.mono Z1.out.size))
  refine hK.out _ _ Z2.out (fun hHeld => ?_)
  clear hK K
  refine wpAnyH_ready (rs := [15]) (by kernel_rfl) (by simp) (AllReadyH.cons rfl (fun K hK => ?_) AllReadyH.nil)
  rw [if_pos (by rfl)]
  go_simp
  refine (HCX.out _ Z2.out).mono ?_
  rintro e v3 ⟨rfl, hv3⟩
  have Z3 := hide (Z2.out.trans (hv3.mono Z2.out.size))
  refine hK.out _ _ Z3.out (fun hHeld => ?_)
  clear hK K
  refine takeH 16 83 (.bool false) hHeld rfl rfl (by kernel_rfl) (by kernel_rfl) (by kernel_rfl) (fun _ _ _ h => h) (Or.inl ⟨by rfl, fun w _ => by go_simp⟩) ?_
  simp only [Act.put, List.setIfInBounds_toArray, List.set_cons_zero, List.set_cons_succ]
  refine takeH 17 84 (.bool false) hHeld rfl rfl (by kernel_rfl) (by kernel_rfl) (by kernel_rfl) (fun _ _ _ h => h) (Or.inl ⟨by rfl, fun w _ => by go_simp⟩) ?_
  simp only [Act.put, List.setIfInBounds_toArray, List.set_cons_zero, List.set_cons_succ]
  refine takeH 18 85 (.bool false) hHeld rfl rfl (by kernel_rfl) (by kernel_rfl) (by kernel_rfl) (fun _ _ _ h => h) (Or.inl ⟨by rfl, fun w _ => by go_simp⟩) ?_
  simp only [Act.put, List.setIfInBounds_toArray, List.set_cons_zero, List.set_cons_succ]
  refine takeH 19 86 (.pointer (some ⟨g5, 1, none⟩)) hHeld rfl rfl (by kernel_rfl) (by kernel_rfl) (by kernel_rfl) (fun _ _ _ h => h) (Or.inl ⟨by rfl, fun w _ => by go_simp⟩) ?_
  simp only [Act.put, List.setIfInBounds_toArray, List.set_cons_zero, List.set_cons_succ]
  refine takeH 20 87 (.slice Y.ap Y.lp Y.cp) hHeld rfl rfl (by kernel_rfl) (by kernel_rfl) (by kernel_rfl) (fun _ _ _ h => h) (Or.inl ⟨by rfl, fun w hw => by have hw' : w.cell? ⟨g5, 1, none⟩ = some (.slice Y.ap Y.lp Y.cp) := (fun hw => Sv.proof (G5.out.on hw)) hw; go_simp⟩) ?_
  simp only [Act.put, List.setIfInBounds_toArray, List.set_cons_zero, List.set_cons_succ]
  refine takeH 21 88 (.pointer (some ⟨g5, 0, none⟩)) hHeld rfl rfl (by kernel_rfl) (by kernel_rfl) (by kernel_rfl) (fun _ _ _ h => h) (Or.inl ⟨by rfl, fun w _ => by go_simp⟩) ?_
  simp only [Act.put, List.setIfInBounds_toArray, List.set_cons_zero, List.set_cons_succ]
  refine takeH 22 89 (.slice Y.al Y.ll Y.cl) hHeld rfl rfl (by kernel_rfl) (by kernel_rfl) (by kernel_rfl) (fun _ _ _ h => h) (Or.inl ⟨by rfl, fun w hw => by have hw' : w.cell? ⟨g5, 0, none⟩ = some (.slice Y.al Y.ll Y.cl) := (fun hw => Sv.leaf (G5.out.on hw)) hw; go_simp⟩) ?_
  simp only [Act.put, List.setIfInBounds_toArray, List.set_cons_zero, List.set_cons_succ]
  refine takeH 24 91 (.pointer (some ⟨g5, 2, none⟩)) hHeld rfl rfl (by kernel_rfl) (by kernel_rfl) (by kernel_rfl) (fun _ _ _ h => h) (Or.inl ⟨by rfl, fun w _ => by go_simp⟩) ?_
  simp only [Act.put, List.setIfInBounds_toArray, List.set_cons_zero, List.set_cons_succ]
  refine takeH 25 92 (.agg (u8s Y.R).toArray) hHeld rfl rfl (by kernel_rfl) (by kernel_rfl) (by kernel_rfl) (fun _ _ _ h => h) (yieldsIf_load_mid (by rfl) _ _ rfl g5 2 rfl _ _ (fun v hv => Sv.range (G5.out.on hv) LY.out) hu rfl HV.out) ?_
  simp only [Act.put, List.setIfInBounds_toArray, List.set_cons_zero, List.set_cons_succ]
  refine wpAnyH_ready (rs := [23]) (by kernel_rfl) (by simp) (AllReadyH.cons rfl (fun K hK => ?_) AllReadyH.nil)
  rw [if_pos (by rfl)]
  go_simp
  refine (leaf_any _ _ _ Y.L _ (IY.out.below Z3.out).sl IY.out.hl (KZ.out.below Z3.out KZ.out.lt)).mono ?_
  rintro e v4 ⟨rfl, hv4⟩
  rw [← HDY.out]
  have Z4 := hide (Z3.out.trans (hv4.mono Z3.out.size))
  refine hK.out _ _ Z4.out (fun hHeld => ?_)
  clear hK K
  refine wpAnyH_ready (rs := [26]) (by kernel_rfl) (by simp) (AllReadyH.cons rfl (fun K hK => ?_) AllReadyH.nil)
  rw [if_pos (by rfl)]
  go_simp
  refine (HCY.out _ Z4.out).mono ?_
  rintro e v5 ⟨rfl, hv5⟩
  have Z5 := hide (Z4.out.trans (hv5.mono Z4.out.size))
  refine hK.out _ _ Z5.out (fun hHeld => ?_)
  clear hK K
  refine takeH 27 94 (.bool false) hHeld rfl rfl (by kernel_rfl) (by kernel_rfl) (by kernel_rfl) (fun _ _ _ h => h) (Or.inl ⟨by rfl, fun w _ => by go_simp⟩) ?_
  simp only [Act.put, List.setIfInBounds_toArray, List.set_cons_zero, List.set_cons_succ]
  refine takeH 28 95 (.bool false) hHeld rfl rfl (by kernel_rfl) (by kernel_rfl) (by kernel_rfl) (fun _ _ _ h => h) (Or.inl ⟨by rfl, fun w _ => by go_simp⟩) ?_
  simp only [Act.put, List.setIfInBounds_toArray, List.set_cons_zero, List.set_cons_succ]
  refine wpAnyH_done (by kernel_rfl) ?_ _
  refine NoPanic.normal ?_
  clear hHeld hu
  have I5 : Hid (c.In v5) := hide (by
    rw [HCC.out]
    exact ⟨LX.out, BX.out, LY.out, BY.out, DZ.out.below Z5.out, (IX.out.below Z5.out).sl, IX.out.hl, (IY.out.below Z5.out).sl, IY.out.hl, EZ.out.below Z5.out, FZ.out.below Z5.out⟩)
  have G4' := hide (G4.out.on Z5.out)
  have G5' := hide (G5.out.on Z5.out)
  have K5 := hide (KZ.out.below Z5.out KZ.out.lt)
  have B5 := hide (on_below BZ.out Z5.out)
  clear p0 p1 p2 p3 q0 q1 q2 q3 r0 r1 r2 r3
  obtain ⟨p0, p1, p2, p3⟩ := pf_at (PZ.out.on Z5.out)
  obtain ⟨q0, q1, q2, q3⟩ := pf_at (QZ.out.on Z5.out)
  obtain ⟨r0, r1, r2, r3⟩ := pf_at (RZ.out.on Z5.out)
  have k4 := Sv.leaf G4'.out
  have k5 := Sv.leaf G5'.out
  have LC : Hid (c.cells.length = 72) := hide (Cv.length I5.out.lo I5.out.ln)
  have ZC : Hid (c0v.cells.length = 72) := hide (by kernel_rfl)
  go_wp2_with (first | (refine step_load wD rfl rfl G4'.out (u8s X.R) (by rw [u8s_length, LX.out]) (Sv.fR LX.out) ?_) | (refine step_load wD rfl rfl G5'.out (u8s Y.R) (by rw [u8s_length, LY.out]) (Sv.fR LY.out) ?_) | (refine step_call (Cv.mk sq sr X.R Y.R fq pa np pc yp X.al X.ll X.cl X.L Y.al Y.ll Y.cl Y.L qa nq qc yq ra nr rc yr) LX.out LY.out rfl rfl rfl rfl rfl rfl rfl rfl rfl rfl rfl ?_; rw [← HCC.out]) | (refine step_alloc zCl rfl ?_))
  intro w6 g13 hr6 hl6 hb6
  clear p0 p1 p2 p3 q0 q1 q2 q3 r0 r1 r2 r3 k4 k5
  go_wp2_with (refine step_storeA wCl rfl rfl rfl hr6 LC.out (Cv.one _) ZC.out ?_)
  intro w7 hr7 hbt7
  have Y7 := hide (hb6.trans (hbt7.below hl6))
  have G7 := hide hr7
  have I7 := hide (I5.out.below Y7.out)
  have K7 := hide (K5.out.below Y7.out K5.out.lt)
  clear hr6 hl6 hb6 hr7 hbt7
  go_wp2_with (first | (refine step_load wCl rfl rfl G7.out _ LC.out (by rw [List.drop_zero, List.take_of_length_le (by rw [LC.out]; omega)]) ?_) | (go_at_call 11; refine (ext_any c _ I7.out K7.out).mono ?_))
  rintro r v8 ⟨av, bv, rfl, hE, hb8⟩
  have Y8 := hide (Y7.out.trans (hb8.mono Y7.out.size))
  have G8 := hide (G7.out.on hb8)
  have I8 := hide (I7.out.below hb8)
  have K8 := hide (K7.out.below hb8 K7.out.lt)
  have B8 := hide (on_below B5.out Y8.out)
  have k4 := Sv.leaf (G4'.out.on Y8.out)
  have k5 := Sv.leaf (G5'.out.on Y8.out)
  have SX := hide (((IX.out.below Z5.out).below Y8.out)).sl
  have SY := hide (((IY.out.below Z5.out).below Y8.out)).sl
  clear hb8
  by_cases hxy : X.L = Y.L
  · have hfd : (c.acc && decide (c.X ≠ c.Y)) = false := by rw [HXL.out.1, HXL.out.2]; simp [hxy]
    rw [hfd] at hE ⊢
    obtain ⟨e1, e2⟩ := hE.no rfl
    subst e1 e2
    have hd : decide (X.L = Y.L) = true := decide_eq_true hxy
    clear hfd hE hxy
    go_wp2_with (first | (refine step_toStr rfl rfl SX.out ?_) | (refine step_toStr rfl rfl SY.out ?_) | (refine step_eqStr rfl rfl rfl SX.out.hbyte SY.out.hbyte ?_; rw [hd]) | (refine step_load wCl rfl rfl G8.out _ LC.out (by rw [List.drop_zero, List.take_of_length_le (by rw [LC.out]; omega)]) ?_) | (go_at_call 8; refine (accepted_any c _ I8.out K8.out).mono ?_))
    rintro r v9 ⟨rfl, hb9⟩
    rw [HAC.out]
    go_wp2
    go_ret
    exact ⟨rfl, on_below B8.out hb9⟩
  · have hfd : (c.acc && decide (c.X ≠ c.Y)) = true := by rw [HXL.out.1, HXL.out.2, HAC.out]; simp [hxy]
    rw [hfd] at hE ⊢
    obtain ⟨aa, la, ca, AA, ab, lb, cb, BB, rfl, rfl, s1, s2, s3, s4⟩ := hE.yes rfl
    have hd : decide (X.L = Y.L) = false := decide_eq_false hxy
    have SA := hide s1
    have SB := hide s2
    have HD := hide s4
    have hne : (!decide (AA = BB)) = true := by simp [s3]
    clear hfd hE hxy s1 s2 s3 s4
    go_wp2_with (first | (refine step_toStr rfl rfl SX.out ?_) | (refine step_toStr rfl rfl SY.out ?_) | (refine step_eqStr rfl rfl rfl SX.out.hbyte SY.out.hbyte ?_; rw [hd]) | (refine step_toStr rfl rfl SA.out ?_) | (refine step_toStr rfl rfl SB.out ?_) | (refine step_neStr true hne rfl rfl rfl SA.out.hbyte SB.out.hbyte ?_) | (go_at_call 23; refine (sum_any aa la ca AA _ SA.out K8.out).mono ?_))
    rintro r v9 ⟨rfl, hb9⟩
    have Y9 := hide hb9
    clear hb9
    go_wp2_with (go_at_call 23; refine (sum_any ab lb cb BB _ (SB.out.below Y9.out) (K8.out.below Y9.out K8.out.lt)).mono ?_)
    rintro r v10 ⟨rfl, hb10⟩
    rw [← HD.out]
    go_wp2_with (refine step_eqDD (xs := dg bL 0 AA) rfl rfl rfl (dgL AA) ?_)
    go_ret
    exact ⟨rfl, on_below (on_below B8.out Y9.out) hb10⟩

end Go.Proofs.YtconeobaohmbnaaDoor
