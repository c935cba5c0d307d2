/-
  Texts one behind the other: FrW Wu Wv WeLaw.
-/
import Derived.Test.YtojepbapdjkknaaDoorFrK
import Derived.Test.YtojepbapdjkknaaDoorCon
import Derived.Test.YtojepbapdjkknaaDoorPkA
import Derived.Lib.SmallJoins
import Derived.Lib.TrailingZeros
import Derived.Stop.LaidErr
import Derived.Test.YtojepbapdjkknaaDoorNmR

/-
  From how an argument is read as data to what the walks are told of it: a proof; the tables that lie there for WireEncodes.
-/
namespace Go.Proofs.YtojepbapdjkknaaDoor
open Go.ChangeShapes Go.WideShapes Go.ChangeAt Go.RowKit
set_option linter.unusedVariables false

set_option maxRecDepth 100000 in
theorem prf_of {T : TypeId} {f0 f1 f2 f3 : Field} (hu : Tryd.prog.underlying T = some (.struct #[f0, f1, f2, f3])) (hc : Tryd.prog.cellsOf T = 4) (o0 : f0.offset = 0) (o1 : f1.offset = 1) (o2 : f2.offset = 2) (o3 : f3.offset = 3) (t0 : f0.type = 3) (t1 : f1.type = 3) (t2 : f2.type = 3) (t3 : f3.type = 22)
    {H : Type} {enc : TypeId × Value → H} {W : World} {base : Nat} {v : Value} {d : DataW H} {p : List MemPlace} {ts : List TypeId} {ds : List (DataW H)} (j : Nat)
    (hv : Value.okWide Tryd.prog W .any base T v) (h : DataW.Trod enc Tryd.prog W 0 (fun _ => true) true T v d p)
    (hsz : (DataW.weightsEach Tryd.prog ts ds).all (· ≤ reachBytes) = true) (ht : ts[j]? = some T) (hd : ds[j]? = some d) :
    ∃ (k i n : Int) (a : Option Addr) (len cap : Nat) (xs : List Int), v = .agg #[.int .i64 k, .int .i64 i, .int .i64 n, .slice a len cap] ∧ Ds W a len cap xs ∧ cap ≤ 4398046510976 := by
  obtain ⟨cs, rfl, hsz2⟩ := okWide_struct hu hv
  rw [hc] at hsz2
  obtain ⟨fuel, hf⟩ := h
  obtain ⟨y0, y1, y2, y3, q, hx, _, h0, h1, h2, h3⟩ := Joins.trod_struct4 hu hf
  have c1 : Tryd.prog.cellsOf 3 = 1 := by kernel_rfl
  have c2 : Tryd.prog.cellsOf 22 = 1 := by kernel_rfl
  have hi : Tryd.prog.underlying 3 = some (.int .i64) := by kernel_rfl
  rw [o0, t0, c1] at h0
  rw [o1, t1, c1] at h1
  rw [o2, t2, c1] at h2
  rw [o3, t3, c2] at h3
  obtain ⟨n, e0, _, w0⟩ := DataW.trod_int hi h0
  obtain ⟨m, e1, _, w1⟩ := DataW.trod_int hi h1
  obtain ⟨l, e2, _, w2⟩ := DataW.trod_int hi h2
  obtain ⟨a, len, cap, xs, e3, hds, hd2⟩ := ds_trod h3
  have hcap : cap ≤ 4398046510976 := by
    rcases hd2 with ⟨_, rfl⟩ | ⟨es, rs, e4, hl⟩
    · omega
    · simp only [Prod.mk.injEq] at hx
      have hm : (es.length + rs.length) * Tryd.prog.bytesOf 45 ∈ d.weights Tryd.prog T := by
        rw [hx.1]
        simp only [DataW.weights, hu]
        refine DataW.weights_mem_each (j := 3) (t := 22) (d := y3.1) (by simp [t3]) (by simp) _ ?_
        rw [e4]
        simp [DataW.weights]
      have := List.all_eq_true.1 hsz _ (DataW.weights_mem_each ht hd _ hm)
      simp only [decide_eq_true_eq] at this
      rw [bytesD, hl] at this
      simp only [reachBytes] at this
      omega
  refine ⟨n, m, l, a, len, cap, xs, ?_, hds (by omega), hcap⟩
  obtain ⟨ll⟩ := cs
  simp only [Value.cells] at e0 e1 e2 e3
  match ll, hsz2 with
  | [x, y, z, u], _ =>
    simp at e0 e1 e2 e3
    rw [e0, e1, e2, e3]

def dL : List Int := Lib.deBruijn64tab.map fun n : Nat => (n : Int)
def dL32 : List Int := Lib.deBruijn32tab.map fun n : Nat => (n : Int)
theorem gPTt : (Tryd.prog.globals[0]?).map (·.type) = some 183 := by kernel_rfl
theorem undP : Tryd.prog.underlying 183 = some (.array 20 58) := by kernel_rfl
theorem undP8 : Tryd.prog.underlying 58 = some (.int .u64) := by kernel_rfl
theorem cellsP8 : Tryd.prog.cellsOf 58 = 1 := by kernel_rfl
theorem cellsPt : Tryd.prog.cellsOf 183 = 20 := by kernel_rfl
theorem kt4_of {W : World} (h : laidMetH Tryd.prog [("math/bits.deBruijn32tab", Rows.laid_math_bits_deBruijn32tab), ("math/bits.deBruijn64tab", Rows.laid_math_bits_deBruijn64tab), ("internal/strconv.uint64pow10", Rows.laid_internal_strconv_uint64pow10)] W) : PT W := by
  have h0 : laidMet Tryd.prog [("math/bits.deBruijn32tab", Rows.laid_math_bits_deBruijn32tab), ("math/bits.deBruijn64tab", Rows.laid_math_bits_deBruijn64tab), ("internal/strconv.uint64pow10", Rows.laid_internal_strconv_uint64pow10)] W := h
  have h1 := laidMet.tail h0
  have h2 := laidMet.tail h1
  exact Lib.tabIs_of_head (rest := []) gPT gPTt undP undP8 cellsP8 cellsPt h2
/-- A world with the tables laid in it, for the witness. -/
def laidOf4 (W : World) : World :=
  { W with heap := ((W.heap.modify 0 fun
      | .cells _ t frozen => .cells (Lib.pow10Tab.map (Value.int .u64)).toArray t frozen
      | o => o).modify 4 fun
      | .cells _ t frozen => .cells (dL.map (Value.int .u8)).toArray t frozen
      | o => o).modify 3 fun
      | .cells _ t frozen => .cells (dL32.map (Value.int .u8)).toArray t frozen
      | o => o }

end Go.Proofs.YtojepbapdjkknaaDoor

/-
  The document's Text and Encode; the law's spoil and lent.
-/
namespace Go.Proofs.YtojepbapdjkknaaDoor
open Go.RowKit
set_option linter.unusedVariables false
set_option linter.unusedSimpArgs false

set_option maxHeartbeats 400000 in
theorem spoil8_own (g n cap : Nat) (xs : List Int) (B : Nat) (w : World) (ho : Own w B (.slice (some ⟨g, 0, none⟩) n cap) xs) (hx : xs.length = n) (hn : n ≤ 140737488355328) :
    Calls Tryd.prog 15 #[.slice (some ⟨g, 0, none⟩) n cap] w fun e w' => e = .returned (.tuple #[]) ∧ But g w w' := by
  obtain ⟨t, cs, hg, hcs⟩ : ∃ t cs, Blk w g t cs ∧ cs.take n = u8s xs := by
    rcases ho.2 with ⟨e, _⟩ | ⟨g', c', cur, e, _, hh, h3, h4, h5, h6⟩
    · cases e
    · cases e
      refine ⟨5, cur.toList, ?_, ?_⟩
      · unfold Blk; simpa using hh
      · simpa [hx] using h6
  clear ho
  go_enter Tryd.func15, Tryd.ntmps15
  go_wp2
  go_loopw [2] (fun i wr => ∃ k : Nat, k ≤ n ∧ i = .int .i64 k ∧ (∃ ys cs', Blk wr g t cs' ∧ cs'.take n = u8s ys ∧ ys.length = n) ∧ But g w wr) (fun i _ => n - (intOf i).toNat)
  case atStart => exact ⟨0, by omega, rfl, ⟨xs, cs, hg, hcs, hx⟩, But.refl _ _⟩
  case round =>
    obtain ⟨k, hk, rfl, ⟨ys, cs', hr1, hc1, hy⟩, hb1⟩ := hrel
    have HY := hide hy
    have HR := hide hr1
    have HC := hide hc1
    clear hy hr1 hc1 hg hx hcs
    by_cases hlt : k < n
    · have hcell : wr.cell? ⟨g, k, none⟩ = some (.int .u8 (ys.getD k 0)) := by
        have e : (cs'.take n)[k]? = some (.int .u8 (ys.getD k 0)) := by rw [HC.out]; exact u8s_get _ _ (by rw [HY.out]; exact hlt)
        rw [HR.out.cell]
        rw [List.getElem?_take, if_pos hlt] at e
        exact e
      have hfree : wr.frozen? ⟨g, k, none⟩ = false := HR.out.free k
      go_wp2
      go_roundw
      case rel =>
        have h := HR.out.set k (.int .u8 ((ys.getD k 0 + 1) % 256))
        refine ⟨k + 1, by omega, by go_num, ⟨ys.set k ((ys.getD k 0 + 1) % 256), _, h, ?_, by rw [List.length_set]; exact HY.out⟩, hb1.trans (But.setCell _ _ _ _)⟩
        rw [List.take_set, HC.out, u8s_set]
      case measure => simp [intOf]; omega
    · go_wp2
      go_end0
      exact ⟨rfl, hb1⟩
theorem spoil8_nil (c : Nat) (a : Option Addr) (w : World) : Calls Tryd.prog 15 #[.slice a 0 c] w fun e w' => e = .returned (.tuple #[]) ∧ w' = w := by
  go_enter Tryd.func15, Tryd.ntmps15
  go_wp2
  go_loopw [2] (fun i wr => i = .int .i64 0 ∧ wr = w) (fun _ _ => 0)
  case atStart => exact ⟨rfl, rfl⟩
  case round =>
    obtain ⟨rfl, rfl⟩ := hrel
    go_wp2
    go_end0
    exact ⟨rfl, rfl⟩

set_option maxRecDepth 100000 in
theorem textR_bad (k f s : Int) (a : Option Addr) (m cap : Nat) (w : World) (hm : m ≤ 9223372036854775807) (hv : pval k f s m = false) :
    Calls Tryd.prog 12 #[.agg (pfC k f s (.slice a m cap)).toArray] w fun r w' => r = .returned (.tuple #[.string (bA []), .int .i64 2]) ∧ Below w.heap.size w w' := by
  have HV := hide (fun V => validR_any k f s a m cap V hm)
  rw [hv] at HV
  go_enter Tryd.func12, Tryd.ntmps12
  go_wp2_with (refine step_box (cs := pfC k f s (.slice a m cap)) rfl rfl ?_)
  intro w1 g1 hr1 hl1 hb1
  have R1 := hide hr1
  clear hr1
  go_wp2_with (first | (refine step_loadA wP rfl rfl R1.out rfl ?_) | fail)
  refine (HV.out _).mono ?_
  rintro r w2 ⟨rfl, hb2⟩
  go_wp2
  go_ret2
  exact ⟨rfl, on_below hb1 hb2⟩
set_option maxRecDepth 100000 in
set_option maxHeartbeats 1000000 in
theorem textR_ok (k : Int) (f s : Nat) (a : Option Addr) (n cap : Nat) (ys : List Int) (w : World) (hs : Ds w a n cap ys) (hc : pcnt k (f : Int) (s : Int) = some n) :
    Calls Tryd.prog 12 #[.agg (pfC k (f : Int) (s : Int) (.slice a n cap)).toArray] w fun r w' => r = .returned (.tuple #[.string (bA (textU k f s n ys)), .int .i64 0]) ∧ Below w.heap.size w w' := by
  have hn49 := pcnt_le hc
  obtain ⟨hk, hf0, hfs, hs48⟩ := pcnt_bd hc
  have HV := hide (fun V => validR_any k (f : Int) (s : Int) a n cap V (by omega))
  rw [show pval k (f : Int) (s : Int) n = true by unfold pval; simp [hc]] at HV
  have HS := hide hs
  have HYB := hide hs.hbyte
  have HYL := hide hs.hlen
  have I0 := hide (fun V => wordR_any k V hk)
  have I1 := hide (fun V => digits_any f f V (Nat.le_refl _) (by omega))
  have I2 := hide (fun V => digits_any s s V (Nat.le_refl _) (by omega))
  have l0 := wordU_length k
  have l1 := dec_len f (by omega)
  have l2 := dec_len s (by omega)
  have hhl := headU_length k f s (by omega) (by omega)
  obtain ⟨WD, hWD⟩ : ∃ A, bA (wordU k) = A := ⟨_, rfl⟩
  obtain ⟨DA, hDA⟩ : ∃ A, bA (Lib.decDigits f) = A := ⟨_, rfl⟩
  obtain ⟨DB, hDB⟩ : ∃ A, bA (Lib.decDigits s) = A := ⟨_, rfl⟩
  have sW : WD.size ≤ 11 := by rw [← hWD, ← strL_length, strL_bA]; exact l0
  have sA : DA.size ≤ 20 := by rw [← hDA, ← strL_length, strL_bA]; exact l1
  have sB : DB.size ≤ 20 := by rw [← hDB, ← strL_length, strL_bA]; exact l2
  rw [hWD] at I0
  rw [hDA] at I1
  rw [hDB] at I2
  have HOUT : Hid (strL (((((WD ++ { data := #[32] }) ++ DA) ++ { data := #[32] }) ++ DB) ++ { data := #[10] }) = headU k f s ++ bodyU ys 0) := hide (by
    rw [strL_app, strL_app, strL_app, strL_app, strL_app, ← hWD, ← hDA, ← hDB, strL_bA, strL_bA, strL_bA]
    show _ = headU k f s ++ []
    rw [List.append_nil]
    rfl)
  clear hs hc hWD hDA hDB l0 l1 l2 hk
  go_enter Tryd.func12, Tryd.ntmps12
  go_wp2_with (refine step_box (cs := pfC k (f : Int) (s : Int) (.slice a n cap)) rfl rfl ?_)
  intro w1 g1 hr1 hl1 hb1
  have R1 := hide hr1
  have B1 := hide hb1
  clear hr1 hb1
  go_wp2_with (first | (refine step_loadA wP rfl rfl R1.out rfl ?_) | fail)
  refine (HV.out _).mono ?_
  rintro r w2 ⟨rfl, hb2⟩
  have B2 := hide (on_below B1.out hb2)
  have R2 := hide (R1.out.on hb2)
  obtain ⟨c0, c1, c2', c3⟩ := pf_at R2.out
  clear hb2 R1 B1
  go_wp2_with fail
  refine wp_region_noPanic ?_
  have Y0 := hide ((Below.refl w2.heap.size w2).drew)
  have hc0 : ∀ v : World, Below w2.heap.size w2 v → v.cell? ⟨g1, 0, none⟩ = some (.int .i64 k) := fun v hv => (pf_at (R2.out.on hv)).1
  have hc1 : ∀ v : World, Below w2.heap.size w2 v → v.cell? ⟨g1, 1, none⟩ = some (.int .i64 (f : Int)) := fun v hv => (pf_at (R2.out.on hv)).2.1
  have hc2 : ∀ v : World, Below w2.heap.size w2 v → v.cell? ⟨g1, 2, none⟩ = some (.int .i64 (s : Int)) := fun v hv => (pf_at (R2.out.on hv)).2.2.1
  have sSP : ({ data := #[32] } : ByteArray).size = 1 := rfl
  have sNL : ({ data := #[10] } : ByteArray).size = 1 := rfl
  clear c0 c1 c2' c3
  refine wp_region_held_drew (S := fun v : World => Below w2.heap.size w2 v) (by kernel_rfl) Y0.out (fun hHeld => ?_)
  refine takeH 0 10 (.pointer (some ⟨g1, 0, none⟩)) hHeld rfl rfl (by kernel_rfl) (by kernel_rfl) (by kernel_rfl) (fun _ _ _ h => h) (Or.inl ⟨by rfl, fun w _ => by go_simp⟩) ?_
  simp only [Act.put, List.setIfInBounds_toArray, List.set_cons_zero, List.set_cons_succ]
  refine takeH 1 11 (.int .i64 k) hHeld rfl rfl (by kernel_rfl) (by kernel_rfl) (by kernel_rfl) (fun _ _ _ h => h) (Or.inl ⟨by rfl, fun w hw => by have hw' : w.cell? ⟨g1, 0, none⟩ = some (.int .i64 k) := hc0 _ hw; go_simp⟩) ?_
  simp only [Act.put, List.setIfInBounds_toArray, List.set_cons_zero, List.set_cons_succ]
  refine takeH 4 14 (.pointer (some ⟨g1, 1, none⟩)) hHeld rfl rfl (by kernel_rfl) (by kernel_rfl) (by kernel_rfl) (fun _ _ _ h => h) (Or.inl ⟨by rfl, fun w _ => by go_simp⟩) ?_
  simp only [Act.put, List.setIfInBounds_toArray, List.set_cons_zero, List.set_cons_succ]
  refine takeH 5 15 (.int .i64 (f : Int)) hHeld rfl rfl (by kernel_rfl) (by kernel_rfl) (by kernel_rfl) (fun _ _ _ h => h) (Or.inl ⟨by rfl, fun w hw => by have hw' : w.cell? ⟨g1, 1, none⟩ = some (.int .i64 (f : Int)) := hc1 _ hw; go_simp⟩) ?_
  simp only [Act.put, List.setIfInBounds_toArray, List.set_cons_zero, List.set_cons_succ]
  refine takeH 9 19 (.pointer (some ⟨g1, 2, none⟩)) hHeld rfl rfl (by kernel_rfl) (by kernel_rfl) (by kernel_rfl) (fun _ _ _ h => h) (Or.inl ⟨by rfl, fun w _ => by go_simp⟩) ?_
  simp only [Act.put, List.setIfInBounds_toArray, List.set_cons_zero, List.set_cons_succ]
  refine takeH 10 20 (.int .i64 (s : Int)) hHeld rfl rfl (by kernel_rfl) (by kernel_rfl) (by kernel_rfl) (fun _ _ _ h => h) (Or.inl ⟨by rfl, fun w hw => by have hw' : w.cell? ⟨g1, 2, none⟩ = some (.int .i64 (s : Int)) := hc2 _ hw; go_simp⟩) ?_
  simp only [Act.put, List.setIfInBounds_toArray, List.set_cons_zero, List.set_cons_succ]
  refine wpAnyH_ready (rs := [2]) (by kernel_rfl) (by simp) (AllReadyH.cons rfl (fun K hK => ?_) AllReadyH.nil)
  rw [if_pos (by rfl)]
  go_simp
  refine (I0.out _).mono ?_
  rintro r v1 ⟨rfl, rfl⟩
  refine hK.out _ _ Y0.out (fun hHeld => ?_)
  clear hK K
  try simp only [Act.put, List.setIfInBounds_toArray, List.set_cons_zero, List.set_cons_succ]
  refine takeH 3 13 (.string (WD ++ { data := #[32] })) hHeld rfl rfl (by kernel_rfl) (by kernel_rfl) (by kernel_rfl) (fun _ _ _ h => h) (Or.inl ⟨by rfl, fun w _ => run_addS rfl rfl (by rw [sSP]; omega)⟩) ?_
  simp only [Act.put, List.setIfInBounds_toArray, List.set_cons_zero, List.set_cons_succ]
  refine wpAnyH_ready (rs := [6]) (by kernel_rfl) (by simp) (AllReadyH.cons rfl (fun K hK => ?_) AllReadyH.nil)
  rw [if_pos (by rfl)]
  go_simp
  refine (I1.out _).mono ?_
  rintro r v1 ⟨rfl, rfl⟩
  refine hK.out _ _ Y0.out (fun hHeld => ?_)
  clear hK K
  try simp only [Act.put, List.setIfInBounds_toArray, List.set_cons_zero, List.set_cons_succ]
  refine takeH 7 17 (.string ((WD ++ { data := #[32] }) ++ DA)) hHeld rfl rfl (by kernel_rfl) (by kernel_rfl) (by kernel_rfl) (fun _ _ _ h => h) (Or.inl ⟨by rfl, fun w _ => run_addS rfl rfl (by rw [app_size, sSP]; omega)⟩) ?_
  simp only [Act.put, List.setIfInBounds_toArray, List.set_cons_zero, List.set_cons_succ]
  refine takeH 8 18 (.string (((WD ++ { data := #[32] }) ++ DA) ++ { data := #[32] })) hHeld rfl rfl (by kernel_rfl) (by kernel_rfl) (by kernel_rfl) (fun _ _ _ h => h) (Or.inl ⟨by rfl, fun w _ => run_addS rfl rfl (by rw [app_size, app_size, sSP]; omega)⟩) ?_
  simp only [Act.put, List.setIfInBounds_toArray, List.set_cons_zero, List.set_cons_succ]
  refine wpAnyH_ready (rs := [11]) (by kernel_rfl) (by simp) (AllReadyH.cons rfl (fun K hK => ?_) AllReadyH.nil)
  rw [if_pos (by rfl)]
  go_simp
  refine (I2.out _).mono ?_
  rintro r v1 ⟨rfl, rfl⟩
  refine hK.out _ _ Y0.out (fun hHeld => ?_)
  clear hK K
  try simp only [Act.put, List.setIfInBounds_toArray, List.set_cons_zero, List.set_cons_succ]
  refine takeH 12 22 (.string ((((WD ++ { data := #[32] }) ++ DA) ++ { data := #[32] }) ++ DB)) hHeld rfl rfl (by kernel_rfl) (by kernel_rfl) (by kernel_rfl) (fun _ _ _ h => h) (Or.inl ⟨by rfl, fun w _ => run_addS rfl rfl (by rw [app_size, app_size, app_size, sSP]; omega)⟩) ?_
  simp only [Act.put, List.setIfInBounds_toArray, List.set_cons_zero, List.set_cons_succ]
  refine takeH 13 23 (.string (((((WD ++ { data := #[32] }) ++ DA) ++ { data := #[32] }) ++ DB) ++ { data := #[10] })) hHeld rfl rfl (by kernel_rfl) (by kernel_rfl) (by kernel_rfl) (fun _ _ _ h => h) (Or.inl ⟨by rfl, fun w _ => run_addS rfl rfl (by rw [app_size, app_size, app_size, app_size, sSP, sNL]; omega)⟩) ?_
  simp only [Act.put, List.setIfInBounds_toArray, List.set_cons_zero, List.set_cons_succ]
  refine takeH 14 4 (.string (((((WD ++ { data := #[32] }) ++ DA) ++ { data := #[32] }) ++ DB) ++ { data := #[10] })) hHeld rfl rfl (by kernel_rfl) (by kernel_rfl) (by kernel_rfl) (fun _ _ _ h => h) (Or.inl ⟨by rfl, fun w _ => by go_simp⟩) ?_
  simp only [Act.put, List.setIfInBounds_toArray, List.set_cons_zero, List.set_cons_succ]
  refine wpAnyH_done (by kernel_rfl) ?_ _
  refine NoPanic.normal ?_
  clear hHeld hc0 hc1 hc2
  generalize ((((WD ++ { data := #[32] }) ++ DA) ++ { data := #[32] }) ++ DB) ++ { data := #[10] } = OUT at *
  generalize (((WD ++ { data := #[32] }) ++ DA) ++ { data := #[32] }) ++ DB = O1
  generalize ((WD ++ { data := #[32] }) ++ DA) ++ { data := #[32] } = O2
  generalize (WD ++ { data := #[32] }) ++ DA = O3
  generalize WD ++ { data := #[32] } = O4
  have P4 := hide (R2.out.on Y0.out)
  go_wp2_with fail
  go_loopw [4, 5] (fun t i W => ∃ (q : Nat) (T : ByteArray), q ≤ n ∧ t = .string T ∧ i = .int .i64 (q : Int) ∧ Hid (strL T = headU k f s ++ bodyU ys q) ∧ Below w2.heap.size w2 W) (fun _ i _ => n - (intOf i).toNat)
  case atStart => exact ⟨0, OUT, by omega, rfl, rfl, HOUT, Y0.out⟩
  case round =>
    obtain ⟨q, T, hqn, rfl, rfl, HTT, hz⟩ := hrel
    have ZQ := hide hz
    clear hz
    have hbl := bodyU_length HYL.out q hqn
    have sT : T.size ≤ 54 + 45 * 49 := by rw [← strL_length, HTT.out, List.length_append]; omega
    have c3 := (pf_at (R2.out.on ZQ.out)).2.2.2
    by_cases hlt : q < n
    · have hlt' : (q : Int) < (n : Int) := by omega
      obtain ⟨b, o, rfl⟩ := HS.out.place (by omega)
      have hdl := dat_length HYL.out hlt
      have HDL := hide hdl
      have HDU := hide (show (u8s (dat ys q)).length = 32 by rw [u8s_length, hdl])
      have HDB := hide (dat_isB HYB.out q)
      have BQ := hide (on_below B2.out ZQ.out)
      have HRG := hide ((HS.out.below BQ.out).range q hlt)
      have hat := d_at b o n cap q (q : Int) rfl hlt
      obtain ⟨TB, hTB⟩ : ∃ TB, Oct.str (Oct.b64B (dat ys q)) = TB := ⟨_, rfl⟩
      have sTB : TB.size = 44 := by rw [← hTB]; exact b64_size hdl
      have HLN : Hid (strL ((T ++ TB) ++ { data := #[10] }) = headU k f s ++ bodyU ys (q + 1)) := hide (by
        rw [strL_app, strL_app, HTT.out, ← hTB, bodyU_succ, List.append_assoc, List.append_assoc]
        rfl)
      have H64 : Hid (∀ (g : Nat) (V : World), Blk V g 45 (u8s (dat ys q)) → Calls Tryd.prog 37 #[.slice (some ⟨g, 0, none⟩) 32 32] V fun e w' => e = .returned (.string TB) ∧ Below V.heap.size V w') := hide (fun g V hg => by
        have hsl := hg.sl0 HDB.out (by omega)
        rw [HDL.out] at hsl
        have := Oct.b64R_any (some ⟨g, 0, none⟩) 32 32 (dat ys q) V hsl.oct (by omega)
        rwa [hTB] at this)
      clear hdl hTB
      go_wp2_with (first | (refine step_loadR wD rfl rfl _ HRG.out HDU.out ?_) | (refine step_alloc zD rfl ?_))
      intro w7 g7 hr7 hl7 hb7
      have G7 := hide hr7
      clear hr7
      go_wp2_with (refine step_storeA wD rfl rfl rfl G7.out HDU.out (One.u8 _) (by rw [u8s_length, zer_length]) ?_)
      intro w8 hg8 hbut8
      have G8 := hide hg8
      have Z8 := hide (on_below ZQ.out (hb7.trans (hbut8.below hl7)))
      clear hg8 hbut8 hb7 hl7 G7 HRG hat ZQ
      go_wp2_with fail
      refine (H64.out g7 _ G8.out).mono ?_
      rintro r w9 ⟨rfl, hb9⟩
      have Z9 := hide (on_below Z8.out hb9)
      clear hb9 Z8 G8
      have n1 : ¬ 9223372036854775807 < T.size + TB.size := by omega
      have n2 : ¬ 9223372036854775807 < T.size + TB.size + 1 := by omega
      have n3 : ¬ 9223372036854775807 < T.size + 44 := by omega
      have n4 : ¬ 9223372036854775807 < T.size + 44 + 1 := by omega
      go_wp2
      go_roundw
      case rel => exact ⟨q + 1, _, by omega, rfl, by simp, HLN, Z9.out⟩
      case measure => simp only [intOf]; omega
    · obtain rfl : q = n := by omega
      have hlt' : ¬ ((q : Int) < (q : Int)) := by omega
      go_wp2
      go_ret2
      have eT : bA (textU k f s q ys) = T := eq_of_strL (by rw [strL_bA, HTT.out]; rfl)
      exact ⟨by rw [eT]; rfl, on_below B2.out ZQ.out⟩

end Go.Proofs.YtojepbapdjkknaaDoor

/-
  The document's Encode; the law's lent.
-/
namespace Go.Proofs.YtojepbapdjkknaaDoor
open Go.RowKit
set_option linter.unusedVariables false
set_option linter.unusedSimpArgs false

section
variable {dst : Option Tmp} {ty : TypeId} {pos : String} {aft : Array Edge} {gd : Option (Nat × Bool)} {a : Act} {w : World} {K : Act → World → Prop} {Q : Exit → Act → World → Prop}
theorem build_one8 (q : Int) (w : World) : (Instr.buildSlice 26 1 #[(0, .int .u8 q)]).run Tryd.prog w = .ok (.slice (some ⟨w.heap.size, 0, none⟩) 1 1) (w.alloc (.cells #[.int .u8 q] 5)) := by kernel_rfl
set_option maxRecDepth 100000 in
theorem wp_one8 {x : Operand} {q : Int} (hx : a.eval x = .int .u8 q) (hq : 0 ≤ q ∧ q ≤ 255) (h : ∀ w1 g, Blk w1 g 5 (u8s [q]) → w.heap.size ≤ g → Below w.heap.size w w1 → K (a.put dst (.slice (some ⟨g, 0, none⟩) 1 1)) w1) :
    Oper.wp Tryd.prog ⟨dst, .buildSlice 26 1 #[(0, x)], ty, pos, aft, gd⟩ a w K Q := by
  refine wp_runV (.slice (some ⟨w.heap.size, 0, none⟩) 1 1) (w.alloc (.cells #[.int .u8 q] 5)) ?_ (h _ _ (Blk.made w 5 (u8s [q])) (Nat.le_refl _) ((Below.refl _ _).alloc (Nat.le_refl _) _))
  unfold execOp
  simp only [List.map_toArray, List.map_cons, List.map_nil, hx]
  simp only [Sem.run_bind, build_one8, Result.andThen_ok, Sem.run_pure]
end
theorem own_base {w : World} {B B' : Nat} {v : Value} {xs : List Int} (h : Own w B v xs) (hB : B' ≤ B) : Own w B' v xs := by
  obtain ⟨h1, h2⟩ := h
  refine ⟨h1, ?_⟩
  rcases h2 with h2 | ⟨g, cap, cur, e, hg, hh, r⟩
  · exact .inl h2
  · exact .inr ⟨g, cap, cur, e, Nat.le_trans hB hg, hh, r⟩
theorem ds_but {g : Nat} {w w' : World} {a : Option Addr} {len cap : Nat} {xs : List Int} (h : Ds w a len cap xs) (hb : But g w w') (hk : ∀ x, a = some x → x.block ≠ g) : Ds w' a len cap xs :=
  ⟨h.hcap, h.hmax, h.hnil, h.sl.but hb fun _ x hx => hk x hx⟩
theorem joinE3 {T : Program} {c : Code} {a : Act} {w : World} {Q : Exit → Act → World → Prop} {K : Act → World → Prop} (P : Nat → Nat → Value → World → Prop) (act : Nat → Nat → Value → Act) (h1 : ∀ g g' v W, P g g' v W → K (act g g' v) W) (h2 : (∀ g g' v W, P g g' v W → K (act g g' v) W) → Code.wp T c (Exit.then K Q) a w) : Code.wp T c (Exit.then K Q) a w := h2 h1

set_option maxRecDepth 100000 in
theorem encodeR_bad (k f s : Int) (a : Option Addr) (m cap : Nat) (w : World) (hm : m ≤ 9223372036854775807) (hv : pval k f s m = false) :
    Calls Tryd.prog 10 #[.agg (pfC k f s (.slice a m cap)).toArray] w fun r w' => r = .returned (.tuple #[.slice none 0 0, .int .i64 2]) ∧ Below w.heap.size w w' := by
  have HV := hide (fun V => validR_any k f s a m cap V hm)
  rw [hv] at HV
  go_enter Tryd.func10, Tryd.ntmps10
  go_wp2_with (refine step_box (cs := pfC k f s (.slice a m cap)) rfl rfl ?_)
  intro w1 g1 hr1 hl1 hb1
  have R1 := hide hr1
  clear hr1
  go_wp2_with (first | (refine step_loadA wP rfl rfl R1.out rfl ?_) | fail)
  refine (HV.out _).mono ?_
  rintro r w2 ⟨rfl, hb2⟩
  go_wp2
  go_ret2
  exact ⟨rfl, on_below hb1 hb2⟩

set_option maxRecDepth 100000 in
set_option maxHeartbeats 1000000 in
theorem encodeR_ok (k f s : Int) (a : Option Addr) (n cap : Nat) (ys : List Int) (w : World) (hs : Ds w a n cap ys) (hc : pcnt k f s = some n) :
    Calls Tryd.prog 10 #[.agg (pfC k f s (.slice a n cap)).toArray] w fun r w' => Below w.heap.size w w' ∧ ∃ v, r = .returned (.tuple #[v, .int .i64 0]) ∧ v ≠ .slice none 0 0 ∧ Own w' w.heap.size v (encB k f s n ys) := by
  have hn49 := pcnt_le hc
  obtain ⟨hk, hf0, hfs, hs48⟩ := pcnt_bd hc
  have HV := hide (fun V => validR_any k f s a n cap V (by omega))
  rw [show pval k f s n = true by unfold pval; simp [hc]] at HV
  have HS := hide hs
  have HYB := hide hs.hbyte
  have HYL := hide hs.hlen
  have wk : IntKind.u8.wrap k = k := wrap_u8 k (by omega) (by omega)
  have wf : IntKind.u64.wrap f = f := wrap_u64 f (by omega) (by omega)
  have ws : IntKind.u64.wrap s = s := wrap_u64 s (by omega) (by omega)
  have wn : IntKind.u8.wrap (n : Int) = (n : Int) := wrap_u8 _ (by omega) (by omega)
  have hk2 : 0 ≤ k ∧ k ≤ 255 := by omega
  have HB1 : Hid (isB [k]) := hide (isB_one (by omega) (by omega))
  have HB2 : Hid (isB ([k] ++ be f 8)) := hide (HB1.out.append (be_isB f 8))
  have HB3 : Hid (isB (([k] ++ be f 8) ++ be s 8)) := hide (HB2.out.append (be_isB s 8))
  have HB4 : Hid (isB (encH k f s n)) := hide (HB3.out.append (isB_one (by omega) (by omega)))
  have HF := hide (fun V => number_ref f 8 V (by omega) (by omega) (by omega))
  have HZ := hide (fun V => number_ref s 8 V (by omega) (by omega) (by omega))
  clear hs hc hk
  go_enter Tryd.func10, Tryd.ntmps10
  go_wp2_with (refine step_box (cs := pfC k f s (.slice a n cap)) rfl rfl ?_)
  intro w1 g1 hr1 hl1 hb1
  have R1 := hide hr1
  have B1 := hide hb1
  clear hr1 hb1
  go_wp2_with (first | (refine step_loadA wP rfl rfl R1.out rfl ?_) | fail)
  refine (HV.out _).mono ?_
  rintro r w2 ⟨rfl, hb2⟩
  have B2 := hide (on_below B1.out hb2)
  have R2 := hide (R1.out.on hb2)
  clear hb2 R1 B1
  go_wp2_with fail
  refine joinE3 (fun gA gB v W => v ≠ .slice none 0 0 ∧ Own W w2.heap.size v ([k] ++ be f 8) ∧ Below w2.heap.size w2 W) ?act ?tail (fun hjoin => ?_)
  rotate_left
  rotate_left
  · have Y0 := hide ((Below.refl w2.heap.size w2).drew)
    have hc0 : ∀ v : World, Below w2.heap.size w2 v → v.cell? ⟨g1, 0, none⟩ = some (.int .i64 k) := fun v hv => (pf_at (R2.out.on hv)).1
    have hc1 : ∀ v : World, Below w2.heap.size w2 v → v.cell? ⟨g1, 1, none⟩ = some (.int .i64 f) := fun v hv => (pf_at (R2.out.on hv)).2.1
    refine wp_region_held_drew (S := fun v : World => Below w2.heap.size w2 v) (by kernel_rfl) Y0.out (fun hHeld => ?_)
    refine takeH 0 10 (.pointer (some ⟨g1, 0, none⟩)) hHeld rfl rfl (by kernel_rfl) (by kernel_rfl) (by kernel_rfl) (fun _ _ _ h => h) (Or.inl ⟨by rfl, fun w _ => by go_simp⟩) ?_
    simp only [Act.put, List.setIfInBounds_toArray, List.set_cons_zero, List.set_cons_succ]
    refine takeH 1 11 (.int .i64 k) hHeld rfl rfl (by kernel_rfl) (by kernel_rfl) (by kernel_rfl) (fun _ _ _ h => h) (Or.inl ⟨by rfl, fun w hw => by have hw' : w.cell? ⟨g1, 0, none⟩ = some (.int .i64 k) := hc0 _ hw; go_simp⟩) ?_
    simp only [Act.put, List.setIfInBounds_toArray, List.set_cons_zero, List.set_cons_succ]
    refine takeH 2 12 (.int .u8 k) hHeld rfl rfl (by kernel_rfl) (by kernel_rfl) (by kernel_rfl) (fun _ _ _ h => h) (Or.inl ⟨by rfl, fun w _ => by go_simp⟩) ?_
    simp only [Act.put, List.setIfInBounds_toArray, List.set_cons_zero, List.set_cons_succ]
    refine takeH 4 14 (.pointer (some ⟨g1, 1, none⟩)) hHeld rfl rfl (by kernel_rfl) (by kernel_rfl) (by kernel_rfl) (fun _ _ _ h => h) (Or.inl ⟨by rfl, fun w _ => by go_simp⟩) ?_
    simp only [Act.put, List.setIfInBounds_toArray, List.set_cons_zero, List.set_cons_succ]
    refine takeH 5 15 (.int .i64 f) hHeld rfl rfl (by kernel_rfl) (by kernel_rfl) (by kernel_rfl) (fun _ _ _ h => h) (Or.inl ⟨by rfl, fun w hw => by have hw' : w.cell? ⟨g1, 1, none⟩ = some (.int .i64 f) := hc1 _ hw; go_simp⟩) ?_
    simp only [Act.put, List.setIfInBounds_toArray, List.set_cons_zero, List.set_cons_succ]
    refine takeH 6 16 (.int .u64 f) hHeld rfl rfl (by kernel_rfl) (by kernel_rfl) (by kernel_rfl) (fun _ _ _ h => h) (Or.inl ⟨by rfl, fun w _ => by go_simp⟩) ?_
    simp only [Act.put, List.setIfInBounds_toArray, List.set_cons_zero, List.set_cons_succ]
    refine wpAnyH_ready (rs := [3, 7]) (by kernel_rfl) (by simp) (AllReadyH.cons rfl (fun K hK => ?_) (AllReadyH.cons rfl (fun K hK => ?_) AllReadyH.nil))
    · rw [if_pos (by rfl)]
      refine wp_one8 rfl hk2 ?_
      intro v1 gA hA hlA hv1
      have Y1 := hide (on_below Y0.out hv1)
      have LA : w2.heap.size ≤ gA := Nat.le_trans Y0.out.size hlA
      refine hK.out _ _ Y1.out (fun hHeld => ?_)
      clear hK K
      try simp only [Act.put, List.setIfInBounds_toArray, List.set_cons_zero, List.set_cons_succ]
      refine wpAnyH_ready (rs := [7]) (by kernel_rfl) (by simp) (AllReadyH.cons rfl (fun K hK => ?_) AllReadyH.nil)
      rw [if_pos (by rfl)]
      go_simp
      refine (HF.out _).mono ?_
      rintro r v2 ⟨gB, rfl, hlB, hB, hv2⟩
      have Y2 := hide (on_below Y1.out hv2)
      have A2 := hA.on hv2
      refine hK.out _ _ Y2.out (fun hHeld => ?_)
      clear hK K
      try simp only [Act.put, List.setIfInBounds_toArray, List.set_cons_zero, List.set_cons_succ]
      have O1 : Hid (Own v2 w2.heap.size (.slice (some ⟨gA, 0, none⟩) 1 1) [k]) := hide (Own.of_blk (xs := [k]) A2 LA (by simp))
      refine wpAnyH_ready (rs := [8]) (by kernel_rfl) (by simp) (AllReadyH.cons rfl (fun K hK => ?_) AllReadyH.nil)
      rw [if_pos (by rfl)]
      refine wp_appendB rfl rfl rfl O1.out (Blk.sl0 (xs := be f 8) hB (be_isB f 8) (by simp [be_length])) (by simp) Y2.out.size ?_
      intro v' u1 ho1 hg1 hn1
      have YZ := hide (Y2.out.trans (Below.of_grown hg1 Y2.out.size O1.out.lt))
      have N1 : v' ≠ .slice none 0 0 := fun e => by have e2 := (hn1 e).1; cases e2
      refine hK.out _ _ YZ.out (fun hHeld => ?_)
      clear hK K
      try simp only [Act.put, List.setIfInBounds_toArray, List.set_cons_zero, List.set_cons_succ]
      refine takeH 9 4 v' hHeld rfl rfl (by kernel_rfl) (by kernel_rfl) (by kernel_rfl) (fun _ _ _ h => h) (Or.inl ⟨by rfl, fun w _ => by go_simp⟩) ?_
      simp only [Act.put, List.setIfInBounds_toArray, List.set_cons_zero, List.set_cons_succ]
      refine wpAnyH_done (by kernel_rfl) ?_ _
      exact hjoin gA gB v' u1 ⟨N1, ho1, YZ.out⟩
    · rw [if_pos (by rfl)]
      go_simp
      refine (HF.out _).mono ?_
      rintro r v1 ⟨gB, rfl, hlB, hB, hv1⟩
      have Y1 := hide (on_below Y0.out hv1)
      refine hK.out _ _ Y1.out (fun hHeld => ?_)
      clear hK K
      try simp only [Act.put, List.setIfInBounds_toArray, List.set_cons_zero, List.set_cons_succ]
      refine wpAnyH_ready (rs := [3]) (by kernel_rfl) (by simp) (AllReadyH.cons rfl (fun K hK => ?_) AllReadyH.nil)
      rw [if_pos (by rfl)]
      refine wp_one8 rfl hk2 ?_
      intro v2 gA hA hlA hv2
      have Y2 := hide (on_below Y1.out hv2)
      have LA : w2.heap.size ≤ gA := Nat.le_trans Y1.out.size hlA
      have B2' := hB.on hv2
      refine hK.out _ _ Y2.out (fun hHeld => ?_)
      clear hK K
      try simp only [Act.put, List.setIfInBounds_toArray, List.set_cons_zero, List.set_cons_succ]
      have O1 : Hid (Own v2 w2.heap.size (.slice (some ⟨gA, 0, none⟩) 1 1) [k]) := hide (Own.of_blk (xs := [k]) hA LA (by simp))
      refine wpAnyH_ready (rs := [8]) (by kernel_rfl) (by simp) (AllReadyH.cons rfl (fun K hK => ?_) AllReadyH.nil)
      rw [if_pos (by rfl)]
      refine wp_appendB rfl rfl rfl O1.out (Blk.sl0 (xs := be f 8) B2' (be_isB f 8) (by simp [be_length])) (by simp) Y2.out.size ?_
      intro v' u1 ho1 hg1 hn1
      have YZ := hide (Y2.out.trans (Below.of_grown hg1 Y2.out.size O1.out.lt))
      have N1 : v' ≠ .slice none 0 0 := fun e => by have e2 := (hn1 e).1; cases e2
      refine hK.out _ _ YZ.out (fun hHeld => ?_)
      clear hK K
      try simp only [Act.put, List.setIfInBounds_toArray, List.set_cons_zero, List.set_cons_succ]
      refine takeH 9 4 v' hHeld rfl rfl (by kernel_rfl) (by kernel_rfl) (by kernel_rfl) (fun _ _ _ h => h) (Or.inl ⟨by rfl, fun w _ => by go_simp⟩) ?_
      simp only [Act.put, List.setIfInBounds_toArray, List.set_cons_zero, List.set_cons_succ]
      refine wpAnyH_done (by kernel_rfl) ?_ _
      exact hjoin gA gB v' u1 ⟨N1, ho1, YZ.out⟩
  · rintro gA gB v3 W ⟨hn3, ho3, hb3⟩
    have O3 := hide (own_base ho3 B2.out.size)
    have B3 := hide (on_below B2.out hb3)
    have R3 := hide (R2.out.on hb3)
    have N3 := hide hn3
    clear ho3 hb3 hn3 R2 B2 HF
    obtain ⟨c0, c1, c2', c3⟩ := pf_at R3.out
    go_wp2_with fail
    refine (HZ.out _).mono ?_
    rintro r w4 ⟨g4, rfl, hl4, hr4, hb4⟩
    have O4 := hide (O3.out.below hb4)
    have S4 := hide (Blk.sl0 (xs := be s 8) hr4 (be_isB s 8) (by simp [be_length]))
    rw [show (be s 8).length = 8 by simp [be_length]] at S4
    have B4 := hide (on_below B3.out hb4)
    have R4 := hide (R3.out.on hb4)
    clear hl4 hr4 hb4 O3 R3 B3 c0 c1 c2' c3
    go_wp2_with (refine step_append rfl rfl rfl O4.out S4.out (by simp [be_length]) B4.out.size ?_)
    intro v5 w5 ho5 hg5 hn5
    have O5 := hide ho5
    have B5 := hide (B4.out.trans (Below.of_grown hg5 B4.out.size O4.out.lt))
    have N5 : Hid (v5 ≠ .slice none 0 0) := hide (fun e => N3.out (hn5 e).1)
    have R5 := hide (R4.out.grown (by decide) O4.out hg5)
    clear ho5 hg5 hn5 O4 S4 B4 R4 N3
    have c3 := (pf_at R5.out).2.2.2
    go_wp2_with (refine step_append rfl rfl rfl (O5.out.alloc _) (one_slB _ (n : Int) (by omega)) (by simp [be_length]) (by have := B5.out.size; simp; omega) ?_)
    intro v6 w6 ho6 hg6 hn6
    have Y5 := hide ((Below.refl w5.heap.size w5).alloc (Nat.le_refl _) (.cells #[.int .u8 (n : Int)] 5))
    have B6 := hide ((B5.out.alloc B5.out.size (.cells #[.int .u8 (n : Int)] 5)).trans (Below.of_grown hg6 (by have := B5.out.size; simp; omega) O5.out.lt))
    have N6 : Hid (v6 ≠ .slice none 0 0) := hide (fun e => N5.out (hn6 e).1)
    have R6 := hide ((R5.out.on Y5.out).grown (by decide) (O5.out.alloc _) hg6)
    have O6 : Hid (Own w6 w.heap.size v6 (encH k f s n ++ ys.take (32 * 0))) := hide (by rw [Nat.mul_zero, List.take_zero, List.append_nil]; exact ho6)
    clear ho6 hg6 hn6 O5 R5 Y5 N5 B5 c3
    go_wp2_with fail
    go_loopw [4, 5] (fun v i W => ∃ q : Nat, q ≤ n ∧ i = .int .i64 (q : Int) ∧ v ≠ .slice none 0 0 ∧ Own W w.heap.size v (encH k f s n ++ ys.take (32 * q)) ∧ Below w.heap.size w W ∧ Blk W g1 24 (pfC k f s (.slice a n cap))) (fun _ i _ => n - (intOf i).toNat)
    case atStart => exact ⟨0, by omega, rfl, N6.out, O6.out, B6.out, R6.out⟩
    case round =>
      obtain ⟨q, hqn, rfl, hvn, ho, hbq, hrq⟩ := hrel
      have BQ := hide hbq
      have OQ := hide ho
      have NQ := hide hvn
      have RQ := hide hrq
      have c3 := (pf_at hrq).2.2.2
      clear hbq ho hvn hrq O6 N6 B6 R6
      by_cases hlt : q < n
      · have hlt' : (q : Int) < (n : Int) := by omega
        obtain ⟨b, o, rfl⟩ := HS.out.place (by omega)
        have hdl := dat_length HYL.out hlt
        have HDL := hide hdl
        have HDU := hide (show (u8s (dat ys q)).length = 32 by rw [u8s_length, hdl])
        have HDB := hide (dat_isB HYB.out q)
        have HRG := hide ((HS.out.below BQ.out).range q hlt)
        have hat := d_at b o n cap q (q : Int) rfl hlt
        have hql : (encH k f s n ++ ys.take (32 * q)).length = 18 + 32 * q := by rw [List.length_append, encH_length, List.length_take, HYL.out]; omega
        clear hdl
        go_wp2_with (first | (refine step_loadR wD rfl rfl _ HRG.out HDU.out ?_) | (refine step_alloc zD rfl ?_))
        intro w7 g6 hr7 hl7 hb7
        have G7 := hide hr7
        clear hr7
        go_wp2_with (refine step_storeA wD rfl rfl rfl G7.out HDU.out (One.u8 _) (by rw [u8s_length, zer_length]) ?_)
        intro w8 hg8 hbut8
        have Y8 := hide (hb7.trans (hbut8.below hl7))
        have O8 := hide (OQ.out.below Y8.out)
        have B8 := hide (on_below BQ.out Y8.out)
        have R8 := hide (RQ.out.on Y8.out)
        have S8 := hide (Blk.sl0 hg8 HDB.out (by rw [HDL.out]; omega))
        rw [HDL.out] at S8
        clear hg8 hbut8 hb7 hl7 G7 Y8 HRG hat c3
        go_wp2_with (refine step_append rfl rfl rfl O8.out S8.out (by rw [hql]; omega) B8.out.size ?_)
        intro v9 w9 ho9 hg9 hn9
        have e9 : (encH k f s n ++ ys.take (32 * q)) ++ dat ys q = encH k f s n ++ ys.take (32 * (q + 1)) := by rw [List.append_assoc, take_more]; rfl
        rw [e9] at ho9
        have O9 := hide ho9
        have N9 : Hid (v9 ≠ .slice none 0 0) := hide (fun e => NQ.out (hn9 e).1)
        have B9 := hide (B8.out.trans (Below.of_grown hg9 B8.out.size O8.out.lt))
        have R9 := hide (R8.out.grown (by decide) O8.out hg9)
        clear ho9 hg9 hn9 e9 O8 S8 B8 R8
        go_wp2
        go_roundw
        case rel => exact ⟨q + 1, by omega, by simp, N9.out, O9.out, B9.out, R9.out⟩
        case measure => simp only [intOf]; omega
      · obtain rfl : q = n := by omega
        have hlt' : ¬ ((q : Int) < (q : Int)) := by omega
        go_wp2
        go_ret2
        refine ⟨BQ.out, _, rfl, NQ.out, ?_⟩
        have e := OQ.out
        rw [List.take_of_length_le (by rw [HYL.out]; exact Nat.le_refl _)] at e
        exact e

set_option maxRecDepth 100000 in
set_option maxHeartbeats 400000 in
theorem lent_any (k f s : Int) (a : Option Addr) (n cap : Nat) (ys : List Int) (w : World) (hs : Ds w a n cap ys) :
    Calls Tryd.prog 8 #[.agg (pfC k f s (.slice a n cap)).toArray] w fun r w' => Below w.heap.size w w' ∧ ∃ a' cap', r = .returned (.agg (pfC k f s (.slice a' n cap')).toArray) ∧ Ds w' a' n cap' ys := by
  have hn := hs.hreach
  have HS := hide hs
  have HYB := hide hs.hbyte
  clear hs
  go_enter Tryd.func8, Tryd.ntmps8
  go_wp2_with (refine step_box (cs := pfC k f s (.slice a n cap)) rfl rfl ?_)
  intro w1 g1 hr1 hl1 hb1
  have R1 := hide hr1
  have B1 := hide hb1
  clear hr1 hb1
  go_wp2_with (refine step_alloc zP rfl ?_)
  intro w2 g2 hr2 hl2 hb2
  have G2 := hide hr2
  have R2 := hide (R1.out.on hb2)
  have B2 := hide (on_below B1.out hb2)
  have n12 : g1 ≠ g2 := by have := R1.out.lt; omega
  have l2 : w.heap.size ≤ g2 := Nat.le_trans B1.out.size hl2
  clear hr2 hb2 R1 B1
  have Y3 := hide ((Below.refl w2.heap.size w2).alloc (Nat.le_refl _) (.cells #[] 45))
  have c3' := (pf_at (R2.out.on Y3.out)).2.2.2
  go_wp2_with (refine step_appendD (B := w2.heap.size) (n := 0) (xs := []) rfl rfl rfl (down_empty w2) (HS.out.below (B2.out.alloc B2.out.size _)) (by omega) (by simp) ?_)
  intro v4 w4 ho4 hg4
  rw [Nat.zero_add, List.nil_append] at ho4
  have Y4 := hide (Y3.out.trans (Below.of_grown hg4 (by simp) (down_empty w2).lt))
  obtain ⟨a', cap', rfl, hds, hpl⟩ := ho4.ds HYB.out hn
  have D4 := hide hds
  have R4 := hide (R2.out.on Y4.out)
  have G4 := hide (G2.out.on Y4.out)
  have B4 := hide (on_below B2.out Y4.out)
  have np : ∀ x, a' = some x → x.block ≠ g1 ∧ x.block ≠ g2 := fun x hx => by have := hpl x hx; have := R2.out.lt; have := G2.out.lt; omega
  have hfz := R4.out.free 3
  have c3 := (pf_at R4.out).2.2.2
  have R5 : Hid (Blk (w4.setCell ⟨g1, 3, none⟩ (.slice a' n cap')) g1 24 (pfC k f s (.slice a' n cap'))) := hide (R4.out.set 3 (.slice a' n cap'))
  have BN := hide (But.setCell w4 g1 3 (.slice a' n cap'))
  have G5 := hide (G4.out.but BN.out n12.symm)
  have D5 := hide (ds_but D4.out BN.out (fun x hx => (np x hx).1))
  have l1 : w.heap.size ≤ g1 := hl1
  have B5 := hide (B4.out.trans (BN.out.below l1))
  clear hds hpl ho4 hg4 Y3 Y4 R2 G2 B2 c3'
  go_wp2_with (first | (refine step_loadA wP rfl rfl R5.out rfl ?_) | (refine step_storeA wP rfl rfl rfl G5.out rfl (One.pf _ _ _ _ _ _) rfl ?_; intro w6 hg6 hbut6))
  exact bodyPost_ret (results_wide rfl wP _ _ rfl hg6 rfl) rfl ⟨B5.out.trans (hbut6.below l2), a', cap', rfl, ds_but D5.out hbut6 (fun x hx => (np x hx).2)⟩
end Go.Proofs.YtojepbapdjkknaaDoor

/-
  The walk of WireEncodes.
-/
namespace Go.Proofs.YtojepbapdjkknaaDoor
open Go.RowKit
set_option linter.unusedVariables false
set_option linter.unusedSimpArgs false

theorem own_lies {w : World} {B : Nat} {v : Value} {xs : List Int} (h : Own w B v xs) (hb : isB xs) (hl : xs.length ≤ 140737488355328) :
    ∃ a cap, v = .slice a xs.length cap ∧ Sl w a xs.length cap xs ∧ ∀ x, a = some x → B ≤ x.block ∧ x.block < w.heap.size := by
  obtain ⟨a, cap, e, hs⟩ := h.sl' hb hl
  refine ⟨a, cap, e, hs, fun x hx => ?_⟩
  rcases h.2 with ⟨e1, _⟩ | ⟨g, c, cur, e1, hB, hh, _⟩
  · rw [e] at e1
    injection e1 with h1 _ _
    rw [h1] at hx
    cases hx
  · rw [e] at e1
    injection e1 with h1 _ _
    rw [h1] at hx
    cases hx
    exact ⟨hB, (show Blk w g 5 cur.toList by unfold Blk; simpa using hh).lt⟩
theorem spoil8_any {w : World} {B : Nat} {a : Option Addr} {cap : Nat} {xs : List Int} (ho : Own w B (.slice a xs.length cap) xs) (hl : xs.length ≤ 140737488355328) :
    Calls Tryd.prog 15 #[.slice a xs.length cap] w fun e w' => e = .returned (.tuple #[]) ∧ ∃ g, (B ≤ g ∧ (∃ x, a = some x ∧ x.block = g) ∨ g = w.heap.size) ∧ But g w w' := by
  rcases ho.2 with ⟨e1, h0⟩ | ⟨g, c, cur, e1, hB, hh, _⟩
  · injection e1 with h1 h2 h3
    rw [h1, h2]
    refine (spoil8_nil _ _ w).mono ?_
    rintro e w' ⟨rfl, rfl⟩
    exact ⟨rfl, _, .inr rfl, But.refl _ _⟩
  · injection e1 with h1 h2 h3
    subst h1
    refine (spoil8_own g xs.length cap xs B w ho rfl hl).mono ?_
    rintro e w' ⟨rfl, hb⟩
    exact ⟨rfl, g, .inl ⟨hB, _, rfl, rfl⟩, hb⟩

set_option maxRecDepth 100000 in
set_option maxHeartbeats 4000000 in
theorem encodes_core (k f s : Int) (a : Option Addr) (n cap : Nat) (ys XS : List Int) (TT : ByteArray) (E : Int) (PVb : Bool) (w : World) (hs : Ds w a n cap ys) (hXB : isB XS) (hXL : XS.length ≤ 100000)
    (CE : ∀ (b : Option Addr) (c : Nat) (V : World), Ds V b n c ys → Calls Tryd.prog 9 #[.agg (pfC k f s (.slice b n c)).toArray] V fun r w' => Below V.heap.size V w' ∧ ∃ v, r = .returned (.tuple #[v, .int .i64 E]) ∧ Own w' V.heap.size v XS)
    (CR : ∀ (b : Option Addr) (c : Nat) (V : World), Ds V b n c ys → Calls Tryd.prog 10 #[.agg (pfC k f s (.slice b n c)).toArray] V fun r w' => Below V.heap.size V w' ∧ ∃ v, r = .returned (.tuple #[v, .int .i64 E]) ∧ Own w' V.heap.size v XS)
    (CT : ∀ (b : Option Addr) (c : Nat) (V : World), Ds V b n c ys → Below w.heap.size w V → Calls Tryd.prog 11 #[.agg (pfC k f s (.slice b n c)).toArray] V fun r w' => r = .returned (.tuple #[.string TT, .int .i64 E]) ∧ Below V.heap.size V w')
    (CU : ∀ (b : Option Addr) (c : Nat) (V : World), Ds V b n c ys → Calls Tryd.prog 12 #[.agg (pfC k f s (.slice b n c)).toArray] V fun r w' => r = .returned (.tuple #[.string TT, .int .i64 E]) ∧ Below V.heap.size V w')
    (CV : ∀ (b : Option Addr) (c : Nat) (V : World), Calls Tryd.prog 13 #[.agg (pfC k f s (.slice b n c)).toArray] V fun r w' => r = .returned (.bool PVb) ∧ Below V.heap.size V w')
    (CW : ∀ (b : Option Addr) (c : Nat) (V : World), Calls Tryd.prog 14 #[.agg (pfC k f s (.slice b n c)).toArray] V fun r w' => r = .returned (.bool PVb) ∧ Below V.heap.size V w') :
    Calls Tryd.prog 3 #[.agg (pfC k f s (.slice a n cap)).toArray] w fun e w' => e = .returned (.bool true) ∧ Below w.heap.size w w' := by
  have HS := hide hs
  have HXB := hide hXB
  have HE := hide CE
  have HR := hide CR
  have HT := hide CT
  have HU := hide CU
  have HV := hide CV
  have HW := hide CW
  clear hs hXB CE CR CT CU CV CW
  go_enter Tryd.func3, Tryd.ntmps3
  go_wp2_with (refine step_box (cs := pfC k f s (.slice a n cap)) rfl rfl ?_)
  intro w1 g1 hr1 hl1 hb1
  have R1 := hide hr1
  have B1 := hide hb1
  clear hr1 hb1
  go_wp2_with (first | (refine step_loadA wP rfl rfl R1.out rfl ?_) | fail)
  refine (lent_any k f s a n cap ys _ (HS.out.below B1.out)).mono ?_
  rintro r w2 ⟨hb2, a', cap', rfl, hd2⟩
  have D2 := hide hd2
  have B2 := hide (on_below B1.out hb2)
  have R2 := hide (R1.out.on hb2)
  clear hb2 hd2 R1 B1
  go_wp2_with (refine step_alloc zP rfl ?_)
  intro w3 g3 hr3 hl3 hb3
  have G3 := hide hr3
  clear hr3
  go_wp2_with (refine step_storeA wP rfl rfl rfl G3.out rfl (One.pf _ _ _ _ _ _) rfl ?_)
  intro w4 hg4 hbut4
  have Y4 := hide (hb3.trans (hbut4.below hl3))
  have I4 := hide hg4
  have D4 := hide (D2.out.below Y4.out)
  have B4 := hide (on_below B2.out Y4.out)
  have R4 := hide (R2.out.on Y4.out)
  have P4 := hide (HS.out.below B4.out)
  clear hg4 hbut4 hb3 hl3 Y4 G3 D2 B2 R2
  go_wp2_with (first | (refine step_loadA wP rfl rfl I4.out rfl ?_) | fail)
  refine (HE.out _ _ _ D4.out).mono ?_
  rintro r w5 ⟨hb5, vx, rfl, hx5⟩
  obtain ⟨ax, cx, rfl, hsx, hpx⟩ := own_lies hx5 HXB.out (by omega)
  have OX := hide hx5
  have PX := hide hpx
  have SX := hide hsx
  have Y5 := hide hb5
  have I5 := hide (I4.out.on hb5)
  have D5 := hide (D4.out.below hb5)
  clear hb5 hx5 hsx hpx
  go_wp2_with (first | (refine step_loadA wP rfl rfl I5.out rfl ?_) | fail)
  refine (HE.out _ _ _ D5.out).mono ?_
  rintro r w6 ⟨hb6, vy, rfl, hy6⟩
  obtain ⟨ay, cy, rfl, hsy, hpy⟩ := own_lies hy6 HXB.out (by omega)
  have PY := hide hpy
  have SY := hide hsy
  have OX6 := hide (OX.out.below hb6)
  have SX6 := hide (SX.out.below hb6)
  have Y6 := hide (on_below Y5.out hb6)
  have h65 := hb6.size
  clear hb6 hy6 hsy hpy OX SX
  have R6 := hide (R4.out.on Y6.out)
  have P6 := hide (P4.out.below Y6.out)
  go_wp2_with (first | (refine step_loadA wP rfl rfl R6.out rfl ?_) | fail)
  refine (HR.out _ _ _ P6.out).mono ?_
  rintro r w7 ⟨hb7, vz, rfl, hz7⟩
  obtain ⟨az, cz, rfl, hsz, hpz⟩ := own_lies hz7 HXB.out (by omega)
  have PZ := hide hpz
  have SZ := hide hsz
  have OX7 := hide (OX6.out.below hb7)
  have SX7 := hide (SX6.out.below hb7)
  have SY7 := hide (SY.out.below hb7)
  have Y7 := hide (on_below Y6.out hb7)
  have h76 := hb7.size
  clear hb7 hz7 hsz hpz OX6 SX6 SY Y6 R6 P6
  have I7 := hide (I4.out.on Y7.out)
  have D7 := hide (D4.out.below Y7.out)
  go_wp2_with (first | (refine step_loadA wP rfl rfl I7.out rfl ?_) | fail)
  refine (HT.out _ _ _ D7.out (on_below B4.out Y7.out)).mono ?_
  rintro r w8 ⟨rfl, hb8⟩
  have Z8 := hide hb8
  clear hb8
  have Y8 := hide (on_below Y7.out Z8.out)
  have R8 := hide (R4.out.on Y8.out)
  have P8 := hide (P4.out.below Y8.out)
  go_wp2_with (first | (refine step_loadA wP rfl rfl R8.out rfl ?_) | fail)
  refine (HU.out _ _ _ P8.out).mono ?_
  rintro r w9 ⟨rfl, hb9⟩
  have Z9 := hide (on_below Z8.out hb9)
  have Y9 := hide (on_below Y8.out hb9)
  have h97 := Z9.out.size
  clear hb9 Z8 Y8 R8 P8
  have OX9 := hide (OX7.out.below Z9.out)
  have SX9 := hide (SX7.out.below Z9.out)
  have SY9 := hide (SY7.out.below Z9.out)
  have SZ9 := hide (SZ.out.below Z9.out)
  have I9 := hide (I4.out.on Y9.out)
  have R9 := hide (R4.out.on Y9.out)
  clear OX7 SX7 SY7 SZ Z9 I7 D7 Y7
  go_wp2_with fail
  refine wp_region_noPanic ?_
  have Y0 := hide ((Below.refl w9.heap.size w9).drew)
  obtain ⟨dP, huP, hdP⟩ := wP.und
  have HI : Hid ((Tryd.prog.info? 24).map (·.size) = some 4) := hide wP.size
  have HIN : Hid (∀ v : World, Below w9.heap.size w9 v → v.rangeAt g3 0 (pfC k f s (.slice a' n cap'))) := hide (fun v hv => (I9.out.on hv).range 0 _ (by simp))
  have HPR : Hid (∀ v : World, Below w9.heap.size w9 v → v.rangeAt g1 0 (pfC k f s (.slice a n cap))) := hide (fun v hv => (R9.out.on hv).range 0 _ (by simp))
  have HX0 : Hid (∀ v : World, Below w9.heap.size w9 v → Sl v ax XS.length cx XS) := hide (fun v hv => SX9.out.below hv)
  have HZ0 : Hid (∀ v : World, Below w9.heap.size w9 v → Sl v az XS.length cz XS) := hide (fun v hv => SZ9.out.below hv)
  refine wp_region_held_drew (S := fun v : World => Below w9.heap.size w9 v) (by kernel_rfl) Y0.out (fun hHeld => ?_)
  refine takeH 0 41 (.agg (pfC k f s (.slice a' n cap')).toArray) hHeld rfl rfl (by kernel_rfl) (by kernel_rfl) (by kernel_rfl) (fun _ _ _ h => h) (yieldsIf_load_mid (by rfl) _ _ rfl g3 0 rfl _ _ (fun w h => HIN.out w h) huP hdP HI.out) ?_
  simp only [Act.put, List.setIfInBounds_toArray, List.set_cons_zero, List.set_cons_succ]
  refine takeH 2 43 (.agg (pfC k f s (.slice a n cap)).toArray) hHeld rfl rfl (by kernel_rfl) (by kernel_rfl) (by kernel_rfl) (fun _ _ _ h => h) (yieldsIf_load_mid (by rfl) _ _ rfl g1 0 rfl _ _ (fun w h => HPR.out w h) huP hdP HI.out) ?_
  simp only [Act.put, List.setIfInBounds_toArray, List.set_cons_zero, List.set_cons_succ]
  refine wpAnyH_ready (rs := [1]) (by kernel_rfl) (by simp) (AllReadyH.cons rfl (fun K hK => ?_) AllReadyH.nil)
  rw [if_pos (by rfl)]
  go_simp
  refine (HV.out _ _ _).mono ?_
  rintro r v1 ⟨rfl, hv1⟩
  have Y1 := hide (on_below Y0.out hv1)
  refine hK.out _ _ Y1.out (fun hHeld => ?_)
  clear hK K hv1
  try simp only [Act.put, List.setIfInBounds_toArray, List.set_cons_zero, List.set_cons_succ]
  refine wpAnyH_ready (rs := [3]) (by kernel_rfl) (by simp) (AllReadyH.cons rfl (fun K hK => ?_) AllReadyH.nil)
  rw [if_pos (by rfl)]
  go_simp
  refine (HW.out _ _ _).mono ?_
  rintro r v2 ⟨rfl, hv2⟩
  have Y2 := hide (on_below Y1.out hv2)
  refine hK.out _ _ Y2.out (fun hHeld => ?_)
  clear hK K hv2
  try simp only [Act.put, List.setIfInBounds_toArray, List.set_cons_zero, List.set_cons_succ]
  refine takeH 4 45 (.bool false) hHeld rfl rfl (by kernel_rfl) (by kernel_rfl) (by kernel_rfl) (fun _ _ _ h => h) (Or.inl ⟨by rfl, fun w _ => by go_simp⟩) ?_
  simp only [Act.put, List.setIfInBounds_toArray, List.set_cons_zero, List.set_cons_succ]
  refine takeH 5 46 (.bool false) hHeld rfl rfl (by kernel_rfl) (by kernel_rfl) (by kernel_rfl) (fun _ _ _ h => h) (Or.inl ⟨by rfl, fun w _ => by go_simp⟩) ?_
  simp only [Act.put, List.setIfInBounds_toArray, List.set_cons_zero, List.set_cons_succ]
  refine takeH 6 47 (.slice ax XS.length cx) hHeld rfl rfl (by kernel_rfl) (by kernel_rfl) (by kernel_rfl) (fun _ _ _ h => h) (Or.inl ⟨by rfl, fun w _ => by go_simp⟩) ?_
  simp only [Act.put, List.setIfInBounds_toArray, List.set_cons_zero, List.set_cons_succ]
  refine takeH 7 48 (.string (str XS)) hHeld rfl rfl (by kernel_rfl) (by kernel_rfl) (by kernel_rfl) (fun _ _ _ h => h) (Or.inl ⟨by rfl, fun w h => run_op rfl (toStr (HX0.out w h))⟩) ?_
  simp only [Act.put, List.setIfInBounds_toArray, List.set_cons_zero, List.set_cons_succ]
  refine takeH 8 49 (.slice az XS.length cz) hHeld rfl rfl (by kernel_rfl) (by kernel_rfl) (by kernel_rfl) (fun _ _ _ h => h) (Or.inl ⟨by rfl, fun w _ => by go_simp⟩) ?_
  simp only [Act.put, List.setIfInBounds_toArray, List.set_cons_zero, List.set_cons_succ]
  refine takeH 9 50 (.string (str XS)) hHeld rfl rfl (by kernel_rfl) (by kernel_rfl) (by kernel_rfl) (fun _ _ _ h => h) (Or.inl ⟨by rfl, fun w h => run_op rfl (toStr (HZ0.out w h))⟩) ?_
  simp only [Act.put, List.setIfInBounds_toArray, List.set_cons_zero, List.set_cons_succ]
  refine takeH 10 51 (.bool false) hHeld rfl rfl (by kernel_rfl) (by kernel_rfl) (by kernel_rfl) (fun _ _ _ h => h) (Or.inl ⟨by rfl, fun w _ => by go_simp⟩) ?_
  simp only [Act.put, List.setIfInBounds_toArray, List.set_cons_zero, List.set_cons_succ]
  refine takeH 11 52 (.bool false) hHeld rfl rfl (by kernel_rfl) (by kernel_rfl) (by kernel_rfl) (fun _ _ _ h => h) (Or.inl ⟨by rfl, fun w _ => by go_simp⟩) ?_
  simp only [Act.put, List.setIfInBounds_toArray, List.set_cons_zero, List.set_cons_succ]
  refine takeH 12 53 (.bool false) hHeld rfl rfl (by kernel_rfl) (by kernel_rfl) (by kernel_rfl) (fun _ _ _ h => h) (Or.inl ⟨by rfl, fun w _ => by go_simp⟩) ?_
  simp only [Act.put, List.setIfInBounds_toArray, List.set_cons_zero, List.set_cons_succ]
  refine takeH 13 54 (.int .i64 E) hHeld rfl rfl (by kernel_rfl) (by kernel_rfl) (by kernel_rfl) (fun _ _ _ h => h) (Or.inl ⟨by rfl, fun w _ => by go_simp⟩) ?_
  simp only [Act.put, List.setIfInBounds_toArray, List.set_cons_zero, List.set_cons_succ]
  refine takeH 14 55 (.int .i64 E) hHeld rfl rfl (by kernel_rfl) (by kernel_rfl) (by kernel_rfl) (fun _ _ _ h => h) (Or.inl ⟨by rfl, fun w _ => by go_simp⟩) ?_
  simp only [Act.put, List.setIfInBounds_toArray, List.set_cons_zero, List.set_cons_succ]
  refine takeH 15 56 (.bool false) hHeld rfl rfl (by kernel_rfl) (by kernel_rfl) (by kernel_rfl) (fun _ _ _ h => h) (Or.inl ⟨by rfl, fun w _ => by go_simp⟩) ?_
  simp only [Act.put, List.setIfInBounds_toArray, List.set_cons_zero, List.set_cons_succ]
  refine takeH 16 57 (.bool false) hHeld rfl rfl (by kernel_rfl) (by kernel_rfl) (by kernel_rfl) (fun _ _ _ h => h) (Or.inl ⟨by rfl, fun w _ => by go_simp⟩) ?_
  simp only [Act.put, List.setIfInBounds_toArray, List.set_cons_zero, List.set_cons_succ]
  refine takeH 17 58 (.bool false) hHeld rfl rfl (by kernel_rfl) (by kernel_rfl) (by kernel_rfl) (fun _ _ _ h => h) (Or.inl ⟨by rfl, fun w _ => by go_simp⟩) ?_
  simp only [Act.put, List.setIfInBounds_toArray, List.set_cons_zero, List.set_cons_succ]
  refine takeH 18 59 (.string TT) hHeld rfl rfl (by kernel_rfl) (by kernel_rfl) (by kernel_rfl) (fun _ _ _ h => h) (Or.inl ⟨by rfl, fun w _ => by go_simp⟩) ?_
  simp only [Act.put, List.setIfInBounds_toArray, List.set_cons_zero, List.set_cons_succ]
  refine takeH 19 60 (.string TT) hHeld rfl rfl (by kernel_rfl) (by kernel_rfl) (by kernel_rfl) (fun _ _ _ h => h) (Or.inl ⟨by rfl, fun w _ => by go_simp⟩) ?_
  simp only [Act.put, List.setIfInBounds_toArray, List.set_cons_zero, List.set_cons_succ]
  refine takeH 20 61 (.bool false) hHeld rfl rfl (by kernel_rfl) (by kernel_rfl) (by kernel_rfl) (fun _ _ _ h => h) (Or.inl ⟨by rfl, fun w _ => by go_simp⟩) ?_
  simp only [Act.put, List.setIfInBounds_toArray, List.set_cons_zero, List.set_cons_succ]
  refine takeH 21 62 (.bool false) hHeld rfl rfl (by kernel_rfl) (by kernel_rfl) (by kernel_rfl) (fun _ _ _ h => h) (Or.inl ⟨by rfl, fun w _ => by go_simp⟩) ?_
  simp only [Act.put, List.setIfInBounds_toArray, List.set_cons_zero, List.set_cons_succ]
  refine takeH 22 63 (.bool false) hHeld rfl rfl (by kernel_rfl) (by kernel_rfl) (by kernel_rfl) (fun _ _ _ h => h) (Or.inl ⟨by rfl, fun w _ => by go_simp⟩) ?_
  simp only [Act.put, List.setIfInBounds_toArray, List.set_cons_zero, List.set_cons_succ]
  refine takeH 23 64 (.int .i64 E) hHeld rfl rfl (by kernel_rfl) (by kernel_rfl) (by kernel_rfl) (fun _ _ _ h => h) (Or.inl ⟨by rfl, fun w _ => by go_simp⟩) ?_
  simp only [Act.put, List.setIfInBounds_toArray, List.set_cons_zero, List.set_cons_succ]
  refine takeH 24 65 (.int .i64 E) hHeld rfl rfl (by kernel_rfl) (by kernel_rfl) (by kernel_rfl) (fun _ _ _ h => h) (Or.inl ⟨by rfl, fun w _ => by go_simp⟩) ?_
  simp only [Act.put, List.setIfInBounds_toArray, List.set_cons_zero, List.set_cons_succ]
  refine takeH 25 66 (.bool false) hHeld rfl rfl (by kernel_rfl) (by kernel_rfl) (by kernel_rfl) (fun _ _ _ h => h) (Or.inl ⟨by rfl, fun w _ => by go_simp⟩) ?_
  simp only [Act.put, List.setIfInBounds_toArray, List.set_cons_zero, List.set_cons_succ]
  refine takeH 26 67 (.bool false) hHeld rfl rfl (by kernel_rfl) (by kernel_rfl) (by kernel_rfl) (fun _ _ _ h => h) (Or.inl ⟨by rfl, fun w _ => by go_simp⟩) ?_
  simp only [Act.put, List.setIfInBounds_toArray, List.set_cons_zero, List.set_cons_succ]
  refine wpAnyH_done (by kernel_rfl) ?_ _
  refine NoPanic.normal ?_
  clear hHeld huP hdP HIN HPR HX0 HZ0 HI
  have h29 := Y2.out.size
  have OX2 := hide (OX9.out.below Y2.out)
  have SY2 := hide (SY9.out.below Y2.out)
  have SZ2 := hide (SZ9.out.below Y2.out)
  have YT := hide (on_below Y9.out Y2.out)
  clear OX9 SX9 SY9 SZ9 I9 R9 Y9 Y0 Y1
  go_wp2_with fail
  refine (spoil8_any OX2.out (by omega)).mono ?_
  rintro r w10 ⟨rfl, g, hg, hbut⟩
  have h5 := Y5.out.size
  have ny : Apart g ay := fun x hx => by
    have := PY.out x hx
    rcases hg with ⟨_, y, e, e2⟩ | e
    · have := PX.out y e; omega
    · omega
  have nz : Apart g az := fun x hx => by
    have := PZ.out x hx
    rcases hg with ⟨_, y, e, e2⟩ | e
    · have := PX.out y e; omega
    · omega
  have hle : w4.heap.size ≤ g := by
    rcases hg with ⟨e, _⟩ | e
    · exact e
    · have := YT.out.size; omega
  have SY3 := hide (SY2.out.but hbut fun _ => ny)
  have SZ3 := hide (SZ2.out.but hbut fun _ => nz)
  have YU := hide (YT.out.trans (hbut.below hle))
  have IU := hide (I4.out.on YU.out)
  have RU := hide (R4.out.on YU.out)
  have DU := hide (D4.out.below YU.out)
  have PU := hide (P4.out.below YU.out)
  clear hg hbut ny nz SY2 SZ2 YT OX2 PX PY PZ
  go_wp2_with (first | (refine step_loadA wP rfl rfl IU.out rfl ?_) | (refine step_loadA wP rfl rfl RU.out rfl ?_) | (refine step_toStr rfl rfl SY3.out ?_) | (refine step_toStr rfl rfl SZ3.out ?_) | fail)
  refine (samep k f s a' a n cap' cap ys _ DU.out PU.out).mono ?_
  rintro r w11 ⟨rfl, hb11⟩
  go_wp2_with fail
  refine (names8 _).mono ?_
  rintro r w12 ⟨rfl, rfl⟩
  go_wp2
  go_ret
  exact ⟨rfl, on_below B4.out (on_below YU.out hb11)⟩

theorem encodes_walk (k f s : Int) (a : Option Addr) (n cap : Nat) (ys : List Int) (w : World) (hs : Ds w a n cap ys) (ht : PT w) :
    Calls Tryd.prog 3 #[.agg (pfC k f s (.slice a n cap)).toArray] w fun e w' => e = .returned (.bool true) ∧ Below w.heap.size w w' := by
  have hn := hs.hreach
  by_cases hv : pval k f s n = true
  · have hc : pcnt k f s = some n := by unfold pval at hv; simpa using hv
    obtain ⟨hk, hf0, hfs, hs48⟩ := pcnt_bd hc
    obtain ⟨f', rfl⟩ := Int.eq_ofNat_of_zero_le hf0
    obtain ⟨s', rfl⟩ := Int.eq_ofNat_of_zero_le (show 0 ≤ s by omega)
    have hn49 := pcnt_le hc
    refine encodes_core k f' s' a n cap ys (encB k f' s' n ys) (bA (textU k f' s' n ys)) 0 true w hs ?_ ?_ ?_ ?_ ?_ ?_ ?_ ?_
    · have h1 : isB [k] := isB_one (by omega) (by omega)
      exact (((h1.append (be_isB _ 8)).append (be_isB _ 8)).append (isB_one (by omega) (by omega))).append hs.hbyte
    · unfold encB; rw [List.length_append, encH_length, hs.hlen]; omega
    · intro b c V hV
      exact (encode_ok k f' s' b n c ys V hV hc).mono fun r w' ⟨h1, v, h2, _, h3⟩ => ⟨h1, v, h2, h3⟩
    · intro b c V hV
      exact (encodeR_ok k f' s' b n c ys V hV hc).mono fun r w' ⟨h1, v, h2, _, h3⟩ => ⟨h1, v, h2, h3⟩
    · exact fun b c V hV hb => text_ok k f' s' b n c ys V hV hc (ht.below hb)
    · exact fun b c V hV => textR_ok k f' s' b n c ys V hV hc
    · exact fun b c V => by have := valid_any k f' s' b n c V (by omega); rwa [hv] at this
    · exact fun b c V => by have := validR_any k f' s' b n c V (by omega); rwa [hv] at this
  · have hv : pval k f s n = false := by simpa using hv
    refine encodes_core k f s a n cap ys [] (bA []) 2 false w hs (by intro x hx; simp at hx) (by simp) ?_ ?_ ?_ ?_ ?_ ?_
    · intro b c V hV
      exact (encode_bad k f s b n c V (by omega) hv).mono fun r w' ⟨h1, h2⟩ => ⟨h2, _, h1, World.ownsRow_nil _ _ _ _⟩
    · intro b c V hV
      exact (encodeR_bad k f s b n c V (by omega) hv).mono fun r w' ⟨h1, h2⟩ => ⟨h2, _, h1, World.ownsRow_nil _ _ _ _⟩
    · exact fun b c V hV hb => text_bad k f s b n c V (by omega) hv
    · exact fun b c V hV => textR_bad k f s b n c V (by omega) hv
    · exact fun b c V => by have := valid_any k f s b n c V (by omega); rwa [hv] at this
    · exact fun b c V => by have := validR_any k f s b n c V (by omega); rwa [hv] at this

end Go.Proofs.YtojepbapdjkknaaDoor
