/-
  Texts one behind the other: Wtx Wu Wv WeLaw FrW ShB Wca Wnu Wnm Wnr Whd Whe Wlp Wls Wpr WpLaw Wbk.
-/
import Derived.Test.YtojepbapdjkknaaDoorPkbA
import Derived.Lib.LaidTab
import Derived.Test.YtojepbapdjkknaaDoorNmR
import Derived.Test.YtojepbapdjkknaaDoorFrK
import Derived.Test.YtojepbapdjkknaaDoorCon
import Derived.Lib.SmallJoins
import Derived.Lib.TrailingZeros
import Derived.Stop.LaidErr
import Derived.Test.YtojepbapdjkknaaDoorProg
import Derived.Shelf.Small.Bits
import Derived.Shelf.Small.Strs
import Derived.Shelf.Strconv.Atoi
import Derived.Shelf.LaysM
import Derived.Shelf.Strconv.AtoiErrFast
import Derived.Shelf.Strconv.ParseIntEmpty
import Derived.Shelf.Strconv.AtoiFail
import Derived.Shelf.Strconv.Clone
import Derived.Shelf.Strconv.SyntaxError
import Derived.Shelf.LaysC
import Derived.Shelf.Strconv.ToError
import Derived.Shelf.Strconv.Lower
import Derived.Shelf.Strconv.ParseUint10
import Derived.Shelf.Strconv.ParseUint10Empty
import Derived.Shelf.Strconv.ParseUint10Any
import Derived.Shelf.Strconv.ParseInt10
import Derived.Shelf.Strconv.AtoiLong
import Derived.Shelf.Strconv.AtoiInnerAll
import Derived.Shelf.Strconv.RangeError
import Derived.Shelf.Strconv.ToErrorRange
import Derived.Shelf.Strconv.AtoiAll
import Derived.Shelf.Strconv.ErrVarAll
import Derived.Shelf.Strings.Search1
import Derived.Shelf.Strings.Search2
import Derived.Shelf.Strings.Cut
import Derived.Shelf.Strings.Shaped
import Derived.Lib.CutLaws
import Derived.Lib.AtoiTie
import Derived.Lib.AtoiAllCases
import Derived.Lib.AtoiErrMem
import Derived.Test.YtojepbapdjkknaaDoorYQb
import Derived.Deep.Cut
import Derived.Deep.CutRange

/-
  wire.Text.
-/
namespace Go.Proofs.YtojepbapdjkknaaDoor
open Go.RowKit
set_option linter.unusedVariables false
set_option linter.unusedSimpArgs false

/-- The table of powers of ten lies there. -/
abbrev PT (w : World) : Prop := Lib.TabIs Tryd.prog w "internal/strconv.uint64pow10" .u64 Lib.pow10Tab
theorem gPT : Tryd.prog.globalNamed "internal/strconv.uint64pow10" = some 0 := by kernel_rfl
theorem PT.lt {w : World} (h : PT w) : 0 < w.heap.size := World.block_lt_of_cell? w _ (h.cell gPT 0 (by rw [Lib.pow10Tab_length]; decide))
theorem PT.below {w w' : World} (h : PT w) (hb : Below w.heap.size w w') : PT w' := by
  have hl := h.lt
  unfold PT Lib.TabIs World.var? at *
  rw [gPT] at h ⊢
  simp only [Option.bind_some] at h ⊢
  rw [hb.block _ hl]
  exact h
theorem below_grow (w : World) (k : Nat) (os : Array Obj) : Below w.heap.size w (Go.Sort.grow (w.drewN k) os) :=
  ⟨rfl, rfl, rfl, by simp [Go.Sort.grow], fun i hi => by
    show (w.heap ++ os)[i]? = w.heap[i]?
    rw [Array.getElem?_append_left hi]⟩
theorem itoa_any (n : Nat) (w : World) (hn : n ≤ 9223372036854775807) (ht : PT w) : Calls Tryd.prog 32 #[.int .i64 (n : Int)] w fun r w' => r = .returned (.string (bA (Lib.decDigits n))) ∧ Below w.heap.size w w' := by
  refine (Tryd.strconv_Itoa (n : Int) (by omega) (by omega) w ht).mono ?_
  rintro e w' ⟨rfl, k, os, rfl⟩
  exact ⟨by rw [Lib.itoa_nonneg]; rfl, below_grow w k os⟩
theorem Sl.oct {w : World} {a : Option Addr} {len cap : Nat} {xs : List Int} (h : Sl w a len cap xs) : Oct.Sl w a len cap xs := ⟨h.1, h.2, h.3, h.4, h.5, h.6, h.7⟩
theorem zBd : Zeroed 63 [.pointer none, .slice none 0 0] := fun _ _ _ _ _ _ _ => by kernel_rfl
theorem wBd : Wide 63 2 := ⟨by kernel_rfl, by kernel_rfl⟩
section
variable {dst : Option Tmp} {ty : TypeId} {pos : String} {aft : Array Edge} {gd : Option (Nat × Bool)} {ops : Array Oper} {rest : List Oper} {a : Act} {w : World} {Q : Exit → Act → World → Prop}
theorem step_buildBd (hw : Region.wanted ⟨dst, .build 63 #[], ty, pos, aft, gd⟩ (yielded ops a.tmps) = true)
    (h : wpList Tryd.prog ops Q rest (a.put dst (.agg ([.pointer none, .slice none 0 0] : List Value).toArray)) w) : wpList Tryd.prog ops Q (⟨dst, .build 63 #[], ty, pos, aft, gd⟩ :: rest) a w :=
  step_run hw _ w (by kernel_rfl) h
end
/-- A builder that holds these letters. -/
abbrev Bdr (w : World) (b : Nat) (l : List UInt8) : Prop := Lib.IsBuilderF 63 5 b b (Lib.byteCells l) w
theorem Bdr.new {w : World} {b : Nat} (h : Blk w b 63 [.pointer none, .slice none 0 0]) : Bdr w b [] :=
  .inl ⟨Nat.le_refl _, .slice none 0 0, h, World.ownsRowF_nil _ _ _ _, by simp [Value.ownBlock]⟩
theorem bdr_at_on {w w' : World} {B b : Nat} {p : Value} {bs : List Value} (h : Lib.BuilderAtF 63 5 B b p bs w) (hb : Below w.heap.size w w') : Lib.BuilderAtF 63 5 B b p bs w' := by
  obtain ⟨h1, v, h2, h3, h4⟩ := h
  have hlt : b < w.heap.size := (Array.getElem?_eq_some_iff.1 h2).1
  refine ⟨h1, v, by rw [hb.block b hlt]; exact h2, ⟨h3.1, ?_⟩, h4⟩
  rcases h3.2 with h5 | ⟨g, cap, cur, fz, e, hB, hh, r⟩
  · exact .inl h5
  · exact .inr ⟨g, cap, cur, fz, e, hB, by rw [hb.block g (Array.getElem?_eq_some_iff.1 hh).1]; exact hh, r⟩
theorem Bdr.on {w w' : World} {b : Nat} {l : List UInt8} (h : Bdr w b l) (hb : Below w.heap.size w w') : Bdr w' b l :=
  h.elim (fun x => .inl (bdr_at_on x hb)) (fun x => .inr (bdr_at_on x hb))
theorem Bdr.lt {w : World} {b : Nat} {l : List UInt8} (h : Bdr w b l) : b < w.heap.size := by
  rcases h with ⟨_, v, h2, _⟩ | ⟨_, v, h2, _⟩
  · exact (Array.getElem?_eq_some_iff.1 h2).1
  · exact (Array.getElem?_eq_some_iff.1 h2).1
theorem write_any (b : Nat) (l : List UInt8) (s : ByteArray) (w : World) (h : Bdr w b l) (hlen : l.length + s.size ≤ 140737488355328) :
    Calls Tryd.prog 31 #[.pointer (some ⟨b, 0, none⟩), .string s] w fun e w' => ∃ z : Int, e = .returned (.tuple #[.int .i64 z, .nilIface]) ∧ Bdr w' b (l ++ strL s) ∧ Below b w w' := by
  refine (writeString_any b b (Lib.byteCells l) s w h (by rw [byteCells_length]; exact hlen) (Nat.le_of_lt h.lt)).mono ?_
  rintro e w' ⟨rfl, h1, h2⟩
  rw [strCells_eq, byteCells_app] at h1
  exact ⟨_, rfl, h1, h2⟩
set_option maxRecDepth 100000 in
theorem text_bad (k f s : Int) (a : Option Addr) (m cap : Nat) (w : World) (hm : m ≤ 9223372036854775807) (hv : pval k f s m = false) :
    Calls Tryd.prog 11 #[.agg (pfC k f s (.slice a m cap)).toArray] w fun r w' => r = .returned (.tuple #[.string (bA []), .int .i64 2]) ∧ Below w.heap.size w w' := by
  have HV := hide (fun V => valid_any k f s a m cap V hm)
  rw [hv] at HV
  go_enter Tryd.func11, Tryd.ntmps11
  go_wp2_with (refine step_box (cs := pfC k f s (.slice a m cap)) rfl rfl ?_)
  intro w1 g1 hr1 hl1 hb1
  have R1 := hide hr1
  clear hr1
  go_wp2_with (first | (refine step_loadA wP rfl rfl R1.out rfl ?_) | fail)
  refine (HV.out _).mono ?_
  rintro r w2 ⟨rfl, hb2⟩
  go_wp2
  go_ret2
  exact ⟨rfl, on_below hb1 hb2⟩

set_option maxRecDepth 100000 in
set_option maxHeartbeats 1000000 in
theorem text_ok (k : Int) (f s : Nat) (a : Option Addr) (n cap : Nat) (ys : List Int) (w : World) (hs : Ds w a n cap ys) (hc : pcnt k (f : Int) (s : Int) = some n) (ht : PT w) :
    Calls Tryd.prog 11 #[.agg (pfC k (f : Int) (s : Int) (.slice a n cap)).toArray] w fun r w' => r = .returned (.tuple #[.string (bA (textU k f s n ys)), .int .i64 0]) ∧ Below w.heap.size w w' := by
  have hn49 := pcnt_le hc
  obtain ⟨hk, hf0, hfs, hs48⟩ := pcnt_bd hc
  have HV := hide (fun V => valid_any k (f : Int) (s : Int) a n cap V (by omega))
  rw [show pval k (f : Int) (s : Int) n = true by unfold pval; simp [hc]] at HV
  have HS := hide hs
  have HT := hide ht
  have HYB := hide hs.hbyte
  have HYL := hide hs.hlen
  have I1 := hide (fun V hV => itoa_any f V (by omega) (ht.below (w' := V) hV))
  have I2 := hide (fun V hV => itoa_any s V (by omega) (ht.below (w' := V) hV))
  have l1 := dec_len f (by omega)
  have l2 := dec_len s (by omega)
  obtain ⟨DA, hDA⟩ : ∃ A, bA (Lib.decDigits f) = A := ⟨_, rfl⟩
  obtain ⟨DB, hDB⟩ : ∃ A, bA (Lib.decDigits s) = A := ⟨_, rfl⟩
  have sA : DA.size ≤ 20 := by rw [← hDA, ← strL_length, strL_bA]; exact l1
  have sB : DB.size ≤ 20 := by rw [← hDB, ← strL_length, strL_bA]; exact l2
  rw [hDA] at I1
  rw [hDB] at I2
  have eA : Hid (strL DA = Lib.decDigits f) := hide (by rw [← hDA, strL_bA])
  have eB : Hid (strL DB = Lib.decDigits s) := hide (by rw [← hDB, strL_bA])
  clear hs ht hc hDA hDB l1 l2
  rcases hk with rfl | rfl
  · skip
    go_enter Tryd.func11, Tryd.ntmps11
    go_wp2_with (refine step_box (cs := pfC 1 (f : Int) (s : Int) (.slice a n cap)) rfl rfl ?_)
    intro w1 g1 hr1 hl1 hb1
    have R1 := hide hr1
    have B1 := hide hb1
    clear hr1 hb1
    go_wp2_with (first | (refine step_loadA wP rfl rfl R1.out rfl ?_) | fail)
    refine (HV.out _).mono ?_
    rintro r w2 ⟨rfl, hb2⟩
    have B2 := hide (on_below B1.out hb2)
    have R2 := hide (R1.out.on hb2)
    obtain ⟨c0, c1, c2', c3⟩ := pf_at R2.out
    clear hb2 R1 B1
    go_wp2_with (first | (refine step_buildBd rfl ?_) | (refine step_alloc zBd rfl ?_))
    intro w3 g5 hr3 hl3 hb3
    have R3 := hide hr3
    clear hr3
    go_wp2_with (refine step_storeA wBd rfl rfl rfl R3.out rfl (by intro v hv; simp at hv; rcases hv with rfl | rfl <;> rfl) rfl ?_)
    intro w4 hg4 hbut4
    have Y4 := hide (hb3.trans (hbut4.below hl3))
    have B4 := hide (on_below B2.out Y4.out)
    have P4 := hide (R2.out.on Y4.out)
    have D4 := hide (Bdr.new hg4)
    have h15 : g1 < g5 := by have := R2.out.lt; omega
    have hw5 : w.heap.size ≤ g5 := Nat.le_trans B2.out.size hl3
    clear hg4 hbut4 hb3 hl3 R3 R2 B2 Y4 c0 c1 c2' c3
    go_wp2_with fail
    generalize hWD : ({ data := #[105, 110, 99, 108, 117, 115, 105, 111, 110] } : ByteArray) = WD at *
    have sW : WD.size ≤ 11 := by rw [← hWD]; decide
    have eW : Hid (strL WD = wordU 1) := hide (by rw [← hWD]; rfl)
    clear hWD
    refine wp_region_noPanic ?_
    have g5l : g5 ≤ w4.heap.size := Nat.le_of_lt D4.out.lt
    have Z0 : Hid (Below g5 w4 w4.drew) := hide (((Below.refl w4.heap.size w4).drew).mono g5l)
    have D0 : Hid (Bdr w4.drew g5 []) := hide (D4.out.on ((Below.refl w4.heap.size w4).drew))
    have hc1 : ∀ v : World, Below g5 w4 v → v.cell? ⟨g1, 1, none⟩ = some (.int .i64 (f : Int)) := fun v hv => (pf_at (P4.out.below hv h15)).2.1
    have hc2 : ∀ v : World, Below g5 w4 v → v.cell? ⟨g1, 2, none⟩ = some (.int .i64 (s : Int)) := fun v hv => (pf_at (P4.out.below hv h15)).2.2.1
    have sSP : ({ data := #[32] } : ByteArray).size = 1 := rfl
    have sNL : ({ data := #[10] } : ByteArray).size = 1 := rfl
    refine wp_region_held_drew (S := fun v : World => Below g5 w4 v) (by kernel_rfl) Z0.out (fun hHeld => ?_)
    refine takeH 0 15 (.string WD) hHeld rfl rfl (by kernel_rfl) (by kernel_rfl) (by kernel_rfl) (fun _ _ _ h => h) (Or.inl ⟨by rfl, fun w _ => by go_simp⟩) ?_
    simp only [Act.put, List.setIfInBounds_toArray, List.set_cons_zero, List.set_cons_succ]
    refine takeH 1 16 (.string (WD ++ { data := #[32] })) hHeld rfl rfl (by kernel_rfl) (by kernel_rfl) (by kernel_rfl) (fun _ _ _ h => h) (Or.inl ⟨by rfl, fun w _ => run_addS rfl rfl (by rw [sSP]; omega)⟩) ?_
    simp only [Act.put, List.setIfInBounds_toArray, List.set_cons_zero, List.set_cons_succ]
    refine takeH 2 17 (.pointer (some ⟨g1, 1, none⟩)) hHeld rfl rfl (by kernel_rfl) (by kernel_rfl) (by kernel_rfl) (fun _ _ _ h => h) (Or.inl ⟨by rfl, fun w _ => by go_simp⟩) ?_
    simp only [Act.put, List.setIfInBounds_toArray, List.set_cons_zero, List.set_cons_succ]
    refine takeH 3 18 (.int .i64 (f : Int)) hHeld rfl rfl (by kernel_rfl) (by kernel_rfl) (by kernel_rfl) (fun _ _ _ h => h) (Or.inl ⟨by rfl, fun w hw => by have hw' : w.cell? ⟨g1, 1, none⟩ = some (.int .i64 (f : Int)) := hc1 _ hw; go_simp⟩) ?_
    simp only [Act.put, List.setIfInBounds_toArray, List.set_cons_zero, List.set_cons_succ]
    refine takeH 7 22 (.pointer (some ⟨g1, 2, none⟩)) hHeld rfl rfl (by kernel_rfl) (by kernel_rfl) (by kernel_rfl) (fun _ _ _ h => h) (Or.inl ⟨by rfl, fun w _ => by go_simp⟩) ?_
    simp only [Act.put, List.setIfInBounds_toArray, List.set_cons_zero, List.set_cons_succ]
    refine takeH 8 23 (.int .i64 (s : Int)) hHeld rfl rfl (by kernel_rfl) (by kernel_rfl) (by kernel_rfl) (fun _ _ _ h => h) (Or.inl ⟨by rfl, fun w hw => by have hw' : w.cell? ⟨g1, 2, none⟩ = some (.int .i64 (s : Int)) := hc2 _ hw; go_simp⟩) ?_
    simp only [Act.put, List.setIfInBounds_toArray, List.set_cons_zero, List.set_cons_succ]
    refine wpAnyH_ready (rs := [4]) (by kernel_rfl) (by simp) (AllReadyH.cons rfl (fun K hK => ?_) AllReadyH.nil)
    rw [if_pos (by rfl)]
    go_simp
    refine (I1.out _ (B4.out.trans (Z0.out.mono hw5))).mono ?_
    rintro r v1 ⟨rfl, hv1⟩
    have Z1 := hide (Z0.out.trans (hv1.mono (Nat.le_trans g5l Z0.out.size)))
    have D1 := hide (D0.out.on hv1)
    refine hK.out _ _ Z1.out (fun hHeld => ?_)
    clear hK K hv1
    try simp only [Act.put, List.setIfInBounds_toArray, List.set_cons_zero, List.set_cons_succ]
    refine takeH 5 20 (.string ((WD ++ { data := #[32] }) ++ DA)) hHeld rfl rfl (by kernel_rfl) (by kernel_rfl) (by kernel_rfl) (fun _ _ _ h => h) (Or.inl ⟨by rfl, fun w _ => run_addS rfl rfl (by rw [app_size, sSP]; omega)⟩) ?_
    simp only [Act.put, List.setIfInBounds_toArray, List.set_cons_zero, List.set_cons_succ]
    refine takeH 6 21 (.string (((WD ++ { data := #[32] }) ++ DA) ++ { data := #[32] })) hHeld rfl rfl (by kernel_rfl) (by kernel_rfl) (by kernel_rfl) (fun _ _ _ h => h) (Or.inl ⟨by rfl, fun w _ => run_addS rfl rfl (by rw [app_size, app_size, sSP]; omega)⟩) ?_
    simp only [Act.put, List.setIfInBounds_toArray, List.set_cons_zero, List.set_cons_succ]
    refine wpAnyH_ready (rs := [9]) (by kernel_rfl) (by simp) (AllReadyH.cons rfl (fun K hK => ?_) AllReadyH.nil)
    rw [if_pos (by rfl)]
    go_simp
    refine (I2.out _ (B4.out.trans (Z1.out.mono hw5))).mono ?_
    rintro r v2 ⟨rfl, hv2⟩
    have Z2 := hide (Z1.out.trans (hv2.mono (Nat.le_trans g5l Z1.out.size)))
    have D2 := hide (D1.out.on hv2)
    refine hK.out _ _ Z2.out (fun hHeld => ?_)
    clear hK K hv2
    try simp only [Act.put, List.setIfInBounds_toArray, List.set_cons_zero, List.set_cons_succ]
    refine takeH 10 25 (.string ((((WD ++ { data := #[32] }) ++ DA) ++ { data := #[32] }) ++ DB)) hHeld rfl rfl (by kernel_rfl) (by kernel_rfl) (by kernel_rfl) (fun _ _ _ h => h) (Or.inl ⟨by rfl, fun w _ => run_addS rfl rfl (by rw [app_size, app_size, app_size, sSP]; omega)⟩) ?_
    simp only [Act.put, List.setIfInBounds_toArray, List.set_cons_zero, List.set_cons_succ]
    refine takeH 11 26 (.string (((((WD ++ { data := #[32] }) ++ DA) ++ { data := #[32] }) ++ DB) ++ { data := #[10] })) hHeld rfl rfl (by kernel_rfl) (by kernel_rfl) (by kernel_rfl) (fun _ _ _ h => h) (Or.inl ⟨by rfl, fun w _ => run_addS rfl rfl (by rw [app_size, app_size, app_size, app_size, sSP, sNL]; omega)⟩) ?_
    simp only [Act.put, List.setIfInBounds_toArray, List.set_cons_zero, List.set_cons_succ]
    refine wpAnyH_ready (rs := [12]) (by kernel_rfl) (by simp) (AllReadyH.cons rfl (fun K hK => ?_) AllReadyH.nil)
    rw [if_pos (by rfl)]
    go_simp
    refine (write_any g5 [] _ _ D2.out (by rw [app_size, app_size, app_size, app_size, app_size, sSP, sNL]; simp; omega)).mono ?_
    rintro r v3 ⟨zz3, rfl, hd3, hv3⟩
    have Z3 := hide (Z2.out.trans hv3)
    have D3 : Hid (Bdr v3 g5 (headU 1 f s ++ bodyU ys 0)) := hide (by
      have e : ([] : List UInt8) ++ strL (((((WD ++ { data := #[32] }) ++ DA) ++ { data := #[32] }) ++ DB) ++ { data := #[10] }) = headU 1 f s ++ bodyU ys 0 := by
        rw [List.nil_append, strL_app, strL_app, strL_app, strL_app, strL_app, eW.out, eA.out, eB.out]
        show _ = headU 1 f s ++ []
        rw [List.append_nil]
        rfl
      rw [← e]
      exact hd3)
    refine hK.out _ _ Z3.out (fun hHeld => ?_)
    clear hK K hd3 hv3
    try simp only [Act.put, List.setIfInBounds_toArray, List.set_cons_zero, List.set_cons_succ]
    refine wpAnyH_done (by kernel_rfl) ?_ _
    refine NoPanic.normal ?_
    clear hHeld hc1 hc2 D0 D1 D2 Z0 Z1 Z2 sSP
    have c3 := (pf_at (P4.out.below Z3.out h15)).2.2.2
    go_wp2_with fail
    go_loopw [31] (fun i W => ∃ q : Nat, q ≤ n ∧ i = .int .i64 (q : Int) ∧ Bdr W g5 (headU 1 f s ++ bodyU ys q) ∧ Below g5 w4 W) (fun i _ => n - (intOf i).toNat)
    case atStart => exact ⟨0, by omega, rfl, D3.out, Z3.out⟩
    case round =>
      obtain ⟨q, hqn, rfl, hd, hz⟩ := hrel
      have DQ := hide hd
      have ZQ := hide hz
      clear hd hz D3 Z3 c3
      have hhl := headU_length 1 f s (by omega) (by omega)
      have hbl := bodyU_length HYL.out q hqn
      have g5q : g5 ≤ wr.heap.size := Nat.le_of_lt DQ.out.lt
      by_cases hlt : q < n
      · have hlt' : (q : Int) < (n : Int) := by omega
        obtain ⟨b, o, rfl⟩ := HS.out.place (by omega)
        have hdl := dat_length HYL.out hlt
        have HDL := hide hdl
        have HDU := hide (show (u8s (dat ys q)).length = 32 by rw [u8s_length, hdl])
        have HDB := hide (dat_isB HYB.out q)
        have BQ := hide (B4.out.trans (ZQ.out.mono hw5))
        have HRG := hide ((HS.out.below BQ.out).range q hlt)
        have hat := d_at b o n cap q (q : Int) rfl hlt
        have HB44 := hide (b64_size hdl)
        obtain ⟨TB, hTB⟩ : ∃ TB, Oct.str (Oct.b64B (dat ys q)) = TB := ⟨_, rfl⟩
        have HLN : Hid (strL (TB ++ { data := #[10] }) = lineU (dat ys q)) := hide (by rw [strL_app, ← hTB]; rfl)
        have sTB : TB.size = 44 := by rw [← hTB]; exact HB44.out
        have H64 : Hid (∀ (g : Nat) (V : World), Blk V g 45 (u8s (dat ys q)) → Calls Tryd.prog 33 #[.slice (some ⟨g, 0, none⟩) 32 32] V fun e w' => e = .returned (.string TB) ∧ Below V.heap.size V w') := hide (fun g V hg => by
          have hsl := hg.sl0 HDB.out (by omega)
          rw [HDL.out] at hsl
          have := Oct.b64_any (some ⟨g, 0, none⟩) 32 32 (dat ys q) V hsl.oct (by omega)
          rwa [hTB] at this)
        clear hdl hTB
        go_wp2_with (first | (refine step_loadR wD rfl rfl _ HRG.out HDU.out ?_) | (refine step_alloc zD rfl ?_))
        intro w7 g7 hr7 hl7 hb7
        have G7 := hide hr7
        clear hr7
        go_wp2_with (refine step_storeA wD rfl rfl rfl G7.out HDU.out (One.u8 _) (by rw [u8s_length, zer_length]) ?_)
        intro w8 hg8 hbut8
        have G8 := hide hg8
        have Y8 := hide (hb7.trans (hbut8.below hl7))
        have D8 := hide (DQ.out.on Y8.out)
        have Z8 := hide (ZQ.out.trans (Y8.out.mono g5q))
        have g58 : g5 ≤ w8.heap.size := Nat.le_of_lt D8.out.lt
        clear hg8 hbut8 hb7 hl7 G7 Y8 HRG hat DQ ZQ
        go_wp2_with fail
        refine (H64.out g7 _ G8.out).mono ?_
        rintro r w9 ⟨rfl, hb9⟩
        have D9 := hide (D8.out.on hb9)
        have Z9 := hide (Z8.out.trans (hb9.mono g58))
        clear hb9 D8 Z8 G8
        have hsz : ¬ 9223372036854775807 < TB.size + 1 := by omega
        go_wp2_with fail
        refine (write_any g5 _ _ _ D9.out (by rw [app_size, sNL, sTB, List.length_append]; omega)).mono ?_
        rintro r w10 ⟨zz10, rfl, hd10, hv10⟩
        rw [HLN.out, List.append_assoc, ← bodyU_succ] at hd10
        have D10 := hide hd10
        have Z10 := hide (Z9.out.trans hv10)
        clear hd10 hv10 D9 Z9
        go_wp2
        go_roundw
        case rel => exact ⟨q + 1, by omega, by simp, D10.out, Z10.out⟩
        case measure => simp only [intOf]; omega
      · obtain rfl : q = n := by omega
        have hlt' : ¬ ((q : Int) < (q : Int)) := by omega
        go_wp2_with fail
        refine (Tryd.Builder_String_any_k g5 g5 (headU 1 f s ++ bodyU ys q) wr DQ.out g5q).mono ?_
        rintro r w11 ⟨rfl, _, hb11, _⟩
        go_wp2
        go_ret2
        exact ⟨rfl, B4.out.trans ((ZQ.out.trans hb11).mono hw5)⟩
  · skip
    go_enter Tryd.func11, Tryd.ntmps11
    go_wp2_with (refine step_box (cs := pfC 2 (f : Int) (s : Int) (.slice a n cap)) rfl rfl ?_)
    intro w1 g1 hr1 hl1 hb1
    have R1 := hide hr1
    have B1 := hide hb1
    clear hr1 hb1
    go_wp2_with (first | (refine step_loadA wP rfl rfl R1.out rfl ?_) | fail)
    refine (HV.out _).mono ?_
    rintro r w2 ⟨rfl, hb2⟩
    have B2 := hide (on_below B1.out hb2)
    have R2 := hide (R1.out.on hb2)
    obtain ⟨c0, c1, c2', c3⟩ := pf_at R2.out
    clear hb2 R1 B1
    go_wp2_with (first | (refine step_buildBd rfl ?_) | (refine step_alloc zBd rfl ?_))
    intro w3 g5 hr3 hl3 hb3
    have R3 := hide hr3
    clear hr3
    go_wp2_with (refine step_storeA wBd rfl rfl rfl R3.out rfl (by intro v hv; simp at hv; rcases hv with rfl | rfl <;> rfl) rfl ?_)
    intro w4 hg4 hbut4
    have Y4 := hide (hb3.trans (hbut4.below hl3))
    have B4 := hide (on_below B2.out Y4.out)
    have P4 := hide (R2.out.on Y4.out)
    have D4 := hide (Bdr.new hg4)
    have h15 : g1 < g5 := by have := R2.out.lt; omega
    have hw5 : w.heap.size ≤ g5 := Nat.le_trans B2.out.size hl3
    clear hg4 hbut4 hb3 hl3 R3 R2 B2 Y4 c0 c1 c2' c3
    go_wp2_with fail
    generalize hWD : ({ data := #[99, 111, 110, 115, 105, 115, 116, 101, 110, 99, 121] } : ByteArray) = WD at *
    have sW : WD.size ≤ 11 := by rw [← hWD]; decide
    have eW : Hid (strL WD = wordU 2) := hide (by rw [← hWD]; rfl)
    clear hWD
    refine wp_region_noPanic ?_
    have g5l : g5 ≤ w4.heap.size := Nat.le_of_lt D4.out.lt
    have Z0 : Hid (Below g5 w4 w4.drew) := hide (((Below.refl w4.heap.size w4).drew).mono g5l)
    have D0 : Hid (Bdr w4.drew g5 []) := hide (D4.out.on ((Below.refl w4.heap.size w4).drew))
    have hc1 : ∀ v : World, Below g5 w4 v → v.cell? ⟨g1, 1, none⟩ = some (.int .i64 (f : Int)) := fun v hv => (pf_at (P4.out.below hv h15)).2.1
    have hc2 : ∀ v : World, Below g5 w4 v → v.cell? ⟨g1, 2, none⟩ = some (.int .i64 (s : Int)) := fun v hv => (pf_at (P4.out.below hv h15)).2.2.1
    have sSP : ({ data := #[32] } : ByteArray).size = 1 := rfl
    have sNL : ({ data := #[10] } : ByteArray).size = 1 := rfl
    refine wp_region_held_drew (S := fun v : World => Below g5 w4 v) (by kernel_rfl) Z0.out (fun hHeld => ?_)
    refine takeH 0 15 (.string WD) hHeld rfl rfl (by kernel_rfl) (by kernel_rfl) (by kernel_rfl) (fun _ _ _ h => h) (Or.inl ⟨by rfl, fun w _ => by go_simp⟩) ?_
    simp only [Act.put, List.setIfInBounds_toArray, List.set_cons_zero, List.set_cons_succ]
    refine takeH 1 16 (.string (WD ++ { data := #[32] })) hHeld rfl rfl (by kernel_rfl) (by kernel_rfl) (by kernel_rfl) (fun _ _ _ h => h) (Or.inl ⟨by rfl, fun w _ => run_addS rfl rfl (by rw [sSP]; omega)⟩) ?_
    simp only [Act.put, List.setIfInBounds_toArray, List.set_cons_zero, List.set_cons_succ]
    refine takeH 2 17 (.pointer (some ⟨g1, 1, none⟩)) hHeld rfl rfl (by kernel_rfl) (by kernel_rfl) (by kernel_rfl) (fun _ _ _ h => h) (Or.inl ⟨by rfl, fun w _ => by go_simp⟩) ?_
    simp only [Act.put, List.setIfInBounds_toArray, List.set_cons_zero, List.set_cons_succ]
    refine takeH 3 18 (.int .i64 (f : Int)) hHeld rfl rfl (by kernel_rfl) (by kernel_rfl) (by kernel_rfl) (fun _ _ _ h => h) (Or.inl ⟨by rfl, fun w hw => by have hw' : w.cell? ⟨g1, 1, none⟩ = some (.int .i64 (f : Int)) := hc1 _ hw; go_simp⟩) ?_
    simp only [Act.put, List.setIfInBounds_toArray, List.set_cons_zero, List.set_cons_succ]
    refine takeH 7 22 (.pointer (some ⟨g1, 2, none⟩)) hHeld rfl rfl (by kernel_rfl) (by kernel_rfl) (by kernel_rfl) (fun _ _ _ h => h) (Or.inl ⟨by rfl, fun w _ => by go_simp⟩) ?_
    simp only [Act.put, List.setIfInBounds_toArray, List.set_cons_zero, List.set_cons_succ]
    refine takeH 8 23 (.int .i64 (s : Int)) hHeld rfl rfl (by kernel_rfl) (by kernel_rfl) (by kernel_rfl) (fun _ _ _ h => h) (Or.inl ⟨by rfl, fun w hw => by have hw' : w.cell? ⟨g1, 2, none⟩ = some (.int .i64 (s : Int)) := hc2 _ hw; go_simp⟩) ?_
    simp only [Act.put, List.setIfInBounds_toArray, List.set_cons_zero, List.set_cons_succ]
    refine wpAnyH_ready (rs := [4]) (by kernel_rfl) (by simp) (AllReadyH.cons rfl (fun K hK => ?_) AllReadyH.nil)
    rw [if_pos (by rfl)]
    go_simp
    refine (I1.out _ (B4.out.trans (Z0.out.mono hw5))).mono ?_
    rintro r v1 ⟨rfl, hv1⟩
    have Z1 := hide (Z0.out.trans (hv1.mono (Nat.le_trans g5l Z0.out.size)))
    have D1 := hide (D0.out.on hv1)
    refine hK.out _ _ Z1.out (fun hHeld => ?_)
    clear hK K hv1
    try simp only [Act.put, List.setIfInBounds_toArray, List.set_cons_zero, List.set_cons_succ]
    refine takeH 5 20 (.string ((WD ++ { data := #[32] }) ++ DA)) hHeld rfl rfl (by kernel_rfl) (by kernel_rfl) (by kernel_rfl) (fun _ _ _ h => h) (Or.inl ⟨by rfl, fun w _ => run_addS rfl rfl (by rw [app_size, sSP]; omega)⟩) ?_
    simp only [Act.put, List.setIfInBounds_toArray, List.set_cons_zero, List.set_cons_succ]
    refine takeH 6 21 (.string (((WD ++ { data := #[32] }) ++ DA) ++ { data := #[32] })) hHeld rfl rfl (by kernel_rfl) (by kernel_rfl) (by kernel_rfl) (fun _ _ _ h => h) (Or.inl ⟨by rfl, fun w _ => run_addS rfl rfl (by rw [app_size, app_size, sSP]; omega)⟩) ?_
    simp only [Act.put, List.setIfInBounds_toArray, List.set_cons_zero, List.set_cons_succ]
    refine wpAnyH_ready (rs := [9]) (by kernel_rfl) (by simp) (AllReadyH.cons rfl (fun K hK => ?_) AllReadyH.nil)
    rw [if_pos (by rfl)]
    go_simp
    refine (I2.out _ (B4.out.trans (Z1.out.mono hw5))).mono ?_
    rintro r v2 ⟨rfl, hv2⟩
    have Z2 := hide (Z1.out.trans (hv2.mono (Nat.le_trans g5l Z1.out.size)))
    have D2 := hide (D1.out.on hv2)
    refine hK.out _ _ Z2.out (fun hHeld => ?_)
    clear hK K hv2
    try simp only [Act.put, List.setIfInBounds_toArray, List.set_cons_zero, List.set_cons_succ]
    refine takeH 10 25 (.string ((((WD ++ { data := #[32] }) ++ DA) ++ { data := #[32] }) ++ DB)) hHeld rfl rfl (by kernel_rfl) (by kernel_rfl) (by kernel_rfl) (fun _ _ _ h => h) (Or.inl ⟨by rfl, fun w _ => run_addS rfl rfl (by rw [app_size, app_size, app_size, sSP]; omega)⟩) ?_
    simp only [Act.put, List.setIfInBounds_toArray, List.set_cons_zero, List.set_cons_succ]
    refine takeH 11 26 (.string (((((WD ++ { data := #[32] }) ++ DA) ++ { data := #[32] }) ++ DB) ++ { data := #[10] })) hHeld rfl rfl (by kernel_rfl) (by kernel_rfl) (by kernel_rfl) (fun _ _ _ h => h) (Or.inl ⟨by rfl, fun w _ => run_addS rfl rfl (by rw [app_size, app_size, app_size, app_size, sSP, sNL]; omega)⟩) ?_
    simp only [Act.put, List.setIfInBounds_toArray, List.set_cons_zero, List.set_cons_succ]
    refine wpAnyH_ready (rs := [12]) (by kernel_rfl) (by simp) (AllReadyH.cons rfl (fun K hK => ?_) AllReadyH.nil)
    rw [if_pos (by rfl)]
    go_simp
    refine (write_any g5 [] _ _ D2.out (by rw [app_size, app_size, app_size, app_size, app_size, sSP, sNL]; simp; omega)).mono ?_
    rintro r v3 ⟨zz3, rfl, hd3, hv3⟩
    have Z3 := hide (Z2.out.trans hv3)
    have D3 : Hid (Bdr v3 g5 (headU 2 f s ++ bodyU ys 0)) := hide (by
      have e : ([] : List UInt8) ++ strL (((((WD ++ { data := #[32] }) ++ DA) ++ { data := #[32] }) ++ DB) ++ { data := #[10] }) = headU 2 f s ++ bodyU ys 0 := by
        rw [List.nil_append, strL_app, strL_app, strL_app, strL_app, strL_app, eW.out, eA.out, eB.out]
        show _ = headU 2 f s ++ []
        rw [List.append_nil]
        rfl
      rw [← e]
      exact hd3)
    refine hK.out _ _ Z3.out (fun hHeld => ?_)
    clear hK K hd3 hv3
    try simp only [Act.put, List.setIfInBounds_toArray, List.set_cons_zero, List.set_cons_succ]
    refine wpAnyH_done (by kernel_rfl) ?_ _
    refine NoPanic.normal ?_
    clear hHeld hc1 hc2 D0 D1 D2 Z0 Z1 Z2 sSP
    have c3 := (pf_at (P4.out.below Z3.out h15)).2.2.2
    go_wp2_with fail
    go_loopw [31] (fun i W => ∃ q : Nat, q ≤ n ∧ i = .int .i64 (q : Int) ∧ Bdr W g5 (headU 2 f s ++ bodyU ys q) ∧ Below g5 w4 W) (fun i _ => n - (intOf i).toNat)
    case atStart => exact ⟨0, by omega, rfl, D3.out, Z3.out⟩
    case round =>
      obtain ⟨q, hqn, rfl, hd, hz⟩ := hrel
      have DQ := hide hd
      have ZQ := hide hz
      clear hd hz D3 Z3 c3
      have hhl := headU_length 2 f s (by omega) (by omega)
      have hbl := bodyU_length HYL.out q hqn
      have g5q : g5 ≤ wr.heap.size := Nat.le_of_lt DQ.out.lt
      by_cases hlt : q < n
      · have hlt' : (q : Int) < (n : Int) := by omega
        obtain ⟨b, o, rfl⟩ := HS.out.place (by omega)
        have hdl := dat_length HYL.out hlt
        have HDL := hide hdl
        have HDU := hide (show (u8s (dat ys q)).length = 32 by rw [u8s_length, hdl])
        have HDB := hide (dat_isB HYB.out q)
        have BQ := hide (B4.out.trans (ZQ.out.mono hw5))
        have HRG := hide ((HS.out.below BQ.out).range q hlt)
        have hat := d_at b o n cap q (q : Int) rfl hlt
        have HB44 := hide (b64_size hdl)
        obtain ⟨TB, hTB⟩ : ∃ TB, Oct.str (Oct.b64B (dat ys q)) = TB := ⟨_, rfl⟩
        have HLN : Hid (strL (TB ++ { data := #[10] }) = lineU (dat ys q)) := hide (by rw [strL_app, ← hTB]; rfl)
        have sTB : TB.size = 44 := by rw [← hTB]; exact HB44.out
        have H64 : Hid (∀ (g : Nat) (V : World), Blk V g 45 (u8s (dat ys q)) → Calls Tryd.prog 33 #[.slice (some ⟨g, 0, none⟩) 32 32] V fun e w' => e = .returned (.string TB) ∧ Below V.heap.size V w') := hide (fun g V hg => by
          have hsl := hg.sl0 HDB.out (by omega)
          rw [HDL.out] at hsl
          have := Oct.b64_any (some ⟨g, 0, none⟩) 32 32 (dat ys q) V hsl.oct (by omega)
          rwa [hTB] at this)
        clear hdl hTB
        go_wp2_with (first | (refine step_loadR wD rfl rfl _ HRG.out HDU.out ?_) | (refine step_alloc zD rfl ?_))
        intro w7 g7 hr7 hl7 hb7
        have G7 := hide hr7
        clear hr7
        go_wp2_with (refine step_storeA wD rfl rfl rfl G7.out HDU.out (One.u8 _) (by rw [u8s_length, zer_length]) ?_)
        intro w8 hg8 hbut8
        have G8 := hide hg8
        have Y8 := hide (hb7.trans (hbut8.below hl7))
        have D8 := hide (DQ.out.on Y8.out)
        have Z8 := hide (ZQ.out.trans (Y8.out.mono g5q))
        have g58 : g5 ≤ w8.heap.size := Nat.le_of_lt D8.out.lt
        clear hg8 hbut8 hb7 hl7 G7 Y8 HRG hat DQ ZQ
        go_wp2_with fail
        refine (H64.out g7 _ G8.out).mono ?_
        rintro r w9 ⟨rfl, hb9⟩
        have D9 := hide (D8.out.on hb9)
        have Z9 := hide (Z8.out.trans (hb9.mono g58))
        clear hb9 D8 Z8 G8
        have hsz : ¬ 9223372036854775807 < TB.size + 1 := by omega
        go_wp2_with fail
        refine (write_any g5 _ _ _ D9.out (by rw [app_size, sNL, sTB, List.length_append]; omega)).mono ?_
        rintro r w10 ⟨zz10, rfl, hd10, hv10⟩
        rw [HLN.out, List.append_assoc, ← bodyU_succ] at hd10
        have D10 := hide hd10
        have Z10 := hide (Z9.out.trans hv10)
        clear hd10 hv10 D9 Z9
        go_wp2
        go_roundw
        case rel => exact ⟨q + 1, by omega, by simp, D10.out, Z10.out⟩
        case measure => simp only [intOf]; omega
      · obtain rfl : q = n := by omega
        have hlt' : ¬ ((q : Int) < (q : Int)) := by omega
        go_wp2_with fail
        refine (Tryd.Builder_String_any_k g5 g5 (headU 2 f s ++ bodyU ys q) wr DQ.out g5q).mono ?_
        rintro r w11 ⟨rfl, _, hb11, _⟩
        go_wp2
        go_ret2
        exact ⟨rfl, B4.out.trans ((ZQ.out.trans hb11).mono hw5)⟩

end Go.Proofs.YtojepbapdjkknaaDoor

/-
  The document's Text and Encode; the law's spoil and lent.
-/
namespace Go.Proofs.YtojepbapdjkknaaDoor
open Go.RowKit
set_option linter.unusedVariables false
set_option linter.unusedSimpArgs false

set_option maxHeartbeats 400000 in
theorem spoil8_own (g n cap : Nat) (xs : List Int) (B : Nat) (w : World) (ho : Own w B (.slice (some ⟨g, 0, none⟩) n cap) xs) (hx : xs.length = n) (hn : n ≤ 140737488355328) :
    Calls Tryd.prog 15 #[.slice (some ⟨g, 0, none⟩) n cap] w fun e w' => e = .returned (.tuple #[]) ∧ But g w w' := by
  obtain ⟨t, cs, hg, hcs⟩ : ∃ t cs, Blk w g t cs ∧ cs.take n = u8s xs := by
    rcases ho.2 with ⟨e, _⟩ | ⟨g', c', cur, e, _, hh, h3, h4, h5, h6⟩
    · cases e
    · cases e
      refine ⟨5, cur.toList, ?_, ?_⟩
      · unfold Blk; simpa using hh
      · simpa [hx] using h6
  clear ho
  go_enter Tryd.func15, Tryd.ntmps15
  go_wp2
  go_loopw [2] (fun i wr => ∃ k : Nat, k ≤ n ∧ i = .int .i64 k ∧ (∃ ys cs', Blk wr g t cs' ∧ cs'.take n = u8s ys ∧ ys.length = n) ∧ But g w wr) (fun i _ => n - (intOf i).toNat)
  case atStart => exact ⟨0, by omega, rfl, ⟨xs, cs, hg, hcs, hx⟩, But.refl _ _⟩
  case round =>
    obtain ⟨k, hk, rfl, ⟨ys, cs', hr1, hc1, hy⟩, hb1⟩ := hrel
    have HY := hide hy
    have HR := hide hr1
    have HC := hide hc1
    clear hy hr1 hc1 hg hx hcs
    by_cases hlt : k < n
    · have hcell : wr.cell? ⟨g, k, none⟩ = some (.int .u8 (ys.getD k 0)) := by
        have e : (cs'.take n)[k]? = some (.int .u8 (ys.getD k 0)) := by rw [HC.out]; exact u8s_get _ _ (by rw [HY.out]; exact hlt)
        rw [HR.out.cell]
        rw [List.getElem?_take, if_pos hlt] at e
        exact e
      have hfree : wr.frozen? ⟨g, k, none⟩ = false := HR.out.free k
      go_wp2
      go_roundw
      case rel =>
        have h := HR.out.set k (.int .u8 ((ys.getD k 0 + 1) % 256))
        refine ⟨k + 1, by omega, by go_num, ⟨ys.set k ((ys.getD k 0 + 1) % 256), _, h, ?_, by rw [List.length_set]; exact HY.out⟩, hb1.trans (But.setCell _ _ _ _)⟩
        rw [List.take_set, HC.out, u8s_set]
      case measure => simp [intOf]; omega
    · go_wp2
      go_end0
      exact ⟨rfl, hb1⟩
theorem spoil8_nil (c : Nat) (a : Option Addr) (w : World) : Calls Tryd.prog 15 #[.slice a 0 c] w fun e w' => e = .returned (.tuple #[]) ∧ w' = w := by
  go_enter Tryd.func15, Tryd.ntmps15
  go_wp2
  go_loopw [2] (fun i wr => i = .int .i64 0 ∧ wr = w) (fun _ _ => 0)
  case atStart => exact ⟨rfl, rfl⟩
  case round =>
    obtain ⟨rfl, rfl⟩ := hrel
    go_wp2
    go_end0
    exact ⟨rfl, rfl⟩

set_option maxRecDepth 100000 in
theorem textR_bad (k f s : Int) (a : Option Addr) (m cap : Nat) (w : World) (hm : m ≤ 9223372036854775807) (hv : pval k f s m = false) :
    Calls Tryd.prog 12 #[.agg (pfC k f s (.slice a m cap)).toArray] w fun r w' => r = .returned (.tuple #[.string (bA []), .int .i64 2]) ∧ Below w.heap.size w w' := by
  have HV := hide (fun V => validR_any k f s a m cap V hm)
  rw [hv] at HV
  go_enter Tryd.func12, Tryd.ntmps12
  go_wp2_with (refine step_box (cs := pfC k f s (.slice a m cap)) rfl rfl ?_)
  intro w1 g1 hr1 hl1 hb1
  have R1 := hide hr1
  clear hr1
  go_wp2_with (first | (refine step_loadA wP rfl rfl R1.out rfl ?_) | fail)
  refine (HV.out _).mono ?_
  rintro r w2 ⟨rfl, hb2⟩
  go_wp2
  go_ret2
  exact ⟨rfl, on_below hb1 hb2⟩
set_option maxRecDepth 100000 in
set_option maxHeartbeats 1000000 in
theorem textR_ok (k : Int) (f s : Nat) (a : Option Addr) (n cap : Nat) (ys : List Int) (w : World) (hs : Ds w a n cap ys) (hc : pcnt k (f : Int) (s : Int) = some n) :
    Calls Tryd.prog 12 #[.agg (pfC k (f : Int) (s : Int) (.slice a n cap)).toArray] w fun r w' => r = .returned (.tuple #[.string (bA (textU k f s n ys)), .int .i64 0]) ∧ Below w.heap.size w w' := by
  have hn49 := pcnt_le hc
  obtain ⟨hk, hf0, hfs, hs48⟩ := pcnt_bd hc
  have HV := hide (fun V => validR_any k (f : Int) (s : Int) a n cap V (by omega))
  rw [show pval k (f : Int) (s : Int) n = true by unfold pval; simp [hc]] at HV
  have HS := hide hs
  have HYB := hide hs.hbyte
  have HYL := hide hs.hlen
  have I0 := hide (fun V => wordR_any k V hk)
  have I1 := hide (fun V => digits_any f f V (Nat.le_refl _) (by omega))
  have I2 := hide (fun V => digits_any s s V (Nat.le_refl _) (by omega))
  have l0 := wordU_length k
  have l1 := dec_len f (by omega)
  have l2 := dec_len s (by omega)
  have hhl := headU_length k f s (by omega) (by omega)
  obtain ⟨WD, hWD⟩ : ∃ A, bA (wordU k) = A := ⟨_, rfl⟩
  obtain ⟨DA, hDA⟩ : ∃ A, bA (Lib.decDigits f) = A := ⟨_, rfl⟩
  obtain ⟨DB, hDB⟩ : ∃ A, bA (Lib.decDigits s) = A := ⟨_, rfl⟩
  have sW : WD.size ≤ 11 := by rw [← hWD, ← strL_length, strL_bA]; exact l0
  have sA : DA.size ≤ 20 := by rw [← hDA, ← strL_length, strL_bA]; exact l1
  have sB : DB.size ≤ 20 := by rw [← hDB, ← strL_length, strL_bA]; exact l2
  rw [hWD] at I0
  rw [hDA] at I1
  rw [hDB] at I2
  have HOUT : Hid (strL (((((WD ++ { data := #[32] }) ++ DA) ++ { data := #[32] }) ++ DB) ++ { data := #[10] }) = headU k f s ++ bodyU ys 0) := hide (by
    rw [strL_app, strL_app, strL_app, strL_app, strL_app, ← hWD, ← hDA, ← hDB, strL_bA, strL_bA, strL_bA]
    show _ = headU k f s ++ []
    rw [List.append_nil]
    rfl)
  clear hs hc hWD hDA hDB l0 l1 l2 hk
  go_enter Tryd.func12, Tryd.ntmps12
  go_wp2_with (refine step_box (cs := pfC k (f : Int) (s : Int) (.slice a n cap)) rfl rfl ?_)
  intro w1 g1 hr1 hl1 hb1
  have R1 := hide hr1
  have B1 := hide hb1
  clear hr1 hb1
  go_wp2_with (first | (refine step_loadA wP rfl rfl R1.out rfl ?_) | fail)
  refine (HV.out _).mono ?_
  rintro r w2 ⟨rfl, hb2⟩
  have B2 := hide (on_below B1.out hb2)
  have R2 := hide (R1.out.on hb2)
  obtain ⟨c0, c1, c2', c3⟩ := pf_at R2.out
  clear hb2 R1 B1
  go_wp2_with fail
  refine wp_region_noPanic ?_
  have Y0 := hide ((Below.refl w2.heap.size w2).drew)
  have hc0 : ∀ v : World, Below w2.heap.size w2 v → v.cell? ⟨g1, 0, none⟩ = some (.int .i64 k) := fun v hv => (pf_at (R2.out.on hv)).1
  have hc1 : ∀ v : World, Below w2.heap.size w2 v → v.cell? ⟨g1, 1, none⟩ = some (.int .i64 (f : Int)) := fun v hv => (pf_at (R2.out.on hv)).2.1
  have hc2 : ∀ v : World, Below w2.heap.size w2 v → v.cell? ⟨g1, 2, none⟩ = some (.int .i64 (s : Int)) := fun v hv => (pf_at (R2.out.on hv)).2.2.1
  have sSP : ({ data := #[32] } : ByteArray).size = 1 := rfl
  have sNL : ({ data := #[10] } : ByteArray).size = 1 := rfl
  clear c0 c1 c2' c3
  refine wp_region_held_drew (S := fun v : World => Below w2.heap.size w2 v) (by kernel_rfl) Y0.out (fun hHeld => ?_)
  refine takeH 0 10 (.pointer (some ⟨g1, 0, none⟩)) hHeld rfl rfl (by kernel_rfl) (by kernel_rfl) (by kernel_rfl) (fun _ _ _ h => h) (Or.inl ⟨by rfl, fun w _ => by go_simp⟩) ?_
  simp only [Act.put, List.setIfInBounds_toArray, List.set_cons_zero, List.set_cons_succ]
  refine takeH 1 11 (.int .i64 k) hHeld rfl rfl (by kernel_rfl) (by kernel_rfl) (by kernel_rfl) (fun _ _ _ h => h) (Or.inl ⟨by rfl, fun w hw => by have hw' : w.cell? ⟨g1, 0, none⟩ = some (.int .i64 k) := hc0 _ hw; go_simp⟩) ?_
  simp only [Act.put, List.setIfInBounds_toArray, List.set_cons_zero, List.set_cons_succ]
  refine takeH 4 14 (.pointer (some ⟨g1, 1, none⟩)) hHeld rfl rfl (by kernel_rfl) (by kernel_rfl) (by kernel_rfl) (fun _ _ _ h => h) (Or.inl ⟨by rfl, fun w _ => by go_simp⟩) ?_
  simp only [Act.put, List.setIfInBounds_toArray, List.set_cons_zero, List.set_cons_succ]
  refine takeH 5 15 (.int .i64 (f : Int)) hHeld rfl rfl (by kernel_rfl) (by kernel_rfl) (by kernel_rfl) (fun _ _ _ h => h) (Or.inl ⟨by rfl, fun w hw => by have hw' : w.cell? ⟨g1, 1, none⟩ = some (.int .i64 (f : Int)) := hc1 _ hw; go_simp⟩) ?_
  simp only [Act.put, List.setIfInBounds_toArray, List.set_cons_zero, List.set_cons_succ]
  refine takeH 9 19 (.pointer (some ⟨g1, 2, none⟩)) hHeld rfl rfl (by kernel_rfl) (by kernel_rfl) (by kernel_rfl) (fun _ _ _ h => h) (Or.inl ⟨by rfl, fun w _ => by go_simp⟩) ?_
  simp only [Act.put, List.setIfInBounds_toArray, List.set_cons_zero, List.set_cons_succ]
  refine takeH 10 20 (.int .i64 (s : Int)) hHeld rfl rfl (by kernel_rfl) (by kernel_rfl) (by kernel_rfl) (fun _ _ _ h => h) (Or.inl ⟨by rfl, fun w hw => by have hw' : w.cell? ⟨g1, 2, none⟩ = some (.int .i64 (s : Int)) := hc2 _ hw; go_simp⟩) ?_
  simp only [Act.put, List.setIfInBounds_toArray, List.set_cons_zero, List.set_cons_succ]
  refine wpAnyH_ready (rs := [2]) (by kernel_rfl) (by simp) (AllReadyH.cons rfl (fun K hK => ?_) AllReadyH.nil)
  rw [if_pos (by rfl)]
  go_simp
  refine (I0.out _).mono ?_
  rintro r v1 ⟨rfl, rfl⟩
  refine hK.out _ _ Y0.out (fun hHeld => ?_)
  clear hK K
  try simp only [Act.put, List.setIfInBounds_toArray, List.set_cons_zero, List.set_cons_succ]
  refine takeH 3 13 (.string (WD ++ { data := #[32] })) hHeld rfl rfl (by kernel_rfl) (by kernel_rfl) (by kernel_rfl) (fun _ _ _ h => h) (Or.inl ⟨by rfl, fun w _ => run_addS rfl rfl (by rw [sSP]; omega)⟩) ?_
  simp only [Act.put, List.setIfInBounds_toArray, List.set_cons_zero, List.set_cons_succ]
  refine wpAnyH_ready (rs := [6]) (by kernel_rfl) (by simp) (AllReadyH.cons rfl (fun K hK => ?_) AllReadyH.nil)
  rw [if_pos (by rfl)]
  go_simp
  refine (I1.out _).mono ?_
  rintro r v1 ⟨rfl, rfl⟩
  refine hK.out _ _ Y0.out (fun hHeld => ?_)
  clear hK K
  try simp only [Act.put, List.setIfInBounds_toArray, List.set_cons_zero, List.set_cons_succ]
  refine takeH 7 17 (.string ((WD ++ { data := #[32] }) ++ DA)) hHeld rfl rfl (by kernel_rfl) (by kernel_rfl) (by kernel_rfl) (fun _ _ _ h => h) (Or.inl ⟨by rfl, fun w _ => run_addS rfl rfl (by rw [app_size, sSP]; omega)⟩) ?_
  simp only [Act.put, List.setIfInBounds_toArray, List.set_cons_zero, List.set_cons_succ]
  refine takeH 8 18 (.string (((WD ++ { data := #[32] }) ++ DA) ++ { data := #[32] })) hHeld rfl rfl (by kernel_rfl) (by kernel_rfl) (by kernel_rfl) (fun _ _ _ h => h) (Or.inl ⟨by rfl, fun w _ => run_addS rfl rfl (by rw [app_size, app_size, sSP]; omega)⟩) ?_
  simp only [Act.put, List.setIfInBounds_toArray, List.set_cons_zero, List.set_cons_succ]
  refine wpAnyH_ready (rs := [11]) (by kernel_rfl) (by simp) (AllReadyH.cons rfl (fun K hK => ?_) AllReadyH.nil)
  rw [if_pos (by rfl)]
  go_simp
  refine (I2.out _).mono ?_
  rintro r v1 ⟨rfl, rfl⟩
  refine hK.out _ _ Y0.out (fun hHeld => ?_)
  clear hK K
  try simp only [Act.put, List.setIfInBounds_toArray, List.set_cons_zero, List.set_cons_succ]
  refine takeH 12 22 (.string ((((WD ++ { data := #[32] }) ++ DA) ++ { data := #[32] }) ++ DB)) hHeld rfl rfl (by kernel_rfl) (by kernel_rfl) (by kernel_rfl) (fun _ _ _ h => h) (Or.inl ⟨by rfl, fun w _ => run_addS rfl rfl (by rw [app_size, app_size, app_size, sSP]; omega)⟩) ?_
  simp only [Act.put, List.setIfInBounds_toArray, List.set_cons_zero, List.set_cons_succ]
  refine takeH 13 23 (.string (((((WD ++ { data := #[32] }) ++ DA) ++ { data := #[32] }) ++ DB) ++ { data := #[10] })) hHeld rfl rfl (by kernel_rfl) (by kernel_rfl) (by kernel_rfl) (fun _ _ _ h => h) (Or.inl ⟨by rfl, fun w _ => run_addS rfl rfl (by rw [app_size, app_size, app_size, app_size, sSP, sNL]; omega)⟩) ?_
  simp only [Act.put, List.setIfInBounds_toArray, List.set_cons_zero, List.set_cons_succ]
  refine takeH 14 4 (.string (((((WD ++ { data := #[32] }) ++ DA) ++ { data := #[32] }) ++ DB) ++ { data := #[10] })) hHeld rfl rfl (by kernel_rfl) (by kernel_rfl) (by kernel_rfl) (fun _ _ _ h => h) (Or.inl ⟨by rfl, fun w _ => by go_simp⟩) ?_
  simp only [Act.put, List.setIfInBounds_toArray, List.set_cons_zero, List.set_cons_succ]
  refine wpAnyH_done (by kernel_rfl) ?_ _
  refine NoPanic.normal ?_
  clear hHeld hc0 hc1 hc2
  generalize ((((WD ++ { data := #[32] }) ++ DA) ++ { data := #[32] }) ++ DB) ++ { data := #[10] } = OUT at *
  generalize (((WD ++ { data := #[32] }) ++ DA) ++ { data := #[32] }) ++ DB = O1
  generalize ((WD ++ { data := #[32] }) ++ DA) ++ { data := #[32] } = O2
  generalize (WD ++ { data := #[32] }) ++ DA = O3
  generalize WD ++ { data := #[32] } = O4
  have P4 := hide (R2.out.on Y0.out)
  go_wp2_with fail
  go_loopw [4, 5] (fun t i W => ∃ (q : Nat) (T : ByteArray), q ≤ n ∧ t = .string T ∧ i = .int .i64 (q : Int) ∧ Hid (strL T = headU k f s ++ bodyU ys q) ∧ Below w2.heap.size w2 W) (fun _ i _ => n - (intOf i).toNat)
  case atStart => exact ⟨0, OUT, by omega, rfl, rfl, HOUT, Y0.out⟩
  case round =>
    obtain ⟨q, T, hqn, rfl, rfl, HTT, hz⟩ := hrel
    have ZQ := hide hz
    clear hz
    have hbl := bodyU_length HYL.out q hqn
    have sT : T.size ≤ 54 + 45 * 49 := by rw [← strL_length, HTT.out, List.length_append]; omega
    have c3 := (pf_at (R2.out.on ZQ.out)).2.2.2
    by_cases hlt : q < n
    · have hlt' : (q : Int) < (n : Int) := by omega
      obtain ⟨b, o, rfl⟩ := HS.out.place (by omega)
      have hdl := dat_length HYL.out hlt
      have HDL := hide hdl
      have HDU := hide (show (u8s (dat ys q)).length = 32 by rw [u8s_length, hdl])
      have HDB := hide (dat_isB HYB.out q)
      have BQ := hide (on_below B2.out ZQ.out)
      have HRG := hide ((HS.out.below BQ.out).range q hlt)
      have hat := d_at b o n cap q (q : Int) rfl hlt
      obtain ⟨TB, hTB⟩ : ∃ TB, Oct.str (Oct.b64B (dat ys q)) = TB := ⟨_, rfl⟩
      have sTB : TB.size = 44 := by rw [← hTB]; exact b64_size hdl
      have HLN : Hid (strL ((T ++ TB) ++ { data := #[10] }) = headU k f s ++ bodyU ys (q + 1)) := hide (by
        rw [strL_app, strL_app, HTT.out, ← hTB, bodyU_succ, List.append_assoc, List.append_assoc]
        rfl)
      have H64 : Hid (∀ (g : Nat) (V : World), Blk V g 45 (u8s (dat ys q)) → Calls Tryd.prog 37 #[.slice (some ⟨g, 0, none⟩) 32 32] V fun e w' => e = .returned (.string TB) ∧ Below V.heap.size V w') := hide (fun g V hg => by
        have hsl := hg.sl0 HDB.out (by omega)
        rw [HDL.out] at hsl
        have := Oct.b64R_any (some ⟨g, 0, none⟩) 32 32 (dat ys q) V hsl.oct (by omega)
        rwa [hTB] at this)
      clear hdl hTB
      go_wp2_with (first | (refine step_loadR wD rfl rfl _ HRG.out HDU.out ?_) | (refine step_alloc zD rfl ?_))
      intro w7 g7 hr7 hl7 hb7
      have G7 := hide hr7
      clear hr7
      go_wp2_with (refine step_storeA wD rfl rfl rfl G7.out HDU.out (One.u8 _) (by rw [u8s_length, zer_length]) ?_)
      intro w8 hg8 hbut8
      have G8 := hide hg8
      have Z8 := hide (on_below ZQ.out (hb7.trans (hbut8.below hl7)))
      clear hg8 hbut8 hb7 hl7 G7 HRG hat ZQ
      go_wp2_with fail
      refine (H64.out g7 _ G8.out).mono ?_
      rintro r w9 ⟨rfl, hb9⟩
      have Z9 := hide (on_below Z8.out hb9)
      clear hb9 Z8 G8
      have n1 : ¬ 9223372036854775807 < T.size + TB.size := by omega
      have n2 : ¬ 9223372036854775807 < T.size + TB.size + 1 := by omega
      have n3 : ¬ 9223372036854775807 < T.size + 44 := by omega
      have n4 : ¬ 9223372036854775807 < T.size + 44 + 1 := by omega
      go_wp2
      go_roundw
      case rel => exact ⟨q + 1, _, by omega, rfl, by simp, HLN, Z9.out⟩
      case measure => simp only [intOf]; omega
    · obtain rfl : q = n := by omega
      have hlt' : ¬ ((q : Int) < (q : Int)) := by omega
      go_wp2
      go_ret2
      have eT : bA (textU k f s q ys) = T := eq_of_strL (by rw [strL_bA, HTT.out]; rfl)
      exact ⟨by rw [eT]; rfl, on_below B2.out ZQ.out⟩

end Go.Proofs.YtojepbapdjkknaaDoor

/-
  The document's Encode; the law's lent.
-/
namespace Go.Proofs.YtojepbapdjkknaaDoor
open Go.RowKit
set_option linter.unusedVariables false
set_option linter.unusedSimpArgs false

section
variable {dst : Option Tmp} {ty : TypeId} {pos : String} {aft : Array Edge} {gd : Option (Nat × Bool)} {a : Act} {w : World} {K : Act → World → Prop} {Q : Exit → Act → World → Prop}
theorem build_one8 (q : Int) (w : World) : (Instr.buildSlice 26 1 #[(0, .int .u8 q)]).run Tryd.prog w = .ok (.slice (some ⟨w.heap.size, 0, none⟩) 1 1) (w.alloc (.cells #[.int .u8 q] 5)) := by kernel_rfl
set_option maxRecDepth 100000 in
theorem wp_one8 {x : Operand} {q : Int} (hx : a.eval x = .int .u8 q) (hq : 0 ≤ q ∧ q ≤ 255) (h : ∀ w1 g, Blk w1 g 5 (u8s [q]) → w.heap.size ≤ g → Below w.heap.size w w1 → K (a.put dst (.slice (some ⟨g, 0, none⟩) 1 1)) w1) :
    Oper.wp Tryd.prog ⟨dst, .buildSlice 26 1 #[(0, x)], ty, pos, aft, gd⟩ a w K Q := by
  refine wp_runV (.slice (some ⟨w.heap.size, 0, none⟩) 1 1) (w.alloc (.cells #[.int .u8 q] 5)) ?_ (h _ _ (Blk.made w 5 (u8s [q])) (Nat.le_refl _) ((Below.refl _ _).alloc (Nat.le_refl _) _))
  unfold execOp
  simp only [List.map_toArray, List.map_cons, List.map_nil, hx]
  simp only [Sem.run_bind, build_one8, Result.andThen_ok, Sem.run_pure]
end
theorem own_base {w : World} {B B' : Nat} {v : Value} {xs : List Int} (h : Own w B v xs) (hB : B' ≤ B) : Own w B' v xs := by
  obtain ⟨h1, h2⟩ := h
  refine ⟨h1, ?_⟩
  rcases h2 with h2 | ⟨g, cap, cur, e, hg, hh, r⟩
  · exact .inl h2
  · exact .inr ⟨g, cap, cur, e, Nat.le_trans hB hg, hh, r⟩
theorem ds_but {g : Nat} {w w' : World} {a : Option Addr} {len cap : Nat} {xs : List Int} (h : Ds w a len cap xs) (hb : But g w w') (hk : ∀ x, a = some x → x.block ≠ g) : Ds w' a len cap xs :=
  ⟨h.hcap, h.hmax, h.hnil, h.sl.but hb fun _ x hx => hk x hx⟩
theorem joinE3 {T : Program} {c : Code} {a : Act} {w : World} {Q : Exit → Act → World → Prop} {K : Act → World → Prop} (P : Nat → Nat → Value → World → Prop) (act : Nat → Nat → Value → Act) (h1 : ∀ g g' v W, P g g' v W → K (act g g' v) W) (h2 : (∀ g g' v W, P g g' v W → K (act g g' v) W) → Code.wp T c (Exit.then K Q) a w) : Code.wp T c (Exit.then K Q) a w := h2 h1

set_option maxRecDepth 100000 in
theorem encodeR_bad (k f s : Int) (a : Option Addr) (m cap : Nat) (w : World) (hm : m ≤ 9223372036854775807) (hv : pval k f s m = false) :
    Calls Tryd.prog 10 #[.agg (pfC k f s (.slice a m cap)).toArray] w fun r w' => r = .returned (.tuple #[.slice none 0 0, .int .i64 2]) ∧ Below w.heap.size w w' := by
  have HV := hide (fun V => validR_any k f s a m cap V hm)
  rw [hv] at HV
  go_enter Tryd.func10, Tryd.ntmps10
  go_wp2_with (refine step_box (cs := pfC k f s (.slice a m cap)) rfl rfl ?_)
  intro w1 g1 hr1 hl1 hb1
  have R1 := hide hr1
  clear hr1
  go_wp2_with (first | (refine step_loadA wP rfl rfl R1.out rfl ?_) | fail)
  refine (HV.out _).mono ?_
  rintro r w2 ⟨rfl, hb2⟩
  go_wp2
  go_ret2
  exact ⟨rfl, on_below hb1 hb2⟩

set_option maxRecDepth 100000 in
set_option maxHeartbeats 1000000 in
theorem encodeR_ok (k f s : Int) (a : Option Addr) (n cap : Nat) (ys : List Int) (w : World) (hs : Ds w a n cap ys) (hc : pcnt k f s = some n) :
    Calls Tryd.prog 10 #[.agg (pfC k f s (.slice a n cap)).toArray] w fun r w' => Below w.heap.size w w' ∧ ∃ v, r = .returned (.tuple #[v, .int .i64 0]) ∧ v ≠ .slice none 0 0 ∧ Own w' w.heap.size v (encB k f s n ys) := by
  have hn49 := pcnt_le hc
  obtain ⟨hk, hf0, hfs, hs48⟩ := pcnt_bd hc
  have HV := hide (fun V => validR_any k f s a n cap V (by omega))
  rw [show pval k f s n = true by unfold pval; simp [hc]] at HV
  have HS := hide hs
  have HYB := hide hs.hbyte
  have HYL := hide hs.hlen
  have wk : IntKind.u8.wrap k = k := wrap_u8 k (by omega) (by omega)
  have wf : IntKind.u64.wrap f = f := wrap_u64 f (by omega) (by omega)
  have ws : IntKind.u64.wrap s = s := wrap_u64 s (by omega) (by omega)
  have wn : IntKind.u8.wrap (n : Int) = (n : Int) := wrap_u8 _ (by omega) (by omega)
  have hk2 : 0 ≤ k ∧ k ≤ 255 := by omega
  have HB1 : Hid (isB [k]) := hide (isB_one (by omega) (by omega))
  have HB2 : Hid (isB ([k] ++ be f 8)) := hide (HB1.out.append (be_isB f 8))
  have HB3 : Hid (isB (([k] ++ be f 8) ++ be s 8)) := hide (HB2.out.append (be_isB s 8))
  have HB4 : Hid (isB (encH k f s n)) := hide (HB3.out.append (isB_one (by omega) (by omega)))
  have HF := hide (fun V => number_ref f 8 V (by omega) (by omega) (by omega))
  have HZ := hide (fun V => number_ref s 8 V (by omega) (by omega) (by omega))
  clear hs hc hk
  go_enter Tryd.func10, Tryd.ntmps10
  go_wp2_with (refine step_box (cs := pfC k f s (.slice a n cap)) rfl rfl ?_)
  intro w1 g1 hr1 hl1 hb1
  have R1 := hide hr1
  have B1 := hide hb1
  clear hr1 hb1
  go_wp2_with (first | (refine step_loadA wP rfl rfl R1.out rfl ?_) | fail)
  refine (HV.out _).mono ?_
  rintro r w2 ⟨rfl, hb2⟩
  have B2 := hide (on_below B1.out hb2)
  have R2 := hide (R1.out.on hb2)
  clear hb2 R1 B1
  go_wp2_with fail
  refine joinE3 (fun gA gB v W => v ≠ .slice none 0 0 ∧ Own W w2.heap.size v ([k] ++ be f 8) ∧ Below w2.heap.size w2 W) ?act ?tail (fun hjoin => ?_)
  rotate_left
  rotate_left
  · have Y0 := hide ((Below.refl w2.heap.size w2).drew)
    have hc0 : ∀ v : World, Below w2.heap.size w2 v → v.cell? ⟨g1, 0, none⟩ = some (.int .i64 k) := fun v hv => (pf_at (R2.out.on hv)).1
    have hc1 : ∀ v : World, Below w2.heap.size w2 v → v.cell? ⟨g1, 1, none⟩ = some (.int .i64 f) := fun v hv => (pf_at (R2.out.on hv)).2.1
    refine wp_region_held_drew (S := fun v : World => Below w2.heap.size w2 v) (by kernel_rfl) Y0.out (fun hHeld => ?_)
    refine takeH 0 10 (.pointer (some ⟨g1, 0, none⟩)) hHeld rfl rfl (by kernel_rfl) (by kernel_rfl) (by kernel_rfl) (fun _ _ _ h => h) (Or.inl ⟨by rfl, fun w _ => by go_simp⟩) ?_
    simp only [Act.put, List.setIfInBounds_toArray, List.set_cons_zero, List.set_cons_succ]
    refine takeH 1 11 (.int .i64 k) hHeld rfl rfl (by kernel_rfl) (by kernel_rfl) (by kernel_rfl) (fun _ _ _ h => h) (Or.inl ⟨by rfl, fun w hw => by have hw' : w.cell? ⟨g1, 0, none⟩ = some (.int .i64 k) := hc0 _ hw; go_simp⟩) ?_
    simp only [Act.put, List.setIfInBounds_toArray, List.set_cons_zero, List.set_cons_succ]
    refine takeH 2 12 (.int .u8 k) hHeld rfl rfl (by kernel_rfl) (by kernel_rfl) (by kernel_rfl) (fun _ _ _ h => h) (Or.inl ⟨by rfl, fun w _ => by go_simp⟩) ?_
    simp only [Act.put, List.setIfInBounds_toArray, List.set_cons_zero, List.set_cons_succ]
    refine takeH 4 14 (.pointer (some ⟨g1, 1, none⟩)) hHeld rfl rfl (by kernel_rfl) (by kernel_rfl) (by kernel_rfl) (fun _ _ _ h => h) (Or.inl ⟨by rfl, fun w _ => by go_simp⟩) ?_
    simp only [Act.put, List.setIfInBounds_toArray, List.set_cons_zero, List.set_cons_succ]
    refine takeH 5 15 (.int .i64 f) hHeld rfl rfl (by kernel_rfl) (by kernel_rfl) (by kernel_rfl) (fun _ _ _ h => h) (Or.inl ⟨by rfl, fun w hw => by have hw' : w.cell? ⟨g1, 1, none⟩ = some (.int .i64 f) := hc1 _ hw; go_simp⟩) ?_
    simp only [Act.put, List.setIfInBounds_toArray, List.set_cons_zero, List.set_cons_succ]
    refine takeH 6 16 (.int .u64 f) hHeld rfl rfl (by kernel_rfl) (by kernel_rfl) (by kernel_rfl) (fun _ _ _ h => h) (Or.inl ⟨by rfl, fun w _ => by go_simp⟩) ?_
    simp only [Act.put, List.setIfInBounds_toArray, List.set_cons_zero, List.set_cons_succ]
    refine wpAnyH_ready (rs := [3, 7]) (by kernel_rfl) (by simp) (AllReadyH.cons rfl (fun K hK => ?_) (AllReadyH.cons rfl (fun K hK => ?_) AllReadyH.nil))
    · rw [if_pos (by rfl)]
      refine wp_one8 rfl hk2 ?_
      intro v1 gA hA hlA hv1
      have Y1 := hide (on_below Y0.out hv1)
      have LA : w2.heap.size ≤ gA := Nat.le_trans Y0.out.size hlA
      refine hK.out _ _ Y1.out (fun hHeld => ?_)
      clear hK K
      try simp only [Act.put, List.setIfInBounds_toArray, List.set_cons_zero, List.set_cons_succ]
      refine wpAnyH_ready (rs := [7]) (by kernel_rfl) (by simp) (AllReadyH.cons rfl (fun K hK => ?_) AllReadyH.nil)
      rw [if_pos (by rfl)]
      go_simp
      refine (HF.out _).mono ?_
      rintro r v2 ⟨gB, rfl, hlB, hB, hv2⟩
      have Y2 := hide (on_below Y1.out hv2)
      have A2 := hA.on hv2
      refine hK.out _ _ Y2.out (fun hHeld => ?_)
      clear hK K
      try simp only [Act.put, List.setIfInBounds_toArray, List.set_cons_zero, List.set_cons_succ]
      have O1 : Hid (Own v2 w2.heap.size (.slice (some ⟨gA, 0, none⟩) 1 1) [k]) := hide (Own.of_blk (xs := [k]) A2 LA (by simp))
      refine wpAnyH_ready (rs := [8]) (by kernel_rfl) (by simp) (AllReadyH.cons rfl (fun K hK => ?_) AllReadyH.nil)
      rw [if_pos (by rfl)]
      refine wp_appendB rfl rfl rfl O1.out (Blk.sl0 (xs := be f 8) hB (be_isB f 8) (by simp [be_length])) (by simp) Y2.out.size ?_
      intro v' u1 ho1 hg1 hn1
      have YZ := hide (Y2.out.trans (Below.of_grown hg1 Y2.out.size O1.out.lt))
      have N1 : v' ≠ .slice none 0 0 := fun e => by have e2 := (hn1 e).1; cases e2
      refine hK.out _ _ YZ.out (fun hHeld => ?_)
      clear hK K
      try simp only [Act.put, List.setIfInBounds_toArray, List.set_cons_zero, List.set_cons_succ]
      refine takeH 9 4 v' hHeld rfl rfl (by kernel_rfl) (by kernel_rfl) (by kernel_rfl) (fun _ _ _ h => h) (Or.inl ⟨by rfl, fun w _ => by go_simp⟩) ?_
      simp only [Act.put, List.setIfInBounds_toArray, List.set_cons_zero, List.set_cons_succ]
      refine wpAnyH_done (by kernel_rfl) ?_ _
      exact hjoin gA gB v' u1 ⟨N1, ho1, YZ.out⟩
    · rw [if_pos (by rfl)]
      go_simp
      refine (HF.out _).mono ?_
      rintro r v1 ⟨gB, rfl, hlB, hB, hv1⟩
      have Y1 := hide (on_below Y0.out hv1)
      refine hK.out _ _ Y1.out (fun hHeld => ?_)
      clear hK K
      try simp only [Act.put, List.setIfInBounds_toArray, List.set_cons_zero, List.set_cons_succ]
      refine wpAnyH_ready (rs := [3]) (by kernel_rfl) (by simp) (AllReadyH.cons rfl (fun K hK => ?_) AllReadyH.nil)
      rw [if_pos (by rfl)]
      refine wp_one8 rfl hk2 ?_
      intro v2 gA hA hlA hv2
      have Y2 := hide (on_below Y1.out hv2)
      have LA : w2.heap.size ≤ gA := Nat.le_trans Y1.out.size hlA
      have B2' := hB.on hv2
      refine hK.out _ _ Y2.out (fun hHeld => ?_)
      clear hK K
      try simp only [Act.put, List.setIfInBounds_toArray, List.set_cons_zero, List.set_cons_succ]
      have O1 : Hid (Own v2 w2.heap.size (.slice (some ⟨gA, 0, none⟩) 1 1) [k]) := hide (Own.of_blk (xs := [k]) hA LA (by simp))
      refine wpAnyH_ready (rs := [8]) (by kernel_rfl) (by simp) (AllReadyH.cons rfl (fun K hK => ?_) AllReadyH.nil)
      rw [if_pos (by rfl)]
      refine wp_appendB rfl rfl rfl O1.out (Blk.sl0 (xs := be f 8) B2' (be_isB f 8) (by simp [be_length])) (by simp) Y2.out.size ?_
      intro v' u1 ho1 hg1 hn1
      have YZ := hide (Y2.out.trans (Below.of_grown hg1 Y2.out.size O1.out.lt))
      have N1 : v' ≠ .slice none 0 0 := fun e => by have e2 := (hn1 e).1; cases e2
      refine hK.out _ _ YZ.out (fun hHeld => ?_)
      clear hK K
      try simp only [Act.put, List.setIfInBounds_toArray, List.set_cons_zero, List.set_cons_succ]
      refine takeH 9 4 v' hHeld rfl rfl (by kernel_rfl) (by kernel_rfl) (by kernel_rfl) (fun _ _ _ h => h) (Or.inl ⟨by rfl, fun w _ => by go_simp⟩) ?_
      simp only [Act.put, List.setIfInBounds_toArray, List.set_cons_zero, List.set_cons_succ]
      refine wpAnyH_done (by kernel_rfl) ?_ _
      exact hjoin gA gB v' u1 ⟨N1, ho1, YZ.out⟩
  · rintro gA gB v3 W ⟨hn3, ho3, hb3⟩
    have O3 := hide (own_base ho3 B2.out.size)
    have B3 := hide (on_below B2.out hb3)
    have R3 := hide (R2.out.on hb3)
    have N3 := hide hn3
    clear ho3 hb3 hn3 R2 B2 HF
    obtain ⟨c0, c1, c2', c3⟩ := pf_at R3.out
    go_wp2_with fail
    refine (HZ.out _).mono ?_
    rintro r w4 ⟨g4, rfl, hl4, hr4, hb4⟩
    have O4 := hide (O3.out.below hb4)
    have S4 := hide (Blk.sl0 (xs := be s 8) hr4 (be_isB s 8) (by simp [be_length]))
    rw [show (be s 8).length = 8 by simp [be_length]] at S4
    have B4 := hide (on_below B3.out hb4)
    have R4 := hide (R3.out.on hb4)
    clear hl4 hr4 hb4 O3 R3 B3 c0 c1 c2' c3
    go_wp2_with (refine step_append rfl rfl rfl O4.out S4.out (by simp [be_length]) B4.out.size ?_)
    intro v5 w5 ho5 hg5 hn5
    have O5 := hide ho5
    have B5 := hide (B4.out.trans (Below.of_grown hg5 B4.out.size O4.out.lt))
    have N5 : Hid (v5 ≠ .slice none 0 0) := hide (fun e => N3.out (hn5 e).1)
    have R5 := hide (R4.out.grown (by decide) O4.out hg5)
    clear ho5 hg5 hn5 O4 S4 B4 R4 N3
    have c3 := (pf_at R5.out).2.2.2
    go_wp2_with (refine step_append rfl rfl rfl (O5.out.alloc _) (one_slB _ (n : Int) (by omega)) (by simp [be_length]) (by have := B5.out.size; simp; omega) ?_)
    intro v6 w6 ho6 hg6 hn6
    have Y5 := hide ((Below.refl w5.heap.size w5).alloc (Nat.le_refl _) (.cells #[.int .u8 (n : Int)] 5))
    have B6 := hide ((B5.out.alloc B5.out.size (.cells #[.int .u8 (n : Int)] 5)).trans (Below.of_grown hg6 (by have := B5.out.size; simp; omega) O5.out.lt))
    have N6 : Hid (v6 ≠ .slice none 0 0) := hide (fun e => N5.out (hn6 e).1)
    have R6 := hide ((R5.out.on Y5.out).grown (by decide) (O5.out.alloc _) hg6)
    have O6 : Hid (Own w6 w.heap.size v6 (encH k f s n ++ ys.take (32 * 0))) := hide (by rw [Nat.mul_zero, List.take_zero, List.append_nil]; exact ho6)
    clear ho6 hg6 hn6 O5 R5 Y5 N5 B5 c3
    go_wp2_with fail
    go_loopw [4, 5] (fun v i W => ∃ q : Nat, q ≤ n ∧ i = .int .i64 (q : Int) ∧ v ≠ .slice none 0 0 ∧ Own W w.heap.size v (encH k f s n ++ ys.take (32 * q)) ∧ Below w.heap.size w W ∧ Blk W g1 24 (pfC k f s (.slice a n cap))) (fun _ i _ => n - (intOf i).toNat)
    case atStart => exact ⟨0, by omega, rfl, N6.out, O6.out, B6.out, R6.out⟩
    case round =>
      obtain ⟨q, hqn, rfl, hvn, ho, hbq, hrq⟩ := hrel
      have BQ := hide hbq
      have OQ := hide ho
      have NQ := hide hvn
      have RQ := hide hrq
      have c3 := (pf_at hrq).2.2.2
      clear hbq ho hvn hrq O6 N6 B6 R6
      by_cases hlt : q < n
      · have hlt' : (q : Int) < (n : Int) := by omega
        obtain ⟨b, o, rfl⟩ := HS.out.place (by omega)
        have hdl := dat_length HYL.out hlt
        have HDL := hide hdl
        have HDU := hide (show (u8s (dat ys q)).length = 32 by rw [u8s_length, hdl])
        have HDB := hide (dat_isB HYB.out q)
        have HRG := hide ((HS.out.below BQ.out).range q hlt)
        have hat := d_at b o n cap q (q : Int) rfl hlt
        have hql : (encH k f s n ++ ys.take (32 * q)).length = 18 + 32 * q := by rw [List.length_append, encH_length, List.length_take, HYL.out]; omega
        clear hdl
        go_wp2_with (first | (refine step_loadR wD rfl rfl _ HRG.out HDU.out ?_) | (refine step_alloc zD rfl ?_))
        intro w7 g6 hr7 hl7 hb7
        have G7 := hide hr7
        clear hr7
        go_wp2_with (refine step_storeA wD rfl rfl rfl G7.out HDU.out (One.u8 _) (by rw [u8s_length, zer_length]) ?_)
        intro w8 hg8 hbut8
        have Y8 := hide (hb7.trans (hbut8.below hl7))
        have O8 := hide (OQ.out.below Y8.out)
        have B8 := hide (on_below BQ.out Y8.out)
        have R8 := hide (RQ.out.on Y8.out)
        have S8 := hide (Blk.sl0 hg8 HDB.out (by rw [HDL.out]; omega))
        rw [HDL.out] at S8
        clear hg8 hbut8 hb7 hl7 G7 Y8 HRG hat c3
        go_wp2_with (refine step_append rfl rfl rfl O8.out S8.out (by rw [hql]; omega) B8.out.size ?_)
        intro v9 w9 ho9 hg9 hn9
        have e9 : (encH k f s n ++ ys.take (32 * q)) ++ dat ys q = encH k f s n ++ ys.take (32 * (q + 1)) := by rw [List.append_assoc, take_more]; rfl
        rw [e9] at ho9
        have O9 := hide ho9
        have N9 : Hid (v9 ≠ .slice none 0 0) := hide (fun e => NQ.out (hn9 e).1)
        have B9 := hide (B8.out.trans (Below.of_grown hg9 B8.out.size O8.out.lt))
        have R9 := hide (R8.out.grown (by decide) O8.out hg9)
        clear ho9 hg9 hn9 e9 O8 S8 B8 R8
        go_wp2
        go_roundw
        case rel => exact ⟨q + 1, by omega, by simp, N9.out, O9.out, B9.out, R9.out⟩
        case measure => simp only [intOf]; omega
      · obtain rfl : q = n := by omega
        have hlt' : ¬ ((q : Int) < (q : Int)) := by omega
        go_wp2
        go_ret2
        refine ⟨BQ.out, _, rfl, NQ.out, ?_⟩
        have e := OQ.out
        rw [List.take_of_length_le (by rw [HYL.out]; exact Nat.le_refl _)] at e
        exact e

set_option maxRecDepth 100000 in
set_option maxHeartbeats 400000 in
theorem lent_any (k f s : Int) (a : Option Addr) (n cap : Nat) (ys : List Int) (w : World) (hs : Ds w a n cap ys) :
    Calls Tryd.prog 8 #[.agg (pfC k f s (.slice a n cap)).toArray] w fun r w' => Below w.heap.size w w' ∧ ∃ a' cap', r = .returned (.agg (pfC k f s (.slice a' n cap')).toArray) ∧ Ds w' a' n cap' ys := by
  have hn := hs.hreach
  have HS := hide hs
  have HYB := hide hs.hbyte
  clear hs
  go_enter Tryd.func8, Tryd.ntmps8
  go_wp2_with (refine step_box (cs := pfC k f s (.slice a n cap)) rfl rfl ?_)
  intro w1 g1 hr1 hl1 hb1
  have R1 := hide hr1
  have B1 := hide hb1
  clear hr1 hb1
  go_wp2_with (refine step_alloc zP rfl ?_)
  intro w2 g2 hr2 hl2 hb2
  have G2 := hide hr2
  have R2 := hide (R1.out.on hb2)
  have B2 := hide (on_below B1.out hb2)
  have n12 : g1 ≠ g2 := by have := R1.out.lt; omega
  have l2 : w.heap.size ≤ g2 := Nat.le_trans B1.out.size hl2
  clear hr2 hb2 R1 B1
  have Y3 := hide ((Below.refl w2.heap.size w2).alloc (Nat.le_refl _) (.cells #[] 45))
  have c3' := (pf_at (R2.out.on Y3.out)).2.2.2
  go_wp2_with (refine step_appendD (B := w2.heap.size) (n := 0) (xs := []) rfl rfl rfl (down_empty w2) (HS.out.below (B2.out.alloc B2.out.size _)) (by omega) (by simp) ?_)
  intro v4 w4 ho4 hg4
  rw [Nat.zero_add, List.nil_append] at ho4
  have Y4 := hide (Y3.out.trans (Below.of_grown hg4 (by simp) (down_empty w2).lt))
  obtain ⟨a', cap', rfl, hds, hpl⟩ := ho4.ds HYB.out hn
  have D4 := hide hds
  have R4 := hide (R2.out.on Y4.out)
  have G4 := hide (G2.out.on Y4.out)
  have B4 := hide (on_below B2.out Y4.out)
  have np : ∀ x, a' = some x → x.block ≠ g1 ∧ x.block ≠ g2 := fun x hx => by have := hpl x hx; have := R2.out.lt; have := G2.out.lt; omega
  have hfz := R4.out.free 3
  have c3 := (pf_at R4.out).2.2.2
  have R5 : Hid (Blk (w4.setCell ⟨g1, 3, none⟩ (.slice a' n cap')) g1 24 (pfC k f s (.slice a' n cap'))) := hide (R4.out.set 3 (.slice a' n cap'))
  have BN := hide (But.setCell w4 g1 3 (.slice a' n cap'))
  have G5 := hide (G4.out.but BN.out n12.symm)
  have D5 := hide (ds_but D4.out BN.out (fun x hx => (np x hx).1))
  have l1 : w.heap.size ≤ g1 := hl1
  have B5 := hide (B4.out.trans (BN.out.below l1))
  clear hds hpl ho4 hg4 Y3 Y4 R2 G2 B2 c3'
  go_wp2_with (first | (refine step_loadA wP rfl rfl R5.out rfl ?_) | (refine step_storeA wP rfl rfl rfl G5.out rfl (One.pf _ _ _ _ _ _) rfl ?_; intro w6 hg6 hbut6))
  exact bodyPost_ret (results_wide rfl wP _ _ rfl hg6 rfl) rfl ⟨B5.out.trans (hbut6.below l2), a', cap', rfl, ds_but D5.out hbut6 (fun x hx => (np x hx).2)⟩
end Go.Proofs.YtojepbapdjkknaaDoor

/-
  The walk of WireEncodes.
-/
namespace Go.Proofs.YtojepbapdjkknaaDoor
open Go.RowKit
set_option linter.unusedVariables false
set_option linter.unusedSimpArgs false

theorem own_lies {w : World} {B : Nat} {v : Value} {xs : List Int} (h : Own w B v xs) (hb : isB xs) (hl : xs.length ≤ 140737488355328) :
    ∃ a cap, v = .slice a xs.length cap ∧ Sl w a xs.length cap xs ∧ ∀ x, a = some x → B ≤ x.block ∧ x.block < w.heap.size := by
  obtain ⟨a, cap, e, hs⟩ := h.sl' hb hl
  refine ⟨a, cap, e, hs, fun x hx => ?_⟩
  rcases h.2 with ⟨e1, _⟩ | ⟨g, c, cur, e1, hB, hh, _⟩
  · rw [e] at e1
    injection e1 with h1 _ _
    rw [h1] at hx
    cases hx
  · rw [e] at e1
    injection e1 with h1 _ _
    rw [h1] at hx
    cases hx
    exact ⟨hB, (show Blk w g 5 cur.toList by unfold Blk; simpa using hh).lt⟩
theorem spoil8_any {w : World} {B : Nat} {a : Option Addr} {cap : Nat} {xs : List Int} (ho : Own w B (.slice a xs.length cap) xs) (hl : xs.length ≤ 140737488355328) :
    Calls Tryd.prog 15 #[.slice a xs.length cap] w fun e w' => e = .returned (.tuple #[]) ∧ ∃ g, (B ≤ g ∧ (∃ x, a = some x ∧ x.block = g) ∨ g = w.heap.size) ∧ But g w w' := by
  rcases ho.2 with ⟨e1, h0⟩ | ⟨g, c, cur, e1, hB, hh, _⟩
  · injection e1 with h1 h2 h3
    rw [h1, h2]
    refine (spoil8_nil _ _ w).mono ?_
    rintro e w' ⟨rfl, rfl⟩
    exact ⟨rfl, _, .inr rfl, But.refl _ _⟩
  · injection e1 with h1 h2 h3
    subst h1
    refine (spoil8_own g xs.length cap xs B w ho rfl hl).mono ?_
    rintro e w' ⟨rfl, hb⟩
    exact ⟨rfl, g, .inl ⟨hB, _, rfl, rfl⟩, hb⟩

set_option maxRecDepth 100000 in
set_option maxHeartbeats 4000000 in
theorem encodes_core (k f s : Int) (a : Option Addr) (n cap : Nat) (ys XS : List Int) (TT : ByteArray) (E : Int) (PVb : Bool) (w : World) (hs : Ds w a n cap ys) (hXB : isB XS) (hXL : XS.length ≤ 100000)
    (CE : ∀ (b : Option Addr) (c : Nat) (V : World), Ds V b n c ys → Calls Tryd.prog 9 #[.agg (pfC k f s (.slice b n c)).toArray] V fun r w' => Below V.heap.size V w' ∧ ∃ v, r = .returned (.tuple #[v, .int .i64 E]) ∧ Own w' V.heap.size v XS)
    (CR : ∀ (b : Option Addr) (c : Nat) (V : World), Ds V b n c ys → Calls Tryd.prog 10 #[.agg (pfC k f s (.slice b n c)).toArray] V fun r w' => Below V.heap.size V w' ∧ ∃ v, r = .returned (.tuple #[v, .int .i64 E]) ∧ Own w' V.heap.size v XS)
    (CT : ∀ (b : Option Addr) (c : Nat) (V : World), Ds V b n c ys → Below w.heap.size w V → Calls Tryd.prog 11 #[.agg (pfC k f s (.slice b n c)).toArray] V fun r w' => r = .returned (.tuple #[.string TT, .int .i64 E]) ∧ Below V.heap.size V w')
    (CU : ∀ (b : Option Addr) (c : Nat) (V : World), Ds V b n c ys → Calls Tryd.prog 12 #[.agg (pfC k f s (.slice b n c)).toArray] V fun r w' => r = .returned (.tuple #[.string TT, .int .i64 E]) ∧ Below V.heap.size V w')
    (CV : ∀ (b : Option Addr) (c : Nat) (V : World), Calls Tryd.prog 13 #[.agg (pfC k f s (.slice b n c)).toArray] V fun r w' => r = .returned (.bool PVb) ∧ Below V.heap.size V w')
    (CW : ∀ (b : Option Addr) (c : Nat) (V : World), Calls Tryd.prog 14 #[.agg (pfC k f s (.slice b n c)).toArray] V fun r w' => r = .returned (.bool PVb) ∧ Below V.heap.size V w') :
    Calls Tryd.prog 3 #[.agg (pfC k f s (.slice a n cap)).toArray] w fun e w' => e = .returned (.bool true) ∧ Below w.heap.size w w' := by
  have HS := hide hs
  have HXB := hide hXB
  have HE := hide CE
  have HR := hide CR
  have HT := hide CT
  have HU := hide CU
  have HV := hide CV
  have HW := hide CW
  clear hs hXB CE CR CT CU CV CW
  go_enter Tryd.func3, Tryd.ntmps3
  go_wp2_with (refine step_box (cs := pfC k f s (.slice a n cap)) rfl rfl ?_)
  intro w1 g1 hr1 hl1 hb1
  have R1 := hide hr1
  have B1 := hide hb1
  clear hr1 hb1
  go_wp2_with (first | (refine step_loadA wP rfl rfl R1.out rfl ?_) | fail)
  refine (lent_any k f s a n cap ys _ (HS.out.below B1.out)).mono ?_
  rintro r w2 ⟨hb2, a', cap', rfl, hd2⟩
  have D2 := hide hd2
  have B2 := hide (on_below B1.out hb2)
  have R2 := hide (R1.out.on hb2)
  clear hb2 hd2 R1 B1
  go_wp2_with (refine step_alloc zP rfl ?_)
  intro w3 g3 hr3 hl3 hb3
  have G3 := hide hr3
  clear hr3
  go_wp2_with (refine step_storeA wP rfl rfl rfl G3.out rfl (One.pf _ _ _ _ _ _) rfl ?_)
  intro w4 hg4 hbut4
  have Y4 := hide (hb3.trans (hbut4.below hl3))
  have I4 := hide hg4
  have D4 := hide (D2.out.below Y4.out)
  have B4 := hide (on_below B2.out Y4.out)
  have R4 := hide (R2.out.on Y4.out)
  have P4 := hide (HS.out.below B4.out)
  clear hg4 hbut4 hb3 hl3 Y4 G3 D2 B2 R2
  go_wp2_with (first | (refine step_loadA wP rfl rfl I4.out rfl ?_) | fail)
  refine (HE.out _ _ _ D4.out).mono ?_
  rintro r w5 ⟨hb5, vx, rfl, hx5⟩
  obtain ⟨ax, cx, rfl, hsx, hpx⟩ := own_lies hx5 HXB.out (by omega)
  have OX := hide hx5
  have PX := hide hpx
  have SX := hide hsx
  have Y5 := hide hb5
  have I5 := hide (I4.out.on hb5)
  have D5 := hide (D4.out.below hb5)
  clear hb5 hx5 hsx hpx
  go_wp2_with (first | (refine step_loadA wP rfl rfl I5.out rfl ?_) | fail)
  refine (HE.out _ _ _ D5.out).mono ?_
  rintro r w6 ⟨hb6, vy, rfl, hy6⟩
  obtain ⟨ay, cy, rfl, hsy, hpy⟩ := own_lies hy6 HXB.out (by omega)
  have PY := hide hpy
  have SY := hide hsy
  have OX6 := hide (OX.out.below hb6)
  have SX6 := hide (SX.out.below hb6)
  have Y6 := hide (on_below Y5.out hb6)
  have h65 := hb6.size
  clear hb6 hy6 hsy hpy OX SX
  have R6 := hide (R4.out.on Y6.out)
  have P6 := hide (P4.out.below Y6.out)
  go_wp2_with (first | (refine step_loadA wP rfl rfl R6.out rfl ?_) | fail)
  refine (HR.out _ _ _ P6.out).mono ?_
  rintro r w7 ⟨hb7, vz, rfl, hz7⟩
  obtain ⟨az, cz, rfl, hsz, hpz⟩ := own_lies hz7 HXB.out (by omega)
  have PZ := hide hpz
  have SZ := hide hsz
  have OX7 := hide (OX6.out.below hb7)
  have SX7 := hide (SX6.out.below hb7)
  have SY7 := hide (SY.out.below hb7)
  have Y7 := hide (on_below Y6.out hb7)
  have h76 := hb7.size
  clear hb7 hz7 hsz hpz OX6 SX6 SY Y6 R6 P6
  have I7 := hide (I4.out.on Y7.out)
  have D7 := hide (D4.out.below Y7.out)
  go_wp2_with (first | (refine step_loadA wP rfl rfl I7.out rfl ?_) | fail)
  refine (HT.out _ _ _ D7.out (on_below B4.out Y7.out)).mono ?_
  rintro r w8 ⟨rfl, hb8⟩
  have Z8 := hide hb8
  clear hb8
  have Y8 := hide (on_below Y7.out Z8.out)
  have R8 := hide (R4.out.on Y8.out)
  have P8 := hide (P4.out.below Y8.out)
  go_wp2_with (first | (refine step_loadA wP rfl rfl R8.out rfl ?_) | fail)
  refine (HU.out _ _ _ P8.out).mono ?_
  rintro r w9 ⟨rfl, hb9⟩
  have Z9 := hide (on_below Z8.out hb9)
  have Y9 := hide (on_below Y8.out hb9)
  have h97 := Z9.out.size
  clear hb9 Z8 Y8 R8 P8
  have OX9 := hide (OX7.out.below Z9.out)
  have SX9 := hide (SX7.out.below Z9.out)
  have SY9 := hide (SY7.out.below Z9.out)
  have SZ9 := hide (SZ.out.below Z9.out)
  have I9 := hide (I4.out.on Y9.out)
  have R9 := hide (R4.out.on Y9.out)
  clear OX7 SX7 SY7 SZ Z9 I7 D7 Y7
  go_wp2_with fail
  refine wp_region_noPanic ?_
  have Y0 := hide ((Below.refl w9.heap.size w9).drew)
  obtain ⟨dP, huP, hdP⟩ := wP.und
  have HI : Hid ((Tryd.prog.info? 24).map (·.size) = some 4) := hide wP.size
  have HIN : Hid (∀ v : World, Below w9.heap.size w9 v → v.rangeAt g3 0 (pfC k f s (.slice a' n cap'))) := hide (fun v hv => (I9.out.on hv).range 0 _ (by simp))
  have HPR : Hid (∀ v : World, Below w9.heap.size w9 v → v.rangeAt g1 0 (pfC k f s (.slice a n cap))) := hide (fun v hv => (R9.out.on hv).range 0 _ (by simp))
  have HX0 : Hid (∀ v : World, Below w9.heap.size w9 v → Sl v ax XS.length cx XS) := hide (fun v hv => SX9.out.below hv)
  have HZ0 : Hid (∀ v : World, Below w9.heap.size w9 v → Sl v az XS.length cz XS) := hide (fun v hv => SZ9.out.below hv)
  refine wp_region_held_drew (S := fun v : World => Below w9.heap.size w9 v) (by kernel_rfl) Y0.out (fun hHeld => ?_)
  refine takeH 0 41 (.agg (pfC k f s (.slice a' n cap')).toArray) hHeld rfl rfl (by kernel_rfl) (by kernel_rfl) (by kernel_rfl) (fun _ _ _ h => h) (yieldsIf_load_mid (by rfl) _ _ rfl g3 0 rfl _ _ (fun w h => HIN.out w h) huP hdP HI.out) ?_
  simp only [Act.put, List.setIfInBounds_toArray, List.set_cons_zero, List.set_cons_succ]
  refine takeH 2 43 (.agg (pfC k f s (.slice a n cap)).toArray) hHeld rfl rfl (by kernel_rfl) (by kernel_rfl) (by kernel_rfl) (fun _ _ _ h => h) (yieldsIf_load_mid (by rfl) _ _ rfl g1 0 rfl _ _ (fun w h => HPR.out w h) huP hdP HI.out) ?_
  simp only [Act.put, List.setIfInBounds_toArray, List.set_cons_zero, List.set_cons_succ]
  refine wpAnyH_ready (rs := [1]) (by kernel_rfl) (by simp) (AllReadyH.cons rfl (fun K hK => ?_) AllReadyH.nil)
  rw [if_pos (by rfl)]
  go_simp
  refine (HV.out _ _ _).mono ?_
  rintro r v1 ⟨rfl, hv1⟩
  have Y1 := hide (on_below Y0.out hv1)
  refine hK.out _ _ Y1.out (fun hHeld => ?_)
  clear hK K hv1
  try simp only [Act.put, List.setIfInBounds_toArray, List.set_cons_zero, List.set_cons_succ]
  refine wpAnyH_ready (rs := [3]) (by kernel_rfl) (by simp) (AllReadyH.cons rfl (fun K hK => ?_) AllReadyH.nil)
  rw [if_pos (by rfl)]
  go_simp
  refine (HW.out _ _ _).mono ?_
  rintro r v2 ⟨rfl, hv2⟩
  have Y2 := hide (on_below Y1.out hv2)
  refine hK.out _ _ Y2.out (fun hHeld => ?_)
  clear hK K hv2
  try simp only [Act.put, List.setIfInBounds_toArray, List.set_cons_zero, List.set_cons_succ]
  refine takeH 4 45 (.bool false) hHeld rfl rfl (by kernel_rfl) (by kernel_rfl) (by kernel_rfl) (fun _ _ _ h => h) (Or.inl ⟨by rfl, fun w _ => by go_simp⟩) ?_
  simp only [Act.put, List.setIfInBounds_toArray, List.set_cons_zero, List.set_cons_succ]
  refine takeH 5 46 (.bool false) hHeld rfl rfl (by kernel_rfl) (by kernel_rfl) (by kernel_rfl) (fun _ _ _ h => h) (Or.inl ⟨by rfl, fun w _ => by go_simp⟩) ?_
  simp only [Act.put, List.setIfInBounds_toArray, List.set_cons_zero, List.set_cons_succ]
  refine takeH 6 47 (.slice ax XS.length cx) hHeld rfl rfl (by kernel_rfl) (by kernel_rfl) (by kernel_rfl) (fun _ _ _ h => h) (Or.inl ⟨by rfl, fun w _ => by go_simp⟩) ?_
  simp only [Act.put, List.setIfInBounds_toArray, List.set_cons_zero, List.set_cons_succ]
  refine takeH 7 48 (.string (str XS)) hHeld rfl rfl (by kernel_rfl) (by kernel_rfl) (by kernel_rfl) (fun _ _ _ h => h) (Or.inl ⟨by rfl, fun w h => run_op rfl (toStr (HX0.out w h))⟩) ?_
  simp only [Act.put, List.setIfInBounds_toArray, List.set_cons_zero, List.set_cons_succ]
  refine takeH 8 49 (.slice az XS.length cz) hHeld rfl rfl (by kernel_rfl) (by kernel_rfl) (by kernel_rfl) (fun _ _ _ h => h) (Or.inl ⟨by rfl, fun w _ => by go_simp⟩) ?_
  simp only [Act.put, List.setIfInBounds_toArray, List.set_cons_zero, List.set_cons_succ]
  refine takeH 9 50 (.string (str XS)) hHeld rfl rfl (by kernel_rfl) (by kernel_rfl) (by kernel_rfl) (fun _ _ _ h => h) (Or.inl ⟨by rfl, fun w h => run_op rfl (toStr (HZ0.out w h))⟩) ?_
  simp only [Act.put, List.setIfInBounds_toArray, List.set_cons_zero, List.set_cons_succ]
  refine takeH 10 51 (.bool false) hHeld rfl rfl (by kernel_rfl) (by kernel_rfl) (by kernel_rfl) (fun _ _ _ h => h) (Or.inl ⟨by rfl, fun w _ => by go_simp⟩) ?_
  simp only [Act.put, List.setIfInBounds_toArray, List.set_cons_zero, List.set_cons_succ]
  refine takeH 11 52 (.bool false) hHeld rfl rfl (by kernel_rfl) (by kernel_rfl) (by kernel_rfl) (fun _ _ _ h => h) (Or.inl ⟨by rfl, fun w _ => by go_simp⟩) ?_
  simp only [Act.put, List.setIfInBounds_toArray, List.set_cons_zero, List.set_cons_succ]
  refine takeH 12 53 (.bool false) hHeld rfl rfl (by kernel_rfl) (by kernel_rfl) (by kernel_rfl) (fun _ _ _ h => h) (Or.inl ⟨by rfl, fun w _ => by go_simp⟩) ?_
  simp only [Act.put, List.setIfInBounds_toArray, List.set_cons_zero, List.set_cons_succ]
  refine takeH 13 54 (.int .i64 E) hHeld rfl rfl (by kernel_rfl) (by kernel_rfl) (by kernel_rfl) (fun _ _ _ h => h) (Or.inl ⟨by rfl, fun w _ => by go_simp⟩) ?_
  simp only [Act.put, List.setIfInBounds_toArray, List.set_cons_zero, List.set_cons_succ]
  refine takeH 14 55 (.int .i64 E) hHeld rfl rfl (by kernel_rfl) (by kernel_rfl) (by kernel_rfl) (fun _ _ _ h => h) (Or.inl ⟨by rfl, fun w _ => by go_simp⟩) ?_
  simp only [Act.put, List.setIfInBounds_toArray, List.set_cons_zero, List.set_cons_succ]
  refine takeH 15 56 (.bool false) hHeld rfl rfl (by kernel_rfl) (by kernel_rfl) (by kernel_rfl) (fun _ _ _ h => h) (Or.inl ⟨by rfl, fun w _ => by go_simp⟩) ?_
  simp only [Act.put, List.setIfInBounds_toArray, List.set_cons_zero, List.set_cons_succ]
  refine takeH 16 57 (.bool false) hHeld rfl rfl (by kernel_rfl) (by kernel_rfl) (by kernel_rfl) (fun _ _ _ h => h) (Or.inl ⟨by rfl, fun w _ => by go_simp⟩) ?_
  simp only [Act.put, List.setIfInBounds_toArray, List.set_cons_zero, List.set_cons_succ]
  refine takeH 17 58 (.bool false) hHeld rfl rfl (by kernel_rfl) (by kernel_rfl) (by kernel_rfl) (fun _ _ _ h => h) (Or.inl ⟨by rfl, fun w _ => by go_simp⟩) ?_
  simp only [Act.put, List.setIfInBounds_toArray, List.set_cons_zero, List.set_cons_succ]
  refine takeH 18 59 (.string TT) hHeld rfl rfl (by kernel_rfl) (by kernel_rfl) (by kernel_rfl) (fun _ _ _ h => h) (Or.inl ⟨by rfl, fun w _ => by go_simp⟩) ?_
  simp only [Act.put, List.setIfInBounds_toArray, List.set_cons_zero, List.set_cons_succ]
  refine takeH 19 60 (.string TT) hHeld rfl rfl (by kernel_rfl) (by kernel_rfl) (by kernel_rfl) (fun _ _ _ h => h) (Or.inl ⟨by rfl, fun w _ => by go_simp⟩) ?_
  simp only [Act.put, List.setIfInBounds_toArray, List.set_cons_zero, List.set_cons_succ]
  refine takeH 20 61 (.bool false) hHeld rfl rfl (by kernel_rfl) (by kernel_rfl) (by kernel_rfl) (fun _ _ _ h => h) (Or.inl ⟨by rfl, fun w _ => by go_simp⟩) ?_
  simp only [Act.put, List.setIfInBounds_toArray, List.set_cons_zero, List.set_cons_succ]
  refine takeH 21 62 (.bool false) hHeld rfl rfl (by kernel_rfl) (by kernel_rfl) (by kernel_rfl) (fun _ _ _ h => h) (Or.inl ⟨by rfl, fun w _ => by go_simp⟩) ?_
  simp only [Act.put, List.setIfInBounds_toArray, List.set_cons_zero, List.set_cons_succ]
  refine takeH 22 63 (.bool false) hHeld rfl rfl (by kernel_rfl) (by kernel_rfl) (by kernel_rfl) (fun _ _ _ h => h) (Or.inl ⟨by rfl, fun w _ => by go_simp⟩) ?_
  simp only [Act.put, List.setIfInBounds_toArray, List.set_cons_zero, List.set_cons_succ]
  refine takeH 23 64 (.int .i64 E) hHeld rfl rfl (by kernel_rfl) (by kernel_rfl) (by kernel_rfl) (fun _ _ _ h => h) (Or.inl ⟨by rfl, fun w _ => by go_simp⟩) ?_
  simp only [Act.put, List.setIfInBounds_toArray, List.set_cons_zero, List.set_cons_succ]
  refine takeH 24 65 (.int .i64 E) hHeld rfl rfl (by kernel_rfl) (by kernel_rfl) (by kernel_rfl) (fun _ _ _ h => h) (Or.inl ⟨by rfl, fun w _ => by go_simp⟩) ?_
  simp only [Act.put, List.setIfInBounds_toArray, List.set_cons_zero, List.set_cons_succ]
  refine takeH 25 66 (.bool false) hHeld rfl rfl (by kernel_rfl) (by kernel_rfl) (by kernel_rfl) (fun _ _ _ h => h) (Or.inl ⟨by rfl, fun w _ => by go_simp⟩) ?_
  simp only [Act.put, List.setIfInBounds_toArray, List.set_cons_zero, List.set_cons_succ]
  refine takeH 26 67 (.bool false) hHeld rfl rfl (by kernel_rfl) (by kernel_rfl) (by kernel_rfl) (fun _ _ _ h => h) (Or.inl ⟨by rfl, fun w _ => by go_simp⟩) ?_
  simp only [Act.put, List.setIfInBounds_toArray, List.set_cons_zero, List.set_cons_succ]
  refine wpAnyH_done (by kernel_rfl) ?_ _
  refine NoPanic.normal ?_
  clear hHeld huP hdP HIN HPR HX0 HZ0 HI
  have h29 := Y2.out.size
  have OX2 := hide (OX9.out.below Y2.out)
  have SY2 := hide (SY9.out.below Y2.out)
  have SZ2 := hide (SZ9.out.below Y2.out)
  have YT := hide (on_below Y9.out Y2.out)
  clear OX9 SX9 SY9 SZ9 I9 R9 Y9 Y0 Y1
  go_wp2_with fail
  refine (spoil8_any OX2.out (by omega)).mono ?_
  rintro r w10 ⟨rfl, g, hg, hbut⟩
  have h5 := Y5.out.size
  have ny : Apart g ay := fun x hx => by
    have := PY.out x hx
    rcases hg with ⟨_, y, e, e2⟩ | e
    · have := PX.out y e; omega
    · omega
  have nz : Apart g az := fun x hx => by
    have := PZ.out x hx
    rcases hg with ⟨_, y, e, e2⟩ | e
    · have := PX.out y e; omega
    · omega
  have hle : w4.heap.size ≤ g := by
    rcases hg with ⟨e, _⟩ | e
    · exact e
    · have := YT.out.size; omega
  have SY3 := hide (SY2.out.but hbut fun _ => ny)
  have SZ3 := hide (SZ2.out.but hbut fun _ => nz)
  have YU := hide (YT.out.trans (hbut.below hle))
  have IU := hide (I4.out.on YU.out)
  have RU := hide (R4.out.on YU.out)
  have DU := hide (D4.out.below YU.out)
  have PU := hide (P4.out.below YU.out)
  clear hg hbut ny nz SY2 SZ2 YT OX2 PX PY PZ
  go_wp2_with (first | (refine step_loadA wP rfl rfl IU.out rfl ?_) | (refine step_loadA wP rfl rfl RU.out rfl ?_) | (refine step_toStr rfl rfl SY3.out ?_) | (refine step_toStr rfl rfl SZ3.out ?_) | fail)
  refine (samep k f s a' a n cap' cap ys _ DU.out PU.out).mono ?_
  rintro r w11 ⟨rfl, hb11⟩
  go_wp2_with fail
  refine (names8 _).mono ?_
  rintro r w12 ⟨rfl, rfl⟩
  go_wp2
  go_ret
  exact ⟨rfl, on_below B4.out (on_below YU.out hb11)⟩

theorem encodes_walk (k f s : Int) (a : Option Addr) (n cap : Nat) (ys : List Int) (w : World) (hs : Ds w a n cap ys) (ht : PT w) :
    Calls Tryd.prog 3 #[.agg (pfC k f s (.slice a n cap)).toArray] w fun e w' => e = .returned (.bool true) ∧ Below w.heap.size w w' := by
  have hn := hs.hreach
  by_cases hv : pval k f s n = true
  · have hc : pcnt k f s = some n := by unfold pval at hv; simpa using hv
    obtain ⟨hk, hf0, hfs, hs48⟩ := pcnt_bd hc
    obtain ⟨f', rfl⟩ := Int.eq_ofNat_of_zero_le hf0
    obtain ⟨s', rfl⟩ := Int.eq_ofNat_of_zero_le (show 0 ≤ s by omega)
    have hn49 := pcnt_le hc
    refine encodes_core k f' s' a n cap ys (encB k f' s' n ys) (bA (textU k f' s' n ys)) 0 true w hs ?_ ?_ ?_ ?_ ?_ ?_ ?_ ?_
    · have h1 : isB [k] := isB_one (by omega) (by omega)
      exact (((h1.append (be_isB _ 8)).append (be_isB _ 8)).append (isB_one (by omega) (by omega))).append hs.hbyte
    · unfold encB; rw [List.length_append, encH_length, hs.hlen]; omega
    · intro b c V hV
      exact (encode_ok k f' s' b n c ys V hV hc).mono fun r w' ⟨h1, v, h2, _, h3⟩ => ⟨h1, v, h2, h3⟩
    · intro b c V hV
      exact (encodeR_ok k f' s' b n c ys V hV hc).mono fun r w' ⟨h1, v, h2, _, h3⟩ => ⟨h1, v, h2, h3⟩
    · exact fun b c V hV hb => text_ok k f' s' b n c ys V hV hc (ht.below hb)
    · exact fun b c V hV => textR_ok k f' s' b n c ys V hV hc
    · exact fun b c V => by have := valid_any k f' s' b n c V (by omega); rwa [hv] at this
    · exact fun b c V => by have := validR_any k f' s' b n c V (by omega); rwa [hv] at this
  · have hv : pval k f s n = false := by simpa using hv
    refine encodes_core k f s a n cap ys [] (bA []) 2 false w hs (by intro x hx; simp at hx) (by simp) ?_ ?_ ?_ ?_ ?_ ?_
    · intro b c V hV
      exact (encode_bad k f s b n c V (by omega) hv).mono fun r w' ⟨h1, h2⟩ => ⟨h2, _, h1, World.ownsRow_nil _ _ _ _⟩
    · intro b c V hV
      exact (encodeR_bad k f s b n c V (by omega) hv).mono fun r w' ⟨h1, h2⟩ => ⟨h2, _, h1, World.ownsRow_nil _ _ _ _⟩
    · exact fun b c V hV hb => text_bad k f s b n c V (by omega) hv
    · exact fun b c V hV => textR_bad k f s b n c V (by omega) hv
    · exact fun b c V => by have := valid_any k f s b n c V (by omega); rwa [hv] at this
    · exact fun b c V => by have := validR_any k f s b n c V (by omega); rwa [hv] at this

end Go.Proofs.YtojepbapdjkknaaDoor

/-
  From how an argument is read as data to what the walks are told of it: a proof; the tables that lie there for WireEncodes.
-/
namespace Go.Proofs.YtojepbapdjkknaaDoor
open Go.ChangeShapes Go.WideShapes Go.ChangeAt Go.RowKit
set_option linter.unusedVariables false

set_option maxRecDepth 100000 in
theorem prf_of {T : TypeId} {f0 f1 f2 f3 : Field} (hu : Tryd.prog.underlying T = some (.struct #[f0, f1, f2, f3])) (hc : Tryd.prog.cellsOf T = 4) (o0 : f0.offset = 0) (o1 : f1.offset = 1) (o2 : f2.offset = 2) (o3 : f3.offset = 3) (t0 : f0.type = 3) (t1 : f1.type = 3) (t2 : f2.type = 3) (t3 : f3.type = 22)
    {H : Type} {enc : TypeId × Value → H} {W : World} {base : Nat} {v : Value} {d : DataW H} {p : List MemPlace} {ts : List TypeId} {ds : List (DataW H)} (j : Nat)
    (hv : Value.okWide Tryd.prog W .any base T v) (h : DataW.Trod enc Tryd.prog W 0 (fun _ => true) true T v d p)
    (hsz : (DataW.weightsEach Tryd.prog ts ds).all (· ≤ reachBytes) = true) (ht : ts[j]? = some T) (hd : ds[j]? = some d) :
    ∃ (k i n : Int) (a : Option Addr) (len cap : Nat) (xs : List Int), v = .agg #[.int .i64 k, .int .i64 i, .int .i64 n, .slice a len cap] ∧ Ds W a len cap xs ∧ cap ≤ 4398046510976 := by
  obtain ⟨cs, rfl, hsz2⟩ := okWide_struct hu hv
  rw [hc] at hsz2
  obtain ⟨fuel, hf⟩ := h
  obtain ⟨y0, y1, y2, y3, q, hx, _, h0, h1, h2, h3⟩ := Joins.trod_struct4 hu hf
  have c1 : Tryd.prog.cellsOf 3 = 1 := by kernel_rfl
  have c2 : Tryd.prog.cellsOf 22 = 1 := by kernel_rfl
  have hi : Tryd.prog.underlying 3 = some (.int .i64) := by kernel_rfl
  rw [o0, t0, c1] at h0
  rw [o1, t1, c1] at h1
  rw [o2, t2, c1] at h2
  rw [o3, t3, c2] at h3
  obtain ⟨n, e0, _, w0⟩ := DataW.trod_int hi h0
  obtain ⟨m, e1, _, w1⟩ := DataW.trod_int hi h1
  obtain ⟨l, e2, _, w2⟩ := DataW.trod_int hi h2
  obtain ⟨a, len, cap, xs, e3, hds, hd2⟩ := ds_trod h3
  have hcap : cap ≤ 4398046510976 := by
    rcases hd2 with ⟨_, rfl⟩ | ⟨es, rs, e4, hl⟩
    · omega
    · simp only [Prod.mk.injEq] at hx
      have hm : (es.length + rs.length) * Tryd.prog.bytesOf 45 ∈ d.weights Tryd.prog T := by
        rw [hx.1]
        simp only [DataW.weights, hu]
        refine DataW.weights_mem_each (j := 3) (t := 22) (d := y3.1) (by simp [t3]) (by simp) _ ?_
        rw [e4]
        simp [DataW.weights]
      have := List.all_eq_true.1 hsz _ (DataW.weights_mem_each ht hd _ hm)
      simp only [decide_eq_true_eq] at this
      rw [bytesD, hl] at this
      simp only [reachBytes] at this
      omega
  refine ⟨n, m, l, a, len, cap, xs, ?_, hds (by omega), hcap⟩
  obtain ⟨ll⟩ := cs
  simp only [Value.cells] at e0 e1 e2 e3
  match ll, hsz2 with
  | [x, y, z, u], _ =>
    simp at e0 e1 e2 e3
    rw [e0, e1, e2, e3]

def dL : List Int := Lib.deBruijn64tab.map fun n : Nat => (n : Int)
def dL32 : List Int := Lib.deBruijn32tab.map fun n : Nat => (n : Int)
theorem gPTt : (Tryd.prog.globals[0]?).map (·.type) = some 183 := by kernel_rfl
theorem undP : Tryd.prog.underlying 183 = some (.array 20 58) := by kernel_rfl
theorem undP8 : Tryd.prog.underlying 58 = some (.int .u64) := by kernel_rfl
theorem cellsP8 : Tryd.prog.cellsOf 58 = 1 := by kernel_rfl
theorem cellsPt : Tryd.prog.cellsOf 183 = 20 := by kernel_rfl
theorem kt4_of {W : World} (h : laidMetH Tryd.prog [("math/bits.deBruijn32tab", Rows.laid_math_bits_deBruijn32tab), ("math/bits.deBruijn64tab", Rows.laid_math_bits_deBruijn64tab), ("internal/strconv.uint64pow10", Rows.laid_internal_strconv_uint64pow10)] W) : PT W := by
  have h0 : laidMet Tryd.prog [("math/bits.deBruijn32tab", Rows.laid_math_bits_deBruijn32tab), ("math/bits.deBruijn64tab", Rows.laid_math_bits_deBruijn64tab), ("internal/strconv.uint64pow10", Rows.laid_internal_strconv_uint64pow10)] W := h
  have h1 := laidMet.tail h0
  have h2 := laidMet.tail h1
  exact Lib.tabIs_of_head (rest := []) gPT gPTt undP undP8 cellsP8 cellsPt h2
/-- A world with the tables laid in it, for the witness. -/
def laidOf4 (W : World) : World :=
  { W with heap := ((W.heap.modify 0 fun
      | .cells _ t frozen => .cells (Lib.pow10Tab.map (Value.int .u64)).toArray t frozen
      | o => o).modify 4 fun
      | .cells _ t frozen => .cells (dL.map (Value.int .u8)).toArray t frozen
      | o => o).modify 3 fun
      | .cells _ t frozen => .cells (dL32.map (Value.int .u8)).toArray t frozen
      | o => o }

end Go.Proofs.YtojepbapdjkknaaDoor

/-
  The shelf's contracts at this program that are wanted here, laid in plain words.
-/
namespace Go.Proofs
open Go.Shelf
def Tryd.laysC172_ren : Go.Shelf.Ren := ⟨fun | 172 => 113 | 244 => 131 | 245 => 132 | 247 => 146 | 279 => 147 | 280 => 148 | 281 => 149 | 282 => 150 | 287 => 160 | 316 => 161 | 171 => 32 | 205 => 162 | 321 => 167 | 322 => 168 | 243 => 63 | 246 => 85 | 283 => 104 | 284 => 105 | 285 => 106 | 286 => 107 | 129 => 103 | 317 => 125 | 318 => 126 | 319 => 127 | 320 => 128 | 337 => 140 | 338 => 141 | n => n, fun | 9 => 9 | 3 => 3 | 75 => 65 | 76 => 66 | 4 => 4 | 5 => 5 | 167 => 193 | 37 => 26 | 0 => 0 | 85 => 194 | 2 => 2 | 168 => 196 | 53 => 58 | 175 => 205 | 46 => 114 | 210 => 208 | 127 => 105 | 145 => 217 | 143 => 215 | 21 => 21 | 171 => 161 | 173 => 163 | 212 => 183 | 51 => 133 | 20 => 20 | 213 => 129 | 232 => 44 | 233 => 155 | 80 => 70 | n => n, fun | 15 => 5 | 16 => 6 | 17 => 0 | 18 => 3 | 19 => 4 | n => n⟩
theorem Tryd.laysC172 : Go.Proofs.LaysC.n172 Tryd.prog Tryd.laysC172_ren := {
  mixed := by kernel_rfl
  f129 := Tryd.func103.trans (congrArg some (by kernel_rfl))
  f171 := Tryd.func32.trans (congrArg some (by kernel_rfl))
  f172 := Tryd.func113.trans (congrArg some (by kernel_rfl))
  f205 := Tryd.func162.trans (congrArg some (by kernel_rfl))
  f243 := Tryd.func63.trans (congrArg some (by kernel_rfl))
  f244 := Tryd.func131.trans (congrArg some (by kernel_rfl))
  f245 := Tryd.func132.trans (congrArg some (by kernel_rfl))
  f246 := Tryd.func85.trans (congrArg some (by kernel_rfl))
  f247 := Tryd.func146.trans (congrArg some (by kernel_rfl))
  f279 := Tryd.func147.trans (congrArg some (by kernel_rfl))
  f280 := Tryd.func148.trans (congrArg some (by kernel_rfl))
  f281 := Tryd.func149.trans (congrArg some (by kernel_rfl))
  f282 := Tryd.func150.trans (congrArg some (by kernel_rfl))
  f283 := Tryd.func104.trans (congrArg some (by kernel_rfl))
  f284 := Tryd.func105.trans (congrArg some (by kernel_rfl))
  f285 := Tryd.func106.trans (congrArg some (by kernel_rfl))
  f286 := Tryd.func107.trans (congrArg some (by kernel_rfl))
  f287 := Tryd.func160.trans (congrArg some (by kernel_rfl))
  f316 := Tryd.func161.trans (congrArg some (by kernel_rfl))
  f317 := Tryd.func125.trans (congrArg some (by kernel_rfl))
  f318 := Tryd.func126.trans (congrArg some (by kernel_rfl))
  f319 := Tryd.func127.trans (congrArg some (by kernel_rfl))
  f320 := Tryd.func128.trans (congrArg some (by kernel_rfl))
  f321 := Tryd.func167.trans (congrArg some (by kernel_rfl))
  f322 := Tryd.func168.trans (congrArg some (by kernel_rfl))
  f337 := Tryd.func140.trans (congrArg some (by kernel_rfl))
  f338 := Tryd.func141.trans (congrArg some (by kernel_rfl))
  t0 := Tryd.underlying0
  a0 := Tryd.isAgg0
  z0 := Tryd.sizeOf0
  v0 := Tryd.zeroValue0
  t2 := Tryd.underlying2
  a2 := Tryd.isAgg2
  z2 := Tryd.sizeOf2
  v2 := Tryd.zeroValue2
  t3 := Tryd.underlying3
  a3 := Tryd.isAgg3
  z3 := Tryd.sizeOf3
  v3 := Tryd.zeroValue3
  t4 := Tryd.underlying4
  a4 := Tryd.isAgg4
  z4 := Tryd.sizeOf4
  v4 := Tryd.zeroValue4
  t5 := Tryd.underlying5
  a5 := Tryd.isAgg5
  z5 := Tryd.sizeOf5
  v5 := Tryd.zeroValue5
  t9 := Tryd.underlying9
  a9 := Tryd.isAgg9
  z9 := Tryd.sizeOf9
  v9 := Tryd.zeroValue9
  t20 := Tryd.underlying20
  a20 := Tryd.isAgg20
  z20 := Tryd.sizeOf20
  v20 := Tryd.zeroValue20
  t21 := Tryd.underlying21
  a21 := Tryd.isAgg21
  z21 := Tryd.sizeOf21
  v21 := Tryd.zeroValue21
  t37 := Tryd.underlying26
  a37 := Tryd.isAgg26
  z37 := Tryd.sizeOf26
  v37 := Tryd.zeroValue26
  t46 := Tryd.underlying114
  a46 := Tryd.isAgg114
  z46 := Tryd.sizeOf114
  v46 := Tryd.zeroValue114
  t51 := Tryd.underlying133
  a51 := Tryd.isAgg133
  z51 := Tryd.sizeOf133
  v51 := Tryd.zeroValue133
  t53 := Tryd.underlying58
  a53 := Tryd.isAgg58
  z53 := Tryd.sizeOf58
  v53 := Tryd.zeroValue58
  t75 := Tryd.underlying65
  a75 := Tryd.isAgg65
  z75 := Tryd.sizeOf65
  v75 := Tryd.zeroValue65
  t76 := Tryd.underlying66
  a76 := Tryd.isAgg66
  z76 := Tryd.sizeOf66
  v76 := Tryd.zeroValue66
  t85 := Tryd.underlying194
  a85 := Tryd.isAgg194
  z85 := Tryd.sizeOf194
  v85 := Tryd.zeroValue194
  t127 := Tryd.underlying105
  a127 := Tryd.isAgg105
  z127 := Tryd.sizeOf105
  v127 := Tryd.zeroValue105
  t143 := Tryd.underlying215
  a143 := Tryd.isAgg215
  z143 := Tryd.sizeOf215
  v143 := Tryd.zeroValue215
  t145 := Tryd.underlying217
  a145 := Tryd.isAgg217
  z145 := Tryd.sizeOf217
  v145 := Tryd.zeroValue217
  t167 := Tryd.underlying193
  a167 := Tryd.isAgg193
  z167 := Tryd.sizeOf193
  v167 := Tryd.zeroValue193
  t168 := Tryd.underlying196
  a168 := Tryd.isAgg196
  z168 := Tryd.sizeOf196
  v168 := Tryd.zeroValue196
  t171 := Tryd.underlying161
  a171 := Tryd.isAgg161
  z171 := Tryd.sizeOf161
  v171 := Tryd.zeroValue161
  t173 := Tryd.underlying163
  a173 := Tryd.isAgg163
  z173 := Tryd.sizeOf163
  v173 := Tryd.zeroValue163
  t175 := Tryd.underlying205
  a175 := Tryd.isAgg205
  z175 := Tryd.sizeOf205
  v175 := Tryd.zeroValue205
  t210 := Tryd.underlying208
  a210 := Tryd.isAgg208
  z210 := Tryd.sizeOf208
  v210 := Tryd.zeroValue208
  t212 := Tryd.underlying183
  a212 := Tryd.isAgg183
  z212 := Tryd.sizeOf183
  v212 := Tryd.zeroValue183
  t213 := Tryd.underlying129
  a213 := Tryd.isAgg129
  z213 := Tryd.sizeOf129
  t232 := Tryd.underlying44
  a232 := Tryd.isAgg44
  z232 := Tryd.sizeOf44
  v232 := Tryd.zeroValue44
  t233 := Tryd.underlying155
  a233 := Tryd.isAgg155
  z233 := Tryd.sizeOf155
  v233 := Tryd.zeroValue155
  g15 := by kernel_rfl
  g16 := by kernel_rfl
  g17 := by kernel_rfl
  g18 := by kernel_rfl
  g19 := by kernel_rfl
  t80 := Tryd.underlying70
  a80 := Tryd.isAgg70
  z80 := Tryd.sizeOf70
  v80 := Tryd.zeroValue70
  i0 := by kernel_rfl
  i2 := by kernel_rfl
  i3 := by kernel_rfl
  i4 := by kernel_rfl
  i5 := by kernel_rfl
  i9 := by kernel_rfl
  i20 := by kernel_rfl
  i21 := by kernel_rfl
  i37 := by kernel_rfl
  i46 := by kernel_rfl
  i51 := by kernel_rfl
  i53 := by kernel_rfl
  i75 := by kernel_rfl
  i76 := by kernel_rfl
  i80 := by kernel_rfl
  i85 := by kernel_rfl
  i127 := by kernel_rfl
  i143 := by kernel_rfl
  i145 := by kernel_rfl
  i167 := by kernel_rfl
  i168 := by kernel_rfl
  i171 := by kernel_rfl
  i173 := by kernel_rfl
  i175 := by kernel_rfl
  i210 := by kernel_rfl
  i212 := by kernel_rfl
  i232 := by kernel_rfl
  i233 := by kernel_rfl
  m15 := by kernel_rfl
  m16 := by kernel_rfl
  m17 := by kernel_rfl
  m18 := by kernel_rfl
  m19 := by kernel_rfl
  c0 := by kernel_rfl
  c2 := by kernel_rfl
  c3 := by kernel_rfl
  c4 := by kernel_rfl
  c5 := by kernel_rfl
  c9 := by kernel_rfl
  c20 := by kernel_rfl
  c21 := by kernel_rfl
  c37 := by kernel_rfl
  c46 := by kernel_rfl
  c51 := by kernel_rfl
  c53 := by kernel_rfl
  c75 := by kernel_rfl
  c76 := by kernel_rfl
  c80 := by kernel_rfl
  c85 := by kernel_rfl
  c127 := by kernel_rfl
  c143 := by kernel_rfl
  c145 := by kernel_rfl
  c167 := by kernel_rfl
  c168 := by kernel_rfl
  c171 := by kernel_rfl
  c173 := by kernel_rfl
  c175 := by kernel_rfl
  c210 := by kernel_rfl
  c212 := by kernel_rfl
  c213 := by kernel_rfl
  c232 := by kernel_rfl
  c233 := by kernel_rfl }
open Go.RowKit in
theorem Tryd.strconv_Atoi_ok (s : ByteArray) (hmax : s.size ≤ 9223372036854775806) (v : Int) (h : Lib.atoiAll s.data.toList = .ok v) (w : World) :
    Calls Tryd.prog 113 #[.string s] w fun e w' => e = .returned (.tuple #[.int .i64 v, .nilIface]) ∧ (w' = w ∨ ∃ t, w' = Lib.bytesWorld w 5 t) := Any.strconv_Atoi_ok Tryd.laysC172 s hmax v h w
def Tryd.lays145_ren : Go.Shelf.Ren := ⟨fun | 145 => 90 | 220 => 112 | 219 => 130 | 217 => 142 | 225 => 143 | 224 => 144 | 267 => 145 | 266 => 158 | 314 => 159 | n => n, fun | 9 => 9 | 4 => 4 | 59 => 76 | 3 => 3 | 5 => 5 | 46 => 114 | 146 => 203 | 51 => 133 | n => n, fun | 1 => 2 | n => n⟩
theorem Tryd.lays145 : Go.Proofs.Lays.n145 Tryd.prog Tryd.lays145_ren := {
  mixed := by kernel_rfl
  f145 := Tryd.func90.trans (congrArg some (by kernel_rfl))
  f217 := Tryd.func142.trans (congrArg some (by kernel_rfl))
  f219 := Tryd.func130.trans (congrArg some (by kernel_rfl))
  f220 := Tryd.func112.trans (congrArg some (by kernel_rfl))
  f224 := Tryd.func144.trans (congrArg some (by kernel_rfl))
  f225 := Tryd.func143.trans (congrArg some (by kernel_rfl))
  f266 := Tryd.func158.trans (congrArg some (by kernel_rfl))
  f267 := Tryd.func145.trans (congrArg some (by kernel_rfl))
  f314 := Tryd.func159.trans (congrArg some (by kernel_rfl))
  t3 := Tryd.underlying3
  a3 := Tryd.isAgg3
  z3 := Tryd.sizeOf3
  v3 := Tryd.zeroValue3
  t4 := Tryd.underlying4
  a4 := Tryd.isAgg4
  z4 := Tryd.sizeOf4
  v4 := Tryd.zeroValue4
  t5 := Tryd.underlying5
  a5 := Tryd.isAgg5
  z5 := Tryd.sizeOf5
  v5 := Tryd.zeroValue5
  t9 := Tryd.underlying9
  a9 := Tryd.isAgg9
  z9 := Tryd.sizeOf9
  v9 := Tryd.zeroValue9
  t46 := Tryd.underlying114
  a46 := Tryd.isAgg114
  z46 := Tryd.sizeOf114
  v46 := Tryd.zeroValue114
  t51 := Tryd.underlying133
  a51 := Tryd.isAgg133
  z51 := Tryd.sizeOf133
  v51 := Tryd.zeroValue133
  t59 := Tryd.underlying76
  a59 := Tryd.isAgg76
  z59 := Tryd.sizeOf76
  v59 := Tryd.zeroValue76
  t146 := Tryd.underlying203
  a146 := Tryd.isAgg203
  z146 := Tryd.sizeOf203
  v146 := Tryd.zeroValue203
  g1 := by kernel_rfl }
open Go.RowKit Go.Lib in
theorem Tryd.strings_Cut (s sep : ByteArray) (m : Int) (w : World) (hs : s.size < 4294967281) (hm : w.cell? ⟨2, 0, none⟩ = some (.int .i64 m)) :
    Calls Tryd.prog 90 #[.string s, .string sep] w fun e w' => e = .returned (.tuple #[.string ⟨(Lib.cut s.data.toList sep.data.toList).1.toArray⟩, .string ⟨(Lib.cut s.data.toList sep.data.toList).2.1.toArray⟩, .bool (Lib.cut s.data.toList sep.data.toList).2.2]) ∧ ∃ n, w' = w.drewN n := Any.strings_Cut Tryd.lays145 s sep m w hs hm
def Tryd.laysM145_ren : Go.Shelf.Ren := ⟨fun | 145 => 90 | 220 => 112 | 219 => 130 | 217 => 142 | 225 => 143 | 224 => 144 | 267 => 145 | 266 => 158 | 314 => 159 | n => n, fun | 9 => 9 | 4 => 4 | 59 => 76 | 3 => 3 | 5 => 5 | 46 => 114 | 146 => 203 | 51 => 133 | n => n, fun | 1 => 2 | n => n⟩
theorem Tryd.laysM145 : Go.Proofs.LaysM.n145 Tryd.prog Tryd.laysM145_ren := {
  mixed := by kernel_rfl
  f145 := Tryd.func90.trans (congrArg some (by kernel_rfl))
  f217 := Tryd.func142.trans (congrArg some (by kernel_rfl))
  f219 := Tryd.func130.trans (congrArg some (by kernel_rfl))
  f220 := Tryd.func112.trans (congrArg some (by kernel_rfl))
  f224 := Tryd.func144.trans (congrArg some (by kernel_rfl))
  f225 := Tryd.func143.trans (congrArg some (by kernel_rfl))
  f266 := Tryd.func158.trans (congrArg some (by kernel_rfl))
  f267 := Tryd.func145.trans (congrArg some (by kernel_rfl))
  f314 := Tryd.func159.trans (congrArg some (by kernel_rfl))
  t3 := Tryd.underlying3
  a3 := Tryd.isAgg3
  z3 := Tryd.sizeOf3
  v3 := Tryd.zeroValue3
  t4 := Tryd.underlying4
  a4 := Tryd.isAgg4
  z4 := Tryd.sizeOf4
  v4 := Tryd.zeroValue4
  t5 := Tryd.underlying5
  a5 := Tryd.isAgg5
  z5 := Tryd.sizeOf5
  v5 := Tryd.zeroValue5
  t9 := Tryd.underlying9
  a9 := Tryd.isAgg9
  z9 := Tryd.sizeOf9
  v9 := Tryd.zeroValue9
  t46 := Tryd.underlying114
  a46 := Tryd.isAgg114
  z46 := Tryd.sizeOf114
  v46 := Tryd.zeroValue114
  t51 := Tryd.underlying133
  a51 := Tryd.isAgg133
  z51 := Tryd.sizeOf133
  v51 := Tryd.zeroValue133
  t59 := Tryd.underlying76
  a59 := Tryd.isAgg76
  z59 := Tryd.sizeOf76
  v59 := Tryd.zeroValue76
  t146 := Tryd.underlying203
  a146 := Tryd.isAgg203
  z146 := Tryd.sizeOf203
  v146 := Tryd.zeroValue203
  g1 := by kernel_rfl
  i3 := by kernel_rfl
  i4 := by kernel_rfl
  i5 := by kernel_rfl
  i9 := by kernel_rfl
  i46 := by kernel_rfl
  i51 := by kernel_rfl
  i59 := by kernel_rfl
  i146 := by kernel_rfl
  m1 := by kernel_rfl
  s1_3 := fun w h => Go.Proofs.cell_of_shapedOpen_int (zero := #[.int .i64 0]) (t := 3) h (of_decide_eq_true (by kernel_rfl)) (by kernel_rfl) rfl (by kernel_rfl) (by kernel_rfl) Tryd.underlying3 }
open Go.RowKit Go.Lib in
theorem Tryd.strings_Cut_shaped (s sep : ByteArray) (w : World) (h : w.ShapedOpen Tryd.prog) (hs : s.size < 4294967281) :
    Calls Tryd.prog 90 #[.string s, .string sep] w fun e w' => e = .returned (.tuple #[.string ⟨(Lib.cut s.data.toList sep.data.toList).1.toArray⟩, .string ⟨(Lib.cut s.data.toList sep.data.toList).2.1.toArray⟩, .bool (Lib.cut s.data.toList sep.data.toList).2.2]) ∧ ∃ n, w' = w.drewN n := Any.strings_Cut_shaped Tryd.laysM145 s sep w h hs
end Go.Proofs

/-
  A text up to a byte, and what is behind it: by the program's library and by the document.
-/
namespace Go.Proofs.YtojepbapdjkknaaDoor
open Go.RowKit
set_option linter.unusedVariables false
set_option linter.unusedSimpArgs false

/-- What stands ahead of a byte, what behind it, and whether it is there. -/
def cutA (s : ByteArray) (c : UInt8) : ByteArray := ⟨(Lib.cut s.data.toList [c]).1.toArray⟩
def cutB (s : ByteArray) (c : UInt8) : ByteArray := ⟨(Lib.cut s.data.toList [c]).2.1.toArray⟩
def cutO (s : ByteArray) (c : UInt8) : Bool := (Lib.cut s.data.toList [c]).2.2
theorem occ_one (l : List UInt8) (c : UInt8) (i : Nat) : Lib.occAt l [c] i = (l[i]? == some c) := by
  unfold Lib.occAt
  by_cases h : i < l.length
  · rw [List.drop_eq_getElem_cons h, List.getElem?_eq_getElem h]
    simp [List.isPrefixOf, eq_comm, Bool.beq_eq_decide_eq]
  · rw [List.drop_eq_nil_of_le (by omega), List.getElem?_eq_none (by omega)]
    rfl
theorem cut_hit {s : ByteArray} {c : UInt8} {i : Nat} (hi : i < s.size) (h : s.data.toList[i]? = some c) (hn : ∀ j, j < i → s.data.toList[j]? ≠ some c) :
    cutA s c = s.extract 0 i ∧ cutB s c = s.extract (i + 1) s.size ∧ cutO s c = true := by
  have hl : s.data.toList.length = s.size := by simp
  have e : Lib.index s.data.toList [c] = i := Lib.index_first (by omega) (by rw [occ_one, h]; simp) (fun j hj => by rw [occ_one]; simpa using hn j hj)
  exact Lib.cutB_hit s ⟨#[c]⟩ i e
theorem cut_miss {s : ByteArray} {c : UInt8} (hn : ∀ j, j < s.size → s.data.toList[j]? ≠ some c) :
    cutA s c = s ∧ cutB s c = ByteArray.empty ∧ cutO s c = false := by
  have hl : s.data.toList.length = s.size := by simp
  have e : Lib.index s.data.toList [c] = -1 := Lib.index_none (fun j hj => by
    rw [occ_one]
    by_cases h : j < s.size
    · simpa using hn j h
    · rw [List.getElem?_eq_none (by omega)]; rfl)
  exact Lib.cutB_miss s ⟨#[c]⟩ e

set_option maxRecDepth 100000 in
set_option maxHeartbeats 400000 in
theorem cutR_any (s : ByteArray) (c : UInt8) (w : World) (hs : s.size ≤ 140737488355328) :
    Calls Tryd.prog 42 #[.string s, .int .u8 (c.toNat : Int)] w fun r w' => r = .returned (.tuple #[.string (cutA s c), .string (cutB s c), .bool (cutO s c)]) ∧ Below w.heap.size w w' := by
  have hl : s.data.toList.length = s.size := by simp
  go_enter Tryd.func42, Tryd.ntmps42
  go_wp2
  go_loopw [7] (fun i W => ∃ q : Nat, q ≤ s.size ∧ i = .int .i64 (q : Int) ∧ Below w.heap.size w W ∧ ∀ j, j < q → s.data.toList[j]? ≠ some c) (fun i _ => s.size - (intOf i).toNat)
  case atStart => exact ⟨0, by omega, rfl, Below.refl _ _, fun j hj => absurd hj (by omega)⟩
  case round =>
    obtain ⟨q, hq, rfl, hbw, hn⟩ := hrel
    have HN := hide hn
    have BW := hide hbw
    clear hn hbw
    by_cases hlt : q < s.size
    · have hlt' : (q : Int) < (s.size : Int) := by omega
      have hg : s.data.toList[q]? = some (s[q]'hlt) := by rw [List.getElem?_eq_getElem (by omega)]; rfl
      by_cases he : s[q]'hlt = c
      · have HC := hide (cut_hit hlt (by rw [hg, he]) HN.out)
        have hb : ((((s[q]'hlt).toNat : Nat) : Int) == ((c.toNat : Nat) : Int)) = true := by rw [he]; simp
        clear hg he
        have hwr : IntKind.i64.wrap ((q : Int) + 1) = (q : Int) + 1 := by rw [IntKind.wrap_i64]; omega
        go_wp2_with fail
        refine wp_region_noPanic ?_
        refine wp_region_held_drew (S := fun _ : World => True) (by kernel_rfl) trivial (fun hHeld => ?_)
        refine takeH 0 19 (.string s) hHeld rfl rfl (by kernel_rfl) (by kernel_rfl) (by kernel_rfl) (fun _ _ _ h => h) (Or.inl ⟨by rfl, fun w _ => by go_simp⟩) ?_
        simp only [Act.put, List.setIfInBounds_toArray, List.set_cons_zero, List.set_cons_succ]
        refine takeH 1 20 (.int .i64 (q : Int)) hHeld rfl rfl (by kernel_rfl) (by kernel_rfl) (by kernel_rfl) (fun _ _ _ h => h) (Or.inl ⟨by rfl, fun w _ => by go_simp⟩) ?_
        simp only [Act.put, List.setIfInBounds_toArray, List.set_cons_zero, List.set_cons_succ]
        refine takeH 2 21 (.string (s.extract 0 q)) hHeld rfl rfl (by kernel_rfl) (by kernel_rfl) (by kernel_rfl) (fun _ _ _ h => h) (Or.inl ⟨by rfl, fun w _ => by go_simp⟩) ?_
        simp only [Act.put, List.setIfInBounds_toArray, List.set_cons_zero, List.set_cons_succ]
        refine takeH 3 22 (.string s) hHeld rfl rfl (by kernel_rfl) (by kernel_rfl) (by kernel_rfl) (fun _ _ _ h => h) (Or.inl ⟨by rfl, fun w _ => by go_simp⟩) ?_
        simp only [Act.put, List.setIfInBounds_toArray, List.set_cons_zero, List.set_cons_succ]
        refine takeH 4 23 (.int .i64 (q : Int)) hHeld rfl rfl (by kernel_rfl) (by kernel_rfl) (by kernel_rfl) (fun _ _ _ h => h) (Or.inl ⟨by rfl, fun w _ => by go_simp⟩) ?_
        simp only [Act.put, List.setIfInBounds_toArray, List.set_cons_zero, List.set_cons_succ]
        refine takeH 5 24 (.int .i64 ((q : Int) + 1)) hHeld rfl rfl (by kernel_rfl) (by kernel_rfl) (by kernel_rfl) (fun _ _ _ h => h) (Or.inl ⟨by rfl, fun w _ => by go_simp⟩) ?_
        simp only [Act.put, List.setIfInBounds_toArray, List.set_cons_zero, List.set_cons_succ]
        refine takeH 6 25 (.string (s.extract (q + 1) s.size)) hHeld rfl rfl (by kernel_rfl) (by kernel_rfl) (by kernel_rfl) (fun _ _ _ h => h) (Or.inl ⟨by rfl, fun w _ => by go_simp; exact fun h => absurd (h (by omega)) (by omega)⟩) ?_
        simp only [Act.put, List.setIfInBounds_toArray, List.set_cons_zero, List.set_cons_succ]
        refine takeH 7 4 (.string (s.extract 0 q)) hHeld rfl rfl (by kernel_rfl) (by kernel_rfl) (by kernel_rfl) (fun _ _ _ h => h) (Or.inl ⟨by rfl, fun w _ => by go_simp⟩) ?_
        simp only [Act.put, List.setIfInBounds_toArray, List.set_cons_zero, List.set_cons_succ]
        refine takeH 8 5 (.string (s.extract (q + 1) s.size)) hHeld rfl rfl (by kernel_rfl) (by kernel_rfl) (by kernel_rfl) (fun _ _ _ h => h) (Or.inl ⟨by rfl, fun w _ => by go_simp⟩) ?_
        simp only [Act.put, List.setIfInBounds_toArray, List.set_cons_zero, List.set_cons_succ]
        refine takeH 9 6 (.bool true) hHeld rfl rfl (by kernel_rfl) (by kernel_rfl) (by kernel_rfl) (fun _ _ _ h => h) (Or.inl ⟨by rfl, fun w _ => by go_simp⟩) ?_
        simp only [Act.put, List.setIfInBounds_toArray, List.set_cons_zero, List.set_cons_succ]
        refine wpAnyH_done (by kernel_rfl) ?_ _
        refine NoPanic.normal ?_
        go_wp2
        go_ret3
        rw [HC.out.1, HC.out.2.1, HC.out.2.2]
        exact ⟨rfl, below_drew BW.out⟩
      · have hb : ((((s[q]'hlt).toNat : Nat) : Int) == ((c.toNat : Nat) : Int)) = false := by
          simp only [beq_eq_false_iff_ne, ne_eq, Int.ofNat_inj]
          exact fun h => he (UInt8.toNat_inj.1 h)
        have HN2 : Hid (∀ j, j < q + 1 → s.data.toList[j]? ≠ some c) := hide (fun j hj => by
          by_cases h : j < q
          · exact HN.out j h
          · obtain rfl : j = q := by omega
            rw [hg]; simpa using he)
        clear hg he
        go_wp2
        go_roundw
        case rel => exact ⟨q + 1, by omega, by simp, BW.out, HN2.out⟩
        case measure => simp only [intOf]; omega
    · obtain rfl : q = s.size := by omega
      have hlt' : ¬ ((s.size : Int) < (s.size : Int)) := by omega
      have HC := hide (cut_miss HN.out)
      go_wp2
      go_ret3
      rw [HC.out.1, HC.out.2.1, HC.out.2.2]
      exact ⟨rfl, BW.out⟩

end Go.Proofs.YtojepbapdjkknaaDoor

/-
  The numbers that digits write.
-/
namespace Go.Proofs.YtojepbapdjkknaaDoor
open Go.RowKit
set_option linter.unusedVariables false
set_option linter.unusedSimpArgs false

theorem decFrom_snoc : ∀ (l : List UInt8) (acc : Nat) (b : UInt8), Lib.decFrom acc (l ++ [b]) = (Lib.decFrom acc l).bind fun m => (Lib.digitVal b).map fun d => m * 10 + d
  | [], acc, b => by
    simp only [List.nil_append, Lib.decFrom, Option.bind_some]
    cases Lib.digitVal b <;> rfl
  | a :: t, acc, b => by
    simp only [List.cons_append, Lib.decFrom]
    cases h : Lib.digitVal a with
    | none => rfl
    | some d => exact decFrom_snoc t _ b
theorem digit_ofNat (d : Nat) (h : d < 10) : Lib.digitVal (UInt8.ofNat (48 + d)) = some d := by
  have : d = 0 ∨ d = 1 ∨ d = 2 ∨ d = 3 ∨ d = 4 ∨ d = 5 ∨ d = 6 ∨ d = 7 ∨ d = 8 ∨ d = 9 := by omega
  rcases this with rfl | rfl | rfl | rfl | rfl | rfl | rfl | rfl | rfl | rfl <;> rfl
theorem dec_snoc {n : Nat} (h : ¬ n < 10) : Lib.decDigits n = Lib.decDigits (n / 10) ++ [UInt8.ofNat (48 + n % 10)] := by
  rw [dec_step h, Lib.decDigits_one (Nat.mod_lt _ (by decide))]
theorem dec_of (m : Nat) : ∀ n, n ≤ m → Lib.decFrom 0 (Lib.decDigits n) = some n := by
  induction m with
  | zero =>
    intro n hn
    obtain rfl : n = 0 := by omega
    rw [Lib.decDigits_one (by decide)]
    simp only [Lib.decFrom, digit_ofNat 0 (by decide), Nat.zero_mul, Nat.zero_add]
  | succ m ih =>
    intro n hn
    by_cases h : n < 10
    · rw [Lib.decDigits_one h]
      simp only [Lib.decFrom, digit_ofNat n h, Nat.zero_mul, Nat.zero_add]
    · rw [dec_snoc h, decFrom_snoc, ih (n / 10) (by omega), digit_ofNat _ (Nat.mod_lt _ (by decide))]
      simp only [Option.bind_some, Option.map_some, Option.some.injEq]
      omega
theorem dec_ne (n : Nat) : Lib.decDigits n ≠ [] := by
  by_cases h : n < 10
  · rw [Lib.decDigits_one h]; simp
  · rw [dec_snoc h]; simp
theorem dec_head (m : Nat) : ∀ n, n ≤ m → 0 < n → (Lib.decDigits n).head? ≠ some 48 := by
  induction m with
  | zero => intro n hn h0; omega
  | succ m ih =>
    intro n hn h0
    by_cases h : n < 10
    · rw [Lib.decDigits_one h]
      have : n = 1 ∨ n = 2 ∨ n = 3 ∨ n = 4 ∨ n = 5 ∨ n = 6 ∨ n = 7 ∨ n = 8 ∨ n = 9 := by omega
      rcases this with rfl | rfl | rfl | rfl | rfl | rfl | rfl | rfl | rfl <;> decide
    · rw [dec_snoc h]
      have e := ih (n / 10) (by omega) (by omega)
      have hne := dec_ne (n / 10)
      cases hd : Lib.decDigits (n / 10) with
      | nil => exact absurd hd hne
      | cons a t => rw [hd] at e; simpa using e
theorem decFrom_le : ∀ (l : List UInt8) (acc n : Nat), Lib.decFrom acc l = some n → acc ≤ n
  | [], acc, n, h => by simp only [Lib.decFrom, Option.some.injEq] at h; omega
  | a :: t, acc, n, h => by
    simp only [Lib.decFrom] at h
    cases ha : Lib.digitVal a with
    | none => simp [ha] at h
    | some d =>
      simp only [ha] at h
      have := decFrom_le t _ n h
      omega
theorem digit_val {b : UInt8} {d : Nat} (h : Lib.digitVal b = some d) : d < 10 ∧ b = UInt8.ofNat (48 + d) := by
  unfold Lib.digitVal at h
  split at h
  · rename_i hb
    simp only [Option.some.injEq] at h
    refine ⟨by omega, UInt8.toNat_inj.1 ?_⟩
    rw [UInt8.toNat_ofNat']
    omega
  · cases h
/-- Digits without a nought ahead are those of their number. -/
theorem dec_canon : ∀ (k : Nat) (l : List UInt8) (n : Nat), l.length ≤ k → l ≠ [] → (1 < l.length → l.head? ≠ some 48) → Lib.decFrom 0 l = some n → Lib.decDigits n = l := by
  intro k
  induction k with
  | zero => intro l n hk h0 _ _; exact absurd (List.eq_nil_of_length_eq_zero (by omega)) h0
  | succ k ih =>
    intro l n hk h0 hh hd
    obtain ⟨m, b, rfl⟩ : ∃ m b, l = m ++ [b] := ⟨l.dropLast, l.getLast h0, (List.dropLast_concat_getLast h0).symm⟩
    rw [decFrom_snoc] at hd
    cases hm : Lib.decFrom 0 m with
    | none => rw [hm] at hd; cases hd
    | some n' =>
      rw [hm] at hd
      simp only [Option.bind_some] at hd
      cases hb : Lib.digitVal b with
      | none => rw [hb] at hd; cases hd
      | some d =>
        rw [hb] at hd
        simp only [Option.map_some, Option.some.injEq] at hd
        obtain ⟨hd10, rfl⟩ := digit_val hb
        cases m with
        | nil =>
          simp only [Lib.decFrom, Option.some.injEq] at hm
          have : n = d := by omega
          rw [this, Lib.decDigits_one hd10]
          rfl
        | cons a t =>
          have hx : a ≠ 48 := by have := hh (by simp); simpa using this
          have h1 : 1 ≤ n' := by
            simp only [Lib.decFrom] at hm
            cases ha : Lib.digitVal a with
            | none => simp [ha] at hm
            | some e =>
              simp only [ha] at hm
              have := decFrom_le t _ n' hm
              obtain ⟨_, he⟩ := digit_val ha
              have : e ≠ 0 := fun h => hx (by rw [he, h]; rfl)
              omega
          have hr := ih (a :: t) n' (by simp at hk ⊢; omega) (by simp) (fun _ => by simpa using hx) hm
          have e1 : n / 10 = n' := by omega
          have e2 : n % 10 = d := by omega
          rw [dec_snoc (by omega), e1, e2, hr]
/-- The number that a text writes, if it is one that may be. -/
def nmO (l : List UInt8) : Option Nat := (Lib.decFrom 0 l).bind fun v => if v ≤ 281474976710656 ∧ Lib.decDigits v = l then some v else none
theorem nmO_some {l : List UInt8} {v : Nat} (h : nmO l = some v) : v ≤ 281474976710656 ∧ Lib.decDigits v = l := by
  unfold nmO at h
  cases hd : Lib.decFrom 0 l with
  | none => rw [hd] at h; cases h
  | some n =>
    rw [hd] at h
    simp only [Option.bind_some] at h
    split at h
    · rename_i hc
      simp only [Option.some.injEq] at h
      subst h
      exact hc
    · cases h
theorem nmO_of {l : List UInt8} {v : Nat} (h0 : v ≤ 281474976710656) (h1 : Lib.decDigits v = l) : nmO l = some v := by
  unfold nmO
  rw [← h1, dec_of v v (Nat.le_refl _)]
  simp [h0]
theorem dec_short {v : Nat} (h : v < 10 ^ 18) : (Lib.decDigits v).length ≤ 18 := by
  have key : ∀ (k v : Nat), v < 10 ^ k → 0 < k → (Lib.decDigits v).length ≤ k := by
    intro k
    induction k with
    | zero => intro v _ h; omega
    | succ k ih =>
      intro v hv _
      by_cases h10 : v < 10
      · rw [Lib.decDigits_one h10]; simp
      · rw [dec_snoc h10, List.length_append]
        have hk : 0 < k := by
          rcases Nat.eq_zero_or_pos k with rfl | h
          · simp at hv; omega
          · exact h
        have := ih (v / 10) (by rw [Nat.pow_succ] at hv; omega) hk
        simp; omega
  exact key 18 v h (by decide)
theorem atoi_of {l : List UInt8} {v : Nat} (h : nmO l = some v) : Lib.atoiAll l = .ok (v : Int) ∧ Lib.itoa (v : Int) = l := by
  obtain ⟨hv, rfl⟩ := nmO_some h
  refine ⟨?_, Lib.itoa_nonneg v⟩
  rw [Lib.atoiAll_short _ (dec_short (by omega))]
  have hd := dec_of v v (Nat.le_refl _)
  cases hl : Lib.decDigits v with
  | nil => exact absurd hl (dec_ne v)
  | cons a t =>
    rw [hl] at hd
    have ha : ∃ e, Lib.digitVal a = some e := by
      simp only [Lib.decFrom] at hd
      cases ha : Lib.digitVal a with
      | none => simp [ha] at hd
      | some e => exact ⟨e, rfl⟩
    obtain ⟨e, ha⟩ := ha
    obtain ⟨he, rfl⟩ := digit_val ha
    have n45 : (UInt8.ofNat (48 + e) == 45) = false := by
      have : e = 0 ∨ e = 1 ∨ e = 2 ∨ e = 3 ∨ e = 4 ∨ e = 5 ∨ e = 6 ∨ e = 7 ∨ e = 8 ∨ e = 9 := by omega
      rcases this with rfl | rfl | rfl | rfl | rfl | rfl | rfl | rfl | rfl | rfl <;> rfl
    have n43 : (UInt8.ofNat (48 + e) == 43) = false := by
      have : e = 0 ∨ e = 1 ∨ e = 2 ∨ e = 3 ∨ e = 4 ∨ e = 5 ∨ e = 6 ∨ e = 7 ∨ e = 8 ∨ e = 9 := by omega
      rcases this with rfl | rfl | rfl | rfl | rfl | rfl | rfl | rfl | rfl | rfl <;> rfl
    unfold Lib.atoi
    simp only [n45, n43, Bool.false_eq_true, if_false, Lib.decNat, List.isEmpty_cons, hd, Option.map_some]
    rfl
/-- What is read otherwise is no number that may be. -/
theorem atoi_other {l : List UInt8} {v : Int} (h : nmO l = none) (h2 : Lib.itoa v = l) : v < 0 ∨ 281474976710656 < v := by
  by_cases h0 : v < 0
  · exact .inl h0
  · right
    obtain ⟨u, rfl⟩ := Int.eq_ofNat_of_zero_le (show 0 ≤ v by omega)
    rw [Lib.itoa_nonneg] at h2
    by_cases hu : u ≤ 281474976710656
    · rw [nmO_of hu h2] at h; cases h
    · omega

end Go.Proofs.YtojepbapdjkknaaDoor

/-
  A number and a kind, read out of a text: by the program and by the document.
-/
namespace Go.Proofs.YtojepbapdjkknaaDoor
open Go.RowKit
set_option linter.unusedVariables false
set_option linter.unusedSimpArgs false

theorem var_below {w w' : World} {nm : String} {cs : Array Value} (h : w.var? Tryd.prog nm = some cs) (hb : Below w.heap.size w w') : w'.var? Tryd.prog nm = some cs := by
  unfold World.var? at *
  cases hg : Tryd.prog.globalNamed nm with
  | none => rw [hg] at h; cases h
  | some g =>
    rw [hg] at h
    simp only [Option.bind_some] at h ⊢
    by_cases hl : g < w.heap.size
    · rw [hb.block g hl]; exact h
    · rw [Array.getElem?_eq_none (by omega)] at h
      cases h
/-- What the library's readers of text look at lies there. -/
structure EV (w : World) : Prop where
  pt : PT w
  mx : ∃ m, w.cell? ⟨2, 0, none⟩ = some (.int .i64 m)
  es : ∃ tp p, w.var? Tryd.prog "strconv.ErrSyntax" = some #[.iface tp p]
  er : ∃ tp p, w.var? Tryd.prog "strconv.ErrRange" = some #[.iface tp p]
theorem EV.below {w w' : World} (h : EV w) (hb : Below w.heap.size w w') : EV w' :=
  ⟨h.pt.below hb, h.mx.elim fun m hm => ⟨m, cell_kept hm hb⟩, h.es.elim fun tp hp => hp.elim fun p hp => ⟨tp, p, var_below hp hb⟩, h.er.elim fun tp hp => hp.elim fun p hp => ⟨tp, p, var_below hp hb⟩⟩

theorem cut_any (s : ByteArray) (c : UInt8) (w : World) (hs : s.size < 4294967281) (hv : EV w) :
    Calls Tryd.prog 90 #[.string s, .string ⟨#[c]⟩] w fun r w' => r = .returned (.tuple #[.string (cutA s c), .string (cutB s c), .bool (cutO s c)]) ∧ Below w.heap.size w w' := by
  obtain ⟨m, hm⟩ := hv.mx
  refine (Tryd.strings_Cut s ⟨#[c]⟩ m w hs hm).mono ?_
  rintro e w' ⟨rfl, n, rfl⟩
  exact ⟨rfl, below_drews (Below.refl _ _) n⟩
theorem itoa_int (v : Int) (w : World) (h0 : -9223372036854775808 ≤ v) (h1 : v ≤ 9223372036854775807) (ht : PT w) : Calls Tryd.prog 32 #[.int .i64 v] w fun r w' => r = .returned (.string (bA (Lib.itoa v))) ∧ Below w.heap.size w w' := by
  refine (Tryd.strconv_Itoa v (by omega) (by omega) w ht).mono ?_
  rintro e w' ⟨rfl, k, os, rfl⟩
  exact ⟨rfl, below_grow w k os⟩
theorem atoi_ok (s : ByteArray) (v : Int) (w : World) (hs : s.size ≤ 1048576) (h : Lib.atoiAll (strL s) = .ok v) : Calls Tryd.prog 113 #[.string s] w fun r w' => r = .returned (.tuple #[.int .i64 v, .nilIface]) ∧ Below w.heap.size w w' := by
  refine (Tryd.strconv_Atoi_ok s (by omega) v h w).mono ?_
  rintro e w' ⟨rfl, rfl | ⟨t, rfl⟩⟩
  · exact ⟨rfl, Below.refl _ _⟩
  · exact ⟨rfl, Lib.bytesWorld_below _ _ _⟩
theorem atoi_no (s : ByteArray) (w : World) (hs : s.size ≤ 1048576) (hv : EV w) (h : ∀ v, Lib.atoiAll (strL s) ≠ .ok v) : Calls Tryd.prog 113 #[.string s] w fun r w' => ∃ x tp p, r = .returned (.tuple #[.int .i64 x, .iface tp p]) ∧ Below w.heap.size w w' := by
  rcases he : Lib.atoiAll (strL s) with v | _ | _
  · exact absurd he (h v)
  · obtain ⟨tp, p, hp⟩ := hv.es
    refine (Any.strconv_Atoi_syntax_var Tryd.laysC172 s (by omega) he tp p w hp).mono ?_
    rintro e w' ⟨N, rfl, _, _, hb⟩
    exact ⟨_, _, _, rfl, hb⟩
  · obtain ⟨tp, p, hp⟩ := hv.er
    refine (Any.strconv_Atoi_range_var Tryd.laysC172 s (by omega) he tp p w hp).mono ?_
    rintro e w' ⟨N, rfl, _, _, hb⟩
    exact ⟨_, _, _, rfl, hb⟩

set_option maxRecDepth 100000 in
set_option maxHeartbeats 400000 in
theorem rdNum_any (s : ByteArray) (w : World) (hs : s.size ≤ 1048576) (hv : EV w) :
    Calls Tryd.prog 92 #[.string s] w fun r w' => Below w.heap.size w w' ∧
      ((∃ v : Int, r = .returned (.int .i64 v) ∧ ((∃ u : Nat, nmO (strL s) = some u ∧ v = (u : Int)) ∨ (nmO (strL s) = none ∧ (v < 0 ∨ 281474976710656 < v)))) ∨ (r = .panicked PE ∧ nmO (strL s) = none)) := by
  have HV := hide hv
  clear hv
  by_cases hok : ∃ v, Lib.atoiAll (strL s) = .ok v
  · obtain ⟨v, hok⟩ := hok
    have HA := hide (fun V => atoi_ok s v V hs hok)
    obtain ⟨b0, b1⟩ := Lib.atoiAll_bounds hok
    by_cases hi : Lib.itoa v = strL s
    · have HI := hide (fun V hV => itoa_int v V b0 b1 hV)
      rw [hi, bA_strL] at HI
      have HR : Hid ((∃ u : Nat, nmO (strL s) = some u ∧ v = (u : Int)) ∨ (nmO (strL s) = none ∧ (v < 0 ∨ 281474976710656 < v))) := hide (by
        cases hn : nmO (strL s) with
        | some u =>
          have := (atoi_of hn).1
          rw [hok] at this
          injection this with this
          exact .inl ⟨u, rfl, this⟩
        | none => exact .inr ⟨rfl, atoi_other hn hi⟩)
      clear hok hi
      go_enter Tryd.func92, Tryd.ntmps92
      go_wp2_with fail
      refine (HA.out _).mono ?_
      rintro r w1 ⟨rfl, hb1⟩
      have B1 := hide hb1
      clear hb1
      go_wp2_with fail
      refine (HI.out _ (HV.out.below B1.out).pt).mono ?_
      rintro r w2 ⟨rfl, hb2⟩
      have B2 := hide (on_below B1.out hb2)
      clear hb2
      go_wp2_with fail
      refine (need_ok _).mono ?_
      rintro r w3 ⟨rfl, rfl⟩
      go_wp2
      go_ret
      exact ⟨B2.out, .inl ⟨v, rfl, HR.out⟩⟩
    · have HI := hide (fun V hV => itoa_int v V b0 b1 hV)
      have HN : Hid (nmO (strL s) = none) := hide (by
        cases hn : nmO (strL s) with
        | none => rfl
        | some u =>
          obtain ⟨h1, h2⟩ := atoi_of hn
          rw [hok] at h1
          injection h1 with h1
          rw [h1] at hi
          exact absurd h2 hi)
      have hne : (Lib.itoa v == s.toList) = false := by
        simp only [beq_eq_false_iff_ne, ne_eq]
        intro h
        exact hi (by rw [h, ByteArray.toList_eq]; rfl)
      generalize hA : bA (Lib.itoa v) = A at HI
      have hne2 : (A.toList == s.toList) = false := by
        rw [← hA, ByteArray.toList_eq]
        exact hne
      clear hok hi hne hA
      go_enter Tryd.func92, Tryd.ntmps92
      go_wp2_with fail
      refine (HA.out _).mono ?_
      rintro r w1 ⟨rfl, hb1⟩
      have B1 := hide hb1
      clear hb1
      go_wp2_with fail
      refine (HI.out _ (HV.out.below B1.out).pt).mono ?_
      rintro r w2 ⟨rfl, hb2⟩
      have B2 := hide (on_below B1.out hb2)
      clear hb2
      go_wp2_with fail
      refine (need_no _).mono ?_
      rintro r w3 ⟨rfl, rfl⟩
      exact ⟨rfl, B2.out, .inr ⟨rfl, HN.out⟩⟩
  · have HN : Hid (nmO (strL s) = none) := hide (by
      cases hn : nmO (strL s) with
      | none => rfl
      | some u => exact absurd ⟨_, (atoi_of hn).1⟩ hok)
    have HA := hide (atoi_no s w hs HV.out (fun v h => hok ⟨v, h⟩))
    clear hok
    go_enter Tryd.func92, Tryd.ntmps92
    go_wp2_with fail
    refine HA.out.mono ?_
    rintro r w1 ⟨x, tp, p, rfl, hb1⟩
    have B1 := hide hb1
    clear hb1
    go_wp2_with fail
    refine (need_no _).mono ?_
    rintro r w3 ⟨rfl, rfl⟩
    exact ⟨rfl, B1.out, .inr ⟨rfl, HN.out⟩⟩

end Go.Proofs.YtojepbapdjkknaaDoor

/-
  The document's Number.
-/
namespace Go.Proofs.YtojepbapdjkknaaDoor
open Go.RowKit
set_option linter.unusedVariables false
set_option linter.unusedSimpArgs false

theorem nmO_len {l : List UInt8} {v : Nat} (h : nmO l = some v) : 1 ≤ l.length ∧ l.length ≤ 18 ∧ (1 < l.length → l.head? ≠ some 48) := by
  obtain ⟨hv, rfl⟩ := nmO_some h
  refine ⟨?_, dec_short (by omega), fun hl => ?_⟩
  · have := dec_ne v
    cases hd : Lib.decDigits v with
    | nil => exact absurd hd this
    | cons a t => simp
  · refine dec_head v v (Nat.le_refl _) ?_
    rcases Nat.eq_zero_or_pos v with rfl | h0
    · rw [Lib.decDigits_one (by decide)] at hl; simp at hl
    · exact h0
theorem nmO_dec {l : List UInt8} {v : Nat} (h : nmO l = some v) : Lib.decFrom 0 l = some v := by
  obtain ⟨hv, rfl⟩ := nmO_some h
  exact dec_of v v (Nat.le_refl _)
theorem decFrom_lt : ∀ (l : List UInt8) (acc n : Nat), Lib.decFrom acc l = some n → n < (acc + 1) * 10 ^ l.length
  | [], acc, n, h => by simp only [Lib.decFrom, Option.some.injEq] at h; simp; omega
  | a :: t, acc, n, h => by
    simp only [Lib.decFrom] at h
    cases ha : Lib.digitVal a with
    | none => simp [ha] at h
    | some d =>
      simp only [ha] at h
      have h1 := decFrom_lt t _ n h
      have h2 := (digit_val ha).1
      have h3 : (acc * 10 + d + 1) * 10 ^ t.length ≤ ((acc + 1) * 10) * 10 ^ t.length := Nat.mul_le_mul_right _ (by omega)
      rw [Nat.mul_assoc] at h3
      rw [List.length_cons, Nat.pow_succ, Nat.mul_comm (10 ^ t.length) 10]
      omega

set_option maxRecDepth 100000 in
set_option maxHeartbeats 1000000 in
theorem num_any (s : ByteArray) (w : World) (hs : s.size ≤ 1048576) :
    Calls Tryd.prog 43 #[.string s, .int .i64 281474976710656] w fun r w' => Below w.heap.size w w' ∧
      ((∃ u : Nat, nmO (strL s) = some u ∧ r = .returned (.tuple #[.int .i64 (u : Int), .bool true])) ∨ (nmO (strL s) = none ∧ ∃ x, r = .returned (.tuple #[.int .i64 x, .bool false]))) := by
  have hl : (strL s).length = s.size := strL_length s
  by_cases h0 : s.size < 1
  · have HN : Hid (nmO (strL s) = none) := hide (by
      cases hn : nmO (strL s) with
      | none => rfl
      | some u => have := (nmO_len hn).1; omega)
    have h0' : (s.size : Int) < 1 := by omega
    go_enter Tryd.func43, Tryd.ntmps43
    go_wp2
    go_ret2
    exact ⟨Below.refl _ _, .inr ⟨HN.out, _, rfl⟩⟩
  · have h0' : ¬ ((s.size : Int) < 1) := by omega
    by_cases h18 : 18 < s.size
    · have HN : Hid (nmO (strL s) = none) := hide (by
        cases hn : nmO (strL s) with
        | none => rfl
        | some u => have := (nmO_len hn).2.1; omega)
      have h18' : (18 : Int) < (s.size : Int) := by omega
      go_enter Tryd.func43, Tryd.ntmps43
      go_wp2
      go_ret2
      exact ⟨Below.refl _ _, .inr ⟨HN.out, _, rfl⟩⟩
    · have h18' : ¬ ((18 : Int) < (s.size : Int)) := by omega
      have hz : 0 < s.size := by omega
      have hg0 : (strL s).head? = some (s[0]'hz) := by
        rw [List.head?_eq_getElem?, List.getElem?_eq_getElem (by omega)]
        rfl
      by_cases h1 : 1 < s.size ∧ s[0]'hz = 48
      · have HN : Hid (nmO (strL s) = none) := hide (by
          cases hn : nmO (strL s) with
          | none => rfl
          | some u => exact absurd (by rw [hg0, h1.2]) ((nmO_len hn).2.2 (by omega)))
        have h1' : (1 : Int) < (s.size : Int) := by omega
        have hz' : (0 : Int) < (s.size : Int) := by omega
        have e48 : ((((s[0]'hz).toNat : Nat) : Int) == 48) = true := by rw [h1.2]; rfl
        clear h1 hg0
        go_enter Tryd.func43, Tryd.ntmps43
        go_wp2
        go_ret2
        exact ⟨Below.refl _ _, .inr ⟨HN.out, _, rfl⟩⟩
      · have HH : Hid (1 < (strL s).length → (strL s).head? ≠ some 48) := hide (fun h hh => h1 ⟨by omega, by rw [hg0] at hh; exact Option.some.inj hh⟩)
        have HX : Hid ((¬ (1 : Int) < (s.size : Int)) ∨ ((1 : Int) < (s.size : Int) ∧ ((((s[0]'hz).toNat : Nat) : Int) == 48) = false)) := hide (by
          by_cases h : 1 < s.size
          · right
            refine ⟨by omega, ?_⟩
            simp only [beq_eq_false_iff_ne, ne_eq]
            intro e
            refine h1 ⟨h, UInt8.toNat_inj.1 ?_⟩
            have : (s[0]'hz).toNat = 48 := by omega
            rw [this]; rfl
          · left; omega)
        have hz' : (0 : Int) < (s.size : Int) := by omega
        clear h1 hg0
        rcases HX.out with h1' | ⟨h1', e48⟩
        · clear HX
          go_enter Tryd.func43, Tryd.ntmps43
          go_wp2
          go_loopw [6, 7] (fun n i W => ∃ q m : Nat, q ≤ s.size ∧ n = .int .i64 (m : Int) ∧ i = .int .i64 (q : Int) ∧ Lib.decFrom 0 ((strL s).take q) = some m ∧ Below w.heap.size w W) (fun _ i _ => s.size - (intOf i).toNat)
          case atStart => exact ⟨0, 0, by omega, rfl, rfl, rfl, Below.refl _ _⟩
          case round =>
            obtain ⟨q, m, hq, rfl, rfl, hm, hbw⟩ := hrel
            have HM := hide hm
            have BQ := hide hbw
            have hml : m < 10 ^ q := by
              have := decFrom_lt _ _ _ hm
              rw [List.length_take, hl, Nat.min_eq_left hq] at this
              omega
            clear hm hbw
            by_cases hlt : q < s.size
            · have hlt' : (q : Int) < (s.size : Int) := by omega
              have hm17 : m < 100000000000000000 := Nat.lt_of_lt_of_le hml (Nat.le_trans (Nat.pow_le_pow_right (by decide) (show q ≤ 17 by omega)) (by decide))
              have hg : (strL s)[q]? = some (s[q]'hlt) := by rw [List.getElem?_eq_getElem (by omega)]; rfl
              clear hml
              by_cases hx : (s[q]'hlt).toNat < 48
              · have hx' : ((((s[q]'hlt).toNat : Nat) : Int)) < 48 := by omega
                have HN : Hid (nmO (strL s) = none) := hide (by
                  cases hn : nmO (strL s) with
                  | none => rfl
                  | some u =>
                    obtain ⟨d, hd⟩ := Lib.digit_of_decFrom _ _ _ (nmO_dec hn) q _ hg
                    unfold Lib.digitVal at hd
                    rw [if_neg (by omega)] at hd
                    cases hd)
                clear hg
                go_wp2
                go_ret2
                exact ⟨BQ.out, .inr ⟨HN.out, _, rfl⟩⟩
              · have hx' : ¬ ((((s[q]'hlt).toNat : Nat) : Int)) < 48 := by omega
                by_cases hy : 57 < (s[q]'hlt).toNat
                · have hy' : (57 : Int) < ((((s[q]'hlt).toNat : Nat) : Int)) := by omega
                  have HN : Hid (nmO (strL s) = none) := hide (by
                    cases hn : nmO (strL s) with
                    | none => rfl
                    | some u =>
                      obtain ⟨d, hd⟩ := Lib.digit_of_decFrom _ _ _ (nmO_dec hn) q _ hg
                      unfold Lib.digitVal at hd
                      rw [if_neg (by omega)] at hd
                      cases hd)
                  clear hg
                  go_wp2
                  go_ret2
                  exact ⟨BQ.out, .inr ⟨HN.out, _, rfl⟩⟩
                · have hy' : ¬ (57 : Int) < ((((s[q]'hlt).toNat : Nat) : Int)) := by omega
                  have HD : Hid (Lib.decFrom 0 ((strL s).take (q + 1)) = some (m * 10 + ((s[q]'hlt).toNat - 48))) := hide (Lib.decFrom_take _ _ _ _ _ _ HM.out hg (by unfold Lib.digitVal; rw [if_pos (by omega)]))
                  have hwm : IntKind.i64.wrap ((m : Int) * 10) = (m : Int) * 10 := by rw [IntKind.wrap_i64]; omega
                  have hwx : IntKind.u8.wrap (((((s[q]'hlt).toNat : Nat) : Int)) - 48) = ((((s[q]'hlt).toNat : Nat) : Int)) - 48 := by rw [IntKind.wrap_u8]; omega
                  have hwy : IntKind.i64.wrap (((((s[q]'hlt).toNat : Nat) : Int)) - 48) = ((((s[q]'hlt).toNat : Nat) : Int)) - 48 := by rw [IntKind.wrap_i64]; omega
                  have hwz : IntKind.i64.wrap ((m : Int) * 10 + (((((s[q]'hlt).toNat : Nat) : Int)) - 48)) = (m : Int) * 10 + (((((s[q]'hlt).toNat : Nat) : Int)) - 48) := by rw [IntKind.wrap_i64]; omega
                  have hwq : IntKind.i64.wrap ((q : Int) + 1) = (q : Int) + 1 := by rw [IntKind.wrap_i64]; omega
                  have HZ : Hid ((m : Int) * 10 + (((((s[q]'hlt).toNat : Nat) : Int)) - 48) = ((m * 10 + ((s[q]'hlt).toNat - 48) : Nat) : Int)) := hide (by omega)
                  clear hg
                  go_wp2
                  go_roundw
                  case rel => exact ⟨q + 1, m * 10 + ((s[q]'hlt).toNat - 48), by omega, by rw [← HZ.out], by simp, HD.out, BQ.out⟩
                  case measure => simp only [intOf]; omega
            · obtain rfl : q = s.size := by omega
              have hlt' : ¬ ((s.size : Int) < (s.size : Int)) := by omega
              have hdm : Lib.decFrom 0 (strL s) = some m := by
                have := HM.out
                rwa [List.take_of_length_le (by omega)] at this
              have hcn : Lib.decDigits m = strL s := dec_canon _ _ _ (Nat.le_refl _) (fun e => by rw [e] at hl; simp at hl; omega) HH.out hdm
              by_cases hle : m ≤ 281474976710656
              · have hle' : (m : Int) ≤ 281474976710656 := by omega
                have HN := hide (nmO_of hle hcn)
                clear hdm hcn hml
                go_wp2
                go_ret2
                exact ⟨BQ.out, .inl ⟨m, HN.out, rfl⟩⟩
              · have hle' : ¬ (m : Int) ≤ 281474976710656 := by omega
                have HN : Hid (nmO (strL s) = none) := hide (by
                  cases hn : nmO (strL s) with
                  | none => rfl
                  | some u =>
                    have e := nmO_dec hn
                    rw [hdm] at e
                    injection e with e
                    have := (nmO_some hn).1
                    omega)
                clear hdm hcn hml
                go_wp2
                go_ret2
                exact ⟨BQ.out, .inr ⟨HN.out, _, rfl⟩⟩
        · clear HX
          go_enter Tryd.func43, Tryd.ntmps43
          go_wp2
          go_loopw [6, 7] (fun n i W => ∃ q m : Nat, q ≤ s.size ∧ n = .int .i64 (m : Int) ∧ i = .int .i64 (q : Int) ∧ Lib.decFrom 0 ((strL s).take q) = some m ∧ Below w.heap.size w W) (fun _ i _ => s.size - (intOf i).toNat)
          case atStart => exact ⟨0, 0, by omega, rfl, rfl, rfl, Below.refl _ _⟩
          case round =>
            obtain ⟨q, m, hq, rfl, rfl, hm, hbw⟩ := hrel
            have HM := hide hm
            have BQ := hide hbw
            have hml : m < 10 ^ q := by
              have := decFrom_lt _ _ _ hm
              rw [List.length_take, hl, Nat.min_eq_left hq] at this
              omega
            clear hm hbw
            by_cases hlt : q < s.size
            · have hlt' : (q : Int) < (s.size : Int) := by omega
              have hm17 : m < 100000000000000000 := Nat.lt_of_lt_of_le hml (Nat.le_trans (Nat.pow_le_pow_right (by decide) (show q ≤ 17 by omega)) (by decide))
              have hg : (strL s)[q]? = some (s[q]'hlt) := by rw [List.getElem?_eq_getElem (by omega)]; rfl
              clear hml
              by_cases hx : (s[q]'hlt).toNat < 48
              · have hx' : ((((s[q]'hlt).toNat : Nat) : Int)) < 48 := by omega
                have HN : Hid (nmO (strL s) = none) := hide (by
                  cases hn : nmO (strL s) with
                  | none => rfl
                  | some u =>
                    obtain ⟨d, hd⟩ := Lib.digit_of_decFrom _ _ _ (nmO_dec hn) q _ hg
                    unfold Lib.digitVal at hd
                    rw [if_neg (by omega)] at hd
                    cases hd)
                clear hg
                go_wp2
                go_ret2
                exact ⟨BQ.out, .inr ⟨HN.out, _, rfl⟩⟩
              · have hx' : ¬ ((((s[q]'hlt).toNat : Nat) : Int)) < 48 := by omega
                by_cases hy : 57 < (s[q]'hlt).toNat
                · have hy' : (57 : Int) < ((((s[q]'hlt).toNat : Nat) : Int)) := by omega
                  have HN : Hid (nmO (strL s) = none) := hide (by
                    cases hn : nmO (strL s) with
                    | none => rfl
                    | some u =>
                      obtain ⟨d, hd⟩ := Lib.digit_of_decFrom _ _ _ (nmO_dec hn) q _ hg
                      unfold Lib.digitVal at hd
                      rw [if_neg (by omega)] at hd
                      cases hd)
                  clear hg
                  go_wp2
                  go_ret2
                  exact ⟨BQ.out, .inr ⟨HN.out, _, rfl⟩⟩
                · have hy' : ¬ (57 : Int) < ((((s[q]'hlt).toNat : Nat) : Int)) := by omega
                  have HD : Hid (Lib.decFrom 0 ((strL s).take (q + 1)) = some (m * 10 + ((s[q]'hlt).toNat - 48))) := hide (Lib.decFrom_take _ _ _ _ _ _ HM.out hg (by unfold Lib.digitVal; rw [if_pos (by omega)]))
                  have hwm : IntKind.i64.wrap ((m : Int) * 10) = (m : Int) * 10 := by rw [IntKind.wrap_i64]; omega
                  have hwx : IntKind.u8.wrap (((((s[q]'hlt).toNat : Nat) : Int)) - 48) = ((((s[q]'hlt).toNat : Nat) : Int)) - 48 := by rw [IntKind.wrap_u8]; omega
                  have hwy : IntKind.i64.wrap (((((s[q]'hlt).toNat : Nat) : Int)) - 48) = ((((s[q]'hlt).toNat : Nat) : Int)) - 48 := by rw [IntKind.wrap_i64]; omega
                  have hwz : IntKind.i64.wrap ((m : Int) * 10 + (((((s[q]'hlt).toNat : Nat) : Int)) - 48)) = (m : Int) * 10 + (((((s[q]'hlt).toNat : Nat) : Int)) - 48) := by rw [IntKind.wrap_i64]; omega
                  have hwq : IntKind.i64.wrap ((q : Int) + 1) = (q : Int) + 1 := by rw [IntKind.wrap_i64]; omega
                  have HZ : Hid ((m : Int) * 10 + (((((s[q]'hlt).toNat : Nat) : Int)) - 48) = ((m * 10 + ((s[q]'hlt).toNat - 48) : Nat) : Int)) := hide (by omega)
                  clear hg
                  go_wp2
                  go_roundw
                  case rel => exact ⟨q + 1, m * 10 + ((s[q]'hlt).toNat - 48), by omega, by rw [← HZ.out], by simp, HD.out, BQ.out⟩
                  case measure => simp only [intOf]; omega
            · obtain rfl : q = s.size := by omega
              have hlt' : ¬ ((s.size : Int) < (s.size : Int)) := by omega
              have hdm : Lib.decFrom 0 (strL s) = some m := by
                have := HM.out
                rwa [List.take_of_length_le (by omega)] at this
              have hcn : Lib.decDigits m = strL s := dec_canon _ _ _ (Nat.le_refl _) (fun e => by rw [e] at hl; simp at hl; omega) HH.out hdm
              by_cases hle : m ≤ 281474976710656
              · have hle' : (m : Int) ≤ 281474976710656 := by omega
                have HN := hide (nmO_of hle hcn)
                clear hdm hcn hml
                go_wp2
                go_ret2
                exact ⟨BQ.out, .inl ⟨m, HN.out, rfl⟩⟩
              · have hle' : ¬ (m : Int) ≤ 281474976710656 := by omega
                have HN : Hid (nmO (strL s) = none) := hide (by
                  cases hn : nmO (strL s) with
                  | none => rfl
                  | some u =>
                    have e := nmO_dec hn
                    rw [hdm] at e
                    injection e with e
                    have := (nmO_some hn).1
                    omega)
                clear hdm hcn hml
                go_wp2
                go_ret2
                exact ⟨BQ.out, .inr ⟨HN.out, _, rfl⟩⟩

end Go.Proofs.YtojepbapdjkknaaDoor

/-
  A reader of lines: the next line, a kind, a digest.
-/
namespace Go.Proofs.YtojepbapdjkknaaDoor
open Go.RowKit
set_option linter.unusedVariables false
set_option linter.unusedSimpArgs false

theorem ub_isB (s : ByteArray) : isB (Oct.ubB s) := by
  unfold Oct.ubB
  split
  · intro x hx; simp at hx
  · rename_i h
    exact (Oct.pk_inv _ _ (Oct.digit_bd _ (fun h2 => h (.inl h2))) _ (Nat.le_refl _)).o
theorem ub_len (s : ByteArray) : (Oct.ubB s).length ≤ s.size := by
  unfold Oct.ubB
  split
  · simp
  · rename_i h
    have h1 := (Oct.pk_inv _ _ (Oct.digit_bd _ (fun h2 => h (.inl h2))) _ (Nat.le_refl _)).l
    have h2 := Oct.digs_size s
    have h3 : (Oct.dl s).length = (Oct.digs s).size := by simp [Oct.dl]
    omega
theorem unb8 (s : ByteArray) (w : World) (hs : s.size ≤ 1048576) :
    Calls Tryd.prog 93 #[.string s] w fun r w' => ∃ a cap, r = .returned (.tuple #[.slice a (Oct.ubB s).length cap, .int .i64 (Oct.ubAt s), .int .i64 (Oct.ubE s)]) ∧ Sl w' a (Oct.ubB s).length cap (Oct.ubB s) ∧ Below w.heap.size w w' := by
  have hl := ub_len s
  refine (Oct.unb_any s w (by omega)).mono ?_
  rintro r w' ⟨v, rfl, hn, hb⟩
  rcases hn with ⟨rfl, e⟩ | ⟨ho, _⟩
  · rw [e]
    exact ⟨none, 0, rfl, Sl.none0 _, hb⟩
  · have ho' : Own w' w.heap.size v (Oct.ubB s) := ho
    obtain ⟨a, cap, rfl, hs'⟩ := ho'.sl' (ub_isB s) (by omega)
    exact ⟨a, cap, rfl, hs', hb⟩
theorem unbR8 (s : ByteArray) (w : World) (hs : s.size ≤ 1048576) :
    Calls Tryd.prog 44 #[.string s] w fun r w' => ∃ a cap, r = .returned (.tuple #[.slice a (Oct.ubB s).length cap, .int .i64 (Oct.ubAt s), .int .i64 (Oct.ubE s)]) ∧ Sl w' a (Oct.ubB s).length cap (Oct.ubB s) ∧ Below w.heap.size w w' := by
  have hl := ub_len s
  refine (Oct.unbR_any s w hs).mono ?_
  rintro r w' ⟨v, rfl, ho, hb⟩
  have ho' : Own w' w.heap.size v (Oct.ubB s) := ho
  obtain ⟨a, cap, rfl, hs'⟩ := ho'.sl' (ub_isB s) (by omega)
  exact ⟨a, cap, rfl, hs', hb⟩

/-- The cells of a reader of lines. -/
def lrC (s : ByteArray) (l : Int) : List Value := [.string s, .int .i64 l]
theorem wLr : Wide 74 2 := ⟨by kernel_rfl, by kernel_rfl⟩
theorem lr_at {w : World} {g : Nat} {t : TypeId} {s : ByteArray} {l : Int} (h : Blk w g t (lrC s l)) : w.cell? ⟨g, 0, none⟩ = some (.string s) ∧ w.cell? ⟨g, 1, none⟩ = some (.int .i64 l) := ⟨by rw [h.cell]; rfl, by rw [h.cell]; rfl⟩
set_option maxRecDepth 100000 in
theorem ltake_any (g : Nat) (s : ByteArray) (l : Int) (w : World) (hg : Blk w g 74 (lrC s l)) (hs : s.size ≤ 1048576) (hv : EV w) :
    Calls Tryd.prog 70 #[.pointer (some ⟨g, 0, none⟩)] w fun r w' =>
      (cutO s 10 = true → r = .returned (.string (cutA s 10)) ∧ Blk w' g 74 (lrC (cutB s 10) l) ∧ Chg g w w') ∧ (cutO s 10 = false → r = .panicked PE ∧ Blk w' g 74 (lrC s l) ∧ Chg g w w') := by
  have HV := hide hv
  have G := hide hg
  obtain ⟨c0, c1⟩ := lr_at hg
  have HC := hide (cut_any s 10 w (by omega) hv)
  clear hv hg
  generalize hO : cutO s 10 = O at *
  cases O
  · go_enter Tryd.func70, Tryd.ntmps70
    go_wp2_with fail
    refine HC.out.mono ?_
    rintro r w1 ⟨rfl, hb1⟩
    have B1 := hide hb1
    clear hb1
    go_wp2_with fail
    refine (need_no _).mono ?_
    rintro r w2 ⟨rfl, rfl⟩
    exact ⟨rfl, fun h => absurd h (by decide), fun _ => ⟨rfl, G.out.on B1.out, Chg.of_below B1.out⟩⟩
  · go_enter Tryd.func70, Tryd.ntmps70
    go_wp2_with fail
    refine HC.out.mono ?_
    rintro r w1 ⟨rfl, hb1⟩
    have B1 := hide hb1
    have G1 := hide (G.out.on hb1)
    clear hb1
    go_wp2_with fail
    refine (need_ok _).mono ?_
    rintro r w2 ⟨rfl, rfl⟩
    obtain ⟨c0', c1'⟩ := lr_at G1.out
    have hfz := G1.out.free 0
    have G2 : Hid (Blk (w2.setCell ⟨g, 0, none⟩ (.string (cutB s 10))) g 74 (lrC (cutB s 10) l)) := hide (G1.out.set 0 (.string (cutB s 10)))
    have BN := hide (But.setCell w2 g 0 (.string (cutB s 10)))
    go_wp2
    go_ret
    exact ⟨fun _ => ⟨rfl, G2.out, (Chg.of_below B1.out).trans (Chg.of_but BN.out)⟩, fun h => absurd h (by decide)⟩

/-- The kind that a word names; 0: none. -/
def incW : List UInt8 := [105, 110, 99, 108, 117, 115, 105, 111, 110]
def conW : List UInt8 := [99, 111, 110, 115, 105, 115, 116, 101, 110, 99, 121]
def kd (s : ByteArray) : Int := if s.toList = incW then 1 else if s.toList = conW then 2 else 0
theorem rdKind_any (s : ByteArray) (w : World) : Calls Tryd.prog 91 #[.string s] w fun r w' => w' = w ∧ ((kd s ≠ 0 ∧ r = .returned (.int .i64 (kd s))) ∨ (kd s = 0 ∧ r = .panicked PE)) := by
  by_cases h1 : s.toList = incW
  · have hk : kd s = 1 := by unfold kd; rw [if_pos h1]
    have e1 : (s.toList == [105, 110, 99, 108, 117, 115, 105, 111, 110]) = true := by rw [h1]; decide
    rw [hk]
    clear h1 hk
    go_enter Tryd.func91, Tryd.ntmps91
    go_wp2
    go_ret
    exact ⟨rfl, .inl ⟨by decide, rfl⟩⟩
  · have e1 : (s.toList == [105, 110, 99, 108, 117, 115, 105, 111, 110]) = false := by
      simp only [beq_eq_false_iff_ne, ne_eq]; exact h1
    by_cases h2 : s.toList = conW
    · have hk : kd s = 2 := by unfold kd; rw [if_neg h1, if_pos h2]
      have e2 : (s.toList == [99, 111, 110, 115, 105, 115, 116, 101, 110, 99, 121]) = true := by rw [h2]; decide
      rw [hk]
      clear h1 h2 hk
      go_enter Tryd.func91, Tryd.ntmps91
      go_wp2
      go_ret
      exact ⟨rfl, .inl ⟨by decide, rfl⟩⟩
    · have hk : kd s = 0 := by unfold kd; rw [if_neg h1, if_neg h2]
      have e2 : (s.toList == [99, 111, 110, 115, 105, 115, 116, 101, 110, 99, 121]) = false := by
        simp only [beq_eq_false_iff_ne, ne_eq]; exact h2
      rw [hk]
      clear h1 h2 hk
      go_enter Tryd.func91, Tryd.ntmps91
      go_wp2
      refine ⟨rfl, ?_, .inr ⟨?_, ?_⟩⟩ <;> first | rfl | trivial

/-- Does a line write a digest? -/
def dgK (s : ByteArray) : Prop := Oct.ubE s = 0 ∧ (Oct.ubB s).length = 32
theorem ubE_cases (s : ByteArray) : Oct.ubE s = 0 ∨ (Oct.ubE s = 11 ∧ Oct.ubB s = []) := by
  unfold Oct.ubE Oct.ubB
  split
  · exact .inr ⟨rfl, rfl⟩
  · exact .inl rfl
set_option maxRecDepth 100000 in
set_option maxHeartbeats 1000000 in
theorem rdDig_any (s : ByteArray) (w : World) (hs : s.size ≤ 1048576) :
    Calls Tryd.prog 72 #[.string s] w fun r w' => Below w.heap.size w w' ∧ ((dgK s ∧ r = .returned (.agg (u8s (Oct.ubB s)).toArray)) ∨ (¬ dgK s ∧ r = .panicked PE)) := by
  have HU := hide (fun V => unb8 s V hs)
  have hul := ub_len s
  rcases ubE_cases s with hE | ⟨hE, hB⟩
  · rw [hE] at HU
    go_enter Tryd.func72, Tryd.ntmps72
    go_wp2_with (refine step_alloc zD rfl ?_)
    intro w1 g1 hr1 hl1 hb1
    have G1 := hide hr1
    have B1 := hide hb1
    clear hr1 hb1
    go_wp2_with fail
    refine (HU.out _).mono ?_
    rintro r w2 ⟨a, cap, rfl, hsl, hb2⟩
    have S2 := hide hsl
    have B2 := hide (on_below B1.out hb2)
    have G2 := hide (G1.out.on hb2)
    clear hsl hb2 B1 G1
    go_wp2_with fail
    refine (need_ok _).mono ?_
    rintro r w3 ⟨rfl, rfl⟩
    by_cases h32 : 32 ≤ (Oct.ubB s).length
    · obtain ⟨b, off, e, _⟩ := S2.out.hcell (by omega)
      subst e
      have hDL : ((Oct.ubB s).take 32).length = 32 := by rw [List.length_take]; omega
      have HDU := hide (show (u8s ((Oct.ubB s).take 32)).length = 32 by rw [u8s_length, hDL])
      have HD := hide (octD_ok b off _ cap (Oct.ubB s) 0 _ S2.out (by omega))
      rw [List.drop_zero] at HD
      clear hDL
      go_wp2_with fail
      refine HD.out.mono ?_
      rintro r w4 ⟨rfl, hb4⟩
      have B4 := hide (on_below B2.out hb4)
      have G4 := hide (G2.out.on hb4)
      clear hb4
      go_wp2_with (refine step_alloc zD rfl ?_)
      intro w5 g5 hr5 hl5 hb5
      have G5 := hide hr5
      clear hr5
      go_wp2_with (refine step_storeA wD rfl rfl rfl G5.out HDU.out (One.u8 _) (by rw [u8s_length, zer_length]) ?_)
      intro w6 hg6 hbut6
      have G6 := hide hg6
      have Y6 := hide (hb5.trans (hbut6.below hl5))
      have B6 := hide (on_below B4.out Y6.out)
      have R6 := hide (G4.out.on Y6.out)
      have n61 : g1 < w4.heap.size := G4.out.lt
      clear hg6 hbut6 hb5
      by_cases hL : (Oct.ubB s).length = 32
      · have e32 : ((32 : Int) == ((Oct.ubB s).length : Int)) = true := by rw [hL]; rfl
        have eT : (Oct.ubB s).take 32 = Oct.ubB s := List.take_of_length_le (by omega)
        go_wp2_with fail
        refine (need_ok _).mono ?_
        rintro r w7 ⟨rfl, rfl⟩
        go_wp2_with (first | (refine step_loadA wD rfl rfl G6.out HDU.out ?_) | (refine step_storeA wD rfl rfl rfl R6.out HDU.out (One.u8 _) (by rw [u8s_length, zer_length]) ?_; intro w9 hg9 hbut9))
        refine bodyPost_ret (results_wide rfl wD _ _ rfl hg9 HDU.out) rfl ⟨B6.out.trans (hbut9.below hl1), .inl ⟨⟨hE, hL⟩, by rw [eT]⟩⟩
      · have e32 : ((32 : Int) == ((Oct.ubB s).length : Int)) = false := by
          simp only [beq_eq_false_iff_ne, ne_eq]; omega
        go_wp2_with fail
        refine (need_no _).mono ?_
        rintro r w7 ⟨rfl, rfl⟩
        exact ⟨rfl, B6.out, .inr ⟨fun h => hL h.2, rfl⟩⟩
    · have HD := hide (octD_no a (Oct.ubB s).length cap 0 w3 (by omega) (.inr (.inr (by omega))))
      have HRE : rdE (Oct.ubB s).length 0 32 ≠ 0 := rdE32_no (p := 0) (by omega)
      generalize rdE (Oct.ubB s).length 0 32 = RE at *
      have hre : (RE == 0) = false := by simpa using HRE
      go_wp2_with fail
      refine HD.out.mono ?_
      rintro r w4 ⟨rfl, hb4⟩
      have B4 := hide (on_below B2.out hb4)
      clear hb4
      go_wp2_with (refine step_alloc zD rfl ?_)
      intro w5 g5 hr5 hl5 hb5
      have G5 := hide hr5
      clear hr5
      go_wp2_with (refine step_storeA wD rfl rfl rfl G5.out rfl (One.u8 _) rfl ?_)
      intro w6 hg6 hbut6
      have B6 := hide (on_below B4.out (hb5.trans (hbut6.below hl5)))
      clear hg6 hbut6 hb5
      go_wp2_with fail
      refine (need_no _).mono ?_
      rintro r w7 ⟨rfl, rfl⟩
      exact ⟨rfl, B6.out, .inr ⟨fun h => h32 (by have := h.2; omega), rfl⟩⟩
  · rw [hE] at HU
    go_enter Tryd.func72, Tryd.ntmps72
    go_wp2_with (refine step_alloc zD rfl ?_)
    intro w1 g1 hr1 hl1 hb1
    have B1 := hide hb1
    clear hr1 hb1
    go_wp2_with fail
    refine (HU.out _).mono ?_
    rintro r w2 ⟨a, cap, rfl, hsl, hb2⟩
    have B2 := hide (on_below B1.out hb2)
    clear hsl hb2 B1
    go_wp2_with fail
    refine (need_no _).mono ?_
    rintro r w7 ⟨rfl, rfl⟩
    exact ⟨rfl, B2.out, .inr ⟨fun h => by have := h.1; omega, rfl⟩⟩

end Go.Proofs.YtojepbapdjkknaaDoor

/-
  A reader of lines: the head.
-/
namespace Go.Proofs.YtojepbapdjkknaaDoor
open Go.RowKit
set_option linter.unusedVariables false
set_option linter.unusedSimpArgs false

theorem bA_size (l : List UInt8) : (⟨l.toArray⟩ : ByteArray).size = l.length := by simp [ByteArray.size]
theorem cutA_size (s : ByteArray) (c : UInt8) : (cutA s c).size ≤ s.size := by
  unfold cutA
  rw [bA_size]
  unfold Lib.cut
  have hl : s.data.toList.length = s.size := by simp
  split
  · simp only [List.length_take]; omega
  · simp only []; omega
theorem cutB_size (s : ByteArray) (c : UInt8) : (cutB s c).size ≤ s.size := by
  unfold cutB
  rw [bA_size]
  unfold Lib.cut
  have hl : s.data.toList.length = s.size := by simp
  split
  · simp only [List.length_drop]; omega
  · simp only [List.length_nil]; omega
/-- The head's three pieces. -/
def hdK (L : ByteArray) : ByteArray := cutA L 32
def hdF (L : ByteArray) : ByteArray := cutA (cutB L 32) 32
def hdS (L : ByteArray) : ByteArray := cutB (cutB L 32) 32
/-- What is read as a number. -/
def NmF (s : ByteArray) (v : Int) : Prop := (∃ u : Nat, nmO (strL s) = some u ∧ v = (u : Int)) ∨ (nmO (strL s) = none ∧ (v < 0 ∨ 281474976710656 < v))
/-- The head of a proof that may be. -/
structure Hd (L : ByteArray) (k : Int) (f s n : Nat) : Prop where
  hk : kd (hdK L) = k
  hf : nmO (strL (hdF L)) = some f
  hs : nmO (strL (hdS L)) = some s
  hn : pcnt k (f : Int) (s : Int) = some n
theorem Hd.of {L : ByteArray} {f s : Int} {n : Nat} (hf : NmF (hdF L) f) (hs : NmF (hdS L) s) (hc : pcnt (kd (hdK L)) f s = some n) : ∃ f' s' : Nat, f = (f' : Int) ∧ s = (s' : Int) ∧ Hd L (kd (hdK L)) f' s' n := by
  obtain ⟨_, h0, h1, h2⟩ := pcnt_bd hc
  rcases hf with ⟨u, hu, rfl⟩ | ⟨_, h⟩
  · rcases hs with ⟨v, hv, rfl⟩ | ⟨_, h⟩
    · exact ⟨u, v, rfl, rfl, ⟨rfl, hu, hv, hc⟩⟩
    · omega
  · omega
set_option maxRecDepth 100000 in
set_option maxHeartbeats 1000000 in
theorem rdHead_any (L : ByteArray) (w : World) (hL : L.size ≤ 1048576) (hv : EV w) :
    Calls Tryd.prog 69 #[.string L] w fun r w' => Below w.heap.size w w' ∧
      ((∃ f s, r = .returned (.agg (pfC (kd (hdK L)) f s (.slice none 0 0)).toArray) ∧ NmF (hdF L) f ∧ NmF (hdS L) s) ∨ (r = .panicked PE ∧ ∀ k f s n, ¬ Hd L k f s n)) := by
  have HV := hide hv
  have q1 := cutA_size L 32
  have q2 := cutB_size L 32
  have q3 := cutA_size (cutB L 32) 32
  have q4 := cutB_size (cutB L 32) 32
  have C1 := hide (fun V hV => cut_any L 32 V (by omega) hV)
  have C2 := hide (fun V hV => cut_any (cutB L 32) 32 V (by omega) hV)
  have C3 := hide (fun V => rdKind_any (hdK L) V)
  have C4 := hide (fun V hV => rdNum_any (hdF L) V (by unfold hdF; omega) hV)
  have C5 := hide (fun V hV => rdNum_any (hdS L) V (by unfold hdS; omega) hV)
  rw [show cutA L 32 = hdK L from rfl] at C1
  rw [show cutA (cutB L 32) 32 = hdF L from rfl, show cutB (cutB L 32) 32 = hdS L from rfl] at C2
  generalize cutB L 32 = N1 at *
  generalize cutO L 32 = O1 at *
  generalize cutO N1 32 = O2 at *
  clear hv q1 q2 q3 q4
  go_enter Tryd.func69, Tryd.ntmps69
  go_wp2_with (refine step_alloc zP rfl ?_)
  intro w1 g1 hr1 hl1 hb1
  have G1 := hide hr1
  have B1 := hide hb1
  have V1 := hide (HV.out.below hb1)
  clear hr1 hb1 HV
  go_wp2_with fail
  refine (C1.out _ V1.out).mono ?_
  rintro r w2 ⟨rfl, hb2⟩
  have V2 := hide (V1.out.below hb2)
  have G2 := hide (G1.out.on hb2)
  have B2 := hide (on_below B1.out hb2)
  clear hb2 V1 G1 B1
  go_wp2_with fail
  refine (C2.out _ V2.out).mono ?_
  rintro r w3 ⟨rfl, hb3⟩
  have V3 := hide (V2.out.below hb3)
  have G3 := hide (G2.out.on hb3)
  have B3 := hide (on_below B2.out hb3)
  clear hb3 V2 G2 B2
  go_wp2_with fail
  refine (C3.out _).mono ?_
  rintro r w4 ⟨rfl, ⟨hk, rfl⟩ | ⟨hk, rfl⟩⟩
  rotate_left
  · refine ⟨rfl, B3.out, .inr ⟨rfl, fun k f s n h => ?_⟩⟩
    have h1 := h.hk
    rw [hk] at h1
    obtain ⟨h2, _⟩ := pcnt_bd h.hn
    omega
  obtain ⟨kk, hkk⟩ : ∃ z, kd (hdK L) = z := ⟨_, rfl⟩
  rw [hkk]
  go_wp2_with fail
  refine (C4.out _ V3.out).mono ?_
  rintro r w5 ⟨hb5, ⟨f, rfl, hf⟩ | ⟨rfl, hf⟩⟩
  rotate_left
  · refine ⟨rfl, on_below B3.out hb5, .inr ⟨rfl, fun k f s n h => ?_⟩⟩
    have h1 := h.hf
    rw [hf] at h1
    cases h1
  have V5 := hide (V3.out.below hb5)
  have G5 := hide (G3.out.on hb5)
  have B5 := hide (on_below B3.out hb5)
  have HF : Hid (NmF (hdF L) f) := hide hf
  clear hb5 V3 G3 B3 hf
  go_wp2_with fail
  refine (C5.out _ V5.out).mono ?_
  rintro r w6 ⟨hb6, ⟨s, rfl, hs⟩ | ⟨rfl, hs⟩⟩
  rotate_left
  · refine ⟨rfl, on_below B5.out hb6, .inr ⟨rfl, fun k f s n h => ?_⟩⟩
    have h1 := h.hs
    rw [hs] at h1
    cases h1
  have G6 := hide (G5.out.on hb6)
  have B6 := hide (on_below B5.out hb6)
  have HS : Hid (NmF (hdS L) s) := hide hs
  clear hb6 V5 G5 B5 hs
  go_wp2_with (first | (refine step_buildP3 rfl rfl rfl rfl ?_) | (refine step_storeA wP rfl rfl rfl G6.out rfl (One.pf _ _ _ _ _ _) rfl ?_; intro w9 hg9 hb9))
  exact bodyPost_ret (results_wide rfl wP _ _ rfl hg9 rfl) rfl ⟨B6.out.trans (hb9.below hl1), .inl ⟨f, s, by rw [hkk], HF.out, HS.out⟩⟩

end Go.Proofs.YtojepbapdjkknaaDoor

/-
  A reader of lines: the proof.
-/
namespace Go.Proofs.YtojepbapdjkknaaDoor
open Go.RowKit
set_option linter.unusedVariables false
set_option linter.unusedSimpArgs false

/-- What stands behind i lines; the line that comes then; does it write a digest; the digests of the first i lines. -/
def restAt (R : ByteArray) : Nat → ByteArray
  | 0 => R
  | i + 1 => cutB (restAt R i) 10
def lineAt (R : ByteArray) (i : Nat) : ByteArray := cutA (restAt R i) 10
def stepK (R : ByteArray) (i : Nat) : Prop := cutO (restAt R i) 10 = true ∧ dgK (lineAt R i)
def ysTo (R : ByteArray) : Nat → List Int
  | 0 => []
  | i + 1 => ysTo R i ++ Oct.ubB (lineAt R i)
theorem restAt_size (R : ByteArray) : ∀ i, (restAt R i).size ≤ R.size
  | 0 => Nat.le_refl _
  | i + 1 => Nat.le_trans (cutB_size _ _) (restAt_size R i)
theorem lineAt_size (R : ByteArray) (i : Nat) : (lineAt R i).size ≤ R.size := Nat.le_trans (cutA_size _ _) (restAt_size R i)
theorem ysTo_length (R : ByteArray) : ∀ i, (∀ j, j < i → stepK R j) → (ysTo R i).length = 32 * i
  | 0, _ => rfl
  | i + 1, h => by
    have h1 := ysTo_length R i (fun j hj => h j (by omega))
    have h2 := (h i (by omega)).2.2
    simp only [ysTo, List.length_append]
    omega
theorem ysTo_isB (R : ByteArray) : ∀ i, isB (ysTo R i)
  | 0 => by intro x hx; simp [ysTo] at hx
  | i + 1 => (ysTo_isB R i).append (ub_isB _)
/-- A text's first line is the head of a proof that may be. -/
def HdA (s : ByteArray) (k : Int) (f z n : Nat) : Prop := cutO s 10 = true ∧ Hd (cutA s 10) k f z n
/-- A text is a proof; it is none, at that line. -/
structure PsOK (s : ByteArray) (k : Int) (f z n : Nat) : Prop where
  hd : HdA s k f z n
  all : ∀ i, i < n → stepK (cutB s 10) i
  none : (restAt (cutB s 10) n).size = 0
def PsNo (s : ByteArray) (a : Nat) : Prop :=
  (a = 0 ∧ ∀ k f z n, ¬ HdA s k f z n) ∨ ∃ k f z n i, HdA s k f z n ∧ a = i + 1 ∧ i ≤ n ∧ (∀ j, j < i → stepK (cutB s 10) j) ∧ ((i < n ∧ ¬ stepK (cutB s 10) i) ∨ (i = n ∧ (restAt (cutB s 10) n).size ≠ 0))
theorem spl_ys (Y D : List Int) (n k : Nat) (hk : k < n) (hY : Y.length = 32 * k) (hD : D.length = 32) :
    spl (spl (u8s (zer (n * 32))) (u8s Y) 0) (u8s D) (32 * k) = spl (u8s (zer (n * 32))) (u8s (Y ++ D)) 0 := by
  have e := spl_then (u8s (zer (n * 32))) (u8s Y) (u8s D) (by rw [u8s_length, u8s_length, u8s_length, zer_length]; omega)
  rw [u8s_length, hY] at e
  rw [e, u8s_app]
/-- What the reader's walk keeps. -/
structure LV (w W : World) (g g2 g3 : Nat) (s : ByteArray) (l : Int) (cs : List Value) : Prop where
  r : Blk W g 74 (lrC s l)
  r2 : Blk W g2 24 (pfC 0 0 0 (.slice none 0 0))
  r3 : Blk W g3 24 cs
  ch : Chg g w W
  gl : g < w.heap.size
  l2 : w.heap.size ≤ g2
  l3 : w.heap.size ≤ g3
  n23 : g2 ≠ g3
section
variable {w W W' : World} {g g2 g3 : Nat} {s s' : ByteArray} {l l' : Int} {cs cs' : List Value}
theorem LV.rd (h : LV w W g g2 g3 s l cs) (hc : Chg g W W') (hg : Blk W' g 74 (lrC s' l')) : LV w W' g g2 g3 s' l' cs := by
  have := h.gl; have := h.l2; have := h.l3
  exact ⟨hg, h.r2.chg hc (by omega), h.r3.chg hc (by omega), h.ch.trans hc, h.gl, h.l2, h.l3, h.n23⟩
theorem LV.on (h : LV w W g g2 g3 s l cs) (hb : Below W.heap.size W W') : LV w W' g g2 g3 s l cs :=
  ⟨h.r.on hb, h.r2.on hb, h.r3.on hb, h.ch.trans (Chg.of_below hb), h.gl, h.l2, h.l3, h.n23⟩
theorem LV.set (h : LV w W g g2 g3 s l cs) (hb : But g3 W W') (hg : Blk W' g3 24 cs') : LV w W' g g2 g3 s l cs' := by
  have := h.gl; have := h.l3
  exact ⟨h.r.but hb (by omega), h.r2.but hb h.n23, hg, h.ch.fresh hb h.l3, h.gl, h.l2, h.l3, h.n23⟩
end
set_option maxRecDepth 100000 in
set_option maxHeartbeats 4000000 in
theorem lproof_any (g : Nat) (s : ByteArray) (w : World) (hg : Blk w g 74 (lrC s 0)) (hs : s.size ≤ 1048576) (hv : ∀ V, Chg g w V → EV V) :
    Calls Tryd.prog 41 #[.pointer (some ⟨g, 0, none⟩)] w fun e w' => Chg g w w' ∧
      ((∃ at' : Nat, PsNo s at' ∧ e = .panicked PE ∧ ∃ s', Blk w' g 74 (lrC s' (at' : Int))) ∨
       ∃ k f z n v, PsOK s k f z n ∧ e = .returned (.agg (pfC k (f : Int) (z : Int) v).toArray) ∧ DOwn w' w.heap.size v n (ysTo (cutB s 10) n)) := by
  have HV := hide hv
  have G := hide hg
  have hgl := hg.lt
  have qA := cutA_size s 10
  have qB := cutB_size s 10
  have HRS := hide (restAt_size (cutB s 10))
  have HLS := hide (lineAt_size (cutB s 10))
  clear hv hg
  go_enter Tryd.func41, Tryd.ntmps41
  go_wp2_with (refine step_alloc zP rfl ?_)
  intro w1 g2 hr1 hl1 hb1
  have R2 := hide hr1
  have B1 := hide hb1
  have G1 := hide (G.out.on hb1)
  have C1 : Hid (Chg g w w1) := hide (Chg.of_below hb1)
  clear hr1 hb1 G
  go_wp2_with fail
  refine (ltake_any g s 0 _ G1.out hs (HV.out _ C1.out)).mono ?_
  rintro r w2 ⟨hok, hno⟩
  by_cases hO : cutO s 10 = true
  rotate_left
  · have hO' : cutO s 10 = false := by simpa using hO
    obtain ⟨rfl, hg2, hc2⟩ := hno hO'
    exact ⟨rfl, C1.out.trans hc2, .inl ⟨0, .inl ⟨rfl, fun k f z n h => hO h.1⟩, rfl, s, hg2⟩⟩
  obtain ⟨rfl, hg2, hc2⟩ := hok hO
  have HO := hide hO
  have G2 := hide hg2
  have C2 : Hid (Chg g w w2) := hide (C1.out.trans hc2)
  have R22 := hide (R2.out.chg hc2 (by omega))
  have hw12 := hc2.size
  clear hok hno hg2 hc2 hO G1 R2 C1
  go_wp2_with fail
  refine (rdHead_any (cutA s 10) _ (by omega) (HV.out _ C2.out)).mono ?_
  rintro r w3 ⟨hb3, ⟨f, z, rfl, hf, hz⟩ | ⟨rfl, hno⟩⟩
  rotate_left
  · exact ⟨rfl, C2.out.trans (Chg.of_below hb3), .inl ⟨0, .inl ⟨rfl, fun k f z n h => hno k f z n h.2⟩, rfl, _, G2.out.on hb3⟩⟩
  obtain ⟨k0, hk0⟩ : ∃ q, kd (hdK (cutA s 10)) = q := ⟨_, rfl⟩
  rw [hk0]
  have HF := hide hf
  have HZ := hide hz
  have G3 := hide (G2.out.on hb3)
  have R23 := hide (R22.out.on hb3)
  have C3 : Hid (Chg g w w3) := hide (C2.out.trans (Chg.of_below hb3))
  have hw13 := hb3.size
  have hg2w : g2 < w3.heap.size := R23.out.lt
  clear hf hz hb3 G2 R22 C2
  go_wp2_with (refine step_alloc zP rfl ?_)
  intro w4 g3 hr4 hl4 hb4
  have R4 := hide hr4
  clear hr4
  go_wp2_with (refine step_storeA wP rfl rfl rfl R4.out rfl (One.pf _ _ _ _ _ _) rfl ?_)
  intro w5 hg5 hbut5
  have P5 : Hid (LV w w5 g g2 g3 (cutB s 10) 0 (pfC k0 f z (.slice none 0 0))) := hide (by
    have := C3.out.size
    exact ⟨(G3.out.on hb4).but hbut5 (by omega), (R23.out.on hb4).but hbut5 (by omega), hg5, (C3.out.trans (Chg.of_below hb4)).fresh hbut5 (by omega), hgl, hl1, by omega, by omega⟩)
  clear hg5 hbut5 hb4 hl4 R4 G3 R23 C3 hw12 hw13 hg2w
  go_wp2_with (first | (refine step_loadA wP rfl rfl P5.out.r3 rfl ?_) | fail)
  refine (dgs_any k0 f z _ _).mono ?_
  rintro r w6 ⟨rfl, hb6⟩
  have P6 := hide (P5.out.on hb6)
  clear hb6 P5
  obtain ⟨c, hc⟩ : ∃ c, pcnt k0 f z = c := ⟨_, rfl⟩
  rw [hc]
  cases c with
  | none =>
    go_wp2_with fail
    refine (need_no _).mono ?_
    rintro e w9 ⟨rfl, rfl⟩
    refine ⟨rfl, P6.out.ch, .inl ⟨0, .inl ⟨rfl, fun k f' z' n h => ?_⟩, rfl, _, P6.out.r⟩⟩
    obtain ⟨_, h⟩ := h
    have e1 : f = (f' : Int) := by
      rcases HF.out with ⟨u, hu, rfl⟩ | ⟨hu, _⟩
      · rw [h.hf] at hu; injection hu with hu; rw [hu]
      · rw [h.hf] at hu; cases hu
    have e2 : z = (z' : Int) := by
      rcases HZ.out with ⟨u, hu, rfl⟩ | ⟨hu, _⟩
      · rw [h.hs] at hu; injection hu with hu; rw [hu]
      · rw [h.hs] at hu; cases hu
    have := h.hn
    rw [← h.hk, hk0, ← e1, ← e2, hc] at this
    cases this
  | some n =>
    have hn49 := pcnt_le hc
    obtain ⟨f', z', rfl, rfl, hHd⟩ := Hd.of HF.out HZ.out (by rw [hk0]; exact hc)
    rw [hk0] at hHd
    have HD : Hid (HdA s k0 f' z' n) := hide ⟨HO.out, hHd⟩
    clear hHd HF HZ
    go_wp2_with fail
    refine (need_ok _).mono ?_
    rintro e w10 ⟨rfl, rfl⟩
    obtain ⟨c30, c31, c32, c33⟩ := pf_at P6.out.r3
    go_wp2_with (refine step_makeD n rfl rfl rfl rfl rfl (by omega) ?_)
    intro w11 gs hrs hls hbs
    have P11 := hide (P6.out.on hbs)
    have hg3 := P6.out.r3.lt
    have hg2l := P6.out.r2.lt
    have hgsl : w.heap.size ≤ gs := Nat.le_trans P6.out.ch.size hls
    have GS := hide hrs
    clear hrs hbs P6 c30 c31 c32 c33
    obtain ⟨c30, c31, c32, c33⟩ := pf_at P11.out.r3
    have hz3 := P11.out.r3.free 3
    have PW : Hid (LV w (w11.setCell ⟨g3, 3, none⟩ (.slice (some ⟨gs, 0, none⟩) n n)) g g2 g3 (cutB s 10) 0 (pfC k0 f' z' (.slice (some ⟨gs, 0, none⟩) n n))) := hide (P11.out.set (But.setCell w11 g3 3 _) (P11.out.r3.set 3 (.slice (some ⟨gs, 0, none⟩) n n)))
    have GW := hide (GS.out.but (But.setCell w11 g3 3 (.slice (some ⟨gs, 0, none⟩) n n)) (show gs ≠ g3 by omega))
    have n3 : g3 ≠ gs := by omega
    have e33 := (pf_at PW.out.r3).2.2.2
    have ng : g ≠ gs := by omega
    have n2 : g2 ≠ gs := by omega
    clear GS hls hg3 hg2l
    go_wp2_with fail
    generalize w11.setCell ⟨g3, 3, none⟩ (.slice (some ⟨gs, 0, none⟩) n n) = w12 at *
    clear P11 c30 c31 c32 c33 hz3 e33
    generalize hRR : cutB s 10 = RR at *
    go_loopw [23] (fun i W => ∃ k : Nat, k ≤ n ∧ i = .int .i64 (k : Int) ∧ (∀ j, j < k → stepK RR j) ∧ LV w W g g2 g3 (restAt RR k) (k : Int) (pfC k0 f' z' (.slice (some ⟨gs, 0, none⟩) n n)) ∧ Blk W gs 45 (spl (u8s (zer (n * 32))) (u8s (ysTo RR k)) 0)) (fun i _ => n - (intOf i).toNat)
    case atStart => exact ⟨0, by omega, rfl, fun j hj => absurd hj (by omega), PW.out, by simpa [spl, u8s, ysTo] using GW.out⟩
    case round =>
      obtain ⟨k, hkn, rfl, hall, hP, hG⟩ := hrel
      have P := hide hP
      have GS := hide hG
      have AL := hide hall
      clear hP hG hall PW GW
      obtain ⟨cr0, cr1⟩ := lr_at P.out.r
      have hzr := P.out.r.free 1
      have hwk : IntKind.i64.wrap ((k : Int) + 1) = (k : Int) + 1 := by rw [IntKind.wrap_i64]; omega
      have BL := hide (But.setCell wr g 1 (.int .i64 ((k : Int) + 1)))
      have PL0 : Hid (LV w (wr.setCell ⟨g, 1, none⟩ (.int .i64 ((k : Int) + 1))) g g2 g3 (restAt RR k) ((k : Int) + 1) (pfC k0 f' z' (.slice (some ⟨gs, 0, none⟩) n n))) := hide (P.out.rd (Chg.of_but BL.out) (P.out.r.set 1 (.int .i64 ((k : Int) + 1))))
      have GL0 := hide (GS.out.but BL.out ng.symm)
      by_cases hlt : k < n
      · have hlt' : (k : Int) < (n : Int) := by omega
        go_wp2_with fail
        generalize wr.setCell ⟨g, 1, none⟩ (.int .i64 ((k : Int) + 1)) = wl at *
        have c33 := (pf_at PL0.out.r3).2.2.2
        refine wp_region_held_drew (S := fun v : World => v.cell? ⟨g3, 3, none⟩ = some (.slice (some ⟨gs, 0, none⟩) n n)) (by kernel_rfl) c33 (fun hHeld => ?_)
        refine takeH 0 33 (.pointer (some ⟨g3, 3, none⟩)) hHeld rfl rfl (by kernel_rfl) (by kernel_rfl) (by kernel_rfl) (fun _ _ _ h => h) (Or.inl ⟨by rfl, fun w _ => by go_simp⟩) ?_
        simp only [Act.put, List.setIfInBounds_toArray, List.set_cons_zero, List.set_cons_succ]
        refine takeH 1 34 (.slice (some ⟨gs, 0, none⟩) n n) hHeld rfl rfl (by kernel_rfl) (by kernel_rfl) (by kernel_rfl) (fun _ _ _ h => h) (Or.inl ⟨by rfl, fun w hw => by have hw' : w.cell? ⟨g3, 3, none⟩ = some (.slice (some ⟨gs, 0, none⟩) n n) := id hw; go_simp⟩) ?_
        simp only [Act.put, List.setIfInBounds_toArray, List.set_cons_zero, List.set_cons_succ]
        refine takeH 2 35 (.int .i64 (k : Int)) hHeld rfl rfl (by kernel_rfl) (by kernel_rfl) (by kernel_rfl) (fun _ _ _ h => h) (Or.inl ⟨by rfl, fun w _ => by go_simp⟩) ?_
        simp only [Act.put, List.setIfInBounds_toArray, List.set_cons_zero, List.set_cons_succ]
        refine takeH 3 36 (.pointer (some ⟨g, 0, none⟩)) hHeld rfl rfl (by kernel_rfl) (by kernel_rfl) (by kernel_rfl) (fun _ _ _ h => h) (Or.inl ⟨by rfl, fun w _ => by go_simp⟩) ?_
        simp only [Act.put, List.setIfInBounds_toArray, List.set_cons_zero, List.set_cons_succ]
        refine wpAnyH_ready (rs := [4]) (by kernel_rfl) (by simp) (AllReadyH.cons rfl (fun K hK => ?_) AllReadyH.nil)
        rw [if_pos (by rfl)]
        go_simp
        have PD := hide (PL0.out.on ((Below.refl wl.heap.size wl).drew))
        have GD : Hid (Blk wl.drew gs 45 (spl (u8s (zer (n * 32))) (u8s (ysTo RR k)) 0)) := hide (GL0.out.on ((Below.refl wl.heap.size wl).drew))
        refine (ltake_any g (restAt RR k) ((k : Int) + 1) _ PD.out.r (by have := HRS.out k; omega) (HV.out _ PD.out.ch)).mono ?_
        rintro e w13 ⟨hok, hno⟩
        by_cases h6 : cutO (restAt RR k) 10 = true
        rotate_left
        · obtain ⟨rfl, hg13, hc13⟩ := hno (by simpa using h6)
          exact ⟨rfl, PD.out.ch.trans hc13, .inl ⟨k + 1, .inr ⟨k0, f', z', n, k, HD.out, rfl, by omega, by rw [hRR]; exact AL.out, .inl ⟨hlt, by rw [hRR]; exact fun h => h6 h.1⟩⟩, rfl, _, by simpa using hg13⟩⟩
        obtain ⟨rfl, hg13, hc13⟩ := hok h6
        have P13 := hide (PD.out.rd hc13 hg13)
        have G13 := hide (GD.out.chg hc13 ng.symm)
        have H6 := hide h6
        clear hok hno h6 hg13 hc13 PD GD c33
        refine hK.out _ _ (pf_at P13.out.r3).2.2.2 (fun hHeld => ?_)
        clear hK K
        try simp only [Act.put, List.setIfInBounds_toArray, List.set_cons_zero, List.set_cons_succ]
        refine wpAnyH_ready (rs := [5]) (by kernel_rfl) (by simp) (AllReadyH.cons rfl (fun K hK => ?_) AllReadyH.nil)
        rw [if_pos (by rfl)]
        go_simp
        refine (rdDig_any (lineAt RR k) _ (by have := HLS.out k; omega)).mono ?_
        rintro e w14 ⟨hb14, ⟨hdg, rfl⟩ | ⟨hdg, rfl⟩⟩
        rotate_left
        · exact ⟨rfl, P13.out.ch.trans (Chg.of_below hb14), .inl ⟨k + 1, .inr ⟨k0, f', z', n, k, HD.out, rfl, by omega, by rw [hRR]; exact AL.out, .inl ⟨hlt, by rw [hRR]; exact fun h => hdg h.2⟩⟩, rfl, _, by simpa using P13.out.r.on hb14⟩⟩
        have P14 := hide (P13.out.on hb14)
        have G14 := hide (G13.out.on hb14)
        have HDG := hide hdg
        have HU := hide (show (u8s (Oct.ubB (lineAt RR k))).length = 32 by rw [u8s_length]; exact hdg.2)
        have HYL := hide (ysTo_length RR k AL.out)
        have HSP := hide (spl_ys (ysTo RR k) (Oct.ubB (lineAt RR k)) n k hlt (ysTo_length RR k AL.out) hdg.2)
        have AL2 : Hid (∀ j, j < k + 1 → stepK RR j) := hide (fun j hj => by
          by_cases h : j < k
          · exact AL.out j h
          · obtain rfl : j = k := by omega
            exact ⟨H6.out, HDG.out⟩)
        clear hb14 hdg P13 G13
        refine hK.out _ _ (pf_at P14.out.r3).2.2.2 (fun hHeld => ?_)
        clear hK K
        try simp only [Act.put, List.setIfInBounds_toArray, List.set_cons_zero, List.set_cons_succ]
        refine takeH 6 39 (.pointer (some ⟨gs, 0 + 32 * k, none⟩)) hHeld rfl rfl (by kernel_rfl) (by kernel_rfl) (by kernel_rfl) (fun _ _ _ h => h) (Or.inl ⟨by rfl, fun w _ => run_op rfl ((d_at gs 0 n n k (k : Int) rfl hlt) w)⟩) ?_
        simp only [Act.put, List.setIfInBounds_toArray, List.set_cons_zero, List.set_cons_succ]
        refine wpAnyH_ready (rs := [7]) (by kernel_rfl) (by simp) (AllReadyH.cons rfl (fun K hK => ?_) AllReadyH.nil)
        rw [if_pos (by rfl)]
        refine wp_storeW wD rfl rfl rfl G14.out HU.out (One.u8 _) (by rw [spl_length _ _ _ (by rw [u8s_length, u8s_length, zer_length, HYL.out]; omega), u8s_length, zer_length]; omega) ?_
        intro w15 hg15 hb15
        rw [Nat.zero_add, HSP.out] at hg15
        have P15 : Hid (LV w w15 g g2 g3 (restAt RR (k + 1)) ((k : Int) + 1) (pfC k0 f' z' (.slice (some ⟨gs, 0, none⟩) n n))) := hide (by
          have q := P14.out
          exact ⟨q.r.but hb15 ng, q.r2.but hb15 n2, q.r3.but hb15 n3, q.ch.fresh hb15 hgsl, q.gl, q.l2, q.l3, q.n23⟩)
        refine hK.out _ _ (pf_at P15.out.r3).2.2.2 (fun hHeld => ?_)
        clear hK K
        simp only [Act.put]
        refine wpAnyH_done (by kernel_rfl) ?_ _
        clear hHeld
        go_wp2
        exact ⟨⟨k + 1, by omega, by go_num, AL2.out, P15.out, hg15⟩, by simp [intOf]; omega⟩
      · obtain rfl : k = n := by omega
        have hxx : ¬ ((k : Int) < (k : Int)) := by omega
        have cr0' := (lr_at PL0.out.r).1
        by_cases h0 : (restAt RR k).size = 0
        · have e0 : ((restAt RR k).toList == []) = true := by
            rw [ByteArray.toList_eq]
            have : (restAt RR k).data.toList.length = 0 := by simpa using h0
            rw [List.eq_nil_of_length_eq_zero this]; rfl
          go_wp2_with fail
          generalize wr.setCell ⟨g, 1, none⟩ (.int .i64 ((k : Int) + 1)) = wl at *
          refine (need_ok _).mono ?_
          rintro e w16 ⟨rfl, rfl⟩
          go_wp2_with (first | (refine step_loadA wP rfl rfl PL0.out.r3 rfl ?_) | (refine step_storeA wP rfl rfl rfl PL0.out.r2 rfl (One.pf _ _ _ _ _ _) rfl ?_; intro w20 hg20 hb20))
          refine bodyPost_ret (results_wide rfl wP _ _ rfl hg20 rfl) rfl ⟨PL0.out.ch.fresh hb20 PL0.out.l2, .inr ⟨k0, f', z', k, _, ⟨HD.out, by rw [hRR]; exact AL.out, by rw [hRR]; exact h0⟩, rfl, ?_⟩⟩
          have hyl := ysTo_length RR k AL.out
          have e := GL0.out.but hb20 n2.symm
          rw [spl_full (by rw [u8s_length, u8s_length, zer_length, hyl]; omega)] at e
          rw [hRR]
          exact DOwn.of_blk e hgsl (by omega) (by omega)
        · have e0 : ((restAt RR k).toList == []) = false := by
            simp only [beq_eq_false_iff_ne, ne_eq]
            intro h
            rw [ByteArray.toList_eq] at h
            apply h0
            have : (restAt RR k).data.toList.length = 0 := by rw [h]; rfl
            simpa using this
          go_wp2_with fail
          generalize wr.setCell ⟨g, 1, none⟩ (.int .i64 ((k : Int) + 1)) = wl at *
          refine (need_no _).mono ?_
          rintro e w16 ⟨rfl, rfl⟩
          exact ⟨rfl, PL0.out.ch, .inl ⟨k + 1, .inr ⟨k0, f', z', k, k, HD.out, rfl, by omega, by rw [hRR]; exact AL.out, .inr ⟨rfl, by rw [hRR]; exact h0⟩⟩, rfl, _, by simpa using PL0.out.r⟩⟩

end Go.Proofs.YtojepbapdjkknaaDoor

/-
  wire.Parse: what is given up is caught.
-/
namespace Go.Proofs.YtojepbapdjkknaaDoor
open Go.RowKit
set_option linter.unusedVariables false
set_option linter.unusedSimpArgs false

theorem zI : Zeroed 3 [.int .i64 0] := fun _ _ _ _ _ _ _ => by kernel_rfl
theorem zLr : Zeroed 74 (lrC ByteArray.empty 0) := fun _ _ _ _ _ _ _ => by kernel_rfl
theorem One.lr (s : ByteArray) (p : Int) : One (lrC s p) := by
  intro v hv
  simp only [lrC, List.mem_cons, List.not_mem_nil, or_false] at hv
  rcases hv with rfl | rfl <;> rfl
section
variable {dst : Option Tmp} {ty : TypeId} {pos : String} {aft : Array Edge} {gd : Option (Nat × Bool)} {ops : Array Oper} {rest : List Oper} {a : Act} {w : World} {Q : Exit → Act → World → Prop}
theorem step_buildLr {x : Operand} {s : ByteArray} (hw : Region.wanted ⟨dst, .build 74 #[(0, x)], ty, pos, aft, gd⟩ (yielded ops a.tmps) = true) (hx : a.eval x = .string s)
    (h : wpList Tryd.prog ops Q rest (a.put dst (.agg (lrC s 0).toArray)) w) : wpList Tryd.prog ops Q (⟨dst, .build 74 #[(0, x)], ty, pos, aft, gd⟩ :: rest) a w :=
  step_run hw _ w (by simp only [execOp, List.map_toArray, List.map_cons, List.map_nil, hx]; kernel_rfl) h
end
/-- The deferred function where nothing was given up. -/
theorem lcaught_idle (o p q r : Addr) (w : World) :
    CallsD Tryd.prog 40 #[.pointer (some o), .pointer (some p), .pointer (some q), .pointer (some r)] .returning w fun e u' w' => e = .returned (.tuple #[]) ∧ u' = .returning ∧ w' = w := by
  refine callsD_of_wpS Tryd.func40 rfl fun c₀ cs hu => ?_
  apply wpS_seq
  apply wpS_region
  simp [wpOpsS, go_sem, recoverD, hu, Tryd.ntmps40, Exit.thenS]
  refine wpS_cond (t := false) (by simp [Act.eval, Array.replicate]) ?_
  simp only [Bool.false_eq_true, if_false]
  refine wpS_of_wp (wp_skip ?_)
  cases c₀
  simp_all [bodyPostS, results, Tryd.results40]
set_option maxRecDepth 100000 in
set_option maxHeartbeats 1000000 in
theorem lcaught (g gp ga ge : Nat) (s : ByteArray) (l : Int) (u : TypeId) (pv : Value) (older : List PanicEntry) (cs0 : List Value) (x y : Int) (w : World) (hg : Blk w g 74 (lrC s l)) (hp : Blk w gp 24 cs0) (hl : cs0.length = 4) (ha : Blk w ga 3 [.int .i64 x]) (he : Blk w ge 27 [.int .i64 y]) (h1 : gp ≠ ga) (h2 : gp ≠ ge) (h3 : ga ≠ ge) :
    CallsD Tryd.prog 40 #[.pointer (some ⟨g, 0, none⟩), .pointer (some ⟨gp, 0, none⟩), .pointer (some ⟨ga, 0, none⟩), .pointer (some ⟨ge, 0, none⟩)] (.panicking ({ v := .iface u pv, recovered := false } :: older)) w fun e u' w' =>
      e = .returned (.tuple #[]) ∧ u' = .panicking ({ v := .iface u pv, recovered := true } :: older) ∧ Blk w' gp 24 (pfC 0 0 0 (.slice none 0 0)) ∧ Blk w' ga 3 [.int .i64 l] ∧ Blk w' ge 27 [.int .i64 80] ∧ (∀ i, i ≠ gp → i ≠ ga → i ≠ ge → w'.heap[i]? = w.heap[i]?) ∧ w'.os = w.os ∧ w'.tape = w.tape ∧ w'.output = w.output ∧ w'.heap.size = w.heap.size := by
  refine callsD_of_wpS Tryd.func40 rfl fun c₀ cs hu => ?_
  apply wpS_seq
  apply wpS_region
  simp [wpOpsS, go_sem, recoverD, hu, Tryd.ntmps40, Exit.thenS]
  refine wpS_cond (t := true) (by simp [Act.eval, Array.replicate]) ?_
  simp only [if_true]
  refine wpS_of_wp ?_
  obtain ⟨d0, d1⟩ := lr_at hg
  go_wp2_with (first | (refine step_buildP0 rfl ?_) | (refine step_storeA wP rfl rfl rfl hp rfl (One.pf _ _ _ _ _ _) hl ?_))
  intro w1 hg1 hb1
  have A1 := ha.but hb1 h1.symm
  have E1 := he.but hb1 h2.symm
  have c0 : w1.cell? ⟨ga, 0, none⟩ = some (.int .i64 x) := by rw [A1.cell]; rfl
  have z0 := A1.free 0
  have BN := But.setCell w1 ga 0 (.int .i64 l)
  have A2 : Blk (w1.setCell ⟨ga, 0, none⟩ (.int .i64 l)) ga 3 [.int .i64 l] := A1.set 0 (.int .i64 l)
  have E2 := E1.but BN h3.symm
  have P2 := hg1.but BN h1
  have c1 : (w1.setCell ⟨ga, 0, none⟩ (.int .i64 l)).cell? ⟨ge, 0, none⟩ = some (.int .i64 y) := by rw [E2.cell]; rfl
  have z1 := E2.free 0
  go_wp2
  simp [bodyPostS, results, Tryd.results40]
  have BM := But.setCell (w1.setCell ⟨ga, 0, none⟩ (.int .i64 l)) ge 0 (.int .i64 80)
  exact ⟨P2.but BM h2, A2.but BM h3, E2.set 0 (.int .i64 80), fun i i1 i2 i3 => by rw [BM.block i i3, BN.block i i2]; exact hb1.block i i1, hb1.os, hb1.tape, hb1.output, hb1.size⟩
theorem results_c3 {fn : Func} {p q r : Tmp} {T : TypeId} (h : fn.results = #[.cell p T, .cell q 3, .cell r 27]) {n : Nat} (hT : Wide T n) (tmps : Array Value) (w : World)
    {g : Nat} {t : TypeId} {cs : List Value} (hp : tmps.getD p undef = .pointer (some ⟨g, 0, none⟩)) (hg : Blk w g t cs) (hl : cs.length = n) {k : Nat} {t' : TypeId} {y : Int} (hq : tmps.getD q undef = .pointer (some ⟨k, 0, none⟩)) (hk : Blk w k t' [.int .i64 y])
    {m : Nat} {t'' : TypeId} {z : Int} (hr : tmps.getD r undef = .pointer (some ⟨m, 0, none⟩)) (hm : Blk w m t'' [.int .i64 z]) :
    (results fn tmps).run Tryd.prog w = .ok (.tuple #[.agg cs.toArray, .int .i64 y, .int .i64 z]) w := by
  have hp' : tmps[p]?.getD undef = .pointer (some ⟨g, 0, none⟩) := by simpa using hp
  have hq' : tmps[q]?.getD undef = .pointer (some ⟨k, 0, none⟩) := by simpa using hq
  have hr' : tmps[r]?.getD undef = .pointer (some ⟨m, 0, none⟩) := by simpa using hr
  have hc : w.cell? ⟨k, 0, none⟩ = some (.int .i64 y) := by rw [hk.cell]; rfl
  have hd : w.cell? ⟨m, 0, none⟩ = some (.int .i64 z) := by rw [hm.cell]; rfl
  have hE : (loadVar 3 ⟨k, 0, none⟩).run Tryd.prog w = .ok (.int .i64 y) w := by simp [go_sem, hc]
  have hF : (loadVar 27 ⟨m, 0, none⟩).run Tryd.prog w = .ok (.int .i64 z) w := by simp [go_sem, hd]
  obtain ⟨d, hu, hd⟩ := hT.und
  simp [results, h, hp', hq', hr', asAddr, run_loadVar_mid w g 0 T cs d (hg.range 0 cs (by simp)) hu hd (by rw [hT.size, hl]), hE, hF]

set_option maxRecDepth 100000 in
set_option maxHeartbeats 1000000 in
theorem parse_any (s : ByteArray) (w : World) (hs : s.size ≤ 1048576) (hv : EV w) :
    Calls Tryd.prog 18 #[.string s] w fun e w' => Below w.heap.size w w' ∧ ((∃ a : Nat, PsNo s a ∧ e = .returned (.tuple #[.agg (pfC 0 0 0 (.slice none 0 0)).toArray, .int .i64 (a : Int), .int .i64 80])) ∨
      ∃ k f z n v, PsOK s k f z n ∧ e = .returned (.tuple #[.agg (pfC k (f : Int) (z : Int) v).toArray, .int .i64 0, .int .i64 0]) ∧ DOwn w' w.heap.size v n (ysTo (cutB s 10) n)) := by
  have hmf : ∀ (fn : Fn) (first cap : Array Value) (w : World), (Instr.makeFunc fn first cap).run Tryd.prog w = .ok (.func fn first cap) w := fun _ _ _ _ => rfl
  have HV := hide hv
  clear hv
  go_enter_defers Tryd.func18, Tryd.ntmps18
  go_wp2_with (refine step_alloc zP rfl ?_)
  intro w1 gp hr1 hl1 hb1
  go_wp2_with (refine step_alloc zI rfl ?_)
  intro w2 ga hr2 hl2 hb2
  go_wp2_with (refine step_alloc zE rfl ?_)
  intro w3 ge hr3 hl3 hb3
  have RP := hide ((hr1.on hb2).on hb3)
  have RA := hide (hr2.on hb3)
  have RE := hide hr3
  have B3 := hide (on_below (on_below hb1 hb2) hb3)
  have lp1 := hr1.lt
  have la2 := hr2.lt
  have s12 := hb1.size
  have s23 := hb2.size
  have lge := hr3.lt
  have npa : gp ≠ ga := by omega
  have npe : gp ≠ ge := by omega
  have nae : ga ≠ ge := by omega
  have s34 := hb3.size
  clear hr1 hr2 hr3 hb1 hb2 hb3
  go_wp2_with (first | (refine step_buildLr rfl rfl ?_) | (refine step_alloc zLr rfl ?_; intro w4 g hr4 hl4 hb4; have R4 := hide hr4; clear hr4) | (refine step_storeA wLr rfl rfl rfl R4.out rfl (One.lr _ _) rfl ?_; intro w5 hg5 hbut5))
  have RP5 := hide ((RP.out.on hb4).but hbut5 (by omega))
  have RA5 := hide ((RA.out.on hb4).but hbut5 (by omega))
  have RE5 := hide ((RE.out.on hb4).but hbut5 (by omega))
  have B5 := hide (new_below B3.out hb4 hl4 hbut5)
  have G5 := hide hg5
  have hgw : w.heap.size ≤ g := Nat.le_trans B3.out.size hl4
  clear hg5 hbut5 hb4 R4 RP RA RE B3
  refine (lproof_any g s w5 G5.out hs (fun V hV => HV.out.below (B5.out.trans (hV.below hgw B5.out.size)))).mono ?_
  rintro e w6 ⟨hc6, ⟨at', hno, rfl, s', hg6⟩ | ⟨k, f, z, n, v, hok, rfl, hown⟩⟩
  · have RP6 := hide (RP5.out.chg hc6 (by omega))
    have RA6 := hide (RA5.out.chg hc6 (by omega))
    have RE6 := hide (RE5.out.chg hc6 (by omega))
    have B6 := hide (B5.out.trans (hc6.below hgw B5.out.size))
    clear hc6
    refine leaves_cons (f := 40) (args := #[.pointer (some ⟨g, 0, none⟩), .pointer (some ⟨gp, 0, none⟩), .pointer (some ⟨ga, 0, none⟩), .pointer (some ⟨ge, 0, none⟩)]) (by simp) (by simp [go_sem]) ?_
    refine (lcaught g gp ga ge s' _ _ _ [] _ _ _ _ hg6 RP6.out rfl RA6.out RE6.out npa npe nae).mono ?_
    rintro e u' w7 ⟨rfl, rfl, h1, h2, h3, h4, h5, h6, h7, h8⟩
    simp only [Leaves, settle, List.dropWhile_nil]
    refine ⟨_, results_c3 rfl wP _ _ rfl h1 rfl rfl h2 rfl h3, ?_, .inl ⟨at', hno, rfl⟩⟩
    exact B6.out.trans ⟨h5, h6, h7, Nat.le_of_eq h8.symm, fun k hk => h4 k (by omega) (by omega) (by omega)⟩
  · have RP6 := hide (RP5.out.chg hc6 (by omega))
    have RA6 := hide (RA5.out.chg hc6 (by omega))
    have RE6 := hide (RE5.out.chg hc6 (by omega))
    have B6 := hide (B5.out.trans (hc6.below hgw B5.out.size))
    have D6 := hide hown
    obtain ⟨va, vc, rfl⟩ : ∃ va vc, v = .slice va n vc := by
      rcases hown.2 with ⟨rfl, h0⟩ | ⟨k, cap, cur, rfl, _⟩
      · exact ⟨none, 0, by rw [h0]⟩
      · exact ⟨_, _, rfl⟩
    have HO := hide hok
    have l5 := RP5.out.lt
    have l6 := RA5.out.lt
    have l7 := RE5.out.lt
    clear hc6 hown hok
    go_wp2_with (first | (refine step_storeA wP rfl rfl rfl RP6.out rfl (One.pf _ _ _ _ _ _) rfl ?_))
    intro w7 hg7 hb7
    have A1 := hide (RA6.out.but hb7 npa.symm)
    have E1 := hide (RE6.out.but hb7 npe.symm)
    have c0 : w7.cell? ⟨ga, 0, none⟩ = some (.int .i64 0) := by rw [A1.out.cell]; rfl
    have z0 := A1.out.free 0
    have BN := hide (But.setCell w7 ga 0 (.int .i64 0))
    have A2 : Hid (Blk (w7.setCell ⟨ga, 0, none⟩ (.int .i64 0)) ga 3 [.int .i64 0]) := hide (A1.out.set 0 (.int .i64 0))
    have E2 := hide (E1.out.but BN.out nae.symm)
    have P2 := hide (hg7.but BN.out npa)
    have c1 : (w7.setCell ⟨ga, 0, none⟩ (.int .i64 0)).cell? ⟨ge, 0, none⟩ = some (.int .i64 0) := by rw [E2.out.cell]; rfl
    have z1 := E2.out.free 0
    have BM := hide (But.setCell (w7.setCell ⟨ga, 0, none⟩ (.int .i64 0)) ge 0 (.int .i64 0))
    go_wp2
    refine leaves_cons (f := 40) (args := #[.pointer (some ⟨g, 0, none⟩), .pointer (some ⟨gp, 0, none⟩), .pointer (some ⟨ga, 0, none⟩), .pointer (some ⟨ge, 0, none⟩)]) (by simp) (by simp [go_sem]) ?_
    refine (lcaught_idle ⟨g, 0, none⟩ ⟨gp, 0, none⟩ ⟨ga, 0, none⟩ ⟨ge, 0, none⟩ _).mono ?_
    rintro e u' w8 ⟨rfl, rfl, rfl⟩
    simp only [Leaves, settle]
    refine ⟨_, results_c3 rfl wP _ _ rfl (P2.out.but BM.out npe) rfl rfl (A2.out.but BM.out nae) rfl (E2.out.set 0 (.int .i64 0)), ?_, .inr ⟨k, f, z, n, _, HO.out, rfl, ?_⟩⟩
    · exact ((B6.out.trans (hb7.below hl1)).trans (BN.out.below (by omega))).trans (BM.out.below (by omega))
    · exact (((D6.out.but hb7 (by omega)).but BN.out (by omega)).but BM.out (by omega)).base B5.out.size

end Go.Proofs.YtojepbapdjkknaaDoor

/-
  The document's Parse.
-/
namespace Go.Proofs.YtojepbapdjkknaaDoor
open Go.RowKit
set_option linter.unusedVariables false
set_option linter.unusedSimpArgs false

theorem num_any2 (s : ByteArray) (w : World) (hs : s.size ≤ 1048576) :
    Calls Tryd.prog 43 #[.string s, .int .i64 281474976710656] w fun r w' => Below w.heap.size w w' ∧
      ∃ (v : Int) (x : Bool), r = .returned (.tuple #[.int .i64 v, .bool x]) ∧ (x = true → ∃ u : Nat, nmO (strL s) = some u ∧ v = (u : Int)) ∧ (x = false → nmO (strL s) = none) := by
  refine (num_any s w hs).mono ?_
  rintro r w' ⟨hb, ⟨u, hu, rfl⟩ | ⟨hn, x, rfl⟩⟩
  · exact ⟨hb, _, _, rfl, (fun _ => ⟨u, hu, rfl⟩), (fun h => by cases h)⟩
  · exact ⟨hb, _, _, rfl, (fun h => by cases h), fun _ => hn⟩
theorem cut_empty (c : UInt8) : cutA ByteArray.empty c = ByteArray.empty ∧ cutB ByteArray.empty c = ByteArray.empty := by
  have h := cut_miss (s := ByteArray.empty) (c := c) (fun j hj => absurd (show j < 0 from hj) (Nat.not_lt_zero j))
  exact ⟨h.1, h.2.1⟩
theorem cutB_no {s : ByteArray} {c : UInt8} (h : cutO s c = false) : cutB s c = ByteArray.empty := by
  rcases Lib.indexB_cases s ⟨#[c]⟩ with h1 | ⟨i, h1, _⟩
  · exact (Lib.cutB_miss s ⟨#[c]⟩ h1).2.1
  · have : cutO s c = true := (Lib.cutB_hit s ⟨#[c]⟩ i h1).2.2
    rw [h] at this
    cases this
theorem nmO_empty : nmO (strL ByteArray.empty) = none := by
  cases h : nmO (strL ByteArray.empty) with
  | none => rfl
  | some v => exact absurd (nmO_len h).1 (by decide)
theorem hd_is {L : ByteArray} {k : Int} {f s n : Nat} (h : Hd L k f s n) : cutO L 32 = true ∧ cutO (cutB L 32) 32 = true := by
  constructor
  · cases e : cutO L 32 with
    | true => rfl
    | false =>
      have h1 := h.hf
      unfold hdF at h1
      rw [cutB_no e, (cut_empty 32).1, nmO_empty] at h1
      cases h1
  · cases e : cutO (cutB L 32) 32 with
    | true => rfl
    | false =>
      have h1 := h.hs
      unfold hdS at h1
      rw [cutB_no e, nmO_empty] at h1
      cases h1
/-- What the loop of the document's Parse keeps. -/
structure DL (w W : World) (g2 gp : Nat) (k0 f0 s0 : Int) (R : ByteArray) (v : Value) (k : Nat) : Prop where
  c2 : Blk W g2 24 (pfC 0 0 0 (.slice none 0 0))
  cp : Blk W gp 24 (pfC k0 f0 s0 v)
  own : DOwn W w.heap.size v k (ysTo R k)
  bel : Below w.heap.size w W
theorem DL.below {w W W' : World} {g2 gp : Nat} {k0 f0 s0 : Int} {R : ByteArray} {v : Value} {k : Nat} (h : DL w W g2 gp k0 f0 s0 R v k) (hb : Below W.heap.size W W') : DL w W' g2 gp k0 f0 s0 R v k :=
  ⟨h.c2.on hb, h.cp.on hb, h.own.below hb, on_below h.bel hb⟩
theorem DL.next {w W W' : World} {g2 gp : Nat} {k0 f0 s0 : Int} {R : ByteArray} {v v' : Value} {k : Nat} (h : DL w W g2 gp k0 f0 s0 R v k) (hg : W.grownBy W' v.ownBlock) (ho : DOwn W' w.heap.size v' (k + 1) (ysTo R k ++ Oct.ubB (lineAt R k))) (hgp : w.heap.size ≤ gp) (h2p : g2 ≠ gp) :
    DL w (W'.setCell ⟨gp, 3, none⟩ v') g2 gp k0 f0 s0 R v' (k + 1) := by
  have h2 := h.c2.grew hg (h.own.apart8 h.c2 (by decide))
  have hp := h.cp.grew hg (h.own.apart8 h.cp (by decide))
  have hbut := But.setCell W' gp 3 v'
  exact ⟨h2.but hbut h2p, hp.set 3 v', ho.but8 hbut (ho.apart8 hp (by decide)), (h.bel.trans (Below.of_grown hg h.bel.size h.own.lt)).trans (hbut.below hgp)⟩
set_option maxRecDepth 100000 in
set_option maxHeartbeats 4000000 in
theorem parseR_any (s : ByteArray) (w : World) (hs : s.size ≤ 1048576) :
    Calls Tryd.prog 19 #[.string s] w fun e w' => Below w.heap.size w w' ∧ ((∃ a : Nat, PsNo s a ∧ e = .returned (.tuple #[.agg (pfC 0 0 0 (.slice none 0 0)).toArray, .int .i64 (a : Int), .int .i64 80])) ∨
      ∃ k f z n v, PsOK s k f z n ∧ e = .returned (.tuple #[.agg (pfC k (f : Int) (z : Int) v).toArray, .int .i64 0, .int .i64 0]) ∧ DOwn w' w.heap.size v n (ysTo (cutB s 10) n)) := by
  have q0 := cutA_size s 10
  have q5 := cutB_size s 10
  have q1 := cutA_size (cutA s 10) 32
  have q2 := cutB_size (cutA s 10) 32
  have q3 := cutA_size (cutB (cutA s 10) 32) 32
  have q4 := cutB_size (cutB (cutA s 10) 32) 32
  have HRS := hide (restAt_size (cutB s 10))
  have HLS := hide (lineAt_size (cutB s 10))
  have C0 := hide (fun V => cutR_any s 10 V (by omega))
  have C1 := hide (fun V => cutR_any (cutA s 10) 32 V (by omega))
  have C2 := hide (fun V => cutR_any (cutB (cutA s 10) 32) 32 V (by omega))
  have C4 := hide (fun V => num_any2 (hdF (cutA s 10)) V (by unfold hdF; omega))
  have C5 := hide (fun V => num_any2 (hdS (cutA s 10)) V (by unfold hdS; omega))
  rw [show cutA (cutA s 10) 32 = hdK (cutA s 10) from rfl] at C1
  rw [show cutA (cutB (cutA s 10) 32) 32 = hdF (cutA s 10) from rfl, show cutB (cutB (cutA s 10) 32) 32 = hdS (cutA s 10) from rfl] at C2
  have HIS : Hid (∀ k f z n, HdA s k f z n → cutO (cutA s 10) 32 = true ∧ cutO (cutB (cutA s 10) 32) 32 = true) := hide (fun k f z n h => hd_is h.2)
  have HOK : Hid (∀ k f z n, HdA s k f z n → cutO s 10 = true) := hide (fun k f z n h => h.1)
  generalize hO1 : cutO s 10 = O1 at *
  generalize cutO (cutA s 10) 32 = O2 at *
  generalize cutO (cutB (cutA s 10) 32) 32 = O3 at *
  generalize cutB (cutA s 10) 32 = N1 at *
  clear q0 q1 q2 q3 q4
  go_enter Tryd.func19, Tryd.ntmps19
  go_wp2_with (refine step_alloc zP rfl ?_)
  intro w1 g2 hr1 hl1 hb1
  have R1 := hide hr1
  have B1 := hide hb1
  clear hr1 hb1
  go_wp2_with fail
  refine (C0.out _).mono ?_
  rintro r w2 ⟨rfl, hb2⟩
  have R2 := hide (R1.out.on hb2)
  have B2 := hide (on_below B1.out hb2)
  clear hb2 R1 B1
  go_wp2_with fail
  refine (C1.out _).mono ?_
  rintro r w3 ⟨rfl, hb3⟩
  have R3 := hide (R2.out.on hb3)
  have B3 := hide (on_below B2.out hb3)
  clear hb3 R2 B2
  go_wp2_with fail
  refine (C2.out _).mono ?_
  rintro r w4 ⟨rfl, hb4⟩
  have R4 := hide (R3.out.on hb4)
  have B4 := hide (on_below B3.out hb4)
  clear hb4 R3 B3 C0 C1 C2
  go_wp2_with (refine step_alloc zP rfl ?_)
  intro w5 gp hr5 hl5 hb5
  have P5 := hide hr5
  have R5 := hide (R4.out.on hb5)
  have B5 := hide (on_below B4.out hb5)
  have hgp : w.heap.size ≤ gp := Nat.le_trans B4.out.size hl5
  have hg2p : g2 ≠ gp := by have := R4.out.lt; omega
  clear hr5 hb5 R4 B4
  have HKD : Hid (kd (hdK (cutA s 10)) = if ((hdK (cutA s 10)).toList == [105, 110, 99, 108, 117, 115, 105, 111, 110]) = true then 1 else if ((hdK (cutA s 10)).toList == [99, 111, 110, 115, 105, 115, 116, 101, 110, 99, 121]) = true then 2 else 0) := hide (by
    unfold kd
    simp only [beq_iff_eq]
    rfl)
  have HKX : Hid (((hdK (cutA s 10)).toList == [105, 110, 99, 108, 117, 115, 105, 111, 110]) = true → ((hdK (cutA s 10)).toList == [99, 111, 110, 115, 105, 115, 116, 101, 110, 99, 121]) = true → False) := hide (fun h1 h2 => by
    simp only [beq_iff_eq] at h1 h2
    rw [h1] at h2
    cases h2)
  generalize hE1 : ((hdK (cutA s 10)).toList == [105, 110, 99, 108, 117, 115, 105, 111, 110]) = b1 at *
  generalize hE2 : ((hdK (cutA s 10)).toList == [99, 111, 110, 115, 105, 115, 116, 101, 110, 99, 121]) = b2 at *
  go_upto_if 50 with fail
  go_cut [8] from 31 (fun q W => q = .string (hdK (cutA s 10)) ∧ Blk W gp 24 (pfC (if b1 = true then 1 else 0) 0 0 (.slice none 0 0)) ∧ Blk W g2 24 (pfC 0 0 0 (.slice none 0 0)) ∧ Below w.heap.size w W)
  case first =>
    cases b1
    · go_wp2_with fail
      go_meet
      case rel => exact ⟨rfl, P5.out, R5.out, B5.out⟩
    · have hz := P5.out.free 0
      have hc := (pf_at P5.out).1
      have G := hide (P5.out.set 0 (.int .i64 1))
      have BN := hide (But.setCell w5 gp 0 (.int .i64 1))
      go_wp2_with fail
      go_meet
      case rel => exact ⟨rfl, G.out, R5.out.but BN.out hg2p, B5.out.trans (BN.out.below hgp)⟩
  case rest =>
    obtain ⟨rfl, hP, hR, hB⟩ := hcut
    have P6 := hide hP
    have R6 := hide hR
    have B6 := hide hB
    clear hP hR hB P5 R5 B5
    obtain ⟨k0, hk0⟩ : ∃ q, kd (hdK (cutA s 10)) = q := ⟨_, rfl⟩
    rw [hk0] at HKD
    have HK0 := hide hk0
    clear hk0
    go_upto_if 53 with fail
    go_cut [8] from 31 (fun q W => q = .string (hdK (cutA s 10)) ∧ Blk W gp 24 (pfC k0 0 0 (.slice none 0 0)) ∧ Blk W g2 24 (pfC 0 0 0 (.slice none 0 0)) ∧ Below w.heap.size w W)
    case first =>
      cases b2
      · have hkk : k0 = if b1 = true then 1 else 0 := by have := HKD.out; simpa using this
        rw [← hkk] at P6
        go_wp2_with fail
        go_meet
        case rel => exact ⟨rfl, P6.out, R6.out, B6.out⟩
      · have hb1 : b1 = false := by
          cases b1
          · rfl
          · exact (HKX.out rfl rfl).elim
        subst hb1
        have hkk : k0 = 2 := by have := HKD.out; simpa using this
        subst hkk
        have hz := P6.out.free 0
        have hc := (pf_at P6.out).1
        have G := hide (P6.out.set 0 (.int .i64 2))
        have BN := hide (But.setCell wc gp 0 (.int .i64 2))
        go_wp2_with fail
        go_meet
        case rel => exact ⟨rfl, G.out, R6.out.but BN.out hg2p, B6.out.trans (BN.out.below hgp)⟩
    case rest =>
      obtain ⟨rfl, hP, hR, hB⟩ := hcut
      have P7 := hide hP
      have R7 := hide hR
      have B7 := hide hB
      clear hP hR hB P6 R6 B6 HKD HKX
      go_wp2_with fail
      refine (C4.out _).mono ?_
      rintro r w8 ⟨hb8, v1, x, rfl, hx1, hx0⟩
      have P8 := hide (P7.out.on hb8)
      have R8 := hide (R7.out.on hb8)
      have B8 := hide (on_below B7.out hb8)
      have HX1 := hide hx1
      have HX0 := hide hx0
      clear hb8 hx1 hx0 P7 R7 B7
      go_wp2_with fail
      refine (C5.out _).mono ?_
      rintro r w9 ⟨hb9, v2, y, rfl, hy1, hy0⟩
      have P9 := hide (P8.out.on hb9)
      have R9 := hide (R8.out.on hb9)
      have B9 := hide (on_below B8.out hb9)
      have HY1 := hide hy1
      have HY0 := hide hy0
      clear hb9 hy1 hy0 P8 R8 B8 C4 C5
      have z1 := P9.out.free 1
      have c1 := (pf_at P9.out).2.1
      have PA : Hid (Blk (w9.setCell ⟨gp, 1, none⟩ (.int .i64 v1)) gp 24 (pfC k0 v1 0 (.slice none 0 0))) := hide (P9.out.set 1 (.int .i64 v1))
      have BA := hide (But.setCell w9 gp 1 (.int .i64 v1))
      have z2 := PA.out.free 2
      have c2 := (pf_at PA.out).2.2.1
      have PB : Hid (Blk ((w9.setCell ⟨gp, 1, none⟩ (.int .i64 v1)).setCell ⟨gp, 2, none⟩ (.int .i64 v2)) gp 24 (pfC k0 v1 v2 (.slice none 0 0))) := hide (PA.out.set 2 (.int .i64 v2))
      have BB := hide (But.setCell (w9.setCell ⟨gp, 1, none⟩ (.int .i64 v1)) gp 2 (.int .i64 v2))
      have RB := hide ((R9.out.but BA.out hg2p).but BB.out hg2p)
      have BBL := hide ((B9.out.trans (BA.out.below hgp)).trans (BB.out.below hgp))
      go_wp2_with (first | (refine step_loadA wP rfl rfl PB.out rfl ?_) | fail)
      generalize (w9.setCell ⟨gp, 1, none⟩ (.int .i64 v1)).setCell ⟨gp, 2, none⟩ (.int .i64 v2) = wB at *
      clear z1 c1 PA BA z2 c2 P9 R9 B9 BB
      refine (count_any k0 v1 v2 _ _).mono ?_
      rintro r w11 ⟨rfl, hb11⟩
      have PC := hide (PB.out.on hb11)
      have RC := hide (RB.out.on hb11)
      have BC := hide (on_below BBL.out hb11)
      clear hb11 PB RB BBL
      have HM1 : Hid ((pcnt k0 v1 v2).isSome = true → pcnt k0 v1 v2 = some ((pcnt k0 v1 v2).getD 0)) := hide (by cases pcnt k0 v1 v2 <;> simp)
      have HM0 : Hid ((pcnt k0 v1 v2).isSome = false → pcnt k0 v1 v2 = none) := hide (by cases pcnt k0 v1 v2 <;> simp)
      generalize hmm : (pcnt k0 v1 v2).isSome = m at *
      generalize hnn : (pcnt k0 v1 v2).getD 0 = n at *
      clear hmm hnn
      cases O1
      · have HN : Hid (PsNo s 0) := hide (.inl ⟨rfl, fun k f z n h => by have := HOK.out k f z n h; cases this⟩)
        go_wp2_with (first | (refine step_buildP0 rfl ?_) | (refine step_storeA wP rfl rfl rfl RC.out rfl (One.pf _ _ _ _ _ _) rfl ?_; intro w99 hg99 hb99))
        refine bodyPost_ret (results_wide3 rfl wP _ _ rfl hg99 rfl) rfl ⟨BC.out.trans (hb99.below hl1), .inl ⟨0, HN.out, rfl⟩⟩
      cases O2
      · have HN : Hid (PsNo s 0) := hide (.inl ⟨rfl, fun k f z n h => by have := (HIS.out k f z n h).1; cases this⟩)
        go_wp2_with (first | (refine step_buildP0 rfl ?_) | (refine step_storeA wP rfl rfl rfl RC.out rfl (One.pf _ _ _ _ _ _) rfl ?_; intro w99 hg99 hb99))
        refine bodyPost_ret (results_wide3 rfl wP _ _ rfl hg99 rfl) rfl ⟨BC.out.trans (hb99.below hl1), .inl ⟨0, HN.out, rfl⟩⟩
      cases O3
      · have HN : Hid (PsNo s 0) := hide (.inl ⟨rfl, fun k f z n h => by have := (HIS.out k f z n h).2; cases this⟩)
        go_wp2_with (first | (refine step_buildP0 rfl ?_) | (refine step_storeA wP rfl rfl rfl RC.out rfl (One.pf _ _ _ _ _ _) rfl ?_; intro w99 hg99 hb99))
        refine bodyPost_ret (results_wide3 rfl wP _ _ rfl hg99 rfl) rfl ⟨BC.out.trans (hb99.below hl1), .inl ⟨0, HN.out, rfl⟩⟩
      cases x
      · have HN : Hid (PsNo s 0) := hide (.inl ⟨rfl, fun k f z n h => by have := h.2.hf; rw [HX0.out rfl] at this; cases this⟩)
        go_wp2_with (first | (refine step_buildP0 rfl ?_) | (refine step_storeA wP rfl rfl rfl RC.out rfl (One.pf _ _ _ _ _ _) rfl ?_; intro w99 hg99 hb99))
        refine bodyPost_ret (results_wide3 rfl wP _ _ rfl hg99 rfl) rfl ⟨BC.out.trans (hb99.below hl1), .inl ⟨0, HN.out, rfl⟩⟩
      obtain ⟨f', hf', ef⟩ := HX1.out rfl
      subst ef
      cases y
      · have HN : Hid (PsNo s 0) := hide (.inl ⟨rfl, fun k f z n h => by have := h.2.hs; rw [HY0.out rfl] at this; cases this⟩)
        clear hf'
        go_wp2_with (first | (refine step_buildP0 rfl ?_) | (refine step_storeA wP rfl rfl rfl RC.out rfl (One.pf _ _ _ _ _ _) rfl ?_; intro w99 hg99 hb99))
        refine bodyPost_ret (results_wide3 rfl wP _ _ rfl hg99 rfl) rfl ⟨BC.out.trans (hb99.below hl1), .inl ⟨0, HN.out, rfl⟩⟩
      obtain ⟨z', hz', ez⟩ := HY1.out rfl
      subst ez
      cases m
      · have HN : Hid (PsNo s 0) := hide (.inl ⟨rfl, fun k f z n h => by
          have h1 := h.2.hf
          have h2 := h.2.hs
          have h3 := h.2.hn
          have h4 := h.2.hk
          rw [hf'] at h1
          rw [hz'] at h2
          injection h1 with h1
          injection h2 with h2
          rw [← h4, HK0.out, ← h1, ← h2, HM0.out rfl] at h3
          cases h3⟩)
        clear hf' hz'
        go_wp2_with (first | (refine step_buildP0 rfl ?_) | (refine step_storeA wP rfl rfl rfl RC.out rfl (One.pf _ _ _ _ _ _) rfl ?_; intro w99 hg99 hb99))
        refine bodyPost_ret (results_wide3 rfl wP _ _ rfl hg99 rfl) rfl ⟨BC.out.trans (hb99.below hl1), .inl ⟨0, HN.out, rfl⟩⟩
      have hpn := HM1.out rfl
      have hn49 := pcnt_le hpn
      have HD : Hid (HdA s k0 f' z' n) := hide ⟨hO1, HK0.out, hf', hz', hpn⟩
      clear hf' hz' hpn HX0 HX1 HY0 HY1 HM0 HM1 HIS HOK
      have L0 : Hid (DL w w11 g2 gp k0 f' z' (cutB s 10) (.slice none 0 0) 0) := hide ⟨RC.out, PC.out, by simpa [ysTo] using DOwn.nil _ _, BC.out⟩
      clear RC PC BC
      generalize hRR : cutB s 10 = RR at *
      go_wp2_with fail
      go_loopw [6, 21] (fun t i W => ∃ (k : Nat) (v : Value), k ≤ n ∧ t = .string (restAt RR k) ∧ i = .int .i64 (k : Int) ∧ (∀ j, j < k → stepK RR j) ∧ DL w W g2 gp k0 f' z' RR v k) (fun _ i _ => n - (intOf i).toNat)
      case atStart => exact ⟨0, _, by omega, rfl, rfl, fun j hj => absurd hj (by omega), L0.out⟩
      case round =>
        obtain ⟨k, v, hkn, rfl, rfl, hall, hL⟩ := hrel
        have L := hide hL
        have AL := hide hall
        clear hL hall L0
        have C6 := hide (fun V => cutR_any (restAt RR k) 10 V (by have := HRS.out k; omega))
        have C7 := hide (fun V => unbR8 (lineAt RR k) V (by have := HLS.out k; omega))
        have HUL := hide (ub_len (lineAt RR k))
        have HLK := hide (HLS.out k)
        rw [show cutA (restAt RR k) 10 = lineAt RR k from rfl, show cutB (restAt RR k) 10 = restAt RR (k + 1) from rfl] at C6
        have hw1 : IntKind.i64.wrap (1 + (k : Int)) = 1 + (k : Int) := by rw [IntKind.wrap_i64]; omega
        have hw2 : IntKind.i64.wrap ((k : Int) + 1) = (k : Int) + 1 := by rw [IntKind.wrap_i64]; omega
        by_cases hlt : k < n
        · have hlt' : (k : Int) < (n : Int) := by omega
          go_wp2_with fail
          refine (C6.out _).mono ?_
          rintro r wa ⟨rfl, hba⟩
          have LA := hide (L.out.below hba)
          clear hba L
          go_wp2_with fail
          refine (C7.out _).mono ?_
          rintro r wb ⟨da, dc, rfl, hsd, hbb⟩
          have LB := hide (LA.out.below hbb)
          have SD := hide hsd
          clear hsd hbb LA
          have EE : Hid (((((k + 1 : Nat) : Int))) = 1 + (k : Int)) := hide (by omega)
          by_cases h6 : cutO (restAt RR k) 10 = true
          rotate_left
          · have h6' : cutO (restAt RR k) 10 = false := by simpa using h6
            have HN : Hid (PsNo s (k + 1)) := hide (.inr ⟨k0, f', z', n, k, HD.out, rfl, by omega, by rw [hRR]; exact AL.out, .inl ⟨hlt, by rw [hRR]; exact fun h => h6 h.1⟩⟩)
            have R2 := hide LB.out.c2
            rw [h6']
            go_wp2_with (first | (refine step_buildP0 rfl ?_) | (refine step_storeA wP rfl rfl rfl R2.out rfl (One.pf _ _ _ _ _ _) rfl ?_; intro w99 hg99 hb99))
            refine bodyPost_ret (results_wide3 rfl wP _ _ rfl hg99 rfl) rfl ⟨LB.out.bel.trans (hb99.below hl1), .inl ⟨(k + 1), HN.out, by rw [EE.out]; rfl⟩⟩
          rw [h6]
          have H6 := hide h6
          clear h6
          by_cases h7 : Oct.ubE (lineAt RR k) = 0
          rotate_left
          · have h7' : (Oct.ubE (lineAt RR k) != 0) = true := by simpa using h7
            have HN : Hid (PsNo s (k + 1)) := hide (.inr ⟨k0, f', z', n, k, HD.out, rfl, by omega, by rw [hRR]; exact AL.out, .inl ⟨hlt, by rw [hRR]; exact fun h => h7 h.2.1⟩⟩)
            have R2 := hide LB.out.c2
            clear h7
            go_wp2_with (first | (refine step_buildP0 rfl ?_) | (refine step_storeA wP rfl rfl rfl R2.out rfl (One.pf _ _ _ _ _ _) rfl ?_; intro w99 hg99 hb99))
            refine bodyPost_ret (results_wide3 rfl wP _ _ rfl hg99 rfl) rfl ⟨LB.out.bel.trans (hb99.below hl1), .inl ⟨(k + 1), HN.out, by rw [EE.out]; rfl⟩⟩
          rw [h7]
          have H7 := hide h7
          clear h7
          by_cases h8 : (Oct.ubB (lineAt RR k)).length = 32
          rotate_left
          · have h8' : (((Oct.ubB (lineAt RR k)).length : Int) != 32) = true := by simp; omega
            have HN : Hid (PsNo s (k + 1)) := hide (.inr ⟨k0, f', z', n, k, HD.out, rfl, by omega, by rw [hRR]; exact AL.out, .inl ⟨hlt, by rw [hRR]; exact fun h => h8 h.2.2⟩⟩)
            have R2 := hide LB.out.c2
            clear h8
            go_wp2_with (first | (refine step_buildP0 rfl ?_) | (refine step_storeA wP rfl rfl rfl R2.out rfl (One.pf _ _ _ _ _ _) rfl ?_; intro w99 hg99 hb99))
            refine bodyPost_ret (results_wide3 rfl wP _ _ rfl hg99 rfl) rfl ⟨LB.out.bel.trans (hb99.below hl1), .inl ⟨(k + 1), HN.out, by rw [EE.out]; rfl⟩⟩
          have HDB := hide (ub_isB (lineAt RR k))
          have HDL := hide h8
          have AL2 : Hid (∀ j, j < k + 1 → stepK RR j) := hide (fun j hj => by
            by_cases h : j < k
            · exact AL.out j h
            · obtain rfl : j = k := by omega
              exact ⟨H6.out, H7.out, HDL.out⟩)
          have LN : Hid (∀ (W W' : World) (v v' : Value), DL w W g2 gp k0 f' z' RR v k → W.grownBy W' v.ownBlock → DOwn W' w.heap.size v' (k + 1) (ysTo RR k ++ Oct.ubB (lineAt RR k)) → DL w (W'.setCell ⟨gp, 3, none⟩ v') g2 gp k0 f' z' RR v' (k + 1)) := hide (fun W W' v v' h hg ho => h.next hg ho hgp hg2p)
          rw [h8] at SD ⊢
          generalize Oct.ubB (lineAt RR k) = D at *
          have HDU := hide (show (u8s D).length = 32 by rw [u8s_length, HDL.out])
          have C8 := hide (digAt_any da 32 dc D 0 wb SD.out (by omega))
          rw [List.drop_zero, List.take_of_length_le (by rw [HDL.out]; exact Nat.le_refl _)] at C8
          clear h8
          go_wp2_with fail
          refine C8.out.mono ?_
          rintro r w7 ⟨rfl, hb7⟩
          have L7 := hide (LB.out.below hb7)
          clear hb7 LB SD C8
          go_wp2_with (refine step_alloc zD0 rfl ?_)
          intro w8' g13 hr8 hl8 hb8
          have G13 := hide hr8
          clear hr8
          go_wp2_with (refine step_storeA wD0 rfl rfl rfl G13.out HDU.out (One.u8 _) rfl ?_)
          intro w9' hg9 hbut9
          have L9 := hide (L7.out.below (hb8.trans (hbut9.below hl8)))
          have G139 := hide hg9
          clear hg9 hbut9 hb8 hl8 G13 L7
          obtain ⟨va, vc, rfl⟩ := L9.out.own.slice8
          have hc3 := (pf_at L9.out.cp).2.2.2
          go_wp2_with (first | (refine step_loadA wD0 rfl rfl G139.out HDU.out ?_) | (refine step_one8 rfl rfl HDL.out ?_))
          intro wx gx hgx hlx hbx
          have LX := hide (L9.out.below hbx)
          have HY := hide (ds_one8 hgx HDL.out HDB.out)
          clear hgx hbx L9 G139 hc3
          go_wp2_with (refine step_appendD rfl rfl rfl LX.out.own HY.out (by omega) LX.out.bel.size ?_)
          intro v' wy hob hgb
          have LY := hide (LN.out _ _ _ _ LX.out hgb hob)
          have hcr := LX.out.cp.grew hgb (LX.out.own.apart8 LX.out.cp (by decide))
          have hfr := hcr.free 3
          have hc4 := (pf_at hcr).2.2.2
          obtain ⟨va', vc', rfl⟩ := hob.slice8
          clear hob hgb hcr LX HY
          go_wp2
          go_roundw
          case rel => exact ⟨k + 1, _, by omega, rfl, by simp, AL2.out, LY.out⟩
          case measure => simp only [intOf]; omega
        · obtain rfl : k = n := by omega
          have hlt' : ¬ ((k : Int) < (k : Int)) := by omega
          have EE : Hid (((((k + 1 : Nat) : Int))) = 1 + (k : Int)) := hide (by omega)
          by_cases h0 : (restAt RR k).size = 0
          · have e0 : ((restAt RR k).toList == []) = true := by
              rw [ByteArray.toList_eq]
              have : (restAt RR k).data.toList.length = 0 := by simpa using h0
              rw [List.eq_nil_of_length_eq_zero this]; rfl
            have e0' : ((restAt RR k).toList != []) = false := by unfold bne; rw [e0]; rfl
            obtain ⟨va, vc, rfl⟩ := L.out.own.slice8
            have HO : Hid (PsOK s k0 f' z' k) := hide ⟨HD.out, by rw [hRR]; exact AL.out, by rw [hRR]; exact h0⟩
            clear h0
            go_wp2_with (first | (refine step_loadA wP rfl rfl L.out.cp rfl ?_) | (refine step_storeA wP rfl rfl rfl L.out.c2 rfl (One.pf _ _ _ _ _ _) rfl ?_; intro w99 hg99 hb99))
            refine bodyPost_ret (results_wide3 rfl wP _ _ rfl hg99 rfl) rfl ⟨L.out.bel.trans (hb99.below hl1), .inr ⟨k0, f', z', k, HO.out, _, rfl, ?_⟩⟩
            try rw [hRR]
            exact L.out.own.but8 hb99 (L.out.own.apart8 L.out.c2 (by decide))
          · have e0 : ((restAt RR k).toList == []) = false := by
              simp only [beq_eq_false_iff_ne, ne_eq]
              intro h
              rw [ByteArray.toList_eq] at h
              apply h0
              have : (restAt RR k).data.toList.length = 0 := by rw [h]; rfl
              simpa using this
            have e0' : ((restAt RR k).toList != []) = true := by unfold bne; rw [e0]; rfl
            have HN : Hid (PsNo s (k + 1)) := hide (.inr ⟨k0, f', z', k, k, HD.out, rfl, by omega, by rw [hRR]; exact AL.out, .inr ⟨rfl, by rw [hRR]; exact h0⟩⟩)
            have R2 := hide L.out.c2
            clear h0
            go_wp2_with (first | (refine step_buildP0 rfl ?_) | (refine step_storeA wP rfl rfl rfl R2.out rfl (One.pf _ _ _ _ _ _) rfl ?_; intro w99 hg99 hb99))
            refine bodyPost_ret (results_wide3 rfl wP _ _ rfl hg99 rfl) rfl ⟨L.out.bel.trans (hb99.below hl1), .inl ⟨(k + 1), HN.out, by rw [EE.out]; rfl⟩⟩

end Go.Proofs.YtojepbapdjkknaaDoor

/-
  What both Parses tell of any text, in one form; the walk of WireParses.
-/
namespace Go.Proofs.YtojepbapdjkknaaDoor
open Go.RowKit
set_option linter.unusedVariables false
set_option linter.unusedSimpArgs false

theorem least_bad (P : Nat → Prop) : ∀ n, ¬ (∀ i, i < n → P i) → ∃ i, i < n ∧ ¬ P i ∧ ∀ j, j < i → P j
  | 0, h => absurd (fun i hi => absurd hi (Nat.not_lt_zero i)) h
  | n + 1, h => by
    by_cases h1 : ∀ i, i < n → P i
    · refine ⟨n, by omega, fun hp => h (fun i hi => ?_), h1⟩
      by_cases e : i < n
      · exact h1 i e
      · obtain rfl : i = n := by omega
        exact hp
    · obtain ⟨i, h2, h3, h4⟩ := least_bad P n h1
      exact ⟨i, by omega, h3, h4⟩
theorem HdA.one {s : ByteArray} {k k' : Int} {f f' z z' n n' : Nat} (h : HdA s k f z n) (h' : HdA s k' f' z' n') : k = k' ∧ f = f' ∧ z = z' ∧ n = n' := by
  obtain ⟨_, h⟩ := h
  obtain ⟨_, h'⟩ := h'
  have e1 : k = k' := h.hk.symm.trans h'.hk
  have e2 : f = f' := Option.some.inj (h.hf.symm.trans h'.hf)
  have e3 : z = z' := Option.some.inj (h.hs.symm.trans h'.hs)
  subst e1 e2 e3
  exact ⟨rfl, rfl, rfl, Option.some.inj (h.hn.symm.trans h'.hn)⟩
theorem PsOK.no {s : ByteArray} {k : Int} {f z n a : Nat} (h : PsOK s k f z n) (h' : PsNo s a) : False := by
  rcases h' with ⟨_, h'⟩ | ⟨k', f', z', n', i, hd, _, hi, _, h'⟩
  · exact h' _ _ _ _ h.hd
  · obtain ⟨_, _, _, rfl⟩ := h.hd.one hd
    rcases h' with ⟨h1, h2⟩ | ⟨_, h2⟩
    · exact h2 (h.all i h1)
    · exact h2 h.none
theorem PsNo.one {s : ByteArray} {a b : Nat} (h : PsNo s a) (h' : PsNo s b) : a = b := by
  rcases h with ⟨rfl, h⟩ | ⟨k, f, z, n, i, hd, rfl, hi, hj, hx⟩
  · rcases h' with ⟨rfl, _⟩ | ⟨k', f', z', n', i', hd', _⟩
    · rfl
    · exact absurd hd' (h _ _ _ _)
  · rcases h' with ⟨_, h'⟩ | ⟨k', f', z', n', i', hd', rfl, hi', hj', hx'⟩
    · exact absurd hd (h' _ _ _ _)
    · obtain ⟨_, _, _, rfl⟩ := hd.one hd'
      have h1 : ¬ i < i' := fun h => by
        rcases hx with ⟨_, h2⟩ | ⟨h2, _⟩
        · exact h2 (hj' i h)
        · omega
      have h2 : ¬ i' < i := fun h => by
        rcases hx' with ⟨_, h2⟩ | ⟨h2, _⟩
        · exact h2 (hj i' h)
        · omega
      omega
/-- What is told of a text: kind, first, size, n digests ys, line, error. -/
def PrsB (s : ByteArray) (k f z : Int) (n : Nat) (ys : List Int) (a E : Int) : Prop :=
  (∃ b : Nat, PsNo s b ∧ a = (b : Int) ∧ k = 0 ∧ f = 0 ∧ z = 0 ∧ n = 0 ∧ ys = [] ∧ E = 80) ∨ (∃ f' z' : Nat, PsOK s k f' z' n ∧ f = (f' : Int) ∧ z = (z' : Int) ∧ ys = ysTo (cutB s 10) n ∧ a = 0 ∧ E = 0)
theorem prsB (s : ByteArray) : ∃ k f z n ys a E, PrsB s k f z n ys a E := by
  by_cases h : ∃ k f z n, HdA s k f z n
  · obtain ⟨k, f, z, n, hd⟩ := h
    by_cases ha : ∀ i, i < n → stepK (cutB s 10) i
    · by_cases h0 : (restAt (cutB s 10) n).size = 0
      · exact ⟨_, _, _, _, _, _, _, .inr ⟨f, z, ⟨hd, ha, h0⟩, rfl, rfl, rfl, rfl, rfl⟩⟩
      · exact ⟨_, _, _, _, _, _, _, .inl ⟨n + 1, .inr ⟨k, f, z, n, n, hd, rfl, Nat.le_refl _, ha, .inr ⟨rfl, h0⟩⟩, rfl, rfl, rfl, rfl, rfl, rfl, rfl⟩⟩
    · obtain ⟨i, h1, h2, h3⟩ := least_bad _ n ha
      exact ⟨_, _, _, _, _, _, _, .inl ⟨i + 1, .inr ⟨k, f, z, n, i, hd, rfl, by omega, h3, .inl ⟨h1, h2⟩⟩, rfl, rfl, rfl, rfl, rfl, rfl, rfl⟩⟩
  · exact ⟨_, _, _, _, _, _, _, .inl ⟨0, .inl ⟨rfl, fun k f z n hd => h ⟨k, f, z, n, hd⟩⟩, rfl, rfl, rfl, rfl, rfl, rfl, rfl⟩⟩
section
variable {s : ByteArray} {k f z : Int} {n : Nat} {ys : List Int} {a E : Int}
theorem PrsB.few (h : PrsB s k f z n ys a E) : n ≤ 49 := by
  rcases h with ⟨b, _, _, _, _, _, rfl, _⟩ | ⟨f', z', h, _⟩
  · omega
  · exact pcnt_le h.hd.2.hn
theorem PrsB.byte (h : PrsB s k f z n ys a E) : isB ys := by
  rcases h with ⟨b, _, _, _, _, _, _, rfl, _⟩ | ⟨f', z', h, _, _, rfl, _⟩
  · intro x hx; cases hx
  · exact ysTo_isB _ _
theorem parseB (h : PrsB s k f z n ys a E) (w : World) (hs : s.size ≤ 1048576) (hv : EV w) :
    Calls Tryd.prog 18 #[.string s] w fun e w' => Below w.heap.size w w' ∧ ∃ v, e = .returned (.tuple #[.agg (pfC k f z v).toArray, .int .i64 a, .int .i64 E]) ∧ DOwn w' w.heap.size v n ys := by
  refine (parse_any s w hs hv).mono ?_
  rintro e w' ⟨hb, ⟨b, hno, rfl⟩ | ⟨k', f', z', m, v, hok, rfl, ho⟩⟩
  · rcases h with ⟨b', h, rfl, rfl, rfl, rfl, rfl, rfl, rfl⟩ | ⟨f', z', h, _⟩
    · obtain rfl := h.one hno
      exact ⟨hb, _, rfl, DOwn.nil _ _⟩
    · exact (h.no hno).elim
  · rcases h with ⟨b', h, _⟩ | ⟨f2, z2, h, rfl, rfl, rfl, rfl, rfl⟩
    · exact (hok.no h).elim
    · obtain ⟨rfl, rfl, rfl, rfl⟩ := hok.hd.one h.hd
      exact ⟨hb, v, rfl, ho⟩
theorem parseRB (h : PrsB s k f z n ys a E) (w : World) (hs : s.size ≤ 1048576) :
    Calls Tryd.prog 19 #[.string s] w fun e w' => Below w.heap.size w w' ∧ ∃ v, e = .returned (.tuple #[.agg (pfC k f z v).toArray, .int .i64 a, .int .i64 E]) ∧ DOwn w' w.heap.size v n ys := by
  refine (parseR_any s w hs).mono ?_
  rintro e w' ⟨hb, ⟨b, hno, rfl⟩ | ⟨k', f', z', m, v, hok, rfl, ho⟩⟩
  · rcases h with ⟨b', h, rfl, rfl, rfl, rfl, rfl, rfl, rfl⟩ | ⟨f', z', h, _⟩
    · obtain rfl := h.one hno
      exact ⟨hb, _, rfl, DOwn.nil _ _⟩
    · exact (h.no hno).elim
  · rcases h with ⟨b', h, _⟩ | ⟨f2, z2, h, rfl, rfl, rfl, rfl, rfl⟩
    · exact (hok.no h).elim
    · obtain ⟨rfl, rfl, rfl, rfl⟩ := hok.hd.one h.hd
      exact ⟨hb, v, rfl, ho⟩
end

def dV : List Int := 7 :: zer 31
theorem dV_length : (u8s dV).length = 32 := by simp [dV, u8s, zer]
section
variable {dst : Option Tmp} {ty : TypeId} {pos : String} {aft : Array Edge} {gd : Option (Nat × Bool)} {ops : Array Oper} {rest : List Oper} {a : Act} {w : World} {Q : Exit → Act → World → Prop}
theorem step_buildV (hw : Region.wanted ⟨dst, .build 45 #[(0, .const (.int .u8 7))], ty, pos, aft, gd⟩ (yielded ops a.tmps) = true)
    (h : wpList Tryd.prog ops Q rest (a.put dst (.agg (u8s dV).toArray)) w) : wpList Tryd.prog ops Q (⟨dst, .build 45 #[(0, .const (.int .u8 7))], ty, pos, aft, gd⟩ :: rest) a w :=
  step_run hw _ w (by kernel_rfl) h
end
theorem down_lies {w : World} {B : Nat} {a : Option Addr} {n m c : Nat} {ys : List Int} (h : DOwn w B (.slice a n c) m ys) (h0 : 0 < n) : ∃ g, a = some ⟨g, 0, none⟩ ∧ B ≤ g ∧ g < w.heap.size ∧ ∃ cs, Blk w g 45 cs ∧ 32 * n ≤ cs.length := by
  have hl := h.len
  rcases h.2 with ⟨e, _⟩ | ⟨g, cap, cur, e, hB, hh, h3, h4, h5, h6⟩
  · injection e with _ e2 _
    omega
  · injection e with e1 e2 e3
    subst e1 e2
    have hb : Blk w g 45 cur.toList := by unfold Blk; simpa using hh
    exact ⟨g, rfl, hB, hb.lt, cur.toList, hb, by simp; omega⟩
set_option maxRecDepth 100000 in
set_option maxHeartbeats 4000000 in
theorem parses_walk (s : ByteArray) (w : World) (hs : s.size ≤ 1048576) (hv : EV w) :
    Calls Tryd.prog 4 #[.string s] w fun e w' => e = .returned (.bool true) ∧ Below w.heap.size w w' := by
  obtain ⟨k, f, z, n, ys, A, E, hD⟩ := prsB s
  have HD := hide hD
  have HV := hide hv
  have hn49 := hD.few
  have HYB := hide hD.byte
  clear hD hv
  go_enter Tryd.func4, Tryd.ntmps4
  go_wp2_with fail
  refine (parseB HD.out _ hs HV.out).mono ?_
  rintro e w3 ⟨hb3, u1, rfl, hu1⟩
  obtain ⟨a1, c1, rfl, hd1, hx1⟩ := hu1.ds HYB.out (by omega)
  have D1 := hide hd1
  have HL := hide (down_lies hu1)
  have hs3 := hb3.size
  have B3 := hide hb3
  clear hb3 hd1 hu1
  go_wp2_with (refine step_alloc zP rfl ?_)
  intro w4 gx hrA hlA hbA
  have RA := hide hrA
  clear hrA
  go_wp2_with (refine step_storeA wP rfl rfl rfl RA.out rfl (One.pf _ _ _ _ _ _) rfl ?_)
  intro w5 hgB hbB
  have Y5 := hide (hbA.trans (hbB.below hlA))
  have RX := hide hgB
  have B5 := hide (on_below B3.out Y5.out)
  have D5 := hide (D1.out.below Y5.out)
  have l5 := Y5.out.size
  have hgx := RX.out.lt
  have hV5 := Y5.out
  have lx := hlA
  clear hgB hbB hbA hlA RA B3 D1 Y5
  go_wp2_with fail
  refine (parseB HD.out _ hs (HV.out.below B5.out)).mono ?_
  rintro e w6 ⟨hb6, u2, rfl, hu2⟩
  obtain ⟨a2, c2', rfl, _, _⟩ := hu2.ds HYB.out (by omega)
  have O6 := hide hu2
  have Y6 := hide hb6
  clear hb6 hu2
  go_wp2_with (refine step_alloc zP rfl ?_)
  intro w7 gy hrA hlA hbA
  have RA := hide hrA
  clear hrA
  go_wp2_with (refine step_storeA wP rfl rfl rfl RA.out rfl (One.pf _ _ _ _ _ _) rfl ?_)
  intro w8 hgB hbB
  have RY := hide hgB
  have Y8 := hide (on_below Y6.out (hbA.trans (hbB.below hlA)))
  have O8 := hide (O6.out.below (hbA.trans (hbB.below hlA)))
  have ly := Nat.le_trans Y6.out.size hlA
  have B8 := hide (on_below B5.out Y8.out)
  have D8 := hide (D5.out.below Y8.out)
  have RX8 := hide (RX.out.on Y8.out)
  have l8 := Y8.out.size
  have hV8 := hV5.trans (Y8.out.mono hV5.size)
  clear hgB hbB hbA hlA RA O6 Y6 Y8 B5 D5 RX hV5
  go_wp2_with fail
  refine (parseRB HD.out _ hs).mono ?_
  rintro e w9 ⟨hb9, u3, rfl, hu3⟩
  obtain ⟨a3, c3, rfl, _, _⟩ := hu3.ds HYB.out (by omega)
  have O9 := hide hu3
  have Y9 := hide hb9
  clear hb9 hu3
  go_wp2_with (refine step_alloc zP rfl ?_)
  intro w10 gw hrA hlA hbA
  have RA := hide hrA
  clear hrA
  go_wp2_with (refine step_storeA wP rfl rfl rfl RA.out rfl (One.pf _ _ _ _ _ _) rfl ?_)
  intro w11 hgB hbB
  have RW := hide hgB
  have Y11 := hide (on_below Y9.out (hbA.trans (hbB.below hlA)))
  have O11 := hide (O9.out.below (hbA.trans (hbB.below hlA)))
  have lw := Nat.le_trans Y9.out.size hlA
  have BB := hide (on_below B8.out Y11.out)
  have DX := hide (D8.out.below Y11.out)
  have RXB := hide (RX8.out.on Y11.out)
  have RYB := hide (RY.out.on Y11.out)
  have OY := hide (O8.out.below Y11.out)
  have hV := hV8.trans (Y11.out.mono hV8.size)
  have l11 := Y11.out.size
  clear hgB hbB hbA hlA RA O9 Y9 Y11 B8 D8 RX8 RY O8 hV8
  obtain ⟨gv, hgv, hgb⟩ : ∃ gv, (0 < n → a1 = some ⟨gv, 0, none⟩ ∧ ∃ cs, Blk w11 gv 45 cs ∧ 32 * n ≤ cs.length) ∧ ((w.heap.size ≤ gv ∧ gv < w3.heap.size) ∨ gv = w11.heap.size) := by
    by_cases h0 : 0 < n
    · obtain ⟨g, e, h1, h2, cs, h3, h4⟩ := HL.out h0
      exact ⟨g, fun _ => ⟨e, cs, h3.on hV, h4⟩, .inl ⟨h1, h2⟩⟩
    · exact ⟨w11.heap.size, fun h => absurd h h0, .inr rfl⟩
  have HGV := hide hgv
  have nx : gx ≠ gv := by have := RXB.out.lt; omega
  have ny : gy ≠ gv := by have := RYB.out.lt; omega
  have nw : gw ≠ gv := by have := RW.out.lt; omega
  have hyv : (Value.slice a2 n c2').ownBlock ≠ some gv := fun e => by
    obtain ⟨cs, hb⟩ := OY.out.blk8 e
    have := hb.lt
    have := OY.out.lt gv e
    omega
  have hwv : (Value.slice a3 n c3).ownBlock ≠ some gv := fun e => by
    obtain ⟨cs, hb⟩ := O11.out.blk8 e
    have := hb.lt
    have := O11.out.lt gv e
    omega
  have hwg : w.heap.size ≤ gv := by have := BB.out.size; omega
  clear hgv hV HL
  obtain ⟨A3, C3, e3, DW, _⟩ := O11.out.ds HYB.out (by omega)
  obtain ⟨rfl, rfl⟩ : a3 = A3 ∧ c3 = C3 := by injection e3 with h1 h2 h3; exact ⟨h1, h3⟩
  have HDW := hide DW
  clear DW e3
  go_wp2_with (first | (refine step_loadA wP rfl rfl RXB.out rfl ?_) | (refine step_loadA wP rfl rfl RW.out rfl ?_) | fail)
  refine (samep k f z a1 a3 n c1 c3 ys _ DX.out HDW.out).mono ?_
  rintro r w12 ⟨rfl, hb12⟩
  have X12 := hide (RXB.out.on hb12)
  have Y12 := hide (RYB.out.on hb12)
  have W12 := hide (RW.out.on hb12)
  have OY12 := hide (OY.out.below hb12)
  have OW12 := hide (O11.out.below hb12)
  have B12 := hide (on_below BB.out hb12)
  clear RXB RYB RW OY O11 BB DX HDW
  go_wp2_with fail
  have HB12 := hide hb12
  clear hb12
  have HGW : Hid (0 < n → ∃ cs, Blk w12 gv 45 cs ∧ 32 * n ≤ cs.length) := hide (fun h => by
    obtain ⟨_, cs, h1, h2⟩ := HGV.out h
    exact ⟨cs, h1.on HB12.out, h2⟩)
  go_loopw [12] (fun i W => ∃ j : Nat, j ≤ n ∧ i = .int .i64 (j : Int) ∧ But gv w12 W ∧ (0 < n → ∃ cs, Blk W gv 45 cs ∧ 32 * n ≤ cs.length)) (fun i _ => n - (intOf i).toNat)
  case atStart => exact ⟨0, by omega, rfl, But.refl _ _, HGW.out⟩
  case round =>
    obtain ⟨j, hjn, rfl, hbj, hbl⟩ := hrel
    have BJ := hide hbj
    have HBL := hide hbl
    have hcX := (pf_at (X12.out.but hbj nx)).2.2.2
    clear hbj hbl HGW
    by_cases hlt : j < n
    · have hlt' : (j : Int) < (n : Int) := by omega
      obtain ⟨cs, hcs, hcl⟩ := HBL.out (by omega)
      have ea := (HGV.out (by omega)).1
      subst ea
      have GV := hide hcs
      have hat := d_at gv 0 n c1 j (j : Int) rfl hlt
      clear hcs
      go_wp2_with (first | (refine step_buildV rfl ?_) | (refine step_store (n := 32) wD rfl rfl rfl GV.out dV_length (One.u8 _) (by omega) ?_))
      intro wn hgn hbn
      have hln : 32 * n ≤ (spl cs (u8s dV) (32 * j)).length := by rw [spl_length _ _ _ (by rw [dV_length]; omega)]; exact hcl
      have BN := hide (BJ.out.trans hbn)
      have GN := hide hgn
      clear hgn hbn
      go_wp2
      go_roundw
      case rel => exact ⟨j + 1, by omega, by simp, BN.out, fun _ => ⟨_, GN.out, hln⟩⟩
      case measure => simp only [intOf]; omega
    · have hlt' : ¬ ((j : Int) < (n : Int)) := by omega
      have YE := hide (Y12.out.but BJ.out ny)
      have WE := hide (W12.out.but BJ.out nw)
      obtain ⟨A2, C2, e2, DY, _⟩ := (OY12.out.but8 BJ.out hyv).ds HYB.out (by omega)
      obtain ⟨rfl, rfl⟩ : a2 = A2 ∧ c2' = C2 := by injection e2 with h1 h2 h3; exact ⟨h1, h3⟩
      obtain ⟨A3, C3, e3, DW, _⟩ := (OW12.out.but8 BJ.out hwv).ds HYB.out (by omega)
      obtain ⟨rfl, rfl⟩ : a3 = A3 ∧ c3 = C3 := by injection e3 with h1 h2 h3; exact ⟨h1, h3⟩
      have HDY := hide DY
      have HDW := hide DW
      have BE := hide (B12.out.trans (BJ.out.below hwg))
      clear DY DW e2 e3
      go_wp2_with (first | (refine step_loadA wP rfl rfl YE.out rfl ?_) | (refine step_loadA wP rfl rfl WE.out rfl ?_) | fail)
      refine (samep k f z a2 a3 n c2' c3 ys _ HDY.out HDW.out).mono ?_
      rintro r w14 ⟨rfl, hb14⟩
      go_wp2_with fail
      refine (names8 _).mono ?_
      rintro r w15 ⟨rfl, rfl⟩
      go_wp2
      go_ret
      exact ⟨rfl, on_below BE.out hb14⟩

end Go.Proofs.YtojepbapdjkknaaDoor

/-
  A proof's bytes and text, read back: plain facts. No program here.
-/
namespace Go.Proofs.YtojepbapdjkknaaDoor
open Go.RowKit
set_option linter.unusedVariables false
set_option linter.unusedSimpArgs false

theorem be_beVal : ∀ (n : Nat) (l : List Int), l.length = n → isB l → be (beVal l) n = l := by
  intro n
  induction n with
  | zero => intro l hl _; rw [List.eq_nil_of_length_eq_zero hl]; rfl
  | succ n ih =>
    intro l hl hb
    have h0 : l ≠ [] := by intro e; rw [e] at hl; cases hl
    obtain ⟨m, b, rfl⟩ : ∃ m b, l = m ++ [b] := ⟨l.dropLast, l.getLast h0, (List.dropLast_concat_getLast h0).symm⟩
    have hm : m.length = n := by simpa using hl
    have hbb := hb b (by simp)
    have e := ih m hm (fun x hx => hb x (by simp [hx]))
    have ev : beVal (m ++ [b]) = beVal m * 256 + b := by unfold beVal; rw [List.foldl_append]; rfl
    rw [be_succW, ev]
    have e1 : (beVal m * 256 + b) / 256 = beVal m := by omega
    have e2 : (beVal m * 256 + b) % 256 = b := by omega
    rw [e1, e2, e]
theorem be_rd {xs : List Int} (hb : isB xs) (p : Nat) (hp : p + 8 ≤ xs.length) : be (rdV xs (p : Int) 8) 8 = (xs.drop p).take 8 := by
  unfold rdV
  rw [if_pos (by omega), Int.toNat_natCast]
  exact be_beVal 8 _ (by rw [List.length_take, List.length_drop]; omega) ((hb.drop _).take _)
theorem enc_dec {xs : List Int} {n : Nat} (h : DkOK xs n) (hb : isB xs) : encB (xs.getD 0 0) (rdV xs 1 8) (rdV xs 9 8) n (xs.drop 18) = xs := by
  have hl := h.len
  have h1 := be_rd hb 1 (by omega)
  have h2 := be_rd hb 9 (by omega)
  rw [encB_eq]
  rw [show ((1 : Nat) : Int) = 1 from rfl] at h1
  rw [show ((9 : Nat) : Int) = 9 from rfl] at h2
  rw [h1, h2]
  have h3 := h.t
  rw [← h3]
  have c0 : xs = xs.getD 0 0 :: xs.drop 1 := by
    cases xs with
    | nil => simp at hl; omega
    | cons a t => rfl
  have c17 : xs.drop 17 = xs.getD 17 0 :: xs.drop 18 := by
    have e : xs.getD 17 0 = xs[17]'(by omega) := by rw [List.getD_eq_getElem?_getD, List.getElem?_eq_getElem (by omega)]; rfl
    rw [e]
    exact List.drop_eq_getElem_cons (by omega)
  have c9 : (xs.drop 9).take 8 ++ xs.drop 17 = xs.drop 9 := by
    have := List.take_append_drop 8 (xs.drop 9)
    rwa [List.drop_drop] at this
  have c1 : (xs.drop 1).take 8 ++ xs.drop 9 = xs.drop 1 := by
    have := List.take_append_drop 8 (xs.drop 1)
    rwa [List.drop_drop] at this
  rw [← c17, c9, c1]
  exact c0.symm

theorem idx_spec : ∀ (l : List UInt8) (c : UInt8) (i : Nat), Lib.index l [c] = (i : Int) → ∃ A B, l = A ++ c :: B ∧ A.length = i
  | [], c, i, h => by
    have e : Lib.index [] [c] = -1 := rfl
    rw [e] at h
    omega
  | b :: t, c, i, h => by
    unfold Lib.index at h
    split at h
    · rename_i hp
      have hi : i = 0 := by omega
      have hbc : c = b := by simpa [List.isPrefixOf] using hp
      exact ⟨[], t, by rw [hbc]; rfl, hi.symm⟩
    · split at h
      · omega
      · obtain ⟨j, hj⟩ : ∃ j : Nat, Lib.index t [c] = (j : Int) := by
          have := Lib.index_ge t [c]
          exact ⟨(Lib.index t [c]).toNat, by rename_i hne; simp at hne; omega⟩
        obtain ⟨A, B, e, hl⟩ := idx_spec t c j hj
        exact ⟨b :: A, B, by rw [e]; rfl, by simp; omega⟩
theorem cut_join {s : ByteArray} {c : UInt8} (h : cutO s c = true) : strL s = strL (cutA s c) ++ c :: strL (cutB s c) := by
  rcases Lib.indexB_cases s ⟨#[c]⟩ with h1 | ⟨i, h1, _⟩
  · have : cutO s c = false := (Lib.cutB_miss s ⟨#[c]⟩ h1).2.2
    rw [h] at this
    cases this
  · have hi : Lib.index s.data.toList [c] = (i : Int) := h1
    obtain ⟨A, B, e, hl⟩ := idx_spec _ _ _ hi
    have ec : Lib.cut s.data.toList [c] = (A, B, true) := by
      unfold Lib.cut
      rw [hi, if_pos (by omega), e]
      simp only [Int.toNat_natCast, List.length_cons, List.length_nil]
      rw [← hl, List.take_left, show A.length + (0 + 1) = A.length + 1 from rfl, ← List.drop_drop, List.drop_left]
      rfl
    unfold cutA cutB strL
    rw [ec]
    exact e
theorem cut_app (A B : List UInt8) (c : UInt8) (hA : ∀ x ∈ A, x ≠ c) : cutA (bA (A ++ c :: B)) c = bA A ∧ cutB (bA (A ++ c :: B)) c = bA B ∧ cutO (bA (A ++ c :: B)) c = true := by
  have hi : Lib.index (A ++ c :: B) [c] = (A.length : Int) := Lib.index_first (by simp) (by rw [occ_one]; simp) (fun j hj => by
    rw [occ_one, List.getElem?_append_left hj, List.getElem?_eq_getElem hj]
    simpa using hA _ (List.getElem_mem hj))
  have ec : Lib.cut (A ++ c :: B) [c] = (A, B, true) := by
    unfold Lib.cut
    rw [hi, if_pos (by omega)]
    simp only [Int.toNat_natCast, List.length_cons, List.length_nil]
    rw [List.take_left, show A.length + (0 + 1) = A.length + 1 from rfl, ← List.drop_drop, List.drop_left]
    rfl
  have eb : (bA (A ++ c :: B)).data.toList = A ++ c :: B := rfl
  unfold cutA cutB cutO
  rw [eb, ec]
  exact ⟨rfl, rfl, rfl⟩
theorem dec_letters (n : Nat) : ∀ x ∈ Lib.decDigits n, x ≠ 32 ∧ x ≠ 10 := by
  intro x hx
  obtain ⟨i, hi, rfl⟩ := List.getElem_of_mem hx
  obtain ⟨d, hd⟩ := Lib.digit_of_decFrom _ _ _ (dec_of n n (Nat.le_refl _)) i _ (List.getElem?_eq_getElem hi)
  unfold Lib.digitVal at hd
  split at hd
  · rename_i h
    constructor
    · intro e; rw [e] at h; exact absurd h (by decide)
    · intro e; rw [e] at h; exact absurd h (by decide)
  · cases hd
theorem b64_letters (d : List Int) (h : isB d) : ∀ x ∈ strL (Oct.str (Oct.b64B d)), x ≠ 10 := by
  intro x hx e
  subst e
  obtain ⟨D, p, h1, _, _, h4, _⟩ := Oct.b64_forth d h
  rw [show strL (Oct.str (Oct.b64B d)) = Oct.tx (Oct.b64B d) from Oct.str_data _, h1] at hx
  rcases List.mem_append.1 hx with hx | hx
  · have := h4 _ hx
    exact absurd this (by decide +kernel)
  · have := (List.mem_replicate.1 hx).2
    exact absurd this (by decide)

/-- The head's line. -/
def headL (k : Int) (f s : Nat) : List UInt8 := wordU k ++ 32 :: (Lib.decDigits f ++ 32 :: Lib.decDigits s)
theorem headU_eq (k : Int) (f s : Nat) : headU k f s = headL k f s ++ [10] := by simp [headU, headL]
theorem wordU_letters (k : Int) : ∀ x ∈ wordU k, x ≠ 32 ∧ x ≠ 10 := by
  unfold wordU
  split <;> decide
theorem headL_hd {k : Int} {f s n : Nat} (hc : pcnt k (f : Int) (s : Int) = some n) : Hd (bA (headL k f s)) k f s n := by
  obtain ⟨hk, h0, h1, h2⟩ := pcnt_bd hc
  obtain ⟨a1, a2, _⟩ := cut_app (wordU k) (Lib.decDigits f ++ 32 :: Lib.decDigits s) 32 (fun x hx => (wordU_letters k x hx).1)
  obtain ⟨b1, b2, _⟩ := cut_app (Lib.decDigits f) (Lib.decDigits s) 32 (fun x hx => (dec_letters f x hx).1)
  refine ⟨?_, ?_, ?_, hc⟩
  · show kd (cutA (bA (headL k f s)) 32) = k
    unfold headL
    rw [a1]
    unfold kd
    rw [ByteArray.toList_eq]
    show (if wordU k = incW then (1 : Int) else if wordU k = conW then 2 else 0) = k
    rcases hk with rfl | rfl <;> decide
  · show nmO (strL (cutA (cutB (bA (headL k f s)) 32) 32)) = some f
    unfold headL
    rw [a2, b1]
    exact nmO_of (by omega) rfl
  · show nmO (strL (cutB (cutB (bA (headL k f s)) 32) 32)) = some s
    unfold headL
    rw [a2, b2]
    exact nmO_of (by omega) rfl
theorem bodyU_drop {ys : List Int} {n : Nat} (hy : ys.length = 32 * n) (i : Nat) (hi : i < n) : (bodyU ys n).drop (45 * i) = strL (Oct.str (Oct.b64B (dat ys i))) ++ 10 :: (bodyU ys n).drop (45 * (i + 1)) := by
  have key : ∀ m, i < m → m ≤ n → (bodyU ys m).drop (45 * i) = strL (Oct.str (Oct.b64B (dat ys i))) ++ 10 :: (bodyU ys m).drop (45 * (i + 1)) := by
    intro m
    induction m with
    | zero => intro h; omega
    | succ m ih =>
      intro h hm
      have hl := bodyU_length hy m (by omega)
      rw [bodyU_succ]
      by_cases e : i = m
      · subst e
        have hll := lineU_length (dat_length hy (by omega : i < n))
        have d1 : (bodyU ys i ++ lineU (dat ys i)).drop (45 * i) = lineU (dat ys i) := List.drop_left' hl
        have d2 : (bodyU ys i ++ lineU (dat ys i)).drop (45 * (i + 1)) = [] := List.drop_eq_nil_of_le (by rw [List.length_append]; omega)
        rw [d1, d2]
        rfl
      · rw [List.drop_append_of_le_length (by omega), ih (by omega) (by omega), List.drop_append_of_le_length (by omega)]
        simp
  exact key n hi (Nat.le_refl _)
/-- A proof's text is read as that proof. -/
theorem prs_text {k : Int} {f s n : Nat} {ys : List Int} (hc : pcnt k (f : Int) (s : Int) = some n) (hy : ys.length = 32 * n) (hb : isB ys) : PrsB (bA (textU k f s n ys)) k (f : Int) (s : Int) n ys 0 0 := by
  have et : textU k f s n ys = headL k f s ++ 10 :: bodyU ys n := by unfold textU; rw [headU_eq]; simp
  have hh : ∀ x ∈ headL k f s, x ≠ 10 := by
    intro x hx
    unfold headL at hx
    rcases List.mem_append.1 hx with hx | hx
    · exact (wordU_letters k x hx).2
    rcases List.mem_cons.1 hx with rfl | hx
    · decide
    rcases List.mem_append.1 hx with hx | hx
    · exact (dec_letters f x hx).2
    rcases List.mem_cons.1 hx with rfl | hx
    · decide
    · exact (dec_letters s x hx).2
  obtain ⟨a1, a2, a3⟩ := cut_app (headL k f s) (bodyU ys n) 10 hh
  rw [et]
  have hr : ∀ i, i ≤ n → restAt (bA (bodyU ys n)) i = bA ((bodyU ys n).drop (45 * i)) := by
    intro i
    induction i with
    | zero => intro _; rfl
    | succ i ih =>
      intro hi
      have c := cut_app (strL (Oct.str (Oct.b64B (dat ys i)))) ((bodyU ys n).drop (45 * (i + 1))) 10 (b64_letters _ (dat_isB hb i))
      simp only [restAt]
      rw [ih (by omega), bodyU_drop hy i (by omega), c.2.1]
  have hl : ∀ i, i < n → lineAt (bA (bodyU ys n)) i = Oct.str (Oct.b64B (dat ys i)) ∧ cutO (restAt (bA (bodyU ys n)) i) 10 = true := by
    intro i hi
    have c := cut_app (strL (Oct.str (Oct.b64B (dat ys i)))) ((bodyU ys n).drop (45 * (i + 1))) 10 (b64_letters _ (dat_isB hb i))
    unfold lineAt
    rw [hr i (by omega), bodyU_drop hy i hi, c.1, c.2.2, bA_strL]
    exact ⟨rfl, rfl⟩
  have hst : ∀ i, i < n → stepK (bA (bodyU ys n)) i := by
    intro i hi
    obtain ⟨e1, e2⟩ := hl i hi
    obtain ⟨u1, u2⟩ := Oct.ub64_forth (dat ys i) (dat_isB hb i)
    exact ⟨e2, by rw [e1]; exact u1, by rw [e1, u2]; exact dat_length hy hi⟩
  have hyt : ∀ i, i ≤ n → ysTo (bA (bodyU ys n)) i = ys.take (32 * i) := by
    intro i
    induction i with
    | zero => intro _; rfl
    | succ i ih =>
      intro hi
      simp only [ysTo]
      rw [ih (by omega), (hl i (by omega)).1, (Oct.ub64_forth (dat ys i) (dat_isB hb i)).2, take_more]
      rfl
  refine .inr ⟨f, s, ⟨⟨a3, by rw [a1]; exact headL_hd hc⟩, by rw [a2]; exact hst, ?_⟩, rfl, rfl, ?_, rfl, rfl⟩
  · rw [a2, hr n (Nat.le_refl _), List.drop_eq_nil_of_le (by rw [bodyU_length hy n (Nat.le_refl _)]; exact Nat.le_refl _)]
    rfl
  · rw [a2, hyt n (Nat.le_refl _), List.take_of_length_le (by omega)]
/-- What is read as a proof is that proof's text. -/
theorem text_prs {t : ByteArray} {k : Int} {f s n : Nat} (h : PsOK t k f s n) : bA (textU k f s n (ysTo (cutB t 10) n)) = t := by
  apply eq_of_strL
  rw [strL_bA]
  obtain ⟨h1, hd⟩ := h.hd
  obtain ⟨i1, i2⟩ := hd_is hd
  have j0 := cut_join h1
  have j1 := cut_join i1
  have j2 := cut_join i2
  obtain ⟨hk, _⟩ := pcnt_bd hd.hn
  have ef := (nmO_some hd.hf).2
  have es := (nmO_some hd.hs).2
  have ek : wordU k = strL (hdK (cutA t 10)) := by
    have e := hd.hk
    unfold kd at e
    rw [ByteArray.toList_eq] at e
    show wordU k = (hdK (cutA t 10)).data.toList
    split at e
    · rename_i hw; rw [hw, ← e]; rfl
    · split at e
      · rename_i hw; rw [hw, ← e]; rfl
      · omega
  have hyl := ysTo_length (cutB t 10) n h.all
  have hdat : ∀ j, j < n → dat (ysTo (cutB t 10) n) j = Oct.ubB (lineAt (cutB t 10) j) := by
    have key : ∀ m, m ≤ n → ∀ j, j < m → dat (ysTo (cutB t 10) m) j = Oct.ubB (lineAt (cutB t 10) j) := by
      intro m
      induction m with
      | zero => intro _ j hj; omega
      | succ m ih =>
        intro hm j hj
        have hlm := ysTo_length (cutB t 10) m (fun i hi => h.all i (by omega))
        simp only [ysTo]
        unfold dat
        by_cases e : j = m
        · subst e
          rw [← hlm, List.drop_left]
          exact List.take_of_length_le (by have := (h.all j (by omega)).2.2; omega)
        · rw [List.drop_append_of_le_length (by omega), List.take_append_of_le_length (by rw [List.length_drop]; omega)]
          exact ih (by omega) j (by omega)
    exact key n (Nat.le_refl _)
  have hbody : ∀ i, i ≤ n → strL (cutB t 10) = bodyU (ysTo (cutB t 10) n) i ++ strL (restAt (cutB t 10) i) := by
    intro i
    induction i with
    | zero => intro _; rfl
    | succ i ih =>
      intro hi
      have hs := h.all i (by omega)
      have hj := cut_join hs.1
      rw [ih (by omega), bodyU_succ, hdat i (by omega)]
      unfold lineU
      rw [Oct.ub64_back _ hs.2.1, hj]
      simp [restAt, lineAt]
  have hn : strL (restAt (cutB t 10) n) = [] := by
    have : (strL (restAt (cutB t 10) n)).length = 0 := by rw [strL_length]; exact h.none
    exact List.eq_nil_of_length_eq_zero this
  have hb := hbody n (Nat.le_refl _)
  rw [hn, List.append_nil] at hb
  have hL : headL k f s = strL (cutA t 10) := by
    unfold headL
    rw [ek, ef, es]
    unfold hdK hdF hdS
    rw [← j2, ← j1]
  unfold textU
  rw [headU_eq, hL, j0, ← hb]
  simp
end Go.Proofs.YtojepbapdjkknaaDoor
