/-
  Texts one behind the other: Bwk Bxq Bxr Bxs Bxt BtrLaw.
-/
import Derived.Test.YtpocadbhajacaaaGreatDoorPkTB
import Derived.Test.YtpocadbhajacaaaGreatDoorBwc
import Derived.Test.YtpocadbhajacaaaGreatDoorFr
import Derived.Test.YtpocadbhajacaaaGreatDoorKmj
import Derived.Test.YtpocadbhajacaaaGreatDoorSgl
import Derived.Deep.Matrix

/-
  Read: a leaf's bytes.
-/
namespace Go.Proofs.YtpocadbhajacaaaGreatDoor
open Go.RowKit Go.Shelf
set_option linter.unusedVariables false
set_option linter.unusedSimpArgs false
set_option maxRecDepth 100000

/-- The leaf that is asked for, if it is there. -/
def rdK (rs : List Rw) (h i : Int) : Nat := i.toNat % 2 ^ h.toNat
def rdL (rs : List Rw) (h i : Int) : List (List Int) := wl (2 ^ h.toNat) (fl (play rs) (bnP h i))
/-- What Read tells. -/
def rdEb (rs : List Rw) (h i : Int) : Int := if bnE h i = 0 then (if rdK rs h i < (rdL rs h i).length then 0 else 121) else 2
def rdBb (rs : List Rw) (h i : Int) : List Int := if rdEb rs h i = 0 then (rdL rs h i).getD (rdK rs h i) [] else []
/-- What stands while a leaf is looked for. -/
structure ZR (w W : World) (b3 b4 b5 b6 b7 d H I : Nat) : Prop where
  c3 : Blk W b3 26 [.pointer (some ⟨d, 0, none⟩)]
  c4 : Blk W b4 3 [.int .i64 (H : Int)]
  c5 : Blk W b5 3 [.int .i64 (I : Int)]
  c6 : Blk W b6 31 [.slice none 0 0]
  c7 : Blk W b7 36 [.int .i64 0]
  le : w.heap.size ≤ b6 ∧ w.heap.size ≤ b7
  bel : Below w.heap.size w W
theorem ZR.ck {w W W' : World} {b3 b4 b5 b6 b7 d H I : Nat} (h : ZR w W b3 b4 b5 b6 b7 d H I) (hk : CK W W') (hb : Below w.heap.size w W') : ZR w W' b3 b4 b5 b6 b7 d H I := ⟨h.c3.ck hk, h.c4.ck hk, h.c5.ck hk, h.c6.ck hk, h.c7.ck hk, h.le, hb⟩
theorem ZR.on {w W W' : World} {b3 b4 b5 b6 b7 d H I : Nat} (h : ZR w W b3 b4 b5 b6 b7 d H I) (hb : Below W.heap.size W W') : ZR w W' b3 b4 b5 b6 b7 d H I := h.ck (CK.below hb) (on_below h.bel hb)
/-- What a found leaf leaves. -/
structure ZF (w W : World) (b6 b7 : Nat) (v : Value) (e : Int) (x : List Int) : Prop where
  c6 : Blk W b6 31 [v]
  c7 : Blk W b7 36 [.int .i64 e]
  own : Own W w.heap.size v x
  bel : Below w.heap.size w W
theorem ZF.ck {w W W' : World} {b6 b7 : Nat} {v : Value} {e : Int} {x : List Int} (h : ZF w W b6 b7 v e x) (hk : CK W W') (hb : Below w.heap.size w W') : ZF w W' b6 b7 v e x := ⟨h.c6.ck hk, h.c7.ck hk, h.own.ck hk, hb⟩
theorem ZR.new (w : World) (d : Nat) (h i : Int) : ∃ W, W = (((((w.alloc (.cells #[.pointer (some ⟨d, 0, none⟩)] 26)).alloc (.cells #[.int .i64 h] 3)).alloc (.cells #[.int .i64 i] 3)).alloc (.cells #[.slice none 0 0] 31)).alloc (.cells #[.int .i64 0] 36)) ∧
    Blk W w.heap.size 26 [.pointer (some ⟨d, 0, none⟩)] ∧ Blk W (w.heap.size + 1) 3 [.int .i64 h] ∧ Blk W (w.heap.size + 1 + 1) 3 [.int .i64 i] ∧ Blk W (w.heap.size + 1 + 1 + 1) 31 [.slice none 0 0] ∧ Blk W (w.heap.size + 1 + 1 + 1 + 1) 36 [.int .i64 0] ∧ Below w.heap.size w W := by
  refine ⟨_, rfl, ?_⟩
  have b1 : Below w.heap.size w (w.alloc (.cells #[.pointer (some ⟨d, 0, none⟩)] 26)) := (Below.refl _ _).alloc (Nat.le_refl _) _
  have B1 : Blk (w.alloc (.cells #[.pointer (some ⟨d, 0, none⟩)] 26)) w.heap.size 26 [.pointer (some ⟨d, 0, none⟩)] := Blk.made _ _ _
  have z1 : (w.alloc (.cells #[.pointer (some ⟨d, 0, none⟩)] 26)).heap.size = w.heap.size + 1 := World.size_alloc _ _
  generalize w.alloc (.cells #[.pointer (some ⟨d, 0, none⟩)] 26) = W1 at *
  have b2 : Below W1.heap.size W1 (W1.alloc (.cells #[.int .i64 h] 3)) := (Below.refl _ _).alloc (Nat.le_refl _) _
  have B2 : Blk (W1.alloc (.cells #[.int .i64 h] 3)) W1.heap.size 3 [.int .i64 h] := Blk.made _ _ _
  have z2 : (W1.alloc (.cells #[.int .i64 h] 3)).heap.size = W1.heap.size + 1 := World.size_alloc _ _
  generalize W1.alloc (.cells #[.int .i64 h] 3) = W2 at *
  have b3 : Below W2.heap.size W2 (W2.alloc (.cells #[.int .i64 i] 3)) := (Below.refl _ _).alloc (Nat.le_refl _) _
  have B3 : Blk (W2.alloc (.cells #[.int .i64 i] 3)) W2.heap.size 3 [.int .i64 i] := Blk.made _ _ _
  have z3 : (W2.alloc (.cells #[.int .i64 i] 3)).heap.size = W2.heap.size + 1 := World.size_alloc _ _
  generalize W2.alloc (.cells #[.int .i64 i] 3) = W3 at *
  have b4 : Below W3.heap.size W3 (W3.alloc (.cells #[.slice none 0 0] 31)) := (Below.refl _ _).alloc (Nat.le_refl _) _
  have B4 : Blk (W3.alloc (.cells #[.slice none 0 0] 31)) W3.heap.size 31 [.slice none 0 0] := Blk.made _ _ _
  have z4 : (W3.alloc (.cells #[.slice none 0 0] 31)).heap.size = W3.heap.size + 1 := World.size_alloc _ _
  generalize W3.alloc (.cells #[.slice none 0 0] 31) = W4 at *
  have b5 : Below W4.heap.size W4 (W4.alloc (.cells #[.int .i64 0] 36)) := (Below.refl _ _).alloc (Nat.le_refl _) _
  have B5 : Blk (W4.alloc (.cells #[.int .i64 0] 36)) W4.heap.size 36 [.int .i64 0] := Blk.made _ _ _
  rw [z1] at B2 z2
  rw [z2] at B3 z3
  rw [z3] at B4 z4
  rw [z4] at B5
  exact ⟨(((B1.on b2).on b3).on b4).on b5, ((B2.on b3).on b4).on b5, (B3.on b4).on b5, B4.on b5, B5, on_below (on_below (on_below (on_below b1 b2) b3) b4) b5⟩
theorem own_down {w : World} {B B' : Nat} {v : Value} {xs : List Int} (h : Own w B v xs) (hB : B' ≤ B) : Own w B' v xs := by
  obtain ⟨h1, h2⟩ := h
  refine ⟨h1, ?_⟩
  rcases h2 with h2 | ⟨g, cap, cur, e, hg, r⟩
  · exact .inl h2
  · exact .inr ⟨g, cap, cur, e, Nat.le_trans hB hg, r⟩
section
variable (d s : Nat) (rs : List Rw) (D : Dm) (w : World) (hd : DkAt w d s rs D)
include hd
set_option maxHeartbeats 4000000 in
theorem readB_ok (H I : Nat) (hh : hB H) (hI : I < 1048576) (ht : PT w) (hwt : wt rs ≤ 1099511000000) :
    Calls Tryz.prog 14 #[.pointer (some ⟨d, 0, none⟩), .int .i64 (H : Int), .int .i64 (I : Int)] w fun r w' => ∃ v, r = .returned (.tuple #[v, .int .i64 (rdEb rs H I)]) ∧ Own w' w.heap.size v (rdBb rs H I) ∧ Below w.heap.size w w' := by
  have he := bnE_nat hh hI
  have hrk : rdK rs (H : Int) (I : Int) = I % 2 ^ H := by unfold rdK; simp only [Int.toNat_natCast]
  have hrl : rdL rs (H : Int) (I : Int) = wl (2 ^ H) (fl (play rs) (lfN H (I / 2 ^ H))) := by unfold rdL; rw [bnP_nat hh hI]; simp only [Int.toNat_natCast]
  have hre : rdEb rs (H : Int) (I : Int) = if I % 2 ^ H < (wl (2 ^ H) (fl (play rs) (lfN H (I / 2 ^ H)))).length then 0 else 121 := by unfold rdEb; rw [if_pos he, hrk, hrl]
  have hrb : rdBb rs (H : Int) (I : Int) = if I % 2 ^ H < (wl (2 ^ H) (fl (play rs) (lfN H (I / 2 ^ H)))).length then (wl (2 ^ H) (fl (play rs) (lfN H (I / 2 ^ H)))).getD (I % 2 ^ H) [] else [] := by
    unfold rdBb
    rw [hre]
    split <;> simp_all
  rw [hre, hrb]
  have HNM : Hid (∀ W : World, PT W → Calls Tryz.prog 32 #[.int .i64 (H : Int), .int .i64 (I : Int)] W fun r w' => r = .returned (.tuple #[.string (lfN H (I / 2 ^ H)), .int .i64 0]) ∧ Below W.heap.size W w') := hide (fun W h2 => by
    have := bname_any (H : Int) (I : Int) W h2
    rw [bnP_nat hh hI, he] at this
    exact this)
  clear hre hrb hrk hrl he
  have HMD : Hid (∀ W : World, DkAt W d s rs D → Calls Tryz.prog 31 #[.pointer (some ⟨d, 0, none⟩)] W fun r w' => r = .returned (.bool true) ∧ w' = W) := hide (fun W hW => madeB_any d s rs D W hW)
  have HSQ0 : Hid (∀ (nm : ByteArray) (V : World) (gd gh gn B : Nat), WAt V d s rs D gd gh gn H nm B → SeqM Fence.wide 3 Tryz.prog 77 #[.pointer (some ⟨gd, 0, none⟩), .pointer (some ⟨gn, 0, none⟩), .pointer (some ⟨gh, 0, none⟩)] encW (RW nm (wl (2 ^ H) (fl (play rs) nm))) (fun _ => KB B (FD d D)) (fun ys => ys = wls nm (wl (2 ^ H) (fl (play rs) nm)) (wl (2 ^ H) (fl (play rs) nm)).length) (fun ys => ∃ k, k ≤ (wl (2 ^ H) (fl (play rs) nm)).length ∧ ys = wls nm (wl (2 ^ H) (fl (play rs) nm)) k) V) := hide (fun nm V gd gh gn B hA => (whole_seq d s rs D gd gh gn H nm B V hA hh hwt).toM)
  generalize lfN H (I / 2 ^ H) = nm at *
  have HSQ1 := hide (HSQ0.out nm)
  clear HSQ0
  obtain ⟨P, HP⟩ : ∃ P, Hid (2 ^ H = P) := ⟨_, hide rfl⟩
  have HWP := hide (wrap_powB hh HP.out)
  have HWQ : Hid (IntKind.i64.wrap (2 ^ H) = (P : Int)) := hide (by
    have e : ((2 : Int) ^ H) = (P : Int) := by rw [← HP.out]; simp [Int.natCast_pow]
    rw [e]
    have := hh.pow
    exact wrap_in _ (by omega) (by rw [← HP.out]; omega))
  have hP := hh.pow
  have hbb := hd.byB nm
  have HRD0 : Hid (∀ (k : Nat), k < (wl (2 ^ H) (fl (play rs) nm)).length → ∀ (W : World), DkAt W d s rs D → Calls Tryz.prog 50 #[.pointer (some ⟨d, 0, none⟩), .string nm, .int .i64 ((offL (wl (2 ^ H) (fl (play rs) nm)) k + 2 : Nat) : Int), .int .i64 ((((wl (2 ^ H) (fl (play rs) nm)).getD k []).length : Nat) : Int)] W fun e w' => ∃ v, e = .returned (.tuple #[v, .int .i64 0]) ∧ Own w' W.heap.size v ((wl (2 ^ H) (fl (play rs) nm)).getD k []) ∧ Below W.heap.size W w') := hide (fun k hk W hW => by
    have hnx := offL_next hbb hk
    obtain ⟨t, ht⟩ := wl_at hbb hk
    have := read_any d s rs D W hW nm ((offL (wl (2 ^ H) (fl (play rs) nm)) k + 2 : Nat) : Int) ((((wl (2 ^ H) (fl (play rs) nm)).getD k []).length : Nat) : Int) hwt
    obtain ⟨e1, e2⟩ := rq_in hW nm (offL (wl (2 ^ H) (fl (play rs) nm)) k + 2) ((wl (2 ^ H) (fl (play rs) nm)).getD k []).length (by omega)
    have hf : fE rs nm = 0 := by
      by_cases hf : fE rs nm = 0
      · exact hf
      · have h0 := fE_fl hW hf
        rw [h0] at hnx
        simp at hnx
    rw [e1, e2, hf, ← List.drop_drop, ht] at this
    unfold lfB at this
    simp only [List.cons_append, List.drop_succ_cons, List.drop_zero, List.take_left] at this
    exact this)
  rw [HP.out] at hP HSQ1 HRD0 ⊢
  have hofl := fun k => Nat.le_trans (offL_le (m := P) hbb k) (Nat.le_trans (play_wt rs nm) hwt)
  obtain ⟨ls, HLS⟩ : ∃ ls, Hid (wl P (fl (play rs) nm) = ls) := ⟨_, hide rfl⟩
  rw [HLS.out] at HSQ1 HRD0 hofl ⊢
  have HOF := hide hofl
  have hln : ls.length ≤ P := by rw [← HLS.out]; exact wl_le _ _
  have hvb : ∀ k, k < ls.length → (ls.getD k []).length ≤ 65535 := fun k hk => by
    rw [← HLS.out] at hk ⊢
    exact (wl_ok _ _ hbb _ (getD_mem hk)).1
  have HVB := hide hvb
  obtain ⟨hP1, hP2⟩ := hP
  have hH8 : (H : Int) ≤ 8 := by have := hh.2; omega
  have HD := hide hd
  have HT := hide ht
  have HFL : Hid (∀ q, FD d D q → q < w.heap.size) := hide (fun q hq => fd_lt hd ht hq)
  obtain ⟨q, HQ⟩ : ∃ q, Hid (I % P = q) := ⟨_, hide rfl⟩
  have hqP : q < P := by rw [← HQ.out]; exact Nat.mod_lt _ (by omega)
  have HRE : Hid ((I : Int).tmod (P : Int) = (q : Int)) := hide (by rw [← HQ.out]; exact (Int.ofNat_tmod I P).symm)
  rw [HQ.out]
  obtain ⟨ee, HEE⟩ : ∃ ee, Hid ((if q < ls.length then (0 : Int) else 121) = ee) := ⟨_, hide rfl⟩
  obtain ⟨bs, HBS⟩ : ∃ bs, Hid ((if q < ls.length then ls.getD q [] else []) = bs) := ⟨_, hide rfl⟩
  rw [HEE.out, HBS.out]
  clear hd ht hwt hh hbb HLS hvb hofl
  refine (callsIn_wide (n := 4)).1 ?_
  refine callsIn_of_wp_marks Tryz.func14 rfl trivial ?_ rfl
  refine wpIn_wide.2 ?_
  simp only [Tryz.ntmps14, List.size_toArray, List.length_cons, List.length_nil, Nat.reduceAdd, Nat.reduceSub, Array.replicate_succ, Array.replicate_zero, List.push_toArray, List.append_toArray, List.nil_append, List.cons_append]
  go_wp2_with fail
  obtain ⟨W0, hW0, B3, B4, B5, B6, B7, hbl0⟩ := ZR.new w d (H : Int) (I : Int)
  rw [← hW0]
  generalize hb7 : w.heap.size + 1 + 1 + 1 + 1 = b7 at *
  generalize hb6 : w.heap.size + 1 + 1 + 1 = b6 at *
  generalize hb5 : w.heap.size + 1 + 1 = b5 at *
  generalize hb4 : w.heap.size + 1 = b4 at *
  have hne : b6 ≠ b7 ∧ w.heap.size ≤ b6 ∧ w.heap.size ≤ b7 := ⟨by omega, by omega, by omega⟩
  obtain ⟨b3, hb3⟩ : ∃ b3, w.heap.size = b3 := ⟨_, rfl⟩
  rw [hb3]
  rw [hb3] at B3
  have HZ0 : Hid (ZR w W0 b3 b4 b5 b6 b7 d H I) := hide ⟨B3, B4, B5, B6, B7, hne.2, hbl0⟩
  have HNE := hide hne
  clear hW0 hb7 hb6 hb5 hb4 hne B3 B4 B5 B6 B7 hbl0
  have HB3 := hide hb3
  clear hb3
  have c3 : W0.cell? ⟨b3, 0, none⟩ = some (.pointer (some ⟨d, 0, none⟩)) := by rw [HZ0.out.c3.cell]; rfl
  have c4 : W0.cell? ⟨b4, 0, none⟩ = some (.int .i64 (H : Int)) := by rw [HZ0.out.c4.cell]; rfl
  have c5 : W0.cell? ⟨b5, 0, none⟩ = some (.int .i64 (I : Int)) := by rw [HZ0.out.c5.cell]; rfl
  go_wp2_with (go_at_call 31; refine (HMD.out _ (HD.out.below HZ0.out.bel)).mono ?_; rintro r w' ⟨rfl, hw'⟩; subst w')
  refine (HNM.out _ (HT.out.below HZ0.out.bel)).mono ?_
  rintro r w1 ⟨rfl, hb1⟩
  have HZ1 := hide (HZ0.out.on hb1)
  clear hb1 HZ0 c3 c4 c5 HMD HNM
  have c3 : w1.cell? ⟨b3, 0, none⟩ = some (.pointer (some ⟨d, 0, none⟩)) := by rw [HZ1.out.c3.cell]; rfl
  have c4 : w1.cell? ⟨b4, 0, none⟩ = some (.int .i64 (H : Int)) := by rw [HZ1.out.c4.cell]; rfl
  go_wp2_with fail
  refine (whole_mk _ _ _ _).mono ?_
  rintro r w3 ⟨gd, gh, gn, rfl, BD, BH, BN, hgd, hgh, hgn, hb3⟩
  have HZ3 := hide (HZ1.out.on hb3)
  have HSQ := hide (HSQ1.out w3 gd gh gn w1.heap.size ⟨HD.out.below HZ3.out.bel, HT.out.below HZ3.out.bel, BD, BH, BN, hgd, hgh, hgn⟩)
  have hs13 : w.heap.size ≤ w3.heap.size := HZ3.out.bel.size
  have hl6 : b6 < w3.heap.size := HZ3.out.c6.lt
  have hl7 : b7 < w3.heap.size := HZ3.out.c7.lt
  clear hb3 BD BH BN hgd hgh hgn HZ1 c3 c4 HSQ1
  go_wp2_with fail
  refine (wpIn_wide (n := 4)).1 ?_
  refine rangeM rfl (by decide) (gf := 77) (lb := #[.pointer (some ⟨gd, 0, none⟩), .pointer (some ⟨gn, 0, none⟩), .pointer (some ⟨gh, 0, none⟩)]) rfl trivial (enters_of Tryz.func77 (by kernel_rfl) rfl)
    HSQ.out KB.trans (fun x V l o o' hl h hc => KB.book (B' := w3.heap.size) (fun q hq => by have := HFL.out q hq; omega) V l o o' hl h hc) (fun x A C h => KB.below h) (fun _ => rfl) (fun pre x V0 => rw_own _ _ _ pre x V0)
    (fun pre V => pre.length ≤ q ∧ ZR w V b3 b4 b5 b6 b7 d H I) (fun c pre V => c = .ret ∧ q < ls.length ∧ ∃ v, ZF w V b6 b7 v 0 (ls.getD q []))
    (fun _ A C row h hg hr => ⟨h.1, h.2.ck (CK.of_grown hg (fun r e => (hr r e).2)) (h.2.bel.grown hg h.2.bel.size (fun r e => by have := (hr r e).1; omega))⟩)
    (fun c _ A C row h hg hr => ⟨h.1, h.2.1, h.2.2.elim fun v hv => ⟨v, hv.ck (CK.of_grown hg (fun r e => (hr r e).2)) (hv.bel.grown hg hv.bel.size (fun r e => by have := (hr r e).1; omega))⟩⟩) ⟨Nat.zero_le _, HZ3.out⟩ ?act (fun x g V => Blk V g 102 (plV x.2)) (fun x g V l r o' hl hx => blk_loop V l r o' hl hx) ?assign ?body ?done ?stop
  case assign =>
    rintro l x V K ⟨pre, V0, h1, h2, h3⟩ hK
    have hsem := Oper.semAt_some
    simp only [encW]
    clear h1 h2 h3
    gi_wp2_with (refine istep_alloc (.round l) zPl rfl ?_)
    intro V1 g9 hg9 hle9 hb9
    gi_wp2_with (refine istep_storeA (.round l) wPl rfl rfl rfl hg9 rfl (One.pl x.2) rfl ?_)
    intro V2 hg92 hbut9
    have hb92 : Below V.heap.size V V2 := hb9.trans (hbut9.below hle9)
    have hK2 := hK g9 V2 hb92 hle9 hg92
    clear hK
    gi_wp2
    exact hK2
  case stop =>
    rintro D0 c pre V hD hSp ⟨rfl, hql, v, hz⟩ hK
    have HE : Hid (ZF w (V.putObj D0 (.deferred none)) b6 b7 v 0 (ls.getD q [])) := hide (hz.ck (CK.put (.deferred none) hK rfl) (hz.bel.trans (belowK_b (w := w) (Nat.le_refl _) _ D0 _ (.deferred none) (by omega) hK rfl rfl)))
    have HK := hide hK
    have e6 : (V.putObj D0 (.deferred none)).cell? ⟨b6, 0, none⟩ = some v := by rw [HE.out.c6.cell]; rfl
    have e7 : (V.putObj D0 (.deferred none)).cell? ⟨b7, 0, none⟩ = some (.int .i64 0) := by rw [HE.out.c7.cell]; rfl
    have h0 : ee = 0 := by rw [← HEE.out, if_pos hql]
    have h1 : ls.getD q [] = bs := by rw [← HBS.out, if_pos hql]
    rw [h1] at HE
    subst h0
    clear hz hK h1
    refine wpIn_wide.2 ?_
    go_wp2
    refine ⟨by simp, .inl ⟨_, _, rfl, run_takeDeferred HK.out, ?_⟩⟩
    refine ⟨.tuple #[v, .int .i64 0], by simp [results, Tryz.f14, go_sem, e6, e7], ?_⟩
    exact ⟨v, rfl, HE.out.own, HE.out.bel⟩
  case done =>
    rintro Dk ys V hD hS ⟨hyk, hz⟩ hK
    obtain rfl : ys = wls nm ls ls.length := hS
    rw [wls_len] at hyk
    have h0 : ee = 121 := by rw [← HEE.out, if_neg (by omega)]
    have h1 : [] = bs := by rw [← HBS.out, if_neg (by omega)]
    subst h0 h1
    have HZ := hide hz
    have HK := hide hK
    have f6 := hz.c6.free 0
    have hb6 := But.setCell V b6 0 (.slice none 0 0)
    have hc7 : Blk (V.setCell ⟨b6, 0, none⟩ (.slice none 0 0)) b7 36 [.int .i64 0] := hz.c7.but hb6 (fun e => HNE.out.1 e.symm)
    have f7 := hc7.free 0
    have d8 : (V.setCell ⟨b6, 0, none⟩ (.slice none 0 0)).cell? ⟨b7, 0, none⟩ = some (.int .i64 0) := by rw [hc7.cell]; rfl
    have d6 : V.cell? ⟨b6, 0, none⟩ = some (.slice none 0 0) := by rw [hz.c6.cell]; rfl
    have d7 : V.cell? ⟨b7, 0, none⟩ = some (.int .i64 0) := by rw [hz.c7.cell]; rfl
    clear hz hK hb6 hc7
    go_wp2
    have hbut6 := But.setCell V b6 0 (.slice none 0 0)
    have hbut7 := But.setCell (V.setCell ⟨b6, 0, none⟩ (.slice none 0 0)) b7 0 (.int .i64 121)
    have g6 : Blk ((V.setCell ⟨b6, 0, none⟩ (.slice none 0 0)).setCell ⟨b7, 0, none⟩ (.int .i64 121)) b6 31 [.slice none 0 0] := (HZ.out.c6.set 0 _).but hbut7 HNE.out.1
    have g7 : Blk ((V.setCell ⟨b6, 0, none⟩ (.slice none 0 0)).setCell ⟨b7, 0, none⟩ (.int .i64 121)) b7 36 [.int .i64 121] := (HZ.out.c7.but hbut6 (fun e => HNE.out.1 e.symm)).set 0 _
    have hk2 : ((V.setCell ⟨b6, 0, none⟩ (.slice none 0 0)).setCell ⟨b7, 0, none⟩ (.int .i64 121)).heap[Dk]? = some (.deferred (some [])) := by
      rw [hbut7.block Dk (by omega), hbut6.block Dk (by omega)]
      exact HK.out
    have hbw : Below w.heap.size w ((V.setCell ⟨b6, 0, none⟩ (.slice none 0 0)).setCell ⟨b7, 0, none⟩ (.int .i64 121)) := (HZ.out.bel.trans (hbut6.below HNE.out.2.1)).trans (hbut7.below HNE.out.2.2)
    generalize (V.setCell ⟨b6, 0, none⟩ (.slice none 0 0)).setCell ⟨b7, 0, none⟩ (.int .i64 121) = V2 at *
    refine ⟨by simp, .inl ⟨_, _, rfl, run_takeDeferred hk2, ?_⟩⟩
    have e6 : (V2.putObj Dk (.deferred none)).cell? ⟨b6, 0, none⟩ = some (.slice none 0 0) := by rw [(g6.ck (CK.put (.deferred none) hk2 rfl)).cell]; rfl
    have e7 : (V2.putObj Dk (.deferred none)).cell? ⟨b7, 0, none⟩ = some (.int .i64 121) := by rw [(g7.ck (CK.put (.deferred none) hk2 rfl)).cell]; rfl
    refine ⟨.tuple #[.slice none 0 0, .int .i64 121], by simp [results, Tryz.f14, go_sem, e6, e7], ?_⟩
    exact ⟨_, rfl, Own.nil _ _, hbw.trans (belowK_b (w := w) (Nat.le_refl _) _ Dk _ (.deferred none) (by omega) hk2 rfl rfl)⟩
  case body =>
    rintro l pre ⟨xi, xp⟩ gx V0 V hgx hbx _ hck hsz ⟨hpk, hz⟩ ⟨h1, h2, h3⟩
    have hsem := Oper.semAt_some
    obtain ⟨j, HJ⟩ : ∃ j, Hid (pre.length = j) := ⟨_, hide rfl⟩
    rw [HJ.out] at h1 h3 hpk
    obtain ⟨e1, e2⟩ := Prod.mk.inj h3
    subst e1
    have HP1 : Hid ((pre ++ [(xi, xp)]).length = xi + 1) := hide (by rw [List.length_append, HJ.out]; rfl)
    have hbx2 : Blk V gx 102 (plV xp) := hbx
    rw [e2] at hbx2
    have HRD := hide (HRD0.out xi h1)
    obtain ⟨x, HX⟩ : ∃ x, Hid (ls.getD xi [] = x) := ⟨_, hide rfl⟩
    obtain ⟨oj, HOJ⟩ : ∃ oj, Hid (offL ls xi = oj) := ⟨_, hide rfl⟩
    have hxv := HVB.out xi h1
    have hof := HOF.out xi
    have hpk2 : plK nm ls xi = (nm, oj + 2, x.length) := by unfold plK; rw [HX.out, HOJ.out]
    rw [hpk2] at hbx2
    rw [HX.out] at hxv
    rw [HOJ.out] at hof
    rw [HX.out, HOJ.out] at HRD
    have HBX := hide hbx2
    have HZV := hide hz
    have hxi : xi ≤ 256 := by omega
    have HWV := hide (HD.out.below hz.bel)
    clear hz hck hsz h2 h3 e2 hbx hbx2 hgx hpk2
    have hPi : ¬ (P : Int) = 0 := by omega
    have hPn : ¬ P = 0 := by omega
    gi_wp2_with fail
    refine wpIn_region_held (S := fun v => Below V.heap.size V v) (WideF.round l) (by kernel_rfl) (by kernel_rfl) (Below.refl V.heap.size V).drew (fun hHeld => ?_)
    refine takeH 0 30 (.int .i64 (xi : Int)) hHeld rfl rfl (by kernel_rfl) (by kernel_rfl) (by kernel_rfl) (fun _ _ _ h => h) (Or.inl ⟨by rfl, fun w _ => by go_simp⟩) ?_
    simp only [Act.put, List.setIfInBounds_toArray, List.set_cons_zero, List.set_cons_succ]
    refine takeH 1 31 (.int .i64 (I : Int)) hHeld rfl rfl (by kernel_rfl) (by kernel_rfl) (by kernel_rfl) (fun _ _ _ h => h) (Or.inl ⟨by rfl, fun w hw => by have hw' : w.cell? ⟨b5, 0, none⟩ = some (.int .i64 (I : Int)) := (fun hw => by rw [((HZV.out.on hw).c5).cell]; rfl) hw; go_simp⟩) ?_
    simp only [Act.put, List.setIfInBounds_toArray, List.set_cons_zero, List.set_cons_succ]
    refine takeH 2 32 (.int .i64 (H : Int)) hHeld rfl rfl (by kernel_rfl) (by kernel_rfl) (by kernel_rfl) (fun _ _ _ h => h) (Or.inl ⟨by rfl, fun w hw => by have hw' : w.cell? ⟨b4, 0, none⟩ = some (.int .i64 (H : Int)) := (fun hw => by rw [((HZV.out.on hw).c4).cell]; rfl) hw; go_simp⟩) ?_
    simp only [Act.put, List.setIfInBounds_toArray, List.set_cons_zero, List.set_cons_succ]
    refine takeH 3 33 (.int .i64 (P : Int)) hHeld rfl rfl (by kernel_rfl) (by kernel_rfl) (by kernel_rfl) (fun _ _ _ h => h) (Or.inl ⟨by rfl, fun w _ => by go_simp; rw [HWQ.out]⟩) ?_
    simp only [Act.put, List.setIfInBounds_toArray, List.set_cons_zero, List.set_cons_succ]
    refine takeH 4 34 (.int .i64 (q : Int)) hHeld rfl rfl (by kernel_rfl) (by kernel_rfl) (by kernel_rfl) (fun _ _ _ h => h) (Or.inl ⟨by rfl, fun w _ => by go_simp; rw [HRE.out]⟩) ?_
    simp only [Act.put, List.setIfInBounds_toArray, List.set_cons_zero, List.set_cons_succ]
    by_cases hjq : xi = q
    · subst hjq
      refine takeH 5 35 (.bool true) hHeld rfl rfl (by kernel_rfl) (by kernel_rfl) (by kernel_rfl) (fun _ _ _ h => h) (Or.inl ⟨by rfl, fun w _ => by go_simp⟩) ?_
      simp only [Act.put, List.setIfInBounds_toArray, List.set_cons_zero, List.set_cons_succ]
      refine wpAnyH_done (by kernel_rfl) ?_ _
      refine Only.normal ?_
      obtain ⟨Vd, hVd⟩ : ∃ v, V.drew = v := ⟨_, rfl⟩
      rw [hVd] at hHeld ⊢
      clear hVd
      have HZd := hide (HZV.out.on hHeld)
      have HOd := hide (keepsO_below hHeld)
      have HDd := hide (HWV.out.below hHeld)
      obtain ⟨p0, p1, p2⟩ := (HBX.out.on hHeld).pl3
      have c3 : Vd.cell? ⟨b3, 0, none⟩ = some (.pointer (some ⟨d, 0, none⟩)) := by rw [HZd.out.c3.cell]; rfl
      clear hHeld
      gi_wp2_with fail
      refine ⟨trivial, (calls_round (WideF.round l) (HRD.out _ HDd.out)).mono ?_⟩
      rintro e V5 ⟨v, rfl, ho5, hb5⟩
      obtain ⟨va, vc, hvs⟩ := ho5.slice
      obtain ⟨xl, hxl⟩ : ∃ xl, x.length = xl := ⟨_, rfl⟩
      rw [hxl] at hvs
      obtain ⟨v', hv'⟩ : ∃ v', v' = Value.slice va xl vc := ⟨_, rfl⟩
      rw [hvs]
      rw [hvs] at ho5
      clear hvs hv' v'
      have HZ5 := hide (HZd.out.on hb5)
      have HO5 := hide (HOd.out.trans (keepsO_below hb5))
      have HV5 : Hid (Own V5 w.heap.size (Value.slice va xl vc) x) := hide (own_down ho5 HZd.out.bel.size)
      have HV6 : Hid (∀ k, (Value.slice va xl vc).ownBlock = some k → Vd.heap.size ≤ k) := hide (fun k hk => World.ownsRow.lt ho5 k hk |>.1)
      have hl5 : b6 < Vd.heap.size ∧ b7 < Vd.heap.size := ⟨HZd.out.c6.lt, HZd.out.c7.lt⟩
      clear hb5 ho5 p0 p1 p2 c3
      have f6 := HZ5.out.c6.free 0
      have d6 : V5.cell? ⟨b6, 0, none⟩ = some (.slice none 0 0) := by rw [HZ5.out.c6.cell]; rfl
      have hbut6 := But.setCell V5 b6 0 (.slice va xl vc)
      have hc7 : Blk (V5.setCell ⟨b6, 0, none⟩ (.slice va xl vc)) b7 36 [.int .i64 0] := HZ5.out.c7.but hbut6 (fun e => HNE.out.1 e.symm)
      have f7 := hc7.free 0
      have d7 : (V5.setCell ⟨b6, 0, none⟩ (.slice va xl vc)).cell? ⟨b7, 0, none⟩ = some (.int .i64 0) := by rw [hc7.cell]; rfl
      have HC7 := hide hc7
      have HBU6 := hide hbut6
      clear hc7 hbut6
      gi_wp2
      have hbut7 := But.setCell (V5.setCell ⟨b6, 0, none⟩ (.slice va xl vc)) b7 0 (.int .i64 0)
      have g6 : Blk (V5.setCell ⟨b6, 0, none⟩ (.slice va xl vc)) b6 31 [.slice va xl vc] := HZ5.out.c6.set 0 _
      refine ⟨((HO5.out.trans (keepsO_but HBU6.out HZ5.out.c6)).trans (keepsO_but hbut7 HC7.out)).from _, rfl, h1, .slice va xl vc, ?_⟩
      refine ⟨g6.but hbut7 HNE.out.1, HC7.out.set 0 _, ?_, (HZ5.out.bel.trans (HBU6.out.below HNE.out.2.1)).trans (hbut7.below HNE.out.2.2)⟩
      rw [HX.out]
      exact (HV5.out.same (fun k hk => HBU6.out.block k (by have := HV6.out k hk; omega))).same (fun k hk => hbut7.block k (by have := HV6.out k hk; omega))
    · have hjqi : ¬ (xi : Int) = (q : Int) := by omega
      refine takeH 5 35 (.bool false) hHeld rfl rfl (by kernel_rfl) (by kernel_rfl) (by kernel_rfl) (fun _ _ _ h => h) (Or.inl ⟨by rfl, fun w _ => by go_simp⟩) ?_
      simp only [Act.put, List.setIfInBounds_toArray, List.set_cons_zero, List.set_cons_succ]
      refine wpAnyH_done (by kernel_rfl) ?_ _
      refine Only.normal ?_
      obtain ⟨Vd, hVd⟩ : ∃ v, V.drew = v := ⟨_, rfl⟩
      rw [hVd] at hHeld ⊢
      clear hVd
      have HZd := hide (HZV.out.on hHeld)
      have HOd := hide (keepsO_below hHeld)
      have HKd : Hid (KB w1.heap.size (FD d D) V Vd) := hide (KB.below hHeld)
      clear hHeld
      gi_wp2
      refine ⟨HOd.out.from _, HKd.out, ?_⟩
      show (pre ++ [(xi, xp)]).length ≤ q ∧ _
      rw [HP1.out]
      exact ⟨by omega, HZd.out⟩
/-- Read, whatever is asked for. -/
theorem readB_any (h i : Int) (ht : PT w) (hwt : wt rs ≤ 1099511000000) :
    Calls Tryz.prog 14 #[.pointer (some ⟨d, 0, none⟩), .int .i64 h, .int .i64 i] w fun r w' => ∃ v, r = .returned (.tuple #[v, .int .i64 (rdEb rs h i)]) ∧ Own w' w.heap.size v (rdBb rs h i) ∧ Below w.heap.size w w' := by
  by_cases he : bnE h i = 0
  · obtain ⟨H, I, rfl, rfl, hh, hI⟩ := nmO'_nats (bnE_zero he)
    exact readB_ok d s rs D w hd H I hh hI ht hwt
  · have e1 : rdEb rs h i = 2 := by unfold rdEb; rw [if_neg he]
    have e2 : rdBb rs h i = [] := by unfold rdBb; rw [e1, if_neg (by decide)]
    have e3 : bnE h i = 2 := by rcases bnE_bin h i with k | k; exact absurd k he; exact k
    rw [e1, e2]
    have HNM : Hid (∀ W : World, PT W → Calls Tryz.prog 32 #[.int .i64 h, .int .i64 i] W fun r w' => r = .returned (.tuple #[.string (bnP h i), .int .i64 2]) ∧ Below W.heap.size W w') := hide (fun W h2 => by
      have := bname_any h i W h2
      rw [e3] at this
      exact this)
    have HMD : Hid (∀ W : World, DkAt W d s rs D → Calls Tryz.prog 31 #[.pointer (some ⟨d, 0, none⟩)] W fun r w' => r = .returned (.bool true) ∧ w' = W) := hide (fun W hW => madeB_any d s rs D W hW)
    generalize bnP h i = nm at *
    have HD := hide hd
    have HT := hide ht
    clear hd ht he e1 e2 e3 hwt
    refine (callsIn_wide (n := 4)).1 ?_
    refine callsIn_of_wp_marks Tryz.func14 rfl trivial ?_ rfl
    refine wpIn_wide.2 ?_
    simp only [Tryz.ntmps14, List.size_toArray, List.length_cons, List.length_nil, Nat.reduceAdd, Nat.reduceSub, Array.replicate_succ, Array.replicate_zero, List.push_toArray, List.append_toArray, List.nil_append, List.cons_append]
    go_wp2_with fail
    obtain ⟨W0, hW0, B3, B4, B5, B6, B7, hbl0⟩ := ZR.new w d h i
    rw [← hW0]
    generalize hb7 : w.heap.size + 1 + 1 + 1 + 1 = b7 at *
    generalize hb6 : w.heap.size + 1 + 1 + 1 = b6 at *
    generalize hb5 : w.heap.size + 1 + 1 = b5 at *
    generalize hb4 : w.heap.size + 1 = b4 at *
    have hne : b6 ≠ b7 ∧ w.heap.size ≤ b6 ∧ w.heap.size ≤ b7 := ⟨by omega, by omega, by omega⟩
    obtain ⟨b3, hb3⟩ : ∃ b3, w.heap.size = b3 := ⟨_, rfl⟩
    rw [hb3]
    rw [hb3] at B3
    have HB3 := hide hb3
    have HNE := hide hne
    have HB6 := hide B6
    have HB7 := hide B7
    have HBL := hide hbl0
    have c3 : W0.cell? ⟨b3, 0, none⟩ = some (.pointer (some ⟨d, 0, none⟩)) := by rw [B3.cell]; rfl
    have c4 : W0.cell? ⟨b4, 0, none⟩ = some (.int .i64 h) := by rw [B4.cell]; rfl
    have c5 : W0.cell? ⟨b5, 0, none⟩ = some (.int .i64 i) := by rw [B5.cell]; rfl
    clear hW0 hb7 hb6 hb5 hb4 hne B3 B4 B5 B6 B7 hbl0 hb3
    go_wp2_with (go_at_call 31; refine (HMD.out _ (HD.out.below HBL.out)).mono ?_; rintro r w' ⟨rfl, hw'⟩; subst w')
    refine (HNM.out _ (HT.out.below HBL.out)).mono ?_
    rintro r w1 ⟨rfl, hb1⟩
    have HC6 := hide (HB6.out.on hb1)
    have HBL1 := hide (on_below HBL.out hb1)
    have f6 := HC6.out.free 0
    have d6 : w1.cell? ⟨b6, 0, none⟩ = some (.slice none 0 0) := by rw [HC6.out.cell]; rfl
    have hbut6 := But.setCell w1 b6 0 (.slice none 0 0)
    have hc7 : Blk (w1.setCell ⟨b6, 0, none⟩ (.slice none 0 0)) b7 36 [.int .i64 0] := (HB7.out.on hb1).but hbut6 (fun e => HNE.out.1 e.symm)
    have f7 := hc7.free 0
    have d7 : (w1.setCell ⟨b6, 0, none⟩ (.slice none 0 0)).cell? ⟨b7, 0, none⟩ = some (.int .i64 0) := by rw [hc7.cell]; rfl
    have HC7 := hide hc7
    have HBU6 := hide hbut6
    clear hc7 hbut6 hb1 c3 c4 c5
    go_wp2
    have hbut7 := But.setCell (w1.setCell ⟨b6, 0, none⟩ (.slice none 0 0)) b7 0 (.int .i64 2)
    have g6 := (HC6.out.set 0 (.slice none 0 0)).but hbut7 HNE.out.1
    have g7 := HC7.out.set 0 (.int .i64 2)
    have hbw := (HBL1.out.trans (HBU6.out.below HNE.out.2.1)).trans (hbut7.below HNE.out.2.2)
    generalize (w1.setCell ⟨b6, 0, none⟩ (.slice none 0 0)).setCell ⟨b7, 0, none⟩ (.int .i64 2) = W2 at *
    have e6 : W2.cell? ⟨b6, 0, none⟩ = some (.slice none 0 0) := by rw [g6.cell]; rfl
    have e7 : W2.cell? ⟨b7, 0, none⟩ = some (.int .i64 2) := by rw [g7.cell]; rfl
    refine ⟨.tuple #[.slice none 0 0, .int .i64 2], by simp [results, Tryz.f14, go_sem, e6, e7], ?_⟩
    exact ⟨_, rfl, Own.nil _ _, hbw⟩
end

end Go.Proofs.YtpocadbhajacaaaGreatDoor

/-
  A height that was filled from nothing, leaf by leaf; what a loss of power leaves of it; what Trim makes of that. No program here.
-/
namespace Go.Proofs.YtpocadbhajacaaaGreatDoor
open Go.RowKit
set_option linter.unusedVariables false
set_option linter.unusedSimpArgs false
set_option maxRecDepth 100000

theorem puW_take {s : Nat} {rs : List Rw} (hs : 1 ≤ s) {n : ByteArray} (hnm : nmB n = true) {x : List Int} (hx0 : x ≠ []) (hB : isB x) (k : Nat) :
    (k ≤ rs.length ∧ (puW s rs n x).take k = rs.take k) ∨ (∃ e, e ≤ x.length ∧ play ((puW s rs n x).take k) = upd (play rs) n (some (fl (play rs) n ++ x.take e))) := by
  by_cases hk : k ≤ rs.length
  · left
    refine ⟨hk, ?_⟩
    have : ∃ z, puW s rs n x = rs ++ z := by
      unfold puW apS
      rw [crS_is hnm]
      split
      · split
        · exact ⟨_, List.append_assoc _ _ _⟩
        · exact ⟨_, rfl⟩
      · split
        · exact ⟨_, rfl⟩
        · exact ⟨[], by simp⟩
    obtain ⟨z, hz⟩ := this
    rw [hz, List.take_append_of_le_length hk]
  · right
    have key : ∀ (qs : List Rw) (m : Nat), (∃ ys, play qs n = some ys) → upd (play qs) n (some (fl (play qs) n)) = upd (play rs) n (some (fl (play rs) n)) → fl (play qs) n = fl (play rs) n →
        ∃ e, e ≤ x.length ∧ play (qs ++ (expd s ⟨rAp n x, qs.length, (fl (play qs) n).length⟩).take m) = upd (play rs) n (some (fl (play rs) n ++ x.take e)) := by
      intro qs m hex heq hfl
      obtain ⟨e, he, hp⟩ := ap_take hs hnm hx0 hB hex qs.length m
      refine ⟨e, he, ?_⟩
      rw [play_app, hp]
      have := congrArg (fun f => upd f n (some (fl (play rs) n ++ x.take e))) heq
      simp only [upd_upd] at this
      rw [hfl]
      exact this
    unfold puW
    rw [crS_is hnm]
    by_cases hf : play rs n = none
    · rw [if_pos hf]
      have e2 : play (rs ++ [rCr n]) = upd (play rs) n (some []) := by rw [play_snoc, do_cr]
      have hex : ∃ ys, play (rs ++ [rCr n]) n = some ys := ⟨[], by rw [e2, upd_same]⟩
      have e0 : fE (rs ++ [rCr n]) n = 0 := by simp [fE, hnm, hex]; obtain ⟨ys, hy⟩ := hex; simp [hy]
      have e1 : apS s (rs ++ [rCr n]) n x = (rs ++ [rCr n]) ++ expd s ⟨rAp n x, (rs ++ [rCr n]).length, (fl (play (rs ++ [rCr n])) n).length⟩ := by
        unfold apS; rw [if_pos ⟨e0, hx0⟩]
      rw [e1]
      have hlen : (rs ++ [rCr n]).length ≤ k := by rw [List.length_append]; simp; omega
      rw [List.take_append, List.take_of_length_le hlen]
      refine key _ _ hex ?_ ?_
      · rw [e2, fl_upS, upd_upd, fl_none hf]; rfl
      · rw [e2, fl_upS, fl_none hf]; rfl
    · rw [if_neg hf]
      have hex : ∃ ys, play rs n = some ys := by
        cases h : play rs n with
        | none => exact absurd h hf
        | some ys => exact ⟨ys, rfl⟩
      have e0 : fE rs n = 0 := by obtain ⟨ys, hy⟩ := hex; simp [fE, hnm, hy]
      have e1 : apS s rs n x = rs ++ expd s ⟨rAp n x, rs.length, (fl (play rs) n).length⟩ := by
        unfold apS; rw [if_pos ⟨e0, hx0⟩]
      rw [e1, List.take_append, List.take_of_length_le (by omega)]
      exact key _ _ hex rfl rfl

/-- The height has just these leaves, and there is no other file. -/
structure FB (F : ByteArray → Option (List Int)) (h : Nat) (xs : List (List Int)) : Prop where
  at' : ∀ i, i * 2 ^ h < xs.length → F (lfN h i) = some (lfF ((xs.drop (i * 2 ^ h)).take (2 ^ h)))
  no : ∀ n, (∀ i, i * 2 ^ h < xs.length → n ≠ lfN h i) → F n = none
/-- Leaves that may be. -/
def LB (xs : List (List Int)) : Prop := ∀ x ∈ xs, x.length ≤ 65535 ∧ isB x
theorem LB.take {xs : List (List Int)} (k : LB xs) (n : Nat) : LB (xs.take n) := fun x hx => k x (List.mem_of_mem_take hx)
theorem LB.drop {xs : List (List Int)} (k : LB xs) (n : Nat) : LB (xs.drop n) := fun x hx => k x (List.mem_of_mem_drop hx)
theorem LB.rev {xs : List (List Int)} (k : LB xs) : LB xs.reverse := fun x hx => k x (List.mem_reverse.1 hx)
theorem LB.len {xs : List (List Int)} (k : LB xs) : ∀ x ∈ xs, x.length ≤ 65535 := fun x hx => (k x hx).1
theorem FB.nil (h : Nat) : FB (fun _ => none) h [] := ⟨fun i hi => by simp at hi, fun n _ => rfl⟩
theorem FB.ext {F G : ByteArray → Option (List Int)} {h : Nat} {xs : List (List Int)} (a : FB F h xs) (b : FB G h xs) : F = G := by
  funext n
  by_cases k : ∃ i, i * 2 ^ h < xs.length ∧ n = lfN h i
  · obtain ⟨i, hi, rfl⟩ := k
    rw [a.at' i hi, b.at' i hi]
  · rw [a.no n (fun i hi e => k ⟨i, hi, e⟩), b.no n (fun i hi e => k ⟨i, hi, e⟩)]
theorem quoB_lt {n w j : Nat} (hw : 0 < w) (hj : j < n) : j / w * w < n := by
  have := Nat.div_mul_le_self j w
  omega
section
variable {F : ByteArray → Option (List Int)} {h : Nat} {xs : List (List Int)}
theorem FB.fl (k : FB F h xs) {i : Nat} (hi : i * 2 ^ h < xs.length) : Go.Proofs.YtpocadbhajacaaaGreatDoor.fl F (lfN h i) = lfF ((xs.drop (i * 2 ^ h)).take (2 ^ h)) := by
  unfold Go.Proofs.YtpocadbhajacaaaGreatDoor.fl
  rw [k.at' i hi]
  rfl
theorem FB.wl (k : FB F h xs) (hx : LB xs) {i : Nat} (hi : i * 2 ^ h < xs.length) : wlF F h i = (xs.drop (i * 2 ^ h)).take (2 ^ h) := by
  unfold wlF
  rw [k.fl hi, wl_all ((hx.drop _).take _).len (by rw [List.length_take]; exact Nat.min_le_left _ _)]
theorem FB.off (k : FB F h xs) (hh : hB h) {i : Nat} (hi : xs.length ≤ i * 2 ^ h) : F (lfN h i) = none := by
  refine k.no _ (fun j hj e => ?_)
  have e2 := (lfN_inj hh hh e.symm).2
  subst e2
  omega
theorem FB.cn (k : FB F h xs) (hh : hB h) (hx : LB xs) (hn : xs.length ≤ 1048576) : CnL F h xs.length := by
  have hp := Nat.two_pow_pos h
  constructor
  · intro j hj
    have e := Nat.div_add_mod j (2 ^ h)
    have m := Nat.mod_lt j hp
    rw [Nat.mul_comm] at e
    unfold hasL
    rw [k.wl hx (quoB_lt hp hj), List.length_take, List.length_drop]
    simp only [Bool.and_eq_true, decide_eq_true_eq]
    omega
  · unfold hasL
    by_cases h20 : xs.length < 1048576
    · have e := Nat.div_add_mod xs.length (2 ^ h)
      have m := Nat.mod_lt xs.length hp
      rw [Nat.mul_comm] at e
      by_cases h0 : xs.length / 2 ^ h * 2 ^ h < xs.length
      · rw [k.wl hx h0, List.length_take, List.length_drop]
        simp only [Bool.and_eq_false_iff, decide_eq_false_iff_not]
        right
        omega
      · have hw : wlF F h (xs.length / 2 ^ h) = [] := by
          unfold wlF
          rw [fl_none (k.off hh (by omega)), wl_one (by simp [Go.Proofs.YtpocadbhajacaaaGreatDoor.wl])]
        rw [hw]
        simp
    · simp [h20]
/-- The leaf j. -/
theorem FB.lf (k : FB F h xs) (hx : LB xs) {j : Nat} (hj : j < xs.length) : Go.Proofs.YtpocadbhajacaaaGreatDoor.lf F h j = xs.getD j [] := by
  have hp := Nat.two_pow_pos h
  have e := Nat.div_add_mod j (2 ^ h)
  have m := Nat.mod_lt j hp
  rw [Nat.mul_comm] at e
  unfold Go.Proofs.YtpocadbhajacaaaGreatDoor.lf
  rw [k.wl hx (quoB_lt hp hj)]
  simp only [List.getD, List.getElem?_take, List.getElem?_drop]
  rw [if_pos m, e]
/-- The file in which the next leaf would come. -/
theorem FB.next (k : FB F h xs) (hh : hB h) (hx : LB xs) : Go.Proofs.YtpocadbhajacaaaGreatDoor.fl F (lfN h (xs.length / 2 ^ h)) = lfF (xs.drop (xs.length / 2 ^ h * 2 ^ h)) ∧ wlF F h (xs.length / 2 ^ h) = xs.drop (xs.length / 2 ^ h * 2 ^ h) := by
  have hp := Nat.two_pow_pos h
  have e := Nat.div_add_mod xs.length (2 ^ h)
  have m := Nat.mod_lt xs.length hp
  rw [Nat.mul_comm] at e
  by_cases h0 : xs.length / 2 ^ h * 2 ^ h < xs.length
  · have e2 : (xs.drop (xs.length / 2 ^ h * 2 ^ h)).take (2 ^ h) = xs.drop (xs.length / 2 ^ h * 2 ^ h) := List.take_of_length_le (by rw [List.length_drop]; omega)
    exact ⟨by rw [k.fl h0, e2], by rw [k.wl hx h0, e2]⟩
  · have e2 : xs.drop (xs.length / 2 ^ h * 2 ^ h) = [] := List.drop_eq_nil_of_le (by omega)
    have e3 := fl_none (k.off hh (i := xs.length / 2 ^ h) (by omega))
    rw [e2]
    exact ⟨e3, by unfold wlF; rw [e3, wl_one (by simp [Go.Proofs.YtpocadbhajacaaaGreatDoor.wl])]⟩
/-- A leaf more. -/
theorem FB.snoc (k : FB F h xs) (hh : hB h) (hx : LB xs) (x : List Int) : FB (upd F (lfN h (xs.length / 2 ^ h)) (some (Go.Proofs.YtpocadbhajacaaaGreatDoor.fl F (lfN h (xs.length / 2 ^ h)) ++ lfB x))) h (xs ++ [x]) := by
  have hp := Nat.two_pow_pos h
  have e := Nat.div_add_mod xs.length (2 ^ h)
  have m := Nat.mod_lt xs.length hp
  rw [Nat.mul_comm] at e
  constructor
  · intro i hi
    rw [List.length_append, List.length_cons, List.length_nil] at hi
    by_cases hi2 : i = xs.length / 2 ^ h
    · subst hi2
      rw [upd_same, (k.next hh hx).1, List.drop_append_of_le_length (by omega), List.take_of_length_le (by rw [List.length_append, List.length_drop]; simp; omega), lfF_app]
      simp [lfF]
    · have hlt : i < xs.length / 2 ^ h := by
        have h1 : i ≤ xs.length / 2 ^ h := by
          rw [Nat.le_div_iff_mul_le hp]
          omega
        omega
      have h2 := Nat.mul_le_mul_right (2 ^ h) (show i + 1 ≤ xs.length / 2 ^ h from hlt)
      rw [Nat.add_mul, Nat.one_mul] at h2
      rw [upd_ne _ _ (fun e => hi2 (lfN_inj hh hh e).2), k.at' i (by omega), List.drop_append_of_le_length (by omega), List.take_append_of_le_length (by rw [List.length_drop]; omega)]
  · intro n hne
    rw [upd_ne _ _ (hne _ (by rw [List.length_append]; simp; omega))]
    exact k.no n (fun i hi => hne i (by rw [List.length_append]; omega))
end

end Go.Proofs.YtpocadbhajacaaaGreatDoor

/-
  What a loss of power leaves of a height that was filled, and what Trim makes of it. No program here.
-/
namespace Go.Proofs.YtpocadbhajacaaaGreatDoor
open Go.RowKit
set_option linter.unusedVariables false
set_option linter.unusedSimpArgs false
set_option maxRecDepth 100000

/-- The raw writes of a height that was filled, the last leaf first. -/
def rsB (s h : Nat) : List (List Int) → List Rw
  | [] => []
  | x :: t => puW s (rsB s h t) (lfN h (t.length / 2 ^ h)) (lfB x)
theorem lfB_ne (x : List Int) : lfB x ≠ [] := by simp [lfB]
theorem lfN_nmq {h n : Nat} (hh : hB h) (hn : n ≤ 1048576) : nmB (lfN h (n / 2 ^ h)) = true := lfN_nm hh (by have := Nat.div_le_self n (2 ^ h); omega)
theorem rsB_is {s h : Nat} (hs : 1 ≤ s) (hh : hB h) : ∀ t : List (List Int), LB t → t.length ≤ 1048576 → Val s (fun _ => none) (rsB s h t) ∧ FB (play (rsB s h t)) h t.reverse ∧ wt (rsB s h t) ≤ 131080 * t.length
  | [], _, _ => ⟨trivial, FB.nil h, Nat.le_refl _⟩
  | x :: t, k, hn => by
    have hx := k x (by simp)
    rw [List.length_cons] at hn
    have kt : LB t := fun y hy => k y (List.mem_cons_of_mem _ hy)
    obtain ⟨h1, h2, h3⟩ := rsB_is hs hh t kt (by omega)
    obtain ⟨a, b, c⟩ := puW_play hs h1 (lfN_nmq hh (n := t.length) (by omega)) (lfB_ne x) (lfB_isB hx.1 hx.2)
    rw [lfB_len] at c
    refine ⟨a, ?_, ?_⟩
    · show FB (play (puW s (rsB s h t) (lfN h (t.length / 2 ^ h)) (lfB x))) h (x :: t).reverse
      rw [b, List.reverse_cons]
      have := h2.snoc hh kt.rev x
      rwa [List.length_reverse] at this
    · show wt (puW s (rsB s h t) (lfN h (t.length / 2 ^ h)) (lfB x)) ≤ _
      rw [List.length_cons]
      omega
/-- A leaf's torn beginning has no whole leaf. -/
theorem wl_torn {x : List Int} (hx : x.length ≤ 65535) {e : Nat} (he : e < (lfB x).length) (m : Nat) : wl m ((lfB x).take e) = [] := by
  refine wl_one ?_ m
  rw [lfB_len] at he
  unfold lfB
  match e, he with
  | 0, _ => simp [wl]
  | 1, _ => simp [wl]
  | e + 2, he =>
    rw [List.take_succ_cons, List.take_succ_cons]
    unfold wl
    rw [if_neg]
    rw [List.length_take]
    omega
theorem wl_chunk {m : Nat} {c : List (List Int)} {t : List Int} (hl : c.length ≤ m) (hc : ∀ x ∈ c, x.length ≤ 65535) (ht : ∀ k, wl k t = []) : wl m (lfF c ++ t) = c := by
  obtain ⟨q, rfl⟩ := Nat.exists_eq_add_of_le hl
  rw [wl_app _ _ _ hc, ht, List.append_nil]
/-- What a loss of power leaves of a height that was filled: a beginning of it, and perhaps something torn. -/
def TB (F : ByteArray → Option (List Int)) (h : Nat) (ys : List (List Int)) : Prop :=
  ∃ F0, FB F0 h ys ∧ (F = F0 ∨ (ys.length < 1048576 ∧ ∃ (x : List Int) (e : Nat), x.length ≤ 65535 ∧ e < (lfB x).length ∧ F = upd F0 (lfN h (ys.length / 2 ^ h)) (some (fl F0 (lfN h (ys.length / 2 ^ h)) ++ (lfB x).take e))))
theorem rsB_take {s h : Nat} (hs : 1 ≤ s) (hh : hB h) : ∀ (t : List (List Int)), LB t → t.length ≤ 1048576 → ∀ k, ∃ j, TB (play ((rsB s h t).take k)) h (t.drop j).reverse
  | [], _, _, k => ⟨0, _, FB.nil h, .inl (by simp [rsB, play_nil])⟩
  | x :: t, kb, hn, k => by
    have hx := kb x (by simp)
    rw [List.length_cons] at hn
    have kt : LB t := fun y hy => kb y (List.mem_cons_of_mem _ hy)
    obtain ⟨h1, h2, h3⟩ := rsB_is hs hh t kt (by omega)
    show ∃ j, TB (play ((puW s (rsB s h t) (lfN h (t.length / 2 ^ h)) (lfB x)).take k)) h ((x :: t).drop j).reverse
    rcases puW_take (rs := rsB s h t) hs (lfN_nmq hh (n := t.length) (by omega)) (lfB_ne x) (lfB_isB hx.1 hx.2) k with ⟨hk, e1⟩ | ⟨e, he, e1⟩
    · obtain ⟨j, hj⟩ := rsB_take hs hh t kt (by omega) k
      refine ⟨j + 1, ?_⟩
      rw [List.drop_succ_cons, e1]
      exact hj
    · rw [e1]
      by_cases hf : e < (lfB x).length
      · refine ⟨1, play (rsB s h t), h2, .inr ⟨?_, x, e, hx.1, hf, ?_⟩⟩
        · rw [List.drop_succ_cons, List.drop_zero, List.length_reverse]; omega
        · rw [List.drop_succ_cons, List.drop_zero, List.length_reverse]
      · refine ⟨0, _, ?_, .inl rfl⟩
        rw [List.take_of_length_le (by omega), List.drop_zero, List.reverse_cons]
        have := h2.snoc hh kt.rev x
        rwa [List.length_reverse] at this
section
variable {F : ByteArray → Option (List Int)} {h : Nat} {ys : List (List Int)}
/-- The whole leaves of a file behind a loss of power. -/
theorem TB.wl (k : TB F h ys) (hh : hB h) (hx : LB ys) (i : Nat) : wlF F h i = (ys.drop (i * 2 ^ h)).take (2 ^ h) := by
  have hp := Nat.two_pow_pos h
  obtain ⟨F0, hF, hc⟩ := k
  have base : wlF F0 h i = (ys.drop (i * 2 ^ h)).take (2 ^ h) := by
    by_cases hi : i * 2 ^ h < ys.length
    · exact hF.wl hx hi
    · have e3 := fl_none (hF.off hh (i := i) (by omega))
      rw [List.drop_eq_nil_of_le (by omega), List.take_nil]
      unfold wlF
      rw [e3, wl_one (by simp [Go.Proofs.YtpocadbhajacaaaGreatDoor.wl])]
  rcases hc with rfl | ⟨h20, x, e, hx5, he, rfl⟩
  · exact base
  · by_cases hi : i = ys.length / 2 ^ h
    · subst hi
      have ee := Nat.div_add_mod ys.length (2 ^ h)
      have m := Nat.mod_lt ys.length hp
      rw [Nat.mul_comm] at ee
      have hl : (ys.drop (ys.length / 2 ^ h * 2 ^ h)).length ≤ 2 ^ h := by rw [List.length_drop]; omega
      unfold wlF
      rw [fl_upS, Option.getD_some, (hF.next hh hx).1]
      rw [wl_chunk hl (hx.drop _).len (fun m => wl_torn hx5 he m), List.take_of_length_le hl]
    · have : wlF (upd F0 (lfN h (ys.length / 2 ^ h)) (some (fl F0 (lfN h (ys.length / 2 ^ h)) ++ (lfB x).take e))) h i = wlF F0 h i := by
        unfold wlF
        rw [fl_upN _ _ (fun e => hi (lfN_inj hh hh e).2)]
      rw [this, base]
theorem TB.cn (k : TB F h ys) (hh : hB h) (hx : LB ys) (hn : ys.length ≤ 1048576) : CnL F h ys.length := by
  have hp := Nat.two_pow_pos h
  constructor
  · intro j hj
    have e := Nat.div_add_mod j (2 ^ h)
    have m := Nat.mod_lt j hp
    rw [Nat.mul_comm] at e
    unfold hasL
    rw [k.wl hh hx, List.length_take, List.length_drop]
    simp only [Bool.and_eq_true, decide_eq_true_eq]
    omega
  · have e := Nat.div_add_mod ys.length (2 ^ h)
    have m := Nat.mod_lt ys.length hp
    rw [Nat.mul_comm] at e
    unfold hasL
    rw [k.wl hh hx, List.length_take, List.length_drop]
    simp only [Bool.and_eq_false_iff, decide_eq_false_iff_not]
    omega
theorem FB.tb (k : FB F h ys) : TB F h ys := ⟨F, k, .inl rfl⟩
end
/-- What Trim leaves of a height that was filled. -/
theorem TB.trim {h : Nat} (hh : hB h) {rs : List Rw} {ys : List (List Int)} (k : TB (play rs) h ys) (hx : LB ys) (hn : ys.length ≤ 1048576) {ls : List (ByteArray × List Int)} (hl : FL (play rs) ls) {n : Nat} (h1 : n ≤ ys.length) :
    FB (play (trSb h n rs ls)) h (ys.take n) := by
  have hp := Nat.two_pow_pos h
  have e := Nat.div_add_mod n (2 ^ h)
  have m := Nat.mod_lt n hp
  rw [Nat.mul_comm] at e
  have kw := fun i => k.wl hh hx i
  obtain ⟨F0, hF, hc⟩ := k
  -- a file's bytes: its leaves, and something torn
  have hby : ∀ i, i * 2 ^ h < ys.length → ∃ t, play rs (lfN h i) = some (lfF ((ys.drop (i * 2 ^ h)).take (2 ^ h)) ++ t) ∧ (i < ys.length / 2 ^ h → t = []) := by
    intro i hi
    rcases hc with hc | ⟨h20, x, e', hx5, he, hc⟩
    · exact ⟨[], by rw [hc, hF.at' i hi, List.append_nil], fun _ => rfl⟩
    · by_cases hi2 : i = ys.length / 2 ^ h
      · subst hi2
        refine ⟨(lfB x).take e', ?_, fun h => absurd h (Nat.lt_irrefl _)⟩
        have ee := Nat.div_add_mod ys.length (2 ^ h)
        have mm := Nat.mod_lt ys.length hp
        rw [Nat.mul_comm] at ee
        rw [hc, upd_same, (hF.next hh hx).1, List.take_of_length_le (l := ys.drop _) (by rw [List.length_drop]; omega)]
      · exact ⟨[], by rw [hc, upd_ne _ _ (fun e => hi2 (lfN_inj hh hh e).2), hF.at' i hi, List.append_nil], fun _ => rfl⟩
  have hno : ∀ x, (∀ i, i * 2 ^ h < 1048576 → i * 2 ^ h ≤ ys.length → x ≠ lfN h i) → play rs x = none := by
    intro x hx2
    rcases hc with hc | ⟨h20, x', e', hx5, he, hc⟩
    · rw [hc]
      exact hF.no x (fun i hi => hx2 i (by omega) (by omega))
    · have := Nat.div_mul_le_self ys.length (2 ^ h)
      rw [hc, upd_ne _ _ (hx2 (ys.length / 2 ^ h) (by omega) this)]
      exact hF.no x (fun i hi => hx2 i (by omega) (by omega))
  -- behind the removals
  have hR := fun x => trRb_play rs (trNb h n ls) x
  have hRm := fun x => trNb_mem hl (H := h) (n := n) (x := x)
  have hkeep : ∀ i, i * 2 ^ h < n → play (trRb rs (trNb h n ls)) (lfN h i) = play rs (lfN h i) := fun i hi => (hR _).2 (fun hm => by
    obtain ⟨_, q, hq1, hq2, hq3⟩ := (hRm _).1 hm
    have := (lfN_inj hh hh hq3).2
    subst this
    omega)
  have hgone : ∀ i, n ≤ i * 2 ^ h → play (trRb rs (trNb h n ls)) (lfN h i) = none := fun i hi => by
    by_cases hm : lfN h i ∈ trNb h n ls
    · exact (hR _).1 hm
    · rw [(hR _).2 hm]
      cases hc2 : play rs (lfN h i) with
      | none => rfl
      | some zs =>
        exfalso
        by_cases h20 : i * 2 ^ h < 1048576
        · exact hm ((hRm _).2 ⟨by rw [hc2]; simp, i, h20, hi, rfl⟩)
        · rw [hno (lfN h i) (fun j hj1 hj2 e => by
            have := (lfN_inj hh hh e).2
            subst this
            omega)] at hc2
          cases hc2
  have hother : ∀ x, (∀ i, x ≠ lfN h i) → play (trRb rs (trNb h n ls)) x = none := fun x hx2 => by
    have hm : x ∉ trNb h n ls := fun hm => by
      obtain ⟨_, q, _, _, hq3⟩ := (hRm _).1 hm
      exact hx2 q hq3
    rw [(hR _).2 hm]
    exact hno x (fun i _ _ => hx2 i)
  -- the cut
  have hnm : nmB (lfN h (n / 2 ^ h)) = true := lfN_nmq hh (by omega)
  have hlen : (ys.take n).length = n := by rw [List.length_take]; omega
  obtain ⟨Z, hZ⟩ : ∃ Z, trZb h n rs ls = Z := ⟨_, rfl⟩
  have hcut : (n % 2 ^ h = 0 → play (trSb h n rs ls) = play (trRb rs (trNb h n ls))) ∧ (n % 2 ^ h ≠ 0 → play (trSb h n rs ls) = upd (play (trRb rs (trNb h n ls))) (lfN h (n / 2 ^ h)) (some (lfF ((ys.drop (n / 2 ^ h * 2 ^ h)).take (n % 2 ^ h))))) := by
    constructor
    · intro h0
      have hg := hgone (n / 2 ^ h) (by omega)
      have hf : fE (trRb rs (trNb h n ls)) (lfN h (n / 2 ^ h)) = 121 := by simp [fE, hnm, hg]
      unfold trSb cuS
      rw [if_neg (fun hc3 => by
        have h3 := hc3.1
        unfold cuE at h3
        rw [hf] at h3
        simp at h3)]
    · intro h0
      have hlt : n / 2 ^ h * 2 ^ h < n := by omega
      obtain ⟨t, ht, _⟩ := hby (n / 2 ^ h) (by omega)
      have hkp := hkeep (n / 2 ^ h) hlt
      rw [ht] at hkp
      have hfl : fl (play (trRb rs (trNb h n ls))) (lfN h (n / 2 ^ h)) = lfF ((ys.drop (n / 2 ^ h * 2 ^ h)).take (2 ^ h)) ++ t := by unfold fl; rw [hkp]; rfl
      have hw : Go.Proofs.YtpocadbhajacaaaGreatDoor.wl (2 ^ h) (fl (play (trRb rs (trNb h n ls))) (lfN h (n / 2 ^ h))) = (ys.drop (n / 2 ^ h * 2 ^ h)).take (2 ^ h) := by
        have h2 := kw (n / 2 ^ h)
        unfold wlF at h2
        have h3 : fl (play rs) (lfN h (n / 2 ^ h)) = lfF ((ys.drop (n / 2 ^ h * 2 ^ h)).take (2 ^ h)) ++ t := by unfold fl; rw [ht]; rfl
        rw [h3] at h2
        rw [hfl]
        exact h2
      have hZe : Z = (lfF ((ys.drop (n / 2 ^ h * 2 ^ h)).take (n % 2 ^ h))).length := by
        rw [← hZ]
        unfold trZb
        rw [hw]
        unfold offL
        rw [List.take_take, Nat.min_eq_left (by omega)]
      have hsp : lfF ((ys.drop (n / 2 ^ h * 2 ^ h)).take (2 ^ h)) = lfF ((ys.drop (n / 2 ^ h * 2 ^ h)).take (n % 2 ^ h)) ++ lfF (((ys.drop (n / 2 ^ h * 2 ^ h)).take (2 ^ h)).drop (n % 2 ^ h)) := by
        rw [← lfF_app]
        congr 1
        conv => lhs; rw [← List.take_append_drop (n % 2 ^ h) ((ys.drop (n / 2 ^ h * 2 ^ h)).take (2 ^ h))]
        rw [List.take_take, Nat.min_eq_left (by omega)]
      have hf : fE (trRb rs (trNb h n ls)) (lfN h (n / 2 ^ h)) = 0 := by simp [fE, hnm, hkp]
      have hle : Z ≤ (fl (play (trRb rs (trNb h n ls))) (lfN h (n / 2 ^ h))).length := by rw [hfl, hsp, hZe, List.length_append, List.length_append]; omega
      have hce : cuE (trRb rs (trNb h n ls)) (lfN h (n / 2 ^ h)) (Z : Int) = 0 := by
        unfold cuE
        rw [if_pos hf, if_neg (by omega)]
      unfold trSb
      rw [hZ]
      unfold cuS
      rw [hce]
      by_cases hz : (Z : Int) < ((fl (play (trRb rs (trNb h n ls))) (lfN h (n / 2 ^ h))).length : Int)
      · rw [if_pos ⟨rfl, hz⟩, play_snoc, do_cu, hfl, Int.toNat_natCast, hsp, List.append_assoc, hZe, List.take_left]
      · rw [if_neg (fun h => hz h.2)]
        have hq : (lfF (((ys.drop (n / 2 ^ h * 2 ^ h)).take (2 ^ h)).drop (n % 2 ^ h)) ++ t) = [] := by
          rw [hfl, hsp, List.append_assoc, List.length_append, hZe] at hz
          exact List.eq_nil_of_length_eq_zero (by omega)
        have : play (trRb rs (trNb h n ls)) (lfN h (n / 2 ^ h)) = some (lfF ((ys.drop (n / 2 ^ h * 2 ^ h)).take (n % 2 ^ h))) := by rw [hkp, hsp, List.append_assoc, hq, List.append_nil]
        rw [← this, upd_self]
  constructor
  · intro i hi
    rw [hlen] at hi
    have h9 : i ≤ n / 2 ^ h := by rw [Nat.le_div_iff_mul_le hp]; omega
    have hdt : ((ys.take n).drop (i * 2 ^ h)) = (ys.drop (i * 2 ^ h)).take (n - i * 2 ^ h) := by rw [List.drop_take]
    rw [hdt, List.take_take]
    by_cases hi2 : i = n / 2 ^ h
    · subst hi2
      have h0 : n % 2 ^ h ≠ 0 := by omega
      rw [hcut.2 h0, upd_same, Nat.min_eq_right (by omega), show n - n / 2 ^ h * 2 ^ h = n % 2 ^ h by omega]
    · have hlt : i < n / 2 ^ h := by omega
      have h2 := Nat.mul_le_mul_right (2 ^ h) (show i + 1 ≤ n / 2 ^ h from hlt)
      rw [Nat.add_mul, Nat.one_mul] at h2
      have h3 : i < ys.length / 2 ^ h := Nat.lt_of_lt_of_le hlt (Nat.div_le_div_right h1)
      obtain ⟨t, ht, ht0⟩ := hby i (by omega)
      rw [ht0 h3, List.append_nil] at ht
      have hval : play (trSb h n rs ls) (lfN h i) = play (trRb rs (trNb h n ls)) (lfN h i) := by
        by_cases h0 : n % 2 ^ h = 0
        · rw [hcut.1 h0]
        · rw [hcut.2 h0, upd_ne _ _ (fun e => hi2 (lfN_inj hh hh e).2)]
      rw [hval, hkeep i hi, ht, Nat.min_eq_left (by omega)]
  · intro x hx2
    rw [hlen] at hx2
    have hval : play (trSb h n rs ls) x = play (trRb rs (trNb h n ls)) x := by
      by_cases h0 : n % 2 ^ h = 0
      · rw [hcut.1 h0]
      · rw [hcut.2 h0, upd_ne _ _ (hx2 _ (by omega))]
    rw [hval]
    by_cases hex : ∃ i, x = lfN h i
    · obtain ⟨i, rfl⟩ := hex
      refine hgone i ?_
      rcases Nat.lt_or_ge (i * 2 ^ h) n with hlt | hge
      · exact absurd rfl (hx2 i hlt)
      · exact hge
    · exact hother x (fun i e => hex ⟨i, e⟩)
/-- A Trim to all leaves writes nothing. -/
theorem FB.trim_all {h : Nat} (hh : hB h) {rs : List Rw} {ys : List (List Int)} (k : FB (play rs) h ys) (hx : LB ys) (hn : ys.length ≤ 1048576) {ls : List (ByteArray × List Int)} (hl : FL (play rs) ls) : trSb h ys.length rs ls = rs := by
  have hp := Nat.two_pow_pos h
  have h0 : trNb h ys.length ls = [] := by
    cases hq : trNb h ys.length ls with
    | nil => rfl
    | cons x t =>
      exfalso
      obtain ⟨h1, q, h2, h3, h4⟩ := (trNb_mem hl (H := h) (n := ys.length) (x := x)).1 (by rw [hq]; simp)
      rw [h4] at h1
      exact h1 (k.off hh h3)
  have hz : trZb h ys.length rs ls = (Go.Proofs.YtpocadbhajacaaaGreatDoor.fl (play rs) (lfN h (ys.length / 2 ^ h))).length := by
    unfold trZb
    rw [h0, trRb_nil]
    have h1 := (k.next hh hx).2
    unfold wlF at h1
    rw [h1, (k.next hh hx).1]
    unfold offL
    rw [List.take_of_length_le (by
      have e := Nat.div_add_mod ys.length (2 ^ h)
      rw [Nat.mul_comm] at e
      rw [List.length_drop]
      omega)]
  unfold trSb
  rw [hz, h0, trRb_nil]
  unfold cuS
  rw [if_neg (fun h => by omega)]

end Go.Proofs.YtpocadbhajacaaaGreatDoor

/-
  Leaves as an argument; those that may be; what Put, Read and Trim make of a height that was filled with them.
-/
namespace Go.Proofs.YtpocadbhajacaaaGreatDoor
open Go.ChangeShapes Go.WideShapes Go.ChangeAt Go.RowKit Go.Shelf
set_option linter.unusedVariables false
set_option linter.unusedSimpArgs false
set_option maxRecDepth 100000

/-- A slice of slices of bytes in memory: the rows that are leaves have their bytes. -/
structure Slv (w : World) (a : Option Addr) (len cap : Nat) (ps : List (List Int)) : Prop where
  hlen : ps.length = len
  hcap : len ≤ cap
  hmax : cap ≤ 9223372036854775807
  hnil : a = none → cap = 0
  hcell : ∀ i, i < len → ∃ b off ai li ci, a = some ⟨b, off, none⟩ ∧ w.cell? ⟨b, off + i, none⟩ = some (.slice ai li ci) ∧ (ps.getD i []).length = li ∧ li ≤ 9223372036854775807 ∧ (li ≤ 65535 → Sl w ai li ci (ps.getD i []))
theorem Slv.below {w w' : World} {a : Option Addr} {len cap : Nat} {ps : List (List Int)} (h : Slv w a len cap ps) (hb : Below w.heap.size w w') : Slv w' a len cap ps := by
  refine ⟨h.hlen, h.hcap, h.hmax, h.hnil, fun i hi => ?_⟩
  obtain ⟨b, off, ai, li, ci, e, hc, h1, h2, h3⟩ := h.hcell i hi
  exact ⟨b, off, ai, li, ci, e, by rw [hb.cell (World.block_lt_of_cell? w _ hc)]; exact hc, h1, h2, fun h => (h3 h).below hb⟩
theorem Slv.take {w : World} {a : Option Addr} {len cap : Nat} {ps : List (List Int)} (h : Slv w a len cap ps) {n : Nat} (hn : n ≤ len) : Slv w a n cap (ps.take n) := by
  refine ⟨by rw [List.length_take, h.hlen]; omega, Nat.le_trans hn h.hcap, h.hmax, h.hnil, fun i hi => ?_⟩
  have e : (ps.take n).getD i [] = ps.getD i [] := by simp only [List.getD, List.getElem?_take, if_pos hi]
  rw [e]
  exact h.hcell i (by omega)
theorem slv_open {H : Type} {enc : TypeId × Value → H} {W : World} {base : Nat} {v : Value} {d : DataW H} {p : List MemPlace}
    (hv : Value.okWide Tryz.prog W .any base 59 v) (h : DataW.Trod enc Tryz.prog W 0 (fun _ => true) true 59 v d p) :
    ∃ a len cap ps, v = .slice a len cap ∧ Slv W a len cap ps := by
  have hu : Tryz.prog.underlying 59 = some (.slice 31) := by kernel_rfl
  obtain ⟨a, len, cap, rfl⟩ := okWide_slice hu hv
  obtain ⟨fuel, hf⟩ := h
  rcases Deep.open_int_rows hu undBs undB (by kernel_rfl) (by kernel_rfl) hf with ⟨hcs, hx⟩ | ⟨x, l, c, A, L, C, Z, hcs, _, hl, hmx, hx, hcell⟩
  · simp [Value.cells] at hcs
    obtain ⟨rfl, rfl, rfl⟩ := hcs
    exact ⟨none, 0, 0, [], rfl, rfl, by omega, by omega, fun _ => rfl, fun i hi => absurd hi (by omega)⟩
  · simp [Value.cells] at hcs
    obtain ⟨rfl, rfl, rfl⟩ := hcs
    refine ⟨some x, len, cap, (List.range len).map fun r => (Z r).take (L r), rfl, by simp, hl, by unfold maxLen at hmx; omega, fun e => (by cases e), fun i hi => ?_⟩
    obtain ⟨h0, h1, h2, h3, h4, h5, h6⟩ := hcell i (by omega)
    obtain ⟨b, off, spot⟩ := x
    have hsp : spot = none := by
      have := (hcell 0 (by omega)).1
      simpa [Addr.add] using World.cell?_spot this
    subst hsp
    rw [Addr.add_lit] at h0
    have hg : ((List.range len).map fun r => (Z r).take (L r)).getD i [] = (Z i).take (L i) := by simp [List.getD, hi]
    have hmc : C i ≤ 9223372036854775807 := by have := h2; unfold maxLen at this; omega
    refine ⟨b, off, A i, L i, C i, rfl, h0, ?_, by omega, fun hli => ?_⟩
    · rw [hg, List.length_take]; omega
    · rw [hg]
      refine ⟨by rw [List.length_take]; omega, h1, hmc, by omega, fun y hy => wf_u8 (h4 y (List.mem_of_mem_take hy)), fun e => ?_, fun hp => ?_⟩
      · have := h5 e
        omega
      · cases hA : A i with
        | none => have := h5 hA; omega
        | some a' =>
          obtain ⟨_, hc'⟩ := h6 a' hA
          obtain ⟨b', off', spot'⟩ := a'
          have hs : spot' = none := by simpa [Addr.add] using World.cell?_spot (hc' 0 (by omega))
          subst hs
          refine ⟨b', off', rfl, fun j hj => ?_⟩
          have e := hc' j (by omega)
          rw [Addr.add_lit] at e
          rw [e]
          simp [List.getD, hj]
theorem sizeV (w : World) : (sizeOf 31).run Tryz.prog w = .ok 1 w := by kernel_rfl
theorem undV : Tryz.prog.underlying 59 = some (.slice (Tryz.prog.elem 59)) := by kernel_rfl
theorem elemV : Tryz.prog.elem 59 = 31 := by kernel_rfl
theorem sl_toV (a : Option Addr) (n cap k : Nat) (K : Int) (hK : K = (k : Int)) (hk : k ≤ cap) (hn : a = none → cap = 0) (v : World) :
    (Instr.slice 59 (.slice a n cap) none (some (.int .i64 K)) none).run Tryz.prog v = .ok (.slice a k cap) v := by
  subst hK
  rw [run_slice_h v _ _ _ _ undV .i64 k (by omega) (by omega), elemV, sizeV]
  cases a with
  | none =>
    have h0 := hn rfl
    subst h0
    have h1 : k = 0 := by omega
    subst h1
    show Result.ok (sliced none 0 (((0 : Nat) : Int)).toNat 0 1) v = _
    simp [sliced]
  | some a =>
    obtain ⟨b, off, spot⟩ := a
    by_cases h0 : cap = 0
    · simp [sliced, h0]
    · have e : (⟨b, off, spot⟩ : Addr).add 0 = ⟨b, off, spot⟩ := by cases spot <;> simp [Addr.add]
      simp [sliced, e]
theorem v_at (b off n cap i : Nat) (I : Int) (hI : I = (i : Int)) (hi : i < n) (v : World) : (Instr.indexAt 59 (.slice (some ⟨b, off, none⟩) n cap) (.int .i64 I)).run Tryz.prog v = .ok (.pointer (some ⟨b, off + i, none⟩)) v := by
  subst hI
  rw [run_indexAt_slice v _ _ _ _ .i64 i undV, if_pos ⟨by omega, by omega⟩, elemV, sizeV]
  simp only [Result.andThen_ok, Int.toNat_natCast]
  rw [Addr.add_lit, Nat.mul_one]

/-! ### the leaves that may be -/
def okL (x : List Int) : Bool := decide (x.length ≤ 65535)
def gl (ps : List (List Int)) (k : Nat) : List (List Int) := (ps.take k).filter okL
theorem gl_zero (ps : List (List Int)) : gl ps 0 = [] := by simp [gl]
theorem gl_succ {ps : List (List Int)} {k : Nat} (hk : k < ps.length) : gl ps (k + 1) = gl ps k ++ (if (ps.getD k []).length ≤ 65535 then [ps.getD k []] else []) := by
  unfold gl
  have e : ps.getD k [] = ps[k] := by simp [List.getD, hk]
  rw [List.take_succ_eq_append_getElem hk, List.filter_append, e]
  congr 1
  by_cases h : ps[k].length ≤ 65535
  · rw [if_pos h]; simp [okL, h]
  · rw [if_neg h]; simp [okL, h]
theorem gl_yes {ps : List (List Int)} {k : Nat} (hk : k < ps.length) (h : (ps.getD k []).length ≤ 65535) : gl ps (k + 1) = gl ps k ++ [ps.getD k []] := by rw [gl_succ hk, if_pos h]
theorem gl_no {ps : List (List Int)} {k : Nat} (hk : k < ps.length) (h : ¬ (ps.getD k []).length ≤ 65535) : gl ps (k + 1) = gl ps k := by rw [gl_succ hk, if_neg h, List.append_nil]
theorem gl_len (ps : List (List Int)) (k : Nat) : (gl ps k).length ≤ k := by
  unfold gl
  have := List.length_filter_le okL (ps.take k)
  rw [List.length_take] at this
  omega
theorem gl_pre (ps : List (List Int)) {k n : Nat} (h : k ≤ n) : ∃ t, gl ps n = gl ps k ++ t := by
  unfold gl
  refine ⟨((ps.drop k).take (n - k)).filter okL, ?_⟩
  rw [← List.filter_append, ← List.take_add, Nat.add_sub_cancel' h]
theorem gl_take (ps : List (List Int)) {k n : Nat} (h : k ≤ n) : (gl ps n).take (gl ps k).length = gl ps k := by
  obtain ⟨t, e⟩ := gl_pre ps h
  rw [e, List.take_left]
theorem gl_LB {ps : List (List Int)} {w : World} {a : Option Addr} {len cap : Nat} (hs : Slv w a len cap ps) (k : Nat) : LB (gl ps k) := by
  intro x hx
  unfold gl at hx
  obtain ⟨h1, h2⟩ := List.mem_filter.1 hx
  have h3 : x.length ≤ 65535 := by simpa [okL] using h2
  obtain ⟨i, hi, rfl⟩ := List.mem_iff_getElem.1 (List.mem_of_mem_take h1)
  obtain ⟨b, off, ai, li, ci, e, hc, g1, g2, g3⟩ := hs.hcell i (by rw [← hs.hlen]; exact hi)
  have e : ps.getD i [] = ps[i] := by simp [List.getD, hi]
  rw [e] at g1 g3
  exact ⟨h3, (g3 (by omega)).hbyte⟩

/-! ### a height that was filled -/
section
variable {s H : Nat} {rs : List Rw} {ys : List (List Int)}
theorem reEb_fs (hh : hB H) (hF : FB (play rs) H ys) (hx : LB ys) : reEb rs H (lfN H (ys.length / 2 ^ H)) = 0 := by
  have hp := Nat.two_pow_pos H
  have e := Nat.div_add_mod ys.length (2 ^ H)
  have m := Nat.mod_lt ys.length hp
  rw [Nat.mul_comm] at e
  obtain ⟨n1, n2⟩ := hF.next hh hx
  unfold wlF at n2
  unfold reEb wlE
  rw [n2, n1, if_neg (Nat.lt_irrefl _)]
theorem putB_fs (hs : 1 ≤ s) (hh : hB H) (hv : Val s (fun _ => none) rs) (hF : FB (play rs) H ys) (hx : LB ys) (hn : ys.length < 1048576) {x : List Int} (hl : x.length ≤ 65535) (hb : isB x) :
    puEb rs (H : Int) (ys.length : Int) ys.length x = 0 ∧ puSb s rs (H : Int) (ys.length : Int) ys.length x = puW s rs (lfN H (ys.length / 2 ^ H)) (lfB x) ∧ FB (play (puW s rs (lfN H (ys.length / 2 ^ H)) (lfB x))) H (ys ++ [x]) ∧ wt (puW s rs (lfN H (ys.length / 2 ^ H)) (lfB x)) ≤ wt rs + 131080 := by
  have h0 : puEb rs (H : Int) (ys.length : Int) ys.length x = 0 := by
    unfold puEb
    rw [if_pos (bnE_nat hh hn), if_pos hl, if_pos rfl, bnP_nat hh hn, Int.toNat_natCast, reEb_fs hh hF hx]
  obtain ⟨a, b, c⟩ := puW_play hs hv (lfN_nmq hh (n := ys.length) (by omega)) (lfB_ne x) (lfB_isB hl hb)
  rw [lfB_len] at c
  refine ⟨h0, ?_, ?_, by omega⟩
  · unfold puSb
    rw [if_pos h0, bnP_nat hh hn]
  · rw [b]
    exact hF.snoc hh hx x
theorem rdL_nat {a : Nat} (hh : hB H) (ha : a < 1048576) : rdL rs (H : Int) (a : Int) = wlF (play rs) H (a / 2 ^ H) ∧ rdK rs (H : Int) (a : Int) = a % 2 ^ H := by
  unfold rdL rdK wlF
  rw [bnP_nat hh ha, Int.toNat_natCast, Int.toNat_natCast]
  exact ⟨rfl, rfl⟩
theorem rdB_fs (hh : hB H) (hF : FB (play rs) H ys) (hx : LB ys) (hn : ys.length ≤ 1048576) {a : Nat} (ha : a < ys.length) : rdEb rs (H : Int) (a : Int) = 0 ∧ rdBb rs (H : Int) (a : Int) = ys.getD a [] := by
  obtain ⟨e1, e2⟩ := rdL_nat (rs := rs) (a := a) hh (by omega)
  have h1 := (hF.cn hh hx hn).1 a ha
  have h2 := hF.lf hx ha
  unfold hasL at h1
  simp only [Bool.and_eq_true, decide_eq_true_eq] at h1
  have h0 : rdEb rs (H : Int) (a : Int) = 0 := by
    unfold rdEb
    rw [if_pos (bnE_nat hh (by omega)), e1, e2, if_pos h1.2]
  refine ⟨h0, ?_⟩
  unfold rdBb
  rw [if_pos h0, e1, e2]
  exact h2
theorem rdB_end (hh : hB H) (hF : FB (play rs) H ys) (hx : LB ys) (hn : ys.length < 1048576) : rdEb rs (H : Int) (ys.length : Int) = 121 := by
  obtain ⟨e1, e2⟩ := rdL_nat (rs := rs) (a := ys.length) hh (by omega)
  have h1 := (hF.cn hh hx (by omega)).2
  unfold hasL at h1
  rw [decide_eq_true hn, Bool.true_and, decide_eq_false_iff_not] at h1
  unfold rdEb
  rw [if_pos (bnE_nat hh (by omega)), e1, e2, if_neg h1]
theorem trSb_wt (H n : Nat) (rs : List Rw) (ls : List (ByteArray × List Int)) : wt (trSb H n rs ls) ≤ wt rs + ls.length + 1 := by
  have h1 := trRb_wt rs (trNb H n ls)
  have h2 := trNb_le H n ls
  unfold trSb cuS
  split
  · rw [wt_app]
    have e : ∀ m k, wt [rCu m k] = 1 := fun m k => rfl
    rw [e]
    omega
  · omega
end
section
variable {F : ByteArray → Option (List Int)} {h : Nat} {ys : List (List Int)}
/-- The files behind a loss of power. -/
theorem TB.names (k : TB F h ys) {n : ByteArray} (hn : F n ≠ none) : ∃ i, i * 2 ^ h ≤ ys.length ∧ n = lfN h i := by
  obtain ⟨F0, hF, hc⟩ := k
  have hin : F0 n ≠ none → ∃ i, i * 2 ^ h ≤ ys.length ∧ n = lfN h i := fun h0 => by
    by_cases hk : ∃ i, i * 2 ^ h < ys.length ∧ n = lfN h i
    · obtain ⟨i, h1, h2⟩ := hk
      exact ⟨i, Nat.le_of_lt h1, h2⟩
    · exact absurd (hF.no n (fun i hi e => hk ⟨i, hi, e⟩)) h0
  rcases hc with rfl | ⟨_, x, e', _, _, rfl⟩
  · exact hin hn
  · by_cases e : n = lfN h (ys.length / 2 ^ h)
    · exact ⟨_, Nat.div_mul_le_self _ _, e⟩
    · rw [upd_ne _ _ e] at hn
      exact hin hn
theorem TB.few (k : TB F h ys) {l : List (ByteArray × List Int)} (hl : FL F l) : l.length ≤ ys.length + 1 := by
  have hp := Nat.two_pow_pos h
  have := sub_len (l.map (·.1)) ((List.range (ys.length + 1)).map (lfN h)) hl.nodup (fun n hn => by
    obtain ⟨⟨m, xs⟩, h1, rfl⟩ := List.mem_map.1 hn
    have h2 := (hl.mem m xs).2 h1
    obtain ⟨i, h3, h4⟩ := k.names (n := m) (by rw [h2]; simp)
    have h5 : i * 1 ≤ i * 2 ^ h := Nat.mul_le_mul_left i hp
    exact List.mem_map.2 ⟨i, List.mem_range.2 (by omega), h4.symm⟩)
  simpa using this
end
theorem mod_cutB (q : Int) (N : Nat) (hN : N ≤ 1099511000000) : ∃ c : Nat, (wrap64 (q.tmod ((N + 1 : Nat) : Int) + ((N + 1 : Nat) : Int))).tmod ((N + 1 : Nat) : Int) = (c : Int) ∧ c ≤ N := by
  have hp : (0 : Int) < ((N + 1 : Nat) : Int) := by omega
  have h1 := Int.tmod_lt_of_pos q hp
  have h2 := Int.lt_tmod_of_pos q hp
  generalize q.tmod ((N + 1 : Nat) : Int) = r at *
  have hw : wrap64 (r + ((N + 1 : Nat) : Int)) = r + ((N + 1 : Nat) : Int) := by unfold wrap64; omega
  rw [hw]
  have h4 : 0 ≤ (r + ((N + 1 : Nat) : Int)).tmod ((N + 1 : Nat) : Int) := Int.tmod_nonneg _ (by omega)
  have h5 := Int.tmod_lt_of_pos (r + ((N + 1 : Nat) : Int)) hp
  exact ⟨((r + ((N + 1 : Nat) : Int)).tmod ((N + 1 : Nat) : Int)).toNat, by omega, by omega⟩
theorem ht15 (h : Int) : ∃ H : Nat, wrap64 (1 + (wrap64 (h.tmod 8 + 8)).tmod 8) = (H : Int) ∧ hB H := by
  obtain ⟨c, h1, h2⟩ := mod_cutB h 7 (by omega)
  have e : ((7 + 1 : Nat) : Int) = 8 := rfl
  rw [e] at h1
  rw [h1]
  exact ⟨c + 1, by unfold wrap64; omega, by omega, by omega⟩
/-- What a height is behind any of the raw writes that filled it. -/
theorem pow_cutB {s H : Nat} (hs : 1 ≤ s) (hh : hB H) {ys : List (List Int)} (hx : LB ys) (hn : ys.length ≤ 1048576) (c : Nat) :
    ∃ m, m ≤ ys.length ∧ TB (play ((rsB s H ys.reverse).take c)) H (ys.take m) ∧ wt ((rsB s H ys.reverse).take c) ≤ 131080 * ys.length := by
  have hlr : ys.reverse.length = ys.length := List.length_reverse
  obtain ⟨j, hj⟩ := rsB_take hs hh ys.reverse hx.rev (by omega) c
  have h3 := (rsB_is hs hh ys.reverse hx.rev (by omega)).2.2
  rw [hlr] at h3
  rw [List.drop_reverse, List.reverse_reverse] at hj
  exact ⟨ys.length - j, Nat.sub_le _ _, hj, Nat.le_trans (wt_take _ _) h3⟩
section
variable (d s : Nat) (rs : List Rw) (D : Dm) (w : World) (hd : DkAt w d s rs D)
include hd
set_option maxHeartbeats 1000000 in
theorem putB_big (H i : Nat) (a : Option Addr) (l c : Nat) (hh : hB H) (hi : i < 1048576) (ht : PT w) (hl : 65535 < l) (hl2 : l ≤ 9223372036854775807) :
    Calls Tryz.prog 10 #[.pointer (some ⟨d, 0, none⟩), .int .i64 (H : Int), .int .i64 (i : Int), .slice a l c] w fun r w' => r = .returned (.int .i64 3) ∧ OpR w w' d s D rs := by
  have HD := hide hd
  have HT := hide ht
  have HMD := hide (madeB_any d s rs D w hd)
  have HNM : Hid (∀ W : World, PT W → Calls Tryz.prog 32 #[.int .i64 (H : Int), .int .i64 (i : Int)] W fun r w' => r = .returned (.tuple #[.string (bnP (H : Int) (i : Int)), .int .i64 (bnE (H : Int) (i : Int))]) ∧ Below W.heap.size W w') := hide (fun W h2 => bname_any (H : Int) (i : Int) W h2)
  rw [bnE_nat hh hi] at HNM
  have hli : (65535 : Int) < (l : Int) := by omega
  generalize bnP (H : Int) (i : Int) = nm at *
  clear hd ht hh hi
  go_enter Tryz.func10, Tryz.ntmps10
  go_wp2_with (go_at_call 31; refine HMD.out.mono ?_; rintro r w' ⟨rfl, hw'⟩; subst w')
  refine (HNM.out _ HT.out).mono ?_
  rintro r w1 ⟨rfl, hb1⟩
  have HB1 := hide hb1
  clear hb1
  go_wp2
  go_ret
  exact ⟨rfl, OpR.below HD.out HB1.out⟩
end

end Go.Proofs.YtpocadbhajacaaaGreatDoor

/-
  Trim where it writes nothing and tells an error.
-/
namespace Go.Proofs.YtpocadbhajacaaaGreatDoor
open Go.RowKit Go.Shelf
set_option linter.unusedVariables false
set_option linter.unusedSimpArgs false
set_option maxRecDepth 100000

def trEb (h n : Int) : Int := if bnE h 0 = 0 then (if n < 0 then 2 else 40) else 2
section
variable (d s : Nat) (rs : List Rw) (D : Dm) (w : World) (hd : DkAt w d s rs D)
include hd
set_option maxHeartbeats 1000000 in
theorem trimB_bad (h n : Int) (c : Nat) (ht : PT w) (hn : bnE h 0 = 0 → CnL (play rs) h.toNat c) (hwt : wt rs ≤ 1099511000000) (hbad : bnE h 0 = 0 → n < 0 ∨ (c : Int) < n) :
    Calls Tryz.prog 12 #[.pointer (some ⟨d, 0, none⟩), .int .i64 h, .int .i64 n] w fun r w' => r = .returned (.int .i64 (trEb h n)) ∧ Below w.heap.size w w' := by
  have HCU := hide (countB_any d s rs D w hd h c ht hn hwt)
  unfold trEb
  by_cases he : bnE h 0 = 0
  · have hb := hbad he
    rw [he] at HCU
    rw [if_pos rfl] at HCU
    rw [if_pos he]
    clear hd ht hn hwt hbad he
    by_cases h0 : n < 0
    · rw [if_pos h0]
      go_enter Tryz.func12, Tryz.ntmps12
      go_wp2_with fail
      refine HCU.out.mono ?_
      rintro r w1 ⟨rfl, hb1⟩
      go_wp2
      go_ret
      exact ⟨rfl, hb1⟩
    · rw [if_neg h0]
      have h1 : (c : Int) < n := by omega
      go_enter Tryz.func12, Tryz.ntmps12
      go_wp2_with fail
      refine HCU.out.mono ?_
      rintro r w1 ⟨rfl, hb1⟩
      go_wp2
      go_ret
      exact ⟨rfl, hb1⟩
  · rw [if_neg he]
    have e2 : bnE h 0 = 2 := by rcases bnE_bin h 0 with k | k; exact absurd k he; exact k
    rw [if_neg he, e2] at HCU
    clear hd ht hn hwt hbad he e2
    go_enter Tryz.func12, Tryz.ntmps12
    go_wp2_with fail
    refine HCU.out.mono ?_
    rintro r w1 ⟨rfl, hb1⟩
    go_wp2
    go_ret
    exact ⟨rfl, hb1⟩
end

end Go.Proofs.YtpocadbhajacaaaGreatDoor

/-
  The walk of BundleTrims.
-/
namespace Go.Proofs.YtpocadbhajacaaaGreatDoor
open Go.RowKit Go.Shelf
set_option linter.unusedVariables false
set_option linter.unusedSimpArgs false
set_option maxRecDepth 100000

theorem mod_cutT (q : Int) (N : Nat) (hN : N ≤ 1099511000000) : ∃ c : Nat, (wrap64 (wrap64 (q.tmod ((N : Int) + 1) + (N : Int)) + 1)).tmod ((N : Int) + 1) = (c : Int) ∧ c ≤ N := by
  have hp : (0 : Int) < (N : Int) + 1 := by omega
  have h1 := Int.tmod_lt_of_pos q hp
  have h2 := Int.lt_tmod_of_pos q hp
  generalize q.tmod ((N : Int) + 1) = r at *
  have hw : wrap64 (wrap64 (r + (N : Int)) + 1) = r + (N : Int) + 1 := by unfold wrap64; omega
  rw [hw]
  have h4 : 0 ≤ (r + (N : Int) + 1).tmod ((N : Int) + 1) := Int.tmod_nonneg _ (by omega)
  have h5 := Int.tmod_lt_of_pos (r + (N : Int) + 1) hp
  exact ⟨((r + (N : Int) + 1).tmod ((N : Int) + 1)).toNat, by omega, by omega⟩
set_option maxHeartbeats 4000000 in
theorem btrim_walk (h : Int) (a : Option Addr) (len cap : Nat) (ps : List (List Int)) (cut : Int) (w : World) (hs : Slv w a len cap ps) (he : EV w) :
    Calls Tryz.prog 6 #[.int .i64 h, .slice a len cap, .int .i64 cut] w fun e w' => e = .returned (.bool true) ∧ Below w.heap.size w w' := by
  obtain ⟨H, hH, hh⟩ := ht15 h
  obtain ⟨N, hN1, hN2, hN3⟩ : ∃ N : Nat, N ≤ len ∧ N ≤ 3000 ∧ min (len : Int) 3000 = (N : Int) := ⟨min len 3000, by omega, by omega, by omega⟩
  have hcap := hs.hcap
  have hsl0 : (∀ v : World, (Instr.slice 59 (.slice a len cap) none (some (.int .i64 (N : Int))) none).run Tryz.prog v = .ok (.slice a N cap) v) := (fun v => sl_toV a len cap N (N : Int) rfl (by omega) hs.hnil v)
  have hs2 := hs.take hN1
  obtain ⟨qs, hqs⟩ : ∃ qs, ps.take N = qs := ⟨_, rfl⟩
  rw [hqs] at hs2
  have hql : qs.length = N := hs2.hlen
  have HDS := hide hs2
  have HE := hide he
  have hH8 : (H : Int) ≤ 8 := by have := hh.2; omega
  have hLB : ∀ k, LB (gl qs k) := fun k => gl_LB hs2 k
  have hgn : ∀ k, (gl qs k).length ≤ k := gl_len qs
  have HP1 : Hid (∀ (k : Nat), k < N → ∀ (W : World) (d : Nat) (D : Dm) (ai : Option Addr) (li ci : Nat), DkAt W d 512 (rsB 512 H (gl qs k).reverse) D → (∀ q, D.own d q → w.heap.size ≤ q) → Below w.heap.size w W → (qs.getD k []).length = li → li ≤ 9223372036854775807 → (li ≤ 65535 → Sl w ai li ci (qs.getD k [])) →
      Calls Tryz.prog 10 #[.pointer (some ⟨d, 0, none⟩), .int .i64 (H : Int), .int .i64 (((gl qs k).length : Nat) : Int), .slice ai li ci] W fun r w' => r = .returned (.int .i64 (if li ≤ 65535 then 0 else 3)) ∧ OpR W w' d 512 D (rsB 512 H (gl qs (k + 1)).reverse)) := hide (fun k hk W d D ai li ci hW hown hb hl1 hl2 hl3 => by
    have hkq : k < qs.length := by omega
    have hgk := hgn k
    by_cases hle : li ≤ 65535
    · rw [if_pos hle, gl_yes hkq (by omega), List.reverse_append]
      obtain ⟨p1, p2, p3⟩ := rsB_is (s := 512) (by decide) hh (gl qs k).reverse (hLB k).rev (by rw [List.length_reverse]; omega)
      rw [List.reverse_reverse] at p2
      rw [List.length_reverse] at p3
      have hsl := (hl3 hle)
      have hx : isB (qs.getD k []) := hsl.hbyte
      obtain ⟨q1, q2, q3, q4⟩ := putB_fs (s := 512) (by decide) hh p1 p2 (hLB k) (by omega) (x := qs.getD k []) (by omega) hx
      have := putB_any d 512 (rsB 512 H (gl qs k).reverse) D W hW (H : Int) (((gl qs k).length : Nat) : Int) (gl qs k).length ai li ci (qs.getD k []) (hsl.below hb)
        (fun h0 y hy hy2 => by
          obtain ⟨b, off, e, hc⟩ := hsl.hcell h0
          rw [hy] at e
          cases e
          have h1 := World.block_lt_of_cell? w _ (hc 0 h0)
          have h2 := hown _ hy2
          simp only at h1 h2
          omega)
        (he.pt.below hb) (fun _ => by rw [Int.toNat_natCast]; exact p2.cn hh (hLB k) (by omega)) (by omega)
      rw [q1, q2] at this
      refine this.mono ?_
      rintro r w' ⟨rfl, ho⟩
      refine ⟨rfl, ?_⟩
      show OpR W w' d 512 D (puW 512 (rsB 512 H (gl qs k).reverse) (lfN H ((gl qs k).reverse.length / 2 ^ H)) (lfB (qs.getD k [])))
      rw [List.length_reverse]
      exact ho
    · rw [if_neg hle, gl_no hkq (by omega)]
      exact putB_big d 512 _ D W hW H _ ai li ci hh (by omega) (he.pt.below hb) (by omega) hl2)
  obtain ⟨G, HG⟩ : ∃ G, Hid (gl qs N = G) := ⟨_, hide rfl⟩
  have hGB : LB G := by rw [← HG.out]; exact hLB N
  have hGn : G.length ≤ 3000 := by have := hgn N; rw [HG.out] at this; omega
  obtain ⟨g1, g2, g3⟩ := rsB_is (s := 512) (by decide) hh G.reverse hGB.rev (by rw [List.length_reverse]; omega)
  rw [List.length_reverse] at g3
  rw [List.reverse_reverse] at g2
  obtain ⟨rs, HRS⟩ : ∃ rs, Hid (rsB 512 H G.reverse = rs) := ⟨_, hide rfl⟩
  obtain ⟨M, HM⟩ : ∃ M, Hid (rs.length = M) := ⟨_, hide rfl⟩
  rw [HRS.out] at g1 g2 g3
  obtain ⟨c, hc1, hc2⟩ := mod_cutT cut G.length (by omega)
  obtain ⟨ls, hls⟩ := FL.play_ex rs
  have hfew := g2.tb.few hls
  have hcn : CnL (play rs) H G.length := g2.cn hh hGB (by omega)
  have HT1 : Hid (∀ (W : World) (d : Nat) (D1 : Dm), DkAt W d 512 rs D1 → Below w.heap.size w W → (∀ k, D1.own d k → w.heap.size ≤ k) → Calls Tryz.prog 12 #[.pointer (some ⟨d, 0, none⟩), .int .i64 (H : Int), .int .i64 (G.length : Int)] W fun r w' => r = .returned (.int .i64 0) ∧ OpR W w' d 512 D1 rs) := hide (fun W d D1 hW hbw how => by
    have := trimB_ok d 512 rs D1 ls H G.length G.length w W he hbw how hW hls hh hcn (Nat.le_refl _) (by omega) (by omega)
    rw [g2.trim_all hh hGB (by omega) hls] at this
    exact this)
  have htl : (G.take c).length = c := by rw [List.length_take]; omega
  have HT2 : Hid (∀ (W : World) (d : Nat) (D1 : Dm), DkAt W d 512 rs D1 → Below w.heap.size w W → (∀ k, D1.own d k → w.heap.size ≤ k) → Calls Tryz.prog 12 #[.pointer (some ⟨d, 0, none⟩), .int .i64 (H : Int), .int .i64 (c : Int)] W fun r w' => r = .returned (.int .i64 0) ∧ ∃ rs2, OpR W w' d 512 D1 rs2 ∧ FB (play rs2) H (G.take c) ∧ wt rs2 ≤ 1000000000) := hide (fun W d D1 hW hbw how => by
    refine (trimB_ok d 512 rs D1 ls H G.length c w W he hbw how hW hls hh hcn hc2 (by omega) (by omega)).mono ?_
    rintro r w' ⟨rfl, ho⟩
    have hw2 := trSb_wt H c rs ls
    exact ⟨rfl, _, ho, g2.tb.trim hh hGB (by omega) hls hc2, by omega⟩)
  have HT3 : Hid (∀ (W : World) (d : Nat) (D1 : Dm) (rs2 : List Rw), DkAt W d 512 rs2 D1 → PT W → FB (play rs2) H (G.take c) → wt rs2 ≤ 1000000000 → Calls Tryz.prog 12 #[.pointer (some ⟨d, 0, none⟩), .int .i64 (H : Int), .int .i64 ((c : Int) + 1)] W fun r w' => r = .returned (.int .i64 40) ∧ Below W.heap.size W w') := hide (fun W d D1 rs2 hW hp hF hw2 => by
    have h2 : CnL (play rs2) H c := by
      have := hF.cn hh (hGB.take c) (by omega)
      rwa [htl] at this
    have := trimB_bad d 512 rs2 D1 W hW (H : Int) ((c : Int) + 1) c hp (fun _ => by rw [Int.toNat_natCast]; exact h2) (by omega) (fun _ => .inr (by omega))
    have e1 : trEb (H : Int) ((c : Int) + 1) = 40 := by
      unfold trEb
      rw [if_pos (show bnE (H : Int) 0 = 0 from bnE_nat (I := 0) hh (by decide)), if_neg (by omega)]
    rw [e1] at this
    exact this)
  have HCU : Hid (∀ (W : World) (d : Nat) (D1 : Dm) (rs2 : List Rw), DkAt W d 512 rs2 D1 → PT W → FB (play rs2) H (G.take c) → wt rs2 ≤ 1000000000 → Calls Tryz.prog 18 #[.pointer (some ⟨d, 0, none⟩), .int .i64 (H : Int)] W fun r w' => r = .returned (.tuple #[.int .i64 (c : Int), .int .i64 0]) ∧ Below W.heap.size W w') := hide (fun W d D1 rs2 hW hp hF hw2 => by
    have h2 : CnL (play rs2) H c := by
      have := hF.cn hh (hGB.take c) (by omega)
      rwa [htl] at this
    exact countB_ok d 512 rs2 D1 W hW H c hh h2 hp (by omega))
  have HRD : Hid (∀ (W : World) (d : Nat) (D1 : Dm) (rs2 : List Rw), DkAt W d 512 rs2 D1 → PT W → FB (play rs2) H (G.take c) → wt rs2 ≤ 1000000000 → Calls Tryz.prog 14 #[.pointer (some ⟨d, 0, none⟩), .int .i64 (H : Int), .int .i64 (c : Int)] W fun r w' => ∃ v, r = .returned (.tuple #[v, .int .i64 121]) ∧ Below W.heap.size W w') := hide (fun W d D1 rs2 hW hp hF hw2 => by
    have e1 := rdB_end hh hF (hGB.take c) (by omega)
    rw [htl] at e1
    have := readB_any d 512 rs2 D1 W hW (H : Int) (c : Int) hp (by omega)
    rw [e1] at this
    refine this.mono ?_
    rintro r w' ⟨v, rfl, _, hb⟩
    exact ⟨v, rfl, hb⟩)
  have HWR : Hid (∀ (W : World) (d : Nat) (D : Dm), DkAt W d 512 rs D → Calls Tryz.prog 21 #[.pointer (some ⟨d, 0, none⟩)] W fun e w' => e = .returned (.int .i64 (M : Int)) ∧ w' = W) := hide (fun W d D hW => by
    have := writes_any d 512 rs D W hW
    rw [HM.out] at this
    exact this)
  have HGS : Hid (∀ k, k < N → (qs.getD k []).length ≤ 65535 → (gl qs (k + 1)).length = (gl qs k).length + 1) := hide (fun k hk hle => by
    rw [gl_yes (by omega) hle, List.length_append]; rfl)
  have HGN : Hid (∀ k, k < N → ¬ (qs.getD k []).length ≤ 65535 → (gl qs (k + 1)).length = (gl qs k).length) := hide (fun k hk hle => by
    rw [gl_no (by omega) hle])
  have HGL : Hid (∀ k, k ≤ N → (gl qs k).length ≤ k) := hide (fun k _ => hgn k)
  have HG0 : Hid ((gl qs 0).length = 0) := hide (by rw [gl_zero]; rfl)
  have HGNN : Hid ((gl qs N).length = G.length) := hide (by rw [HG.out])
  have HGP : Hid (0 < N → (qs.getD 0 []).length ≤ 65535 → 0 < G.length) := hide (fun h0 hle => by
    obtain ⟨t, e⟩ := gl_pre qs (show 0 + 1 ≤ N from h0)
    rw [HG.out, gl_yes (by omega) hle] at e
    rw [e, List.length_append, List.length_append, List.length_cons]
    omega)
  have HRSN : Hid (rsB 512 H (gl qs N).reverse = rs) := hide (by rw [HG.out]; exact HRS.out)
  have HC1 := hide hc1
  have HH := hide hH
  clear hs he hs2 hqs hLB hgn hGB g1 g2 g3 hH hh hcn HRS HM HG hc1 hcap hls hfew htl
  go_enter Tryz.func6, Tryz.ntmps6
  go_wp2_with fail
  clear hN3 hsl0
  rw [HH.out]
  refine (new_ok 512 w (by decide) (by decide)).mono ?_
  rintro r w1 ⟨d, m0, rfl, hN⟩
  have HD1 := hide (New0.dkAt (s := 512) hN (by decide) (by decide))
  have HB1 := hide hN.bel
  have HO1 : Hid (∀ k, (⟨m0, .slice none 0 0, [], []⟩ : Dm).own d k ∨ (⟨m0, .slice none 0 0, [], []⟩ : Dm).ro k → w.heap.size ≤ k) := hide (fun k hk => by
    rcases hk with hk | ⟨x, hx, _⟩
    · exact hN.own k hk
    · cases hx)
  clear hN
  have HD1' : Hid (DkAt w1 d 512 (rsB 512 H (gl qs 0).reverse) ⟨m0, .slice none 0 0, [], []⟩) := hide (by rw [gl_zero]; exact HD1.out)
  clear HD1
  go_wp2_with fail
  go_loopw [10, 11] (fun n p wr => ∃ (k : Nat) (D : Dm), k ≤ N ∧ n = .int .i64 (((gl qs k).length : Nat) : Int) ∧ p = .int .i64 (k : Int) ∧ Hid (DkAt wr d 512 (rsB 512 H (gl qs k).reverse) D) ∧ Hid (Below w.heap.size w wr) ∧ Hid (∀ q, D.own d q ∨ D.ro q → w.heap.size ≤ q)) (fun _ p _ => N - (intOf p).toNat)
  case atStart => exact ⟨0, _, Nat.zero_le _, by rw [HG0.out]; rfl, rfl, HD1', HB1, HO1⟩
  case round =>
    clear HD1' HB1 HO1
    obtain ⟨k, D, hk, rfl, rfl, HD, HB, HO⟩ := hrel
    by_cases hlt : k < N
    · have hlti : (k : Int) < (N : Int) := by omega
      obtain ⟨b, off, ai, li, ci, ea, hc0, hl1, hl2, hl30⟩ := HDS.out.hcell k hlt
      subst ea
      have hc : wr.cell? ⟨b, off + k, none⟩ = some (.slice ai li ci) := by rw [HB.out.cell (World.block_lt_of_cell? w _ hc0)]; exact hc0
      have hix := v_at b off N cap k (k : Int) rfl hlt
      have HP := hide (HP1.out k hlt wr d D ai li ci HD.out (fun q hq => HO.out q (.inl hq)) HB.out hl1 hl2 hl30)
      have hg9 := HGL.out k hk
      by_cases hle : li ≤ 65535
      · rw [if_pos hle] at HP
        have hgs := HGS.out k hlt (by omega)
        clear hl30
        go_wp2_with fail
        refine HP.out.mono ?_
        rintro r w5 ⟨rfl, D', a1, a2, a3, a4⟩
        have HD5 := hide a1
        have HB5 : Hid (Below w.heap.size w w5) := hide (HB.out.trans (a2.below (fun q hq hown => by have := HO.out q (.inl hown); omega) HB.out.size))
        have HO5 : Hid (∀ q, D'.own d q ∨ D'.ro q → w.heap.size ≤ q) := hide (fun q hq => by
          have hsz := HB.out.size
          rcases hq with hq | hq
          · rcases a3 q hq with h | h
            · exact HO.out q (.inl h)
            · omega
          · rcases a4 q hq with h | h
            · exact HO.out q (.inr h)
            · omega)
        clear a1 a2 a3 a4 HP HD HB HO hc0 hc hix
        go_wp2
        go_roundw
        case rel => exact ⟨k + 1, D', by omega, by rw [hgs]; go_num, by go_num, HD5, HB5, HO5⟩
        case measure => simp only [intOf]; omega
      · rw [if_neg hle] at HP
        have hgs := HGN.out k hlt (by omega)
        clear hl30
        go_wp2_with fail
        refine HP.out.mono ?_
        rintro r w5 ⟨rfl, D', a1, a2, a3, a4⟩
        have HD5 := hide a1
        have HB5 : Hid (Below w.heap.size w w5) := hide (HB.out.trans (a2.below (fun q hq hown => by have := HO.out q (.inl hown); omega) HB.out.size))
        have HO5 : Hid (∀ q, D'.own d q ∨ D'.ro q → w.heap.size ≤ q) := hide (fun q hq => by
          have hsz := HB.out.size
          rcases hq with hq | hq
          · rcases a3 q hq with h | h
            · exact HO.out q (.inl h)
            · omega
          · rcases a4 q hq with h | h
            · exact HO.out q (.inr h)
            · omega)
        clear a1 a2 a3 a4 HP HD HB HO hc0 hc hix
        go_wp2
        go_roundw
        case rel => exact ⟨k + 1, D', by omega, by rw [hgs], by go_num, HD5, HB5, HO5⟩
        case measure => simp only [intOf]; omega
    · have hlti : ¬ (k : Int) < (N : Int) := by omega
      obtain rfl : k = N := by omega
      rw [HRSN.out] at HD
      rw [HGNN.out]
      clear HP1 HRSN HGN HGS HGL
      go_wp2_with (go_at_call 21; refine (HWR.out _ d D HD.out).mono ?_; rintro r w' ⟨rfl, hw'⟩; subst w')
      refine (HT1.out _ d D HD.out HB.out (fun q hq => HO.out q (.inl hq))).mono ?_
      rintro r w2 ⟨rfl, D2, a1, a2, a3, a4⟩
      have HD2 := hide a1
      have HB2 : Hid (Below w.heap.size w w2) := hide (HB.out.trans (a2.below (fun q hq hown => by have := HO.out q (.inl hown); omega) HB.out.size))
      have HO2 : Hid (∀ q, D2.own d q → w.heap.size ≤ q) := hide (fun q hq => by
        have hsz := HB.out.size
        rcases a3 q hq with h | h
        · exact HO.out q (.inl h)
        · omega)
      clear a1 a2 a3 a4 HB HO HT1 HD
      have HCASE : Hid ((k = 0) ∨ (0 < k ∧ ∃ b off ai li ci, a = some ⟨b, off, none⟩ ∧ w.cell? ⟨b, off, none⟩ = some (.slice ai li ci) ∧ (9 ≤ li ∨ (li < 9 ∧ 0 < G.length)))) := hide (by
        rcases Nat.eq_zero_or_pos k with h0 | h0
        · exact .inl h0
        · obtain ⟨b, off, ai, li, ci, ea, hc0, hl1, hl2, hl30⟩ := HDS.out.hcell 0 h0
          refine .inr ⟨h0, b, off, ai, li, ci, ea, by simpa using hc0, ?_⟩
          rcases Nat.lt_or_ge li 9 with h9 | h9
          · exact .inr ⟨h9, HGP.out h0 (by omega)⟩
          · exact .inl h9)
      rcases HCASE.out with h0 | ⟨h0, b, off, ai, li, ci, ea, hc0, h9⟩
      · subst h0
        clear HCASE HGP HG0
        go_wp2_with (go_at_call 21; refine (HWR.out _ d D2 HD2.out).mono ?_; rintro r w' ⟨rfl, hw'⟩; subst w')
        rw [HC1.out]
        refine (HT2.out _ d D2 HD2.out HB2.out HO2.out).mono ?_
        rintro r w4 ⟨rfl, rs2, ⟨D4, a1, a2, a3, a4⟩, hf4, hw4⟩
        have HD4 := hide a1
        have HB4 : Hid (Below w.heap.size w w4) := hide (HB2.out.trans (a2.below (fun q hq hown => by have := HO2.out q hown; omega) HB2.out.size))
        have HF4 := hide hf4
        have HW4 := hide hw4
        clear a1 a2 a3 a4 hf4 hw4 HB2 HO2 HD2 HT2 HWR
        go_wp2_with fail
        refine (HT3.out _ d D4 rs2 HD4.out (HE.out.pt.below HB4.out) HF4.out HW4.out).mono ?_
        rintro r w5 ⟨rfl, hb5⟩
        have HD5 := hide (HD4.out.below hb5)
        have HB5 := hide (on_below HB4.out hb5)
        clear hb5
        go_wp2_with fail
        refine (HCU.out _ d D4 rs2 HD5.out (HE.out.pt.below HB5.out) HF4.out HW4.out).mono ?_
        rintro r w6 ⟨rfl, hb6⟩
        have HD6 := hide (HD5.out.below hb6)
        have HB6 := hide (on_below HB5.out hb6)
        clear hb6
        go_wp2_with fail
        refine (HRD.out _ d D4 rs2 HD6.out (HE.out.pt.below HB6.out) HF4.out HW4.out).mono ?_
        rintro r w7 ⟨v7, rfl, hb7⟩
        have HB7 := hide (on_below HB6.out hb7)
        clear hb7
        go_wp2
        go_ret
        exact ⟨rfl, HB7.out⟩
      · subst ea
        have hc : w2.cell? ⟨b, off, none⟩ = some (.slice ai li ci) := by rw [HB2.out.cell (World.block_lt_of_cell? w _ hc0)]; exact hc0
        have hix : ∀ v : World, (Instr.indexAt 59 (.slice (some ⟨b, off, none⟩) k cap) (.int .i64 0)).run Tryz.prog v = .ok (.pointer (some ⟨b, off, none⟩)) v := fun v => v_at b off k cap 0 0 rfl h0 v
        have hk0 : (0 : Int) < (k : Int) := by omega
        clear HCASE HGP HG0 hc0
        rcases h9 with h9 | ⟨h9, hg0⟩
        · have h9i : ¬ (li : Int) < 9 := by omega
          go_wp2_with (go_at_call 21; refine (HWR.out _ d D2 HD2.out).mono ?_; rintro r w' ⟨rfl, hw'⟩; subst w')
          rw [HC1.out]
          refine (HT2.out _ d D2 HD2.out HB2.out HO2.out).mono ?_
          rintro r w4 ⟨rfl, rs2, ⟨D4, a1, a2, a3, a4⟩, hf4, hw4⟩
          have HD4 := hide a1
          have HB4 : Hid (Below w.heap.size w w4) := hide (HB2.out.trans (a2.below (fun q hq hown => by have := HO2.out q hown; omega) HB2.out.size))
          have HF4 := hide hf4
          have HW4 := hide hw4
          clear a1 a2 a3 a4 hf4 hw4 HB2 HO2 HD2 HT2 HWR
          go_wp2_with fail
          refine (HT3.out _ d D4 rs2 HD4.out (HE.out.pt.below HB4.out) HF4.out HW4.out).mono ?_
          rintro r w5 ⟨rfl, hb5⟩
          have HD5 := hide (HD4.out.below hb5)
          have HB5 := hide (on_below HB4.out hb5)
          clear hb5
          go_wp2_with fail
          refine (HCU.out _ d D4 rs2 HD5.out (HE.out.pt.below HB5.out) HF4.out HW4.out).mono ?_
          rintro r w6 ⟨rfl, hb6⟩
          have HD6 := hide (HD5.out.below hb6)
          have HB6 := hide (on_below HB5.out hb6)
          clear hb6
          go_wp2_with fail
          refine (HRD.out _ d D4 rs2 HD6.out (HE.out.pt.below HB6.out) HF4.out HW4.out).mono ?_
          rintro r w7 ⟨v7, rfl, hb7⟩
          have HB7 := hide (on_below HB6.out hb7)
          clear hb7
          go_wp2
          go_ret
          exact ⟨rfl, HB7.out⟩
        · have h9i : (li : Int) < 9 := by omega
          have hgi : ¬ (G.length : Int) = 0 := by omega
          go_wp2_with (go_at_call 21; refine (HWR.out _ d D2 HD2.out).mono ?_; rintro r w' ⟨rfl, hw'⟩; subst w')
          rw [HC1.out]
          refine (HT2.out _ d D2 HD2.out HB2.out HO2.out).mono ?_
          rintro r w4 ⟨rfl, rs2, ⟨D4, a1, a2, a3, a4⟩, hf4, hw4⟩
          have HD4 := hide a1
          have HB4 : Hid (Below w.heap.size w w4) := hide (HB2.out.trans (a2.below (fun q hq hown => by have := HO2.out q hown; omega) HB2.out.size))
          have HF4 := hide hf4
          have HW4 := hide hw4
          clear a1 a2 a3 a4 hf4 hw4 HB2 HO2 HD2 HT2 HWR
          go_wp2_with fail
          refine (HT3.out _ d D4 rs2 HD4.out (HE.out.pt.below HB4.out) HF4.out HW4.out).mono ?_
          rintro r w5 ⟨rfl, hb5⟩
          have HD5 := hide (HD4.out.below hb5)
          have HB5 := hide (on_below HB4.out hb5)
          clear hb5
          go_wp2_with fail
          refine (HCU.out _ d D4 rs2 HD5.out (HE.out.pt.below HB5.out) HF4.out HW4.out).mono ?_
          rintro r w6 ⟨rfl, hb6⟩
          have HD6 := hide (HD5.out.below hb6)
          have HB6 := hide (on_below HB5.out hb6)
          clear hb6
          go_wp2_with fail
          refine (HRD.out _ d D4 rs2 HD6.out (HE.out.pt.below HB6.out) HF4.out HW4.out).mono ?_
          rintro r w7 ⟨v7, rfl, hb7⟩
          have HB7 := hide (on_below HB6.out hb7)
          clear hb7
          go_wp2
          go_ret
          exact ⟨rfl, HB7.out⟩
theorem btrim_law (h : Int) (a : Option Addr) (len cap : Nat) (ps : List (List Int)) (cut : Int) (w : World) (hw : (Lit.int .i64 h).wf = true) (hs : Slv w a len cap ps) (hw2 : (Lit.int .i64 cut).wf = true) (he : EV w) :
    Calls Tryz.prog 6 #[.int .i64 h, .slice a len cap, .int .i64 cut] w fun e w' => e = .returned (.bool true) ∧ Below w.heap.size w w' :=
  btrim_walk h a len cap ps cut w hs he

end Go.Proofs.YtpocadbhajacaaaGreatDoor
