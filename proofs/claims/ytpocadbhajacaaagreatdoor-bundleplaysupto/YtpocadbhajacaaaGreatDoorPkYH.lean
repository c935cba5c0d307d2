/-
  Texts one behind the other: Byq BxaLaw BplLaw.
-/
import Derived.Test.YtpocadbhajacaaaGreatDoorPkYG
import Derived.Test.YtpocadbhajacaaaGreatDoorPkYA
import Derived.Test.YtpocadbhajacaaaGreatDoorPkYC
import Derived.OpenShut
import Derived.Test.YtpocadbhajacaaaGreatDoorPkYE
import Derived.Test.YtpocadbhajacaaaGreatDoorPkYF
import Derived.Test.YtpocadbhajacaaaGreatDoorKqk
import Derived.Deep.Cut
import Derived.Deep.CutRange
import Derived.Deep.CutBlock

/-
  How much acts can have made: files and raw writes; both Trims at once.
-/
namespace Go.Proofs.YtpocadbhajacaaaGreatDoor
open Go.RowKit Go.Shelf
set_option linter.unusedVariables false
set_option linter.unusedSimpArgs false
set_option maxRecDepth 100000

theorem cuS_some (rs : List Rw) (n : ByteArray) (k : Int) (x : ByteArray) : (play (cuS rs n k) x).isSome = (play rs x).isSome := by
  unfold cuS
  split
  · rename_i h
    have h1 := h.1
    have hs : (play rs n).isSome = true := by
      unfold cuE at h1
      split at h1
      · rename_i h2
        unfold fE at h2
        split at h2
        · split at h2
          · assumption
          · cases h2
        · cases h2
      · rename_i h2; exact absurd h1 h2
    rw [play_snoc, do_cu]
    by_cases e : x = n
    · subst e
      rw [upd_same, hs]
      rfl
    · rw [upd_ne _ _ e]
  · rfl
/-- How many files there are, and how much the raw writes weigh. -/
def Fb (rs : List Rw) (f g : Nat) : Prop := ∃ l, FL (play rs) l ∧ l.length ≤ f ∧ wt rs + l.length ≤ g
theorem Fb.mono {rs : List Rw} {f g f' g' : Nat} (h : Fb rs f g) (h1 : f ≤ f') (h2 : g ≤ g') : Fb rs f' g' := by
  obtain ⟨l, a, b, c⟩ := h
  exact ⟨l, a, by omega, by omega⟩
theorem Fb.wt {rs : List Rw} {f g : Nat} (h : Fb rs f g) : Go.Proofs.YtpocadbhajacaaaGreatDoor.wt rs ≤ g := by
  obtain ⟨l, a, b, c⟩ := h
  omega
theorem Fb.all {rs : List Rw} {f g : Nat} (h : Fb rs f g) {l : List (ByteArray × List Int)} (hl : FL (play rs) l) : l.length ≤ f := by
  obtain ⟨l0, a, b, c⟩ := h
  have := (FL.ext hl a).2 rfl
  rw [this]
  exact b
theorem Fb.new {rs : List Rw} {m k : Nat} (h : Lw rs m k) : Fb rs k (2 * m + k) := by
  obtain ⟨l, h1, h2⟩ := h.cnt
  have := h.wt
  exact ⟨l, h1, h2, by omega⟩
theorem Fb.put {s : Nat} (hs : 1 ≤ s) {rs : List Rw} {f g : Nat} (hv : Val s (fun _ => none) rs) (h : Fb rs f g) (hh i : Int) (n : Nat) {x : List Int} (hxb : isB x) : Fb (puSb s rs hh i n x) (f + 1) (g + 2 * x.length + 7) := by
  unfold puSb
  split
  · rename_i h0
    have he : bnE hh i = 0 ∧ x.length ≤ 65535 := by
      unfold puEb at h0
      split at h0
      · split at h0
        · exact ⟨by assumption, by assumption⟩
        · cases h0
      · cases h0
    obtain ⟨H, I, rfl, rfl, hb, hI⟩ := nmO'_nats (bnE_zero he.1)
    rw [bnP_nat hb hI]
    obtain ⟨_, h2, h3⟩ := puW_play hs hv (lfN_nm (k := I / 2 ^ H) hb (by have := Nat.div_le_self I (2 ^ H); omega)) (lfB_ne x) (lfB_isB he.2 hxb)
    rw [lfB_len] at h3
    obtain ⟨l0, a, b, c⟩ := h
    obtain ⟨l', g1, g2, _⟩ := fl_put a (lfN H (I / 2 ^ H)) (fl (play rs) (lfN H (I / 2 ^ H)) ++ lfB x)
    exact ⟨l', by rw [h2]; exact g1, by omega, by omega⟩
  · exact h.mono (by omega) (by omega)
theorem Fb.trim {rs : List Rw} {ls : List (ByteArray × List Int)} {f g : Nat} (H n : Nat) (a : FL (play rs) ls) (h : Fb rs f g) : Fb (trSb H n rs ls) (f + 1) (g + 7) := by
  have b := h.all a
  have cc : Go.Proofs.YtpocadbhajacaaaGreatDoor.wt rs + ls.length ≤ g := by
    obtain ⟨l0, a0, b0, c0⟩ := h
    have := (FL.ext a a0).2 rfl
    rw [this]
    exact c0
  obtain ⟨l', hl'⟩ := FL.play_ex (trSb H n rs ls)
  have hmem : ∀ x, x ∈ l'.map (·.1) → (play (trRb rs (trNb H n ls)) x).isSome = true := fun x hx => by
    obtain ⟨⟨m, xs⟩, h1, rfl⟩ := List.mem_map.1 hx
    have h2 := (hl'.mem m xs).2 h1
    unfold trSb at h2
    rw [← cuS_some _ (lfN H (n / 2 ^ H)) ((trZb H n rs ls : Nat) : Int), h2]
    rfl
  have key := sub_len (l'.map (·.1) ++ trNb H n ls) (ls.map (·.1)) (by
    refine List.nodup_append.2 ⟨hl'.nodup, trNb_nodup a H n, ?_⟩
    intro x hx y hy e
    subst e
    have h1 := hmem x hx
    rw [(trRb_play rs (trNb H n ls) x).1 hy] at h1
    cases h1) (fun x hx => by
    have hin : (play rs x).isSome = true := by
      rcases List.mem_append.1 hx with hx | hx
      · have h1 := hmem x hx
        by_cases hm : x ∈ trNb H n ls
        · rw [(trRb_play rs (trNb H n ls) x).1 hm] at h1
          cases h1
        · rw [(trRb_play rs (trNb H n ls) x).2 hm] at h1
          exact h1
      · have h1 := ((trNb_mem a).1 hx).1
        cases e : play rs x with
        | none => exact absurd e h1
        | some y => rfl
    obtain ⟨xs, hxs⟩ := Option.isSome_iff_exists.1 hin
    exact List.mem_map.2 ⟨_, (a.mem _ _).1 hxs, rfl⟩)
  rw [List.length_append, List.length_map, List.length_map] at key
  have hw : Go.Proofs.YtpocadbhajacaaaGreatDoor.wt (trSb H n rs ls) ≤ Go.Proofs.YtpocadbhajacaaaGreatDoor.wt rs + (trNb H n ls).length + 1 := by
    have h1 := trRb_wt rs (trNb H n ls)
    unfold trSb cuS
    split
    · rw [wt_app]
      have e : ∀ m k, Go.Proofs.YtpocadbhajacaaaGreatDoor.wt [rCu m k] = 1 := fun m k => rfl
      rw [e]
      omega
    · omega
  exact ⟨l', hl', by omega, by omega⟩
theorem trims_any {w W : World} {d r s : Nat} {rs : List Rw} {D : Dm} {R : Rm} (hp : LP w W d r s rs D R) (he : EV w) (h n : Int) {f g : Nat} (hfb : Fb rs f g) (hf : f ≤ 900000) (hg : g ≤ 20000000) :
    ∃ E : Int, Calls Tryz.prog 12 #[.pointer (some ⟨d, 0, none⟩), .int .i64 h, .int .i64 n] W fun e w' => e = .returned (.int .i64 E) ∧ ∃ rs', OpR W w' d s D rs' ∧ Fb rs' (f + 1) (g + 7) ∧
      ∀ W', RkAt W' r s rs R → Calls Tryz.prog 13 #[.pointer (some ⟨r, 0, none⟩), .int .i64 h, .int .i64 n] W' fun e w'' => e = .returned (.int .i64 E) ∧ RoP W' w'' r s R rs' := by
  have hwt := hfb.wt
  have hpt : PT W := (he.below hp.bel).pt
  obtain ⟨c, hcn⟩ : ∃ m, bnE h 0 = 0 → CnL (play rs) h.toNat m := by
    obtain ⟨m, hm⟩ := CnL.have (play rs) h.toNat
    exact ⟨m, fun _ => hm⟩
  by_cases hok : bnE h 0 = 0 ∧ 0 ≤ n ∧ n ≤ (c : Int)
  · obtain ⟨h0, h1, h2⟩ := hok
    obtain ⟨H, I, rfl, hI0, hh, _⟩ := nmO'_nats (bnE_zero h0)
    clear hI0
    obtain ⟨m, rfl⟩ : ∃ m : Nat, n = (m : Int) := ⟨n.toNat, by omega⟩
    have hc := hcn h0
    rw [Int.toNat_natCast] at hc
    have hlf := hfb.all hp.rk.fls
    refine ⟨0, (trimB_ok d s rs D R.l H c m w W he hp.bel (fun k hk => hp.lo k (.inl (.inl hk))) hp.dk hp.rk.fls hh hc (by omega) (by omega) (by omega)).mono ?_⟩
    rintro e w' ⟨rfl, ho⟩
    exact ⟨rfl, _, ho, Fb.trim H m hp.rk.fls hfb, fun W' hW' => trimR_ok r s rs R W' hW' H c m hh hc (by omega) (by omega)⟩
  · have hbad : bnE h 0 = 0 → n < 0 ∨ (c : Int) < n := fun h0 => by
      apply Classical.byContradiction
      intro hno
      exact hok ⟨h0, by omega, by omega⟩
    refine ⟨trEb h n, (trimB_bad d s rs D W hp.dk h n c hpt hcn (by omega) hbad).mono ?_⟩
    rintro e w' ⟨rfl, hb⟩
    refine ⟨rfl, rs, OpR.below hp.dk hb, hfb.mono (by omega) (by omega), fun W' hW' => ?_⟩
    refine (trimR_bad r s rs R W' hW' h n c hcn (by omega) hbad).mono ?_
    rintro e w'' ⟨rfl, hb2⟩
    exact ⟨rfl, RoP.below hW' hb2⟩

end Go.Proofs.YtpocadbhajacaaaGreatDoor

/-
  The walk of BundleNames.
-/
namespace Go.Proofs.YtpocadbhajacaaaGreatDoor
open Go.RowKit
set_option linter.unusedVariables false

theorem names15_any (w : World) : Calls Tryz.prog 8 #[] w fun e w' => e = .returned (.bool true) ∧ w' = w := by
  go_enter Tryz.func8, Tryz.ntmps8
  go_wp2
  go_ret
  exact ⟨rfl, rfl⟩

end Go.Proofs.YtpocadbhajacaaaGreatDoor

/-
  The walk of BundlePlays.
-/
namespace Go.Proofs.YtpocadbhajacaaaGreatDoor
open Go.RowKit Go.Shelf
set_option linter.unusedVariables false
set_option linter.unusedSimpArgs false
set_option maxRecDepth 100000

theorem wWd5 : Wide 24 2 := ⟨by kernel_rfl, by kernel_rfl⟩
theorem wAs : Wide 33 5 := ⟨by kernel_rfl, by kernel_rfl⟩
theorem zAs : Zeroed 33 (asC5 0 0 0 false (.slice none 0 0)) := fun _ _ _ _ _ _ _ => by kernel_rfl
theorem as_at (b o n cap i : Nat) (hi : i < n) (v : World) : (Instr.indexAt 25 (.slice (some ⟨b, o, none⟩) n cap) (.int .i64 (i : Int))).run Tryz.prog v = .ok (.pointer (some ⟨b, o + i * 5, none⟩)) v := by
  have hu : Tryz.prog.underlying 25 = some (.slice (Tryz.prog.elem 25)) := by kernel_rfl
  have he : Tryz.prog.elem 25 = 33 := by kernel_rfl
  have hz : ∀ v : World, (sizeOf 33).run Tryz.prog v = .ok 5 v := fun _ => by kernel_rfl
  rw [run_indexAt_slice v _ _ _ _ .i64 i hu, if_pos ⟨by omega, by omega⟩, he, hz]
  simp only [Result.andThen_ok, Int.toNat_natCast]
  rw [Addr.add_lit]
theorem asC5_set (k h i j : Int) (b : Bool) (v : Value) : (asC5 k h i b v).set 2 (.int .i64 j) = asC5 k h j b v := rfl
theorem rdB_small {rs : List Rw} (hb : ∀ m, isB (fl (play rs) m)) (h i : Int) : (rdBb rs h i).length ≤ 65535 ∧ isB (rdBb rs h i) := by
  unfold rdBb
  split
  · rename_i h0
    have hlt : rdK rs h i < (rdL rs h i).length := by
      unfold rdEb at h0
      split at h0
      · split at h0
        · assumption
        · cases h0
      · cases h0
    unfold rdL at hlt ⊢
    exact wl_ok _ _ (hb _) _ (getD_mem hlt)
  · exact ⟨by simp, fun y hy => by cases hy⟩
theorem Own.placeZ {w : World} {B : Nat} {v : Value} {xs : List Int} (h : Own w B v xs) (h0 : 0 < xs.length) : ∃ g cap, v = .slice (some ⟨g, 0, none⟩) xs.length cap ∧ B ≤ g := by
  rcases h.2 with ⟨rfl, e⟩ | ⟨g, cap, cur, rfl, hB, _⟩
  · omega
  · exact ⟨g, cap, rfl, hB⟩
/-- An act, beside both disks. -/
structure PA (w W : World) (d r s : Nat) (rs : List Rw) (D : Dm) (R : Rm) (b : Nat) (cs : List Value) : Prop where
  pl : LP w W d r s rs D R
  blk : Blk W b 33 cs
  nf : ¬ Foot d r D R b
  lo : w.heap.size ≤ b
section
variable {w W W1 W2 : World} {d r s : Nat} {rs rs' : List Rw} {D : Dm} {R : Rm} {b : Nat} {cs : List Value}
theorem PA.on (h : PA w W d r s rs D R b cs) (hb : Below W.heap.size W W1) : PA w W1 d r s rs D R b cs := ⟨h.pl.on hb, h.blk.on hb, h.nf, h.lo⟩
theorem PA.mid (h : PA w W d r s rs D R b cs) (h1 : OpR W W1 d s D rs') : Blk W1 b 33 cs := h.pl.keep1 h1 h.blk h.nf
theorem PA.both (h : PA w W d r s rs D R b cs) (h1 : OpR W W1 d s D rs') (h2 : RoP W1 W2 r s R rs') : ∃ D' R', PA w W2 d r s rs' D' R' b cs := by
  obtain ⟨D', R', hp, hf⟩ := h.pl.both h1 h2
  refine ⟨D', R', hp, LP.keep2 h2 (h.mid h1) h.nf, fun hb => ?_, h.lo⟩
  rcases hf b hb with e | e
  · exact h.nf e
  · have := h.blk.lt; omega
theorem PA.set (h : PA w W d r s rs D R b cs) (k : Nat) (v : Value) : PA w (W.setCell ⟨b, k, none⟩ v) d r s rs D R b (cs.set k v) := by
  have hbut := But.setCell W b k v
  refine ⟨⟨h.pl.dk.same (fun j hj => hbut.block j (fun e => h.nf (e ▸ .inl hj))), h.pl.rk.same (fun j hj => hbut.block j (fun e => h.nf (e ▸ .inr hj))), h.pl.ap, h.pl.lo, h.pl.bel.trans (hbut.below h.lo)⟩, h.blk.set k v, h.nf, h.lo⟩
end
theorem OpR.slB {W W1 : World} {d r s : Nat} {rs' : List Rw} {D : Dm} {R : Rm} (h1 : OpR W W1 d s D rs') {g n c : Nat} {xs : List Int} (hs : Sl W (some ⟨g, 0, none⟩) n c xs) (hg : ¬ Foot d r D R g) : Sl W1 (some ⟨g, 0, none⟩) n c xs := by
  obtain ⟨D', _, hc, _, _⟩ := h1
  exact hs.chsB hc (fun _ y e hk => by cases e; exact hg (.inl (.inl hk)))
theorem RoP.slB {W W1 : World} {d r s : Nat} {rs' : List Rw} {D : Dm} {R : Rm} (h1 : RoP W W1 r s R rs') {g n c : Nat} {xs : List Int} (hs : Sl W (some ⟨g, 0, none⟩) n c xs) (hg : ¬ Foot d r D R g) : Sl W1 (some ⟨g, 0, none⟩) n c xs := by
  obtain ⟨R', _, hc, _, _⟩ := h1
  exact hs.chsB hc (fun _ y e hk => by cases e; exact hg (.inr (.inl hk)))
set_option maxHeartbeats 8000000 in
theorem bplays_walk (sec : Int) (a : Option Addr) (n c : Nat) (L : List Fw) (a1 : Option Addr) (n1 c1 : Nat) (A : List A5) (w : World) (hL : Fws w a n c L) (hA : A5s w a1 n1 c1 A) (he : EV w) :
    Calls Tryz.prog 3 #[.agg #[.int .i64 sec, .slice a n c], .slice a1 n1 c1] w fun e w' => e = .returned (.bool true) ∧ Below w.heap.size w w' := by
  have HL := hide hL
  have HA := hide hA
  have HE := hide he
  have HFL : Hid (fbulk L ≤ 1048576 ∧ 3 * L.length ≤ fbulk L) := hide ⟨hL.hsum, len_fbulk L⟩
  have hn1 : 6 * n1 ≤ 1048576 := by rw [← hA.hlen]; exact Nat.le_trans (a5bulk_len A) hA.hblk
  have HPT : Hid (∀ W : World, Below w.heap.size w W → PT W) := hide (fun W hW => (he.below hW).pt)
  clear hL hA he
  go_enter Tryz.func3, Tryz.ntmps3
  go_wp2_with (first | (refine step_box (cs := [.int .i64 sec, .slice a n c]) rfl rfl ?_))
  intro w1 b1 hg1 hl1 hb1
  have RG : Hid (w1.rangeAt b1 0 [.int .i64 sec, .slice a n c]) := hide (hg1.range 0 _ rfl)
  have B1 := hide hb1
  clear hg1 hl1 hb1
  go_wp2_with (refine step_loadR wWd5 rfl rfl [.int .i64 sec, .slice a n c] RG.out rfl ?_)
  go_wp2_with fail
  refine (laid_any sec a n c L w1 (HL.out.below B1.out)).mono ?_
  rintro e w2 ⟨s, d, r, rs, D, R, rfl, hs1, hs2, hp, hlw⟩
  have P0 : Hid (LP w w2 d r s rs D R) := hide ⟨hp.dk, hp.rk, hp.ap, fun k hk => Nat.le_trans B1.out.size (hp.lo k hk), on_below B1.out hp.bel⟩
  have F0 := hide (Fb.new hlw)
  clear hp hlw RG
  go_wp2_with fail
  refine (names15_any _).mono ?_
  rintro e w2' ⟨rfl, hw'⟩
  subst w2'
  go_wp2_with fail
  go_loopw [8] (fun i wr => ∃ (k : Nat) (rs : List Rw) (D : Dm) (R : Rm), i = .int .i64 (k : Int) ∧ k ≤ n1 ∧ Hid (LP w wr d r s rs D R) ∧ Hid (Fb rs (L.length + k) (2 * fbulk L + L.length + 2 * a5bulk (A.take k)))) (fun i _ => n1 - (intOf i).toNat)
  case atStart => exact ⟨0, rs, D, R, rfl, Nat.zero_le _, P0, hide (F0.out.mono (by omega) (by simp [a5bulk]))⟩
  case round =>
    clear P0 F0
    obtain ⟨k, rs, D, R, rfl, hkl, P, HFB⟩ := hrel
    have hlenA := HA.out.hlen
    by_cases hlt : k < n1
    · have hlti : (k : Int) < (n1 : Int) := by omega
      obtain ⟨x, hx⟩ : ∃ x, A[k]? = some x := ⟨_, List.getElem?_eq_getElem (by omega)⟩
      obtain ⟨b0, o0, rfl, hrg⟩ := HA.out.hcell k x hx
      have hix := as_at b0 o0 n1 c1 k hlt
      have HRG := hide (rangeAt_below hrg P.out.bel)
      have HXI := hide (HA.out.hin k x hx)
      have HAB := hide (a5bulk_succ hx)
      have HAT : Hid (a5bulk (A.take (k + 1)) ≤ 1048576) := hide (Nat.le_trans (a5bulk_take A (k + 1)) HA.out.hblk)
      have HXL : Hid (x.x.length ≤ 1048576 ∧ x.x.length = x.l) := hide ⟨by have h1 := HAB.out; have h2 := HAT.out; omega, HXI.out.sl.hlen⟩
      have HCL : Hid (x.cells.length = 5) := hide rfl
      have HWT : Hid (wt rs ≤ 20000000) := hide (by have h1 := HFB.out.wt; have h2 := HFL.out; have h3 := HAB.out; have h4 := HAT.out; omega)
      have HVAL := hide P.out.dk.valS
      have hcn : ∃ m, bnE x.h 0 = 0 → CnL (play rs) x.h.toNat m := by
        obtain ⟨m, hm⟩ := CnL.have (play rs) x.h.toNat
        exact ⟨m, fun _ => hm⟩
      obtain ⟨m, hm⟩ := hcn
      have HCN := hide hm
      have H1 : Hid ((x.x ++ [90]).length = x.l + 1) := hide (by rw [List.length_append, HXL.out.2]; rfl)
      have HB90 : Hid (isB (x.x ++ [90])) := hide (HXI.out.sl.hbyte.append (by intro y hy; simp at hy; omega))
      have HTK : Hid ((x.x ++ [90]).take x.l = x.x) := hide (by rw [← HXL.out.2]; exact List.take_left)
      obtain ⟨X, HXX⟩ : ∃ X, Hid (str (x.x ++ [90]) = X) := ⟨_, hide rfl⟩
      have hself : (X.toList == X.toList) = true := by simp
      clear hrg hx hlenA hm
      go_wp2_with (first | (refine step_loadR wAs rfl rfl x.cells HRG.out HCL.out ?_) | (refine step_alloc zAs rfl ?_))
      intro w8 g10 hr8 hl8 hb8
      go_wp2_with (refine step_storeA wAs rfl rfl rfl hr8 HCL.out (One.asC5 _ _ _ _ _ _ _) rfl ?_)
      intro w9 hg9 hbut9
      have hb9 := hb8.trans (hbut9.below hl8)
      have P9 : Hid (PA w w9 d r s rs D R g10 (asC5 x.k x.h x.i x.nx (.slice x.a x.l x.c))) := hide ⟨P.out.on hb9, hg9, fun h => by have := P.out.lt h; omega, Nat.le_trans P.out.bel.size hl8⟩
      clear hr8 hl8 hb8 hg9 hbut9 hb9 hix HRG P HCL
      obtain ⟨kd, HKD⟩ : ∃ kd, Hid (x.k = kd) := ⟨_, hide rfl⟩
      rw [HKD.out] at P9
      have c0 : w9.cell? ⟨g10, 0, none⟩ = some (.int .i64 kd) := by rw [P9.out.blk.cell]; rfl
      go_upto_block 2 with fail
      go_cut [10, 11, 12, 13, 14] from 39 to 130 (fun _ _ _ _ _ W => ∃ (rs : List Rw) (D : Dm) (R : Rm) (i : Int), Hid (PA w W d r s rs D R g10 (asC5 kd x.h i x.nx (.slice x.a x.l x.c))) ∧ Hid (Fb rs (L.length + (k + 1)) (2 * fbulk L + L.length + 2 * a5bulk (A.take (k + 1)))))
      case first =>
        clear c0
        by_cases h0 : kd = 0
        · subst h0
          as_aux_lemma =>
          obtain ⟨xb, HXB⟩ : ∃ xb, Hid (x.nx = xb) := ⟨_, hide rfl⟩
          have c4 : w9.cell? ⟨g10, 3, none⟩ = some (.bool xb) := by rw [P9.out.blk.cell, ← HXB.out]; rfl
          cases xb
          · go_wp2_with (refine step_0Z rfl ?_)
            clear c4
            have HFT : Hid (∀ j, Foot d r D R j → j < w9.heap.size) := hide (fun j hj => P9.out.pl.lt hj)
            intro w3 g12 ho3 hb3
            have P3 := hide (P9.out.on hb3)
            have hs3 := HXI.out.sl.below P3.out.pl.bel
            have c4' : w3.cell? ⟨g10, 4, none⟩ = some (.slice x.a x.l x.c) := by rw [P3.out.blk.cell]; rfl
            go_wp2_with (refine step_append rfl rfl rfl ho3 hs3 (by have h1 := HXL.out.1; have h2 := HXL.out.2; simp; omega) hb3.size ?_)
            intro v14 w4 ho4 hg4 _
            rw [List.nil_append] at ho4
            have hb4 := Below.of_grown hg4 hb3.size ho3.lt
            have HO4 := hide ho4
            have B24 := hide (hb3.trans hb4)
            clear ho4 ho3 hg4 hb4 hb3 hs3 c4' P3
            go_wp2_with (refine step_1Z (q := 90) (by omega) rfl rfl ?_)
            intro w5 g15 h5 hb5
            have B25 := hide (B24.out.trans (hb5.mono B24.out.size))
            have HO5 := hide (HO4.out.below hb5)
            go_wp2_with (refine step_append rfl rfl rfl HO5.out h5 (by have h1 := HXL.out.1; omega) B25.out.size ?_)
            intro v16 w6 ho6 hg6 _
            obtain ⟨g7, c7, e7, hg7⟩ := ho6.placeZ (by rw [H1.out]; omega)
            subst e7
            have hb6 := Below.of_grown hg6 B25.out.size HO5.out.lt
            have B26 := hide (B25.out.trans hb6)
            obtain ⟨a8, c8, e8, hs8⟩ := ho6.sl' HB90.out (by rw [H1.out]; have h1 := HXL.out.1; have h2 := HXL.out.2; omega)
            injection e8 with e81 e82 e83
            subst e81 e83
            rw [H1.out] at hs8 ⊢
            have HSL := hide hs8
            have P6 := hide (P9.out.on B26.out)
            have HNF : Hid (¬ Foot d r D R g7) := hide (fun hk => by have := HFT.out g7 hk; omega)
            have HTO := hide (hs8.to' (k := x.l) (by omega))
            clear ho6 hg6 hb6 h5 hb5 HO5 HO4 B24 B25 B26 e82 hs8 hg7 HFT
            go_wp2_with fail
            refine wp_region_noPanic ?_
            have PD := hide (P6.out.on (Below.refl w6.heap.size w6).drew)
            have HSD := hide (HSL.out.below (Below.refl w6.heap.size w6).drew)
            refine wp_region_held_drew (S := fun v : World => Blk v g10 33 (asC5 0 x.h x.i x.nx (.slice x.a x.l x.c)) ∧ Sl v (some ⟨g7, 0, none⟩) (x.l + 1) c7 (x.x ++ [90]) ∧ Sl v x.a x.l x.c x.x) (by kernel_rfl) ⟨PD.out.blk, HSD.out, HXI.out.sl.below PD.out.pl.bel⟩ (fun hHeld => ?_)
            refine takeH 0 57 (.pointer (some ⟨d, 0, none⟩)) hHeld rfl rfl (by kernel_rfl) (by kernel_rfl) (by kernel_rfl) (fun _ _ _ h => h) (Or.inl ⟨by rfl, fun w _ => by go_simp⟩) ?_
            simp only [Act.put, List.setIfInBounds_toArray, List.set_cons_zero, List.set_cons_succ]
            refine takeH 1 58 (.pointer (some ⟨g10, 1, none⟩)) hHeld rfl rfl (by kernel_rfl) (by kernel_rfl) (by kernel_rfl) (fun _ _ _ h => h) (Or.inl ⟨by rfl, fun w _ => by go_simp⟩) ?_
            simp only [Act.put, List.setIfInBounds_toArray, List.set_cons_zero, List.set_cons_succ]
            refine takeH 2 59 (.int .i64 x.h) hHeld rfl rfl (by kernel_rfl) (by kernel_rfl) (by kernel_rfl) (fun _ _ _ h => h) (Or.inl ⟨by rfl, fun w hw => by have hw' : w.cell? ⟨g10, 1, none⟩ = some (.int .i64 x.h) := (fun hw => by rw [Blk.cell hw.1]; rfl) hw; go_simp⟩) ?_
            simp only [Act.put, List.setIfInBounds_toArray, List.set_cons_zero, List.set_cons_succ]
            refine takeH 3 60 (.pointer (some ⟨g10, 2, none⟩)) hHeld rfl rfl (by kernel_rfl) (by kernel_rfl) (by kernel_rfl) (fun _ _ _ h => h) (Or.inl ⟨by rfl, fun w _ => by go_simp⟩) ?_
            simp only [Act.put, List.setIfInBounds_toArray, List.set_cons_zero, List.set_cons_succ]
            refine takeH 4 61 (.int .i64 x.i) hHeld rfl rfl (by kernel_rfl) (by kernel_rfl) (by kernel_rfl) (fun _ _ _ h => h) (Or.inl ⟨by rfl, fun w hw => by have hw' : w.cell? ⟨g10, 2, none⟩ = some (.int .i64 x.i) := (fun hw => by rw [Blk.cell hw.1]; rfl) hw; go_simp⟩) ?_
            simp only [Act.put, List.setIfInBounds_toArray, List.set_cons_zero, List.set_cons_succ]
            refine takeH 5 62 (.slice (some ⟨g7, 0, none⟩) (x.l + 1) c7) hHeld rfl rfl (by kernel_rfl) (by kernel_rfl) (by kernel_rfl) (fun _ _ _ h => h) (Or.inl ⟨by rfl, fun w _ => by go_simp⟩) ?_
            simp only [Act.put, List.setIfInBounds_toArray, List.set_cons_zero, List.set_cons_succ]
            refine takeH 6 63 (.pointer (some ⟨g10, 4, none⟩)) hHeld rfl rfl (by kernel_rfl) (by kernel_rfl) (by kernel_rfl) (fun _ _ _ h => h) (Or.inl ⟨by rfl, fun w _ => by go_simp⟩) ?_
            simp only [Act.put, List.setIfInBounds_toArray, List.set_cons_zero, List.set_cons_succ]
            refine takeH 7 64 (.slice x.a x.l x.c) hHeld rfl rfl (by kernel_rfl) (by kernel_rfl) (by kernel_rfl) (fun _ _ _ h => h) (Or.inl ⟨by rfl, fun w hw => by have hw' : w.cell? ⟨g10, 4, none⟩ = some (.slice x.a x.l x.c) := (fun hw => by rw [Blk.cell hw.1]; rfl) hw; go_simp⟩) ?_
            simp only [Act.put, List.setIfInBounds_toArray, List.set_cons_zero, List.set_cons_succ]
            refine takeH 8 65 (.int .i64 (x.l : Int)) hHeld rfl rfl (by kernel_rfl) (by kernel_rfl) (by kernel_rfl) (fun _ _ _ h => h) (Or.inl ⟨by rfl, fun w _ => by go_simp⟩) ?_
            simp only [Act.put, List.setIfInBounds_toArray, List.set_cons_zero, List.set_cons_succ]
            refine takeH 9 66 (.slice (some ⟨g7, 0, none⟩) x.l c7) hHeld rfl rfl (by kernel_rfl) (by kernel_rfl) (by kernel_rfl) (fun _ _ _ h => h) (Or.inl ⟨by rfl, fun w _ => run_op rfl (HTO.out.1 w)⟩) ?_
            simp only [Act.put, List.setIfInBounds_toArray, List.set_cons_zero, List.set_cons_succ]
            refine takeH 11 68 (.pointer (some ⟨r, 0, none⟩)) hHeld rfl rfl (by kernel_rfl) (by kernel_rfl) (by kernel_rfl) (fun _ _ _ h => h) (Or.inl ⟨by rfl, fun w _ => by go_simp⟩) ?_
            simp only [Act.put, List.setIfInBounds_toArray, List.set_cons_zero, List.set_cons_succ]
            refine takeH 12 69 (.pointer (some ⟨g10, 1, none⟩)) hHeld rfl rfl (by kernel_rfl) (by kernel_rfl) (by kernel_rfl) (fun _ _ _ h => h) (Or.inl ⟨by rfl, fun w _ => by go_simp⟩) ?_
            simp only [Act.put, List.setIfInBounds_toArray, List.set_cons_zero, List.set_cons_succ]
            refine takeH 13 70 (.int .i64 x.h) hHeld rfl rfl (by kernel_rfl) (by kernel_rfl) (by kernel_rfl) (fun _ _ _ h => h) (Or.inl ⟨by rfl, fun w hw => by have hw' : w.cell? ⟨g10, 1, none⟩ = some (.int .i64 x.h) := (fun hw => by rw [Blk.cell hw.1]; rfl) hw; go_simp⟩) ?_
            simp only [Act.put, List.setIfInBounds_toArray, List.set_cons_zero, List.set_cons_succ]
            refine takeH 14 71 (.pointer (some ⟨g10, 2, none⟩)) hHeld rfl rfl (by kernel_rfl) (by kernel_rfl) (by kernel_rfl) (fun _ _ _ h => h) (Or.inl ⟨by rfl, fun w _ => by go_simp⟩) ?_
            simp only [Act.put, List.setIfInBounds_toArray, List.set_cons_zero, List.set_cons_succ]
            refine takeH 15 72 (.int .i64 x.i) hHeld rfl rfl (by kernel_rfl) (by kernel_rfl) (by kernel_rfl) (fun _ _ _ h => h) (Or.inl ⟨by rfl, fun w hw => by have hw' : w.cell? ⟨g10, 2, none⟩ = some (.int .i64 x.i) := (fun hw => by rw [Blk.cell hw.1]; rfl) hw; go_simp⟩) ?_
            simp only [Act.put, List.setIfInBounds_toArray, List.set_cons_zero, List.set_cons_succ]
            refine takeH 16 73 (.pointer (some ⟨g10, 4, none⟩)) hHeld rfl rfl (by kernel_rfl) (by kernel_rfl) (by kernel_rfl) (fun _ _ _ h => h) (Or.inl ⟨by rfl, fun w _ => by go_simp⟩) ?_
            simp only [Act.put, List.setIfInBounds_toArray, List.set_cons_zero, List.set_cons_succ]
            refine takeH 17 74 (.slice x.a x.l x.c) hHeld rfl rfl (by kernel_rfl) (by kernel_rfl) (by kernel_rfl) (fun _ _ _ h => h) (Or.inl ⟨by rfl, fun w hw => by have hw' : w.cell? ⟨g10, 4, none⟩ = some (.slice x.a x.l x.c) := (fun hw => by rw [Blk.cell hw.1]; rfl) hw; go_simp⟩) ?_
            simp only [Act.put, List.setIfInBounds_toArray, List.set_cons_zero, List.set_cons_succ]
            refine wpAnyH_ready (rs := [10]) (by kernel_rfl) (by simp) (AllReadyH.cons rfl (fun K hK => ?_) AllReadyH.nil)
            rw [if_pos (by rfl)]
            go_simp
            refine (putB_any d s rs D _ PD.out.pl.dk x.h x.i m (some ⟨g7, 0, none⟩) x.l c7 x.x (by have h1 := HTO.out.2 _ HSD.out; rwa [HTK.out] at h1) (fun _ y e hk => by cases e; exact HNF.out (.inl (.inl hk))) (HPT.out _ PD.out.pl.bel) HCN.out (by have h1 := HWT.out; have h2 := HXL.out.1; omega)).mono ?_
            rintro e wa ⟨rfl, hop⟩
            have HOP := hide hop
            have RA1 := hide (PD.out.pl.op1 hop).1
            have GA : Hid (Blk wa g10 33 (asC5 0 x.h x.i x.nx (.slice x.a x.l x.c)) ∧ Sl wa (some ⟨g7, 0, none⟩) (x.l + 1) c7 (x.x ++ [90]) ∧ Sl wa x.a x.l x.c x.x) := hide ⟨PD.out.mid hop, hop.slB (r := r) (R := R) HSD.out HNF.out, HXI.out.sl.below (PD.out.pl.op1 hop).2⟩
            clear hop
            refine hK.out _ _ GA.out (fun hHeld => ?_)
            clear hK K
            try simp only [Act.put, List.setIfInBounds_toArray, List.set_cons_zero, List.set_cons_succ]
            refine wpAnyH_ready (rs := [18]) (by kernel_rfl) (by simp) (AllReadyH.cons rfl (fun K hK => ?_) AllReadyH.nil)
            rw [if_pos (by rfl)]
            go_simp
            refine (putR_any15 r s rs R _ RA1.out x.h x.i m x.a x.l x.c x.x GA.out.2.2 (fun h0 y e hk => by
              obtain ⟨b, off, e2, hc⟩ := HXI.out.sl.hcell h0
              rw [e] at e2
              cases e2
              have h1 := World.block_lt_of_cell? w _ (hc 0 h0)
              have h2 := PD.out.pl.lo _ (.inr (.inl hk))
              simp only at h1 h2
              omega) HCN.out (by have h1 := HWT.out; have h2 := HXL.out.1; omega)).mono ?_
            rintro e wb ⟨rfl, hrp⟩
            obtain ⟨D', R', hpa⟩ := PD.out.both HOP.out hrp
            have PN := hide hpa
            have GB : Hid (Blk wb g10 33 (asC5 0 x.h x.i x.nx (.slice x.a x.l x.c)) ∧ Sl wb (some ⟨g7, 0, none⟩) (x.l + 1) c7 (x.x ++ [90]) ∧ Sl wb x.a x.l x.c x.x) := hide ⟨hpa.blk, hrp.slB (d := d) (D := D) GA.out.2.1 HNF.out, HXI.out.sl.below hpa.pl.bel⟩
            clear hrp hpa
            refine hK.out _ _ GB.out (fun hHeld => ?_)
            clear hK K
            try simp only [Act.put, List.setIfInBounds_toArray, List.set_cons_zero, List.set_cons_succ]
            refine takeH 19 76 (.bool false) hHeld rfl rfl (by kernel_rfl) (by kernel_rfl) (by kernel_rfl) (fun _ _ _ h => h) (Or.inl ⟨by rfl, fun w _ => by go_simp⟩) ?_
            simp only [Act.put, List.setIfInBounds_toArray, List.set_cons_zero, List.set_cons_succ]
            refine takeH 20 77 (.bool false) hHeld rfl rfl (by kernel_rfl) (by kernel_rfl) (by kernel_rfl) (fun _ _ _ h => h) (Or.inl ⟨by rfl, fun w _ => by go_simp⟩) ?_
            simp only [Act.put, List.setIfInBounds_toArray, List.set_cons_zero, List.set_cons_succ]
            refine takeH 21 78 (.slice (some ⟨g7, 0, none⟩) (x.l + 1) c7) hHeld rfl rfl (by kernel_rfl) (by kernel_rfl) (by kernel_rfl) (fun _ _ _ h => h) (Or.inl ⟨by rfl, fun w _ => by go_simp⟩) ?_
            simp only [Act.put, List.setIfInBounds_toArray, List.set_cons_zero, List.set_cons_succ]
            refine takeH 22 79 (.string X) hHeld rfl rfl (by kernel_rfl) (by kernel_rfl) (by kernel_rfl) (fun _ _ _ h => h) (Or.inl ⟨by rfl, fun w hw => run_op rfl (by rw [← HXX.out]; exact toStr hw.2.1)⟩) ?_
            simp only [Act.put, List.setIfInBounds_toArray, List.set_cons_zero, List.set_cons_succ]
            refine takeH 23 80 (.pointer (some ⟨g10, 4, none⟩)) hHeld rfl rfl (by kernel_rfl) (by kernel_rfl) (by kernel_rfl) (fun _ _ _ h => h) (Or.inl ⟨by rfl, fun w _ => by go_simp⟩) ?_
            simp only [Act.put, List.setIfInBounds_toArray, List.set_cons_zero, List.set_cons_succ]
            refine takeH 24 81 (.slice x.a x.l x.c) hHeld rfl rfl (by kernel_rfl) (by kernel_rfl) (by kernel_rfl) (fun _ _ _ h => h) (Or.inl ⟨by rfl, fun w hw => by have hw' : w.cell? ⟨g10, 4, none⟩ = some (.slice x.a x.l x.c) := (fun hw => by rw [Blk.cell hw.1]; rfl) hw; go_simp⟩) ?_
            simp only [Act.put, List.setIfInBounds_toArray, List.set_cons_zero, List.set_cons_succ]
            refine takeH 25 82 (.string (str x.x)) hHeld rfl rfl (by kernel_rfl) (by kernel_rfl) (by kernel_rfl) (fun _ _ _ h => h) (Or.inl ⟨by rfl, fun w hw => run_op rfl (toStr hw.2.2)⟩) ?_
            simp only [Act.put, List.setIfInBounds_toArray, List.set_cons_zero, List.set_cons_succ]
            refine takeH 26 83 (.string X) hHeld rfl rfl (by kernel_rfl) (by kernel_rfl) (by kernel_rfl) (fun _ _ _ h => h) (Or.inl ⟨by rfl, fun w hw => by rw [← HXX.out]; exact run_addZ rfl rfl rfl str_zZ (by have h1 := HXL.out.1; simp; omega)⟩) ?_
            simp only [Act.put, List.setIfInBounds_toArray, List.set_cons_zero, List.set_cons_succ]
            refine takeH 27 84 (.bool false) hHeld rfl rfl (by kernel_rfl) (by kernel_rfl) (by kernel_rfl) (fun _ _ _ h => h) (Or.inl ⟨by rfl, fun w _ => by go_simp⟩) ?_
            simp only [Act.put, List.setIfInBounds_toArray, List.set_cons_zero, List.set_cons_succ]
            refine takeH 28 85 (.bool false) hHeld rfl rfl (by kernel_rfl) (by kernel_rfl) (by kernel_rfl) (fun _ _ _ h => h) (Or.inl ⟨by rfl, fun w _ => by go_simp⟩) ?_
            simp only [Act.put, List.setIfInBounds_toArray, List.set_cons_zero, List.set_cons_succ]
            refine wpAnyH_done (by kernel_rfl) ?_ _
            refine NoPanic.normal ?_
            have FN := hide (Fb.put (s := s) PN.out.pl.dk.s1 HVAL.out HFB.out x.h x.i m HXI.out.sl.hbyte)
            clear hHeld GA GB HOP RA1 PD HSD HSL P6
            go_wp2_with fail
            go_meet
            case rel => exact ⟨_, _, _, x.i, PN, hide (FN.out.mono (by omega) (by have := HAB.out; omega))⟩
          · have HCO := hide (countR_any r s rs R w9 P9.out.pl.rk x.h m HCN.out (by have := HWT.out; omega))
            have c1' : w9.cell? ⟨g10, 1, none⟩ = some (.int .i64 x.h) := by rw [P9.out.blk.cell]; rfl
            obtain ⟨j, HJ⟩ : ∃ j, Hid ((if bnE x.h 0 = 0 then (m : Int) else 0) = j) := ⟨_, hide rfl⟩
            rw [HJ.out] at HCO
            go_wp2_with fail
            refine HCO.out.mono ?_
            rintro e wb ⟨rfl, hb⟩
            have PB := hide (P9.out.on hb)
            have PS := hide (PB.out.set 2 (.int .i64 j))
            rw [asC5_set] at PS
            have c3' : wb.cell? ⟨g10, 2, none⟩ = some (.int .i64 x.i) := by rw [PB.out.blk.cell]; rfl
            have f3' := PB.out.blk.free 2
            clear hb c1' c4 P9 HCO
            go_wp2_with (refine step_0Z rfl ?_)
            revert PS
            generalize wb.setCell ⟨g10, 2, none⟩ (.int .i64 j) = wc
            intro PS
            clear c3' f3' PB
            have HFT : Hid (∀ j, Foot d r D R j → j < wc.heap.size) := hide (fun j hj => PS.out.pl.lt hj)
            intro w3 g12 ho3 hb3
            have P3 := hide (PS.out.on hb3)
            have hs3 := HXI.out.sl.below P3.out.pl.bel
            have c4' : w3.cell? ⟨g10, 4, none⟩ = some (.slice x.a x.l x.c) := by rw [P3.out.blk.cell]; rfl
            go_wp2_with (refine step_append rfl rfl rfl ho3 hs3 (by have h1 := HXL.out.1; have h2 := HXL.out.2; simp; omega) hb3.size ?_)
            intro v14 w4 ho4 hg4 _
            rw [List.nil_append] at ho4
            have hb4 := Below.of_grown hg4 hb3.size ho3.lt
            have HO4 := hide ho4
            have B24 := hide (hb3.trans hb4)
            clear ho4 ho3 hg4 hb4 hb3 hs3 c4' P3
            go_wp2_with (refine step_1Z (q := 90) (by omega) rfl rfl ?_)
            intro w5 g15 h5 hb5
            have B25 := hide (B24.out.trans (hb5.mono B24.out.size))
            have HO5 := hide (HO4.out.below hb5)
            go_wp2_with (refine step_append rfl rfl rfl HO5.out h5 (by have h1 := HXL.out.1; omega) B25.out.size ?_)
            intro v16 w6 ho6 hg6 _
            obtain ⟨g7, c7, e7, hg7⟩ := ho6.placeZ (by rw [H1.out]; omega)
            subst e7
            have hb6 := Below.of_grown hg6 B25.out.size HO5.out.lt
            have B26 := hide (B25.out.trans hb6)
            obtain ⟨a8, c8, e8, hs8⟩ := ho6.sl' HB90.out (by rw [H1.out]; have h1 := HXL.out.1; have h2 := HXL.out.2; omega)
            injection e8 with e81 e82 e83
            subst e81 e83
            rw [H1.out] at hs8 ⊢
            have HSL := hide hs8
            have P6 := hide (PS.out.on B26.out)
            have HNF : Hid (¬ Foot d r D R g7) := hide (fun hk => by have := HFT.out g7 hk; omega)
            have HTO := hide (hs8.to' (k := x.l) (by omega))
            clear ho6 hg6 hb6 h5 hb5 HO5 HO4 B24 B25 B26 e82 hs8 hg7 HFT
            go_wp2_with fail
            refine wp_region_noPanic ?_
            have PD := hide (P6.out.on (Below.refl w6.heap.size w6).drew)
            have HSD := hide (HSL.out.below (Below.refl w6.heap.size w6).drew)
            refine wp_region_held_drew (S := fun v : World => Blk v g10 33 (asC5 0 x.h j x.nx (.slice x.a x.l x.c)) ∧ Sl v (some ⟨g7, 0, none⟩) (x.l + 1) c7 (x.x ++ [90]) ∧ Sl v x.a x.l x.c x.x) (by kernel_rfl) ⟨PD.out.blk, HSD.out, HXI.out.sl.below PD.out.pl.bel⟩ (fun hHeld => ?_)
            refine takeH 0 57 (.pointer (some ⟨d, 0, none⟩)) hHeld rfl rfl (by kernel_rfl) (by kernel_rfl) (by kernel_rfl) (fun _ _ _ h => h) (Or.inl ⟨by rfl, fun w _ => by go_simp⟩) ?_
            simp only [Act.put, List.setIfInBounds_toArray, List.set_cons_zero, List.set_cons_succ]
            refine takeH 1 58 (.pointer (some ⟨g10, 1, none⟩)) hHeld rfl rfl (by kernel_rfl) (by kernel_rfl) (by kernel_rfl) (fun _ _ _ h => h) (Or.inl ⟨by rfl, fun w _ => by go_simp⟩) ?_
            simp only [Act.put, List.setIfInBounds_toArray, List.set_cons_zero, List.set_cons_succ]
            refine takeH 2 59 (.int .i64 x.h) hHeld rfl rfl (by kernel_rfl) (by kernel_rfl) (by kernel_rfl) (fun _ _ _ h => h) (Or.inl ⟨by rfl, fun w hw => by have hw' : w.cell? ⟨g10, 1, none⟩ = some (.int .i64 x.h) := (fun hw => by rw [Blk.cell hw.1]; rfl) hw; go_simp⟩) ?_
            simp only [Act.put, List.setIfInBounds_toArray, List.set_cons_zero, List.set_cons_succ]
            refine takeH 3 60 (.pointer (some ⟨g10, 2, none⟩)) hHeld rfl rfl (by kernel_rfl) (by kernel_rfl) (by kernel_rfl) (fun _ _ _ h => h) (Or.inl ⟨by rfl, fun w _ => by go_simp⟩) ?_
            simp only [Act.put, List.setIfInBounds_toArray, List.set_cons_zero, List.set_cons_succ]
            refine takeH 4 61 (.int .i64 j) hHeld rfl rfl (by kernel_rfl) (by kernel_rfl) (by kernel_rfl) (fun _ _ _ h => h) (Or.inl ⟨by rfl, fun w hw => by have hw' : w.cell? ⟨g10, 2, none⟩ = some (.int .i64 j) := (fun hw => by rw [Blk.cell hw.1]; rfl) hw; go_simp⟩) ?_
            simp only [Act.put, List.setIfInBounds_toArray, List.set_cons_zero, List.set_cons_succ]
            refine takeH 5 62 (.slice (some ⟨g7, 0, none⟩) (x.l + 1) c7) hHeld rfl rfl (by kernel_rfl) (by kernel_rfl) (by kernel_rfl) (fun _ _ _ h => h) (Or.inl ⟨by rfl, fun w _ => by go_simp⟩) ?_
            simp only [Act.put, List.setIfInBounds_toArray, List.set_cons_zero, List.set_cons_succ]
            refine takeH 6 63 (.pointer (some ⟨g10, 4, none⟩)) hHeld rfl rfl (by kernel_rfl) (by kernel_rfl) (by kernel_rfl) (fun _ _ _ h => h) (Or.inl ⟨by rfl, fun w _ => by go_simp⟩) ?_
            simp only [Act.put, List.setIfInBounds_toArray, List.set_cons_zero, List.set_cons_succ]
            refine takeH 7 64 (.slice x.a x.l x.c) hHeld rfl rfl (by kernel_rfl) (by kernel_rfl) (by kernel_rfl) (fun _ _ _ h => h) (Or.inl ⟨by rfl, fun w hw => by have hw' : w.cell? ⟨g10, 4, none⟩ = some (.slice x.a x.l x.c) := (fun hw => by rw [Blk.cell hw.1]; rfl) hw; go_simp⟩) ?_
            simp only [Act.put, List.setIfInBounds_toArray, List.set_cons_zero, List.set_cons_succ]
            refine takeH 8 65 (.int .i64 (x.l : Int)) hHeld rfl rfl (by kernel_rfl) (by kernel_rfl) (by kernel_rfl) (fun _ _ _ h => h) (Or.inl ⟨by rfl, fun w _ => by go_simp⟩) ?_
            simp only [Act.put, List.setIfInBounds_toArray, List.set_cons_zero, List.set_cons_succ]
            refine takeH 9 66 (.slice (some ⟨g7, 0, none⟩) x.l c7) hHeld rfl rfl (by kernel_rfl) (by kernel_rfl) (by kernel_rfl) (fun _ _ _ h => h) (Or.inl ⟨by rfl, fun w _ => run_op rfl (HTO.out.1 w)⟩) ?_
            simp only [Act.put, List.setIfInBounds_toArray, List.set_cons_zero, List.set_cons_succ]
            refine takeH 11 68 (.pointer (some ⟨r, 0, none⟩)) hHeld rfl rfl (by kernel_rfl) (by kernel_rfl) (by kernel_rfl) (fun _ _ _ h => h) (Or.inl ⟨by rfl, fun w _ => by go_simp⟩) ?_
            simp only [Act.put, List.setIfInBounds_toArray, List.set_cons_zero, List.set_cons_succ]
            refine takeH 12 69 (.pointer (some ⟨g10, 1, none⟩)) hHeld rfl rfl (by kernel_rfl) (by kernel_rfl) (by kernel_rfl) (fun _ _ _ h => h) (Or.inl ⟨by rfl, fun w _ => by go_simp⟩) ?_
            simp only [Act.put, List.setIfInBounds_toArray, List.set_cons_zero, List.set_cons_succ]
            refine takeH 13 70 (.int .i64 x.h) hHeld rfl rfl (by kernel_rfl) (by kernel_rfl) (by kernel_rfl) (fun _ _ _ h => h) (Or.inl ⟨by rfl, fun w hw => by have hw' : w.cell? ⟨g10, 1, none⟩ = some (.int .i64 x.h) := (fun hw => by rw [Blk.cell hw.1]; rfl) hw; go_simp⟩) ?_
            simp only [Act.put, List.setIfInBounds_toArray, List.set_cons_zero, List.set_cons_succ]
            refine takeH 14 71 (.pointer (some ⟨g10, 2, none⟩)) hHeld rfl rfl (by kernel_rfl) (by kernel_rfl) (by kernel_rfl) (fun _ _ _ h => h) (Or.inl ⟨by rfl, fun w _ => by go_simp⟩) ?_
            simp only [Act.put, List.setIfInBounds_toArray, List.set_cons_zero, List.set_cons_succ]
            refine takeH 15 72 (.int .i64 j) hHeld rfl rfl (by kernel_rfl) (by kernel_rfl) (by kernel_rfl) (fun _ _ _ h => h) (Or.inl ⟨by rfl, fun w hw => by have hw' : w.cell? ⟨g10, 2, none⟩ = some (.int .i64 j) := (fun hw => by rw [Blk.cell hw.1]; rfl) hw; go_simp⟩) ?_
            simp only [Act.put, List.setIfInBounds_toArray, List.set_cons_zero, List.set_cons_succ]
            refine takeH 16 73 (.pointer (some ⟨g10, 4, none⟩)) hHeld rfl rfl (by kernel_rfl) (by kernel_rfl) (by kernel_rfl) (fun _ _ _ h => h) (Or.inl ⟨by rfl, fun w _ => by go_simp⟩) ?_
            simp only [Act.put, List.setIfInBounds_toArray, List.set_cons_zero, List.set_cons_succ]
            refine takeH 17 74 (.slice x.a x.l x.c) hHeld rfl rfl (by kernel_rfl) (by kernel_rfl) (by kernel_rfl) (fun _ _ _ h => h) (Or.inl ⟨by rfl, fun w hw => by have hw' : w.cell? ⟨g10, 4, none⟩ = some (.slice x.a x.l x.c) := (fun hw => by rw [Blk.cell hw.1]; rfl) hw; go_simp⟩) ?_
            simp only [Act.put, List.setIfInBounds_toArray, List.set_cons_zero, List.set_cons_succ]
            refine wpAnyH_ready (rs := [10]) (by kernel_rfl) (by simp) (AllReadyH.cons rfl (fun K hK => ?_) AllReadyH.nil)
            rw [if_pos (by rfl)]
            go_simp
            refine (putB_any d s rs D _ PD.out.pl.dk x.h j m (some ⟨g7, 0, none⟩) x.l c7 x.x (by have h1 := HTO.out.2 _ HSD.out; rwa [HTK.out] at h1) (fun _ y e hk => by cases e; exact HNF.out (.inl (.inl hk))) (HPT.out _ PD.out.pl.bel) HCN.out (by have h1 := HWT.out; have h2 := HXL.out.1; omega)).mono ?_
            rintro e wa ⟨rfl, hop⟩
            have HOP := hide hop
            have RA1 := hide (PD.out.pl.op1 hop).1
            have GA : Hid (Blk wa g10 33 (asC5 0 x.h j x.nx (.slice x.a x.l x.c)) ∧ Sl wa (some ⟨g7, 0, none⟩) (x.l + 1) c7 (x.x ++ [90]) ∧ Sl wa x.a x.l x.c x.x) := hide ⟨PD.out.mid hop, hop.slB (r := r) (R := R) HSD.out HNF.out, HXI.out.sl.below (PD.out.pl.op1 hop).2⟩
            clear hop
            refine hK.out _ _ GA.out (fun hHeld => ?_)
            clear hK K
            try simp only [Act.put, List.setIfInBounds_toArray, List.set_cons_zero, List.set_cons_succ]
            refine wpAnyH_ready (rs := [18]) (by kernel_rfl) (by simp) (AllReadyH.cons rfl (fun K hK => ?_) AllReadyH.nil)
            rw [if_pos (by rfl)]
            go_simp
            refine (putR_any15 r s rs R _ RA1.out x.h j m x.a x.l x.c x.x GA.out.2.2 (fun h0 y e hk => by
              obtain ⟨b, off, e2, hc⟩ := HXI.out.sl.hcell h0
              rw [e] at e2
              cases e2
              have h1 := World.block_lt_of_cell? w _ (hc 0 h0)
              have h2 := PD.out.pl.lo _ (.inr (.inl hk))
              simp only at h1 h2
              omega) HCN.out (by have h1 := HWT.out; have h2 := HXL.out.1; omega)).mono ?_
            rintro e wb ⟨rfl, hrp⟩
            obtain ⟨D', R', hpa⟩ := PD.out.both HOP.out hrp
            have PN := hide hpa
            have GB : Hid (Blk wb g10 33 (asC5 0 x.h j x.nx (.slice x.a x.l x.c)) ∧ Sl wb (some ⟨g7, 0, none⟩) (x.l + 1) c7 (x.x ++ [90]) ∧ Sl wb x.a x.l x.c x.x) := hide ⟨hpa.blk, hrp.slB (d := d) (D := D) GA.out.2.1 HNF.out, HXI.out.sl.below hpa.pl.bel⟩
            clear hrp hpa
            refine hK.out _ _ GB.out (fun hHeld => ?_)
            clear hK K
            try simp only [Act.put, List.setIfInBounds_toArray, List.set_cons_zero, List.set_cons_succ]
            refine takeH 19 76 (.bool false) hHeld rfl rfl (by kernel_rfl) (by kernel_rfl) (by kernel_rfl) (fun _ _ _ h => h) (Or.inl ⟨by rfl, fun w _ => by go_simp⟩) ?_
            simp only [Act.put, List.setIfInBounds_toArray, List.set_cons_zero, List.set_cons_succ]
            refine takeH 20 77 (.bool false) hHeld rfl rfl (by kernel_rfl) (by kernel_rfl) (by kernel_rfl) (fun _ _ _ h => h) (Or.inl ⟨by rfl, fun w _ => by go_simp⟩) ?_
            simp only [Act.put, List.setIfInBounds_toArray, List.set_cons_zero, List.set_cons_succ]
            refine takeH 21 78 (.slice (some ⟨g7, 0, none⟩) (x.l + 1) c7) hHeld rfl rfl (by kernel_rfl) (by kernel_rfl) (by kernel_rfl) (fun _ _ _ h => h) (Or.inl ⟨by rfl, fun w _ => by go_simp⟩) ?_
            simp only [Act.put, List.setIfInBounds_toArray, List.set_cons_zero, List.set_cons_succ]
            refine takeH 22 79 (.string X) hHeld rfl rfl (by kernel_rfl) (by kernel_rfl) (by kernel_rfl) (fun _ _ _ h => h) (Or.inl ⟨by rfl, fun w hw => run_op rfl (by rw [← HXX.out]; exact toStr hw.2.1)⟩) ?_
            simp only [Act.put, List.setIfInBounds_toArray, List.set_cons_zero, List.set_cons_succ]
            refine takeH 23 80 (.pointer (some ⟨g10, 4, none⟩)) hHeld rfl rfl (by kernel_rfl) (by kernel_rfl) (by kernel_rfl) (fun _ _ _ h => h) (Or.inl ⟨by rfl, fun w _ => by go_simp⟩) ?_
            simp only [Act.put, List.setIfInBounds_toArray, List.set_cons_zero, List.set_cons_succ]
            refine takeH 24 81 (.slice x.a x.l x.c) hHeld rfl rfl (by kernel_rfl) (by kernel_rfl) (by kernel_rfl) (fun _ _ _ h => h) (Or.inl ⟨by rfl, fun w hw => by have hw' : w.cell? ⟨g10, 4, none⟩ = some (.slice x.a x.l x.c) := (fun hw => by rw [Blk.cell hw.1]; rfl) hw; go_simp⟩) ?_
            simp only [Act.put, List.setIfInBounds_toArray, List.set_cons_zero, List.set_cons_succ]
            refine takeH 25 82 (.string (str x.x)) hHeld rfl rfl (by kernel_rfl) (by kernel_rfl) (by kernel_rfl) (fun _ _ _ h => h) (Or.inl ⟨by rfl, fun w hw => run_op rfl (toStr hw.2.2)⟩) ?_
            simp only [Act.put, List.setIfInBounds_toArray, List.set_cons_zero, List.set_cons_succ]
            refine takeH 26 83 (.string X) hHeld rfl rfl (by kernel_rfl) (by kernel_rfl) (by kernel_rfl) (fun _ _ _ h => h) (Or.inl ⟨by rfl, fun w hw => by rw [← HXX.out]; exact run_addZ rfl rfl rfl str_zZ (by have h1 := HXL.out.1; simp; omega)⟩) ?_
            simp only [Act.put, List.setIfInBounds_toArray, List.set_cons_zero, List.set_cons_succ]
            refine takeH 27 84 (.bool false) hHeld rfl rfl (by kernel_rfl) (by kernel_rfl) (by kernel_rfl) (fun _ _ _ h => h) (Or.inl ⟨by rfl, fun w _ => by go_simp⟩) ?_
            simp only [Act.put, List.setIfInBounds_toArray, List.set_cons_zero, List.set_cons_succ]
            refine takeH 28 85 (.bool false) hHeld rfl rfl (by kernel_rfl) (by kernel_rfl) (by kernel_rfl) (fun _ _ _ h => h) (Or.inl ⟨by rfl, fun w _ => by go_simp⟩) ?_
            simp only [Act.put, List.setIfInBounds_toArray, List.set_cons_zero, List.set_cons_succ]
            refine wpAnyH_done (by kernel_rfl) ?_ _
            refine NoPanic.normal ?_
            have FN := hide (Fb.put (s := s) PN.out.pl.dk.s1 HVAL.out HFB.out x.h j m HXI.out.sl.hbyte)
            clear hHeld GA GB HOP RA1 PD HSD HSL P6
            go_wp2_with fail
            go_meet
            case rel => exact ⟨_, _, _, j, PN, hide (FN.out.mono (by omega) (by have := HAB.out; omega))⟩
        by_cases h1 : kd = 1
        · subst h1
          as_aux_lemma =>
          go_wp2_with fail
          refine wp_region_noPanic ?_
          have PD := hide (P9.out.on (Below.refl w9.heap.size w9).drew)
          obtain ⟨E, htr⟩ := trims_any PD.out.pl HE.out x.h x.i HFB.out (by have := HFL.out; omega) (by have := HFL.out; have h3 := HAB.out; have h4 := HAT.out; omega)
          have HTR := hide htr
          clear htr
          refine wp_region_held_drew (S := fun v : World => Blk v g10 33 (asC5 1 x.h x.i x.nx (.slice x.a x.l x.c))) (by kernel_rfl) PD.out.blk (fun hHeld => ?_)
          refine takeH 0 88 (.pointer (some ⟨d, 0, none⟩)) hHeld rfl rfl (by kernel_rfl) (by kernel_rfl) (by kernel_rfl) (fun _ _ _ h => h) (Or.inl ⟨by rfl, fun w _ => by go_simp⟩) ?_
          simp only [Act.put, List.setIfInBounds_toArray, List.set_cons_zero, List.set_cons_succ]
          refine takeH 1 89 (.pointer (some ⟨g10, 1, none⟩)) hHeld rfl rfl (by kernel_rfl) (by kernel_rfl) (by kernel_rfl) (fun _ _ _ h => h) (Or.inl ⟨by rfl, fun w _ => by go_simp⟩) ?_
          simp only [Act.put, List.setIfInBounds_toArray, List.set_cons_zero, List.set_cons_succ]
          refine takeH 2 90 (.int .i64 x.h) hHeld rfl rfl (by kernel_rfl) (by kernel_rfl) (by kernel_rfl) (fun _ _ _ h => h) (Or.inl ⟨by rfl, fun w hw => by have hw' : w.cell? ⟨g10, 1, none⟩ = some (.int .i64 x.h) := (fun hw => by rw [Blk.cell hw]; rfl) hw; go_simp⟩) ?_
          simp only [Act.put, List.setIfInBounds_toArray, List.set_cons_zero, List.set_cons_succ]
          refine takeH 3 91 (.pointer (some ⟨g10, 2, none⟩)) hHeld rfl rfl (by kernel_rfl) (by kernel_rfl) (by kernel_rfl) (fun _ _ _ h => h) (Or.inl ⟨by rfl, fun w _ => by go_simp⟩) ?_
          simp only [Act.put, List.setIfInBounds_toArray, List.set_cons_zero, List.set_cons_succ]
          refine takeH 4 92 (.int .i64 x.i) hHeld rfl rfl (by kernel_rfl) (by kernel_rfl) (by kernel_rfl) (fun _ _ _ h => h) (Or.inl ⟨by rfl, fun w hw => by have hw' : w.cell? ⟨g10, 2, none⟩ = some (.int .i64 x.i) := (fun hw => by rw [Blk.cell hw]; rfl) hw; go_simp⟩) ?_
          simp only [Act.put, List.setIfInBounds_toArray, List.set_cons_zero, List.set_cons_succ]
          refine takeH 6 94 (.pointer (some ⟨r, 0, none⟩)) hHeld rfl rfl (by kernel_rfl) (by kernel_rfl) (by kernel_rfl) (fun _ _ _ h => h) (Or.inl ⟨by rfl, fun w _ => by go_simp⟩) ?_
          simp only [Act.put, List.setIfInBounds_toArray, List.set_cons_zero, List.set_cons_succ]
          refine takeH 7 95 (.pointer (some ⟨g10, 1, none⟩)) hHeld rfl rfl (by kernel_rfl) (by kernel_rfl) (by kernel_rfl) (fun _ _ _ h => h) (Or.inl ⟨by rfl, fun w _ => by go_simp⟩) ?_
          simp only [Act.put, List.setIfInBounds_toArray, List.set_cons_zero, List.set_cons_succ]
          refine takeH 8 96 (.int .i64 x.h) hHeld rfl rfl (by kernel_rfl) (by kernel_rfl) (by kernel_rfl) (fun _ _ _ h => h) (Or.inl ⟨by rfl, fun w hw => by have hw' : w.cell? ⟨g10, 1, none⟩ = some (.int .i64 x.h) := (fun hw => by rw [Blk.cell hw]; rfl) hw; go_simp⟩) ?_
          simp only [Act.put, List.setIfInBounds_toArray, List.set_cons_zero, List.set_cons_succ]
          refine takeH 9 97 (.pointer (some ⟨g10, 2, none⟩)) hHeld rfl rfl (by kernel_rfl) (by kernel_rfl) (by kernel_rfl) (fun _ _ _ h => h) (Or.inl ⟨by rfl, fun w _ => by go_simp⟩) ?_
          simp only [Act.put, List.setIfInBounds_toArray, List.set_cons_zero, List.set_cons_succ]
          refine takeH 10 98 (.int .i64 x.i) hHeld rfl rfl (by kernel_rfl) (by kernel_rfl) (by kernel_rfl) (fun _ _ _ h => h) (Or.inl ⟨by rfl, fun w hw => by have hw' : w.cell? ⟨g10, 2, none⟩ = some (.int .i64 x.i) := (fun hw => by rw [Blk.cell hw]; rfl) hw; go_simp⟩) ?_
          simp only [Act.put, List.setIfInBounds_toArray, List.set_cons_zero, List.set_cons_succ]
          refine wpAnyH_ready (rs := [5]) (by kernel_rfl) (by simp) (AllReadyH.cons rfl (fun K hK => ?_) AllReadyH.nil)
          rw [if_pos (by rfl)]
          go_simp
          refine HTR.out.mono ?_
          rintro e wa ⟨rfl, rs', hop, hfb', hdoc⟩
          have HOP := hide hop
          have HF' := hide hfb'
          have HDOC := hide hdoc
          have GA := hide (PD.out.mid hop)
          have RA1 := hide (PD.out.pl.op1 hop).1
          clear hop hfb' hdoc HTR
          refine hK.out _ _ GA.out (fun hHeld => ?_)
          clear hK K
          try simp only [Act.put, List.setIfInBounds_toArray, List.set_cons_zero, List.set_cons_succ]
          refine wpAnyH_ready (rs := [11]) (by kernel_rfl) (by simp) (AllReadyH.cons rfl (fun K hK => ?_) AllReadyH.nil)
          rw [if_pos (by rfl)]
          go_simp
          refine (HDOC.out _ RA1.out).mono ?_
          rintro e wb ⟨rfl, hrp⟩
          obtain ⟨D', R', hpa⟩ := PD.out.both HOP.out hrp
          have PN := hide hpa
          have GB := hide hpa.blk
          clear hrp hpa
          refine hK.out _ _ GB.out (fun hHeld => ?_)
          clear hK K
          try simp only [Act.put, List.setIfInBounds_toArray, List.set_cons_zero, List.set_cons_succ]
          refine takeH 12 100 (.bool false) hHeld rfl rfl (by kernel_rfl) (by kernel_rfl) (by kernel_rfl) (fun _ _ _ h => h) (Or.inl ⟨by rfl, fun w _ => by go_simp⟩) ?_
          simp only [Act.put, List.setIfInBounds_toArray, List.set_cons_zero, List.set_cons_succ]
          refine wpAnyH_done (by kernel_rfl) ?_ _
          refine NoPanic.normal ?_
          clear hHeld GA GB HOP RA1 PD HDOC
          go_wp2_with fail
          go_meet
          case rel => exact ⟨_, _, _, x.i, PN, hide (HF'.out.mono (by omega) (by have := HAB.out; omega))⟩
        by_cases h2 : kd = 2
        · subst h2
          as_aux_lemma =>
          have c1' : w9.cell? ⟨g10, 1, none⟩ = some (.int .i64 x.h) := by rw [P9.out.blk.cell]; rfl
          have c2' : w9.cell? ⟨g10, 2, none⟩ = some (.int .i64 x.i) := by rw [P9.out.blk.cell]; rfl
          have HRB := hide (readB_any d s rs D w9 P9.out.pl.dk x.h x.i (HPT.out _ P9.out.pl.bel) (by have := HWT.out; omega))
          obtain ⟨hbl, hbb⟩ := rdB_small (rs := rs) (fun nm => P9.out.pl.dk.byB nm) x.h x.i
          have HBL := hide hbl
          have HBB := hide hbb
          have HRR := hide (fun (V : World) (hV : RkAt V r s rs R) => readR_any15 r s rs R V hV x.h x.i (by have := HWT.out; omega))
          generalize rdBb rs x.h x.i = bs at *
          generalize rdEb rs x.h x.i = er at *
          obtain ⟨Y, HYY⟩ : ∃ Y, Hid (str bs = Y) := ⟨_, hide rfl⟩
          rw [HYY.out] at HRR
          have hselfY : (Y.toList == Y.toList) = true := by simp
          clear hbl hbb
          go_wp2_with fail
          refine HRB.out.mono ?_
          rintro e w12 ⟨v, rfl, ho, hb12⟩
          have P12 := hide (P9.out.on hb12)
          obtain ⟨va, vc, rfl, hs12⟩ := ho.sl' HBB.out (by have := HBL.out; omega)
          have HS12 := hide hs12
          have c1'' : w12.cell? ⟨g10, 1, none⟩ = some (.int .i64 x.h) := by rw [P12.out.blk.cell]; rfl
          have c2'' : w12.cell? ⟨g10, 2, none⟩ = some (.int .i64 x.i) := by rw [P12.out.blk.cell]; rfl
          obtain ⟨vl, HVL⟩ : ∃ vl, Hid (bs.length = vl) := ⟨_, hide rfl⟩
          rw [HVL.out] at HS12 ⊢
          clear ho hb12 hs12 HRB c1' c2' P9
          go_wp2_with fail
          refine (HRR.out _ P12.out.pl.rk).mono ?_
          rintro e w13 ⟨rfl, hb13⟩
          have P13 := hide (P12.out.on hb13)
          have hcv := toStr (HS12.out.below hb13)
          rw [HYY.out] at hcv
          clear hb13 P12 HRR HS12 c1'' c2''
          go_wp2_with fail
          go_meet
          case rel => exact ⟨_, _, _, x.i, P13, hide (HFB.out.mono (by omega) (by have := HAB.out; omega))⟩
        go_wp2_with fail
        go_meet
        case rel => exact ⟨_, _, _, _, P9, hide (HFB.out.mono (by omega) (by have := HAB.out; omega))⟩
      case rest =>
        as_aux_lemma =>
        obtain ⟨rs, D, R, i, P2, F2⟩ := hcut
        have HW2 : Hid (wt rs ≤ 20000000) := hide (by have h1 := F2.out.wt; have h2 := HFL.out; have h4 := HAT.out; omega)
        clear P9 c0 HWT HFB HCN HVAL
        have HCT : Hid (∀ W : World, PA w W d r s rs D R g10 (asC5 kd x.h i x.nx (.slice x.a x.l x.c)) → Calls Tryz.prog 16 #[.pointer (some ⟨d, 0, none⟩), .pointer (some ⟨r, 0, none⟩), .int .i64 x.h] W fun e w' => e = .returned (.bool true) ∧ Below W.heap.size W w') := hide (fun W hW => by
          have hwt : wt rs ≤ 1099511000000 := by have := HW2.out; omega
          by_cases he : bnE x.h 0 = 0
          · obtain ⟨H', I', e1, _, hh, _⟩ := nmO'_nats (bnE_zero he)
            obtain ⟨m, hm⟩ := CnL.have (play rs) H'
            rw [e1]
            exact counts_ok d r s rs D R H' m W hh hm hW.pl.dk hW.pl.rk hwt (HPT.out _ hW.pl.bel)
          · exact counts_bad d r s rs D R x.h W he hW.pl.dk hW.pl.rk hwt (HPT.out _ hW.pl.bel))
        have c1' : ∀ V : World, PA w V d r s rs D R g10 (asC5 kd x.h i x.nx (.slice x.a x.l x.c)) → V.cell? ⟨g10, 1, none⟩ = some (.int .i64 x.h) := fun V hV => by rw [hV.blk.cell]; rfl
        have c1'' := c1' _ P2.out
        clear c1'
        go_wp2_with fail
        refine (HCT.out _ P2.out).mono ?_
        rintro e wx ⟨rfl, hbx⟩
        have P3 := hide (P2.out.on hbx)
        clear hbx P2 c1'' HCT
        go_wp2_with fail
        refine (disks_any d r s rs D R _ P3.out.pl.dk P3.out.pl.rk (by have := HW2.out; omega)).mono ?_
        rintro e wy ⟨rfl, hby⟩
        have P4 := hide (P3.out.on hby).pl
        clear hby P3
        go_wp2
        go_roundw
        case rel => exact ⟨k + 1, rs, D, R, by go_num, by omega, P4, F2⟩
        case measure => simp [intOf]; omega
    · have hlti : ¬ (k : Int) < (n1 : Int) := by omega
      have BB := hide P.out.bel
      clear hlenA P
      go_wp2
      go_ret
      exact ⟨rfl, BB.out⟩

end Go.Proofs.YtpocadbhajacaaaGreatDoor
