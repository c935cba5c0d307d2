/-
  Texts one behind the other: Ob Re Rl9 Rn Od Nz Lo Ro Ro2 Ro3 Ks Rm Kr Ss Pz FrP PlLaw.
-/
import Derived.Test.YtnjkjickclkmhaaDoorNm
import Derived.Test.YtnjkjickclkmhaaDoorSc
import Derived.Test.YtnjkjickclkmhaaDoorTd
import Derived.Deep.RegionLaw
import Derived.Test.YtnjkjickclkmhaaDoorPkA
import Derived.Test.YtnjkjickclkmhaaDoorOw
import Derived.Test.YtnjkjickclkmhaaDoorNmR
import Derived.Test.YtnjkjickclkmhaaDoorRf
import Derived.Test.YtnjkjickclkmhaaDoorCn
import Derived.Test.YtnjkjickclkmhaaDoorTz
import Derived.Test.YtnjkjickclkmhaaDoorComp
import Derived.Test.YtnjkjickclkmhaaDoorFrD
import Derived.Deep.Slices
import Derived.Deep.Cut
import Derived.Deep.CutRange

/-
  Contracts of octet's functions: room, number, Uint64, Digest; widened, putNumber, PutUint64, PutDigest.
-/
namespace Go.Proofs.YtnjkjickclkmhaaDoor
open Go.RowKit
set_option linter.unusedVariables false

set_option maxHeartbeats 400000 in
theorem room_any (a : Option Addr) (len cap : Nat) (p : Int) (n : Nat) (w : World) (hl : len ≤ 140737488355328) (hn : n ≤ 32) :
    Calls Tryd.prog 50 #[.slice a len cap, .int .i64 p, .int .i64 n] w fun e w' => e = .returned (.int .i64 (rdE len p n)) ∧ w = w' := by
  by_cases h : p < 0
  · have e : rdE len p n = 2 := by simp [rdE, h]
    rw [e]
    go_enter Tryd.func50, Tryd.ntmps50
    go_wp2
    go_ret
    exact ⟨rfl, rfl⟩
  by_cases h' : (len : Int) < p
  · have e : rdE len p n = 2 := by simp [rdE, h']
    rw [e]
    clear e
    go_enter Tryd.func50, Tryd.ntmps50
    go_wp2
    go_ret
    exact ⟨rfl, rfl⟩
  by_cases h2 : (len : Int) - p < n
  · have e : rdE len p n = 10 := by simp [rdE, h, h', h2]
    rw [e]
    clear e
    go_enter Tryd.func50, Tryd.ntmps50
    go_wp2
    go_ret
    exact ⟨rfl, rfl⟩
  · have e : rdE len p n = 0 := by simp [rdE, h, h', h2]
    rw [e]
    clear e
    go_enter Tryd.func50, Tryd.ntmps50
    go_wp2
    go_ret
    exact ⟨rfl, rfl⟩
set_option maxHeartbeats 400000 in
theorem number_any (a : Option Addr) (len cap : Nat) (xs : List Int) (p : Int) (n : Nat) (w : World) (hs : Sl w a len cap xs) (hn : n ≤ 8) (hn0 : 0 < n) :
    Calls Tryd.prog 57 #[.slice a len cap, .int .i64 p, .int .i64 n] w fun e w' => e = .returned (.tuple #[.int .u64 (rdV xs p n), .int .i64 (rdN len p n), .int .i64 (rdE len p n)]) ∧ w = w' := by
  obtain ⟨hx, _, _, hl, hb, _, hc⟩ := hs
  by_cases h : p < 0 ∨ (len : Int) < p ∨ (len : Int) - p < n
  · have e1 : rdV xs p n = 0 := by simp [rdV, hx]; omega
    have e2 : rdN len p n = 0 := by simp [rdN]; omega
    have e3 : rdE len p n = 2 ∨ rdE len p n = 10 := by
      by_cases h1 : p < 0 ∨ (len : Int) < p
      · left; simp [rdE, h1]
      · right; have h2 : (len : Int) - p < n := by omega
        simp [rdE, h1, h2]
    rw [e1, e2]
    have hne : (rdE len p n != 0) = true := by simp; omega
    clear e1 e2 hc e3
    go_enter Tryd.func57, Tryd.ntmps57
    go_wp2_with (go_at_call 50; refine (room_any _ _ _ _ _ _ hl (by omega)).mono ?_; rintro e w' ⟨rfl, rfl⟩)
    go_ret3
    exact ⟨rfl, rfl⟩
  · obtain ⟨p, rfl⟩ := Int.eq_ofNat_of_zero_le (show 0 ≤ p by omega)
    obtain ⟨b, off, rfl, hce⟩ := hc (by omega)
    clear hc
    have e1 : rdV xs p n = beVal ((xs.drop p).take n) := by simp only [rdV, hx]; rw [if_pos (by omega)]; simp
    have e2 : rdN len p n = p + n := by simp [rdN]; omega
    have e3 : rdE len p n = 0 := by simp [rdE]; omega
    rw [e1, e2, e3]
    have E3 : Hid (rdE len p n = 0) := e3
    clear e1 e2 e3
    go_enter Tryd.func57, Tryd.ntmps57
    go_wp2_with (go_at_call 50; refine (room_any _ _ _ _ _ _ hl (by omega)).mono ?_; rintro e w' ⟨rfl, rfl⟩; rw [E3.out])
    go_loop [6, 19] (fun v i => ∃ k : Nat, k ≤ n ∧ i = .int .i64 k ∧ v = .int .u64 (beVal ((xs.drop p).take k))) (fun _ i => n - (intOf i).toNat)
    case atStart => exact ⟨0, Nat.zero_le _, rfl, by simp [beVal]⟩
    case round =>
      obtain ⟨k, hk, rfl, rfl⟩ := hrel
      by_cases hlt : k < n
      · have hck := hce (p + k) (by omega)
        have HS : Hid _ := beVal_step xs p k (by omega)
        have H2 : Hid _ := hb.get (p + k)
        have H3 : Hid _ := beVal_take_bd xs hb p k (by omega) (by omega)
        go_wp2
        go_round
        case rel =>
          refine ⟨k + 1, by omega, by go_num, ?_⟩
          rw [HS.out, ← or_step _ _ H3.out.1 H3.out.2 H2.out.1 H2.out.2]
          rfl
        case measure => simp [intOf]; omega
      · have hkn : k = n := by omega
        subst hkn
        clear hce
        go_wp2
        go_ret3
        exact ⟨rfl, rfl⟩
set_option maxHeartbeats 400000 in
theorem uint64_any (a : Option Addr) (len cap : Nat) (xs : List Int) (p : Int) (w : World) (hs : Sl w a len cap xs) :
    Calls Tryd.prog 46 #[.slice a len cap, .int .i64 p] w fun e w' => e = .returned (.tuple #[.int .u64 (rdV xs p 8), .int .i64 (rdN len p 8), .int .i64 (rdE len p 8)]) ∧ w = w' := by
  go_enter Tryd.func46, Tryd.ntmps46
  go_wp2_with (go_at_call 57; refine (number_any _ _ _ xs _ 8 _ hs (by omega) (by omega)).mono ?_; rintro e w' ⟨rfl, rfl⟩)
  go_ret3
  exact ⟨rfl, rfl⟩

theorem spl_zer (ys : List Int) (n m : Nat) (h : ys.length = m) : spl (u8s (zer (m + n))) (u8s (ys.take m)) 0 = u8s (ys ++ zer n) := by
  rw [spl_u8, ← h, List.take_length]
  congr 1
  simp [splB, zer]
set_option maxHeartbeats 400000 in
theorem widened_any (a : Option Addr) (len cap : Nat) (xs : List Int) (n : Nat) (w : World) (hs : Sl w a len cap xs) (hn : n ≤ 64) :
    Calls Tryd.prog 56 #[.slice a len cap, .int .i64 n] w fun e w' => ∃ g, e = .returned (.slice (some ⟨g, 0, none⟩) (len + n) (len + n)) ∧ w.heap.size ≤ g ∧ Blk w' g 5 (u8s (xs ++ zer n)) ∧ Below w.heap.size w w' := by
  have hr := hs.hreach
  have HS := hide hs
  clear hs
  go_enter Tryd.func56, Tryd.ntmps56
  go_wp2_with (refine step_make (len + n) rfl rfl rfl (by omega) (by omega) (by omega) ?_)
  intro w1 g hrow hg hb
  go_wp2_with (refine step_copy rfl rfl rfl (HS.out.below hb) g 0 len (by omega) hrow (fun _ => rfl) (by rw [u8s_length, zer_length]; omega) ?_)
  intro w2 hrow2 hbut
  rw [spl_zer xs n len HS.out.hlen] at hrow2
  go_wp2
  go_ret
  exact ⟨g, rfl, hg, hrow2, hb.trans (hbut.below hg)⟩
/-- One byte more of B laid over noughts. -/
theorem fill_step (xs B : List Int) (len n k : Nat) (hx : xs.length = len) (hB : B.length = n) (hk : k < n) :
    (xs ++ (B.take k ++ zer (n - k))).set (len + k) (B.getD k 0) = xs ++ (B.take (k + 1) ++ zer (n - (k + 1))) := by
  subst hx
  rw [List.set_append_right _ _ (by omega), Nat.add_sub_cancel_left]
  congr 1
  have hz : zer (n - k) = 0 :: zer (n - (k + 1)) := by
    have : n - k = (n - (k + 1)) + 1 := by omega
    rw [this]; simp [zer, List.replicate_succ]
  rw [List.set_append_right _ _ (by simp; omega), hz]
  have e : k - (B.take k).length = 0 := by simp; omega
  have e2 : B.getD k 0 = B[k] := by simp [List.getD, hB, hk]
  rw [e, e2, List.take_succ_eq_append_getElem (by omega), List.append_assoc]
  rfl
set_option maxHeartbeats 400000 in
theorem putNumber_any (a : Option Addr) (len cap : Nat) (xs : List Int) (v : Int) (n : Nat) (w : World) (hs : Sl w a len cap xs) (hn : n ≤ 8) (hv : 0 ≤ v) (hv2 : v < 18446744073709551616) :
    Calls Tryd.prog 55 #[.slice a len cap, .int .u64 v, .int .i64 n] w fun e w' => ∃ g, e = .returned (.slice (some ⟨g, 0, none⟩) (len + n) (len + n)) ∧ w.heap.size ≤ g ∧ Blk w' g 5 (u8s (xs ++ be v n)) ∧ Below w.heap.size w w' := by
  have hr := hs.hreach
  have HS := hide hs
  clear hs
  go_enter Tryd.func55, Tryd.ntmps55
  go_wp2_with (go_at_call 56; refine (widened_any _ _ _ xs n _ HS.out (by omega)).mono ?_; rintro e w1 ⟨g, rfl, hg, hrow, hb⟩)
  go_loopw [13] (fun i wr => ∃ k : Nat, k ≤ n ∧ i = .int .i64 k ∧ Blk wr g 5 (u8s (xs ++ ((be v n).take k ++ zer (n - k)))) ∧ Below w.heap.size w wr) (fun i _ => n - (intOf i).toNat)
  case atStart => exact ⟨0, by omega, rfl, by simpa using hrow, hb⟩
  case round =>
    obtain ⟨k, hk, rfl, hr1, hb1⟩ := hrel
    by_cases hlt : k < n
    · have hl1 : (xs ++ ((be v n).take k ++ zer (n - k))).length = len + n := by simp [be_length, zer_length, HS.out.hlen]; omega
      have hcell : wr.cell? ⟨g, len + k, none⟩ = some (.int .u8 ((xs ++ ((be v n).take k ++ zer (n - k))).getD (len + k) 0)) := by rw [hr1.cell, u8s_get _ _ (by omega)]
      have hfree := hr1.free (len + k)
      clear hl1
      have HE := hide (fill_step xs (be v n) len n k HS.out.hlen (be_length v n) hlt)
      have HR := hide hr1
      clear hr1
      go_wp2
      go_roundw
      case rel =>
        have e := HR.out.set (len + k) (.int .u8 ((be v n).getD k 0))
        rw [u8s_set, HE.out, be_get v n k hlt, ← pow2_8] at e
        exact ⟨k + 1, by omega, by go_num, e, hb1.setCell hg _⟩
      case measure => simp [intOf]; omega
    · have hkn : k = n := by omega
      subst hkn
      go_wp2
      go_ret
      refine ⟨g, rfl, hg, ?_, hb1⟩
      have e : xs ++ (List.take k (be v k) ++ zer (k - k)) = xs ++ be v k := by
        rw [List.take_of_length_le (by rw [be_length]; exact Nat.le_refl _)]; simp [zer]
      rw [e] at hr1
      exact hr1
set_option maxHeartbeats 400000 in
theorem putUint64_any (a : Option Addr) (len cap : Nat) (xs : List Int) (v : Int) (w : World) (hs : Sl w a len cap xs) (hv : 0 ≤ v) (hv2 : v < 18446744073709551616) :
    Calls Tryd.prog 43 #[.slice a len cap, .int .u64 v] w fun e w' => ∃ g, e = .returned (.slice (some ⟨g, 0, none⟩) (len + 8) (len + 8)) ∧ w.heap.size ≤ g ∧ Blk w' g 5 (u8s (xs ++ be v 8)) ∧ Below w.heap.size w w' := by
  have HS := hide hs
  clear hs
  go_enter Tryd.func43, Tryd.ntmps43
  go_wp2_with (go_at_call 55; refine (putNumber_any _ _ _ xs v 8 _ HS.out (by omega) hv hv2).mono ?_; rintro e w1 ⟨g, rfl, hg, hrow, hb⟩)
  go_ret
  exact ⟨g, rfl, hg, hrow, hb⟩
theorem spl_tail (xs ds : List Int) (len : Nat) (hx : xs.length = len) (hd : ds.length = 32) : spl (u8s (xs ++ zer 32)) (u8s (ds.take 32)) len = u8s (xs ++ ds) := by
  subst hx
  rw [spl_u8, List.take_of_length_le (by omega)]
  congr 1
  simp only [splB, hd, List.take_left]
  rw [List.drop_eq_nil_of_le (by simp [zer])]
  simp
set_option maxHeartbeats 400000 in
theorem putDigest_any (a : Option Addr) (len cap : Nat) (xs ds : List Int) (w : World) (hs : Sl w a len cap xs) (hd : ds.length = 32) (hdb : isB ds) :
    Calls Tryd.prog 44 #[.slice a len cap, .agg (u8s ds).toArray] w fun e w' => ∃ g, e = .returned (.slice (some ⟨g, 0, none⟩) (len + 32) (len + 32)) ∧ w.heap.size ≤ g ∧ Blk w' g 5 (u8s (xs ++ ds)) ∧ Below w.heap.size w w' := by
  have HS := hide hs
  have HD := hide hd
  have hreach := hs.hreach
  clear hs hd
  go_enter Tryd.func44, Tryd.ntmps44
  go_wp2_with (refine step_box rfl rfl ?_)
  intro w1 g1 hr1 hg1 hb1
  go_wp2_with (go_at_call 56; refine (widened_any _ _ _ xs 32 _ (HS.out.below hb1) (by omega)).mono ?_; rintro e w2 ⟨g2, rfl, hg2, hr2, hb2⟩)
  have hr1' := hr1.below hb2 hr1.lt
  have hsl := hide (hr1'.sl 0 32 ds (by rw [List.drop_zero, List.take_of_length_le (by rw [u8s_length]; exact Nat.le_refl _)]) hdb (by rw [HD.out]; omega) (by rw [HD.out]; omega) (by omega))
  rw [HD.out] at hsl
  have hll : Hid ((u8s (xs ++ zer 32)).length = len + 32) := by show _ = _; simp [u8s_length, zer, HS.out.hlen]
  have hle : (len : Int) ≤ (len : Int) + 32 := by omega
  have hsl2 := hide (hsl.out.below ((Below.refl _ _).drew))
  go_region_law (refine rstep_copy rfl rfl rfl rfl hsl2.out g2 len 32 (by omega) hr2 (fun _ => rfl) (by rw [hll.out]; omega) ?_; intro w3 hr3 hbut3)
  rw [spl_tail xs ds len HS.out.hlen HD.out] at hr3
  have hb3 : Below w.heap.size w w3 := ((hb1.trans (hb2.mono hb1.size)).drew).trans (hbut3.below (Nat.le_trans hb1.size hg2))
  clear hr1 hr1' hr2 hsl hsl2 hbut3 hll
  go_wp2
  go_ret
  exact ⟨g2, rfl, Nat.le_trans hb1.size hg2, hr3, hb3⟩

end Go.Proofs.YtnjkjickclkmhaaDoor

/-
  A range's bytes.
-/
namespace Go.Proofs.YtnjkjickclkmhaaDoor
open Go.RowKit Go.Shelf
set_option linter.unusedVariables false

/-- The bytes of a range. -/
def rgB (b e : Nat) (ps : List Pt) : List Int := be (b : Int) 8 ++ (be (e : Int) 8 ++ ps.flatMap Prod.snd)
/-- Its beginning, with the digests of some parts. -/
def rgP (b e : Nat) (ps : List Pt) (pre : List Nat) : List Int := be (b : Int) 8 ++ (be (e : Int) 8 ++ pre.flatMap fun j => (pG ps j).2)
theorem rgP_nil (b e : Nat) (ps : List Pt) : rgP b e ps [] = be (b : Int) 8 ++ be (e : Int) 8 := by simp [rgP]
theorem rgP_snoc (b e : Nat) (ps : List Pt) (pre : List Nat) (j : Nat) : rgP b e ps (pre ++ [j]) = rgP b e ps pre ++ (pG ps j).2 := by simp [rgP, List.flatMap_append]
theorem rgP_all (b e : Nat) (ps : List Pt) : rgP b e ps (List.range ps.length) = rgB b e ps := by
  unfold rgP rgB
  congr 2
  have h : ∀ k, k ≤ ps.length → (List.range k).flatMap (fun j => (pG ps j).2) = (ps.take k).flatMap Prod.snd := by
    intro k
    induction k with
    | zero => intro _; rfl
    | succ k ih =>
      intro hk
      rw [List.range_succ, List.flatMap_append, ih (by omega), List.take_succ_eq_append_getElem (by omega), List.flatMap_append]
      congr 1
      simp only [List.flatMap_cons, List.flatMap_nil, List.append_nil]
      unfold pG
      rw [if_pos (by omega)]
      simp only [pAt, List.getD]
      rw [List.getElem?_eq_getElem (by omega)]
      rfl
  rw [h _ (Nat.le_refl _), List.take_length]
theorem rgP_good (b e : Nat) {ps : List Pt} (h : GoodL ps) (pre : List Nat) : (rgP b e ps pre).length = 16 + 32 * pre.length ∧ isB (rgP b e ps pre) := by
  have key : (pre.flatMap fun j => (pG ps j).2).length = 32 * pre.length ∧ isB (pre.flatMap fun j => (pG ps j).2) := by
    induction pre with
    | nil => exact ⟨rfl, fun x hx => by simp at hx⟩
    | cons j pre ih =>
      have hg := pG_good h j
      refine ⟨?_, ?_⟩
      · rw [List.flatMap_cons, List.length_append, ih.1, hg.len, List.length_cons]; omega
      · rw [List.flatMap_cons]; exact hg.byte.append ih.2
  refine ⟨?_, ?_⟩
  · unfold rgP
    rw [List.length_append, List.length_append, be_length, be_length, key.1]
    omega
  · exact (be_isB _ _).append ((be_isB _ _).append key.2)

/-- What Bytes' loop keeps. -/
structure BI (w W : World) (gv : Nat) (xs : List Int) : Prop where
  ex : ∃ gb, Blk W gv 45 [.slice (some ⟨gb, 0, none⟩) xs.length xs.length] ∧ Blk W gb 5 (u8s xs) ∧ w.heap.size ≤ gb
  bel : Below w.heap.size w W
theorem BI.below {w W W' : World} {gv : Nat} {xs : List Int} (h : BI w W gv xs) (hb : Below W.heap.size W W') : BI w W' gv xs := by
  obtain ⟨gb, h1, h2, h3⟩ := h.ex
  exact ⟨⟨gb, h1.below hb h1.lt, h2.below hb h2.lt, h3⟩, h.bel.trans (hb.mono h.bel.size)⟩
theorem BI.kept {w A B : World} {gv : Nat} {xs : List Int} {row : Option Nat} (h : BI w A gv xs) (hg : A.grownBy B row) (hr : ∀ r, row = some r → w.heap.size ≤ r ∧ ∃ o : Obj, A.heap[r]? = some o ∧ o.isCells = false) : BI w B gv xs := by
  obtain ⟨gb, h1, h2, h3⟩ := h.ex
  exact ⟨⟨gb, h1.kept hg (fun r e => (hr r e).2), h2.kept hg (fun r e => (hr r e).2), h3⟩, h.bel.grown hg h.bel.size (fun r e => (hr r e).1)⟩

set_option maxRecDepth 100000 in
set_option maxHeartbeats 1000000 in
theorem rbytes_any (B g b e : Nat) (v : Value) (ps : List Pt) (w : World) (hr : Rg w B g b e v ps) :
    Calls Tryd.prog 28 #[.pointer (some ⟨g, 0, none⟩)] w fun r w' => ∃ gb, r = .returned (.slice (some ⟨gb, 0, none⟩) (rgB b e ps).length (rgB b e ps).length) ∧ Blk w' gb 5 (u8s (rgB b e ps)) ∧ w.heap.size ≤ gb ∧ Below w.heap.size w w' := by
  have HR := hide hr
  have c0 : w.cell? ⟨g, 0, none⟩ = some (.bool true) := by rw [hr.blk.cell]; rfl
  have c1 : w.cell? ⟨g, 1, none⟩ = some (.int .i64 (b : Int)) := by rw [hr.blk.cell]; rfl
  have hle := hr.le
  have hmax := hr.max
  have hcnt := hr.count
  have hwb : IntKind.u64.wrap (b : Int) = (b : Int) := by rw [IntKind.wrap_u64]; omega
  have hwe : IntKind.u64.wrap (e : Int) = (e : Int) := by rw [IntKind.wrap_u64]; omega
  clear hr
  refine (callsIn_wide (n := 3)).1 ?_
  refine callsIn_of_wp_marks Tryd.func28 rfl trivial ?_ rfl
  refine wpIn_wide.2 ?_
  simp only [Tryd.ntmps28, List.size_toArray, List.length_cons, List.length_nil, Nat.reduceAdd, Nat.reduceSub, Array.replicate_succ, Array.replicate_zero, List.push_toArray, List.append_toArray, List.nil_append, List.cons_append]
  go_wp2_with (go_at_call 18; refine (made_is _ _ c0).mono ?_; rintro e w' ⟨rfl, rfl⟩)
  refine (putUint64_any none 0 0 [] _ _ (Sl.none0 _) (by omega) (by omega)).mono ?_
  rintro r w1 ⟨g1, rfl, hg1, hb1, hbl1⟩
  have c2 : w1.cell? ⟨g, 2, none⟩ = some (.int .i64 (e : Int)) := by rw [(HR.out.below hbl1).blk.cell]; rfl
  go_wp2_with fail
  have BV : Blk (w1.alloc (.cells #[.slice (some ⟨g1, 0, none⟩) 8 8] 45)) w1.heap.size 45 [.slice (some ⟨g1, 0, none⟩) 8 8] := Blk.made _ _ _
  have hba : Below w1.heap.size w1 (w1.alloc (.cells #[.slice (some ⟨g1, 0, none⟩) 8 8] 45)) := (Below.refl _ _).alloc (Nat.le_refl _) _
  have hgv : w.heap.size ≤ w1.heap.size := hbl1.size
  have B2 := hbl1.trans (hba.mono hbl1.size)
  have HG1 := hide (hb1.below hba hb1.lt)
  revert BV B2 HG1 hgv
  generalize w1.alloc (.cells #[.slice (some ⟨g1, 0, none⟩) 8 8] 45) = W2
  generalize w1.heap.size = gv
  intro BV hgv B2 HG1
  refine wp_region_noPanic ?_
  have bd := (Below.refl W2.heap.size W2).drew
  have HB2 := hide (B2.trans (bd.mono B2.size))
  have HV2 := hide (BV.below bd BV.lt)
  have HG2 := hide (HG1.out.below bd HG1.out.lt)
  clear BV hba hb1 hbl1 c0 c1 c2 B2 bd HG1
  have HS1 : ∀ V : World, Below w.heap.size w V → V.cell? ⟨g, 2, none⟩ = some (.int .i64 (e : Int)) := fun V h => by rw [(HR.out.below h).blk.cell]; rfl
  refine wp_region_held_drew (S := fun V : World => V.cell? ⟨g, 2, none⟩ = some (.int .i64 (e : Int))) (by kernel_rfl) (HS1 _ HB2.out) (fun hHeld => ?_)
  refine takeH 1 17 (.pointer (some ⟨g, 0, none⟩)) hHeld rfl rfl (by kernel_rfl) (by kernel_rfl) (by kernel_rfl) (fun _ _ _ h => h) (Or.inl ⟨by rfl, fun w _ => by go_simp⟩) ?_
  simp only [Act.put, List.setIfInBounds_toArray, List.set_cons_zero, List.set_cons_succ]
  refine takeH 2 18 (.pointer (some ⟨g, 0, none⟩)) hHeld rfl rfl (by kernel_rfl) (by kernel_rfl) (by kernel_rfl) (fun _ _ _ h => h) (Or.inl ⟨by rfl, fun w _ => by go_simp⟩) ?_
  simp only [Act.put, List.setIfInBounds_toArray, List.set_cons_zero, List.set_cons_succ]
  refine takeH 3 19 (.pointer (some ⟨g, 1, none⟩)) hHeld rfl rfl (by kernel_rfl) (by kernel_rfl) (by kernel_rfl) (fun _ _ _ h => h) (Or.inl ⟨by rfl, fun w _ => by go_simp⟩) ?_
  simp only [Act.put, List.setIfInBounds_toArray, List.set_cons_zero, List.set_cons_succ]
  refine takeH 4 20 (.pointer (some ⟨g, 2, none⟩)) hHeld rfl rfl (by kernel_rfl) (by kernel_rfl) (by kernel_rfl) (fun _ _ _ h => h) (Or.inl ⟨by rfl, fun w _ => by go_simp⟩) ?_
  simp only [Act.put, List.setIfInBounds_toArray, List.set_cons_zero, List.set_cons_succ]
  refine takeH 5 21 (.int .i64 (e : Int)) hHeld rfl rfl (by kernel_rfl) (by kernel_rfl) (by kernel_rfl) (fun _ _ _ h => h) (Or.inl ⟨by rfl, fun w hw => by have hw' : w.cell? ⟨g, 2, none⟩ = some (.int .i64 (e : Int)) := (fun h => h) hw; go_simp⟩) ?_
  simp only [Act.put, List.setIfInBounds_toArray, List.set_cons_zero, List.set_cons_succ]
  refine takeH 6 22 (.int .u64 (e : Int)) hHeld rfl rfl (by kernel_rfl) (by kernel_rfl) (by kernel_rfl) (fun _ _ _ h => h) (Or.inl ⟨by rfl, fun w _ => by go_simp⟩) ?_
  simp only [Act.put, List.setIfInBounds_toArray, List.set_cons_zero, List.set_cons_succ]
  have cv : W2.drew.cell? ⟨gv, 0, none⟩ = some (.slice (some ⟨g1, 0, none⟩) 8 8) := by rw [HV2.out.cell]; rfl
  refine wpAnyH_ready (rs := [0]) (by kernel_rfl) (by simp) (AllReadyH.cons rfl (fun K hK => ?_) AllReadyH.nil)
  rw [if_pos (by rfl)]
  go_simp
  refine hK.out _ _ ((HS1 _ HB2.out)) (fun hHeld => ?_)
  clear hK K
  clear cv
  refine wpAnyH_ready (rs := [7]) (by kernel_rfl) (by simp) (AllReadyH.cons rfl (fun K hK => ?_) AllReadyH.nil)
  rw [if_pos (by rfl)]
  go_simp
  refine (putUint64_any (some ⟨g1, 0, none⟩) 8 8 (be (b : Int) 8) (e : Int) _ (HG2.out.sl 0 8 (be (b : Int) 8) (by rw [List.drop_zero, List.take_of_length_le (by simp [u8s_length])]; rfl) (be_isB _ _) (by rw [be_length]; omega) (by rw [be_length]; omega) (by omega)) (by omega) (by omega)).mono ?_
  rintro r W3 ⟨g3, rfl, hg3, hb3, hbl3⟩
  have HB3 := hide (HB2.out.trans (hbl3.mono HB2.out.size))
  have HV3 := hide (HV2.out.below hbl3 HV2.out.lt)
  have HG3 := hide hb3
  refine hK.out _ _ ((HS1 _ HB3.out)) (fun hHeld => ?_)
  clear hK K
  have cv : W3.cell? ⟨gv, 0, none⟩ = some (.slice (some ⟨g1, 0, none⟩) 8 8) := by rw [HV3.out.cell]; rfl
  have fv : W3.frozen? ⟨gv, 0, none⟩ = false := HV3.out.free 0
  refine wpAnyH_ready (rs := [8]) (by kernel_rfl) (by simp) (AllReadyH.cons rfl (fun K hK => ?_) AllReadyH.nil)
  rw [if_pos (by rfl)]
  go_simp
  have hbut := But.setCell W3 gv 0 (.slice (some ⟨g3, 0, none⟩) 16 16)
  have hgg : g3 ≠ gv := HG3.out.apart HV3.out (by decide)
  have HB4 := hide (HB3.out.trans (hbut.below hgv))
  have I4 : Hid (BI w (W3.setCell ⟨gv, 0, none⟩ (.slice (some ⟨g3, 0, none⟩) 16 16)) gv (rgP b e ps [])) := hide ⟨⟨g3, by
    rw [(rgP_good b e HR.out.good []).1]
    exact HV3.out.set 0 _, by rw [rgP_nil]; exact HG3.out.but hbut hgg, Nat.le_trans HB2.out.size hg3⟩, HB4.out⟩
  refine hK.out _ _ ((HS1 _ HB4.out)) (fun hHeld => ?_)
  clear hK K
  refine wpAnyH_done (by kernel_rfl) ?_ _
  refine NoPanic.normal ?_
  clear hHeld cv fv hbut HG3 HV3 HB3 HG2 HV2 HB2 hb3 hbl3
  revert HB4 I4
  generalize W3.setCell ⟨gv, 0, none⟩ (.slice (some ⟨g3, 0, none⟩) 16 16) = W4
  intro HB4 I4
  go_wp2_with fail
  refine (all_any _ _).mono ?_
  rintro r W5 ⟨rfl, rfl⟩
  have hbB : Below W4.heap.size W4 (W4.alloc (.cells #[.pointer (some ⟨g, 0, none⟩)] 23)) := (Below.refl _ _).alloc (Nat.le_refl _) _
  have BX : Blk (W4.alloc (.cells #[.pointer (some ⟨g, 0, none⟩)] 23)) W4.heap.size 23 [.pointer (some ⟨g, 0, none⟩)] := Blk.made _ _ _
  have I5 := I4.out.below hbB
  have R5 := HR.out.below I5.bel
  clear HB4 I4
  revert I5 R5 BX hbB
  generalize W4.alloc (.cells #[.pointer (some ⟨g, 0, none⟩)] 23) = W5
  generalize W4.heap.size = bx
  intro hbB BX I5 R5
  have HI5 := hide I5
  have HR5 := hide R5
  have hws := I5.bel.size
  have hgv5 : gv < W5.heap.size := by obtain ⟨_, h1, _⟩ := I5.ex; exact h1.lt
  clear I5 R5 hbB
  go_wp2_with fail
  refine (wpIn_wide (n := 3)).1 ?_
  refine range1 rfl (by decide) (gf := 39) (lb := #[.pointer (some ⟨bx, 0, none⟩)]) rfl trivial (enters_of Tryd.func39 (by kernel_rfl) rfl)
    (all_stops _ g b e v ps bx W5.heap.size W5 BX.lt (Nat.le_refl _) (by rw [BX.cell]; rfl) HR5.out _ (Mine.one hgv5) (Fresh.one hgv5)) KM.trans (KM.book (Mine.one hgv5) (Nat.le_refl _)) (fun A B h hb => km_below (Mine.one hgv5) h hb) (fun _ => rfl)
    (fun pre W => BI w W gv (rgP b e ps pre) ∧ W5.heap.size ≤ W.heap.size) (fun _ _ _ => False)
    (fun _ A B row h hg hr => ⟨h.1.kept hg (fun r e => ⟨by have := (hr r e).1; omega, (hr r e).2⟩), Nat.le_trans h.2 hg.size⟩)
    (fun _ _ h => h.2) (fun c _ A B row h hg hr => h)
    ⟨HI5.out, Nat.le_refl _⟩ 34 (fun x => u8s (pG ps x).2) ?act ?assign ?body ?done ?stop
  case assign =>
    rintro l x W K hK
    have hsem := Oper.semAt_some
    have HLx := hide (show (u8s (pG ps x).2).length = 32 by rw [u8s_length, (pG_good HR5.out.good x).len])
    gi_wp2_with (refine istep_alloc (.round l) zD rfl ?_)
    intro V3 g10 hg10 hle10 hb10
    gi_wp2_with (refine istep_storeA (.round l) wD rfl rfl rfl hg10 HLx.out (One.u8 _) rfl ?_)
    intro V4 hg104 hbut10
    have hK2 := hK g10 V4 (hb10.trans (hbut10.below hle10)) hg104
    clear hK
    gi_wp2
    exact hK2
  case stop =>
    rintro D c pre W hD hSp h hK
    exact h.elim
  case body =>
    rintro l pre x g6 W ⟨hI, hsz⟩ hg6 hlt
    have hsem := Oper.semAt_some
    obtain ⟨gb, hv1, hb1, hgb⟩ := hI.ex
    obtain ⟨hl1, hbb⟩ := rgP_good b e HR5.out.good pre
    have HPx := hide (pG_good HR5.out.good x)
    have HLx := hide (show (u8s (pG ps x).2).length = 32 by rw [u8s_length, HPx.out.len])
    obtain ⟨m, HM⟩ : ∃ m, Hid ((rgP b e ps pre).length = m) := ⟨_, hide rfl⟩
    have hm : m ≤ 140737488355328 := by have h1 := HM.out; have h2 := HR5.out.count; omega
    have HSL := hide (hb1.sl 0 m (rgP b e ps pre) (by rw [List.drop_zero, List.take_of_length_le (by rw [u8s_length]; exact Nat.le_refl _)]) hbb (by rw [HM.out]; omega) (by rw [HM.out]; omega) (by omega))
    rw [HM.out] at hv1 HSL
    have cv : W.cell? ⟨gv, 0, none⟩ = some (.slice (some ⟨gb, 0, none⟩) m m) := by rw [hv1.cell]; rfl
    have HV1 := hide hv1
    have HG6 := hide hg6
    have HIb := hide hI.bel
    clear hI hv1 hb1 hg6 hl1 hbb
    gi_wp2_with (refine istep_loadA (.round l) wD rfl rfl HG6.out HLx.out ?_)
    refine ⟨trivial, (calls_round (.round l) (putDigest_any (some ⟨gb, 0, none⟩) m m (rgP b e ps pre) (pG ps x).2 _ HSL.out HPx.out.len HPx.out.byte)).mono ?_⟩
    rintro r V1 ⟨g7, rfl, hg7, hb7, hbl7⟩
    have HV7 := hide (HV1.out.below hbl7 HV1.out.lt)
    have cv7 : V1.cell? ⟨gv, 0, none⟩ = some (.slice (some ⟨gb, 0, none⟩) m m) := by rw [HV7.out.cell]; rfl
    have fv7 : V1.frozen? ⟨gv, 0, none⟩ = false := HV7.out.free 0
    clear cv
    gi_wp2
    have hbut := But.setCell V1 gv 0 (.slice (some ⟨g7, 0, none⟩) (m + 32) (m + 32))
    have hgg7 : g7 ≠ gv := hb7.apart HV7.out (by decide)
    refine ⟨((keepsO_below hbl7).trans (keepsO_but hbut HV7.out)).from _, KM.trans (km_below (Mine.one hgv5) hsz hbl7) (km_one hbut HV7.out.lt), ⟨⟨g7, ?_, ?_, ?_⟩, ?_⟩, ?_⟩
    · rw [rgP_snoc, List.length_append, HM.out, HPx.out.len]
      exact HV7.out.set 0 _
    · rw [rgP_snoc]
      exact hb7.but hbut hgg7
    · exact Nat.le_trans HIb.out.size hg7
    · exact (HIb.out.trans (hbl7.mono HIb.out.size)).trans (hbut.below hgv)
    · rw [hbut.size]; exact Nat.le_trans hsz hbl7.size
  case done =>
    rintro D ys W hD rfl ⟨hI, hsz⟩ hKd
    rw [rgP_all] at hI
    obtain ⟨gb, hv1, hb1, hgb⟩ := hI.ex
    have cv : W.cell? ⟨gv, 0, none⟩ = some (.slice (some ⟨gb, 0, none⟩) (rgB b e ps).length (rgB b e ps).length) := by rw [hv1.cell]; rfl
    have HKd := hide hKd
    have HB1 := hide hb1
    have HBel := hide hI.bel
    clear hKd hI hv1 hb1
    go_wp2
    have BA := HBel.out.trans (belowK_b (w := w) (Nat.le_refl _) _ D _ (.deferred none) (by omega) HKd.out rfl rfl)
    have hgF := HB1.out.kept (grownBy_putObj' _ D (.deferred none)) (fun r e => by cases e; exact ⟨_, HKd.out, rfl⟩)
    refine ⟨by simp, .inl ⟨_, _, rfl, run_takeDeferred HKd.out, ?_⟩⟩
    refine ⟨_, ?_, gb, rfl, hgF, hgb, BA⟩
    simp [results, Tryd.f28, go_sem]

end Go.Proofs.YtnjkjickclkmhaaDoor

/-
  The document's Bytes of a range.
-/
namespace Go.Proofs.YtnjkjickclkmhaaDoor
open Go.RowKit Go.Shelf
set_option linter.unusedVariables false
set_option linter.unusedSimpArgs false

theorem join5 {T : Program} {c : Code} {a : Act} {w : World} {Q : Exit → Act → World → Prop} {K : Act → World → Prop} (P : Nat → Nat → Value → World → Prop) (act : Nat → Nat → Value → Act) (h1 : ∀ g h u W, P g h u W → K (act g h u) W) (h2 : (∀ g h u W, P g h u W → K (act g h u) W) → Code.wp T c (Exit.then K Q) a w) : Code.wp T c (Exit.then K Q) a w := h2 h1
theorem own8 {W : World} {g B : Nat} {x : Int} (h : Blk W g 5 (u8s (be x 8))) (hB : B ≤ g) : Own W B (.slice (some ⟨g, 0, none⟩) 8 8) (be x 8) := by
  have h1 := Own.of_blk h hB (by rw [be_length]; omega)
  rw [be_length] at h1
  exact h1
/-- What the loop of the document's Bytes keeps. -/
structure BY (w W : World) (g1 B b e : Nat) (v : Value) (ps : List Pt) (u : Value) (k : Nat) : Prop where
  c1 : Blk W g1 29 (rfC b e v)
  r : Rf5 W B b e v ps
  own : Own W w.heap.size u (be (b : Int) 8 ++ (be (e : Int) 8 ++ (ps.take k).flatMap Prod.snd))
  bel : Below w.heap.size w W
theorem BY.below {w W W' : World} {g1 B b e : Nat} {v : Value} {ps : List Pt} {u : Value} {k : Nat} (h : BY w W g1 B b e v ps u k) (hb : Below W.heap.size W W') : BY w W' g1 B b e v ps u k :=
  ⟨h.c1.below hb h.c1.lt, h.r.below hb, h.own.below hb, h.bel.trans (hb.mono h.bel.size)⟩
theorem DOwn.keptB {w w' : World} {B B' : Nat} {u v : Value} {n : Nat} {xs ys : List Int} (h : DOwn w B v n xs) (h2 : Own w B' u ys) (hg : w.grownBy w' u.ownBlock) : DOwn w' B v n xs := World.ownsRow.kept h hg (by
  cases hv : v.ownBlock with
  | none => exact .inl rfl
  | some k =>
    refine .inr (fun e => ?_)
    obtain ⟨cs, hb⟩ := h.blk k hv
    rcases h2.2 with ⟨rfl, _⟩ | ⟨k2, cap, cur, rfl, _, hh, _⟩
    · cases e
    · injection e with e
      subst e
      have hb' : w.heap[k]? = some (.cells cs.toArray 34) := hb
      rw [hb'] at hh
      injection hh with hh
      injection hh with _ h3 _
      cases h3)
set_option maxRecDepth 100000 in
set_option maxHeartbeats 4000000 in
theorem refBytes_ok (B b e : Nat) (a0 : Option Addr) (n0 q0 : Nat) (ps : List Pt) (w : World) (hr : Rf5 w B b e (.slice a0 n0 q0) ps) (hn0 : n0 = ps.length) :
    Calls Tryd.prog 29 #[.agg (rfC b e (.slice a0 n0 q0)).toArray] w fun r w' => ∃ v', r = .returned v' ∧ Own w' w.heap.size v' (rgB b e ps) ∧ Below w.heap.size w w' := by
  have HR := hide hr
  have HN := hide hn0
  have hbe := hr.le
  have hmax := hr.max
  have hn98 : n0 ≤ 98 := by
    have h1 := parts_98 b e hr.max
    have h2 := congrArg List.length hr.nodes
    rw [List.length_map] at h2
    omega
  have hub : IntKind.u64.wrap (b : Int) = (b : Int) := by rw [IntKind.wrap_u64]; omega
  have hue : IntKind.u64.wrap (e : Int) = (e : Int) := by rw [IntKind.wrap_u64]; omega
  clear hr hn0
  go_enter Tryd.func29, Tryd.ntmps29
  go_wp2_with (refine step_box (cs := rfC b e (.slice a0 n0 q0)) rfl rfl ?_)
  intro w1 g1 hg1 hle1 hb1
  have HG1 := hide hg1
  have HB1 := hide hb1
  have HS : Hid (∀ V : World, Blk V g1 29 (rfC b e (.slice a0 n0 q0)) → V.cell? ⟨g1, 0, none⟩ = some (.int .i64 (b : Int)) ∧ V.cell? ⟨g1, 1, none⟩ = some (.int .i64 (e : Int))) := hide (fun V h => ⟨by rw [h.cell]; rfl, by rw [h.cell]; rfl⟩)
  clear hg1 hb1
  go_wp2_with fail
  refine join5 (fun g h u W => BY w W g1 B b e (.slice a0 n0 q0) ps u 0) ?act ?tail (fun hjoin => ?_)
  rotate_left
  rotate_left
  · refine wp_region_noPanic ?_
    have HB0 := hide (HB1.out.drew)
    have HC0 := hide (HG1.out.below ((Below.refl w1.heap.size w1).drew) HG1.out.lt)
    have HR0 := hide ((HR.out.below HB1.out).below ((Below.refl w1.heap.size w1).drew))
    refine wp_region_held_drew (S := fun V : World => V.cell? ⟨g1, 0, none⟩ = some (.int .i64 (b : Int)) ∧ V.cell? ⟨g1, 1, none⟩ = some (.int .i64 (e : Int))) (by kernel_rfl) (HS.out _ HC0.out) (fun hHeld => ?_)
    refine takeH 0 6 (.pointer (some ⟨g1, 0, none⟩)) hHeld rfl rfl (by kernel_rfl) (by kernel_rfl) (by kernel_rfl) (fun _ _ _ h => h) (Or.inl ⟨by rfl, fun w _ => by go_simp⟩) ?_
    simp only [Act.put, List.setIfInBounds_toArray, List.set_cons_zero, List.set_cons_succ]
    refine takeH 1 7 (.int .i64 (b : Int)) hHeld rfl rfl (by kernel_rfl) (by kernel_rfl) (by kernel_rfl) (fun _ _ _ h => h) (Or.inl ⟨by rfl, fun w hw => by have hw' : w.cell? ⟨g1, 0, none⟩ = some (.int .i64 (b : Int)) := (fun h => h.1) hw; go_simp⟩) ?_
    simp only [Act.put, List.setIfInBounds_toArray, List.set_cons_zero, List.set_cons_succ]
    refine takeH 2 8 (.int .u64 (b : Int)) hHeld rfl rfl (by kernel_rfl) (by kernel_rfl) (by kernel_rfl) (fun _ _ _ h => h) (Or.inl ⟨by rfl, fun w _ => by go_simp⟩) ?_
    simp only [Act.put, List.setIfInBounds_toArray, List.set_cons_zero, List.set_cons_succ]
    refine takeH 4 10 (.pointer (some ⟨g1, 1, none⟩)) hHeld rfl rfl (by kernel_rfl) (by kernel_rfl) (by kernel_rfl) (fun _ _ _ h => h) (Or.inl ⟨by rfl, fun w _ => by go_simp⟩) ?_
    simp only [Act.put, List.setIfInBounds_toArray, List.set_cons_zero, List.set_cons_succ]
    refine takeH 5 11 (.int .i64 (e : Int)) hHeld rfl rfl (by kernel_rfl) (by kernel_rfl) (by kernel_rfl) (fun _ _ _ h => h) (Or.inl ⟨by rfl, fun w hw => by have hw' : w.cell? ⟨g1, 1, none⟩ = some (.int .i64 (e : Int)) := (fun h => h.2) hw; go_simp⟩) ?_
    simp only [Act.put, List.setIfInBounds_toArray, List.set_cons_zero, List.set_cons_succ]
    refine takeH 6 12 (.int .u64 (e : Int)) hHeld rfl rfl (by kernel_rfl) (by kernel_rfl) (by kernel_rfl) (fun _ _ _ h => h) (Or.inl ⟨by rfl, fun w _ => by go_simp⟩) ?_
    simp only [Act.put, List.setIfInBounds_toArray, List.set_cons_zero, List.set_cons_succ]
    refine wpAnyH_ready (rs := [3]) (by kernel_rfl) (by simp) (AllReadyH.cons rfl (fun K hK => ?_) AllReadyH.nil)
    rw [if_pos (by rfl)]
    go_simp
    refine (number_ref (b : Int) 8 _ (by omega) (by omega) (by omega)).mono ?_
    rintro r W4 ⟨gx, rfl, hlx, hgx, hb4⟩
    have HB4 := hide (HB0.out.trans (hb4.mono HB0.out.size))
    have HC4 := hide (HC0.out.below hb4 HC0.out.lt)
    have HR4 := hide (HR0.out.below hb4)
    have HGX4 := hide hgx
    have hwx : w.heap.size ≤ gx := Nat.le_trans HB0.out.size hlx
    have hxg : gx ≠ g1 := by have := HC0.out.lt; omega
    refine hK.out _ _ (HS.out _ HC4.out) (fun hHeld => ?_)
    clear hK K hlx hgx hb4
    refine wpAnyH_ready (rs := [7]) (by kernel_rfl) (by simp) (AllReadyH.cons rfl (fun K hK => ?_) AllReadyH.nil)
    rw [if_pos (by rfl)]
    go_simp
    refine (number_ref (e : Int) 8 _ (by omega) (by omega) (by omega)).mono ?_
    rintro r W6 ⟨gy, rfl, hly, hgy, hb6⟩
    have HB := hide (HB4.out.trans (hb6.mono HB4.out.size))
    have HC := hide (HC4.out.below hb6 HC4.out.lt)
    have HRR := hide (HR4.out.below hb6)
    have HGX := hide (HGX4.out.below hb6 HGX4.out.lt)
    have HGY := hide hgy
    refine hK.out _ _ (HS.out _ HC.out) (fun hHeld => ?_)
    clear hK K hly hgy hb6
    refine wpAnyH_ready (rs := [8]) (by kernel_rfl) (by simp) (AllReadyH.cons rfl (fun K hK => ?_) AllReadyH.nil)
    rw [if_pos (by rfl)]
    refine wp_appendB rfl rfl rfl (own8 HGX.out hwx) (be_sl HGY.out (by omega)) (by rw [be_length]; omega) HB.out.size ?_
    intro v5 W5 ho5 hg5 _
    have HB5 := hide (HB.out.trans (Below.of_grown hg5 HB.out.size (fun r hr => by cases hr; exact hwx)))
    have HC5 := hide (HC.out.grew2 hg5 (fun e1 => hxg (Option.some.inj e1)))
    have HR5 := hide (⟨HRR.out.own.keptB (own8 HGX.out hwx) hg5, HRR.out.good, HRR.out.nodes, HRR.out.le, HRR.out.max⟩ : Rf5 W5 B b e (.slice a0 n0 q0) ps)
    have HO5 := hide ho5
    refine hK.out _ _ (HS.out _ HC5.out) (fun hHeld => ?_)
    clear hK K hg5 ho5
    simp only [Act.put, List.setIfInBounds_toArray, List.set_cons_zero, List.set_cons_succ]
    refine takeH 9 3 (v5) hHeld rfl rfl (by kernel_rfl) (by kernel_rfl) (by kernel_rfl) (fun _ _ _ h => h) (Or.inl ⟨by rfl, fun w _ => by go_simp⟩) ?_
    simp only [Act.put, List.setIfInBounds_toArray, List.set_cons_zero, List.set_cons_succ]
    refine wpAnyH_done (by kernel_rfl) ?_ _
    refine NoPanic.normal ?_
    exact hjoin gx gy v5 W5 ⟨HC5.out, HR5.out, by simpa using HO5.out, HB5.out⟩
  case tail =>
    rintro gx gy v5 W5 hI
    have I0 := hide hI
    clear hI HG1 HB1 HS
    go_wp2_with fail
    go_loopw [3, 4] (fun u i wr => ∃ k : Nat, i = .int .i64 (k : Int) ∧ k ≤ n0 ∧ Hid (BY w wr g1 B b e (.slice a0 n0 q0) ps u k)) (fun _ i _ => n0 - (intOf i).toNat)
    case atStart => exact ⟨0, rfl, Nat.zero_le _, I0⟩
    case round =>
      clear I0
      obtain ⟨k, rfl, hkn, HI⟩ := hrel
      have c2 : wr.cell? ⟨g1, 2, none⟩ = some (.slice a0 n0 q0) := by rw [HI.out.c1.cell]; rfl
      by_cases hk : k < n0
      · have hkI : (k : Int) < (n0 : Int) := by omega
        have hkw : wrap64 ((k : Int) + 1) = (k : Int) + 1 := by unfold wrap64; omega
        have hkp : k < ps.length := by have := HN.out; omega
        obtain ⟨lb, rfl⟩ : ∃ lb, a0 = some ⟨lb, 0, none⟩ := by
          obtain ⟨_, h2⟩ := HR.out.own
          rcases h2 with ⟨e1, h0⟩ | ⟨g, cap, cur, e1, _⟩
          · omega
          · injection e1 with e1 e3; exact ⟨g, e1⟩
        have hix := d_at lb 0 n0 q0 k (k : Int) rfl hk
        simp only [Nat.zero_add] at hix
        have HPG := hide (pG_good HR.out.good k)
        have HLk := hide (show (u8s (pG ps k).2).length = 32 by rw [u8s_length, HPG.out.len])
        have HRK : Hid (wr.rangeAt lb (32 * k) (u8s (pG ps k).2)) := hide (by
          obtain ⟨Y, hY1, hY2⟩ := flat_at HR.out.good hkp
          have h1 := HI.out.r.own
          rw [hY1, ← HN.out] at h1
          exact h1.range hY2)
        go_wp2_with (first | (refine step_loadR wD rfl rfl (u8s (pG ps k).2) HRK.out HLk.out ?_) | (refine step_alloc zD rfl ?_))
        intro w3 g5 hg5 hle5 hb5
        go_wp2_with (refine step_storeA wD rfl rfl rfl hg5 HLk.out (One.u8 _) rfl ?_)
        intro w4 hg54 hbut5
        have HI4 := hide (HI.out.below (below_boxed hb5 hle5 hbut5))
        have SD : Hid (Sl w4 (some ⟨g5, 0, none⟩) 32 32 (pG ps k).2) := hide (by
          have h1 := hg54.sl0 HPG.out.byte (by rw [HPG.out.len]; omega)
          rwa [HPG.out.len] at h1)
        clear hg5 hle5 hb5 hg54 hbut5 c2 HRK hix HI
        go_wp2_with (refine step_append rfl rfl rfl HI4.out.own SD.out (by simp only [List.length_append, be_length, flat_length (HR.out.good.take k), List.length_take]; omega) HI4.out.bel.size ?_)
        intro v6 w6 ho6 hg6 _
        have HO6 : Hid (Own w6 w.heap.size v6 (be (b : Int) 8 ++ (be (e : Int) 8 ++ (ps.take (k + 1)).flatMap Prod.snd))) := hide (by
          rw [pG_at hkp, List.flatMap_append]
          simpa [List.append_assoc] using ho6)
        have HI6 : Hid (BY w w6 g1 B b e (.slice (some ⟨lb, 0, none⟩) n0 q0) ps v6 (k + 1)) := hide ⟨HI4.out.c1.grown (by decide) HI4.out.own hg6, ⟨HI4.out.r.own.keptB HI4.out.own hg6, HI4.out.r.good, HI4.out.r.nodes, HI4.out.r.le, HI4.out.r.max⟩, HO6.out, HI4.out.bel.trans (Below.of_grown hg6 HI4.out.bel.size (fun r hr => HI4.out.own.lt r hr))⟩
        clear ho6 hg6 HI4 SD HO6
        go_wp2
        go_roundw
        case rel => exact ⟨k + 1, by go_num, by omega, HI6⟩
        case measure => simp [intOf]; omega
      · obtain rfl : k = n0 := by omega
        have HO : Hid (Own wr w.heap.size u3 (rgB b e ps)) := hide (by
          have h1 := HI.out.own
          rw [HN.out, List.take_length] at h1
          exact h1)
        go_wp2
        go_ret
        exact ⟨_, rfl, HO.out, HI.out.bel⟩

end Go.Proofs.YtnjkjickclkmhaaDoor

/-
  The document's Digest at a place where there is one.
-/
namespace Go.Proofs.YtnjkjickclkmhaaDoor
open Go.RowKit
set_option linter.unusedVariables false

theorem sub_get (xs : List Int) (p i : Nat) (hi : i < 32) : ((xs.drop p).take 32).getD i 0 = xs.getD (p + i) 0 := by
  simp [List.getD, List.getElem?_drop, hi]
theorem elemBy : Tryd.prog.elem 45 = 5 := by kernel_rfl
set_option maxRecDepth 100000 in
theorem b_at (b o n cap i : Nat) (hi : i < n) (v : World) : (Instr.indexAt 45 (.slice (some ⟨b, o, none⟩) n cap) (.int .i64 (i : Int))).run Tryd.prog v = .ok (.pointer (some ⟨b, o + i, none⟩)) v := by
  rw [run_indexAt_slice v _ _ _ _ .i64 i undBs, if_pos ⟨by omega, by omega⟩, elemBy, sizeB]
  simp only [Result.andThen_ok, Int.toNat_natCast]
  rw [Addr.add_lit, Nat.mul_one]
set_option maxRecDepth 100000 in
set_option maxHeartbeats 2000000 in
theorem digAt_any (a : Option Addr) (len cap : Nat) (xs : List Int) (p : Nat) (w : World) (hs : Sl w a len cap xs) (hp : p + 32 ≤ len) :
    Calls Tryd.prog 34 #[.slice a len cap, .int .i64 (p : Int)] w fun r w' => r = .returned (.tuple #[.agg (u8s ((xs.drop p).take 32)).toArray, .int .i64 ((p : Int) + 32), .int .i64 0]) ∧ Below w.heap.size w w' := by
  have hlen := hs.hlen
  have hmx := hs.hreach
  obtain ⟨b, off, rfl, hce⟩ := hs.hcell (by omega)
  have hbl : b < w.heap.size := World.block_lt_of_cell? w _ (hce 0 (by omega))
  obtain ⟨ys, HY⟩ : ∃ ys, Hid ((xs.drop p).take 32 = ys) := ⟨_, hide rfl⟩
  have HX : Hid (ys.length = 32) := hide (by rw [← HY.out, List.length_take, List.length_drop]; omega)
  have HCE : Hid (∀ i, i < 32 → w.cell? ⟨b, off + (p + i), none⟩ = some (.int .u8 (ys.getD i 0))) := hide (fun i hi => by
    rw [← HY.out, sub_get xs p i hi]
    exact hce (p + i) (by omega))
  have hp0 : ¬ (p : Int) < 0 := by omega
  have hp1 : ¬ (len : Int) < (p : Int) := by omega
  have hp2 : wrap64 ((len : Int) - (p : Int)) = (len : Int) - (p : Int) := by unfold wrap64; omega
  have hp3 : ¬ (len : Int) - (p : Int) < 32 := by omega
  have hp4 : wrap64 ((p : Int) + 32) = (p : Int) + 32 := by unfold wrap64; omega
  rw [HY.out]
  clear hs hce hlen
  go_enter Tryd.func34, Tryd.ntmps34
  go_wp2_with (refine step_alloc zD0 rfl ?_)
  intro w1 g1 hg1 hle1 hb1
  go_wp2_with (refine step_alloc zD0 rfl ?_)
  intro w2 g2 hg2 hle2 hb2
  have hb12 : Below w.heap.size w w2 := hb1.trans (hb2.mono hb1.size)
  have G1 := hide (hg1.below hb2 hg1.lt)
  have G2 := hide hg2
  have n12 : g1 ≠ g2 := by have := hg1.lt; omega
  have l2 : w.heap.size ≤ g2 := by have := hb1.size; omega
  have HCE2 : Hid (∀ i, i < 32 → w2.cell? ⟨b, off + (p + i), none⟩ = some (.int .u8 (ys.getD i 0))) := hide (fun i hi => by
    rw [hb12.cell (p := ⟨b, off + (p + i), none⟩) hbl]; exact HCE.out i hi)
  have HB12 := hide hb12
  clear hg1 hg2 hb1 hb2 hb12 HCE hle2
  go_wp2
  go_loopw [8] (fun i wq => ∃ k : Nat, k ≤ 32 ∧ i = .int .i64 k ∧ Blk wq g2 33 (spl (u8s (zer 32)) (u8s (ys.take k)) 0) ∧ But g2 w2 wq) (fun i _ => 32 - (intOf i).toNat)
  case atStart => exact ⟨0, by omega, rfl, G2.out, But.refl _ _⟩
  case round =>
    clear G2
    obtain ⟨k, hk, rfl, hr, hbut⟩ := hrel
    have HR := hide hr
    have HBut := hide hbut
    clear hr hbut
    by_cases hk32 : k < 32
    · obtain ⟨old, hold⟩ := spl_there ys 32 k HX.out hk32
      have hcell : wr.cell? ⟨g2, k, none⟩ = some old := by rw [HR.out.cell]; exact hold
      have hfree : wr.frozen? ⟨g2, k, none⟩ = false := HR.out.free k
      have hsrc : wr.cell? ⟨b, off + (p + k), none⟩ = some (.int .u8 (ys.getD k 0)) := by
        rw [World.cell?_of_block (w := w2) (HBut.out.block b (by omega)), HCE2.out k hk32]
      have hkL : (k : Int) < 32 := by omega
      have hpk : wrap64 ((p : Int) + (k : Int)) = (p : Int) + (k : Int) := by unfold wrap64; omega
      have x2 := index_D g2 k (k : Int) rfl hk32
      have x1 : ∀ v : World, (Instr.indexAt 45 (.slice (some ⟨b, off, none⟩) len cap) (.int .i64 ((p : Int) + (k : Int)))).run Tryd.prog v = .ok (.pointer (some ⟨b, off + (p + k), none⟩)) v := fun v => by
        rw [show (p : Int) + (k : Int) = ((p + k : Nat) : Int) by omega]
        exact b_at b off len cap (p + k) (by omega) v
      have HN := hide (spl_next ys 32 k HX.out hk32)
      clear hold
      go_wp2
      refine ⟨⟨k + 1, by omega, by go_num, ?_, HBut.out.trans (But.setCell _ _ _ _)⟩, ?_⟩
      · have e := HR.out.set k (.int .u8 (ys.getD k 0))
        rw [HN.out] at e
        exact e
      · simp [intOf]; omega
    · obtain rfl : k = 32 := by omega
      have HF := hide HR.out
      rw [List.take_of_length_le (by rw [HX.out]; exact Nat.le_refl _), spl_all ys 32 HX.out] at HF
      have G1q := hide (G1.out.but HBut.out n12)
      go_wp2_with (first | (refine step_loadA wD0 rfl rfl HF.out (by rw [u8s_length]; exact HX.out) ?_) | (refine step_storeA wD0 rfl rfl rfl G1q.out (by rw [u8s_length]; exact HX.out) (One.u8 _) rfl ?_; intro w6 hg6 hbut6))
      refine bodyPost_ret (results_wide3 rfl wD0 _ _ rfl hg6 (by rw [u8s_length]; exact HX.out)) rfl ⟨rfl, ?_⟩
      exact HB12.out.trans ((HBut.out.below l2).trans (hbut6.below hle1))

end Go.Proofs.YtnjkjickclkmhaaDoor

/-
  octet.Digest; compact.readSpan.
-/
namespace Go.Proofs.YtnjkjickclkmhaaDoor
open Go.RowKit
set_option linter.unusedVariables false

set_option maxHeartbeats 400000 in
theorem octD_bad (a : Option Addr) (len cap : Nat) (p : Int) (w : World) (hl : len ≤ 140737488355328) (h : p < 0 ∨ (len : Int) < p ∨ (len : Int) - p < 32) :
    Calls Tryd.prog 32 #[.slice a len cap, .int .i64 p] w fun e w' => (∃ E, E ≠ 0 ∧ e = .returned (.tuple #[.agg (u8s (zer 32)).toArray, .int .i64 0, .int .i64 E])) ∧ Below w.heap.size w w' := by
  have e3 : rdE len p 32 = 2 ∨ rdE len p 32 = 10 := by
    by_cases h1 : p < 0 ∨ (len : Int) < p
    · left; simp [rdE, h1]
    · right; have h2 : (len : Int) - p < 32 := by omega
      simp [rdE, h1, h2]
  have hne0 : rdE len p 32 ≠ 0 := by omega
  have hne : (rdE len p 32 != 0) = true := by simp; omega
  have HNE := hide hne0
  clear e3 h hne0
  go_enter Tryd.func32, Tryd.ntmps32
  go_wp2_with (refine step_alloc zD rfl ?_)
  intro w1 g1 hr1 hg1 hb1
  have G1 := hide hr1
  clear hr1
  go_wp2_with (first | (go_at_call 50; refine (room_any _ _ _ _ 32 _ hl (by omega)).mono ?_; rintro e w' ⟨rfl, rfl⟩) | (refine step_buildD rfl ?_) | (refine step_storeA wD rfl rfl rfl G1.out rfl (One.u8 _) rfl ?_; intro w2 hg2 hbut))
  refine bodyPost_ret (results_wide3 rfl wD _ _ rfl hg2 rfl) rfl ⟨⟨_, HNE.out, rfl⟩, ?_⟩
  exact hb1.trans (hbut.below hg1)

theorem spl_full {cs vs : List Value} (h : vs.length = cs.length) : spl cs vs 0 = vs := by
  unfold spl
  rw [List.drop_of_length_le (by omega)]
  simp
set_option maxHeartbeats 400000 in
theorem octD_ok (b off len cap : Nat) (xs : List Int) (p : Nat) (w : World) (hs : Sl w (some ⟨b, off, none⟩) len cap xs) (h : p + 32 ≤ len) :
    Calls Tryd.prog 32 #[.slice (some ⟨b, off, none⟩) len cap, .int .i64 (p : Int)] w fun e w' => e = .returned (.tuple #[.agg (u8s ((xs.drop p).take 32)).toArray, .int .i64 (p + 32 : Int), .int .i64 0]) ∧ Below w.heap.size w w' := by
  have hl := hs.hreach
  have hcap := hs.hcap
  have HS := hide hs
  obtain ⟨ys, HYE⟩ : ∃ ys, Hid ((xs.drop p).take 32 = ys) := ⟨_, hide rfl⟩
  have HY : Hid (ys.length = 32) := hide (by rw [← HYE.out]; simp; have := hs.hlen; omega)
  have HUL : Hid ((u8s ys).length = 32) := hide (by rw [u8s_length, HY.out])
  rw [HYE.out]
  have E3 : Hid (rdE len p 32 = 0) := by show _ = _; simp [rdE]; omega
  clear hs
  go_enter Tryd.func32, Tryd.ntmps32
  go_wp2_with (refine step_alloc zD rfl ?_)
  intro w1 g1 hr1 hg1 hb1
  go_wp2_with (go_at_call 50; refine (room_any _ _ _ _ 32 _ hl (by omega)).mono ?_; rintro e w' ⟨rfl, rfl⟩; rw [E3.out])
  have hpl : p ≤ len := by omega
  have hpc : ¬ cap = p := by omega
  have HD := hide ((((HS.out.below hb1).drop p hpl)).below ((Below.refl _ _).drew))
  go_region_law (refine rstep_copy rfl rfl rfl rfl HD.out g1 0 32 (by omega) hr1 (fun _ => rfl) (by simp [u8s_length, zer_length]) ?_; intro w3 hr3 hbut3)
  rw [HYE.out, spl_full (by rw [HUL.out]; rfl)] at hr3
  have G3 := hide hr3
  have hb3 : Below w.heap.size w w3 := hb1.drew.trans (hbut3.below hg1)
  clear hr1 hr3 hbut3 HD
  go_wp2_with (first | (refine step_loadA wD rfl rfl G3.out HUL.out ?_) | (refine step_storeA wD rfl rfl rfl G3.out HUL.out (One.u8 _) HUL.out ?_))
  intro w5 hr5 hbut5
  go_wp2
  refine bodyPost_ret (results_wide3 rfl wD _ _ rfl hr5 HUL.out) rfl ⟨?_, hb3.trans (hbut5.below hg1)⟩
  simp

/-- Is there a span that a range can have? -/
def rsOK (xs : List Int) : Prop := 16 ≤ xs.length ∧ rdV xs 0 8 ≤ rdV xs 8 8 ∧ rdV xs 8 8 ≤ 281474976710656
set_option maxHeartbeats 1000000 in
theorem rs_bad (a : Option Addr) (len cap : Nat) (xs : List Int) (w : World) (hs : Sl w a len cap xs) (h : ¬ rsOK xs) :
    Calls Tryd.prog 30 #[.slice a len cap] w fun r w' => r = .returned (.tuple #[.agg #[.int .i64 0, .int .i64 0], .int .i64 0, .bool false]) ∧ Below w.heap.size w w' := by
  have HS := hide hs
  have hx := hs.hlen
  have hl := hs.hreach
  have hbd0 := rdV_bd xs hs.hbyte 0 8
  have hbd8 := rdV_bd xs hs.hbyte 8 8
  clear hs
  by_cases h8 : len < 8
  · have hne : (rdE len 0 8 != 0) = true := by simp [rdE]; omega
    clear h hbd0 hbd8 hx
    go_enter Tryd.func30, Tryd.ntmps30
    go_wp2_with (refine step_alloc zSp rfl ?_)
    intro w1 g1 hg1 hle1 hb1
    have G1 := hide hg1
    clear hg1
    go_wp2_with fail
    refine (uint64_any a len cap xs 0 _ (HS.out.below hb1)).mono ?_
    rintro r w' ⟨rfl, rfl⟩
    go_wp2_with (refine step_storeA wSpn rfl rfl rfl G1.out rfl (One.two 0 0) rfl ?_; intro w2 hg2 hbut)
    refine bodyPost_ret (results_wide3 rfl wSpn _ _ rfl hg2 rfl) rfl ⟨rfl, hb1.trans (hbut.below hle1)⟩
  have E0 : rdE len 0 8 = 0 := by simp [rdE]; omega
  have N0 : rdN len 0 8 = 8 := by simp [rdN]; omega
  by_cases h16 : len < 16
  · have hne : (rdE len 8 8 != 0) = true := by simp [rdE]; omega
    clear h hbd0 hbd8 hx
    go_enter Tryd.func30, Tryd.ntmps30
    go_wp2_with (refine step_alloc zSp rfl ?_)
    intro w1 g1 hg1 hle1 hb1
    have G1 := hide hg1
    clear hg1
    go_wp2_with fail
    refine (uint64_any a len cap xs 0 _ (HS.out.below hb1)).mono ?_
    rintro r w' ⟨rfl, rfl⟩
    rw [E0, N0]
    go_wp2_with fail
    refine (uint64_any a len cap xs 8 _ (HS.out.below hb1)).mono ?_
    rintro r w' ⟨rfl, rfl⟩
    go_wp2_with (refine step_storeA wSpn rfl rfl rfl G1.out rfl (One.two 0 0) rfl ?_; intro w2 hg2 hbut)
    refine bodyPost_ret (results_wide3 rfl wSpn _ _ rfl hg2 rfl) rfl ⟨rfl, hb1.trans (hbut.below hle1)⟩
  have E8 : rdE len 8 8 = 0 := by simp [rdE]; omega
  by_cases hbe : rdV xs 8 8 < rdV xs 0 8
  · obtain ⟨vb, hvb⟩ : ∃ v, rdV xs 0 8 = v := ⟨_, rfl⟩
    obtain ⟨ve, hve⟩ : ∃ v, rdV xs 8 8 = v := ⟨_, rfl⟩
    rw [hvb, hve] at hbe
    have HVB := hide hvb
    have HVE := hide hve
    clear h hbd0 hbd8 hx hvb hve
    go_enter Tryd.func30, Tryd.ntmps30
    go_wp2_with (refine step_alloc zSp rfl ?_)
    intro w1 g1 hg1 hle1 hb1
    have G1 := hide hg1
    clear hg1
    go_wp2_with fail
    refine (uint64_any a len cap xs 0 _ (HS.out.below hb1)).mono ?_
    rintro r w' ⟨rfl, rfl⟩
    rw [E0, N0, HVB.out]
    go_wp2_with fail
    refine (uint64_any a len cap xs 8 _ (HS.out.below hb1)).mono ?_
    rintro r w' ⟨rfl, rfl⟩
    rw [E8, HVE.out]
    go_wp2_with (refine step_storeA wSpn rfl rfl rfl G1.out rfl (One.two 0 0) rfl ?_; intro w2 hg2 hbut)
    refine bodyPost_ret (results_wide3 rfl wSpn _ _ rfl hg2 rfl) rfl ⟨rfl, hb1.trans (hbut.below hle1)⟩
  have hmx : 281474976710656 < rdV xs 8 8 := by
    apply Int.not_le.1
    intro hc
    exact h ⟨by omega, by omega, hc⟩
  · obtain ⟨vb, hvb⟩ : ∃ v, rdV xs 0 8 = v := ⟨_, rfl⟩
    obtain ⟨ve, hve⟩ : ∃ v, rdV xs 8 8 = v := ⟨_, rfl⟩
    rw [hvb, hve] at hbe
    rw [hve] at hmx
    have HVB := hide hvb
    have HVE := hide hve
    clear h hbd0 hbd8 hx hvb hve
    go_enter Tryd.func30, Tryd.ntmps30
    go_wp2_with (refine step_alloc zSp rfl ?_)
    intro w1 g1 hg1 hle1 hb1
    have G1 := hide hg1
    clear hg1
    go_wp2_with fail
    refine (uint64_any a len cap xs 0 _ (HS.out.below hb1)).mono ?_
    rintro r w' ⟨rfl, rfl⟩
    rw [E0, N0, HVB.out]
    go_wp2_with fail
    refine (uint64_any a len cap xs 8 _ (HS.out.below hb1)).mono ?_
    rintro r w' ⟨rfl, rfl⟩
    rw [E8, HVE.out]
    go_wp2_with (refine step_storeA wSpn rfl rfl rfl G1.out rfl (One.two 0 0) rfl ?_; intro w2 hg2 hbut)
    refine bodyPost_ret (results_wide3 rfl wSpn _ _ rfl hg2 rfl) rfl ⟨rfl, hb1.trans (hbut.below hle1)⟩
set_option maxHeartbeats 1000000 in
theorem rs_ok (a : Option Addr) (len cap : Nat) (xs : List Int) (w : World) (hs : Sl w a len cap xs) (h : rsOK xs) :
    Calls Tryd.prog 30 #[.slice a len cap] w fun r w' => r = .returned (.tuple #[.agg #[.int .i64 (rdV xs 0 8), .int .i64 (rdV xs 8 8)], .int .i64 16, .bool true]) ∧ Below w.heap.size w w' := by
  have HS := hide hs
  have hx := hs.hlen
  have hl := hs.hreach
  obtain ⟨h16, hbe, hmx⟩ := h
  have hbd0 := (rdV_bd xs hs.hbyte 0 8).1
  have E0 : rdE len 0 8 = 0 := by simp [rdE]; omega
  have N0 : rdN len 0 8 = 8 := by simp [rdN]; omega
  have E8 : rdE len 8 8 = 0 := by simp [rdE]; omega
  have N8 : rdN len 8 8 = 16 := by simp [rdN]; omega
  obtain ⟨vb, hvb⟩ : ∃ v, rdV xs 0 8 = v := ⟨_, rfl⟩
  obtain ⟨ve, hve⟩ : ∃ v, rdV xs 8 8 = v := ⟨_, rfl⟩
  rw [hvb, hve] at hbe ⊢
  rw [hve] at hmx
  rw [hvb] at hbd0
  have HVB := hide hvb
  have HVE := hide hve
  have hbe' : ¬ ve < vb := by omega
  have hmx' : ¬ 281474976710656 < ve := by omega
  have w1' : wrap64 vb = vb := by unfold wrap64; omega
  have w2' : wrap64 ve = ve := by unfold wrap64; omega
  clear hs hx hvb hve h16
  go_enter Tryd.func30, Tryd.ntmps30
  go_wp2_with (refine step_alloc zSp rfl ?_)
  intro w1 g1 hg1 hle1 hb1
  have G1 := hide hg1
  clear hg1
  go_wp2_with fail
  refine (uint64_any a len cap xs 0 _ (HS.out.below hb1)).mono ?_
  rintro r w' ⟨rfl, rfl⟩
  rw [E0, N0, HVB.out]
  go_wp2_with fail
  refine (uint64_any a len cap xs 8 _ (HS.out.below hb1)).mono ?_
  rintro r w' ⟨rfl, rfl⟩
  rw [E8, N8, HVE.out]
  go_wp2_with (refine step_storeA wSpn rfl rfl rfl G1.out rfl (One.two vb ve) rfl ?_; intro w2 hg2 hbut)
  refine bodyPost_ret (results_wide3 rfl wSpn _ _ rfl hg2 rfl) rfl ⟨rfl, hb1.trans (hbut.below hle1)⟩

end Go.Proofs.YtnjkjickclkmhaaDoor

/-
  nodesOf: the iterator of a span's parts.
-/
namespace Go.Proofs.YtnjkjickclkmhaaDoor
open Go.RowKit Go.Shelf
set_option linter.unusedVariables false

theorem nodes_any (b e : Int) (w : World) : Calls Tryd.prog 31 #[.agg #[.int .i64 b, .int .i64 e]] w fun r w' => ∃ gs, r = .returned (.func (.func 47) #[] #[.pointer (some ⟨gs, 0, none⟩)]) ∧ Blk w' gs 51 [.int .i64 b, .int .i64 e] ∧ w.heap.size ≤ gs ∧ Below w.heap.size w w' := by
  go_enter Tryd.func31, Tryd.ntmps31
  go_wp2_with (refine step_box (cs := [.int .i64 b, .int .i64 e]) rfl rfl ?_)
  intro w1 g1 hg1 hle1 hb1
  go_wp2
  go_ret
  exact ⟨g1, rfl, hg1, hle1, hb1⟩

/-- The i-th node. -/
def nG (b e i : Nat) : Nat × Nat := (parts b e).getD i (0, 0)
/-- What the iterator reads. -/
def NK (M : World → Nat → Prop) (gs b e : Nat) (W : World) : Prop := Blk W gs 51 [.int .i64 (b : Int), .int .i64 (e : Int)] ∧ TT W ∧ ¬ M W gs ∧ ¬ M W 1 ∧ ∃ o : Obj, W.heap[1]? = some o ∧ o.isCells = true
theorem NK.km {M : World → Nat → Prop} {gs b e : Nat} {A B : World} (x : NK M gs b e A) (k : KM M A B) : NK M gs b e B := by
  obtain ⟨x1, x2, x3, x4, o, x5, x6⟩ := x
  have hk := k.keep _ o x5 x6 x4
  exact ⟨k.keep gs _ x1 rfl x3, x2.block (hk.trans x5.symm), fun hm => x3 (k.mine gs x1.lt hm), fun hm => x4 (k.mine _ x2.lt hm), o, hk, x6⟩
theorem NK.below {n₀ : Nat} {M : World → Nat → Prop} (hM : Mine n₀ M) {gs b e : Nat} {A B : World} (x : NK M gs b e A) (hn : n₀ ≤ A.heap.size) (hb : Below A.heap.size A B) : NK M gs b e B := by
  obtain ⟨x1, x2, x3, x4, o, x5, x6⟩ := x
  exact ⟨x1.below hb x1.lt, x2.below hb x2.lt, fun hm => x3 (hM.below A B hn hb gs x1.lt hm), fun hm => x4 (hM.below A B hn hb _ x2.lt hm), o, (hb.block _ x2.lt).trans x5, x6⟩
theorem nz_lt {s u e : Nat} (h : s < u) (h2 : s < e) : e - (intOf (.int .i64 (u : Int))).toNat < e - (intOf (.int .i64 (s : Int))).toNat := by
  simp only [intOf]
  omega
/-- The numbers of a round. -/
theorem nz_facts {b e k at' : Nat} (hbe : b ≤ e) (he : e ≤ 281474976710656) (hk : k < (parts b e).length) (hat : at' = pbeg b e k) :
    ∃ c l L P : Nat, Hid (Lib.ctz 64 at' = c) ∧ Hid (Lib.bitLen (e - at') = l) ∧ min (c : Int) ((l : Int) - 1) = (L : Int) ∧ Hid (2 ^ L = P) ∧ Hid (nG b e k = (L, at' / P)) ∧ at' + P = pbeg b e (k + 1) ∧ at' + P ≤ e ∧ at' < e ∧ (c ≤ 64 ∧ l ≤ 64 ∧ L ≤ 48) ∧ P ≤ 281474976710656 := by
  obtain ⟨q, hq⟩ : ∃ q, (parts b e)[k]? = some q := ⟨_, List.getElem?_eq_getElem hk⟩
  obtain ⟨h1, h2, h3⟩ := pbeg_at hbe he hq
  have hlt : at' < e := by rw [hat]; rw [h2] at h3; have := Nat.two_pow_pos q.1; omega
  have h64 : at' < 2 ^ 64 := Nat.lt_of_lt_of_le hlt (Nat.le_trans he (by decide))
  have hlv := lev_min at' (e - at') h64 (by omega) (Nat.le_trans (Nat.sub_le _ _) he)
  -- the part at k is the first part of what is left
  have hfirst : (parts at' e)[0]? = some q := by
    have := parts_drop b e k he
    rw [← hat] at this
    rw [← this, List.getElem?_drop]
    exact hq
  rw [parts_step hlv he] at hfirst
  simp only [List.getElem?_cons_zero, Option.some.injEq] at hfirst
  refine ⟨_, _, min (Lib.ctz 64 at') (Lib.bitLen (e - at') - 1), _, hide rfl, hide rfl, ?_, hide rfl, hide ?_, ?_, ?_, hlt, ⟨?_, ?_, ?_⟩, ?_⟩
  · have hl0 := (bitLen_pow (e - at') (e - at') (Nat.le_refl _) (by omega) (Nat.lt_of_le_of_lt (Nat.le_trans (Nat.sub_le _ _) he) (by decide))).1
    generalize Lib.ctz 64 at' = c at *
    generalize Lib.bitLen (e - at') = l at *
    omega
  · unfold nG
    rw [List.getD, hq, ← hfirst]
    rfl
  · rw [h2, ← hfirst, hat]
  · rw [h2, ← hfirst, ← hat] at h3
    exact h3
  · by_cases h0 : at' = 0
    · rw [h0]; decide
    · exact Nat.le_of_lt (Lib.lowest_bit 64 at' h0 h64).2
  · exact Lib.bitLen_le _ 64 (Nat.le_refl _) (Nat.lt_of_le_of_lt (Nat.le_trans (Nat.sub_le _ _) he) (by decide))
  · exact lev_le hlv (Nat.le_trans (Nat.sub_le _ _) he)
  · exact Nat.le_trans (Nat.pow_le_pow_right (by decide) (lev_le hlv (Nat.le_trans (Nat.sub_le _ _) he))) (by decide)

theorem aux_addW (s P u : Nat) (h : s + P = u) (hu : u ≤ 281474976710656) : wrap64 ((s : Int) + (P : Int)) = (u : Int) := by
  unfold wrap64
  omega
theorem aux_shr (a L P : Nat) (HP : Hid (2 ^ L = P)) : ((a : Int)) / (2 ^ L) = (a : Int) / (P : Int) := by
  rw [← HP.out, Int.natCast_pow]
  rfl

set_option maxRecDepth 100000 in
set_option maxHeartbeats 1000000 in
theorem nodes_stops (gs n₀ b e : Nat) (w : World) (hn0 : n₀ ≤ w.heap.size) (hbe : b ≤ e) (he : e ≤ 281474976710656) (M : World → Nat → Prop) (hM : Mine n₀ M) (hnk : NK M gs b e w) :
    SeqStopsK Fence.wide 2 Tryd.prog 47 #[.pointer (some ⟨gs, 0, none⟩)] (fun i : Nat => #[Value.agg (nC (nG b e i)).toArray]) (KM M) (fun xs => xs = List.range (parts b e).length) (fun pre => pre <+: List.range (parts b e).length) (parts b e).length w := by
  intro l J Jx W hW hJ hJx hY h0
  have HNK := hide (hnk.below hM hn0 hW)
  have hnW : n₀ ≤ W.heap.size := Nat.le_trans hn0 hW.size
  have c0 : W.cell? ⟨gs, 0, none⟩ = some (.int .i64 (b : Int)) := by rw [HNK.out.1.cell]; rfl
  have HJ0 := hide h0
  clear hnk hW h0
  refine callsIn_of_wp Tryd.func47 rfl trivial ?_ rfl
  simp only [Tryd.ntmps47, List.size_toArray, List.length_cons, List.length_nil, Nat.reduceAdd, Nat.reduceSub, Array.replicate_succ, Array.replicate_zero, List.push_toArray, List.append_toArray, List.nil_append, List.cons_append]
  gi_wp2_with fail
  gi_loopw [3] (fun i wr => ∃ k : Nat, k ≤ (parts b e).length ∧ i = .int .i64 (pbeg b e k : Int) ∧ Hid (J (List.range k) wr) ∧ Hid (NK M gs b e wr) ∧ n₀ ≤ wr.heap.size) (fun i _ => e - (intOf i).toNat)
  case atStart => exact ⟨0, Nat.zero_le _, by rw [pbeg_zero], HJ0, HNK, hnW⟩
  case round =>
    obtain ⟨k, hk, rfl, HJ, HN, hnr⟩ := hrel
    clear HJ0 HNK hnW c0
    have c1 : wr.cell? ⟨gs, 1, none⟩ = some (.int .i64 (e : Int)) := by rw [HN.out.1.cell]; rfl
    obtain ⟨s, HSx⟩ : ∃ s, Hid (pbeg b e k = s) := ⟨_, hide rfl⟩
    rw [HSx.out]
    by_cases hlt : k < (parts b e).length
    · obtain ⟨c, l', L, P, HC, HL, hmin, HP, HG, hu, hue, hse, hcl, hPm⟩ := nz_facts hbe he hlt HSx.out.symm
      have hlt' : (s : Int) < (e : Int) := by omega
      obtain ⟨m, hm⟩ : ∃ m, e - s = m := ⟨_, rfl⟩
      rw [hm] at HL
      have hsub : wrap64 ((e : Int) - (s : Int)) = (m : Int) := by unfold wrap64; omega
      have hwm : IntKind.u64.wrap (m : Int) = (m : Int) := by rw [IntKind.wrap_u64]; omega
      have hws : IntKind.u64.wrap (s : Int) = (s : Int) := by rw [IntKind.wrap_u64]; omega
      have hl1 : wrap64 ((l' : Int) - 1) = (l' : Int) - 1 := by unfold wrap64; omega
      have hsub2 : IntKind.i64.wrap ((e : Int) - (s : Int)) = (m : Int) := by rw [IntKind.wrap_i64]; omega
      have hl2 : IntKind.i64.wrap ((l' : Int) - 1) = (l' : Int) - 1 := by rw [IntKind.wrap_i64]; omega
      have HTZ : Hid (∀ q, Calls Tryd.prog 48 #[.int .u64 (s : Int)] (wr.drewN q) fun e w' => e = .returned (.int .i64 (c : Int)) ∧ wr.drewN q = w') := hide (fun q => by
        have := tz_any s (wr.drewN q) (by omega) (fun i hi => HN.out.2.1 i hi)
        rw [HC.out] at this
        exact this.mono fun e w' h => ⟨h.1, h.2.symm⟩)
      have HLN : Hid (∀ q, Calls Tryd.prog 49 #[.int .u64 (m : Int)] (wr.drewN q) fun e w' => e = .returned (.int .i64 (l' : Int)) ∧ wr.drewN q = w') := hide (fun q => by
        have := len_any (m : Int) (wr.drewN q) (by omega) (by omega)
        rw [Int.toNat_natCast, HL.out] at this
        exact this.mono fun e w' h => ⟨h.1, h.2.symm⟩)
      obtain ⟨u, hu2⟩ : ∃ u, s + P = u := ⟨_, rfl⟩
      rw [hu2] at hu hue
      have hm64 : min L 64 = L := by omega
      have hL0 : ¬ (L : Int) < 0 := by omega
      have hsu : s < u := by rw [← hu2, ← HP.out]; exact Nat.lt_add_of_pos_right (Nat.two_pow_pos L)
      have had := aux_addW s P u hu2 (Nat.le_trans hue he)
      have HU := hide hu
      have hshr := aux_shr s L P HP
      have hpw : wrap64 (2 ^ L) = (P : Int) := aux_pow P L HP hPm
      clear hm hu hcl hu2
      gi_wp2_with fail
      refine wpIn_wide.2 ?_
      go_quiet (first | (go_at_call 48; refine quiet_eq (HTZ.out _)) | (go_at_call 49; refine quiet_eq (HLN.out _)))
      have hbd : Below wr.heap.size wr (wr.drewN nq) := below_drewN (Below.refl _ _) nq
      have HJ2 := hide (hJ _ wr (wr.drewN nq) none HJ.out (grown_none hbd) (fun r e => by cases e))
      have HN2 := hide (HN.out.below hM hnr hbd)
      have hn2 : n₀ ≤ (wr.drewN nq).heap.size := hnr
      clear hbd HJ HN hnr c1 HTZ HLN
      revert HJ2 HN2 hn2
      generalize wr.drewN nq = W2
      intro HJ2 HN2 hn2
      obtain ⟨fn, tmps, assign, body, hy, hR⟩ := hY (List.range k) k W2 HJ2.out (by rw [List.length_range]; exact hlt)
      simp only [HG.out, nC, Int.natCast_ediv] at hy
      gi_wp2_with fail
      refine hR.mono ?_
      rintro r W4 (⟨rfl, hJ4, hk4⟩ | ⟨rfl, hJx4⟩)
      · have HJ4 := hide (show J (List.range (k + 1)) W4 by rw [List.range_succ]; exact hJ4)
        have HN4 := hide (HN2.out.km hk4)
        have hn4 : n₀ ≤ W4.heap.size := Nat.le_trans hn2 hk4.size
        clear hJ4 hk4 hy hsub hsub2 hl1 hl2 hmin hwm hws hshr HC HL HG hlt' hPm HJ2 HN2
        gi_wp2
        go_roundw
        case rel => exact ⟨k + 1, hlt, by rw [had, ← HU.out], HJ4, HN4, hn4⟩
        case measure => rw [had]; exact nz_lt hsu hse
      · have HJx4 := hide hJx4
        clear hJx4 hy hsub hsub2 hl1 hl2 hmin hwm hws hshr hm64 HC HL HG hlt' hPm hL0 HJ2 HN2 hpw had
        gi_wp2
        refine bodyPost_ret (results_none rfl _ _ _) rfl ?_
        exact ⟨⟨_, rfl⟩, .inr ⟨_, by rw [← List.range_succ]; exact range_pre hlt, HJx4.out⟩⟩
    · obtain rfl : k = (parts b e).length := by omega
      have hse : s = e := by rw [← HSx.out]; exact pbeg_end hbe he
      have hlt' : ¬ ((s : Int) < (e : Int)) := by omega
      gi_wp2
      go_end0
      exact ⟨⟨_, rfl⟩, .inl HJ.out⟩

end Go.Proofs.YtnjkjickclkmhaaDoor

/-
  compact.Load.
-/
namespace Go.Proofs.YtnjkjickclkmhaaDoor
open Go.RowKit Go.Shelf
set_option linter.unusedVariables false

/-- The i-th digest of bytes. -/
def dAt (xs : List Int) (i : Nat) : List Int := (xs.drop (16 + 32 * i)).take 32
/-- The parts that are read. -/
def ldP (b e : Nat) (xs : List Int) (pre : List Nat) : List Pt := (List.range pre.length).map fun i => (nG b e (pre.getD i 0), dAt xs i)
theorem ldP_snoc (b e : Nat) (xs : List Int) (pre : List Nat) (x : Nat) : ldP b e xs (pre ++ [x]) = ldP b e xs pre ++ [(nG b e x, dAt xs pre.length)] := by
  unfold ldP
  rw [List.length_append, List.length_singleton, List.range_succ, List.map_append]
  congr 1
  · apply List.map_congr_left
    intro i hi
    have : i < pre.length := List.mem_range.1 hi
    simp [List.getD, List.getElem?_append_left this]
  · simp [List.getD]
theorem ldP_length (b e : Nat) (xs : List Int) (pre : List Nat) : (ldP b e xs pre).length = pre.length := by simp [ldP]
theorem nG_good {b e : Nat} (hbe : b ≤ e) (he : e ≤ 281474976710656) (i : Nat) : (nG b e i).1 ≤ 49 ∧ (nG b e i).2 ≤ 281474976710656 := by
  unfold nG
  cases hq : (parts b e)[i]? with
  | none => simp [List.getD, hq]
  | some q =>
    obtain ⟨h1, h2, h3⟩ := pbeg_at hbe he hq
    have e1 : (parts b e).getD i (0, 0) = q := by simp [List.getD, hq]
    rw [e1]
    rw [h2] at h3
    have hp := Nat.two_pow_pos q.1
    refine ⟨?_, ?_⟩
    · apply Nat.le_of_not_lt
      intro hl
      have h4 : 2 ^ 50 ≤ 2 ^ q.1 := Nat.pow_le_pow_right (by decide) hl
      have h5 : (2 : Nat) ^ 50 = 1125899906842624 := by decide
      revert h3 h4
      generalize 2 ^ q.1 = P
      generalize pbeg b e i = s
      intro h3 h4
      omega
    · have h4 : q.2 ≤ q.2 * 2 ^ q.1 := Nat.le_mul_of_pos_right _ hp
      rw [h1] at h4
      revert h3 h4
      generalize 2 ^ q.1 = P
      generalize pbeg b e i = s
      intro h3 h4
      omega
theorem ldP_good {b e : Nat} {xs : List Int} {pre : List Nat} (hbe : b ≤ e) (he : e ≤ 281474976710656) (hb : isB xs) (hl : 16 + 32 * pre.length ≤ xs.length) : GoodL (ldP b e xs pre) := by
  intro p hp
  simp only [ldP, List.mem_map, List.mem_range] at hp
  obtain ⟨i, hi, rfl⟩ := hp
  have hn := nG_good hbe he (pre.getD i 0)
  refine ⟨?_, (hb.drop _).take _, hn.1, hn.2⟩
  simp [dAt]
  omega
theorem nG_all (b e : Nat) : (List.range (parts b e).length).map (nG b e) = parts b e := by
  apply List.ext_getElem?
  intro i
  by_cases hi : i < (parts b e).length
  · simp [nG, hi, List.getD]
  · rw [List.getElem?_eq_none (by simp; omega), List.getElem?_eq_none (by omega)]
theorem ldP_nodes (b e : Nat) (xs : List Int) : (ldP b e xs (List.range (parts b e).length)).map Prod.fst = parts b e := by
  unfold ldP
  rw [List.map_map, List.length_range]
  conv => rhs; rw [← nG_all b e]
  apply List.map_congr_left
  intro i hi
  have : i < (parts b e).length := List.mem_range.1 hi
  simp [List.getD, this]

/-- Are these the bytes of a range? -/
def ldOK (xs : List Int) : Prop := rsOK xs ∧ xs.length = 16 + 32 * (parts (rdV xs 0 8).toNat (rdV xs 8 8).toNat).length

theorem zRg : Zeroed 54 [.bool false, .int .i64 0, .int .i64 0, .slice none 0 0] := fun _ _ _ _ _ _ _ => by kernel_rfl
theorem zInt : Zeroed 3 [.int .i64 0] := fun _ _ _ _ _ _ _ => by kernel_rfl
theorem ne_castN {a b : Nat} (h : a ≠ b) : ¬ ((a : Int) = (b : Int)) := fun e => h (by omega)
section
variable {F : Fence} {n : Nat} {dst : Option Tmp} {ty : TypeId} {pos : String} {aft : Array Edge} {gd : Option (Nat × Bool)} {ops : Array Oper} {rest : List Oper} {a : Act} {w : World} {Q : Exit → Act → World → Prop}
set_option maxRecDepth 100000 in
theorem istep_oneP (hF : WideF F) {x : Operand} {p : Pt} (hw : Region.wanted ⟨dst, .buildSlice 52 1 #[(0, x)], ty, pos, aft, gd⟩ (yielded ops a.tmps) = true) (hx : a.eval x = .agg (pc p).toArray) (hp : Good p)
    (h : ∀ w1 g, Blk w1 g 59 (pc p) → w.heap.size ≤ g → Below w.heap.size w w1 → wpListIn F n Tryd.prog ops Q rest (a.put dst (.slice (some ⟨g, 0, none⟩) 1 1)) w1) :
    wpListIn F n Tryd.prog ops Q (⟨dst, .buildSlice 52 1 #[(0, x)], ty, pos, aft, gd⟩ :: rest) a w :=
  istep hF (fun c => by simp) hw fun K hK => wp_oneP hx hp fun w1 g h1 h2 h3 => hK _ _ (h w1 g h1 h2 h3)
set_option maxRecDepth 100000 in
theorem istep_appendP (hF : WideF F) {s x : Operand} {B : Nat} {v : Value} {ps : List Pt} {p : Pt} {g c : Nat} (hw : Region.wanted ⟨dst, .call { callee := .builtin .append, args := #[s, x], argTypes := #[52, 52] }, ty, pos, aft, gd⟩ (yielded ops a.tmps) = true)
    (hs : a.eval s = v) (hx : a.eval x = .slice (some ⟨g, 0, none⟩) 1 c) (hown : POwn w B v ps) (hy : Blk w g 59 (pc p)) (hp : Good p) (hlen : ps.length ≤ 1048576) (hB : B ≤ w.heap.size)
    (h : ∀ v' w', POwn w' B v' (ps ++ [p]) → w.grownBy w' v.ownBlock → (∀ k, v'.ownBlock = some k → v.ownBlock = some k ∨ w.heap.size ≤ k) → wpListIn F n Tryd.prog ops Q rest (a.put dst v') w') :
    wpListIn F n Tryd.prog ops Q (⟨dst, .call { callee := .builtin .append, args := #[s, x], argTypes := #[52, 52] }, ty, pos, aft, gd⟩ :: rest) a w :=
  istep hF (fun c => by simp) hw fun K hK => wp_appendP hs hx hown hy hp hlen hB fun v' w' h1 h2 h3 => hK _ _ (h v' w' h1 h2 h3)
end
/-- The blocks that Load's loop may turn. -/
def ML (ga gr : Nat) (A : World) (k : Nat) : Prop := k = ga ∨ MR gr A k
theorem Mine.load {n₀ ga gr : Nat} (h : gr < n₀) : Mine n₀ (ML ga gr) :=
  ⟨fun A B hn hb k hk hm => hm.imp id ((Mine.range h).below A B hn hb k hk), fun A l o hl hlt k hk hm => hm.imp id ((Mine.range h).put A l o hl hlt k hk)⟩
theorem tt_obj {w : World} (h : TT w) : ∃ o : Obj, w.heap[1]? = some o ∧ o.isCells = true := by
  have h0 := h 0 (by decide)
  have hl := h.lt
  refine ⟨w.heap[1], by simp, ?_⟩
  cases ho : w.heap[1] with
  | cells cs t f => rfl
  | _ =>
    exfalso
    have e1 : w.heap[1]? = some _ := (Array.getElem?_eq_some_iff.2 ⟨hl, ho⟩)
    simp [World.cell?, e1] at h0
/-- What stands through Load. -/
structure LS (w W : World) (a : Option Addr) (len cap ga gr b e at' : Nat) (v : Value) (ps : List Pt) : Prop where
  cb : Blk W w.heap.size 45 [.slice a len cap]
  c1 : Blk W (w.heap.size + 1) 23 [.pointer none]
  c2 : Blk W (w.heap.size + 1 + 1) 24 [.int .i64 0]
  ca : Blk W ga 3 [.int .i64 (at' : Int)]
  cr : Blk W gr 54 (rgC b e v)
  own : POwn W w.heap.size v ps
  bel : Below w.heap.size w W
section
variable {w W W' : World} {a : Option Addr} {len cap ga gr b e at' : Nat} {v : Value} {ps : List Pt}
theorem LS.below (h : LS w W a len cap ga gr b e at' v ps) (hb : Below W.heap.size W W') : LS w W' a len cap ga gr b e at' v ps :=
  ⟨h.cb.below hb h.cb.lt, h.c1.below hb h.c1.lt, h.c2.below hb h.c2.lt, h.ca.below hb h.ca.lt, h.cr.below hb h.cr.lt, h.own.below hb, h.bel.trans (hb.mono h.bel.size)⟩
theorem LS.kept {row : Option Nat} (h : LS w W a len cap ga gr b e at' v ps) (hg : W.grownBy W' row) (hr : ∀ r, row = some r → w.heap.size ≤ r ∧ ∃ o : Obj, W.heap[r]? = some o ∧ o.isCells = false) : LS w W' a len cap ga gr b e at' v ps :=
  have hr2 : ∀ r, row = some r → ∃ o : Obj, W.heap[r]? = some o ∧ o.isCells = false := fun r e => (hr r e).2
  ⟨h.cb.kept hg hr2, h.c1.kept hg hr2, h.c2.kept hg hr2, h.ca.kept hg hr2, h.cr.kept hg hr2, h.own.kept hg hr2, h.bel.grown hg h.bel.size (fun r e => (hr r e).1)⟩
theorem LS.setAt (h : LS w W a len cap ga gr b e at' v ps) (t : Nat) (hga : w.heap.size ≤ ga) : LS w (W.setCell ⟨ga, 0, none⟩ (.int .i64 (t : Int))) a len cap ga gr b e t v ps := by
  have hb := But.setCell W ga 0 (.int .i64 (t : Int))
  exact ⟨h.cb.but hb (h.cb.apart h.ca (by decide)), h.c1.but hb (h.c1.apart h.ca (by decide)), h.c2.but hb (h.c2.apart h.ca (by decide)), h.ca.set 0 _, h.cr.but hb (h.cr.apart h.ca (by decide)), h.own.but hb (h.own.apart h.ca (by decide)), h.bel.trans (hb.below hga)⟩
/-- The parts have grown, and the range's cell holds them. -/
theorem LS.grow {v' : Value} {p : Pt} {W2 : World} (h : LS w W a len cap ga gr b e at' v ps) (ho : POwn W2 w.heap.size v' (ps ++ [p])) (hg : W.grownBy W2 v.ownBlock) (hgr : w.heap.size ≤ gr) : LS w (W2.setCell ⟨gr, 3, none⟩ v') a len cap ga gr b e at' v' (ps ++ [p]) := by
  have hne : ∀ {k : Nat} {t : TypeId} {cs : List Value}, Blk W k t cs → t ≠ 59 → Blk W2 k t cs := fun hk ht => by
    unfold Blk
    rw [hg.block _ hk.lt (fun e1 => (h.own.apart hk ht) e1.symm)]
    exact hk
  have cr2 := hne h.cr (by decide)
  have hb := But.setCell W2 gr 3 v'
  refine ⟨(hne h.cb (by decide)).but hb ((h.cb.apart h.cr (by decide))), (hne h.c1 (by decide)).but hb (h.c1.apart h.cr (by decide)), (hne h.c2 (by decide)).but hb (h.c2.apart h.cr (by decide)), (hne h.ca (by decide)).but hb (h.ca.apart h.cr (by decide)), cr2.set 3 _, ho.but hb (ho.apart cr2 (by decide)), ?_⟩
  exact (h.bel.trans (Below.of_grown hg h.bel.size (fun k hk => (h.own.lt k hk).1))).trans (hb.below hgr)
theorem LS.km (h : LS w W a len cap ga gr b e at' v ps) {at2 : Nat} {v' : Value} {ps' : List Pt} (h' : LS w W' a len cap ga gr b e at2 v' ps') (hc : Chs (fun k => k = ga ∨ Foot gr v k) W W') (hm : Moved W v v') : KM (ML ga gr) W W' := by
  have e3 : W.cell? ⟨gr, 3, none⟩ = some v := by rw [h.cr.cell]; rfl
  have e3' : W'.cell? ⟨gr, 3, none⟩ = some v' := by rw [h'.cr.cell]; rfl
  have hv : ∀ k, v.ownBlock = some k → MR gr W k := fun k hk => by
    rcases h.own.lies with ⟨rfl, _⟩ | ⟨g', c, cs, rfl, _⟩
    · cases hk
    · injection hk with hk
      subst hk
      exact .inr ⟨_, _, e3⟩
  refine ⟨hc.size, fun k o hk _ hn => (hc.block k (Array.getElem?_eq_some_iff.1 hk).1 (fun hf => hn ?_)).trans hk, fun k hk hmr => ?_⟩
  · rcases hf with rfl | rfl | e1
    · exact .inl rfl
    · exact .inr (.inl rfl)
    · exact .inr (hv k e1)
  · rcases hmr with rfl | rfl | ⟨n, c, e1⟩
    · exact .inl rfl
    · exact .inr (.inl rfl)
    · rw [e3'] at e1
      injection e1 with e1
      subst e1
      rcases hm k rfl with h1 | h1
      · exact .inr (hv k h1)
      · omega
theorem LS.keepsO (h : LS w W a len cap ga gr b e at' v ps) (hc : Chs (fun k => k = ga ∨ Foot gr v k) W W') : KeepsOthers W W' := ⟨hc.size, fun k o hk ho => (hc.block k (Array.getElem?_eq_some_iff.1 hk).1 (fun hf => by
  have key : ∀ {t : TypeId} {cs : List Value}, Blk W k t cs → False := fun hb => by
    rw [hb] at hk
    injection hk with hk
    subst hk
    cases ho
  rcases hf with rfl | rfl | e1
  · exact key h.ca
  · exact key h.cr
  · rcases h.own.lies with ⟨rfl, _⟩ | ⟨g', c, cs, rfl, _, hb, _⟩
    · cases e1
    · injection e1 with e1
      subst e1
      exact key hb)).trans hk⟩
/-- Load has answered that these are none. -/
structure LX (w W : World) : Prop where
  c1 : Blk W (w.heap.size + 1) 23 [.pointer none]
  c2 : Blk W (w.heap.size + 1 + 1) 24 [.int .i64 51]
  bel : Below w.heap.size w W
theorem LX.kept {row : Option Nat} (h : LX w W) (hg : W.grownBy W' row) (hr : ∀ r, row = some r → w.heap.size ≤ r ∧ ∃ o : Obj, W.heap[r]? = some o ∧ o.isCells = false) : LX w W' :=
  have hr2 : ∀ r, row = some r → ∃ o : Obj, W.heap[r]? = some o ∧ o.isCells = false := fun r e => (hr r e).2
  ⟨h.c1.kept hg hr2, h.c2.kept hg hr2, h.bel.grown hg h.bel.size (fun r e => (hr r e).1)⟩
/-- The two answers are laid. -/
theorem set2 (q : Option Addr) (E : Int) (h1 : Blk W (w.heap.size + 1) 23 [.pointer none]) (h2 : Blk W (w.heap.size + 1 + 1) 24 [.int .i64 0]) (hb : Below w.heap.size w W) :
    Blk ((W.setCell ⟨w.heap.size + 1, 0, none⟩ (.pointer q)).setCell ⟨w.heap.size + 1 + 1, 0, none⟩ (.int .i64 E)) (w.heap.size + 1) 23 [.pointer q] ∧
    Blk ((W.setCell ⟨w.heap.size + 1, 0, none⟩ (.pointer q)).setCell ⟨w.heap.size + 1 + 1, 0, none⟩ (.int .i64 E)) (w.heap.size + 1 + 1) 24 [.int .i64 E] ∧
    Below w.heap.size w ((W.setCell ⟨w.heap.size + 1, 0, none⟩ (.pointer q)).setCell ⟨w.heap.size + 1 + 1, 0, none⟩ (.int .i64 E)) ∧
    (W.setCell ⟨w.heap.size + 1, 0, none⟩ (.pointer q)).cell? ⟨w.heap.size + 1 + 1, 0, none⟩ = some (.int .i64 0) ∧ (W.setCell ⟨w.heap.size + 1, 0, none⟩ (.pointer q)).frozen? ⟨w.heap.size + 1 + 1, 0, none⟩ = false := by
  have b1 := But.setCell W (w.heap.size + 1) 0 (.pointer q)
  have b2 := But.setCell (W.setCell ⟨w.heap.size + 1, 0, none⟩ (.pointer q)) (w.heap.size + 1 + 1) 0 (.int .i64 E)
  have k2 := h2.but b1 (h2.apart h1 (by decide))
  refine ⟨(h1.set 0 _).but b2 (h1.apart h2 (by decide)), k2.set 0 _, (hb.trans (b1.below (by omega))).trans (b2.below (by omega)), by rw [k2.cell]; rfl, k2.free 0⟩
end

set_option maxRecDepth 100000 in
set_option maxHeartbeats 1000000 in
theorem load_any (a : Option Addr) (len cap : Nat) (xs : List Int) (w : World) (hs : Sl w a len cap xs) (ht : TT w) (b e : Nat) (hb : b = (rdV xs 0 8).toNat) (he : e = (rdV xs 8 8).toNat) :
    Calls Tryd.prog 15 #[.slice a len cap] w fun r w' => Below w.heap.size w w' ∧
      ((ldOK xs ∧ ∃ g v, r = .returned (.tuple #[.pointer (some ⟨g, 0, none⟩), .int .i64 0]) ∧ Rg w' w.heap.size g b e v (ldP b e xs (List.range (parts b e).length)) ∧ w.heap.size ≤ g) ∨ (¬ ldOK xs ∧ r = .returned (.tuple #[.pointer none, .int .i64 51]))) := by
  have HS := hide hs
  have HT := hide ht
  clear hs ht
  refine (callsIn_wide (n := 3)).1 ?_
  refine callsIn_of_wp_marks Tryd.func15 rfl trivial ?_ rfl
  refine wpIn_wide.2 ?_
  simp only [Tryd.ntmps15, List.size_toArray, List.length_cons, List.length_nil, Nat.reduceAdd, Nat.reduceSub, Array.replicate_succ, Array.replicate_zero, List.push_toArray, List.append_toArray, List.nil_append, List.cons_append]
  go_wp2_with fail
  have k0 := (Blk.made w 45 [.slice a len cap])
  have k1 := (Blk.made (w.alloc (.cells #[.slice a len cap] 45)) 23 [.pointer none])
  have k2 := (Blk.made ((w.alloc (.cells #[.slice a len cap] 45)).alloc (.cells #[.pointer none] 23)) 24 [.int .i64 0])
  have q1 : Below (w.alloc (.cells #[.slice a len cap] 45)).heap.size (w.alloc (.cells #[.slice a len cap] 45)) (((w.alloc (.cells #[.slice a len cap] 45)).alloc (.cells #[.pointer none] 23)).alloc (.cells #[.int .i64 0] 24)) := ((Below.refl _ _).alloc (Nat.le_refl _) _).alloc (by simp) _
  have q2 : Below ((w.alloc (.cells #[.slice a len cap] 45)).alloc (.cells #[.pointer none] 23)).heap.size ((w.alloc (.cells #[.slice a len cap] 45)).alloc (.cells #[.pointer none] 23)) (((w.alloc (.cells #[.slice a len cap] 45)).alloc (.cells #[.pointer none] 23)).alloc (.cells #[.int .i64 0] 24)) := (Below.refl _ _).alloc (Nat.le_refl _) _
  have B0 : Below w.heap.size w (((w.alloc (.cells #[.slice a len cap] 45)).alloc (.cells #[.pointer none] 23)).alloc (.cells #[.int .i64 0] 24)) := (((Below.refl _ w).alloc (Nat.le_refl _) _).alloc (by simp) _).alloc (by simp; omega) _
  have j0 := k0.below q1 k0.lt
  have j1 := k1.below q2 k1.lt
  have j2 := k2
  rw [World.size_alloc] at j1
  rw [World.size_alloc, World.size_alloc] at j2
  clear k0 k1 k2 q1 q2
  revert j0 j1 j2 B0
  generalize ((w.alloc (.cells #[.slice a len cap] 45)).alloc (.cells #[.pointer none] 23)).alloc (.cells #[.int .i64 0] 24) = W0
  intro B0 j0 j1 j2
  by_cases hrs : rsOK xs
  · refine (rs_ok a len cap xs _ (HS.out.below B0) hrs).mono ?_
    rintro r W1 ⟨rfl, hb1⟩
    have J0 := hide (j0.below hb1 j0.lt)
    have J1 := hide (j1.below hb1 j1.lt)
    have J2 := hide (j2.below hb1 j2.lt)
    have BB := hide (B0.trans (hb1.mono B0.size))
    have HRS := hide hrs
    have hbd0 := (rdV_bd xs HS.out.hbyte 0 8).1
    have hbb : rdV xs 0 8 = (b : Int) := by omega
    have hee : rdV xs 8 8 = (e : Int) := by have := hrs.2.1; omega
    have hbe : b ≤ e := by have := hrs.2.1; omega
    have hem : e ≤ 281474976710656 := by have := hrs.2.2; omega
    have h16 : 16 ≤ len := by have := hrs.1; have := HS.out.hlen; omega
    rw [hbb, hee]
    have HBE := hide hb
    have HEE := hide he
    clear j0 j1 j2 B0 hb1 hrs hbd0 hbb hee hb he
    go_wp2_with (refine step_alloc zSp rfl ?_)
    intro W2 gs hgs hles hb2
    go_wp2_with (refine step_alloc zInt rfl ?_)
    intro W3 ga hga hlea hb3
    have hgs3 := hgs.below hb3 hgs.lt
    go_wp2_with (refine step_storeA wSpn rfl rfl rfl hgs3 rfl (One.two _ _) rfl ?_)
    intro W4 hgs4 hbut4
    have hga4 := hga.but hbut4 (hga.apart hgs3 (by decide))
    have hb4 : Below W1.heap.size W1 W4 := (hb2.trans (hb3.mono hb2.size)).trans (hbut4.below hles)
    have hba := But.setCell W4 ga 0 (.int .i64 16)
    have hga1 : W1.heap.size ≤ ga := Nat.le_trans hb2.size hlea
    have hb5 : Below W1.heap.size W1 (W4.setCell ⟨ga, 0, none⟩ (.int .i64 16)) := hb4.trans (hba.below hga1)
    have J13 := hide (J1.out.below hb5 J1.out.lt)
    have J23 := hide (J2.out.below hb5 J2.out.lt)
    have BB3 := hide (BB.out.trans (hb5.mono BB.out.size))
    have HGS := hide (hgs4.but hba (hgs4.apart hga4 (by decide)))
    have HGA := hide (hga4.set 0 (.int .i64 16))
    have ca4 : W4.cell? ⟨ga, 0, none⟩ = some (.int .i64 0) := by rw [hga4.cell]; rfl
    have fa4 : W4.frozen? ⟨ga, 0, none⟩ = false := hga4.free 0
    have hsz4 : W1.heap.size ≤ gs := hles
    clear hgs hgs3 hgs4 hga hga4 hbut4 hb2 hb3 hb4 hba hlea hles
    have J03 := hide (J0.out.below hb5 J0.out.lt)
    have hw1 : w.heap.size ≤ W1.heap.size := BB.out.size
    clear hb5 J0 J1 J2 BB
    go_wp2_with (first | (refine step_loadA wSpn rfl rfl HGS.out rfl ?_) | (refine step_buildRg rfl rfl ?_) | (refine step_alloc zRg rfl ?_))
    intro W5 gr hgr hler hb6
    go_wp2_with (refine step_storeA wRg rfl rfl rfl hgr rfl (One.rgC _ _ _ _ _) rfl ?_)
    intro W6 hgr6 hbut6
    have hb56 := hb6.trans (hbut6.below hler)
    have HGS6 := hide (HGS.out.below hb56 HGS.out.lt)
    have hgaw : w.heap.size ≤ ga := Nat.le_trans hw1 hga1
    have hgrw : w.heap.size ≤ gr := Nat.le_trans BB3.out.size hler
    have L6 : Hid (LS w W6 a len cap ga gr b e 16 (.slice none 0 0) []) := hide ⟨J03.out.below hb56 J03.out.lt, J13.out.below hb56 J13.out.lt, J23.out.below hb56 J23.out.lt, HGA.out.below hb56 HGA.out.lt, hgr6, POwn.nil _ _, BB3.out.trans (hb56.mono BB3.out.size)⟩
    clear J03 J13 J23 HGA hgr hgr6 hbut6 hb6 hb56 BB3 HGS ca4 fa4
    go_wp2_with (refine step_loadA wSpn rfl rfl HGS6.out rfl ?_)
    refine (nodes_any (b : Int) (e : Int) _).mono ?_
    rintro r W7 ⟨gn, rfl, hgn, hlen, hb7⟩
    have L7 := hide (L6.out.below hb7)
    have HT7 := hide (HT.out.below L7.out.bel HT.out.lt)
    have htl := HT.out.lt
    have hws := L7.out.bel.size
    have hgr7 : gr < W7.heap.size := L7.out.cr.lt
    have c37 : W7.cell? ⟨gr, 3, none⟩ = some (.slice none 0 0) := by rw [L7.out.cr.cell]; rfl
    have hnm : ∀ k, k ≠ ga → k ≠ gr → ¬ ML ga gr W7 k := by
      rintro k h1 h2 (h3 | h3 | ⟨n, c, h3⟩)
      · exact h1 h3
      · exact h2 h3
      · rw [c37] at h3; cases h3
    have HNK : Hid (NK (ML ga gr) gn b e W7) := hide ⟨hgn, HT7.out, hnm gn (hgn.apart L7.out.ca (by decide)) (hgn.apart L7.out.cr (by decide)), hnm _ (by omega) (by omega), tt_obj HT7.out⟩
    clear L6 HGS6 hgn hlen hb7 hnm c37
    go_wp2_with fail
    refine (wpIn_wide (n := 3)).1 ?_
    refine range1 rfl (by decide) (gf := 47) (lb := #[.pointer (some ⟨gn, 0, none⟩)]) rfl trivial (enters_of Tryd.func47 (by kernel_rfl) rfl)
      (nodes_stops gn W7.heap.size b e W7 (Nat.le_refl _) hbe hem _ (Mine.load hgr7) HNK.out) KM.trans (KM.book (Mine.load hgr7) (Nat.le_refl _)) (fun A B h hb => km_below (Mine.load hgr7) h hb) (fun _ => rfl)
      (fun pre W => (16 + 32 * pre.length ≤ len ∧ ∃ v, LS w W a len cap ga gr b e (16 + 32 * pre.length) v (ldP b e xs pre)) ∧ W7.heap.size ≤ W.heap.size) (fun c pre W => c = .ret ∧ len < 16 + 32 * pre.length ∧ LX w W)
      (fun _ A B row h hg hr => by
        obtain ⟨⟨h1, v, h2⟩, h3⟩ := h
        exact ⟨⟨h1, v, h2.kept hg (fun r e => ⟨by have := (hr r e).1; omega, (hr r e).2⟩)⟩, Nat.le_trans h3 hg.size⟩)
      (fun _ _ h => h.2) (fun c _ A B row h hg hr => ⟨h.1, h.2.1, h.2.2.kept hg (fun r e => ⟨by have := (hr r e).1; omega, (hr r e).2⟩)⟩)
      ⟨⟨by simpa using h16, _, L7.out⟩, Nat.le_refl _⟩ 57 (fun x => nC (nG b e x)) ?act ?assign ?body ?done ?stop
    case assign =>
      rintro l x W K hK
      have hsem := Oper.semAt_some
      gi_wp2_with (refine istep_alloc (.round l) zNd rfl ?_)
      intro V1 g9 hg9 hle9 hb9
      gi_wp2_with (refine istep_storeA (.round l) wNd rfl rfl rfl hg9 rfl (One.nC _) rfl ?_)
      intro V2 hg92 hbut9
      have hK2 := hK g9 V2 (hb9.trans (hbut9.below hle9)) hg92
      clear hK
      gi_wp2
      exact hK2
    case stop =>
      rintro D c pre W hD hSp ⟨rfl, hl, hX⟩ hK
      have hpl : pre.length ≤ (parts b e).length := by have := hSp.length_le; rwa [List.length_range] at this
      have hno : ¬ ldOK xs := by
        rintro ⟨_, h2⟩
        rw [← HBE.out, ← HEE.out] at h2
        have := HS.out.hlen
        omega
      have HX := hide hX
      have HKd := hide hK
      clear hX hK hSp
      gi_wp2
      have hX7 := HX.out.kept (grownBy_putObj' _ D (.deferred none)) (fun r e => by cases e; exact ⟨by omega, _, HKd.out, rfl⟩)
      have d1 : (W.putObj D (.deferred none)).cell? ⟨w.heap.size + 1, 0, none⟩ = some (.pointer none) := by rw [hX7.c1.cell]; rfl
      have d2 : (W.putObj D (.deferred none)).cell? ⟨w.heap.size + 1 + 1, 0, none⟩ = some (.int .i64 51) := by rw [hX7.c2.cell]; rfl
      refine ⟨by simp, .inl ⟨_, _, rfl, run_takeDeferred HKd.out, ?_⟩⟩
      refine ⟨.tuple #[.pointer none, .int .i64 51], ?_, hX7.bel, .inr ⟨hno, rfl⟩⟩
      simp [results, Tryd.f15, go_sem, d1, d2]
    case done =>
      rintro D ys W hD rfl ⟨⟨hl, v, hL⟩, hsz⟩ hKd
      rw [List.length_range] at hl hL
      have HL := hide hL
      have HKd := hide hKd
      obtain ⟨m, HM⟩ : ∃ m, Hid (16 + 32 * (parts b e).length = m) := ⟨_, hide rfl⟩
      rw [HM.out] at hl HL
      have cA : W.cell? ⟨ga, 0, none⟩ = some (.int .i64 (m : Int)) := by rw [HL.out.ca.cell]; rfl
      have cB : W.cell? ⟨w.heap.size, 0, none⟩ = some (.slice a len cap) := by rw [HL.out.cb.cell]; rfl
      have c13 : W.cell? ⟨w.heap.size + 1, 0, none⟩ = some (.pointer none) := by rw [HL.out.c1.cell]; rfl
      have f13 : W.frozen? ⟨w.heap.size + 1, 0, none⟩ = false := HL.out.c1.free 0
      clear hL hKd
      by_cases hml : m = len
      · subst hml
        have HOK : Hid (ldOK xs) := hide ⟨HRS.out, by rw [← HBE.out, ← HEE.out, HM.out]; exact HS.out.hlen⟩
        obtain ⟨s1, s2, s3, s4, s5⟩ := set2 (some ⟨gr, 0, none⟩) 0 HL.out.c1 HL.out.c2 HL.out.bel
        have HGL : Hid (GoodL (ldP b e xs (List.range (parts b e).length))) := hide (ldP_good hbe hem HS.out.hbyte (by rw [List.length_range, HM.out, HS.out.hlen]; exact Nat.le_refl _))
        have S1 := hide s1
        have S2 := hide s2
        have S3 := hide s3
        have hb1 := But.setCell W (w.heap.size + 1) 0 (.pointer (some ⟨gr, 0, none⟩))
        have hb2 := But.setCell (W.setCell ⟨w.heap.size + 1, 0, none⟩ (.pointer (some ⟨gr, 0, none⟩))) (w.heap.size + 1 + 1) 0 (.int .i64 0)
        have CR := hide ((HL.out.cr.but hb1 (HL.out.cr.apart HL.out.c1 (by decide))).but hb2 (HL.out.cr.apart HL.out.c2 (by decide)))
        have OW := hide ((HL.out.own.but hb1 (HL.out.own.apart HL.out.c1 (by decide))).but hb2 (HL.out.own.apart HL.out.c2 (by decide)))
        have KD := hide ((KeepsOthers.setCell (W.setCell ⟨w.heap.size + 1, 0, none⟩ (.pointer (some ⟨gr, 0, none⟩))) ⟨w.heap.size + 1 + 1, 0, none⟩ (.int .i64 0)).same D _ ((KeepsOthers.setCell W ⟨w.heap.size + 1, 0, none⟩ (.pointer (some ⟨gr, 0, none⟩))).same D _ HKd.out rfl) rfl)
        clear s1 s2 s3 hb1 hb2
        go_wp2
        revert S1 S2 S3 CR OW KD
        generalize (W.setCell ⟨w.heap.size + 1, 0, none⟩ (.pointer (some ⟨gr, 0, none⟩))).setCell ⟨w.heap.size + 1 + 1, 0, none⟩ (.int .i64 0) = V
        intro S1 S2 S3 CR OW KD
        have hrow : ∀ r, some D = some r → ∃ o : Obj, V.heap[r]? = some o ∧ o.isCells = false := fun r e => by cases e; exact ⟨_, KD.out, rfl⟩
        have t1 := S1.out.kept (grownBy_putObj' _ D (.deferred none)) hrow
        have t2 := S2.out.kept (grownBy_putObj' _ D (.deferred none)) hrow
        have d1 : (V.putObj D (.deferred none)).cell? ⟨w.heap.size + 1, 0, none⟩ = some (.pointer (some ⟨gr, 0, none⟩)) := by rw [t1.cell]; rfl
        have d2 : (V.putObj D (.deferred none)).cell? ⟨w.heap.size + 1 + 1, 0, none⟩ = some (.int .i64 0) := by rw [t2.cell]; rfl
        have BA := S3.out.trans (belowK_b (w := w) (Nat.le_refl _) _ D _ (.deferred none) (by omega) KD.out rfl rfl)
        refine ⟨by simp, .inl ⟨_, _, rfl, run_takeDeferred KD.out, ?_⟩⟩
        refine ⟨.tuple #[.pointer (some ⟨gr, 0, none⟩), .int .i64 0], ?_, BA, .inl ⟨HOK.out, gr, v, rfl, ⟨CR.out.kept (grownBy_putObj' _ D (.deferred none)) hrow, OW.out.kept (grownBy_putObj' _ D (.deferred none)) hrow, HGL.out, ldP_nodes b e xs, hbe, hem⟩, hgrw⟩⟩
        simp [results, Tryd.f15, go_sem, d1, d2]
      · have hne := ne_castN hml
        have HNO : Hid (¬ ldOK xs) := hide (by
          rintro ⟨_, h2⟩
          rw [← HBE.out, ← HEE.out, HM.out, HS.out.hlen] at h2
          exact hml h2.symm)
        obtain ⟨s1, s2, s3, s4, s5⟩ := set2 none 51 HL.out.c1 HL.out.c2 HL.out.bel
        have S1 := hide s1
        have S2 := hide s2
        have S3 := hide s3
        have KD := hide ((KeepsOthers.setCell (W.setCell ⟨w.heap.size + 1, 0, none⟩ (.pointer none)) ⟨w.heap.size + 1 + 1, 0, none⟩ (.int .i64 51)).same D _ ((KeepsOthers.setCell W ⟨w.heap.size + 1, 0, none⟩ (.pointer none)).same D _ HKd.out rfl) rfl)
        clear s1 s2 s3 hml
        go_wp2
        revert S1 S2 S3 KD
        generalize (W.setCell ⟨w.heap.size + 1, 0, none⟩ (.pointer none)).setCell ⟨w.heap.size + 1 + 1, 0, none⟩ (.int .i64 51) = V
        intro S1 S2 S3 KD
        have hrow : ∀ r, some D = some r → ∃ o : Obj, V.heap[r]? = some o ∧ o.isCells = false := fun r e => by cases e; exact ⟨_, KD.out, rfl⟩
        have t1 := S1.out.kept (grownBy_putObj' _ D (.deferred none)) hrow
        have t2 := S2.out.kept (grownBy_putObj' _ D (.deferred none)) hrow
        have d1 : (V.putObj D (.deferred none)).cell? ⟨w.heap.size + 1, 0, none⟩ = some (.pointer none) := by rw [t1.cell]; rfl
        have d2 : (V.putObj D (.deferred none)).cell? ⟨w.heap.size + 1 + 1, 0, none⟩ = some (.int .i64 51) := by rw [t2.cell]; rfl
        have BA := S3.out.trans (belowK_b (w := w) (Nat.le_refl _) _ D _ (.deferred none) (by omega) KD.out rfl rfl)
        refine ⟨by simp, .inl ⟨_, _, rfl, run_takeDeferred KD.out, ?_⟩⟩
        refine ⟨.tuple #[.pointer none, .int .i64 51], ?_, BA, .inr ⟨HNO.out, rfl⟩⟩
        simp [results, Tryd.f15, go_sem, d1, d2]
    case body =>
      rintro l pre x g8 W ⟨⟨hl, v, hL⟩, hsz⟩ hg8 hlt
      have hsem := Oper.semAt_some
      have HL := hide hL
      have HG8 := hide hg8
      obtain ⟨k, HKL⟩ : ∃ k, Hid (pre.length = k) := ⟨_, hide rfl⟩
      obtain ⟨m, HM⟩ : ∃ m, Hid (16 + 32 * k = m) := ⟨_, hide rfl⟩
      rw [HKL.out, HM.out] at hl HL
      rw [HKL.out] at hlt
      have cA : W.cell? ⟨ga, 0, none⟩ = some (.int .i64 (m : Int)) := by rw [HL.out.ca.cell]; rfl
      have cB : W.cell? ⟨w.heap.size, 0, none⟩ = some (.slice a len cap) := by rw [HL.out.cb.cell]; rfl
      clear hL hg8
      by_cases hfit : m + 32 ≤ len
      · obtain ⟨bb, oo, ea, _⟩ := HS.out.hcell (by omega)
        subst ea
        obtain ⟨ds, HDS⟩ : ∃ ds, Hid ((xs.drop m).take 32 = ds) := ⟨_, hide rfl⟩
        have HDL0 : Hid (ds.length = 32) := hide (by rw [← HDS.out]; simp; have := HS.out.hlen; omega)
        have HDL := hide (show (u8s ds).length = 32 by rw [u8s_length, HDL0.out])
        have HDB : Hid (isB ds) := hide (by rw [← HDS.out]; exact (HS.out.hbyte.drop _).take _)
        have HDA : Hid (dAt xs k = ds) := hide (by unfold dAt; rw [HM.out, HDS.out])
        have hng := nG_good hbe hem x
        have HGP : Hid (Good (nG b e x, ds)) := hide ⟨HDL0.out, HDB.out, hng.1, hng.2⟩
        have hcnt : k ≤ 98 := by have := parts_98 b e hem; omega
        have hreach := HS.out.hreach
        obtain ⟨a1, n1, c1, ev⟩ : ∃ a1 n1 c1, v = Value.slice a1 n1 c1 := by rcases HL.out.own.lies with ⟨e1, _⟩ | ⟨_, _, _, e1, _⟩ <;> exact ⟨_, _, _, e1⟩
        subst ev
        gi_wp2_with fail
        refine ⟨trivial, (calls_round (.round l) (octD_ok bb oo len cap xs m _ (HS.out.below HL.out.bel) hfit)).mono ?_⟩
        rintro r V1 ⟨rfl, hv1⟩
        rw [HDS.out]
        have HV1 := hide hv1
        clear hv1 hng
        gi_wp2_with (refine istep_alloc (.round l) zD rfl ?_)
        intro V2 g9 hg9 hle9 hb9
        gi_wp2_with (refine istep_storeA (.round l) wD rfl rfl rfl hg9 HDL.out (One.u8 _) rfl ?_)
        intro V3 hg93 hbut9
        have hb93 : Below V1.heap.size V1 V3 := hb9.trans (hbut9.below hle9)
        have HB3 := hide (HV1.out.trans (hb93.mono HV1.out.size))
        have HL3 := hide (HL.out.below HB3.out)
        have HG83 := hide (HG8.out.below HB3.out HG8.out.lt)
        have HG93 := hide hg93
        have c33 : V3.cell? ⟨gr, 3, none⟩ = some (.slice a1 n1 c1) := by rw [HL3.out.cr.cell]; rfl
        clear hg9 hg93 hbut9 hb9 hb93 cA cB
        gi_wp2_with (first | (refine istep_loadA (.round l) wNd rfl rfl HG83.out rfl ?_) | (refine istep_loadA (.round l) wD rfl rfl HG93.out HDL.out ?_) | (refine istep_run (.round l) (fun c => by simp) rfl _ _ (run_buildP rfl rfl HDL0.out) ?_) | (refine istep_oneP (.round l) rfl rfl HGP.out ?_))
        intro V4 g10 hg10 hle10 hb10
        have HL4 := hide (HL3.out.below hb10)
        have HB4 := hide (HB3.out.trans (hb10.mono HB3.out.size))
        have HG10 := hide hg10
        have hlen98 : (ldP b e xs pre).length ≤ 1048576 := by rw [ldP_length, HKL.out]; omega
        clear hg10 hb10 c33
        gi_wp2_with (refine istep_appendP (.round l) rfl rfl rfl HL4.out.own HG10.out HGP.out hlen98 HL4.out.bel.size ?_)
        intro v5 V5 ho5 hgr5 hmv5
        obtain ⟨a5, n5, c5, ev5⟩ : ∃ a1 n1 c1, v5 = Value.slice a1 n1 c1 := by rcases ho5.lies with ⟨e1, _⟩ | ⟨_, _, _, e1, _⟩ <;> exact ⟨_, _, _, e1⟩
        subst ev5
        have HO5 := hide ho5
        have HGR5 := hide hgr5
        have HMV5 := hide hmv5
        have HL6 := hide (HL4.out.grow ho5 hgr5 hgrw)
        have cr5 : Blk V5 gr 54 (rgC b e (.slice a1 n1 c1)) := by
          unfold Blk
          rw [hgr5.block _ HL4.out.cr.lt (fun e1 => (HL4.out.own.apart HL4.out.cr (by decide)) e1.symm)]
          exact HL4.out.cr
        have c35 : V5.cell? ⟨gr, 3, none⟩ = some (.slice a1 n1 c1) := by rw [cr5.cell]; rfl
        have f35 : V5.frozen? ⟨gr, 3, none⟩ = false := cr5.free 3
        have cA6 : (V5.setCell ⟨gr, 3, none⟩ (.slice a5 n5 c5)).cell? ⟨ga, 0, none⟩ = some (.int .i64 (m : Int)) := by rw [HL6.out.ca.cell]; rfl
        have fA6 : (V5.setCell ⟨gr, 3, none⟩ (.slice a5 n5 c5)).frozen? ⟨ga, 0, none⟩ = false := HL6.out.ca.free 0
        have HL7 := hide (HL6.out.setAt (m + 32) hgaw)
        have HCH : Hid (Chs (fun k => k = ga ∨ Foot gr (.slice a1 n1 c1) k) W ((V5.setCell ⟨gr, 3, none⟩ (.slice a5 n5 c5)).setCell ⟨ga, 0, none⟩ (.int .i64 ((m + 32 : Nat) : Int)))) := hide (by
          have h1 : Chs (fun k => k = ga ∨ Foot gr (.slice a1 n1 c1) k) W V5 := ((Chs.refl _ W).thenBelow HB4.out).thenGrown hgr5 (fun k hk => .inl (.inr (.inr hk)))
          exact (h1.thenBut (But.setCell _ gr 3 _) (.inl (.inr (.inl rfl)))).thenBut (But.setCell _ ga 0 _) (.inl (.inl rfl)))
        have hmv : Moved W (.slice a1 n1 c1) (.slice a5 n5 c5) := fun i hi => (hmv5 i hi).imp id (fun h => Nat.le_trans HB4.out.size h)
        have HMV := hide hmv
        clear ho5 hgr5 hmv5 hmv cr5
        gi_wp2
        have e32 : (m : Int) + 32 = ((m + 32 : Nat) : Int) := rfl
        rw [e32]
        refine ⟨(HL.out.keepsO HCH.out).from _, HL.out.km HL7.out HCH.out HMV.out, ⟨?_, .slice a5 n5 c5, ?_⟩, Nat.le_trans hsz HCH.out.size⟩
        · rw [List.length_append, HKL.out, List.length_singleton]
          have := HM.out
          omega
        · rw [ldP_snoc, List.length_append, List.length_singleton, HKL.out, HDA.out]
          have e1 : 16 + 32 * (k + 1) = m + 32 := by have := HM.out; omega
          rw [e1]
          exact HL7.out
      · have hbad : (m : Int) < 0 ∨ (len : Int) < (m : Int) ∨ (len : Int) - (m : Int) < 32 := by omega
        have hlen := HS.out.hreach
        gi_wp2_with fail
        refine ⟨trivial, (calls_round (.round l) (octD_bad a len cap (m : Int) _ hlen hbad)).mono ?_⟩
        rintro r V1 ⟨⟨E, hE, rfl⟩, hv1⟩
        have HV1 := hide hv1
        have hEq : ¬ E = 0 := hE
        clear hv1 hE
        gi_wp2_with (refine istep_alloc (.round l) zD rfl ?_)
        intro V2 g9 hg9 hle9 hb9
        gi_wp2_with (refine istep_storeA (.round l) wD rfl rfl rfl hg9 rfl (One.u8 _) rfl ?_)
        intro V3 hg93 hbut9
        have hb93 : Below V1.heap.size V1 V3 := hb9.trans (hbut9.below hle9)
        have hb3 := HV1.out.trans (hb93.mono HV1.out.size)
        have L3 := HL.out.below hb3
        obtain ⟨s1, s2, s3, s4, s5⟩ := set2 none 51 L3.c1 L3.c2 L3.bel
        have c13 : V3.cell? ⟨w.heap.size + 1, 0, none⟩ = some (.pointer none) := by rw [L3.c1.cell]; rfl
        have f13 : V3.frozen? ⟨w.heap.size + 1, 0, none⟩ = false := L3.c1.free 0
        have S1 := hide s1
        have S2 := hide s2
        have S3 := hide s3
        have KO := hide ((keepsO_below hb3).trans ((KeepsOthers.setCell V3 ⟨w.heap.size + 1, 0, none⟩ (.pointer none)).trans (KeepsOthers.setCell _ ⟨w.heap.size + 1 + 1, 0, none⟩ (.int .i64 51))))
        clear s1 s2 s3 hg9 hg93 hbut9 hb9 hb93 hb3 L3 cA cB hbad
        gi_wp2
        exact ⟨KO.out.from _, rfl, by rw [List.length_append, HKL.out]; have := HM.out; simp; omega, S1.out, S2.out, S3.out⟩
  · refine (rs_bad a len cap xs _ (HS.out.below B0) hrs).mono ?_
    rintro r W1 ⟨rfl, hb1⟩
    have J1 := hide (j1.below hb1 j1.lt)
    have J2 := hide (j2.below hb1 j2.lt)
    have BB := hide (B0.trans (hb1.mono B0.size))
    have HNO : Hid (¬ ldOK xs) := hide (fun h => hrs h.1)
    clear j0 j1 j2 B0 hb1 hrs
    go_wp2_with (refine step_alloc zSp rfl ?_)
    intro W2 gs hgs hles hb2
    go_wp2_with (refine step_alloc zInt rfl ?_)
    intro W3 ga hga hlea hb3
    have hgs3 := hgs.below hb3 hgs.lt
    go_wp2_with (refine step_storeA wSpn rfl rfl rfl hgs3 rfl (One.two _ _) rfl ?_)
    intro W4 hgs4 hbut4
    have hga4 := hga.but hbut4 (hga.apart hgs3 (by decide))
    have hb4 : Below W1.heap.size W1 W4 := (hb2.trans (hb3.mono hb2.size)).trans (hbut4.below hles)
    have hba := But.setCell W4 ga 0 (.int .i64 0)
    have hga1 : W1.heap.size ≤ ga := Nat.le_trans hb2.size hlea
    have hb5 : Below W1.heap.size W1 (W4.setCell ⟨ga, 0, none⟩ (.int .i64 0)) := hb4.trans (hba.below hga1)
    have J13 := hide (J1.out.below hb5 J1.out.lt)
    have J23 := hide (J2.out.below hb5 J2.out.lt)
    have BB3 := hide (BB.out.trans (hb5.mono BB.out.size))
    have HGS := hide (hgs4.but hba (hgs4.apart hga4 (by decide)))
    have HGA := hide (hga4.set 0 (.int .i64 0))
    have ca4 : W4.cell? ⟨ga, 0, none⟩ = some (.int .i64 0) := by rw [hga4.cell]; rfl
    have fa4 : W4.frozen? ⟨ga, 0, none⟩ = false := hga4.free 0
    have hsz4 : W1.heap.size ≤ gs := hles
    clear hgs hgs3 hgs4 hga hga4 hbut4 hb2 hb3 hb4 hba hlea hles
    obtain ⟨s1, s2, s3, s4, s5⟩ := set2 none 51 J13.out J23.out BB3.out
    have c13 : (W4.setCell ⟨ga, 0, none⟩ (.int .i64 0)).cell? ⟨w.heap.size + 1, 0, none⟩ = some (.pointer none) := by rw [J13.out.cell]; rfl
    have f13 : (W4.setCell ⟨ga, 0, none⟩ (.int .i64 0)).frozen? ⟨w.heap.size + 1, 0, none⟩ = false := J13.out.free 0
    have S1 := hide s1
    have S2 := hide s2
    have S3 := hide s3
    clear s1 s2 s3 hb5 J1 J2 BB
    go_wp2
    revert S1 S2 S3
    generalize ((W4.setCell ⟨ga, 0, none⟩ (.int .i64 0)).setCell ⟨w.heap.size + 1, 0, none⟩ (.pointer none)).setCell ⟨w.heap.size + 1 + 1, 0, none⟩ (.int .i64 51) = V
    intro S1 S2 S3
    have d1 : V.cell? ⟨w.heap.size + 1, 0, none⟩ = some (.pointer none) := by rw [S1.out.cell]; rfl
    have d2 : V.cell? ⟨w.heap.size + 1 + 1, 0, none⟩ = some (.int .i64 51) := by rw [S2.out.cell]; rfl
    refine ⟨.tuple #[.pointer none, .int .i64 51], ?_, S3.out, .inr ⟨HNO.out, rfl⟩⟩
    simp [results, Tryd.f15, go_sem, d1, d2]

end Go.Proofs.YtnjkjickclkmhaaDoor

/-
  The document's Load of bytes that are no range.
-/
namespace Go.Proofs.YtnjkjickclkmhaaDoor
open Go.RowKit Go.Shelf
set_option linter.unusedVariables false

theorem refLoad_short (a : Option Addr) (len cap : Nat) (xs : List Int) (w : World) (hs : Sl w a len cap xs) (hl : len < 16) :
    Calls Tryd.prog 17 #[.slice a len cap] w fun r w' => r = .returned (.tuple #[.agg (rfC 0 0 (.slice none 0 0)).toArray, .int .i64 51]) ∧ Below w.heap.size w w' := by
  have hlI : (len : Int) < 16 := by omega
  have HS := hide hs
  clear hs
  go_enter Tryd.func17, Tryd.ntmps17
  go_wp2_with (refine step_alloc zRf rfl ?_)
  intro w1 g2 hg2 hle2 hb2
  have HG2 := hide hg2
  have HS1 := hide (HS.out.below hb2)
  clear hg2
  go_wp2_with (first | (refine step_buildRf0 rfl ?_) | (refine step_storeA wRf rfl rfl rfl HG2.out rfl (One.rfC _ _ _ _ _) rfl ?_; intro w4 hg4 hbut))
  refine bodyPost_ret (results_wide2 rfl wRf _ _ rfl hg4 rfl) rfl ⟨rfl, ?_⟩
  exact hb2.trans (hbut.below hle2)
set_option maxRecDepth 100000 in
set_option maxHeartbeats 1500000 in
theorem refLoad_span (a : Option Addr) (len cap : Nat) (xs : List Int) (w : World) (hs : Sl w a len cap xs) (hl : 16 ≤ len) (hc : rdV xs 8 8 < rdV xs 0 8 ∨ 281474976710656 < rdV xs 8 8) :
    Calls Tryd.prog 17 #[.slice a len cap] w fun r w' => r = .returned (.tuple #[.agg (rfC 0 0 (.slice none 0 0)).toArray, .int .i64 51]) ∧ Below w.heap.size w w' := by
  have hlI : ¬ (len : Int) < 16 := by omega
  obtain ⟨X, HX⟩ : ∃ X, Hid (rdV xs 0 8 = X) := ⟨_, hide rfl⟩
  obtain ⟨Y, HY⟩ : ∃ Y, Hid (rdV xs 8 8 = Y) := ⟨_, hide rfl⟩
  rw [HX.out, HY.out] at hc
  by_cases h1 : Y < X
  · clear hc
    have HS := hide hs
    clear hs
    go_enter Tryd.func17, Tryd.ntmps17
    go_wp2_with (refine step_alloc zRf rfl ?_)
    intro w1 g2 hg2 hle2 hb2
    have HG2 := hide hg2
    have HS1 := hide (HS.out.below hb2)
    clear hg2
    go_wp2_with fail
    refine (read_any _ _ _ _ _ 8 _ HS1.out (by omega) (by omega)).mono ?_
    rintro r w' ⟨rfl, rfl⟩
    rw [HX.out]
    generalize rdN len 0 8 = N1
    generalize rdE len 0 8 = E1
    go_wp2_with fail
    refine (read_any _ _ _ _ _ 8 _ HS1.out (by omega) (by omega)).mono ?_
    rintro r w' ⟨rfl, rfl⟩
    rw [HY.out]
    generalize rdN len 8 8 = N2
    generalize rdE len 8 8 = E2
    go_wp2_with (first | (refine step_buildRf0 rfl ?_) | (refine step_storeA wRf rfl rfl rfl HG2.out rfl (One.rfC _ _ _ _ _) rfl ?_; intro w4 hg4 hbut))
    refine bodyPost_ret (results_wide2 rfl wRf _ _ rfl hg4 rfl) rfl ⟨rfl, ?_⟩
    exact hb2.trans (hbut.below hle2)
  · have h2 : 281474976710656 < Y := hc.resolve_left h1
    clear hc
    have HS := hide hs
    clear hs
    go_enter Tryd.func17, Tryd.ntmps17
    go_wp2_with (refine step_alloc zRf rfl ?_)
    intro w1 g2 hg2 hle2 hb2
    have HG2 := hide hg2
    have HS1 := hide (HS.out.below hb2)
    clear hg2
    go_wp2_with fail
    refine (read_any _ _ _ _ _ 8 _ HS1.out (by omega) (by omega)).mono ?_
    rintro r w' ⟨rfl, rfl⟩
    rw [HX.out]
    generalize rdN len 0 8 = N1
    generalize rdE len 0 8 = E1
    go_wp2_with fail
    refine (read_any _ _ _ _ _ 8 _ HS1.out (by omega) (by omega)).mono ?_
    rintro r w' ⟨rfl, rfl⟩
    rw [HY.out]
    generalize rdN len 8 8 = N2
    generalize rdE len 8 8 = E2
    go_wp2_with (first | (refine step_buildRf0 rfl ?_) | (refine step_storeA wRf rfl rfl rfl HG2.out rfl (One.rfC _ _ _ _ _) rfl ?_; intro w4 hg4 hbut))
    refine bodyPost_ret (results_wide2 rfl wRf _ _ rfl hg4 rfl) rfl ⟨rfl, ?_⟩
    exact hb2.trans (hbut.below hle2)

end Go.Proofs.YtnjkjickclkmhaaDoor

/-
  The document's Load of bytes that are too many or too few for their span.
-/
namespace Go.Proofs.YtnjkjickclkmhaaDoor
open Go.RowKit Go.Shelf
set_option linter.unusedVariables false

set_option maxRecDepth 100000 in
set_option maxHeartbeats 1500000 in
theorem refLoad_len (a : Option Addr) (len cap : Nat) (xs : List Int) (w : World) (hs : Sl w a len cap xs) (hl : 16 ≤ len) (b e : Nat) (hX : rdV xs 0 8 = (b : Int)) (hY : rdV xs 8 8 = (e : Int)) (hbe : b ≤ e) (hm : e ≤ 281474976710656) (hn : len ≠ 16 + 32 * (parts b e).length) :
    Calls Tryd.prog 17 #[.slice a len cap] w fun r w' => r = .returned (.tuple #[.agg (rfC 0 0 (.slice none 0 0)).toArray, .int .i64 51]) ∧ Below w.heap.size w w' := by
  have hlI : ¬ (len : Int) < 16 := by omega
  have HX := hide hX
  have HY := hide hY
  have h98 := parts_98 b e hm
  have hb1' : ¬ (e : Int) < (b : Int) := by omega
  have hb2' : ¬ (281474976710656 : Int) < (e : Int) := by omega
  have hwb : IntKind.i64.wrap (b : Int) = (b : Int) := by rw [IntKind.wrap_i64]; omega
  have hwe : IntKind.i64.wrap (e : Int) = (e : Int) := by rw [IntKind.wrap_i64]; omega
  have HS := hide hs
  clear hs hX hY
  go_enter Tryd.func17, Tryd.ntmps17
  go_wp2_with (refine step_alloc zRf rfl ?_)
  intro w1 g2 hg2 hle2 hb2
  have HG2 := hide hg2
  have HS1 := hide (HS.out.below hb2)
  clear hg2
  go_wp2_with fail
  refine (read_any _ _ _ _ _ 8 _ HS1.out (by omega) (by omega)).mono ?_
  rintro r w' ⟨rfl, rfl⟩
  rw [HX.out]
  generalize rdN len 0 8 = N1
  generalize rdE len 0 8 = E1
  go_wp2_with fail
  refine (read_any _ _ _ _ _ 8 _ HS1.out (by omega) (by omega)).mono ?_
  rintro r w' ⟨rfl, rfl⟩
  rw [HY.out]
  generalize rdN len 8 8 = N2
  generalize rdE len 8 8 = E2
  go_wp2_with fail
  refine (partsR_any b e _ hbe hm).mono ?_
  rintro r W4 ⟨u, rfl, hn4, hb4⟩
  have hlu := hn4.lenOf
  obtain ⟨ua, un, uc, rfl⟩ : ∃ ua un uc, u = .slice ua un uc := by
    rcases hn4.lies with ⟨rfl, _⟩ | ⟨_, _, _, rfl, _⟩ <;> exact ⟨_, _, _, rfl⟩
  have hun : un = (parts b e).length := hlu
  have hm1 : wrap64 (32 * (un : Int)) = 32 * (un : Int) := by unfold wrap64; omega
  have hm2 : wrap64 (16 + 32 * (un : Int)) = 16 + 32 * (un : Int) := by unfold wrap64; omega
  have hm3 : ¬ (len : Int) = 16 + 32 * (un : Int) := by omega
  have HG4 := hide (HG2.out.below hb4 HG2.out.lt)
  clear hlu hun hn h98 hn4
  go_wp2_with (first | (refine step_buildRf0 rfl ?_) | (refine step_storeA wRf rfl rfl rfl HG4.out rfl (One.rfC _ _ _ _ _) rfl ?_; intro w4 hg4 hbut))
  refine bodyPost_ret (results_wide2 rfl wRf _ _ rfl hg4 rfl) rfl ⟨rfl, ?_⟩
  exact (hb2.trans (hb4.mono hb2.size)).trans (hbut.below hle2)

end Go.Proofs.YtnjkjickclkmhaaDoor

/-
  The document's Load of bytes that are a range.
-/
namespace Go.Proofs.YtnjkjickclkmhaaDoor
open Go.RowKit Go.Shelf
set_option linter.unusedVariables false

/-- What the loop of the document's Load keeps. -/
structure LD (w W : World) (g2 gr : Nat) (xs : List Int) (b e : Nat) (v : Value) (k : Nat) : Prop where
  c2 : Blk W g2 29 (rfC 0 0 (.slice none 0 0))
  cr : Blk W gr 29 (rfC b e v)
  own : DOwn W w.heap.size v k ((List.range k).flatMap (dAt xs))
  bel : Below w.heap.size w W
theorem LD.below {w W W' : World} {g2 gr : Nat} {xs : List Int} {b e : Nat} {v : Value} {k : Nat} (h : LD w W g2 gr xs b e v k) (hb : Below W.heap.size W W') : LD w W' g2 gr xs b e v k :=
  ⟨h.c2.below hb h.c2.lt, h.cr.below hb h.cr.lt, h.own.below hb, h.bel.trans (hb.mono h.bel.size)⟩
theorem LD.next {w W W' : World} {g2 gr : Nat} {xs : List Int} {b e : Nat} {v v' : Value} {k : Nat} (h : LD w W g2 gr xs b e v k) (hg : W.grownBy W' v.ownBlock) (ho : DOwn W' w.heap.size v' (k + 1) ((List.range k).flatMap (dAt xs) ++ dAt xs k)) (hne : v'.ownBlock ≠ some gr) (hgr : w.heap.size ≤ gr) (h2r : g2 ≠ gr) :
    LD w (W'.setCell ⟨gr, 2, none⟩ v') g2 gr xs b e v' (k + 1) := by
  have h2 := h.c2.grew2 hg (h.own.apart h.c2 (by decide))
  have hr := h.cr.grew2 hg (h.own.apart h.cr (by decide))
  have hbut := But.setCell W' gr 2 v'
  refine ⟨h2.but hbut h2r, hr.set 2 v', ?_, (h.bel.trans (Below.of_grown hg h.bel.size h.own.lt)).trans (hbut.below hgr)⟩
  rw [List.range_succ, List.flatMap_append]
  simp only [List.flatMap_cons, List.flatMap_nil, List.append_nil]
  obtain ⟨h1, h3⟩ := ho
  refine ⟨h1, ?_⟩
  rcases h3 with h3 | ⟨g, cap, cur, rfl, hB, hh, r⟩
  · exact .inl h3
  · refine .inr ⟨g, cap, cur, rfl, hB, ?_, r⟩
    rw [hbut.block g (fun e => hne (by rw [← e]; rfl))]
    exact hh
section
variable {dst : Option Tmp} {ty : TypeId} {pos : String} {aft : Array Edge} {gd : Option (Nat × Bool)} {ops : Array Oper} {rest : List Oper} {a : Act} {w : World} {Q : Exit → Act → World → Prop}
set_option maxRecDepth 100000 in
theorem step_oneD2 {x : Operand} {ds : List Int} (hw : Region.wanted ⟨dst, .buildSlice 27 1 #[(0, x)], ty, pos, aft, gd⟩ (yielded ops a.tmps) = true) (hx : a.eval x = .agg (u8s ds).toArray) (hd : ds.length = 32)
    (h : ∀ w1 g, Blk w1 g 34 (u8s ds) → w.heap.size ≤ g → Below w.heap.size w w1 → wpList Tryd.prog ops Q rest (a.put dst (.slice (some ⟨g, 0, none⟩) 1 1)) w1) :
    wpList Tryd.prog ops Q (⟨dst, .buildSlice 27 1 #[(0, x)], ty, pos, aft, gd⟩ :: rest) a w :=
  BigFrame.wpList_want hw fun K hK => wp_oneD2 hx hd fun w1 g h1 h2 h3 => hK _ _ (h w1 g h1 h2 h3)
set_option maxRecDepth 100000 in
theorem step_appendDG {s x : Operand} {B : Nat} {v : Value} {n : Nat} {xs : List Int} {sa : Option Addr} {m c : Nat} {ys : List Int}
    (hw : Region.wanted ⟨dst, .call { callee := .builtin .append, args := #[s, x], argTypes := #[27, 27] }, ty, pos, aft, gd⟩ (yielded ops a.tmps) = true)
    (hs : a.eval s = v) (hx : a.eval x = .slice sa m c) (hown : DOwn w B v n xs) (hy : Ds w sa m c ys) (hlen : n + m ≤ 4398046511104) (hB : B ≤ w.heap.size)
    (h : ∀ v' w', DOwn w' B v' (n + m) (xs ++ ys) → w.grownBy w' v.ownBlock → wpList Tryd.prog ops Q rest (a.put dst v') w') :
    wpList Tryd.prog ops Q (⟨dst, .call { callee := .builtin .append, args := #[s, x], argTypes := #[27, 27] }, ty, pos, aft, gd⟩ :: rest) a w :=
  BigFrame.wpList_want hw fun K hK => wp_appendDG hs hx hown hy hlen hB fun v' w' h1 h2 => hK _ _ (h v' w' h1 h2)
end

set_option maxRecDepth 100000 in
set_option maxHeartbeats 800000 in
theorem refLoad_ok (a : Option Addr) (len cap : Nat) (xs : List Int) (w : World) (hs : Sl w a len cap xs) (b e : Nat) (hX : rdV xs 0 8 = (b : Int)) (hY : rdV xs 8 8 = (e : Int)) (hbe : b ≤ e) (hm : e ≤ 281474976710656) (hn : len = 16 + 32 * (parts b e).length) :
    Calls Tryd.prog 17 #[.slice a len cap] w fun r w' => Below w.heap.size w w' ∧ ∃ v, r = .returned (.tuple #[.agg (rfC b e v).toArray, .int .i64 0]) ∧ DOwn w' w.heap.size v (parts b e).length ((List.range (parts b e).length).flatMap (dAt xs)) := by
  have hlI : ¬ (len : Int) < 16 := by omega
  have HX := hide hX
  have HY := hide hY
  have h98 := parts_98 b e hm
  obtain ⟨n, HN⟩ : ∃ n, Hid ((parts b e).length = n) := ⟨_, hide rfl⟩
  rw [HN.out] at hn h98
  have HLN := hide hn
  have hl16 : 16 ≤ len := by omega
  have hl99 : len ≤ 4000 := by omega
  clear hn
  have hb1' : ¬ (e : Int) < (b : Int) := by omega
  have hb2' : ¬ (281474976710656 : Int) < (e : Int) := by omega
  have hwb : IntKind.i64.wrap (b : Int) = (b : Int) := by rw [IntKind.wrap_i64]; omega
  have hwe : IntKind.i64.wrap (e : Int) = (e : Int) := by rw [IntKind.wrap_i64]; omega
  have HS := hide hs
  clear hs hX hY
  go_enter Tryd.func17, Tryd.ntmps17
  go_wp2_with (refine step_alloc zRf rfl ?_)
  intro w1 g2 hg2 hle2 hb2
  have HG2 := hide hg2
  have HS1 := hide (HS.out.below hb2)
  clear hg2
  go_wp2_with fail
  refine (read_any _ _ _ _ _ 8 _ HS1.out (by omega) (by omega)).mono ?_
  rintro r w' ⟨rfl, rfl⟩
  rw [HX.out]
  generalize rdN len 0 8 = N1
  generalize rdE len 0 8 = E1
  go_wp2_with fail
  refine (read_any _ _ _ _ _ 8 _ HS1.out (by omega) (by omega)).mono ?_
  rintro r w' ⟨rfl, rfl⟩
  rw [HY.out]
  generalize rdN len 8 8 = N2
  generalize rdE len 8 8 = E2
  go_wp2_with fail
  refine (partsR_any b e _ hbe hm).mono ?_
  rintro r W4 ⟨u, rfl, hn4, hb4⟩
  have hlu := hn4.lenOf
  rw [HN.out] at hlu
  obtain ⟨ua, un, uc, rfl⟩ : ∃ ua un uc, u = .slice ua un uc := by
    rcases hn4.lies with ⟨rfl, _⟩ | ⟨_, _, _, rfl, _⟩ <;> exact ⟨_, _, _, rfl⟩
  obtain rfl : un = n := hlu
  have hm1 : wrap64 (32 * (un : Int)) = 32 * (un : Int) := by unfold wrap64; omega
  have hm2 : wrap64 (16 + 32 * (un : Int)) = 16 + 32 * (un : Int) := by unfold wrap64; omega
  have hm3 : ((len : Int) != 16 + 32 * (un : Int)) = false := by have := HLN.out; simp; omega
  have HG4 := hide (HG2.out.below hb4 HG2.out.lt)
  have HB4 := hide (hb2.trans (hb4.mono hb2.size))
  clear hn4 hb4 hb2 HG2 HS1
  go_wp2_with (first | (refine step_buildRf rfl rfl rfl ?_) | (refine step_alloc zRf rfl ?_))
  intro w5 gr hgr hler hbr
  go_wp2_with (refine step_storeA wRf rfl rfl rfl hgr rfl (One.rfC _ _ _ _ _) rfl ?_)
  intro w6 hgr6 hbut6
  have L6 : Hid (LD w w6 g2 gr xs b e (.slice none 0 0) 0) := hide ⟨(HG4.out.below hbr HG4.out.lt).but hbut6 (by have := HG4.out.lt; omega), hgr6, DOwn.nil _ _, (HB4.out.trans (hbr.mono HB4.out.size)).trans (hbut6.below (Nat.le_trans HB4.out.size hler))⟩
  have hwr : w.heap.size ≤ gr := Nat.le_trans HB4.out.size hler
  have hg2r : g2 ≠ gr := by have := HG4.out.lt; omega
  clear hgr hler hbr hgr6 hbut6 HG4 HB4
  go_wp2
  go_loopw [12] (fun s W => ∃ (k : Nat) (v : Value), k ≤ un ∧ s = .int .i64 (k : Int) ∧ LD w W g2 gr xs b e v k) (fun s _ => un - (intOf s).toNat)
  case atStart => exact ⟨0, _, by omega, rfl, L6.out⟩
  case round =>
    obtain ⟨k, v, hkn, rfl, hL⟩ := hrel
    have L := hide hL
    clear hL L6
    by_cases hlt : k < un
    · have hlt' : (k : Int) < (un : Int) := by omega
      have hp1 : wrap64 (32 * (k : Int)) = 32 * (k : Int) := by unfold wrap64; omega
      have hp2 : wrap64 (16 + 32 * (k : Int)) = 16 + 32 * (k : Int) := by unfold wrap64; omega
      have HD : Hid (∀ V : World, Below w.heap.size w V → Calls Tryd.prog 34 #[.slice a len cap, .int .i64 (16 + 32 * (k : Int))] V fun r w' => r = .returned (.tuple #[.agg (u8s (dAt xs k)).toArray, .int .i64 (((16 + 32 * k : Nat) : Int) + 32), .int .i64 0]) ∧ Below V.heap.size V w') := hide fun V hV => by
        have := digAt_any a len cap xs (16 + 32 * k) V (HS.out.below hV) (by have := HLN.out; omega)
        rwa [show ((16 + 32 * k : Nat) : Int) = 16 + 32 * (k : Int) by omega] at this ⊢
      have HDL := hide (show (dAt xs k).length = 32 by unfold dAt; rw [List.length_take, List.length_drop, HS.out.hlen, HLN.out]; omega)
      have HDB := hide (show isB (dAt xs k) from (HS.out.hbyte.drop _).take _)
      have HDU := hide (show (u8s (dAt xs k)).length = 32 by rw [u8s_length, HDL.out])
      go_wp2_with fail
      refine (HD.out _ L.out.bel).mono ?_
      rintro r w7 ⟨rfl, hb7⟩
      have L7 := hide (L.out.below hb7)
      clear hb7 L
      generalize ((16 + 32 * k : Nat) : Int) + 32 = N3
      go_wp2_with (refine step_alloc zD0 rfl ?_)
      intro w8 g13 hr8 hl8 hb8
      have G13 := hide hr8
      clear hr8
      go_wp2_with (refine step_storeA wD0 rfl rfl rfl G13.out HDU.out (One.u8 _) rfl ?_)
      intro w9 hg9 hbut9
      have L9 := hide (L7.out.below (hb8.trans (hbut9.below hl8)))
      have G139 := hide hg9
      clear hg9 hbut9 hb8 hl8 G13 L7
      have hc2 : w9.cell? ⟨gr, 2, none⟩ = some v := by rw [L9.out.cr.cell]; rfl
      obtain ⟨va, vn, vc, rfl⟩ : ∃ va vn vc, v = .slice va vn vc := by
        rcases L9.out.own.2 with ⟨rfl, _⟩ | ⟨_, _, _, rfl, _⟩ <;> exact ⟨_, _, _, rfl⟩
      go_wp2_with (first | (refine step_loadA wD0 rfl rfl G139.out HDU.out ?_) | (refine step_oneD2 rfl rfl HDL.out ?_))
      intro wa gx hgx hlx hbx
      have LA := hide (L9.out.below hbx)
      have HY := hide (ds_one hgx HDL.out HDB.out)
      have hlag : gr < wa.heap.size := LA.out.cr.lt
      clear hgx hbx L9 G139 hc2
      go_wp2_with (refine step_appendDG rfl rfl rfl LA.out.own HY.out (by omega) LA.out.bel.size ?_)
      intro v' wb hob hgb
      have hne' : v'.ownBlock ≠ some gr := by
        intro h9
        obtain ⟨cs9, hb9⟩ := hob.blk gr h9
        have h8 := LA.out.cr.grew2 hgb (LA.out.own.apart LA.out.cr (by decide))
        rw [Blk, hb9] at h8
        injection h8 with h8
        injection h8 with _ h8 _
        exact absurd h8 (by decide)
      have LB := hide (LA.out.next hgb hob hne' hwr hg2r)
      have hcr := LA.out.cr.grew2 hgb (LA.out.own.apart LA.out.cr (by decide))
      have hfr := hcr.free 2
      have hc3 : wb.cell? ⟨gr, 2, none⟩ = some (.slice va vn vc) := by rw [hcr.cell]; rfl
      obtain ⟨va', vn', vc', rfl⟩ : ∃ va vn vc, v' = .slice va vn vc := by
        rcases hob.2 with ⟨rfl, _⟩ | ⟨_, _, _, rfl, _⟩ <;> exact ⟨_, _, _, rfl⟩
      clear hob hgb hcr hne' LA HY
      go_wp2
      go_roundw
      case rel => exact ⟨k + 1, _, by omega, by simp, LB.out⟩
      case measure => simp only [intOf]; omega
    · obtain rfl : k = un := by omega
      have hlt' : ¬ ((k : Int) < (k : Int)) := by omega
      obtain ⟨va, vn, vc, rfl⟩ : ∃ va vn vc, v = .slice va vn vc := by
        rcases L.out.own.2 with ⟨rfl, _⟩ | ⟨_, _, _, rfl, _⟩ <;> exact ⟨_, _, _, rfl⟩
      go_wp2_with (first | (refine step_loadA wRf rfl rfl L.out.cr rfl ?_) | (refine step_storeA wRf rfl rfl rfl L.out.c2 rfl (One.rfC _ _ _ _ _) rfl ?_))
      intro wz hgz hbutz
      have hbl := L.out.own
      have hnz : (Value.slice va vn vc).ownBlock ≠ some g2 := hbl.apart L.out.c2 (by decide)
      go_wp2
      refine bodyPost_ret (results_wide2 rfl wRf _ _ rfl hgz rfl) rfl ⟨L.out.bel.trans (hbutz.below hle2), _, rfl, ?_⟩
      rw [HN.out]
      obtain ⟨h1, h3⟩ := hbl
      refine ⟨h1, ?_⟩
      rcases h3 with h3 | ⟨g, cap9, cur, e9, hB, hh, r⟩
      · exact .inl h3
      · refine .inr ⟨g, cap9, cur, e9, hB, ?_, r⟩
        rw [hbutz.block g (fun e => hnz (by rw [e9, ← e]; rfl))]
        exact hh

end Go.Proofs.YtnjkjickclkmhaaDoor

/-
  Spoiling bytes of the call's own; the law's names.
-/
namespace Go.Proofs.YtnjkjickclkmhaaDoor
open Go.RowKit
set_option linter.unusedVariables false

set_option maxHeartbeats 400000 in
theorem spoil5_own (g n cap : Nat) (xs : List Int) (B : Nat) (w : World) (ho : Own w B (.slice (some ⟨g, 0, none⟩) n cap) xs) (hx : xs.length = n) (hn : n ≤ 140737488355328) :
    Calls Tryd.prog 16 #[.slice (some ⟨g, 0, none⟩) n cap] w fun e w' => e = .returned (.tuple #[]) ∧ But g w w' := by
  obtain ⟨t, cs, hg, hcs⟩ : ∃ t cs, Blk w g t cs ∧ cs.take n = u8s xs := by
    rcases ho.2 with ⟨e, _⟩ | ⟨g', c', cur, e, _, hh, h3, h4, h5, h6⟩
    · cases e
    · cases e
      refine ⟨5, cur.toList, ?_, ?_⟩
      · unfold Blk; simpa using hh
      · simpa [hx] using h6
  clear ho
  go_enter Tryd.func16, Tryd.ntmps16
  go_wp2
  go_loopw [2] (fun i wr => ∃ k : Nat, k ≤ n ∧ i = .int .i64 k ∧ (∃ ys cs', Blk wr g t cs' ∧ cs'.take n = u8s ys ∧ ys.length = n) ∧ But g w wr) (fun i _ => n - (intOf i).toNat)
  case atStart => exact ⟨0, by omega, rfl, ⟨xs, cs, hg, hcs, hx⟩, But.refl _ _⟩
  case round =>
    obtain ⟨k, hk, rfl, ⟨ys, cs', hr1, hc1, hy⟩, hb1⟩ := hrel
    have HY := hide hy
    have HR := hide hr1
    have HC := hide hc1
    clear hy hr1 hc1 hg hx hcs
    by_cases hlt : k < n
    · have hcell : wr.cell? ⟨g, k, none⟩ = some (.int .u8 (ys.getD k 0)) := by
        have e : (cs'.take n)[k]? = some (.int .u8 (ys.getD k 0)) := by rw [HC.out]; exact u8s_get _ _ (by rw [HY.out]; exact hlt)
        rw [HR.out.cell]
        rw [List.getElem?_take, if_pos hlt] at e
        exact e
      have hfree : wr.frozen? ⟨g, k, none⟩ = false := HR.out.free k
      go_wp2
      go_roundw
      case rel =>
        have h := HR.out.set k (.int .u8 ((ys.getD k 0 + 1) % 256))
        refine ⟨k + 1, by omega, by go_num, ⟨ys.set k ((ys.getD k 0 + 1) % 256), _, h, ?_, by rw [List.length_set]; exact HY.out⟩, hb1.trans (But.setCell _ _ _ _)⟩
        rw [List.take_set, HC.out, u8s_set]
      case measure => simp [intOf]; omega
    · go_wp2
      go_end0
      exact ⟨rfl, hb1⟩
theorem spoil5_nil (c : Nat) (a : Option Addr) (w : World) : Calls Tryd.prog 16 #[.slice a 0 c] w fun e w' => e = .returned (.tuple #[]) ∧ w' = w := by
  go_enter Tryd.func16, Tryd.ntmps16
  go_wp2
  go_loopw [2] (fun i wr => i = .int .i64 0 ∧ wr = w) (fun _ _ => 0)
  case atStart => exact ⟨rfl, rfl⟩
  case round =>
    obtain ⟨rfl, rfl⟩ := hrel
    go_wp2
    go_end0
    exact ⟨rfl, rfl⟩
theorem names5 (w : World) : Calls Tryd.prog 7 #[] w fun r w' => r = .returned (.bool true) ∧ w' = w := by
  go_enter Tryd.func7, Tryd.ntmps7
  go_wp2
  go_ret
  exact ⟨rfl, rfl⟩

end Go.Proofs.YtnjkjickclkmhaaDoor

/-
  More of a range: Append of anything, Merge where the two are no neighbours, Span, Len.
-/
namespace Go.Proofs.YtnjkjickclkmhaaDoor
open Go.RowKit Go.Shelf
set_option linter.unusedVariables false

theorem app_any (B g b e : Nat) (v : Value) (ps : List Pt) (d : List Int) (w : World) (hr : Rg w B g b e v ps) (hB : B ≤ w.heap.size) (hk : KT w) (hkg : 2 < g) (hkB : 2 < B) (hdl : d.length = 32) (hdb : isB d) :
    Calls Tryd.prog 12 #[.pointer (some ⟨g, 0, none⟩), .agg (u8s d).toArray] w fun r w' => ∃ e' v' ps', r = .returned (.int .i64 (apE e 0)) ∧ Rg w' B g b e' v' ps' ∧ Chs (Foot g v) w w' ∧ Moved w v v' ∧
      (apE e 0 ≠ 0 → e' = e ∧ ps' = ps) ∧ (apE e 0 = 0 → e' = e + 1 ∧ ps' = putL ps ((0, e), d)) := by
  have HL := hide (show (u8s d).length = 32 by rw [u8s_length, hdl])
  have HA := hide (fun (w1 : World) (hb : Below w.heap.size w w1) => appN_any B g b e 0 v ps d w1 (hr.below hb) (Nat.le_trans hB hb.size) (hk.below hb hk.lt) hkg hkB hdl hdb)
  clear hr hk hB hdl hdb
  go_enter Tryd.func12, Tryd.ntmps12
  go_wp2_with (refine step_box rfl rfl ?_)
  intro w1 g1 hg1 hle1 hb1
  have HG := hide hg1
  clear hg1
  go_wp2_with (refine step_loadA wD rfl rfl HG.out HL.out ?_)
  refine (HA.out _ hb1).mono ?_
  rintro r w2 ⟨e', v', ps', rfl, hr2, hc2, hn2, hbad, hok⟩
  have R2 := hide hr2
  have HO := hide hok
  have HX := hide hbad
  clear hr2 hok hbad
  go_wp2
  go_ret
  exact ⟨e', v', ps', rfl, R2.out, ((Chs.refl _ _).thenBelow hb1).trans hc2, fun k hk => (hn2 k hk).imp id (fun h => Nat.le_trans hb1.size h), HX.out, fun h => by
    have h1 := HO.out h
    simpa using h1⟩
theorem rlen_made (B g b e : Nat) (v : Value) (ps : List Pt) (w : World) (h : Rg w B g b e v ps) : Calls Tryd.prog 24 #[.pointer (some ⟨g, 0, none⟩)] w fun r w' => r = .returned (.int .i64 (ps.length : Int)) ∧ w = w' := by
  obtain ⟨a, c, rfl⟩ : ∃ a c, v = Value.slice a ps.length c := by rcases h.own.lies with ⟨rfl, rfl⟩ | ⟨_, _, _, rfl, _⟩ <;> exact ⟨_, _, rfl⟩
  have h3 : w.cell? ⟨g, 3, none⟩ = some (.slice a ps.length c) := by rw [h.blk.cell]; rfl
  have h0 : w.cell? ⟨g, 0, none⟩ = some (.bool true) := by rw [h.blk.cell]; rfl
  go_enter Tryd.func24, Tryd.ntmps24
  go_wp2_with (go_at_call 18; refine (made_is _ _ h0).mono ?_; rintro e w' ⟨rfl, rfl⟩)
  go_ret
  exact ⟨rfl, rfl⟩
theorem rspan_made (B g b e : Nat) (v : Value) (ps : List Pt) (w : World) (hr : Rg w B g b e v ps) : Calls Tryd.prog 23 #[.pointer (some ⟨g, 0, none⟩)] w fun r w' => r = .returned (.agg #[.int .i64 (b : Int), .int .i64 (e : Int)]) ∧ Below w.heap.size w w' := by
  have HR := hide hr
  clear hr
  go_enter Tryd.func23, Tryd.ntmps23
  go_wp2_with (refine step_alloc zSp rfl ?_)
  intro w1 g1 hg1 hle1 hb1
  have HG := hide hg1
  have R1 := hide (HR.out.below hb1)
  have c0 : w1.cell? ⟨g, 0, none⟩ = some (.bool true) := by rw [R1.out.blk.cell]; rfl
  have HRG := hide (show w1.rangeAt g 1 [.int .i64 (b : Int), .int .i64 (e : Int)] from R1.out.blk.range 1 _ rfl)
  clear hg1
  go_wp2_with (first | (go_at_call 18; refine (made_is _ _ c0).mono ?_; rintro e w' ⟨rfl, rfl⟩) | (refine step_loadR wSpn rfl rfl _ HRG.out rfl ?_) | (refine step_storeA wSpn rfl rfl rfl HG.out rfl (One.two _ _) rfl ?_; intro w2 hg2 hbut))
  refine bodyPost_ret (results_wide rfl wSpn _ _ rfl hg2 rfl) rfl ⟨rfl, ?_⟩
  exact hb1.trans (hbut.below hle1)

theorem rmerge_bad (B g b e : Nat) (v : Value) (ps : List Pt) (B2 g2 b2 e2 : Nat) (v2 : Value) (qs : List Pt) (w : World) (hr : Rg w B g b e v ps) (hr2 : Rg w B2 g2 b2 e2 v2 qs) (hne : b2 ≠ e) :
    Calls Tryd.prog 13 #[.pointer (some ⟨g, 0, none⟩), .pointer (some ⟨g2, 0, none⟩)] w fun r w' => r = .returned (.int .i64 50) ∧ Below w.heap.size w w' := by
  have HR := hide hr
  have HR2 := hide hr2
  have hneI : ¬ (b2 : Int) = (e : Int) := by omega
  clear hr hr2
  refine (callsIn_wide (n := 3)).1 ?_
  refine callsIn_of_wp_marks Tryd.func13 rfl trivial ?_ rfl
  refine wpIn_wide.2 ?_
  simp only [Tryd.ntmps13, List.size_toArray, List.length_cons, List.length_nil, Nat.reduceAdd, Nat.reduceSub, Array.replicate_succ, Array.replicate_zero, List.push_toArray, List.append_toArray, List.nil_append, List.cons_append]
  go_wp2_with fail
  have BR : Blk (w.alloc (.cells #[.pointer (some ⟨g, 0, none⟩)] 23)) w.heap.size 23 [.pointer (some ⟨g, 0, none⟩)] := Blk.made _ _ _
  have hba : Below w.heap.size w (w.alloc (.cells #[.pointer (some ⟨g, 0, none⟩)] 23)) := (Below.refl _ _).alloc (Nat.le_refl _) _
  revert BR hba
  generalize w.alloc (.cells #[.pointer (some ⟨g, 0, none⟩)] 23) = W1
  intro BR hba
  have c0 : W1.cell? ⟨g, 0, none⟩ = some (.bool true) := by rw [(HR.out.below hba).blk.cell]; rfl
  have c2 : W1.cell? ⟨g, 2, none⟩ = some (.int .i64 (e : Int)) := by rw [(HR.out.below hba).blk.cell]; rfl
  have d0 : W1.cell? ⟨g2, 0, none⟩ = some (.bool true) := by rw [(HR2.out.below hba).blk.cell]; rfl
  have d1 : W1.cell? ⟨g2, 1, none⟩ = some (.int .i64 (b2 : Int)) := by rw [(HR2.out.below hba).blk.cell]; rfl
  have r0 : W1.cell? ⟨w.heap.size, 0, none⟩ = some (.pointer (some ⟨g, 0, none⟩)) := by rw [BR.cell]; rfl
  refine (made_is _ _ c0).mono ?_
  rintro r w' ⟨rfl, rfl⟩
  go_wp2_with (go_at_call 18; refine (made_is _ _ d0).mono ?_; rintro e w' ⟨rfl, rfl⟩)
  go_quiet (fail)
  have hbd : Below W1.heap.size W1 (W1.drewN nq) := below_drewN (Below.refl _ _) nq
  have B2' := hba.trans (hbd.mono hba.size)
  clear c0 c2 d0 d1 r0 BR hba hbd
  go_wp2
  refine ⟨.int .i64 50, ?_, rfl, B2'⟩
  simp [results, Tryd.f13, go_sem]

end Go.Proofs.YtnjkjickclkmhaaDoor

/-
  A region that draws its order inside a round of a range over a function: walked by hand, as outside.
-/
namespace Go.Proofs.YtnjkjickclkmhaaDoor
open Go.RowKit Go.Shelf
set_option linter.unusedVariables false

def noDefer (o : Oper) : Bool := match o.op with
  | .defer _ => false
  | _ => true
section
variable {F : Fence} {n : Nat} {P : Program} {ops : Array Oper} {md : Region.Mode}
theorem wpOpIn_of_wpOp (hF : WideF F) (hd : ops.all noDefer = true) {i : Nat} {a : Act} {K K' : Act → World → Prop} {Q : Exit → Act → World → Prop} {w : World} (hL : ¬ LetsOut Q) (h : ∀ a w', K a w' → K' a w') (hh : wpOp P ops Q i K a w) : wpOpIn F n P ops Q i K' a w := by
  unfold wpOp at hh
  unfold wpOpIn
  split
  · rename_i ho; simp only [ho] at hh; exact h _ _ hh
  · rename_i o ho
    simp only [ho] at hh
    split
    · rename_i hw
      simp only [hw, if_true] at hh
      rcases hh with hh | ⟨_, hh⟩
      · refine lift_op hF (fun c hc => ?_) (Oper.wp_mono h hh)
        have h1 := Array.all_eq_true.1 hd
        obtain ⟨hi, he⟩ := Array.getElem?_eq_some_iff.1 ho
        have h2 := h1 i hi
        rw [he] at h2
        simp [noDefer, hc] at h2
      · exact absurd hh hL
    · rename_i hw; simp only [hw] at hh; exact ⟨fun f _ => hF.fn f, h _ _ hh⟩
theorem wpAnyIn_of_any (hF : WideF F) (hd : ops.all noDefer = true) {Q : Exit → Act → World → Prop} (hL : ¬ LetsOut Q) : ∀ (fuel : Nat) (listed : Array Bool) (a : Act) (w : World), wpAny P md ops Q fuel listed a w → wpAnyIn F n P md ops Q fuel listed a w
  | 0, _, _, _, h => h
  | fuel + 1, _, _, _, h => ⟨h.1, fun i hi => wpOpIn_of_wpOp hF hd hL (fun a' w' h' => wpAnyIn_of_any hF hd hL fuel _ a' w' h') (h.2 i hi)⟩
/-- Only the normal way out. -/
def Only (R : Act → World → Prop) : Exit → Act → World → Prop
  | .normal, a, w => R a w
  | _, _, _ => False
theorem Only.imp {Q : Exit → Act → World → Prop} : ∀ (e : Exit) (a : Act) (w : World), Only (fun a w => Q .normal a w) e a w → Q e a w := fun e a w h => by
  cases e <;> first | exact h | exact (h : False).elim
theorem Only.normal {Q : Exit → Act → World → Prop} {a : Act} {w : World} (h : Q .normal a w) : Only (fun a w => Q .normal a w) .normal a w := h
theorem Only.out (R : Act → World → Prop) : ¬ LetsOut (Only R) := by rintro ⟨a, w, h⟩; exact h
theorem wpIn_region_held {S : World → Prop} {id : Nat} {Q : Exit → Act → World → Prop} {a : Act} {w : World} (hF : WideF F) (hm : P.follows .mixedOrders = true) (hd : ops.all noDefer = true) (hS : S w.drew)
    (h : S w.drew → wpAnyH P .any ops (Only (fun a w => Q .normal a w)) S ops.size (Array.replicate ops.size false) a w.drew) : (Code.region id ops true).wpIn F n P Q a w :=
  Code.wpIn_mono Only.imp (wpIn_region_any hm (wpAnyIn_of_any hF hd (Only.out _) _ _ _ _ (wpAny_of_held _ _ _ _ (h hS))))
end
theorem run_neN {dst : Option Tmp} {ty : TypeId} {pos : String} {aft : Array Edge} {gd : Option (Nat × Bool)} {a : Act} {w : World} (t' : TypeId) {x y : Operand} {x1 x2 y1 y2 : Nat} {q : Bool} (hx : a.eval x = .agg #[.int .i64 (x1 : Int), .int .i64 (x2 : Int)]) (hy : a.eval y = .agg #[.int .i64 (y1 : Int), .int .i64 (y2 : Int)]) (hq : (!decide (x1 = y1 ∧ x2 = y2)) = q) :
    (execOp a.eval ⟨dst, .binOp .neq 57 x y t', ty, pos, aft, gd⟩).run Tryd.prog w = .ok (.value (.bool q)) w := by
  subst hq
  unfold execOp
  simp only [hx, hy]
  by_cases h1 : x1 = y1
  · subst h1
    by_cases h2 : x2 = y2
    · subst h2
      go_simp
    · have h2' : ¬ (x2 : Int) = (y2 : Int) := by omega
      go_simp
  · have h1' : ¬ (x1 : Int) = (y1 : Int) := by omega
    go_simp

end Go.Proofs.YtnjkjickclkmhaaDoor

/-
  The law's stands.
-/
namespace Go.Proofs.YtnjkjickclkmhaaDoor
open Go.RowKit Go.Shelf
set_option linter.unusedVariables false
set_option linter.unusedSimpArgs false

theorem zBo : Zeroed 4 [.bool false] := fun _ _ _ _ _ _ _ => by kernel_rfl
theorem zIn : Zeroed 3 [.int .i64 0] := fun _ _ _ _ _ _ _ => by kernel_rfl
theorem zNo : Zeroed 62 [.slice none 0 0] := fun _ _ _ _ _ _ _ => by kernel_rfl
/-- What stands through the loop over a range. -/
structure SK (w W : World) (g3 g4 g5 g6 : Nat) (b e : Nat) (v u : Value) (B5 k : Nat) : Prop where
  c3 : Blk W g3 29 (rfC b e v)
  c4 : Blk W g4 4 [.bool false]
  c5 : Blk W g5 62 [u]
  c6 : Blk W g6 3 [.int .i64 (k : Int)]
  nown : NOwn W B5 u (parts b e)
  bel : Below w.heap.size w W
theorem SK.below {w W W' : World} {g3 g4 g5 g6 b e : Nat} {v u : Value} {B5 k : Nat} (h : SK w W g3 g4 g5 g6 b e v u B5 k) (hb : Below W.heap.size W W') : SK w W' g3 g4 g5 g6 b e v u B5 k :=
  ⟨h.c3.below hb h.c3.lt, h.c4.below hb h.c4.lt, h.c5.below hb h.c5.lt, h.c6.below hb h.c6.lt, h.nown.below hb, h.bel.trans (hb.mono h.bel.size)⟩

theorem NOwn.keptR {A B : World} {B0 : Nat} {v : Value} {ns : List (Nat × Nat)} {row : Option Nat} (h : NOwn A B0 v ns) (hg : A.grownBy B row) (hr : ∀ r, row = some r → ∃ o : Obj, A.heap[r]? = some o ∧ o.isCells = false) : NOwn B B0 v ns := by
  obtain ⟨h1, h2⟩ := h
  refine ⟨h1, ?_⟩
  rcases h2 with h2 | ⟨k, cap, cur, rfl, hk, hh, r⟩
  · exact .inl h2
  · refine .inr ⟨k, cap, cur, rfl, hk, ?_, r⟩
    rw [hg.block k (Array.getElem?_eq_some_iff.1 hh).1 (fun e => by
      obtain ⟨o, ho, hc⟩ := hr k e.symm
      rw [hh] at ho
      injection ho with ho
      subst ho
      cases hc)]
    exact hh
theorem SK.kept {w W W' : World} {g3 g4 g5 g6 b e : Nat} {v u : Value} {B5 k : Nat} {row : Option Nat} (h : SK w W g3 g4 g5 g6 b e v u B5 k) (hg : W.grownBy W' row) (hr : ∀ r, row = some r → w.heap.size ≤ r ∧ ∃ o : Obj, W.heap[r]? = some o ∧ o.isCells = false) : SK w W' g3 g4 g5 g6 b e v u B5 k :=
  have hr2 : ∀ r, row = some r → ∃ o : Obj, W.heap[r]? = some o ∧ o.isCells = false := fun r e => (hr r e).2
  ⟨h.c3.kept hg hr2, h.c4.kept hg hr2, h.c5.kept hg hr2, h.c6.kept hg hr2, h.nown.keptR hg hr2, h.bel.grown hg h.bel.size (fun r e => (hr r e).1)⟩
theorem SK.set {w W : World} {g3 g4 g5 g6 b e : Nat} {v u : Value} {B5 k : Nat} (h : SK w W g3 g4 g5 g6 b e v u B5 k) (k2 : Nat) (hg : w.heap.size ≤ g6) : SK w (W.setCell ⟨g6, 0, none⟩ (.int .i64 (k2 : Int))) g3 g4 g5 g6 b e v u B5 k2 := by
  have hb := But.setCell W g6 0 (.int .i64 (k2 : Int))
  exact ⟨h.c3.but hb (h.c3.apart h.c6 (by decide)), h.c4.but hb (h.c4.apart h.c6 (by decide)), h.c5.but hb (h.c5.apart h.c6 (by decide)), h.c6.set 0 _, h.nown.but hb (h.nown.apart h.c6 (by decide)), h.bel.trans (hb.below hg)⟩
theorem not_pre5 {pre : List Nat} {k x N : Nat} (hk : pre.length = k) (hlt : k < N) (h : x ≠ k) : ¬ (pre ++ [x]) <+: List.range N := by
  rintro ⟨r', hr'⟩
  apply h
  have e1 : (List.range N)[k]? = some x := by
    rw [← hr', List.append_assoc, List.getElem?_append_right (by omega), hk, Nat.sub_self]
    rfl
  rw [List.getElem?_range hlt] at e1
  injection e1 with e1
  exact e1.symm
theorem range_snoc5 {pre : List Nat} {k : Nat} (hp : pre = List.range pre.length) (hk : pre.length = k) : pre ++ [k] = List.range (k + 1) := by
  rw [List.range_succ]
  congr 1
  rw [← hk]
  exact hp
/-- No two parts are one node; nor is the one that is no part. -/
theorem node_ne {b e : Nat} {ps : List Pt} {x k : Nat} (hbe : b ≤ e) (hm : e ≤ 281474976710656) (hp : ps.map Prod.fst = parts b e) (hg : GoodL ps) (hk : k < ps.length) (hxk : x ≠ k) : (pG ps x).1 ≠ (pG ps k).1 := by
  have hlen : (parts b e).length = ps.length := by rw [← hp, List.length_map]
  have hat : ∀ i, i < ps.length → (parts b e)[i]? = some (pG ps i).1 := fun i hi => by
    rw [← hp, List.getElem?_map, List.getElem?_eq_getElem hi]
    unfold pG pAt
    rw [if_pos hi, List.getD, List.getElem?_eq_getElem hi]
    rfl
  intro h
  by_cases hx : x < ps.length
  · obtain ⟨q1, _, _⟩ := pbeg_at hbe (Nat.le_trans hm (by decide)) (hat x hx)
    obtain ⟨q2, _, _⟩ := pbeg_at hbe (Nat.le_trans hm (by decide)) (hat k hk)
    rw [h] at q1
    exact pbeg_ne (b := b) (e := e) hxk (by omega) (by omega) (q1.symm.trans q2)
  · have h1 : (pG ps x).1 = (49, 0) := by unfold pG; rw [if_neg hx]
    obtain ⟨_, q2, q3⟩ := pbeg_at hbe (Nat.le_trans hm (by decide)) (hat k hk)
    rw [← h, h1] at q2
    have h49 : (2 : Nat) ^ 49 = 562949953421312 := by decide
    simp only [h49] at q2
    omega
theorem dat_parts : ∀ (ps : List Pt), GoodL ps → ∀ k (h : k < ps.length), dat (ps.flatMap Prod.snd) k = (ps[k]).2
  | [], _, k, h => by simp at h
  | p :: r, hg, k, h => by
    have hp := (hg p (by simp)).len
    cases k with
    | zero =>
      show ((p.2 ++ r.flatMap Prod.snd).drop (32 * 0)).take 32 = p.2
      rw [Nat.mul_zero, List.drop_zero, List.take_append_of_le_length (by omega), List.take_of_length_le (by omega)]
    | succ k =>
      have ih := dat_parts r (fun q hq => hg q (by simp [hq])) k (by simpa using h)
      show ((p.2 ++ r.flatMap Prod.snd).drop (32 * (k + 1))).take 32 = _
      rw [show 32 * (k + 1) = p.2.length + 32 * k by omega, ← List.drop_drop, List.drop_left]
      exact ih
theorem dat_pG {ps : List Pt} (hg : GoodL ps) {k : Nat} (h : k < ps.length) : dat (ps.flatMap Prod.snd) k = (pG ps k).2 := by
  rw [dat_parts ps hg k h]
  unfold pG pAt
  rw [if_pos h, List.getD, List.getElem?_eq_getElem h]
  rfl
theorem inc98 {x n : Nat} (h : x < n) (hn : n ≤ 98) : wrap64 ((x : Int) + 1) = ((x + 1 : Nat) : Int) ∧ IntKind.i64.wrap ((x : Int) + 1) = ((x + 1 : Nat) : Int) := by
  refine ⟨?_, ?_⟩
  · unfold wrap64; omega
  · rw [IntKind.wrap_i64]; omega
theorem ge_false {x n : Nat} (h : x < n) : ¬ ((x : Int) ≥ (n : Int)) := by omega
set_option maxRecDepth 100000 in
theorem wp_toStr5 {dst : Option Tmp} {ty : TypeId} {pos : String} {aft : Array Edge} {gd : Option (Nat × Bool)} {a : Act} {w : World} {K : Act → World → Prop} {Q : Exit → Act → World → Prop} {x : Operand} {sa : Option Addr} {m c : Nat} {ys : List Int} (hx : a.eval x = .slice sa m c) (hy : Sl w sa m c ys) (h : K (a.put dst (.string (str ys))) w) :
    Oper.wp Tryd.prog ⟨dst, .convert 45 9 x, ty, pos, aft, gd⟩ a w K Q :=
  wp_runV (.string (str ys)) w (by simp [execOp, hx, toStr hy, Result.andThen]) h
theorem rgB_len5 {w : World} {B b e : Nat} {v : Value} {ps : List Pt} (h : Rf5 w B b e v ps) : (rgB b e ps).length = 16 + 32 * ps.length := by
  unfold rgB
  rw [List.length_append, List.length_append, be_length, be_length, h.own.len]
  omega
theorem rgB_isB5 {ps : List Pt} (h : GoodL ps) (b e : Nat) : isB (rgB b e ps) := (be_isB _ _).append ((be_isB _ _).append (goodL_isB h))
theorem root5_both (B g b e : Nat) (v : Value) (ps : List Pt) (B' : Nat) (v' : Value) (w : World) (hr : Rg w B g b e v ps) (hf : Rf5 w B' b e v' ps) (hk : KT w) : ∃ (RD : List Int) (RE : Int), RD.length = 32 ∧
    (∀ V : World, Below w.heap.size w V → Calls Tryd.prog 26 #[.pointer (some ⟨g, 0, none⟩)] V fun r w' => r = .returned (.tuple #[.agg (u8s RD).toArray, .int .i64 RE]) ∧ Below V.heap.size V w') ∧
    (∀ V : World, Below w.heap.size w V → Calls Tryd.prog 27 #[.agg (rfC b e v').toArray] V fun r w' => r = .returned (.tuple #[.agg (u8s RD).toArray, .int .i64 RE]) ∧ Below V.heap.size V w') := by
  by_cases hb : b = 0
  · subst hb
    exact ⟨rf ps, 0, (rf_good hr.good).1, fun V hV => rroot_any B g e v ps V (hr.below hV) (hk.below hV hk.lt), fun V hV => refRoot_any B' e v' ps V (hf.below hV)⟩
  · obtain ⟨fa, fc, rfl⟩ := hf.slice
    exact ⟨zer 32, 40, zer_length 32, fun V hV => rroot_off B g b e v ps V (hr.below hV) hb, fun V hV => refRoot_off b e fa _ fc V hb⟩
set_option maxRecDepth 100000 in
set_option maxHeartbeats 1000000 in
theorem stands_any (B g b e : Nat) (v : Value) (ps : List Pt) (B' : Nat) (v' : Value) (w : World) (hr : Rg w B g b e v ps) (hf : Rf5 w B' b e v' ps) (hk : KT w) :
    Calls Tryd.prog 11 #[.pointer (some ⟨g, 0, none⟩), .agg (rfC b e v').toArray] w fun r w' => r = .returned (.bool true) ∧ Below w.heap.size w w' := by
  have HR := hide hr
  have HF := hide hf
  have HK := hide hk
  obtain ⟨fa, fc, rfl⟩ := hf.slice
  have hle := hr.le
  have hmx := hr.max
  have HN := hide (show ps.length = (parts b e).length by rw [← hr.nodes, List.length_map])
  have h98 := hr.count
  have HFD : Hid (Ds w fa ps.length fc (ps.flatMap Prod.snd)) := hide (by
    obtain ⟨a9, c9, h9, hd9, _⟩ := hf.own.ds (goodL_isB hf.good) (by omega)
    cases h9
    exact hd9)
  obtain ⟨RD, RE, hRD, hRP, hRR⟩ := root5_both B g b e v ps B' (.slice fa ps.length fc) w hr hf hk
  have HRD := hide hRD
  have HRU := hide (show (u8s RD).length = 32 by rw [u8s_length, hRD])
  have HRP := hide hRP
  have HRR := hide hRR
  obtain ⟨BB, hBB⟩ : ∃ BB, rgB b e ps = BB := ⟨_, rfl⟩
  have HBB := hide hBB
  have HBL := hide (show BB.length = 16 + 32 * ps.length by rw [← hBB]; exact rgB_len5 hf)
  have HBI := hide (show isB BB by rw [← hBB]; exact rgB_isB5 hf.good b e)
  obtain ⟨m, hmB⟩ : ∃ m, BB.length = m := ⟨_, rfl⟩
  have HMB := hide hmB
  have hm9 : m ≤ 4000 := by have := HBL.out; omega
  have HBP : Hid (∀ V : World, Below w.heap.size w V → Calls Tryd.prog 28 #[.pointer (some ⟨g, 0, none⟩)] V fun r w' => ∃ gb, r = .returned (.slice (some ⟨gb, 0, none⟩) m m) ∧ Blk w' gb 5 (u8s BB) ∧ V.heap.size ≤ gb ∧ Below V.heap.size V w') := hide fun V hV => by
    have h9 := rbytes_any B g b e v ps V (hr.below hV)
    rwa [hBB, hmB] at h9
  have HBR : Hid (∀ V : World, Below w.heap.size w V → Calls Tryd.prog 29 #[.agg (rfC b e (.slice fa ps.length fc)).toArray] V fun r w' => ∃ v', r = .returned v' ∧ Own w' V.heap.size v' BB ∧ Below V.heap.size V w') := hide fun V hV => by
    have h9 := refBytes_ok B' b e fa _ fc ps V (hf.below hV) rfl
    rwa [hBB] at h9
  clear hRD hRP hRR hBB hmB
  clear hr hf hk
  refine (callsIn_wide (n := 3)).1 ?_
  refine callsIn_of_wp_marks Tryd.func11 rfl trivial ?_ rfl
  refine wpIn_wide.2 ?_
  simp only [Tryd.ntmps11, List.size_toArray, List.length_cons, List.length_nil, Nat.reduceAdd, Nat.reduceSub, Array.replicate_succ, Array.replicate_zero, List.push_toArray, List.append_toArray, List.nil_append, List.cons_append]
  go_wp2_with (refine step_box (cs := rfC b e (.slice fa ps.length fc)) rfl rfl ?_)
  intro w1 g3 hr1 hl1 hb1
  have G3 := hide hr1
  have B1 := hide hb1
  clear hr1 hb1
  go_wp2_with (refine step_alloc zBo rfl ?_)
  intro w2 g4 hr2 hl2 hb2
  have G4 := hide hr2
  have G32 := hide (G3.out.below hb2 G3.out.lt)
  have B2 := hide (B1.out.trans (hb2.mono B1.out.size))
  have c0 : w2.cell? ⟨g3, 0, none⟩ = some (.int .i64 (b : Int)) := by rw [G32.out.cell]; rfl
  have c1 : w2.cell? ⟨g3, 1, none⟩ = some (.int .i64 (e : Int)) := by rw [G32.out.cell]; rfl
  have hw4 : w.heap.size ≤ g4 := Nat.le_trans B1.out.size hl2
  clear hr2 hb2 G3 B1
  go_wp2_with fail
  refine (partsR_any b e _ hle hmx).mono ?_
  rintro r w3 ⟨u, rfl, hn3, hb3⟩
  obtain ⟨ua, uc, rfl⟩ : ∃ ua uc, u = .slice ua ps.length uc := by
    rw [HN.out]
    rcases hn3.lies with ⟨rfl, h0⟩ | ⟨_, _, _, rfl, _⟩
    · exact ⟨none, 0, by rw [h0]; rfl⟩
    · exact ⟨_, _, rfl⟩
  have N3 := hide hn3
  have G33 := hide (G32.out.below hb3 G32.out.lt)
  have G43 := hide (G4.out.below hb3 G4.out.lt)
  have B3 := hide (B2.out.trans (hb3.mono B2.out.size))
  clear hn3 hb3 G32 G4 B2 c0 c1
  go_wp2_with (refine step_alloc zNo rfl ?_)
  intro w4 g5 hr4 hl4 hb4
  have G5 := hide hr4
  have X4 := hide hb4
  have hc5 : w4.cell? ⟨g5, 0, none⟩ = some (.slice none 0 0) := by rw [hr4.cell]; rfl
  have hf5 := hr4.free 0
  clear hr4 hb4
  go_wp2_with fail
  have hbut5 := But.setCell w4 g5 0 (.slice ua ps.length uc)
  have K5 : Hid (Blk (w4.setCell ⟨g5, 0, none⟩ (.slice ua ps.length uc)) g5 62 [.slice ua ps.length uc]) := hide (G5.out.set 0 _)
  have X5 := hide (X4.out.trans (hbut5.below hl4))
  clear hbut5 hc5 hf5 G5 X4
  revert K5 X5
  generalize w4.setCell ⟨g5, 0, none⟩ (.slice ua ps.length uc) = z
  intro K5 X5
  have K3 := hide (G33.out.below X5.out G33.out.lt)
  have K4 := hide (G43.out.below X5.out G43.out.lt)
  have NZ := hide (N3.out.below X5.out)
  have BZ := hide (B3.out.trans (X5.out.mono B3.out.size))
  have h35 : g3 ≠ g5 := by have := G33.out.lt; omega
  clear X5 G33 G43 N3 B3
  have hS3 : ∀ V : World, Below z.heap.size z V → V.cell? ⟨g3, 0, none⟩ = some (.int .i64 (b : Int)) ∧ V.cell? ⟨g3, 1, none⟩ = some (.int .i64 (e : Int)) ∧ V.cell? ⟨g5, 0, none⟩ = some (.slice ua ps.length uc) := fun V hV => ⟨by rw [(K3.out.below hV K3.out.lt).cell]; rfl, by rw [(K3.out.below hV K3.out.lt).cell]; rfl, by rw [(K5.out.below hV K5.out.lt).cell]; rfl⟩
  refine wp_region_noPanic ?_
  refine wp_region_held_drew (S := fun V : World => Below z.heap.size z V) (by kernel_rfl) ((Below.refl _ _).drew) (fun hHeld => ?_)
  have Y0 := hide (show Below z.heap.size z z.drew from (Below.refl _ _).drew)
  refine takeH 0 21 (.pointer (some ⟨g, 0, none⟩)) hHeld rfl rfl (by kernel_rfl) (by kernel_rfl) (by kernel_rfl) (fun _ _ _ h => h) (Or.inl ⟨by rfl, fun w _ => by go_simp⟩) ?_
  simp only [Act.put, List.setIfInBounds_toArray, List.set_cons_zero, List.set_cons_succ]
  refine takeH 2 23 (.pointer (some ⟨g3, 0, none⟩)) hHeld rfl rfl (by kernel_rfl) (by kernel_rfl) (by kernel_rfl) (fun _ _ _ h => h) (Or.inl ⟨by rfl, fun w _ => by go_simp⟩) ?_
  simp only [Act.put, List.setIfInBounds_toArray, List.set_cons_zero, List.set_cons_succ]
  refine takeH 3 24 (.int .i64 (b : Int)) hHeld rfl rfl (by kernel_rfl) (by kernel_rfl) (by kernel_rfl) (fun _ _ _ h => h) (Or.inl ⟨by rfl, fun w hw => by have hw' : w.cell? ⟨g3, 0, none⟩ = some (.int .i64 (b : Int)) := (fun h => (hS3 _ h).1) hw; go_simp⟩) ?_
  simp only [Act.put, List.setIfInBounds_toArray, List.set_cons_zero, List.set_cons_succ]
  refine takeH 4 25 (.pointer (some ⟨g3, 1, none⟩)) hHeld rfl rfl (by kernel_rfl) (by kernel_rfl) (by kernel_rfl) (fun _ _ _ h => h) (Or.inl ⟨by rfl, fun w _ => by go_simp⟩) ?_
  simp only [Act.put, List.setIfInBounds_toArray, List.set_cons_zero, List.set_cons_succ]
  refine takeH 5 26 (.int .i64 (e : Int)) hHeld rfl rfl (by kernel_rfl) (by kernel_rfl) (by kernel_rfl) (fun _ _ _ h => h) (Or.inl ⟨by rfl, fun w hw => by have hw' : w.cell? ⟨g3, 1, none⟩ = some (.int .i64 (e : Int)) := (fun h => (hS3 _ h).2.1) hw; go_simp⟩) ?_
  simp only [Act.put, List.setIfInBounds_toArray, List.set_cons_zero, List.set_cons_succ]
  refine takeH 6 27 (.agg #[.int .i64 (b : Int), .int .i64 (e : Int)]) hHeld rfl rfl (by kernel_rfl) (by kernel_rfl) (by kernel_rfl) (fun _ _ _ h => h) (Or.inl ⟨by rfl, fun w _ => by go_simp⟩) ?_
  simp only [Act.put, List.setIfInBounds_toArray, List.set_cons_zero, List.set_cons_succ]
  refine wpAnyH_ready (rs := [1]) (by kernel_rfl) (by simp) (AllReadyH.cons rfl (fun K hK => ?_) AllReadyH.nil)
  rw [if_pos (by rfl)]
  go_simp
  refine (rspan_made B g b e v ps _ (HR.out.below (BZ.out.trans (Y0.out.mono BZ.out.size)))).mono ?_
  rintro r V1 ⟨rfl, hV1⟩
  have Y1 := hide (Y0.out.trans (hV1.mono Y0.out.size))
  refine hK.out _ _ (Y1.out) (fun hHeld => ?_)
  clear hK K
  refine takeH 7 28 (.bool false) hHeld rfl rfl (by kernel_rfl) (by kernel_rfl) (by kernel_rfl) (fun _ _ _ h => h) (Or.inl ⟨by rfl, fun w _ => by go_simp⟩) ?_
  simp only [Act.put, List.setIfInBounds_toArray, List.set_cons_zero, List.set_cons_succ]
  refine takeH 8 29 (.bool false) hHeld rfl rfl (by kernel_rfl) (by kernel_rfl) (by kernel_rfl) (fun _ _ _ h => h) (Or.inl ⟨by rfl, fun w _ => by go_simp⟩) ?_
  simp only [Act.put, List.setIfInBounds_toArray, List.set_cons_zero, List.set_cons_succ]
  refine takeH 9 30 (.pointer (some ⟨g, 0, none⟩)) hHeld rfl rfl (by kernel_rfl) (by kernel_rfl) (by kernel_rfl) (fun _ _ _ h => h) (Or.inl ⟨by rfl, fun w _ => by go_simp⟩) ?_
  simp only [Act.put, List.setIfInBounds_toArray, List.set_cons_zero, List.set_cons_succ]
  refine takeH 11 32 (.slice ua ps.length uc) hHeld rfl rfl (by kernel_rfl) (by kernel_rfl) (by kernel_rfl) (fun _ _ _ h => h) (Or.inl ⟨by rfl, fun w hw => by have hw' : w.cell? ⟨g5, 0, none⟩ = some (.slice ua ps.length uc) := (fun h => (hS3 _ h).2.2) hw; go_simp⟩) ?_
  simp only [Act.put, List.setIfInBounds_toArray, List.set_cons_zero, List.set_cons_succ]
  refine takeH 12 33 (.int .i64 (ps.length : Int)) hHeld rfl rfl (by kernel_rfl) (by kernel_rfl) (by kernel_rfl) (fun _ _ _ h => h) (Or.inl ⟨by rfl, fun w _ => by go_simp⟩) ?_
  simp only [Act.put, List.setIfInBounds_toArray, List.set_cons_zero, List.set_cons_succ]
  refine wpAnyH_ready (rs := [10]) (by kernel_rfl) (by simp) (AllReadyH.cons rfl (fun K hK => ?_) AllReadyH.nil)
  rw [if_pos (by rfl)]
  go_simp
  refine (rlen_made B g b e v ps _ (HR.out.below (BZ.out.trans (Y1.out.mono BZ.out.size)))).mono ?_
  rintro r V2 ⟨rfl, rfl⟩
  refine hK.out _ _ (Y1.out) (fun hHeld => ?_)
  clear hK K
  refine takeH 13 34 (.bool false) hHeld rfl rfl (by kernel_rfl) (by kernel_rfl) (by kernel_rfl) (fun _ _ _ h => h) (Or.inl ⟨by rfl, fun w _ => by go_simp⟩) ?_
  simp only [Act.put, List.setIfInBounds_toArray, List.set_cons_zero, List.set_cons_succ]
  refine takeH 14 35 (.bool false) hHeld rfl rfl (by kernel_rfl) (by kernel_rfl) (by kernel_rfl) (fun _ _ _ h => h) (Or.inl ⟨by rfl, fun w _ => by go_simp⟩) ?_
  simp only [Act.put, List.setIfInBounds_toArray, List.set_cons_zero, List.set_cons_succ]
  refine wpAnyH_done (by kernel_rfl) ?_ _
  refine NoPanic.normal ?_
  clear hHeld
  have Q3 := hide (K3.out.below Y1.out K3.out.lt)
  have Q4 := hide (K4.out.below Y1.out K4.out.lt)
  have Q5 := hide (K5.out.below Y1.out K5.out.lt)
  have NQ := hide (NZ.out.below Y1.out)
  have BQ := hide (BZ.out.trans (Y1.out.mono BZ.out.size))
  clear hS3 K3 K4 K5 NZ BZ Y0 Y1 hV1
  go_wp2_with (refine step_alloc zIn rfl ?_)
  intro w6 g6 hr6 hl6 hb6
  have c60 : w6.cell? ⟨g6, 0, none⟩ = some (.int .i64 0) := by rw [hr6.cell]; rfl
  have f60 := hr6.free 0
  have G6 := hide hr6
  have X6 := hide hb6
  clear hr6 hb6
  go_wp2_with fail
  have hbut6 := But.setCell w6 g6 0 (.int .i64 0)
  have G66 : Hid (Blk (w6.setCell ⟨g6, 0, none⟩ (.int .i64 0)) g6 3 [.int .i64 ((0 : Nat) : Int)]) := hide (G6.out.set 0 _)
  have X66 := hide (X6.out.trans (hbut6.below hl6))
  clear hbut6 c60 f60 G6 X6
  revert G66 X66
  generalize w6.setCell ⟨g6, 0, none⟩ (.int .i64 0) = z6
  intro G66 X66
  have S6 : Hid (SK w z6 g3 g4 g5 g6 b e (.slice fa ps.length fc) (.slice ua ps.length uc) w2.heap.size 0) := hide ⟨Q3.out.below X66.out Q3.out.lt, Q4.out.below X66.out Q4.out.lt, Q5.out.below X66.out Q5.out.lt, G66.out, NQ.out.below X66.out, BQ.out.trans (X66.out.mono BQ.out.size)⟩
  have hw6 : w.heap.size ≤ g6 := Nat.le_trans BQ.out.size hl6
  have h36 : g3 ≠ g6 := by have := Q3.out.lt; omega
  have h46 : g4 ≠ g6 := by have := Q4.out.lt; omega
  have h56 : g5 ≠ g6 := by have := Q5.out.lt; omega
  clear Q3 Q4 Q5 NQ BQ G66 X66
  refine (all_any _ _).mono ?_
  rintro r W5 ⟨rfl, rfl⟩
  have hbA : Below z6.heap.size z6 (z6.alloc (.cells #[.pointer (some ⟨g, 0, none⟩)] 23)) := (Below.refl _ _).alloc (Nat.le_refl _) _
  have T1 := hide (S6.out.below hbA)
  clear S6
  revert T1 hbA
  generalize z6.alloc (.cells #[.pointer (some ⟨g, 0, none⟩)] 23) = W4
  generalize z6.heap.size = bx0
  intro hbA T1
  have heq : ∀ v : World, (binOp BinOp.eql 68 (.func (.func 39) #[] #[.pointer (some ⟨bx0, 0, none⟩)]) .nilFunc).run Tryd.prog v = .ok (.bool false) v := fun v => by kernel_rfl
  go_wp2_with fail
  refine (all_any _ _).mono ?_
  rintro r W5 ⟨rfl, rfl⟩
  have hbB : Below W4.heap.size W4 (W4.alloc (.cells #[.pointer (some ⟨g, 0, none⟩)] 23)) := (Below.refl _ _).alloc (Nat.le_refl _) _
  have BX : Blk (W4.alloc (.cells #[.pointer (some ⟨g, 0, none⟩)] 23)) W4.heap.size 23 [.pointer (some ⟨g, 0, none⟩)] := Blk.made _ _ _
  have T2 := hide (T1.out.below hbB)
  clear T1 hbA heq
  revert T2 hbB BX
  generalize W4.alloc (.cells #[.pointer (some ⟨g, 0, none⟩)] 23) = W5
  generalize W4.heap.size = bx
  intro hbB BX T2
  have hws := T2.out.bel.size
  have hga5 : g6 < W5.heap.size := T2.out.c6.lt
  have HR5 := hide (HR.out.below T2.out.bel)
  clear hbB
  go_wp2_with fail
  refine (wpIn_wide (n := 3)).1 ?_
  refine range2 rfl (by decide) (gf := 39) (lb := #[.pointer (some ⟨bx, 0, none⟩)]) rfl trivial (enters_of Tryd.func39 (by kernel_rfl) rfl)
    (all_stops _ g b e v ps bx W5.heap.size W5 BX.lt (Nat.le_refl _) (by rw [BX.cell]; rfl) HR5.out _ (Mine.one hga5) (Fresh.one hga5)) KM.trans (KM.book (Mine.one hga5) (Nat.le_refl _)) (fun A B h hb => km_below (Mine.one hga5) h hb) (fun _ => rfl)
    (fun pre W => (pre = List.range pre.length ∧ pre.length ≤ ps.length) ∧ SK w W g3 g4 g5 g6 b e (.slice fa ps.length fc) (.slice ua ps.length uc) w2.heap.size pre.length ∧ W5.heap.size ≤ W.heap.size)
    (fun c pre _ => c = .ret ∧ ¬ pre <+: List.range ps.length)
    (fun _ A B row h hg hr => ⟨h.1, h.2.1.kept hg (fun r e => ⟨by have := (hr r e).1; omega, (hr r e).2⟩), Nat.le_trans h.2.2 hg.size⟩)
    (fun _ _ h => h.2.2) (fun c _ A B row h hg hr => h)
    ⟨⟨rfl, Nat.zero_le _⟩, T2.out, Nat.le_refl _⟩ 57 34 (fun x => nC (pG ps x).1) (fun x => u8s (pG ps x).2) ?act ?assign ?body ?done ?stop
  case assign =>
    rintro l x W K hK
    have hsem := Oper.semAt_some
    have HLx := hide (show (u8s (pG ps x).2).length = 32 by rw [u8s_length, (pG_good HR.out.good x).len])
    gi_wp2_with (refine istep_alloc (.round l) zNd rfl ?_)
    intro V1 g9 hg9 hle9 hb9
    gi_wp2_with (refine istep_storeA (.round l) wNd rfl rfl rfl hg9 rfl (One.nC _) rfl ?_)
    intro V2 hg92 hbut9
    gi_wp2_with (refine istep_alloc (.round l) zD rfl ?_)
    intro V3 g10 hg10 hle10 hb10
    gi_wp2_with (refine istep_storeA (.round l) wD rfl rfl rfl hg10 HLx.out (One.u8 _) rfl ?_)
    intro V4 hg104 hbut10
    have hb92 : Below W.heap.size W V2 := hb9.trans (hbut9.below hle9)
    have hb104 : Below V2.heap.size V2 V4 := hb10.trans (hbut10.below hle10)
    have hK2 := hK g9 g10 V4 (hb92.trans (hb104.mono hb92.size)) (hg92.below hb104 hg92.lt) hg104
    clear hK
    gi_wp2
    exact hK2
  case stop =>
    rintro D c pre W hD hSp ⟨rfl, hn⟩ hK
    exact absurd hSp hn
  case body =>
    rintro l pre x g9 g10 W ⟨⟨hp, hpl⟩, hT, hsz⟩ hg9 hg10 hlt
    have hsem := Oper.semAt_some
    have HP := hide hp
    obtain ⟨k, HPL⟩ : ∃ k, Hid (pre.length = k) := ⟨_, hide rfl⟩
    rw [HPL.out] at hT hlt hpl
    have T := hide hT
    have G9 := hide hg9
    have G10 := hide hg10
    clear hp hT hg9 hg10
    obtain ⟨fb, fo5, rfl⟩ := HFD.out.place (by omega)
    obtain ⟨ub, rfl⟩ : ∃ ub, ua = some ⟨ub, 0, none⟩ := by
      rcases T.out.nown.lies with ⟨h1, _⟩ | ⟨g9', _, _, h1, _⟩
      · injection h1 with _ h2 _; omega
      · injection h1 with h2 _ _; exact ⟨g9', h2⟩
    have hc6 : ∀ V : World, Below W.heap.size W V → V.cell? ⟨g6, 0, none⟩ = some (.int .i64 (k : Int)) := fun V hV => by rw [(T.out.below hV).c6.cell]; rfl
    have hc5 : ∀ V : World, Below W.heap.size W V → V.cell? ⟨g5, 0, none⟩ = some (.slice (some ⟨ub, 0, none⟩) ps.length uc) := fun V hV => by rw [(T.out.below hV).c5.cell]; rfl
    have hc3 : ∀ V : World, Below W.heap.size W V → V.cell? ⟨g3, 2, none⟩ = some (.slice (some ⟨fb, fo5, none⟩) ps.length fc) := fun V hV => by rw [(T.out.below hV).c3.cell]; rfl
    have hatk : (parts b e)[k]? = some (pG ps k).1 := by
      rw [← HR.out.nodes, List.getElem?_map, List.getElem?_eq_getElem hlt]
      unfold pG pAt
      rw [if_pos hlt, List.getD, List.getElem?_eq_getElem hlt]
      rfl
    have hnu : ∀ V : World, Below W.heap.size W V → V.rangeAt ub (k * 2) (nC (pG ps k).1) := fun V hV => (T.out.below hV).nown.range k _ hatk
    have hn9 : ∀ V : World, Below W.heap.size W V → V.rangeAt g9 0 (nC (pG ps x).1) := fun V hV => (G9.out.below hV G9.out.lt).range 0 _ (by simp)
    have hd9 : ∀ V : World, Below W.heap.size W V → V.rangeAt g10 0 (u8s (pG ps x).2) := fun V hV => (G10.out.below hV G10.out.lt).range 0 _ (by simp)
    have hdu : ∀ V : World, Below W.heap.size W V → V.rangeAt fb (fo5 + 32 * k) (u8s (pG ps k).2) := fun V hV => by
      have := (HFD.out.below (T.out.bel.trans (hV.mono T.out.bel.size))).range k hlt
      rwa [dat_pG HR.out.good hlt] at this
    have HDX := hide (pG_good HR.out.good x).len
    have HDK := hide (pG_good HR.out.good k).len
    have HIX : Hid ((Tryd.prog.info? 34).map (·.size) = some (u8s (pG ps x).2).length) := hide (by rw [wD.size, u8s_length, HDX.out])
    have HIK : Hid ((Tryd.prog.info? 34).map (·.size) = some (u8s (pG ps k).2).length) := hide (by rw [wD.size, u8s_length, HDK.out])
    have HIN : Hid ((Tryd.prog.info? 57).map (·.size) = some 2) := hide wNd.size
    have huD := aD.und
    obtain ⟨dN, huN, hdN⟩ := wNd.und
    clear hatk
    by_cases hxk : x = k
    · subst hxk
      generalize hpx : pG ps x = p at *
      clear hpx
      obtain ⟨⟨y1, y2⟩, dk⟩ := p
      simp only at hnu hn9 hd9 hdu HDX HDK HIX HIK
      have hlt' := ge_false hlt
      gi_wp2_with fail
      refine wpIn_region_held (S := fun V : World => Below W.heap.size W V) (.round l) (by kernel_rfl) (by kernel_rfl) ((Below.refl _ _).drew) (fun hHeld => ?_)
      refine takeH 0 43 (.int .i64 (x : Int)) hHeld rfl rfl (by kernel_rfl) (by kernel_rfl) (by kernel_rfl) (fun _ _ _ h => h) (Or.inl ⟨by rfl, fun w hw => by have hw' : w.cell? ⟨g6, 0, none⟩ = some (.int .i64 (x : Int)) := (fun h => hc6 _ h) hw; go_simp⟩) ?_
      simp only [Act.put, List.setIfInBounds_toArray, List.set_cons_zero, List.set_cons_succ]
      refine takeH 1 44 (.slice (some ⟨ub, 0, none⟩) ps.length uc) hHeld rfl rfl (by kernel_rfl) (by kernel_rfl) (by kernel_rfl) (fun _ _ _ h => h) (Or.inl ⟨by rfl, fun w hw => by have hw' : w.cell? ⟨g5, 0, none⟩ = some (.slice (some ⟨ub, 0, none⟩) ps.length uc) := (fun h => hc5 _ h) hw; go_simp⟩) ?_
      simp only [Act.put, List.setIfInBounds_toArray, List.set_cons_zero, List.set_cons_succ]
      refine takeH 2 45 (.int .i64 (ps.length : Int)) hHeld rfl rfl (by kernel_rfl) (by kernel_rfl) (by kernel_rfl) (fun _ _ _ h => h) (Or.inl ⟨by rfl, fun w _ => by go_simp⟩) ?_
      simp only [Act.put, List.setIfInBounds_toArray, List.set_cons_zero, List.set_cons_succ]
      refine takeH 3 46 (.bool false) hHeld rfl rfl (by kernel_rfl) (by kernel_rfl) (by kernel_rfl) (fun _ _ _ h => h) (Or.inl ⟨by rfl, fun w _ => by go_simp⟩) ?_
      simp only [Act.put, List.setIfInBounds_toArray, List.set_cons_zero, List.set_cons_succ]
      refine takeH 4 47 (.bool false) hHeld rfl rfl (by kernel_rfl) (by kernel_rfl) (by kernel_rfl) (fun _ _ _ h => h) (Or.inl ⟨by rfl, fun w _ => by go_simp⟩) ?_
      simp only [Act.put, List.setIfInBounds_toArray, List.set_cons_zero, List.set_cons_succ]
      refine takeH 5 48 (.agg (nC (y1, y2)).toArray) hHeld rfl rfl (by kernel_rfl) (by kernel_rfl) (by kernel_rfl) (fun _ _ _ h => h) (yieldsIf_load_mid (by rfl) _ _ rfl g9 0 rfl _ _ (fun w h => hn9 _ h) huN hdN HIN.out) ?_
      simp only [Act.put, List.setIfInBounds_toArray, List.set_cons_zero, List.set_cons_succ]
      refine takeH 6 49 (.slice (some ⟨ub, 0, none⟩) ps.length uc) hHeld rfl rfl (by kernel_rfl) (by kernel_rfl) (by kernel_rfl) (fun _ _ _ h => h) (Or.inl ⟨by rfl, fun w hw => by have hw' : w.cell? ⟨g5, 0, none⟩ = some (.slice (some ⟨ub, 0, none⟩) ps.length uc) := (fun h => hc5 _ h) hw; go_simp⟩) ?_
      simp only [Act.put, List.setIfInBounds_toArray, List.set_cons_zero, List.set_cons_succ]
      refine takeH 7 50 (.int .i64 (x : Int)) hHeld rfl rfl (by kernel_rfl) (by kernel_rfl) (by kernel_rfl) (fun _ _ _ h => h) (Or.inl ⟨by rfl, fun w hw => by have hw' : w.cell? ⟨g6, 0, none⟩ = some (.int .i64 (x : Int)) := (fun h => hc6 _ h) hw; go_simp⟩) ?_
      simp only [Act.put, List.setIfInBounds_toArray, List.set_cons_zero, List.set_cons_succ]
      refine takeH 8 51 (.pointer (some ⟨ub, x * 2, none⟩)) hHeld rfl rfl (by kernel_rfl) (by kernel_rfl) (by kernel_rfl) (fun _ _ _ h => h) (Or.inl ⟨by rfl, fun w _ => run_op rfl ((n_at ub ps.length uc x (x : Int) rfl hlt) w)⟩) ?_
      simp only [Act.put, List.setIfInBounds_toArray, List.set_cons_zero, List.set_cons_succ]
      refine takeH 9 52 (.agg (nC (y1, y2)).toArray) hHeld rfl rfl (by kernel_rfl) (by kernel_rfl) (by kernel_rfl) (fun _ _ _ h => h) (yieldsIf_load_mid (by rfl) _ _ rfl ub (x * 2) rfl _ _ (fun w h => hnu _ h) huN hdN HIN.out) ?_
      simp only [Act.put, List.setIfInBounds_toArray, List.set_cons_zero, List.set_cons_succ]
      refine takeH 10 53 (.bool false) hHeld rfl rfl (by kernel_rfl) (by kernel_rfl) (by kernel_rfl) (fun _ _ _ h => h) (Or.inl ⟨by rfl, fun v _ => run_neN (x1 := y1) (x2 := y2) (y1 := y1) (y2 := y2) _ rfl rfl (by simp)⟩) ?_
      simp only [Act.put, List.setIfInBounds_toArray, List.set_cons_zero, List.set_cons_succ]
      refine takeH 11 54 (.bool false) hHeld rfl rfl (by kernel_rfl) (by kernel_rfl) (by kernel_rfl) (fun _ _ _ h => h) (Or.inl ⟨by rfl, fun w _ => by go_simp⟩) ?_
      simp only [Act.put, List.setIfInBounds_toArray, List.set_cons_zero, List.set_cons_succ]
      refine takeH 12 55 (.bool false) hHeld rfl rfl (by kernel_rfl) (by kernel_rfl) (by kernel_rfl) (fun _ _ _ h => h) (Or.inl ⟨by rfl, fun w _ => by go_simp⟩) ?_
      simp only [Act.put, List.setIfInBounds_toArray, List.set_cons_zero, List.set_cons_succ]
      refine takeH 13 56 (.agg (u8s dk).toArray) hHeld rfl rfl (by kernel_rfl) (by kernel_rfl) (by kernel_rfl) (fun _ _ _ h => h) (yieldsIf_load_mid (by rfl) _ _ rfl g10 0 rfl _ _ (fun w h => hd9 _ h) huD rfl HIX.out) ?_
      simp only [Act.put, List.setIfInBounds_toArray, List.set_cons_zero, List.set_cons_succ]
      refine takeH 14 57 (.pointer (some ⟨g3, 2, none⟩)) hHeld rfl rfl (by kernel_rfl) (by kernel_rfl) (by kernel_rfl) (fun _ _ _ h => h) (Or.inl ⟨by rfl, fun w _ => by go_simp⟩) ?_
      simp only [Act.put, List.setIfInBounds_toArray, List.set_cons_zero, List.set_cons_succ]
      refine takeH 15 58 (.slice (some ⟨fb, fo5, none⟩) ps.length fc) hHeld rfl rfl (by kernel_rfl) (by kernel_rfl) (by kernel_rfl) (fun _ _ _ h => h) (Or.inl ⟨by rfl, fun w hw => by have hw' : w.cell? ⟨g3, 2, none⟩ = some (.slice (some ⟨fb, fo5, none⟩) ps.length fc) := (fun h => hc3 _ h) hw; go_simp⟩) ?_
      simp only [Act.put, List.setIfInBounds_toArray, List.set_cons_zero, List.set_cons_succ]
      refine takeH 16 59 (.int .i64 (x : Int)) hHeld rfl rfl (by kernel_rfl) (by kernel_rfl) (by kernel_rfl) (fun _ _ _ h => h) (Or.inl ⟨by rfl, fun w hw => by have hw' : w.cell? ⟨g6, 0, none⟩ = some (.int .i64 (x : Int)) := (fun h => hc6 _ h) hw; go_simp⟩) ?_
      simp only [Act.put, List.setIfInBounds_toArray, List.set_cons_zero, List.set_cons_succ]
      refine takeH 17 60 (.pointer (some ⟨fb, fo5 + 32 * x, none⟩)) hHeld rfl rfl (by kernel_rfl) (by kernel_rfl) (by kernel_rfl) (fun _ _ _ h => h) (Or.inl ⟨by rfl, fun w _ => run_op rfl ((d_at fb fo5 ps.length fc x (x : Int) rfl hlt) w)⟩) ?_
      simp only [Act.put, List.setIfInBounds_toArray, List.set_cons_zero, List.set_cons_succ]
      refine takeH 18 61 (.agg (u8s dk).toArray) hHeld rfl rfl (by kernel_rfl) (by kernel_rfl) (by kernel_rfl) (fun _ _ _ h => h) (yieldsIf_load_mid (by rfl) _ _ rfl fb (fo5 + 32 * x) rfl _ _ (fun w h => hdu _ h) huD rfl HIK.out) ?_
      simp only [Act.put, List.setIfInBounds_toArray, List.set_cons_zero, List.set_cons_succ]
      refine takeH 19 62 (.bool false) hHeld rfl rfl (by kernel_rfl) (by kernel_rfl) (by kernel_rfl) (fun _ _ _ h => h) (Or.inl ⟨by rfl, fun v _ => run_neT aD _ rfl rfl HDK.out⟩) ?_
      simp only [Act.put, List.setIfInBounds_toArray, List.set_cons_zero, List.set_cons_succ]
      refine takeH 20 63 (.bool false) hHeld rfl rfl (by kernel_rfl) (by kernel_rfl) (by kernel_rfl) (fun _ _ _ h => h) (Or.inl ⟨by rfl, fun w _ => by go_simp⟩) ?_
      simp only [Act.put, List.setIfInBounds_toArray, List.set_cons_zero, List.set_cons_succ]
      refine wpAnyH_done (by kernel_rfl) ?_ _
      clear hHeld
      have Y0 : Below W.heap.size W W.drew := (Below.refl _ _).drew
      have T0 := hide (T.out.below Y0)
      have z6 : W.drew.cell? ⟨g6, 0, none⟩ = some (.int .i64 (x : Int)) := hc6 _ Y0
      have f6 : W.drew.frozen? ⟨g6, 0, none⟩ = false := T0.out.c6.free 0
      have T1 := hide (T0.out.set (x + 1) hw6)
      have hbut := But.setCell W.drew g6 0 (.int .i64 ((x + 1 : Nat) : Int))
      have HKK := hide (km_one hbut T0.out.c6.lt)
      have HKO := hide (KeepsOthers.setCell W.drew ⟨g6, 0, none⟩ (.int .i64 ((x + 1 : Nat) : Int)))
      have hszD : W5.heap.size ≤ (W.drew.setCell ⟨g6, 0, none⟩ (.int .i64 ((x + 1 : Nat) : Int))).heap.size := by rw [hbut.size]; exact Nat.le_trans hsz Y0.size
      obtain ⟨hx1, hx2⟩ := inc98 hlt h98
      have HIP : Hid ((pre ++ [x] = List.range (pre ++ [x]).length ∧ (pre ++ [x]).length ≤ ps.length) ∧ (pre ++ [x]).length = x + 1) := hide (by
        have e1 : (pre ++ [x]).length = x + 1 := by rw [List.length_append, HPL.out]; rfl
        rw [e1]
        exact ⟨⟨range_snoc5 HP.out HPL.out, hlt⟩, rfl⟩)
      have KMD := hide (km_below (Mine.one hga5) hsz Y0)
      have KOD := hide (keepsO_below Y0)
      clear hc6 hc5 hc3 hnu hn9 hd9 hdu hbut T T0 Y0 HP HPL
      refine Only.normal ?_
      gi_wp2
      exact ⟨(KOD.out.trans HKO.out).from _, KM.trans KMD.out HKK.out, ⟨HIP.out.1, by rw [HIP.out.2]; exact T1.out, hszD⟩⟩
    · have HNE := hide (node_ne HR.out.le HR.out.max HR.out.nodes HR.out.good hlt hxk)
      have HNP := hide (not_pre5 HPL.out hlt hxk)
      generalize hpx : pG ps x = p at *
      clear hpx
      obtain ⟨⟨x1, x2⟩, dx⟩ := p
      generalize hpk : pG ps k = p at *
      clear hpk
      obtain ⟨⟨y1, y2⟩, dk⟩ := p
      simp only at hnu hn9 hd9 hdu HDX HDK HIX HIK HNE
      have HQ : Hid ((!decide (x1 = y1 ∧ x2 = y2)) = true) := hide (by rw [decide_eq_false (fun h => HNE.out (by rw [h.1, h.2]))]; rfl)
      have hlt' := ge_false hlt
      gi_wp2_with fail
      refine wpIn_region_held (S := fun V : World => Below W.heap.size W V) (.round l) (by kernel_rfl) (by kernel_rfl) ((Below.refl _ _).drew) (fun hHeld => ?_)
      refine takeH 0 43 (.int .i64 (k : Int)) hHeld rfl rfl (by kernel_rfl) (by kernel_rfl) (by kernel_rfl) (fun _ _ _ h => h) (Or.inl ⟨by rfl, fun w hw => by have hw' : w.cell? ⟨g6, 0, none⟩ = some (.int .i64 (k : Int)) := (fun h => hc6 _ h) hw; go_simp⟩) ?_
      simp only [Act.put, List.setIfInBounds_toArray, List.set_cons_zero, List.set_cons_succ]
      refine takeH 1 44 (.slice (some ⟨ub, 0, none⟩) ps.length uc) hHeld rfl rfl (by kernel_rfl) (by kernel_rfl) (by kernel_rfl) (fun _ _ _ h => h) (Or.inl ⟨by rfl, fun w hw => by have hw' : w.cell? ⟨g5, 0, none⟩ = some (.slice (some ⟨ub, 0, none⟩) ps.length uc) := (fun h => hc5 _ h) hw; go_simp⟩) ?_
      simp only [Act.put, List.setIfInBounds_toArray, List.set_cons_zero, List.set_cons_succ]
      refine takeH 2 45 (.int .i64 (ps.length : Int)) hHeld rfl rfl (by kernel_rfl) (by kernel_rfl) (by kernel_rfl) (fun _ _ _ h => h) (Or.inl ⟨by rfl, fun w _ => by go_simp⟩) ?_
      simp only [Act.put, List.setIfInBounds_toArray, List.set_cons_zero, List.set_cons_succ]
      refine takeH 3 46 (.bool false) hHeld rfl rfl (by kernel_rfl) (by kernel_rfl) (by kernel_rfl) (fun _ _ _ h => h) (Or.inl ⟨by rfl, fun w _ => by go_simp⟩) ?_
      simp only [Act.put, List.setIfInBounds_toArray, List.set_cons_zero, List.set_cons_succ]
      refine takeH 4 47 (.bool false) hHeld rfl rfl (by kernel_rfl) (by kernel_rfl) (by kernel_rfl) (fun _ _ _ h => h) (Or.inl ⟨by rfl, fun w _ => by go_simp⟩) ?_
      simp only [Act.put, List.setIfInBounds_toArray, List.set_cons_zero, List.set_cons_succ]
      refine takeH 5 48 (.agg (nC (x1, x2)).toArray) hHeld rfl rfl (by kernel_rfl) (by kernel_rfl) (by kernel_rfl) (fun _ _ _ h => h) (yieldsIf_load_mid (by rfl) _ _ rfl g9 0 rfl _ _ (fun w h => hn9 _ h) huN hdN HIN.out) ?_
      simp only [Act.put, List.setIfInBounds_toArray, List.set_cons_zero, List.set_cons_succ]
      refine takeH 6 49 (.slice (some ⟨ub, 0, none⟩) ps.length uc) hHeld rfl rfl (by kernel_rfl) (by kernel_rfl) (by kernel_rfl) (fun _ _ _ h => h) (Or.inl ⟨by rfl, fun w hw => by have hw' : w.cell? ⟨g5, 0, none⟩ = some (.slice (some ⟨ub, 0, none⟩) ps.length uc) := (fun h => hc5 _ h) hw; go_simp⟩) ?_
      simp only [Act.put, List.setIfInBounds_toArray, List.set_cons_zero, List.set_cons_succ]
      refine takeH 7 50 (.int .i64 (k : Int)) hHeld rfl rfl (by kernel_rfl) (by kernel_rfl) (by kernel_rfl) (fun _ _ _ h => h) (Or.inl ⟨by rfl, fun w hw => by have hw' : w.cell? ⟨g6, 0, none⟩ = some (.int .i64 (k : Int)) := (fun h => hc6 _ h) hw; go_simp⟩) ?_
      simp only [Act.put, List.setIfInBounds_toArray, List.set_cons_zero, List.set_cons_succ]
      refine takeH 8 51 (.pointer (some ⟨ub, k * 2, none⟩)) hHeld rfl rfl (by kernel_rfl) (by kernel_rfl) (by kernel_rfl) (fun _ _ _ h => h) (Or.inl ⟨by rfl, fun w _ => run_op rfl ((n_at ub ps.length uc k (k : Int) rfl hlt) w)⟩) ?_
      simp only [Act.put, List.setIfInBounds_toArray, List.set_cons_zero, List.set_cons_succ]
      refine takeH 9 52 (.agg (nC (y1, y2)).toArray) hHeld rfl rfl (by kernel_rfl) (by kernel_rfl) (by kernel_rfl) (fun _ _ _ h => h) (yieldsIf_load_mid (by rfl) _ _ rfl ub (k * 2) rfl _ _ (fun w h => hnu _ h) huN hdN HIN.out) ?_
      simp only [Act.put, List.setIfInBounds_toArray, List.set_cons_zero, List.set_cons_succ]
      refine takeH 10 53 (.bool true) hHeld rfl rfl (by kernel_rfl) (by kernel_rfl) (by kernel_rfl) (fun _ _ _ h => h) (Or.inl ⟨by rfl, fun v _ => run_neN (x1 := x1) (x2 := x2) (y1 := y1) (y2 := y2) _ rfl rfl HQ.out⟩) ?_
      simp only [Act.put, List.setIfInBounds_toArray, List.set_cons_zero, List.set_cons_succ]
      refine takeH 11 54 (.bool true) hHeld rfl rfl (by kernel_rfl) (by kernel_rfl) (by kernel_rfl) (fun _ _ _ h => h) (Or.inl ⟨by rfl, fun w _ => by go_simp⟩) ?_
      simp only [Act.put, List.setIfInBounds_toArray, List.set_cons_zero, List.set_cons_succ]
      refine takeH 12 55 (.bool true) hHeld rfl rfl (by kernel_rfl) (by kernel_rfl) (by kernel_rfl) (fun _ _ _ h => h) (Or.inl ⟨by rfl, fun w _ => by go_simp⟩) ?_
      simp only [Act.put, List.setIfInBounds_toArray, List.set_cons_zero, List.set_cons_succ]
      refine takeH 13 56 undef hHeld rfl rfl (by kernel_rfl) (by kernel_rfl) (by kernel_rfl) (fun _ _ _ h => h) (Or.inr ⟨by rfl, rfl⟩) ?_
      simp only [Act.put, List.setIfInBounds_toArray, List.set_cons_zero, List.set_cons_succ]
      refine takeH 14 57 undef hHeld rfl rfl (by kernel_rfl) (by kernel_rfl) (by kernel_rfl) (fun _ _ _ h => h) (Or.inr ⟨by rfl, rfl⟩) ?_
      simp only [Act.put, List.setIfInBounds_toArray, List.set_cons_zero, List.set_cons_succ]
      refine takeH 15 58 undef hHeld rfl rfl (by kernel_rfl) (by kernel_rfl) (by kernel_rfl) (fun _ _ _ h => h) (Or.inr ⟨by rfl, rfl⟩) ?_
      simp only [Act.put, List.setIfInBounds_toArray, List.set_cons_zero, List.set_cons_succ]
      refine takeH 16 59 undef hHeld rfl rfl (by kernel_rfl) (by kernel_rfl) (by kernel_rfl) (fun _ _ _ h => h) (Or.inr ⟨by rfl, rfl⟩) ?_
      simp only [Act.put, List.setIfInBounds_toArray, List.set_cons_zero, List.set_cons_succ]
      refine takeH 17 60 undef hHeld rfl rfl (by kernel_rfl) (by kernel_rfl) (by kernel_rfl) (fun _ _ _ h => h) (Or.inr ⟨by rfl, rfl⟩) ?_
      simp only [Act.put, List.setIfInBounds_toArray, List.set_cons_zero, List.set_cons_succ]
      refine takeH 18 61 undef hHeld rfl rfl (by kernel_rfl) (by kernel_rfl) (by kernel_rfl) (fun _ _ _ h => h) (Or.inr ⟨by rfl, rfl⟩) ?_
      simp only [Act.put, List.setIfInBounds_toArray, List.set_cons_zero, List.set_cons_succ]
      refine takeH 19 62 undef hHeld rfl rfl (by kernel_rfl) (by kernel_rfl) (by kernel_rfl) (fun _ _ _ h => h) (Or.inr ⟨by rfl, rfl⟩) ?_
      simp only [Act.put, List.setIfInBounds_toArray, List.set_cons_zero, List.set_cons_succ]
      refine takeH 20 63 (.bool true) hHeld rfl rfl (by kernel_rfl) (by kernel_rfl) (by kernel_rfl) (fun _ _ _ h => h) (Or.inl ⟨by rfl, fun w _ => by go_simp⟩) ?_
      simp only [Act.put, List.setIfInBounds_toArray, List.set_cons_zero, List.set_cons_succ]
      refine wpAnyH_done (by kernel_rfl) ?_ _
      clear hHeld
      have Y0 : Below W.heap.size W W.drew := (Below.refl _ _).drew
      have T0 := hide (T.out.below Y0)
      have z4 : W.drew.cell? ⟨g4, 0, none⟩ = some (.bool false) := by rw [T0.out.c4.cell]; rfl
      have f4 : W.drew.frozen? ⟨g4, 0, none⟩ = false := T0.out.c4.free 0
      have KOD := hide (keepsO_below Y0)
      clear hc6 hc5 hc3 hnu hn9 hd9 hdu T T0 Y0 HP HPL
      refine Only.normal ?_
      gi_wp2
      exact ⟨(KOD.out.trans (KeepsOthers.setCell _ _ _)).from _, rfl, HNP.out⟩
  case done =>
    rintro D ys W hD rfl ⟨_, hT, hsz⟩ hKd
    rw [List.length_range] at hT
    have T := hide hT
    have HKd := hide hKd
    clear hT hKd
    go_wp2_with fail
    refine (HRP.out _ T.out.bel).mono ?_
    rintro r V1 ⟨rfl, hv1⟩
    have X1 := hide hv1
    clear hv1
    go_wp2_with (refine step_alloc zD rfl ?_)
    intro V2 ga hga hla hba
    have GA := hide hga
    clear hga
    go_wp2_with (refine step_storeA wD rfl rfl rfl GA.out HRU.out (One.u8 _) rfl ?_)
    intro V3 hg3 hbut3
    have GA3 := hide hg3
    have X3 := hide (X1.out.trans ((hba.trans (hbut3.below hla)).mono X1.out.size))
    have T3 := hide (T.out.below X3.out)
    clear hg3 hbut3 hba hla GA X1
    go_wp2_with (refine step_loadA wRf rfl rfl T3.out.c3 rfl ?_)
    refine (HRR.out _ T3.out.bel).mono ?_
    rintro r V4 ⟨rfl, hv4⟩
    have X4 := hide (X3.out.trans (hv4.mono X3.out.size))
    have GA4 := hide (GA3.out.below hv4 GA3.out.lt)
    clear hv4 X3 GA3 T3
    go_wp2_with (refine step_alloc zD rfl ?_)
    intro V5 gc hgc hlc hbc
    have GC := hide hgc
    clear hgc
    go_wp2_with (refine step_storeA wD rfl rfl rfl GC.out HRU.out (One.u8 _) rfl ?_)
    intro V6 hg6' hbut6'
    have GC6 := hide hg6'
    have Y6 := hide (hbc.trans (hbut6'.below hlc))
    have GA6 := hide (GA4.out.below Y6.out GA4.out.lt)
    have X6 := hide (X4.out.trans (Y6.out.mono X4.out.size))
    clear hg6' hbut6' hbc hlc GC Y6 GA4 X4
    go_wp2_with fail
    refine (HBP.out _ (T.out.bel.trans (X6.out.mono T.out.bel.size))).mono ?_
    rintro r V7 ⟨gx, rfl, hgx, hlx, hv7⟩
    have GX7 := hide hgx
    have X7 := hide (X6.out.trans (hv7.mono X6.out.size))
    have GA7 := hide (GA6.out.below hv7 GA6.out.lt)
    have GC7 := hide (GC6.out.below hv7 GC6.out.lt)
    have hwx : w.heap.size ≤ gx := Nat.le_trans (T.out.bel.trans (X6.out.mono T.out.bel.size)).size hlx
    have hDx : D ≠ gx := by have h1 := (Array.getElem?_eq_some_iff.1 HKd.out).1; have := X6.out.size; omega
    have h3x : g3 ≠ gx := by have := T.out.c3.lt; have := X6.out.size; omega
    have h4x : g4 ≠ gx := by have := T.out.c4.lt; have := X6.out.size; omega
    clear hgx hlx hv7 X6 GA6 GC6
    go_wp2_with fail
    refine (HBP.out _ (T.out.bel.trans (X7.out.mono T.out.bel.size))).mono ?_
    rintro r V8 ⟨gy, rfl, hgy, hly, hv8⟩
    have GY8 := hide hgy
    have GX8 := hide (GX7.out.below hv8 GX7.out.lt)
    have hxy : gx ≠ gy := by have := GX7.out.lt; omega
    have X8 := hide (X7.out.trans (hv8.mono X7.out.size))
    have GA8 := hide (GA7.out.below hv8 GA7.out.lt)
    have GC8 := hide (GC7.out.below hv8 GC7.out.lt)
    have T8 := hide (T.out.below X8.out)
    have K8 : Hid (V8.heap[D]? = some (.deferred (some []))) := hide ((X8.out.block D (Array.getElem?_eq_some_iff.1 HKd.out).1).trans HKd.out)
    clear hgy hly hv8 X7 GA7 GC7 GX7 X8 HKd T
    go_wp2_with fail
    have hu := aD.und
    obtain ⟨dR, huR, hdR⟩ := wRf.und
    have HI1 : Hid ((Tryd.prog.info? 34).map (·.size) = some (u8s RD).length) := hide (by rw [wD.size, HRU.out])
    have HI2 : Hid ((Tryd.prog.info? 29).map (·.size) = some 3) := hide wRf.size
    have q6 : ∀ V : World, Below V8.heap.size V8 V → V.cell? ⟨g6, 0, none⟩ = some (.int .i64 (ps.length : Int)) := fun V hV => by rw [(T8.out.below hV).c6.cell]; rfl
    have q5 : ∀ V : World, Below V8.heap.size V8 V → V.cell? ⟨g5, 0, none⟩ = some (.slice ua ps.length uc) := fun V hV => by rw [(T8.out.below hV).c5.cell]; rfl
    have qa : ∀ V : World, Below V8.heap.size V8 V → V.rangeAt ga 0 (u8s RD) := fun V hV => (GA8.out.below hV GA8.out.lt).range 0 _ (by simp)
    have qc : ∀ V : World, Below V8.heap.size V8 V → V.rangeAt gc 0 (u8s RD) := fun V hV => (GC8.out.below hV GC8.out.lt).range 0 _ (by simp)
    have q3 : ∀ V : World, Below V8.heap.size V8 V → V.rangeAt g3 0 (rfC b e (.slice fa ps.length fc)) := fun V hV => (T8.out.below hV).c3.range 0 _ (by simp)
    have qx : ∀ V : World, Below V8.heap.size V8 V → Sl V (some ⟨gx, 0, none⟩) m m BB := fun V hV => by
      have h9 := (GX8.out.below hV GX8.out.lt).sl0 HBI.out (by rw [HMB.out]; omega)
      rwa [HMB.out] at h9
    refine wp_region_noPanic ?_
    refine wp_region_held_drew (S := fun V : World => Below V8.heap.size V8 V) (by kernel_rfl) ((Below.refl _ _).drew) (fun hHeld => ?_)
    have Y0 := hide (show Below V8.heap.size V8 V8.drew from (Below.refl _ _).drew)
    refine takeH 0 80 (.int .i64 (ps.length : Int)) hHeld rfl rfl (by kernel_rfl) (by kernel_rfl) (by kernel_rfl) (fun _ _ _ h => h) (Or.inl ⟨by rfl, fun w hw => by have hw' : w.cell? ⟨g6, 0, none⟩ = some (.int .i64 (ps.length : Int)) := (fun h => q6 _ h) hw; go_simp⟩) ?_
    simp only [Act.put, List.setIfInBounds_toArray, List.set_cons_zero, List.set_cons_succ]
    refine takeH 1 81 (.slice ua ps.length uc) hHeld rfl rfl (by kernel_rfl) (by kernel_rfl) (by kernel_rfl) (fun _ _ _ h => h) (Or.inl ⟨by rfl, fun w hw => by have hw' : w.cell? ⟨g5, 0, none⟩ = some (.slice ua ps.length uc) := (fun h => q5 _ h) hw; go_simp⟩) ?_
    simp only [Act.put, List.setIfInBounds_toArray, List.set_cons_zero, List.set_cons_succ]
    refine takeH 2 82 (.int .i64 (ps.length : Int)) hHeld rfl rfl (by kernel_rfl) (by kernel_rfl) (by kernel_rfl) (fun _ _ _ h => h) (Or.inl ⟨by rfl, fun w _ => by go_simp⟩) ?_
    simp only [Act.put, List.setIfInBounds_toArray, List.set_cons_zero, List.set_cons_succ]
    refine takeH 3 83 (.bool true) hHeld rfl rfl (by kernel_rfl) (by kernel_rfl) (by kernel_rfl) (fun _ _ _ h => h) (Or.inl ⟨by rfl, fun w _ => by go_simp⟩) ?_
    simp only [Act.put, List.setIfInBounds_toArray, List.set_cons_zero, List.set_cons_succ]
    refine takeH 4 84 (.bool true) hHeld rfl rfl (by kernel_rfl) (by kernel_rfl) (by kernel_rfl) (fun _ _ _ h => h) (Or.inl ⟨by rfl, fun w _ => by go_simp⟩) ?_
    simp only [Act.put, List.setIfInBounds_toArray, List.set_cons_zero, List.set_cons_succ]
    refine takeH 5 85 (.agg (u8s RD).toArray) hHeld rfl rfl (by kernel_rfl) (by kernel_rfl) (by kernel_rfl) (fun _ _ _ h => h) (yieldsIf_load_mid (by rfl) _ _ rfl ga 0 rfl _ _ (fun w h => qa _ h) hu rfl HI1.out) ?_
    simp only [Act.put, List.setIfInBounds_toArray, List.set_cons_zero, List.set_cons_succ]
    refine takeH 6 86 (.agg (u8s RD).toArray) hHeld rfl rfl (by kernel_rfl) (by kernel_rfl) (by kernel_rfl) (fun _ _ _ h => h) (yieldsIf_load_mid (by rfl) _ _ rfl gc 0 rfl _ _ (fun w h => qc _ h) hu rfl HI1.out) ?_
    simp only [Act.put, List.setIfInBounds_toArray, List.set_cons_zero, List.set_cons_succ]
    refine takeH 7 87 (.bool true) hHeld rfl rfl (by kernel_rfl) (by kernel_rfl) (by kernel_rfl) (fun _ _ _ h => h) (Or.inl ⟨by rfl, fun v _ => run_eqT aD _ rfl rfl HRD.out⟩) ?_
    simp only [Act.put, List.setIfInBounds_toArray, List.set_cons_zero, List.set_cons_succ]
    refine takeH 8 88 (.bool true) hHeld rfl rfl (by kernel_rfl) (by kernel_rfl) (by kernel_rfl) (fun _ _ _ h => h) (Or.inl ⟨by rfl, fun w _ => by go_simp⟩) ?_
    simp only [Act.put, List.setIfInBounds_toArray, List.set_cons_zero, List.set_cons_succ]
    refine takeH 9 89 (.bool true) hHeld rfl rfl (by kernel_rfl) (by kernel_rfl) (by kernel_rfl) (fun _ _ _ h => h) (Or.inl ⟨by rfl, fun w _ => by go_simp⟩) ?_
    simp only [Act.put, List.setIfInBounds_toArray, List.set_cons_zero, List.set_cons_succ]
    refine takeH 10 90 (.int .i64 RE) hHeld rfl rfl (by kernel_rfl) (by kernel_rfl) (by kernel_rfl) (fun _ _ _ h => h) (Or.inl ⟨by rfl, fun w _ => by go_simp⟩) ?_
    simp only [Act.put, List.setIfInBounds_toArray, List.set_cons_zero, List.set_cons_succ]
    refine takeH 11 91 (.int .i64 RE) hHeld rfl rfl (by kernel_rfl) (by kernel_rfl) (by kernel_rfl) (fun _ _ _ h => h) (Or.inl ⟨by rfl, fun w _ => by go_simp⟩) ?_
    simp only [Act.put, List.setIfInBounds_toArray, List.set_cons_zero, List.set_cons_succ]
    refine takeH 12 92 (.bool true) hHeld rfl rfl (by kernel_rfl) (by kernel_rfl) (by kernel_rfl) (fun _ _ _ h => h) (Or.inl ⟨by rfl, fun w _ => by go_simp⟩) ?_
    simp only [Act.put, List.setIfInBounds_toArray, List.set_cons_zero, List.set_cons_succ]
    refine takeH 13 93 (.bool true) hHeld rfl rfl (by kernel_rfl) (by kernel_rfl) (by kernel_rfl) (fun _ _ _ h => h) (Or.inl ⟨by rfl, fun w _ => by go_simp⟩) ?_
    simp only [Act.put, List.setIfInBounds_toArray, List.set_cons_zero, List.set_cons_succ]
    refine takeH 14 94 (.bool true) hHeld rfl rfl (by kernel_rfl) (by kernel_rfl) (by kernel_rfl) (fun _ _ _ h => h) (Or.inl ⟨by rfl, fun w _ => by go_simp⟩) ?_
    simp only [Act.put, List.setIfInBounds_toArray, List.set_cons_zero, List.set_cons_succ]
    refine takeH 15 95 (.slice (some ⟨gx, 0, none⟩) m m) hHeld rfl rfl (by kernel_rfl) (by kernel_rfl) (by kernel_rfl) (fun _ _ _ h => h) (Or.inl ⟨by rfl, fun w _ => by go_simp⟩) ?_
    simp only [Act.put, List.setIfInBounds_toArray, List.set_cons_zero, List.set_cons_succ]
    refine takeH 16 96 (.string (str BB)) hHeld rfl rfl (by kernel_rfl) (by kernel_rfl) (by kernel_rfl) (fun _ _ _ h => h) (Or.inl ⟨by rfl, fun V hV => run_op rfl (toStr (qx V hV))⟩) ?_
    simp only [Act.put, List.setIfInBounds_toArray, List.set_cons_zero, List.set_cons_succ]
    refine takeH 17 97 (.agg (rfC b e (.slice fa ps.length fc)).toArray) hHeld rfl rfl (by kernel_rfl) (by kernel_rfl) (by kernel_rfl) (fun _ _ _ h => h) (yieldsIf_load_mid (by rfl) _ _ rfl g3 0 rfl _ _ (fun w h => q3 _ h) huR hdR HI2.out) ?_
    simp only [Act.put, List.setIfInBounds_toArray, List.set_cons_zero, List.set_cons_succ]
    refine wpAnyH_ready (rs := [18]) (by kernel_rfl) (by simp) (AllReadyH.cons rfl (fun K hK => ?_) AllReadyH.nil)
    rw [if_pos (by rfl)]
    go_simp
    refine (HBR.out _ (T8.out.bel.trans (Y0.out.mono T8.out.bel.size))).mono ?_
    rintro r V9 ⟨v9, rfl, ho9, hv9⟩
    obtain ⟨a9, c9, rfl, hs9⟩ := ho9.sl' HBI.out (by rw [HMB.out]; omega)
    have Y9 := hide (Y0.out.trans (hv9.mono Y0.out.size))
    refine hK.out _ _ (Y9.out) (fun hHeld => ?_)
    clear hK K
    refine wpAnyH_ready (rs := [19]) (by kernel_rfl) (by simp) (AllReadyH.cons rfl (fun K hK => ?_) AllReadyH.nil)
    rw [if_pos (by rfl)]
    refine wp_toStr5 rfl hs9 ?_
    refine hK.out _ _ Y9.out (fun hHeld => ?_)
    clear hK K
    simp only [Act.put, List.setIfInBounds_toArray, List.set_cons_zero, List.set_cons_succ]
    refine takeH 20 100 (.bool true) hHeld rfl rfl (by kernel_rfl) (by kernel_rfl) (by kernel_rfl) (fun _ _ _ h => h) (Or.inl ⟨by rfl, fun w _ => by go_simp⟩) ?_
    simp only [Act.put, List.setIfInBounds_toArray, List.set_cons_zero, List.set_cons_succ]
    refine takeH 21 101 (.bool true) hHeld rfl rfl (by kernel_rfl) (by kernel_rfl) (by kernel_rfl) (fun _ _ _ h => h) (Or.inl ⟨by rfl, fun w _ => by go_simp⟩) ?_
    simp only [Act.put, List.setIfInBounds_toArray, List.set_cons_zero, List.set_cons_succ]
    refine takeH 22 15 (.bool true) hHeld rfl rfl (by kernel_rfl) (by kernel_rfl) (by kernel_rfl) (fun _ _ _ h => h) (Or.inl ⟨by rfl, fun w _ => by go_simp⟩) ?_
    simp only [Act.put, List.setIfInBounds_toArray, List.set_cons_zero, List.set_cons_succ]
    refine wpAnyH_done (by kernel_rfl) ?_ _
    refine NoPanic.normal ?_
    clear hHeld ho9 hs9 hv9 q6 q5 qa qc q3 qx hu
    have R3 := hide (T8.out.c3.below Y9.out T8.out.c3.lt)
    have R4 := hide (T8.out.c4.below Y9.out T8.out.c4.lt)
    have RX := hide (GX8.out.below Y9.out GX8.out.lt)
    have RY := hide (GY8.out.below Y9.out GY8.out.lt)
    have RB := hide (T8.out.bel.trans (Y9.out.mono T8.out.bel.size))
    have RK : Hid (V9.heap[D]? = some (.deferred (some []))) := hide ((Y9.out.block D (Array.getElem?_eq_some_iff.1 K8.out).1).trans K8.out)
    have hgy4 : g4 ≠ gy := T8.out.c4.apart GY8.out (by decide)
    clear T8 GX8 GY8 GA8 GC8 K8 Y0 Y9
    have OX := hide (Own.of_blk (B := 0) RX.out (Nat.zero_le _) (by rw [HMB.out]; omega))
    rw [HMB.out] at OX
    go_wp2_with fail
    refine (spoil5_own gx m m BB 0 _ OX.out HMB.out (by omega)).mono ?_
    rintro r Va ⟨rfl, hbuta⟩
    have A3 := hide (R3.out.but hbuta h3x)
    have A4 := hide (R4.out.but hbuta h4x)
    have AY := hide (RY.out.but hbuta hxy.symm)
    have AB := hide (RB.out.trans (hbuta.below hwx))
    have AK : Hid (Va.heap[D]? = some (.deferred (some []))) := hide ((hbuta.block D hDx).trans RK.out)
    clear R3 R4 RX RY RB RK OX hbuta
    go_wp2_with fail
    have p3 : ∀ V : World, Blk V g3 29 (rfC b e (.slice fa ps.length fc)) → V.rangeAt g3 0 (rfC b e (.slice fa ps.length fc)) := fun V h => h.range 0 _ (by simp)
    have py : ∀ V : World, Blk V gy 5 (u8s BB) → Sl V (some ⟨gy, 0, none⟩) m m BB := fun V h => by
      have h9 := h.sl0 HBI.out (by rw [HMB.out]; omega)
      rwa [HMB.out] at h9
    refine wp_region_noPanic ?_
    have Z0 : Below Va.heap.size Va Va.drew := (Below.refl _ _).drew
    have D3 := hide (A3.out.below Z0 A3.out.lt)
    have D4 := hide (A4.out.below Z0 A4.out.lt)
    have DY := hide (AY.out.below Z0 AY.out.lt)
    have DB := hide (AB.out.trans (Z0.mono AB.out.size))
    have DK : Hid (Va.drew.heap[D]? = some (.deferred (some []))) := hide ((Z0.block D (Array.getElem?_eq_some_iff.1 AK.out).1).trans AK.out)
    clear A3 A4 AY AB AK Z0
    refine wp_region_held_drew (S := fun V : World => Blk V g3 29 (rfC b e (.slice fa ps.length fc)) ∧ Blk V gy 5 (u8s BB)) (by kernel_rfl) ⟨D3.out, DY.out⟩ (fun hHeld => ?_)
    refine takeH 0 104 (.bool true) hHeld rfl rfl (by kernel_rfl) (by kernel_rfl) (by kernel_rfl) (fun _ _ _ h => h) (Or.inl ⟨by rfl, fun w _ => by go_simp⟩) ?_
    simp only [Act.put, List.setIfInBounds_toArray, List.set_cons_zero, List.set_cons_succ]
    refine takeH 1 105 (.bool true) hHeld rfl rfl (by kernel_rfl) (by kernel_rfl) (by kernel_rfl) (fun _ _ _ h => h) (Or.inl ⟨by rfl, fun w _ => by go_simp⟩) ?_
    simp only [Act.put, List.setIfInBounds_toArray, List.set_cons_zero, List.set_cons_succ]
    refine takeH 2 106 (.slice (some ⟨gy, 0, none⟩) m m) hHeld rfl rfl (by kernel_rfl) (by kernel_rfl) (by kernel_rfl) (fun _ _ _ h => h) (Or.inl ⟨by rfl, fun w _ => by go_simp⟩) ?_
    simp only [Act.put, List.setIfInBounds_toArray, List.set_cons_zero, List.set_cons_succ]
    refine takeH 3 107 (.string (str BB)) hHeld rfl rfl (by kernel_rfl) (by kernel_rfl) (by kernel_rfl) (fun _ _ _ h => h) (Or.inl ⟨by rfl, fun V hV => run_op rfl (toStr (py V hV.2))⟩) ?_
    simp only [Act.put, List.setIfInBounds_toArray, List.set_cons_zero, List.set_cons_succ]
    refine takeH 4 108 (.agg (rfC b e (.slice fa ps.length fc)).toArray) hHeld rfl rfl (by kernel_rfl) (by kernel_rfl) (by kernel_rfl) (fun _ _ _ h => h) (yieldsIf_load_mid (by rfl) _ _ rfl g3 0 rfl _ _ (fun w h => p3 _ h.1) huR hdR HI2.out) ?_
    simp only [Act.put, List.setIfInBounds_toArray, List.set_cons_zero, List.set_cons_succ]
    refine wpAnyH_ready (rs := [5]) (by kernel_rfl) (by simp) (AllReadyH.cons rfl (fun K hK => ?_) AllReadyH.nil)
    rw [if_pos (by rfl)]
    go_simp
    refine (HBR.out _ DB.out).mono ?_
    rintro r Vb ⟨vb, rfl, hob, hvb⟩
    obtain ⟨ab, cb, rfl, hsb⟩ := hob.sl' HBI.out (by rw [HMB.out]; omega)
    have E3 := hide (D3.out.below hvb D3.out.lt)
    have E4 := hide (D4.out.below hvb D4.out.lt)
    have EY := hide (DY.out.below hvb DY.out.lt)
    have EB := hide (DB.out.trans (hvb.mono DB.out.size))
    have EK : Hid (Vb.heap[D]? = some (.deferred (some []))) := hide ((hvb.block D (Array.getElem?_eq_some_iff.1 DK.out).1).trans DK.out)
    clear D3 D4 DY DB DK
    refine hK.out _ _ (⟨E3.out, EY.out⟩) (fun hHeld => ?_)
    clear hK K
    refine wpAnyH_ready (rs := [6]) (by kernel_rfl) (by simp) (AllReadyH.cons rfl (fun K hK => ?_) AllReadyH.nil)
    rw [if_pos (by rfl)]
    refine wp_toStr5 rfl hsb ?_
    refine hK.out _ _ ⟨E3.out, EY.out⟩ (fun hHeld => ?_)
    clear hK K
    simp only [Act.put, List.setIfInBounds_toArray, List.set_cons_zero, List.set_cons_succ]
    refine takeH 7 111 (.bool true) hHeld rfl rfl (by kernel_rfl) (by kernel_rfl) (by kernel_rfl) (fun _ _ _ h => h) (Or.inl ⟨by rfl, fun w _ => by go_simp⟩) ?_
    simp only [Act.put, List.setIfInBounds_toArray, List.set_cons_zero, List.set_cons_succ]
    refine takeH 8 112 (.bool true) hHeld rfl rfl (by kernel_rfl) (by kernel_rfl) (by kernel_rfl) (fun _ _ _ h => h) (Or.inl ⟨by rfl, fun w _ => by go_simp⟩) ?_
    simp only [Act.put, List.setIfInBounds_toArray, List.set_cons_zero, List.set_cons_succ]
    have cb5 : Vb.cell? ⟨g4, 0, none⟩ = some (.bool false) := by rw [E4.out.cell]; rfl
    have fb5 : Vb.frozen? ⟨g4, 0, none⟩ = false := E4.out.free 0
    refine wpAnyH_ready (rs := [9]) (by kernel_rfl) (by simp) (AllReadyH.cons rfl (fun K hK => ?_) AllReadyH.nil)
    rw [if_pos (by rfl)]
    go_simp
    have hbutR := But.setCell Vb g4 0 (.bool true)
    refine hK.out _ _ ⟨E3.out.but hbutR (E3.out.apart E4.out (by decide)), EY.out.but hbutR hgy4.symm⟩ (fun hHeld => ?_)
    clear hK K
    refine wpAnyH_done (by kernel_rfl) ?_ _
    refine NoPanic.normal ?_
    clear hHeld
    have k1 := (KeepsOthers.setCell Vb ⟨g4, 0, none⟩ (.bool true)).same D _ EK.out rfl
    have CB6 := E4.out.set 0 (.bool true)
    have CB7 := CB6.kept (grownBy_putObj' _ D (.deferred none)) (fun r e => by cases e; exact ⟨_, k1, rfl⟩)
    have BA := (EB.out.trans (hbutR.below hw4)).trans (belowK_b (w := w) (Nat.le_refl _) _ D _ (.deferred none) (Nat.le_trans hws hD) k1 rfl rfl)
    have hcC : ((Vb.setCell ⟨g4, 0, none⟩ (.bool true)).putObj D (.deferred none)).cell? ⟨g4, 0, none⟩ = some (.bool true) := by rw [CB7.cell]; rfl
    clear cb5 fb5 hbutR CB6 CB7
    go_wp2
    refine ⟨by simp, .inl ⟨_, _, rfl, run_takeDeferred k1, ?_⟩⟩
    refine ⟨.bool true, ?_, rfl, BA⟩
    simp [results, Tryd.f11, go_sem, hcC]

end Go.Proofs.YtnjkjickclkmhaaDoor

/-
  Acts of CompactPlays in memory; what stands through them.
-/
namespace Go.Proofs.YtnjkjickclkmhaaDoor
open Go.RowKit Go.Shelf
set_option linter.unusedVariables false
set_option linter.unusedSimpArgs false

/-- An act: level, digest, other, count, off. -/
structure At5 where
  lv : Int
  d : List Int
  ot : Bool
  ct : Int
  off : Int
def At5.cells (x : At5) : List Value := .int .i64 x.lv :: (u8s x.d ++ [.bool x.ot, .int .i64 x.ct, .int .i64 x.off])
structure At5.Good (x : At5) : Prop where
  dl : x.d.length = 32
  db : isB x.d
  wl : (Lit.int .i64 x.lv).wf = true
  wc : (Lit.int .i64 x.ct).wf = true
  wo : (Lit.int .i64 x.off).wf = true
theorem At5.Good.len {x : At5} (h : x.Good) : x.cells.length = 36 := by simp [At5.cells, u8s_length, h.dl]
theorem At5.one (x : At5) : One x.cells := by
  intro v hv
  simp only [At5.cells, List.mem_cons, List.mem_append, List.not_mem_nil, or_false] at hv
  rcases hv with rfl | hv | rfl | rfl | rfl
  · rfl
  · exact One.u8 _ v hv
  · rfl
  · rfl
  · rfl
theorem At5.at0 (x : At5) : x.cells[0]? = some (.int .i64 x.lv) := rfl
theorem At5.tail {x : At5} (h : x.Good) : x.cells[33]? = some (.bool x.ot) ∧ x.cells[34]? = some (.int .i64 x.ct) ∧ x.cells[35]? = some (.int .i64 x.off) := by
  have hl : (u8s x.d).length = 32 := by rw [u8s_length, h.dl]
  unfold At5.cells
  refine ⟨?_, ?_, ?_⟩ <;> (rw [List.getElem?_cons_succ, List.getElem?_append_right (by omega), hl]; rfl)
theorem At5.dig {x : At5} (h : x.Good) : (x.cells.drop 1).take 32 = u8s x.d := by
  have hl : (u8s x.d).length = 32 := by rw [u8s_length, h.dl]
  show ((u8s x.d ++ _)).take 32 = _
  rw [List.take_append_of_le_length (by omega), List.take_of_length_le (by omega)]
theorem wAc : Wide 36 36 := ⟨by kernel_rfl, by kernel_rfl⟩
theorem zAc : Zeroed 36 (At5.cells ⟨0, zer 32, false, 0, 0⟩) := fun _ _ _ _ _ _ _ => by kernel_rfl
theorem undAs : Tryd.prog.underlying 22 = some (.slice (Tryd.prog.elem 22)) := by kernel_rfl
theorem elemAs : Tryd.prog.elem 22 = 36 := by kernel_rfl
theorem sizeAs (w : World) : (sizeOf 36).run Tryd.prog w = .ok 36 w := by kernel_rfl
theorem a_at (b o n cap i : Nat) (I : Int) (hI : I = (i : Int)) (hi : i < n) (v : World) : (Instr.indexAt 22 (.slice (some ⟨b, o, none⟩) n cap) (.int .i64 I)).run Tryd.prog v = .ok (.pointer (some ⟨b, o + i * 36, none⟩)) v := by
  subst hI
  rw [run_indexAt_slice v _ _ _ _ .i64 i undAs, if_pos ⟨by omega, by omega⟩, elemAs, sizeAs]
  simp only [Result.andThen_ok, Int.toNat_natCast]
  rw [Addr.add_lit]
/-- Acts in memory. -/
structure Ats (w : World) (a : Option Addr) (len cap : Nat) (acts : Nat → At5) : Prop where
  hcap : len ≤ cap
  hmax : cap ≤ 9223372036854775807
  good : ∀ i, i < len → (acts i).Good
  hcell : ∀ i, i < len → ∃ b off, a = some ⟨b, off, none⟩ ∧ w.rangeAt b (off + i * 36) (acts i).cells
theorem Ats.below {w w' : World} {a : Option Addr} {len cap : Nat} {acts : Nat → At5} (h : Ats w a len cap acts) (hb : Below w.heap.size w w') : Ats w' a len cap acts :=
  ⟨h.hcap, h.hmax, h.good, fun i hi => by
    obtain ⟨b, off, e, hr⟩ := h.hcell i hi
    refine ⟨b, off, e, fun j v hj => ?_⟩
    have := hr j v hj
    rw [hb.cell (World.block_lt_of_cell? w _ this)]
    exact this⟩

theorem Rg.foot_ne {W : World} {B g b e : Nat} {v : Value} {ps : List Pt} {k : Nat} {t : TypeId} {cs : List Value} (h : Rg W B g b e v ps) (hk : Blk W k t cs) (h1 : t ≠ 54) (h2 : t ≠ 59) : ¬ Foot g v k := by
  rintro (rfl | hf)
  · exact (hk.apart h.blk h1) rfl
  · exact (h.own.apart hk h2) hf
theorem Rf5.chs {W W' : World} {B b e : Nat} {v : Value} {ps : List Pt} {B2 g b2 e2 : Nat} {v2 : Value} {qs : List Pt} (h : Rf5 W B b e v ps) (hr : Rg W B2 g b2 e2 v2 qs) (hc : Chs (Foot g v2) W W') : Rf5 W' B b e v ps := by
  obtain ⟨h1, h2⟩ := h.own
  refine ⟨⟨h1, ?_⟩, h.good, h.nodes, h.le, h.max⟩
  rcases h2 with h2 | ⟨k, cap, cur, rfl, hB, hh, r⟩
  · exact .inl h2
  · refine .inr ⟨k, cap, cur, rfl, hB, ?_, r⟩
    have hb : Blk W k 34 cur.toList := by unfold Blk; simpa using hh
    rw [hc.block k hb.lt (hr.foot_ne hb (by decide) (by decide))]
    exact hh
theorem Rg.but {W W' : World} {B g b e k : Nat} {v : Value} {ps : List Pt} {t : TypeId} {cs : List Value} (h : Rg W B g b e v ps) (hk : Blk W k t cs) (h1 : t ≠ 54) (h2 : t ≠ 59) (hb : But k W W') : Rg W' B g b e v ps :=
  h.chs ((Chs.refl (fun i => i = k) W).thenBut hb (.inl rfl)) (fun i hi e => h.foot_ne hk h1 h2 (by rw [← e]; exact hi))
theorem POwn.base5 {w : World} {B B' : Nat} {v : Value} {ps : List Pt} (h : POwn w B v ps) (hB : B' ≤ B) : POwn w B' v ps := by
  obtain ⟨h1, h2⟩ := h
  refine ⟨h1, ?_⟩
  rcases h2 with h2 | ⟨g, cap, cur, e, hg, r⟩
  · exact .inl h2
  · exact .inr ⟨g, cap, cur, e, Nat.le_trans hB hg, r⟩
theorem Rg.base5 {w : World} {B B' g b e : Nat} {v : Value} {ps : List Pt} (h : Rg w B g b e v ps) (hB : B' ≤ B) : Rg w B' g b e v ps := ⟨h.blk, h.own.base5 hB, h.good, h.nodes, h.le, h.max⟩
theorem Rg.new5 {w : World} {B g b : Nat} (h : Blk w g 54 (rgC b b (.slice none 0 0))) (hb : b ≤ 281474976710656) : Rg w B g b b (.slice none 0 0) [] :=
  ⟨h, World.ownsRow_nil _ _ _ _, (fun p hp => by cases hp), by rw [(Rf5.new w B b hb).nodes], Nat.le_refl _, hb⟩
/-- What stands through the acts. -/
structure PY (w W : World) (g7 g b e : Nat) (v v' : Value) (ps : List Pt) : Prop where
  r : Rg W w.heap.size g b e v ps
  hg : w.heap.size ≤ g
  f : Rf5 W w.heap.size b e v' ps
  c7 : Blk W g7 29 (rfC b e v')
  h7 : w.heap.size ≤ g7
  bel : Below w.heap.size w W
theorem PY.below {w W W' : World} {g7 g b e : Nat} {v v' : Value} {ps : List Pt} (h : PY w W g7 g b e v v' ps) (hb : Below W.heap.size W W') : PY w W' g7 g b e v v' ps :=
  ⟨h.r.below hb, h.hg, h.f.below hb, h.c7.below hb h.c7.lt, h.h7, h.bel.trans (hb.mono h.bel.size)⟩
theorem PY.chs_below {w W W' : World} {g7 g b e : Nat} {v v' : Value} {ps : List Pt} (h : PY w W g7 g b e v v' ps) (hc : Chs (Foot g v) W W') : Below w.heap.size w W' :=
  h.bel.trans (hc.below (fun k hk hf => by
    rcases hf with rfl | hf
    · have := h.hg; omega
    · have := (h.r.own.lt _ hf).1; omega) h.bel.size)

end Go.Proofs.YtnjkjickclkmhaaDoor

/-
  From how an argument is read as data to what the walks are told of it: a slice of acts of CompactPlays.
-/
namespace Go.Proofs.YtnjkjickclkmhaaDoor
open Go.ChangeShapes Go.WideShapes Go.ChangeAt Go.RowKit
set_option linter.unusedVariables false

theorem trod_struct5 {H : Type} {enc : TypeId × Value → H} {P : Program} {w : World} {base : Nat} {spare : Nat → Bool} {held : Bool} {t : TypeId} {f0 f1 f2 f3 f4 : Field} {fuel : Nat} {cs : List Value} {x : DataW H × List MemPlace} (ht : P.underlying t = some (.struct #[f0, f1, f2, f3, f4])) (h : DataW.trod enc P w base spare held fuel t cs = some x) :
    ∃ y0 y1 y2 y3 y4 n, cs.length = P.cellsOf t ∧ DataW.trod enc P w base spare held n f0.type ((cs.drop f0.offset).take (P.cellsOf f0.type)) = some y0 ∧
      DataW.trod enc P w base spare held n f1.type ((cs.drop f1.offset).take (P.cellsOf f1.type)) = some y1 ∧ DataW.trod enc P w base spare held n f2.type ((cs.drop f2.offset).take (P.cellsOf f2.type)) = some y2 ∧
      DataW.trod enc P w base spare held n f3.type ((cs.drop f3.offset).take (P.cellsOf f3.type)) = some y3 ∧ DataW.trod enc P w base spare held n f4.type ((cs.drop f4.offset).take (P.cellsOf f4.type)) = some y4 := by
  obtain ⟨xs, n, _, rfl, hl, hlen, hf⟩ := DataW.trod_struct ht h
  match xs, hlen with
  | [y0, y1, y2, y3, y4], _ => exact ⟨y0, y1, y2, y3, y4, n, hl, by simpa using hf 0 f0 rfl, by simpa using hf 1 f1 rfl, by simpa using hf 2 f2 rfl, by simpa using hf 3 f3 rfl, by simpa using hf 4 f4 rfl⟩

theorem dig_trod {H : Type} {enc : TypeId × Value → H} {W : World} {fuel : Nat} {cs : List Value} {x : DataW H × List MemPlace}
    (hf : DataW.trod enc Tryd.prog W 0 (fun _ => true) true fuel 34 cs = some x) (hl : cs.length = 32) : ∃ xs : List Int, cs = u8s xs ∧ xs.length = 32 ∧ isB xs := by
  obtain ⟨ys, q, _, _, _, hyl, hy⟩ := DataW.trod_array aD.und hf
  rw [aD.cells] at hy
  have cell : ∀ j, j < 32 → ∃ z : Int, cs[j]? = some (.int .u8 z) ∧ 0 ≤ z ∧ z ≤ 255 := by
    intro j hj
    have e := hy j hj
    have hys : ys[j]? = some ys[j] := List.getElem?_eq_getElem (by omega)
    rw [hys, Nat.mul_one, List.drop_eq_getElem_cons (by omega)] at e
    simp only [List.take_succ_cons, List.take_zero] at e
    obtain ⟨z, hz, _, hwf⟩ := DataW.trod_int aD.elem e
    simp only [List.cons.injEq, and_true] at hz
    exact ⟨z, by rw [List.getElem?_eq_getElem (by omega), hz], bounds_u8 hwf⟩
  refine ⟨(List.range 32).map (fun i => intOf (cs[i]?.getD undef)), ?_, by simp, ?_⟩
  · refine List.ext_getElem? fun i => ?_
    by_cases hi : i < 32
    · obtain ⟨z, hz, _⟩ := cell i hi
      rw [hz]
      simp [u8s, hi, hz, intOf]
    · rw [List.getElem?_eq_none (by omega), List.getElem?_eq_none (by rw [u8s_length, List.length_map, List.length_range]; omega)]
  · intro y hy
    simp only [List.mem_map, List.mem_range] at hy
    obtain ⟨j, hj, rfl⟩ := hy
    obtain ⟨z, hz, hb⟩ := cell j hj
    rw [hz]
    exact hb

theorem list36 {cs : List Value} {a b c d : Value} {xs : List Value} (h0 : (cs.drop 0).take 1 = [a]) (h1 : (cs.drop 1).take 32 = xs) (hx : xs.length = 32) (h2 : (cs.drop 33).take 1 = [b]) (h3 : (cs.drop 34).take 1 = [c]) (h4 : (cs.drop 35).take 1 = [d]) (hl : cs.length = 36) :
    cs = a :: (xs ++ [b, c, d]) := by
  have e0 : cs = cs.take 1 ++ cs.drop 1 := (List.take_append_drop 1 cs).symm
  have e1 : cs.drop 1 = (cs.drop 1).take 32 ++ (cs.drop 1).drop 32 := (List.take_append_drop 32 _).symm
  have e2 : cs.drop 33 = (cs.drop 33).take 1 ++ (cs.drop 33).drop 1 := (List.take_append_drop 1 _).symm
  have e3 : cs.drop 34 = (cs.drop 34).take 1 ++ (cs.drop 34).drop 1 := (List.take_append_drop 1 _).symm
  have e4 : cs.drop 35 = (cs.drop 35).take 1 ++ (cs.drop 35).drop 1 := (List.take_append_drop 1 _).symm
  simp only [List.drop_drop] at e1 e2 e3 e4
  have e5 : cs.drop (35 + 1) = [] := List.drop_eq_nil_of_le (by omega)
  rw [List.drop_zero] at h0
  rw [e0, h0, e1, h1, show 1 + 32 = 33 from rfl, e2, h2, show 33 + 1 = 34 from rfl, e3, h3, show 34 + 1 = 35 from rfl, e4, h4, e5]
  rfl

set_option maxRecDepth 100000 in
theorem ats_of {f0 f1 f2 f3 f4 : Field} (hu : Tryd.prog.underlying 36 = some (.struct #[f0, f1, f2, f3, f4])) (o0 : f0.offset = 0) (o1 : f1.offset = 1) (o2 : f2.offset = 33) (o3 : f3.offset = 34) (o4 : f4.offset = 35)
    (t0 : f0.type = 3) (t1 : f1.type = 34) (t2 : f2.type = 4) (t3 : f3.type = 3) (t4 : f4.type = 3)
    {H : Type} {enc : TypeId × Value → H} {W : World} {base : Nat} {v : Value} {d : DataW H} {p : List MemPlace}
    (hv : Value.okWide Tryd.prog W .any base 22 v) (h : DataW.Trod enc Tryd.prog W 0 (fun _ => true) true 22 v d p) :
    ∃ a len cap acts, v = .slice a len cap ∧ Ats W a len cap acts := by
  have hs : Tryd.prog.underlying 22 = some (.slice 36) := by kernel_rfl
  have hi : Tryd.prog.underlying 3 = some (.int .i64) := by kernel_rfl
  have hb : Tryd.prog.underlying 4 = some .bool := by kernel_rfl
  have ci : Tryd.prog.cellsOf 3 = 1 := by kernel_rfl
  have cb : Tryd.prog.cellsOf 4 = 1 := by kernel_rfl
  have cA : Tryd.prog.cellsOf 36 = 36 := by kernel_rfl
  obtain ⟨a, len, cap, rfl⟩ := okWide_slice hs hv
  obtain ⟨fuel, hf⟩ := h
  rcases Deep.open_slice hs hf with ⟨hcs, hx⟩ | ⟨x, l, c, m, n, D, Pl, hcs, _, hl, hm, hmm, hx, hel⟩
  · simp [Value.cells] at hcs
    obtain ⟨rfl, rfl, rfl⟩ := hcs
    exact ⟨none, 0, 0, fun _ => ⟨0, [], false, 0, 0⟩, rfl, Nat.le_refl _, by omega, fun i hi => absurd hi (by omega), fun i hi => absurd hi (by omega)⟩
  · simp [Value.cells] at hcs
    obtain ⟨rfl, rfl, rfl⟩ := hcs
    have hmc : m = cap := by simpa using hmm
    subst hmc
    have each : ∀ i, i < m → ∃ y : At5, y.Good ∧ ∀ j, j < 36 → W.cell? ((x.add (i * 36)).add j) = y.cells[j]? := by
      intro i hi2
      obtain ⟨cs', h1, h2⟩ := hel i hi2
      rw [cA] at h1
      obtain ⟨_, hlen, hcell⟩ := World.cells?_some h1
      obtain ⟨y0, y1, y2, y3, y4, nn, hl5, g0, g1, g2, g3, g4⟩ := trod_struct5 hu h2
      rw [o0, t0, ci] at g0
      rw [o1, t1, cellsD] at g1
      rw [o2, t2, cb] at g2
      rw [o3, t3, ci] at g3
      rw [o4, t4, ci] at g4
      obtain ⟨z0, e0, _, w0⟩ := DataW.trod_int hi g0
      obtain ⟨xs, e1, hxl, hxb⟩ := dig_trod g1 (by rw [List.length_take, List.length_drop, hlen]; rfl)
      obtain ⟨b2, e2, _⟩ := DataW.trod_bool hb g2
      obtain ⟨z3, e3, _, w3⟩ := DataW.trod_int hi g3
      obtain ⟨z4, e4, _, w4⟩ := DataW.trod_int hi g4
      have hall := list36 e0 e1 (by rw [u8s_length, hxl]) e2 e3 e4 hlen
      refine ⟨⟨z0, xs, b2, z3, z4⟩, ⟨hxl, hxb, w0, w3, w4⟩, fun j hj => ?_⟩
      have := hcell j hj
      rw [hall] at this
      exact this
    have hinh : Inhabited At5 := ⟨⟨0, [], false, 0, 0⟩⟩
    obtain ⟨y, hy⟩ := Deep.choose_lt each
    refine ⟨some x, len, m, y, rfl, hl, by unfold maxLen at hm; omega, fun i hi => (hy i (by omega)).1, fun i hi => ?_⟩
    obtain ⟨b, off, spot⟩ := x
    have hsp : spot = none := by
      have e := (hy 0 (by omega)).2 0 (by omega)
      rw [At5.at0] at e
      simpa [Addr.add] using World.cell?_spot e
    subst hsp
    refine ⟨b, off, rfl, fun j v hj => ?_⟩
    have hjl : j < 36 := by
      have := (List.getElem?_eq_some_iff.1 hj).1
      rw [(hy i (by omega)).1.len] at this
      exact this
    have e := (hy i (by omega)).2 j hjl
    rw [Addr.add_lit, Addr.add_lit] at e
    rw [← hj, ← e]

end Go.Proofs.YtnjkjickclkmhaaDoor

/-
  The walk of CompactPlays.
-/
namespace Go.Proofs.YtnjkjickclkmhaaDoor
open Go.RowKit Go.Shelf
set_option linter.unusedVariables false
set_option linter.unusedSimpArgs false

theorem rem2 (k : Nat) : ((k : Int)).tmod 2 = ((k % 2 : Nat) : Int) := by
  rw [Int.tmod_eq_emod_of_nonneg (by omega)]; omega
theorem At5.drow {x : At5} {w : World} {g : Nat} (h : x.Good) (hb : Blk w g 36 x.cells) : w.rangeAt g 1 (u8s x.d) := by
  intro j v hj
  rw [hb.cell]
  have hl : (u8s x.d).length = 32 := by rw [u8s_length, h.dl]
  have hj' : j < (u8s x.d).length := by
    rcases Nat.lt_or_ge j (u8s x.d).length with h | h
    · exact h
    · rw [List.getElem?_eq_none (by omega)] at hj; cases hj
  show (At5.cells x)[1 + j]? = some v
  rw [Nat.add_comm]
  unfold At5.cells
  rw [List.getElem?_cons_succ, List.getElem?_append_left hj']
  exact hj
set_option maxRecDepth 100000 in
set_option maxHeartbeats 1000000 in
theorem plays_bad (bg : Int) (a : Option Addr) (len cap : Nat) (w : World) (h : bg < 0 ∨ 281474976710656 < bg) (hl : len ≤ 9223372036854775807) :
    Calls Tryd.prog 3 #[.int .i64 bg, .slice a len cap] w fun r w' => r = .returned (.bool true) ∧ Below w.heap.size w w' := by
  have H1 := hide (fun V => new_bad bg V h)
  have H2 := hide (fun V => refNew_bad bg V h)
  clear h
  go_enter Tryd.func3, Tryd.ntmps3
  go_wp2_with fail
  refine (H1.out _).mono ?_
  rintro r w1 ⟨rfl, rfl⟩
  go_wp2_with fail
  refine (H2.out _).mono ?_
  rintro r w2 ⟨rfl, hb2⟩
  have B2 := hide hb2
  clear hb2
  go_wp2_with (refine step_alloc zRf rfl ?_)
  intro w5 g7 hr5 hl5 hb5
  go_wp2_with (refine step_storeA wRf rfl rfl rfl hr5 rfl (One.rfC _ _ _ _ _) rfl ?_)
  intro w6 hg6 hbut6
  have B6 := hide (B2.out.trans ((hb5.trans (hbut6.below hl5)).mono B2.out.size))
  clear hr5 hg6 hbut6 hb5 hl5 B2
  go_wp2_with fail
  refine (names5 _).mono ?_
  rintro r w7 ⟨rfl, rfl⟩
  go_wp2_with fail
  go_loopw [5, 9] (fun rp i W => rp = .pointer none ∧ i = .int .i64 0 ∧ W = w7) (fun _ _ _ => 0)
  case atStart => exact ⟨rfl, rfl, rfl⟩
  case round =>
    obtain ⟨rfl, rfl, rfl⟩ := hrel
    by_cases hlt : (0 : Int) < (len : Int)
    · go_wp2
      go_ret
      exact ⟨rfl, B6.out⟩
    · go_wp2
      go_ret
      exact ⟨rfl, B6.out⟩
set_option maxRecDepth 100000 in
set_option maxHeartbeats 8000000 in
theorem plays_walk (bg : Int) (a : Option Addr) (len cap : Nat) (acts : Nat → At5) (w : World) (hs : Ats w a len cap acts) (hk : KT w) :
    Calls Tryd.prog 3 #[.int .i64 bg, .slice a len cap] w fun r w' => r = .returned (.bool true) ∧ Below w.heap.size w w' := by
  have hlc := hs.hcap
  have hcm := hs.hmax
  by_cases hbg : bg < 0 ∨ 281474976710656 < bg
  · exact plays_bad bg a len cap w hbg (by omega)
  obtain ⟨b, rfl⟩ : ∃ b : Nat, bg = (b : Int) := ⟨bg.toNat, by omega⟩
  have hb48 : b ≤ 281474976710656 := by omega
  have HS := hide hs
  have HK := hide hk
  have H1 := hide (fun V => new_ok (b : Int) V (by omega) (by omega))
  have H2 := hide (fun V => refNew_ok (b : Int) V (by omega) (by omega))
  have hkw := hk.lt
  clear hs hk hbg
  go_enter Tryd.func3, Tryd.ntmps3
  go_wp2_with fail
  refine (H1.out _).mono ?_
  rintro r w1 ⟨g, rfl, hg1, hlg, hb1⟩
  have RG1 : Hid (Rg w1 w.heap.size g b b (.slice none 0 0) []) := hide (Rg.new5 hg1 hb48)
  have B1 := hide hb1
  clear hg1 hb1 H1
  go_wp2_with fail
  refine (H2.out _).mono ?_
  rintro r w2 ⟨rfl, hb2⟩
  have RG2 := hide (RG1.out.below hb2)
  have B2 := hide (B1.out.trans (hb2.mono B1.out.size))
  clear hb2 RG1 B1 H2
  go_wp2_with (refine step_alloc zRf rfl ?_)
  intro w5 g7 hr5 hl5 hb5
  go_wp2_with (refine step_storeA wRf rfl rfl rfl hr5 rfl (One.rfC _ _ _ _ _) rfl ?_)
  intro w6 hg6 hbut6
  have Y6 := hide (hb5.trans (hbut6.below hl5))
  have P6 : Hid (PY w w6 g7 g b b (.slice none 0 0) (.slice none 0 0) []) := hide ⟨RG2.out.below Y6.out, hlg, Rf5.new _ _ b hb48, hg6, Nat.le_trans B2.out.size hl5, B2.out.trans (Y6.out.mono B2.out.size)⟩
  clear hr5 hg6 hbut6 hb5 hl5 B2 RG2 Y6 hlg
  go_wp2_with fail
  refine (names5 _).mono ?_
  rintro r w7 ⟨rfl, rfl⟩
  go_wp2_with fail
  go_loopw [5, 9] (fun rp i W => ∃ (k g e : Nat) (v v' : Value) (ps : List Pt), k ≤ len ∧ rp = .pointer (some ⟨g, 0, none⟩) ∧ i = .int .i64 (k : Int) ∧ PY w W g7 g b e v v' ps) (fun _ i _ => len - (intOf i).toNat)
  case atStart => exact ⟨0, g, b, _, _, _, by omega, rfl, rfl, P6.out⟩
  case round =>
    obtain ⟨k, g, e, v, v', ps, hkl, rfl, rfl, hP⟩ := hrel
    have P := hide hP
    clear hP P6
    obtain ⟨fa, fc, rfl⟩ := P.out.f.slice
    by_cases hlt : k < len
    · have hlt' : (k : Int) < (len : Int) := by omega
      obtain ⟨ab, ao, ea, hra⟩ := HS.out.hcell k hlt
      subst ea
      have HAG := hide (HS.out.good k hlt)
      have hat := a_at ab ao len cap k (k : Int) rfl hlt
      have HAR := hide (show wr.rangeAt ab (ao + k * 36) (acts k).cells from by
        obtain ⟨b9, o9, e9, h9⟩ := (HS.out.below P.out.bel).hcell k hlt
        cases e9
        exact h9)
      clear hra
      generalize acts k = x at *
      have HXL := hide HAG.out.len
      go_wp2_with (first | (refine step_loadR wAc rfl rfl _ HAR.out HXL.out ?_) | (refine step_alloc zAc rfl ?_))
      intro w8 g10 hr8 hl8 hb8
      have G10 := hide hr8
      clear hr8
      go_wp2_with (refine step_storeA wAc rfl rfl rfl G10.out HXL.out (At5.one _) rfl ?_)
      intro w9 hg9 hbut9
      have P9 := hide (P.out.below (hb8.trans (hbut9.below hl8)))
      have GX := hide hg9
      clear hg9 hbut9 hb8 hl8 G10 P HAR hat
      have c33 : w9.cell? ⟨g10, 33, none⟩ = some (.bool x.ot) := by rw [GX.out.cell]; exact (At5.tail HAG.out).1
      obtain ⟨lv, hlv⟩ : ∃ lv, x.lv = lv := ⟨_, rfl⟩
      have c0 : w9.cell? ⟨g10, 0, none⟩ = some (.int .i64 lv) := by rw [GX.out.cell, ← hlv]; rfl
      have HLV := hide hlv
      clear hlv
      cases hot : x.ot with
      | false =>
        rw [hot] at c33
        have HDR := hide (At5.drow HAG.out GX.out)
        have HDU := hide (show (u8s x.d).length = 32 by rw [u8s_length, HAG.out.dl])
        go_wp2_with (first | (refine step_loadR wD rfl rfl _ HDR.out HDU.out ?_) | fail)
        refine (appN_any w.heap.size g b e lv v ps x.d _ P9.out.r P9.out.bel.size (HK.out.below P9.out.bel HK.out.lt) (Nat.lt_of_lt_of_le HK.out.lt P9.out.hg) HK.out.lt HAG.out.dl HAG.out.db).mono ?_
        rintro r wa ⟨e1, v1, ps1, rfl, hra, hch, hmv, hna, hya⟩
        have RA := hide hra
        have FA := hide (P9.out.f.chs P9.out.r hch)
        have C7A := hide (P9.out.c7.chs hch (P9.out.r.foot_ne P9.out.c7 (by decide) (by decide)))
        have GXA := hide (GX.out.chs hch (P9.out.r.foot_ne GX.out (by decide) (by decide)))
        have BA := hide (P9.out.chs_below hch)
        have hg0 := P9.out.hg
        have h70 := P9.out.h7
        have c0A : wa.cell? ⟨g10, 0, none⟩ = some (.int .i64 lv) := by rw [GXA.out.cell, ← HLV.out]; rfl
        obtain ⟨ae, hae⟩ : ∃ ae, apE e lv = ae := ⟨_, rfl⟩
        rw [hae] at hna hya ⊢
        have NA := hide hna
        have YA := hide hya
        have HAE := hide hae
        clear hra hch hmv hna hya P9 GX HDR c0 c33 hae
        have HFA := FA
        go_upto_region 11 with fail
        go_cut [80] from 46 to 176 (fun q W => (q = .bool true ∧ ae = 0 ∨ q = .bool false) ∧ wa = W)
        case first =>
          by_cases hl0 : lv = 0
          · have l0 : (lv == 0) = true := by simpa using hl0
            by_cases hk2 : k % 2 = 0
            · have l1 : (k : Int) % 2 = 0 := by omega
              by_cases hz : ae = 0
              · have l2 : (ae == 0) = true := by simpa using hz
                clear hl0 hk2
                have HZ := hide hz
                clear hz
                go_wp2_with fail
                go_meet
                case rel => exact ⟨.inl ⟨rfl, HZ.out⟩, rfl⟩
              · have l2 : (ae == 0) = false := by simpa using hz
                clear hl0 hk2 hz
                go_wp2_with fail
                go_meet
                case rel => exact ⟨.inr rfl, rfl⟩
            · have l1 : ¬ (k : Int) % 2 = 0 := by omega
              clear hl0 hk2
              go_wp2_with fail
              go_meet
              case rel => exact ⟨.inr rfl, rfl⟩
          · have l0 : (lv == 0) = false := by simpa using hl0
            clear hl0
            go_wp2_with fail
            go_meet
            case rel => exact ⟨.inr rfl, rfl⟩
        case rest =>
          obtain ⟨hq, hW⟩ := hcut
          have HQ := hide hq
          subst hW
          clear hq
          go_upto_if 80 with fail
          go_cut [5] from 46 to 176 (fun rp W => ∃ (gn : Nat) (vn : Value), rp = .pointer (some ⟨gn, 0, none⟩) ∧ w.heap.size ≤ gn ∧ Rg W w.heap.size gn b e1 vn ps1 ∧ Rf5 W w.heap.size b e (.slice fa ps.length fc) ps ∧ Blk W g7 29 (rfC b e (.slice fa ps.length fc)) ∧ Blk W g10 36 x.cells ∧ Below w.heap.size w W)
          case first =>
            rcases HQ.out with ⟨rfl, hz⟩ | rfl
            · clear hz HQ
              go_wp2_with fail
              refine (rclone_any _ _ _ _ _ _ _ RA.out).mono ?_
              rintro r wb ⟨gn, vn, rfl, hrb, hlb, hbb⟩
              have R9 := hide (hrb.base5 BA.out.size)
              have F9 := hide (FA.out.below hbb)
              have C9 := hide (C7A.out.below hbb C7A.out.lt)
              have G9 := hide (GXA.out.below hbb GXA.out.lt)
              have h9 := Nat.le_trans BA.out.size hlb
              have B9 := hide (BA.out.trans (hbb.mono BA.out.size))
              clear hrb hlb hbb
              go_wp2_with fail
              go_meet
              case rel => exact ⟨gn, vn, rfl, h9, R9.out, F9.out, C9.out, G9.out, B9.out⟩
            · go_wp2_with fail
              go_meet
              case rel => exact ⟨g, v1, rfl, hg0, RA.out, FA.out, C7A.out, GXA.out, BA.out⟩
          case rest =>
            clear HQ RA FA C7A GXA BA hg0 c0A
            obtain ⟨gn, vn, rfl, hg0, hR, hF, hC, hG, hB⟩ := hcut
            have RA := hide hR
            have FA := hide hF
            have C7A := hide hC
            have GXA := hide hG
            have BA := hide hB
            clear hR hF hC hG hB
            have c0A : wc.cell? ⟨g10, 0, none⟩ = some (.int .i64 lv) := by rw [GXA.out.cell, ← HLV.out]; rfl
            have HDA := hide (At5.drow HAG.out GXA.out)
            go_wp2_with (first | (refine step_loadA wRf rfl rfl C7A.out rfl ?_) | (refine step_loadR wD rfl rfl _ HDA.out HDU.out ?_) | fail)
            refine (refApp_any w.heap.size b e lv (.slice fa ps.length fc) ps x.d _ FA.out BA.out.size HAG.out.dl HAG.out.db).mono ?_
            rintro r wc ⟨hbc, e2, v2, ps2, rfl, hfc, hnc, hyc⟩
            rw [HAE.out] at hnc hyc ⊢
            obtain ⟨he12, hp12⟩ : e2 = e1 ∧ ps2 = ps1 := by
              by_cases h0 : ae = 0
              · obtain ⟨q1, q2⟩ := YA.out (by first | exact h0 | trivial)
                obtain ⟨q3, q4⟩ := hyc h0
                exact ⟨by rw [q1, q3], by rw [q2, q4]⟩
              · first
                | exact absurd rfl h0
                | (obtain ⟨q1, q2⟩ := NA.out h0
                   obtain ⟨q3, q4⟩ := hnc h0
                   exact ⟨by rw [q1, q3], by rw [q2, q4]⟩)
            subst he12 hp12
            have RC := hide (RA.out.below hbc)
            have FC := hide hfc
            obtain ⟨fa2, fc2, rfl⟩ := FC.out.slice
            have C7C := hide (C7A.out.below hbc C7A.out.lt)
            have BC := hide (BA.out.trans (hbc.mono BA.out.size))
            clear hbc hfc hnc hyc NA YA RA FA C7A GXA BA HDA c0A
            go_wp2_with (refine step_storeA wRf rfl rfl rfl C7C.out rfl (One.rfC _ _ _ _ _) rfl ?_)
            intro wd hgd hbutd
            have PD : Hid (PY w wd g7 gn b e2 vn (.slice fa2 ps2.length fc2) ps2) := hide ⟨RC.out.but C7C.out (by decide) (by decide) hbutd, hg0, FC.out.but hbutd (FC.out.own.apart C7C.out (by decide)), hgd, h70, BC.out.trans (hbutd.below h70)⟩
            clear hgd hbutd RC FC C7C BC
            go_wp2_with (first | (refine step_loadA wRf rfl rfl PD.out.c7 rfl ?_) | fail)
            refine (stands_any _ gn b e2 vn ps2 _ _ _ PD.out.r PD.out.f (HK.out.below PD.out.bel HK.out.lt)).mono ?_
            rintro r we ⟨rfl, hbe⟩
            have PE := hide (PD.out.below hbe)
            clear hbe PD
            go_wp2
            go_roundw
            case rel => exact ⟨k + 1, gn, e2, vn, _, ps2, by omega, rfl, by simp, PE.out⟩
            case measure => simp only [intOf]; omega
      | true =>
        rw [hot] at c33
        obtain ⟨off, hoff⟩ : ∃ off, x.off = off := ⟨_, rfl⟩
        have c35 : w9.cell? ⟨g10, 35, none⟩ = some (.int .i64 off) := by rw [GX.out.cell, ← hoff]; exact (At5.tail HAG.out).2.2
        have cE : w9.cell? ⟨g7, 1, none⟩ = some (.int .i64 (e : Int)) := by rw [P9.out.c7.cell]; rfl
        have hem := P9.out.r.max
        clear hoff
        go_upto_region 18 with fail
        go_cut [110] from 46 to 176 (fun q W => (q = .bool true ∧ 0 < off ∧ off < 9 ∨ q = .bool false) ∧ w9 = W)
        case first =>
          by_cases h1 : 0 < off
          · by_cases h2 : off < 9
            · have l1 : decide (0 < off) = true := by simpa using h1
              have l2 : decide (off < 9) = true := by simpa using h2
              have H12 := hide (And.intro h1 h2)
              go_wp2_with fail
              go_meet
              case rel => exact ⟨.inl ⟨by first | rfl | simp, H12.out⟩, rfl⟩
            · have l1 : decide (0 < off) = true := by simpa using h1
              have l2 : decide (off < 9) = false := by simpa using h2
              go_wp2_with fail
              go_meet
              case rel => exact ⟨.inr (by first | rfl | simp), rfl⟩
          · have l1 : decide (0 < off) = false := by simpa using h1
            go_wp2_with fail
            go_meet
            case rel => exact ⟨.inr (by first | rfl | simp), rfl⟩
        case rest =>
          obtain ⟨hq, hW⟩ := hcut
          have HQ := hide hq
          subst hW
          clear hq
          go_upto_if 110 with fail
          go_cut [13] from 46 to 176 (fun fr W => (∃ f : Nat, fr = .int .i64 (f : Int) ∧ f ≤ 281474976710656) ∧ w9 = W)
          case first =>
            rcases HQ.out with ⟨rfl, h1, h2⟩ | rfl
            · have HE := hide (show off = ((off.toNat : Nat) : Int) ∧ off.toNat ≤ 281474976710656 by omega)
              go_wp2_with fail
              go_meet
              case rel => exact ⟨⟨off.toNat, by rw [← HE.out.1], HE.out.2⟩, rfl⟩
            · go_wp2_with fail
              go_meet
              case rel => exact ⟨⟨e, rfl, hem⟩, rfl⟩
          case rest =>
            obtain ⟨⟨f, rfl, hf48⟩, hW⟩ := hcut
            subst hW
            clear HQ
            go_wp2_with fail
            refine (new_ok (f : Int) _ (by omega) (by omega)).mono ?_
            rintro r wa ⟨o, rfl, hgo, hlo, hba⟩
            have OA : Hid (Rg wa w9.heap.size o f f (.slice none 0 0) []) := hide (Rg.new5 hgo (by omega))
            have BA := hide hba
            clear hgo hba
            go_wp2_with fail
            refine (refNew_ok (f : Int) _ (by omega) (by omega)).mono ?_
            rintro r wb ⟨rfl, hbb⟩
            have OB := hide (OA.out.below hbb)
            have BB := hide (BA.out.trans (hbb.mono BA.out.size))
            clear hbb OA BA
            go_wp2_with (refine step_alloc zRf rfl ?_)
            intro wc g16 hrc hlc hbc
            go_wp2_with (refine step_storeA wRf rfl rfl rfl hrc rfl (One.rfC _ _ _ _ _) rfl ?_)
            intro wd hgd hbutd
            have YD := hide (hbc.trans (hbutd.below hlc))
            have Q : Hid (PY w9 wd g16 o f f (.slice none 0 0) (.slice none 0 0) []) := hide ⟨OB.out.below YD.out, hlo, Rf5.new _ _ f (by omega), hgd, Nat.le_trans BB.out.size hlc, BB.out.trans (YD.out.mono BB.out.size)⟩
            clear hrc hgd hbutd hbc hlc BB OB YD hlo
            go_wp2_with fail
            go_loopw [18] (fun i W => ∃ (j e2 : Nat) (u u' : Value) (qs : List Pt), j ≤ 20 ∧ i = .int .i64 (j : Int) ∧ PY w9 W g16 o f e2 u u' qs) (fun i _ => 20 - (intOf i).toNat)
            case atStart => exact ⟨0, _, _, _, _, by omega, rfl, Q.out⟩
            case round =>
              obtain ⟨j, e2, u, u', qs, hj, rfl, hQ⟩ := hrel
              have QJ := hide hQ
              clear hQ Q
              obtain ⟨ua, uc, rfl⟩ := QJ.out.f.slice
              have GJ := hide (GX.out.below QJ.out.bel GX.out.lt)
              obtain ⟨ct, hct⟩ : ∃ ct, x.ct = ct := ⟨_, rfl⟩
              have c34 : wr.cell? ⟨g10, 34, none⟩ = some (.int .i64 ct) := by rw [GJ.out.cell, ← hct]; exact (At5.tail HAG.out).2.1
              clear hct
              have HDJ := hide (At5.drow HAG.out GJ.out)
              have HDU := hide (show (u8s x.d).length = 32 by rw [u8s_length, HAG.out.dl])
              obtain ⟨m, hm⟩ : ∃ m, ct.tmod 20 = m := ⟨_, rfl⟩
              have hm20 : m < 20 := by rw [← hm]; exact Int.tmod_lt_of_pos _ (by decide)
              have hm21 : -20 < m := by rw [← hm]; have := Int.lt_tmod_of_pos ct (show (0 : Int) < 20 by decide); exact this
              by_cases hjm : (j : Int) < m
              · have hj32 : ((j : Int)).tmod 32 = (j : Int) := by rw [Int.tmod_eq_emod_of_nonneg (by omega)]; omega
                have hj8 : (j : Int) % 256 = (j : Int) := by omega
                go_wp2_with (first | (refine step_loadR wD rfl rfl _ HDJ.out HDU.out ?_) | (refine step_alloc zD rfl ?_))
                intro we g19 hre hle hbe
                go_wp2_with (refine step_storeA wD rfl rfl rfl hre HDU.out (One.u8 _) (by rw [u8s_length, zer_length]) ?_)
                intro wf hgf hbutf
                have c19 : wf.cell? ⟨g19, j, none⟩ = some (.int .u8 (x.d.getD j 0)) := by rw [hgf.cell]; exact u8s_get _ _ (by rw [HAG.out.dl]; omega)
                have hfree : wf.frozen? ⟨g19, j, none⟩ = false := hgf.free j
                have hidx := fun (V : World) => index_at (T := 34) (n := 32) (by kernel_rfl) (by kernel_rfl) (fun _ => by kernel_rfl) g19 j (j : Int) rfl (by omega) V
                have h9 := hgf.set j (.int .u8 (j : Int))
                rw [u8s_set] at h9
                have HSET := hide h9
                have YF := hide (hbe.trans ((hbutf.trans (But.setCell wf g19 j (.int .u8 (j : Int)))).below hle))
                have QF := hide (QJ.out.below YF.out)
                have HEL := hide (show (x.d.set j (j : Int)).length = 32 by rw [List.length_set]; exact HAG.out.dl)
                have HEU := hide (show (u8s (x.d.set j (j : Int))).length = 32 by rw [u8s_length, HEL.out])
                have HEB : Hid (isB (x.d.set j (j : Int))) := hide (fun y hy => by
                  rcases List.mem_or_eq_of_mem_set hy with hy | rfl
                  · exact HAG.out.db y hy
                  · constructor <;> omega)
                clear h9 hre hle hbe hbutf YF
                go_wp2_with (first | (refine step_loadA wD rfl rfl HSET.out HEU.out ?_) | fail)
                clear hgf c19 hfree hidx QJ GJ c34 HDJ
                refine (app_any w9.heap.size o f e2 u qs (x.d.set j (j : Int)) _ QF.out.r QF.out.bel.size (HK.out.below (P9.out.bel.trans (QF.out.bel.mono P9.out.bel.size)) HK.out.lt) (Nat.lt_of_lt_of_le (Nat.lt_of_lt_of_le HK.out.lt P9.out.bel.size) QF.out.hg) (Nat.lt_of_lt_of_le HK.out.lt P9.out.bel.size) HEL.out HEB.out).mono ?_
                rintro r wh ⟨e3, y3, qs3, rfl, hrh, hch, hmv, hnh, hyh⟩
                have RH := hide hrh
                have FH := hide (QF.out.f.chs QF.out.r hch)
                have C16 := hide (QF.out.c7.chs hch (QF.out.r.foot_ne QF.out.c7 (by decide) (by decide)))
                have G19H := hide (HSET.out.chs hch (QF.out.r.foot_ne HSET.out (by decide) (by decide)))
                have BH := hide (QF.out.chs_below hch)
                have NH := hide hnh
                have YH := hide hyh
                have hgo := QF.out.hg
                have h16 := QF.out.h7
                clear hrh hch hmv hnh hyh QF HSET
                go_wp2_with (first | (refine step_loadA wRf rfl rfl C16.out rfl ?_) | (refine step_loadA wD rfl rfl G19H.out HEU.out ?_) | fail)
                refine (refApp_any w9.heap.size f e2 0 (.slice ua qs.length uc) qs (x.d.set j (j : Int)) _ FH.out BH.out.size HEL.out HEB.out).mono ?_
                rintro r wi ⟨hbi, e4, y4, qs4, rfl, hfi, hni, hyi⟩
                obtain ⟨he34, hq34⟩ : e4 = e3 ∧ qs4 = qs3 := by
                  by_cases h0 : apE e2 0 = 0
                  · obtain ⟨q1, q2⟩ := YH.out h0
                    obtain ⟨q3, q4⟩ := hyi h0
                    simp at q3 q4
                    exact ⟨by rw [q1, q3], by rw [q2, q4]⟩
                  · obtain ⟨q1, q2⟩ := NH.out h0
                    obtain ⟨q3, q4⟩ := hni h0
                    exact ⟨by rw [q1, q3], by rw [q2, q4]⟩
                subst he34 hq34
                have RI := hide (RH.out.below hbi)
                have FI := hide hfi
                obtain ⟨ya, yc, rfl⟩ := FI.out.slice
                have CI := hide (C16.out.below hbi C16.out.lt)
                have BI := hide (BH.out.trans (hbi.mono BH.out.size))
                clear hbi hfi hni hyi NH YH RH FH C16 G19H BH
                obtain ⟨ae, hae⟩ : ∃ ae, apE e2 0 = ae := ⟨_, rfl⟩
                rw [hae]
                clear hae
                go_wp2_with (refine step_storeA wRf rfl rfl rfl CI.out rfl (One.rfC _ _ _ _ _) rfl ?_)
                intro wj hgj hbutj
                have QK : Hid (PY w9 wj g16 o f e4 y3 (.slice ya qs4.length yc) qs4) := hide ⟨RI.out.but CI.out (by decide) (by decide) hbutj, hgo, FI.out.but hbutj (FI.out.own.apart CI.out (by decide)), hgj, h16, BI.out.trans (hbutj.below h16)⟩
                clear hgj hbutj RI FI CI BI
                go_wp2
                go_roundw
                case rel => exact ⟨j + 1, e4, y3, _, qs4, by omega, by simp, QK.out⟩
                case measure => simp only [intOf]; omega
              · have PJ := hide (P9.out.below QJ.out.bel)
                have hg0 := P9.out.hg
                have h70 := P9.out.h7
                have hne : g16 ≠ g7 := by have := P9.out.c7.lt; have := QJ.out.h7; omega
                have hap : ∀ i, Foot o u i → ¬ Foot g v i := by
                  intro i hi hi'
                  have q1 : w9.heap.size ≤ i := by
                    rcases hi with rfl | hi
                    · exact QJ.out.hg
                    · exact (QJ.out.r.own.lt _ hi).1
                  have q2 : i < w9.heap.size := by
                    rcases hi' with rfl | hi'
                    · exact P9.out.r.blk.lt
                    · exact (P9.out.r.own.lt _ hi').2
                  omega
                have HAP := hide hap
                clear hap
                go_wp2_with fail
                by_cases hbo : f = e
                · obtain rfl := hbo
                  refine (rmerge_ok w.heap.size g b f v ps w9.heap.size o e2 u qs _ PJ.out.r QJ.out.r HAP.out PJ.out.bel.size (HK.out.below PJ.out.bel HK.out.lt) (Nat.lt_of_lt_of_le HK.out.lt hg0) HK.out.lt).mono ?_
                  rintro r wk ⟨v3, rfl, hrk, hchk, hmvk⟩
                  have RK := hide hrk
                  have FK := hide (PJ.out.f.chs PJ.out.r hchk)
                  have C7K := hide (PJ.out.c7.chs hchk (PJ.out.r.foot_ne PJ.out.c7 (by decide) (by decide)))
                  have BK := hide (PJ.out.chs_below hchk)
                  have RQK := hide (QJ.out.r.chs hchk HAP.out)
                  have FQK := hide (QJ.out.f.chs PJ.out.r hchk)
                  have CK := hide (QJ.out.c7.chs hchk (PJ.out.r.foot_ne QJ.out.c7 (by decide) (by decide)))
                  clear hrk hchk hmvk PJ QJ GJ c34 HDJ
                  go_wp2_with (first | (refine step_loadA wRf rfl rfl C7K.out rfl ?_) | (refine step_loadA wRf rfl rfl CK.out rfl ?_) | fail)
                  refine (refMerge_ok w.heap.size b f fa ps.length fc ps w9.heap.size e2 ua qs.length uc qs _ FK.out FQK.out BK.out.size).mono ?_
                  rintro r wl ⟨hbl, v4, rfl, hfl⟩
                  have FL := hide hfl
                  obtain ⟨la, lc, rfl⟩ := FL.out.slice
                  have RL := hide (RK.out.below hbl)
                  have C7L := hide (C7K.out.below hbl C7K.out.lt)
                  have BL := hide (BK.out.trans (hbl.mono BK.out.size))
                  have RQ := hide (RQK.out.below hbl)
                  have FQ := hide (FQK.out.below hbl)
                  have C16 := hide (CK.out.below hbl CK.out.lt)
                  clear hfl hbl RK FK C7K BK RQK FQK CK
                  go_wp2_with (refine step_storeA wRf rfl rfl rfl C7L.out rfl (One.rfC _ _ _ _ _) rfl ?_)
                  intro wm hgm hbutm
                  have PM : Hid (PY w wm g7 g b e2 v3 (.slice la ((qs.foldl putL ps)).length lc) (qs.foldl putL ps)) := hide ⟨RL.out.but C7L.out (by decide) (by decide) hbutm, hg0, FL.out.but hbutm (FL.out.own.apart C7L.out (by decide)), hgm, h70, BL.out.trans (hbutm.below h70)⟩
                  have RM := hide (RQ.out.but C7L.out (by decide) (by decide) hbutm)
                  have FM := hide (FQ.out.but hbutm (FQ.out.own.apart C7L.out (by decide)))
                  have CM := hide (C16.out.but hbutm hne)
                  clear hgm hbutm RL FL C7L BL RQ FQ C16
                  go_wp2_with (first | (refine step_loadA wRf rfl rfl PM.out.c7 rfl ?_) | fail)
                  refine (stands_any _ g b e2 v3 ((qs.foldl putL ps)) _ _ _ PM.out.r PM.out.f (HK.out.below PM.out.bel HK.out.lt)).mono ?_
                  rintro r wn ⟨rfl, hbn⟩
                  have PN := hide (PM.out.below hbn)
                  have RN := hide (RM.out.below hbn)
                  have FN := hide (FM.out.below hbn)
                  have CN := hide (CM.out.below hbn CM.out.lt)
                  clear hbn PM RM FM CM
                  go_wp2_with (first | (refine step_loadA wRf rfl rfl CN.out rfl ?_) | fail)
                  refine (stands_any _ o f e2 u qs _ _ _ RN.out FN.out (HK.out.below PN.out.bel HK.out.lt)).mono ?_
                  rintro r wp ⟨rfl, hbp⟩
                  have PP := hide (PN.out.below hbp)
                  clear hbp PN RN FN CN
                  go_wp2
                  go_roundw
                  case rel => exact ⟨k + 1, g, e2, v3, _, (qs.foldl putL ps), by omega, rfl, by simp, PP.out⟩
                  case measure => simp only [intOf]; omega
                · refine (rmerge_bad _ g b e v ps _ o f e2 u qs _ PJ.out.r QJ.out.r hbo).mono ?_
                  rintro r wk ⟨rfl, hbk⟩
                  have PK := hide (PJ.out.below hbk)
                  have QK := hide (QJ.out.below hbk)
                  clear hbk PJ QJ GJ c34 HDJ
                  go_wp2_with (first | (refine step_loadA wRf rfl rfl PK.out.c7 rfl ?_) | (refine step_loadA wRf rfl rfl QK.out.c7 rfl ?_) | fail)
                  refine (refMerge_bad b e fa ps.length fc f e2 ua qs.length uc _ hbo).mono ?_
                  rintro r wl ⟨rfl, hbl⟩
                  have RL := hide (PK.out.r.below hbl)
                  have FL := hide (PK.out.f.below hbl)
                  have C7L := hide (PK.out.c7.below hbl PK.out.c7.lt)
                  have BL := hide (PK.out.bel.trans (hbl.mono PK.out.bel.size))
                  have RQ := hide (QK.out.r.below hbl)
                  have FQ := hide (QK.out.f.below hbl)
                  have C16 := hide (QK.out.c7.below hbl QK.out.c7.lt)
                  clear hbl PK QK
                  go_wp2_with (refine step_storeA wRf rfl rfl rfl C7L.out rfl (One.rfC _ _ _ _ _) rfl ?_)
                  intro wm hgm hbutm
                  have PM : Hid (PY w wm g7 g b e v (.slice fa (ps).length fc) ps) := hide ⟨RL.out.but C7L.out (by decide) (by decide) hbutm, hg0, FL.out.but hbutm (FL.out.own.apart C7L.out (by decide)), hgm, h70, BL.out.trans (hbutm.below h70)⟩
                  have RM := hide (RQ.out.but C7L.out (by decide) (by decide) hbutm)
                  have FM := hide (FQ.out.but hbutm (FQ.out.own.apart C7L.out (by decide)))
                  have CM := hide (C16.out.but hbutm hne)
                  clear hgm hbutm RL FL C7L BL RQ FQ C16
                  go_wp2_with (first | (refine step_loadA wRf rfl rfl PM.out.c7 rfl ?_) | fail)
                  refine (stands_any _ g b e v (ps) _ _ _ PM.out.r PM.out.f (HK.out.below PM.out.bel HK.out.lt)).mono ?_
                  rintro r wn ⟨rfl, hbn⟩
                  have PN := hide (PM.out.below hbn)
                  have RN := hide (RM.out.below hbn)
                  have FN := hide (FM.out.below hbn)
                  have CN := hide (CM.out.below hbn CM.out.lt)
                  clear hbn PM RM FM CM
                  go_wp2_with (first | (refine step_loadA wRf rfl rfl CN.out rfl ?_) | fail)
                  refine (stands_any _ o f e2 u qs _ _ _ RN.out FN.out (HK.out.below PN.out.bel HK.out.lt)).mono ?_
                  rintro r wp ⟨rfl, hbp⟩
                  have PP := hide (PN.out.below hbp)
                  clear hbp PN RN FN CN
                  go_wp2
                  go_roundw
                  case rel => exact ⟨k + 1, g, e, v, _, ps, by omega, rfl, by simp, PP.out⟩
                  case measure => simp only [intOf]; omega
    · have hlt' : ¬ ((k : Int) < (len : Int)) := by omega
      have G7 := P.out.c7
      go_wp2_with (first | (refine step_loadA wRf rfl rfl P.out.c7 rfl ?_) | fail)
      refine (stands_any _ g b e v ps _ _ _ P.out.r P.out.f (HK.out.below P.out.bel HK.out.lt)).mono ?_
      rintro r wz ⟨rfl, hbz⟩
      go_wp2
      go_ret
      exact ⟨rfl, P.out.bel.trans (hbz.mono P.out.bel.size)⟩

theorem plays_law (bg : Int) (a : Option Addr) (len cap : Nat) (acts : Nat → At5) (w : World) (hw : (Lit.int .i64 bg).wf = true) (hs : Ats w a len cap acts) (hk : KT w) (ht : TT w) :
    Calls Tryd.prog 3 #[.int .i64 bg, .slice a len cap] w fun r w' => r = .returned (.bool true) ∧ Below w.heap.size w w' :=
  plays_walk bg a len cap acts w hs hk

end Go.Proofs.YtnjkjickclkmhaaDoor
